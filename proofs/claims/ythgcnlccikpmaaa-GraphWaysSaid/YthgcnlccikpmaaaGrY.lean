/- Exit. -/
import Derived.Test.YthgcnlccikpmaaaGrX
import Derived.Test.YthgcnlccikpmaaaGrOb
import Derived.Test.YthgcnlccikpmaaaGrW
import Derived.Test.YthgcnlccikpmaaaGrM
namespace Go.Proofs.Ythgcnlccikpmaaa
open Go Go.RowKit Go.Proofs.Mm
attribute [local go_sem] Oper.semAt_some
/-- The least address without a way to the exit, or none. -/
def ExS (c : Cd) (e : Ending) : Prop :=
  (∃ i : Nat, i < c.length ∧ e = .returned (.tuple #[.int .i64 i, .bool true]) ∧ ¬ Way (fun x => nxt c x) i c.length ∧ ∀ j, j < i → Way (fun x => nxt c x) j c.length) ∨
  (e = .returned (.tuple #[.int .i64 0, .bool false]) ∧ ∀ j, j < c.length → Way (fun x => nxt c x) j c.length)
theorem own_all {B : Nat} {W : World} {v : Value} {l : List Nat} (h : OwnI B W v l) : ReI (mC fun k => W.heap[k]?) v l := by
  obtain ⟨h1, ⟨rfl, h0⟩ | ⟨g, cap, cur, rfl, hb, hg, h4, h5, h6, h7⟩⟩ := h
  · exact ⟨none, 0, by rw [h0], by omega, by unfold maxLen; omega, .inl (List.eq_nil_of_length_eq_zero (by simpa [h0] using h1))⟩
  · refine ⟨_, cap, rfl, h4, h5, .inr ⟨g, 0, rfl, fun j u hu => ?_⟩⟩
    rw [Nat.zero_add]
    unfold mC
    simp only [hg]
    rw [← h7, List.getElem?_take] at hu
    split at hu
    · simpa using hu
    · cases hu
theorem prE_edg (c : Cd) (b : Nat) : prE (edgK c c.length) b = ahd c b := ahd_edg c b
theorem way_back {c : Cd} {i : Nat} : Way (fun b => ahd c b) c.length i ↔ Way (fun x => nxt c x) i c.length := by
  constructor
  · intro h
    refine h.back (pr := fun x => nxt c x) fun a b hb => ?_
    obtain ⟨h1, x, h2, h3⟩ := mem_ahd.1 hb
    have : x = a := by omega
    subst this
    exact h2
  · intro h
    refine h.back (pr := fun b => ahd c b) fun a b hb => ?_
    have ha : a < c.length := by
      by_cases e : a < c.length
      · exact e
      · have : nxt c (a : Int) = [] := nxt_none (by omega)
        rw [this] at hb; cases hb
    exact mem_ahd.2 ⟨ha, b, hb, rfl⟩
def notDef (o : Oper) : Bool := match o.op with | .defer _ => false | _ => true
theorem notDef_ne {o : Oper} (h : notDef o = true) : ∀ c, o.op ≠ .defer c := fun c e => by unfold notDef at h; rw [e] at h; cases h
/-- A region without defers goes in a round as elsewhere. -/
theorem wpAnyIn_inRound {F : Fence} {n : Nat} {P : Program} {ops : Array Oper} {Q : Exit → Act → World → Prop} {md : Region.Mode} (l : Nat) (hd : ops.all notDef = true) : ∀ (fuel : Nat) (listed : Array Bool) (a : Act) (w : World), wpAnyIn F n P md ops Q fuel listed a w → wpAnyIn (F.inRound l) n P md ops Q fuel listed a w
  | 0, _, _, _, h => h
  | fuel + 1, listed, a, w, h => ⟨h.1, fun i hi => by
      have h1 := wpOpIn_mono (fun a w => wpAnyIn_inRound l hd fuel (listed.setIfInBounds i true) a w) (h.2 i hi)
      unfold wpOpIn at h1 ⊢
      cases ho : ops[i]? with
      | none => rw [ho] at h1; exact h1
      | some o =>
        rw [ho] at h1
        simp only at h1 ⊢
        split
        · rename_i hw
          rw [if_pos hw] at h1
          have hn : notDef o = true := by
            rw [Array.all_eq_true] at hd
            obtain ⟨hlt, e⟩ := Array.getElem?_eq_some_iff.1 ho
            rw [← e]; exact hd i hlt
          unfold Oper.wpIn at h1 ⊢
          rw [Oper.semAt_eq _ _ _ (notDef_ne hn)] at h1 ⊢
          exact h1
        · rename_i hw
          rw [if_neg hw] at h1
          exact h1⟩
section
variable (lv : Int) (qp : Option Addr) (np cp : Nat) (qr : Option Addr) (nr cr : Nat) (lo stk : Int) (qc : Option Addr) (nc cc : Nat)
set_option maxRecDepth 100000 in
set_option maxHeartbeats 4000000 in
theorem exit_any {w : World} {code : Cd} (hI : InAt (wC w) qc code) (hn : code.length = nc) (hm : nc ≤ cc) (hm2 : cc ≤ maxLen) (hnc : nc ≤ 1000) :
    Calls Try.prog 17 #[fnV lv qp np cp qr nr cr lo stk qc nc cc] w fun e w' => ExS code e ∧ Below w.heap.size w w' := by
  have HI := Lib.hid hI
  clear hI
  have hE := fun W => edgesOf_any lv qp np cp qr nr cr lo stk qc nc cc W
  have hmk := fun W => mk_rows (nc + 1) (by omega) W
  rw [show ((nc + 1 : Nat) : Int) = (nc : Int) + 1 from by omega] at hmk
  refine (callsIn_wide (n := 3)).1 ?_
  refine callsIn_of_wp_marks Try.func17 rfl trivial ?_ rfl
  simp only [Try.ntmps17, List.size_toArray, List.length_cons, List.length_nil, Nat.reduceAdd, Nat.reduceSub, Array.replicate_succ, Array.replicate_zero, List.push_toArray, List.append_toArray, List.nil_append, List.cons_append]
  gi_wp2_with fail
  obtain ⟨W3, hW3⟩ : ∃ W3, ((w.alloc (.cells (fnC lv qp np cp qr nr cr lo stk qc nc cc) 27)).alloc (.cells (Array.replicate (nc + 1) (Value.slice none 0 0)) 31)).alloc (.cells #[.slice (some ⟨w.heap.size + 1, 0, none⟩) (nc + 1) (nc + 1)] 30) = W3 := ⟨_, rfl⟩
  have hB3 : Below w.heap.size w W3 := by rw [← hW3]; exact bl_al (bl_al (bl_al (Below.refl _ w) _) _) _
  have hsz3 : W3.heap.size = w.heap.size + 3 := by rw [← hW3]; simp
  have hX3 : Xr w (w.heap.size + 2) (w.heap.size + 1) (nc + 1) [] (List.replicate (nc + 1) (Value.slice none 0 0)) W3 := by
    refine ⟨by rw [← hW3]; exact InB.new' _ _ (by simp), by rw [← hW3, List.toArray_replicate]; exact heap_new _ _ (InB.new' _ _ (by simp)), by simp, fun b hb => ⟨.slice none 0 0, by simp [hb], World.ownsRow_nil _ _ _ _, ⟨none, 0, rfl⟩, fun k e => by cases e⟩, fun b b' v v' k h1 h2 h3 h4 => ?_, hB3⟩
    rw [List.getElem?_replicate] at h1
    split at h1
    · injection h1 with h1; subst h1; cases h3
    · cases h1
  rw [show w.heap.size + 1 + 1 = w.heap.size + 2 from rfl]
  try rw [hW3]
  clear hW3 hmk
  refine ⟨trivial, (callsIn_wide.2 (hE W3)).mono ?_⟩
  rintro e w4 ⟨rfl, rfl⟩
  have hI2 := inAt_le qc HI.out (bl_al hB3 (.cells (fnC lv qp np cp qr nr cr lo stk qc nc cc) 27))
  have hX4 : Xr w (w.heap.size + 2) (w.heap.size + 1) (nc + 1) [] (List.replicate (nc + 1) (Value.slice none 0 0)) (W3.alloc (.cells (fnC lv qp np cp qr nr cr lo stk qc nc cc) 27)) :=
    ⟨heap_new _ _ hX3.box, heap_new _ _ hX3.row, hX3.len, fun b hb => ⟨.slice none 0 0, by simp [hb], World.ownsRow_nil _ _ _ _, ⟨none, 0, rfl⟩, fun k e => by cases e⟩, hX3.ne, bl_al hX3.low _⟩
  have hED : Ed lv qp np cp qr nr cr lo stk qc nc cc (Sx (w.heap.size + 2) (w.heap.size + 1)) W3.heap.size code (W3.alloc (.cells (fnC lv qp np cp qr nr cr lo stk qc nc cc) 27)) := by
    have hno : ∀ k, Sx (w.heap.size + 2) (w.heap.size + 1) (W3.alloc (.cells (fnC lv qp np cp qr nr cr lo stk qc nc cc) 27)) k → k = w.heap.size + 2 ∨ k = w.heap.size + 1 := fun k e => by
      rcases hX4.sx e with e | e | ⟨b, v, h1, h2, h3, _⟩
      · exact .inl e
      · exact .inr e
      · have hv : v = .slice none 0 0 := by simpa [h1] using h2.symm
        rw [hv] at h3
        exact absurd h3 (by simp [Value.ownBlock])
    refine ⟨fun j v e => (InB.new W3 _ _).cell e, hI2, fun k e => ?_, fun e => ?_, fun i hi g o e1 e2 => ?_⟩
    · have := hno k e; simp; omega
    · have := hno _ e; omega
    · have := hno _ e2
      obtain ⟨g', o', e', h1, _⟩ := HI.out i hi
      rw [e1] at e'
      injection e' with e'
      injection e' with e' _ _
      have h2 : g' < w.heap.size := World.block_lt_of_cell? _ _ h1
      omega
  have hSq := edges_stopsB lv qp np cp qr nr cr lo stk qc nc cc (3 - 1) (sx_below (w.heap.size + 2) (w.heap.size + 1)) hED hn hm hm2 hnc
  have hel : (edgK code code.length).length ≤ 2000 := by have := edgK_len code code.length; omega
  have HEL := Lib.hid hel
  rw [hsz3] at hSq
  obtain ⟨W4, hW4⟩ : ∃ W4, W3.alloc (.cells (fnC lv qp np cp qr nr cr lo stk qc nc cc) 27) = W4 := ⟨_, rfl⟩
  have hsz4 : W4.heap.size = w.heap.size + 4 := by rw [← hW4]; simp; omega
  rw [hW4] at hSq hX4
  clear hE hI2 hED hel hB3 hX3
  gi_wp2_with fail
  try rw [hW4]
  clear hW4 hsz3
  have hS4 : w.heap.size ≤ W4.heap.size := by omega
  refine wpIn_rangeFunc_ownF rfl (by omega) (gf := 40) (lb := #[.pointer (some ⟨w.heap.size + 3, 0, none⟩)]) rfl trivial (enters_of Try.func40 (by kernel_rfl) rfl) hSq (fun h k => h.trans k) (fun W l o o' h1 h2 h3 _ => sx_put (n := W4.heap.size) (by omega) (by omega) W l o o' h1 h2 h3) (Below.refl _ _) (fun _ => rfl)
    (fun pre W => ∃ rows, Xr w (w.heap.size + 2) (w.heap.size + 1) (nc + 1) (pre.map Subtype.val) rows W)
    (fun _ _ _ => False)
    (fun s A B row hs hg hr => xr_own w _ _ _ _ hS4 (s.map Subtype.val) A B row hs hg hr)
    (fun _ _ _ _ _ hs _ _ => hs)
    ⟨_, hX4⟩
    (fun x => { tmps := #[fnV lv qp np cp qr nr cr lo stk qc nc cc, .pointer (some ⟨w.heap.size, 0, none⟩), .int .i64 0, .bool false, .int .i64 nc, .pointer (some ⟨w.heap.size + 2, 0, none⟩), .int .i64 (x.1.1 : Nat), .int .i64 (x.1.2 : Nat), undef, undef, .pointer (some ⟨w.heap.size, 5, none⟩), .slice qc nc cc, .int .i64 nc, .int .i64 nc, .int .i64 ((nc : Int) + 1), .slice (some ⟨w.heap.size + 1, 0, none⟩) (nc + 1) (nc + 1), .agg #[.int .u64 lv, .slice qp np cp, .slice qr nr cr, .int .i64 lo, .int .i64 stk, .slice qc nc cc], .func (.func 40) #[] #[.pointer (some ⟨w.heap.size + 3, 0, none⟩)], .int .i64 (x.1.1 : Nat), .int .i64 (x.1.2 : Nat), undef, undef, undef, undef, undef, undef, undef, undef, undef, undef, undef, undef, undef, undef, undef, undef, undef, undef, undef, undef], defers := [] }) ?assign ?body ?done ?stop
  case assign =>
    intro l x W K hK
    gi_wp2
    exact hK
  case body =>
    rintro l pre0 ⟨x, hxn⟩ W ⟨rows, hX⟩ hlt
    obtain ⟨pre, hpre⟩ : ∃ pre, pre0.map Subtype.val = pre := ⟨_, rfl⟩
    have hpl : pre.length < (edgK code code.length).length := by rw [← hpre, List.length_map]; exact hlt
    have hpre2 : (pre0 ++ [(⟨x, hxn⟩ : Eg nc)]).map Subtype.val = pre ++ [x] := by rw [List.map_append, hpre]; rfl
    rw [hpre] at hX
    have HPR := Lib.hid hpre2
    clear hpre hpre2 hlt
    dsimp only at hxn ⊢
    have hlen : (prE pre x.2).length + 1 ≤ 2001 := by have := gaN_len (x.2 : Int) pre; have := HEL.out; unfold prE; omega
    have hmo : Try.prog.follows .mixedOrders = true := by kernel_rfl
    · obtain ⟨q, c, hc1, hc2, hO⟩ := hX.at hxn
      have hbx := hX.box.cell
      have HX1 := Lib.hid hX
      have hl9 : (prE pre x.2 ++ [x.1]).length = (prE pre x.2).length + 1 := by simp
      have HX2 := Lib.hid (show Xr w (w.heap.size + 2) (w.heap.size + 1) (nc + 1) pre rows W.drew from ⟨hX.box, hX.row, hX.len, hX.own, hX.ne, ⟨hX.low.os, hX.low.tape, hX.low.output, hX.low.size, hX.low.block⟩⟩)
      have HO := Lib.hid (show OwnI w.heap.size W.drew _ _ from hO)
      have HRow := Lib.hid hc2
      have hWs := hX.low.size
      have hb1 : w.heap.size + 2 < W.heap.size := hX.box.lt
      have hb0 : w.heap.size + 1 < W.heap.size := by omega
      have hxi : (x.2 : Int) < (nc : Int) + 1 := by omega
      have HT9 := Lib.hid (show ∀ (w9 : World) row, (W.drew.alloc (.cells #[.int .i64 (x.1 : Nat)] 3)).grownBy w9 row → row = (Value.slice q (prE pre x.2).length c).ownBlock → w9.cell? ⟨w.heap.size + 2, 0, none⟩ = some (.slice (some ⟨w.heap.size + 1, 0, none⟩) (nc + 1) (nc + 1)) from fun w9 row hg e => by
        subst e
        exact (Boxed.kept (Boxed.alloc HX2.out.box _) hg (fun e => by
          obtain ⟨cur, h2⟩ := own_type hO e.symm
          rw [show W.heap[w.heap.size + 2]? = _ from hX.box] at h2
          simp at h2)).cell)
      have HT8 := Lib.hid (show ∀ (w9 : World) row, (W.drew.alloc (.cells #[.int .i64 (x.1 : Nat)] 3)).grownBy w9 row → row = (Value.slice q (prE pre x.2).length c).ownBlock → w9.cell? ⟨w.heap.size + 1, x.2, none⟩ = some (.slice q (prE pre x.2).length c) ∧ w9.frozen? ⟨w.heap.size + 1, x.2, none⟩ = false from fun w9 row hg e => by
        subst e
        have h9 : InB w9 (w.heap.size + 1) rows.toArray 31 := (hg.block _ (by rw [World.size_alloc]; show w.heap.size + 1 < W.heap.size + 1; omega) (fun e => own_neT hO hX.row (by decide) e.symm)).trans (heap_new _ _ HX2.out.row)
        exact ⟨h9.cell (by simpa using hc2), h9.free _⟩)
      clear hX hO
      gi_wp2
      refine wpIn_region_any (by assumption) ?_
      try (change wpAnyIn _ _ _ _ _ _ _ _ _ (World.drew _))
      refine wpAnyIn_inRound l (by kernel_rfl) _ _ _ _ ?_
      refine wpAnyIn_take (i := 1) (v := .int .i64 (x.2 : Nat)) rfl rfl (by kernel_rfl) (by kernel_rfl) (by kernel_rfl) (fun _ _ _ h => h) ⟨Or.inl ⟨by rfl, fun w => by go_simp⟩, fun _ => rfl⟩ ?_
      try simp only [Act.put, List.setIfInBounds_toArray, List.set_cons_zero, List.set_cons_succ, List.getElem_toArray, List.getElem_cons_zero, List.getElem_cons_succ]
      refine wpAnyIn_take (i := 3) (v := .int .i64 (x.2 : Nat)) rfl rfl (by kernel_rfl) (by kernel_rfl) (by kernel_rfl) (fun _ _ _ h => h) ⟨Or.inl ⟨by rfl, fun w => by go_simp⟩, fun _ => rfl⟩ ?_
      try simp only [Act.put, List.setIfInBounds_toArray, List.set_cons_zero, List.set_cons_succ, List.getElem_toArray, List.getElem_cons_zero, List.getElem_cons_succ]
      refine wpAnyIn_take (i := 6) (v := .int .i64 (x.1 : Nat)) rfl rfl (by kernel_rfl) (by kernel_rfl) (by kernel_rfl) (fun _ _ _ h => h) ⟨Or.inl ⟨by rfl, fun w => by go_simp⟩, fun _ => rfl⟩ ?_
      try simp only [Act.put, List.setIfInBounds_toArray, List.set_cons_zero, List.set_cons_succ, List.getElem_toArray, List.getElem_cons_zero, List.getElem_cons_succ]
      refine wpAnyIn_ready (rs := [0, 2, 7]) (by kernel_rfl) (by simp) ?_
      refine AllReadyIn.cons rfl (fun K hK => ?_) ?_
      · go_simp
        refine hK _ _ ?_
        clear hK K
        try simp only [Act.put, List.setIfInBounds_toArray, List.set_cons_zero, List.set_cons_succ, List.getElem_toArray, List.getElem_cons_zero, List.getElem_cons_succ]
        refine wpAnyIn_ready (rs := [2, 7]) (by kernel_rfl) (by simp) ?_
        refine AllReadyIn.cons rfl (fun K hK => ?_) ?_
        · go_simp
          refine hK _ _ ?_
          clear hK K
          try simp only [Act.put, List.setIfInBounds_toArray, List.set_cons_zero, List.set_cons_succ, List.getElem_toArray, List.getElem_cons_zero, List.getElem_cons_succ]
          refine wpAnyIn_take (i := 4) (v := .pointer (some ⟨w.heap.size + 1, x.2, none⟩)) rfl rfl (by kernel_rfl) (by kernel_rfl) (by kernel_rfl) (fun _ _ _ h => h) ⟨Or.inl ⟨by rfl, fun w => by go_simp⟩, fun _ => rfl⟩ ?_
          try simp only [Act.put, List.setIfInBounds_toArray, List.set_cons_zero, List.set_cons_succ, List.getElem_toArray, List.getElem_cons_zero, List.getElem_cons_succ]
          refine wpAnyIn_ready (rs := [5, 7]) (by kernel_rfl) (by simp) ?_
          refine AllReadyIn.cons rfl (fun K hK => ?_) ?_
          · go_simp
            refine hK _ _ ?_
            clear hK K
            try simp only [Act.put, List.setIfInBounds_toArray, List.set_cons_zero, List.set_cons_succ, List.getElem_toArray, List.getElem_cons_zero, List.getElem_cons_succ]
            refine wpAnyIn_ready (rs := [7]) (by kernel_rfl) (by simp) ?_
            refine AllReadyIn.cons rfl (fun K hK => ?_) ?_
            · go_simp
              refine hK _ _ ?_
              clear hK K
              try simp only [Act.put, List.setIfInBounds_toArray, List.set_cons_zero, List.set_cons_succ, List.getElem_toArray, List.getElem_cons_zero, List.getElem_cons_succ]
              refine wpAnyIn_ready (rs := [8]) (by kernel_rfl) (by simp) ?_
              refine AllReadyIn.cons rfl (fun K hK => ?_) ?_
              · refine step_mstIn (.tmp 25) (.tmp 27) rfl w.heap.size (.slice q (prE pre x.2).length c) (prE pre x.2) (by rfl) (World.ownsRow.alloc HO.out (.cells #[.int .i64 (x.1 : Nat)] 3)) ⟨_, 0, none⟩ 1 x.1 (by rfl) (news_one rfl rfl) (by omega) (by simp; omega) ?_
                intro v' w9 hO9 hg9 hat9
                obtain ⟨q9, c9, rfl⟩ := own_shape hO9
                rw [hl9] at hO9 hat9 ⊢
                have HF := Lib.hid (Xr.more (tmp := .cells #[.int .i64 (x.1 : Nat)] 3) HX1.out (by omega) hxn HRow.out hO9 ⟨hg9.os, hg9.tape, hg9.output, hg9.size, hg9.block⟩ (by simpa [World.drew] using hat9) (by omega))
                have t0 := HT9.out w9 _ hg9 rfl
                obtain ⟨u9, f9⟩ := HT8.out w9 _ hg9 rfl
                clear hO9 hg9 hat9
                refine hK _ _ ?_
                clear hK K
                try simp only [Act.put, List.setIfInBounds_toArray, List.set_cons_zero, List.set_cons_succ, List.getElem_toArray, List.getElem_cons_zero, List.getElem_cons_succ]
                refine wpAnyIn_take (i := 9) (v := .pointer (some ⟨w.heap.size + 1, x.2, none⟩)) rfl rfl (by kernel_rfl) (by kernel_rfl) (by kernel_rfl) (fun _ _ _ h => h) ⟨Or.inl ⟨by rfl, fun w => by go_simp⟩, fun _ => rfl⟩ ?_
                try simp only [Act.put, List.setIfInBounds_toArray, List.set_cons_zero, List.set_cons_succ, List.getElem_toArray, List.getElem_cons_zero, List.getElem_cons_succ]
                refine wpAnyIn_ready (rs := [10]) (by kernel_rfl) (by simp) ?_
                refine AllReadyIn.cons rfl (fun K hK => ?_) ?_
                · go_simp
                  refine hK _ _ ?_
                  clear hK K
                  try simp only [Act.put, List.setIfInBounds_toArray, List.set_cons_zero, List.set_cons_succ, List.getElem_toArray, List.getElem_cons_zero, List.getElem_cons_succ]
                  refine wpAnyIn_done (by kernel_rfl) ?_ _
                  gi_wp2
                  exact ⟨HF.out.1, HF.out.2.1, _, HPR.out ▸ HF.out.2.2⟩
                exact AllReadyIn.nil
              exact AllReadyIn.nil
            exact AllReadyIn.nil
          refine AllReadyIn.cons rfl (fun K hK => ?_) ?_
          · go_simp
            refine hK _ _ ?_
            clear hK K
            try simp only [Act.put, List.setIfInBounds_toArray, List.set_cons_zero, List.set_cons_succ, List.getElem_toArray, List.getElem_cons_zero, List.getElem_cons_succ]
            refine wpAnyIn_ready (rs := [5]) (by kernel_rfl) (by simp) ?_
            refine AllReadyIn.cons rfl (fun K hK => ?_) ?_
            · go_simp
              refine hK _ _ ?_
              clear hK K
              try simp only [Act.put, List.setIfInBounds_toArray, List.set_cons_zero, List.set_cons_succ, List.getElem_toArray, List.getElem_cons_zero, List.getElem_cons_succ]
              refine wpAnyIn_ready (rs := [8]) (by kernel_rfl) (by simp) ?_
              refine AllReadyIn.cons rfl (fun K hK => ?_) ?_
              · refine step_mstIn (.tmp 25) (.tmp 27) rfl w.heap.size (.slice q (prE pre x.2).length c) (prE pre x.2) (by rfl) (World.ownsRow.alloc HO.out (.cells #[.int .i64 (x.1 : Nat)] 3)) ⟨_, 0, none⟩ 1 x.1 (by rfl) (news_one rfl rfl) (by omega) (by simp; omega) ?_
                intro v' w9 hO9 hg9 hat9
                obtain ⟨q9, c9, rfl⟩ := own_shape hO9
                rw [hl9] at hO9 hat9 ⊢
                have HF := Lib.hid (Xr.more (tmp := .cells #[.int .i64 (x.1 : Nat)] 3) HX1.out (by omega) hxn HRow.out hO9 ⟨hg9.os, hg9.tape, hg9.output, hg9.size, hg9.block⟩ (by simpa [World.drew] using hat9) (by omega))
                have t0 := HT9.out w9 _ hg9 rfl
                obtain ⟨u9, f9⟩ := HT8.out w9 _ hg9 rfl
                clear hO9 hg9 hat9
                refine hK _ _ ?_
                clear hK K
                try simp only [Act.put, List.setIfInBounds_toArray, List.set_cons_zero, List.set_cons_succ, List.getElem_toArray, List.getElem_cons_zero, List.getElem_cons_succ]
                refine wpAnyIn_take (i := 9) (v := .pointer (some ⟨w.heap.size + 1, x.2, none⟩)) rfl rfl (by kernel_rfl) (by kernel_rfl) (by kernel_rfl) (fun _ _ _ h => h) ⟨Or.inl ⟨by rfl, fun w => by go_simp⟩, fun _ => rfl⟩ ?_
                try simp only [Act.put, List.setIfInBounds_toArray, List.set_cons_zero, List.set_cons_succ, List.getElem_toArray, List.getElem_cons_zero, List.getElem_cons_succ]
                refine wpAnyIn_ready (rs := [10]) (by kernel_rfl) (by simp) ?_
                refine AllReadyIn.cons rfl (fun K hK => ?_) ?_
                · go_simp
                  refine hK _ _ ?_
                  clear hK K
                  try simp only [Act.put, List.setIfInBounds_toArray, List.set_cons_zero, List.set_cons_succ, List.getElem_toArray, List.getElem_cons_zero, List.getElem_cons_succ]
                  refine wpAnyIn_done (by kernel_rfl) ?_ _
                  gi_wp2
                  exact ⟨HF.out.1, HF.out.2.1, _, HPR.out ▸ HF.out.2.2⟩
                exact AllReadyIn.nil
              exact AllReadyIn.nil
            exact AllReadyIn.nil
          exact AllReadyIn.nil
        refine AllReadyIn.cons rfl (fun K hK => ?_) ?_
        · go_simp
          refine hK _ _ ?_
          clear hK K
          try simp only [Act.put, List.setIfInBounds_toArray, List.set_cons_zero, List.set_cons_succ, List.getElem_toArray, List.getElem_cons_zero, List.getElem_cons_succ]
          refine wpAnyIn_ready (rs := [2]) (by kernel_rfl) (by simp) ?_
          refine AllReadyIn.cons rfl (fun K hK => ?_) ?_
          · go_simp
            refine hK _ _ ?_
            clear hK K
            try simp only [Act.put, List.setIfInBounds_toArray, List.set_cons_zero, List.set_cons_succ, List.getElem_toArray, List.getElem_cons_zero, List.getElem_cons_succ]
            refine wpAnyIn_take (i := 4) (v := .pointer (some ⟨w.heap.size + 1, x.2, none⟩)) rfl rfl (by kernel_rfl) (by kernel_rfl) (by kernel_rfl) (fun _ _ _ h => h) ⟨Or.inl ⟨by rfl, fun w => by go_simp⟩, fun _ => rfl⟩ ?_
            try simp only [Act.put, List.setIfInBounds_toArray, List.set_cons_zero, List.set_cons_succ, List.getElem_toArray, List.getElem_cons_zero, List.getElem_cons_succ]
            refine wpAnyIn_ready (rs := [5]) (by kernel_rfl) (by simp) ?_
            refine AllReadyIn.cons rfl (fun K hK => ?_) ?_
            · go_simp
              refine hK _ _ ?_
              clear hK K
              try simp only [Act.put, List.setIfInBounds_toArray, List.set_cons_zero, List.set_cons_succ, List.getElem_toArray, List.getElem_cons_zero, List.getElem_cons_succ]
              refine wpAnyIn_ready (rs := [8]) (by kernel_rfl) (by simp) ?_
              refine AllReadyIn.cons rfl (fun K hK => ?_) ?_
              · refine step_mstIn (.tmp 25) (.tmp 27) rfl w.heap.size (.slice q (prE pre x.2).length c) (prE pre x.2) (by rfl) (World.ownsRow.alloc HO.out (.cells #[.int .i64 (x.1 : Nat)] 3)) ⟨_, 0, none⟩ 1 x.1 (by rfl) (news_one rfl rfl) (by omega) (by simp; omega) ?_
                intro v' w9 hO9 hg9 hat9
                obtain ⟨q9, c9, rfl⟩ := own_shape hO9
                rw [hl9] at hO9 hat9 ⊢
                have HF := Lib.hid (Xr.more (tmp := .cells #[.int .i64 (x.1 : Nat)] 3) HX1.out (by omega) hxn HRow.out hO9 ⟨hg9.os, hg9.tape, hg9.output, hg9.size, hg9.block⟩ (by simpa [World.drew] using hat9) (by omega))
                have t0 := HT9.out w9 _ hg9 rfl
                obtain ⟨u9, f9⟩ := HT8.out w9 _ hg9 rfl
                clear hO9 hg9 hat9
                refine hK _ _ ?_
                clear hK K
                try simp only [Act.put, List.setIfInBounds_toArray, List.set_cons_zero, List.set_cons_succ, List.getElem_toArray, List.getElem_cons_zero, List.getElem_cons_succ]
                refine wpAnyIn_take (i := 9) (v := .pointer (some ⟨w.heap.size + 1, x.2, none⟩)) rfl rfl (by kernel_rfl) (by kernel_rfl) (by kernel_rfl) (fun _ _ _ h => h) ⟨Or.inl ⟨by rfl, fun w => by go_simp⟩, fun _ => rfl⟩ ?_
                try simp only [Act.put, List.setIfInBounds_toArray, List.set_cons_zero, List.set_cons_succ, List.getElem_toArray, List.getElem_cons_zero, List.getElem_cons_succ]
                refine wpAnyIn_ready (rs := [10]) (by kernel_rfl) (by simp) ?_
                refine AllReadyIn.cons rfl (fun K hK => ?_) ?_
                · go_simp
                  refine hK _ _ ?_
                  clear hK K
                  try simp only [Act.put, List.setIfInBounds_toArray, List.set_cons_zero, List.set_cons_succ, List.getElem_toArray, List.getElem_cons_zero, List.getElem_cons_succ]
                  refine wpAnyIn_done (by kernel_rfl) ?_ _
                  gi_wp2
                  exact ⟨HF.out.1, HF.out.2.1, _, HPR.out ▸ HF.out.2.2⟩
                exact AllReadyIn.nil
              exact AllReadyIn.nil
            exact AllReadyIn.nil
          exact AllReadyIn.nil
        exact AllReadyIn.nil
      refine AllReadyIn.cons rfl (fun K hK => ?_) ?_
      · go_simp
        refine hK _ _ ?_
        clear hK K
        try simp only [Act.put, List.setIfInBounds_toArray, List.set_cons_zero, List.set_cons_succ, List.getElem_toArray, List.getElem_cons_zero, List.getElem_cons_succ]
        refine wpAnyIn_take (i := 4) (v := .pointer (some ⟨w.heap.size + 1, x.2, none⟩)) rfl rfl (by kernel_rfl) (by kernel_rfl) (by kernel_rfl) (fun _ _ _ h => h) ⟨Or.inl ⟨by rfl, fun w => by go_simp⟩, fun _ => rfl⟩ ?_
        try simp only [Act.put, List.setIfInBounds_toArray, List.set_cons_zero, List.set_cons_succ, List.getElem_toArray, List.getElem_cons_zero, List.getElem_cons_succ]
        refine wpAnyIn_ready (rs := [0, 5, 7]) (by kernel_rfl) (by simp) ?_
        refine AllReadyIn.cons rfl (fun K hK => ?_) ?_
        · go_simp
          refine hK _ _ ?_
          clear hK K
          try simp only [Act.put, List.setIfInBounds_toArray, List.set_cons_zero, List.set_cons_succ, List.getElem_toArray, List.getElem_cons_zero, List.getElem_cons_succ]
          refine wpAnyIn_ready (rs := [5, 7]) (by kernel_rfl) (by simp) ?_
          refine AllReadyIn.cons rfl (fun K hK => ?_) ?_
          · go_simp
            refine hK _ _ ?_
            clear hK K
            try simp only [Act.put, List.setIfInBounds_toArray, List.set_cons_zero, List.set_cons_succ, List.getElem_toArray, List.getElem_cons_zero, List.getElem_cons_succ]
            refine wpAnyIn_ready (rs := [7]) (by kernel_rfl) (by simp) ?_
            refine AllReadyIn.cons rfl (fun K hK => ?_) ?_
            · go_simp
              refine hK _ _ ?_
              clear hK K
              try simp only [Act.put, List.setIfInBounds_toArray, List.set_cons_zero, List.set_cons_succ, List.getElem_toArray, List.getElem_cons_zero, List.getElem_cons_succ]
              refine wpAnyIn_ready (rs := [8]) (by kernel_rfl) (by simp) ?_
              refine AllReadyIn.cons rfl (fun K hK => ?_) ?_
              · refine step_mstIn (.tmp 25) (.tmp 27) rfl w.heap.size (.slice q (prE pre x.2).length c) (prE pre x.2) (by rfl) (World.ownsRow.alloc HO.out (.cells #[.int .i64 (x.1 : Nat)] 3)) ⟨_, 0, none⟩ 1 x.1 (by rfl) (news_one rfl rfl) (by omega) (by simp; omega) ?_
                intro v' w9 hO9 hg9 hat9
                obtain ⟨q9, c9, rfl⟩ := own_shape hO9
                rw [hl9] at hO9 hat9 ⊢
                have HF := Lib.hid (Xr.more (tmp := .cells #[.int .i64 (x.1 : Nat)] 3) HX1.out (by omega) hxn HRow.out hO9 ⟨hg9.os, hg9.tape, hg9.output, hg9.size, hg9.block⟩ (by simpa [World.drew] using hat9) (by omega))
                have t0 := HT9.out w9 _ hg9 rfl
                obtain ⟨u9, f9⟩ := HT8.out w9 _ hg9 rfl
                clear hO9 hg9 hat9
                refine hK _ _ ?_
                clear hK K
                try simp only [Act.put, List.setIfInBounds_toArray, List.set_cons_zero, List.set_cons_succ, List.getElem_toArray, List.getElem_cons_zero, List.getElem_cons_succ]
                refine wpAnyIn_take (i := 9) (v := .pointer (some ⟨w.heap.size + 1, x.2, none⟩)) rfl rfl (by kernel_rfl) (by kernel_rfl) (by kernel_rfl) (fun _ _ _ h => h) ⟨Or.inl ⟨by rfl, fun w => by go_simp⟩, fun _ => rfl⟩ ?_
                try simp only [Act.put, List.setIfInBounds_toArray, List.set_cons_zero, List.set_cons_succ, List.getElem_toArray, List.getElem_cons_zero, List.getElem_cons_succ]
                refine wpAnyIn_ready (rs := [10]) (by kernel_rfl) (by simp) ?_
                refine AllReadyIn.cons rfl (fun K hK => ?_) ?_
                · go_simp
                  refine hK _ _ ?_
                  clear hK K
                  try simp only [Act.put, List.setIfInBounds_toArray, List.set_cons_zero, List.set_cons_succ, List.getElem_toArray, List.getElem_cons_zero, List.getElem_cons_succ]
                  refine wpAnyIn_done (by kernel_rfl) ?_ _
                  gi_wp2
                  exact ⟨HF.out.1, HF.out.2.1, _, HPR.out ▸ HF.out.2.2⟩
                exact AllReadyIn.nil
              exact AllReadyIn.nil
            exact AllReadyIn.nil
          refine AllReadyIn.cons rfl (fun K hK => ?_) ?_
          · go_simp
            refine hK _ _ ?_
            clear hK K
            try simp only [Act.put, List.setIfInBounds_toArray, List.set_cons_zero, List.set_cons_succ, List.getElem_toArray, List.getElem_cons_zero, List.getElem_cons_succ]
            refine wpAnyIn_ready (rs := [5]) (by kernel_rfl) (by simp) ?_
            refine AllReadyIn.cons rfl (fun K hK => ?_) ?_
            · go_simp
              refine hK _ _ ?_
              clear hK K
              try simp only [Act.put, List.setIfInBounds_toArray, List.set_cons_zero, List.set_cons_succ, List.getElem_toArray, List.getElem_cons_zero, List.getElem_cons_succ]
              refine wpAnyIn_ready (rs := [8]) (by kernel_rfl) (by simp) ?_
              refine AllReadyIn.cons rfl (fun K hK => ?_) ?_
              · refine step_mstIn (.tmp 25) (.tmp 27) rfl w.heap.size (.slice q (prE pre x.2).length c) (prE pre x.2) (by rfl) (World.ownsRow.alloc HO.out (.cells #[.int .i64 (x.1 : Nat)] 3)) ⟨_, 0, none⟩ 1 x.1 (by rfl) (news_one rfl rfl) (by omega) (by simp; omega) ?_
                intro v' w9 hO9 hg9 hat9
                obtain ⟨q9, c9, rfl⟩ := own_shape hO9
                rw [hl9] at hO9 hat9 ⊢
                have HF := Lib.hid (Xr.more (tmp := .cells #[.int .i64 (x.1 : Nat)] 3) HX1.out (by omega) hxn HRow.out hO9 ⟨hg9.os, hg9.tape, hg9.output, hg9.size, hg9.block⟩ (by simpa [World.drew] using hat9) (by omega))
                have t0 := HT9.out w9 _ hg9 rfl
                obtain ⟨u9, f9⟩ := HT8.out w9 _ hg9 rfl
                clear hO9 hg9 hat9
                refine hK _ _ ?_
                clear hK K
                try simp only [Act.put, List.setIfInBounds_toArray, List.set_cons_zero, List.set_cons_succ, List.getElem_toArray, List.getElem_cons_zero, List.getElem_cons_succ]
                refine wpAnyIn_take (i := 9) (v := .pointer (some ⟨w.heap.size + 1, x.2, none⟩)) rfl rfl (by kernel_rfl) (by kernel_rfl) (by kernel_rfl) (fun _ _ _ h => h) ⟨Or.inl ⟨by rfl, fun w => by go_simp⟩, fun _ => rfl⟩ ?_
                try simp only [Act.put, List.setIfInBounds_toArray, List.set_cons_zero, List.set_cons_succ, List.getElem_toArray, List.getElem_cons_zero, List.getElem_cons_succ]
                refine wpAnyIn_ready (rs := [10]) (by kernel_rfl) (by simp) ?_
                refine AllReadyIn.cons rfl (fun K hK => ?_) ?_
                · go_simp
                  refine hK _ _ ?_
                  clear hK K
                  try simp only [Act.put, List.setIfInBounds_toArray, List.set_cons_zero, List.set_cons_succ, List.getElem_toArray, List.getElem_cons_zero, List.getElem_cons_succ]
                  refine wpAnyIn_done (by kernel_rfl) ?_ _
                  gi_wp2
                  exact ⟨HF.out.1, HF.out.2.1, _, HPR.out ▸ HF.out.2.2⟩
                exact AllReadyIn.nil
              exact AllReadyIn.nil
            exact AllReadyIn.nil
          exact AllReadyIn.nil
        refine AllReadyIn.cons rfl (fun K hK => ?_) ?_
        · go_simp
          refine hK _ _ ?_
          clear hK K
          try simp only [Act.put, List.setIfInBounds_toArray, List.set_cons_zero, List.set_cons_succ, List.getElem_toArray, List.getElem_cons_zero, List.getElem_cons_succ]
          refine wpAnyIn_ready (rs := [0, 7]) (by kernel_rfl) (by simp) ?_
          refine AllReadyIn.cons rfl (fun K hK => ?_) ?_
          · go_simp
            refine hK _ _ ?_
            clear hK K
            try simp only [Act.put, List.setIfInBounds_toArray, List.set_cons_zero, List.set_cons_succ, List.getElem_toArray, List.getElem_cons_zero, List.getElem_cons_succ]
            refine wpAnyIn_ready (rs := [7]) (by kernel_rfl) (by simp) ?_
            refine AllReadyIn.cons rfl (fun K hK => ?_) ?_
            · go_simp
              refine hK _ _ ?_
              clear hK K
              try simp only [Act.put, List.setIfInBounds_toArray, List.set_cons_zero, List.set_cons_succ, List.getElem_toArray, List.getElem_cons_zero, List.getElem_cons_succ]
              refine wpAnyIn_ready (rs := [8]) (by kernel_rfl) (by simp) ?_
              refine AllReadyIn.cons rfl (fun K hK => ?_) ?_
              · refine step_mstIn (.tmp 25) (.tmp 27) rfl w.heap.size (.slice q (prE pre x.2).length c) (prE pre x.2) (by rfl) (World.ownsRow.alloc HO.out (.cells #[.int .i64 (x.1 : Nat)] 3)) ⟨_, 0, none⟩ 1 x.1 (by rfl) (news_one rfl rfl) (by omega) (by simp; omega) ?_
                intro v' w9 hO9 hg9 hat9
                obtain ⟨q9, c9, rfl⟩ := own_shape hO9
                rw [hl9] at hO9 hat9 ⊢
                have HF := Lib.hid (Xr.more (tmp := .cells #[.int .i64 (x.1 : Nat)] 3) HX1.out (by omega) hxn HRow.out hO9 ⟨hg9.os, hg9.tape, hg9.output, hg9.size, hg9.block⟩ (by simpa [World.drew] using hat9) (by omega))
                have t0 := HT9.out w9 _ hg9 rfl
                obtain ⟨u9, f9⟩ := HT8.out w9 _ hg9 rfl
                clear hO9 hg9 hat9
                refine hK _ _ ?_
                clear hK K
                try simp only [Act.put, List.setIfInBounds_toArray, List.set_cons_zero, List.set_cons_succ, List.getElem_toArray, List.getElem_cons_zero, List.getElem_cons_succ]
                refine wpAnyIn_take (i := 9) (v := .pointer (some ⟨w.heap.size + 1, x.2, none⟩)) rfl rfl (by kernel_rfl) (by kernel_rfl) (by kernel_rfl) (fun _ _ _ h => h) ⟨Or.inl ⟨by rfl, fun w => by go_simp⟩, fun _ => rfl⟩ ?_
                try simp only [Act.put, List.setIfInBounds_toArray, List.set_cons_zero, List.set_cons_succ, List.getElem_toArray, List.getElem_cons_zero, List.getElem_cons_succ]
                refine wpAnyIn_ready (rs := [10]) (by kernel_rfl) (by simp) ?_
                refine AllReadyIn.cons rfl (fun K hK => ?_) ?_
                · go_simp
                  refine hK _ _ ?_
                  clear hK K
                  try simp only [Act.put, List.setIfInBounds_toArray, List.set_cons_zero, List.set_cons_succ, List.getElem_toArray, List.getElem_cons_zero, List.getElem_cons_succ]
                  refine wpAnyIn_done (by kernel_rfl) ?_ _
                  gi_wp2
                  exact ⟨HF.out.1, HF.out.2.1, _, HPR.out ▸ HF.out.2.2⟩
                exact AllReadyIn.nil
              exact AllReadyIn.nil
            exact AllReadyIn.nil
          refine AllReadyIn.cons rfl (fun K hK => ?_) ?_
          · go_simp
            refine hK _ _ ?_
            clear hK K
            try simp only [Act.put, List.setIfInBounds_toArray, List.set_cons_zero, List.set_cons_succ, List.getElem_toArray, List.getElem_cons_zero, List.getElem_cons_succ]
            refine wpAnyIn_ready (rs := [0, 8]) (by kernel_rfl) (by simp) ?_
            refine AllReadyIn.cons rfl (fun K hK => ?_) ?_
            · go_simp
              refine hK _ _ ?_
              clear hK K
              try simp only [Act.put, List.setIfInBounds_toArray, List.set_cons_zero, List.set_cons_succ, List.getElem_toArray, List.getElem_cons_zero, List.getElem_cons_succ]
              refine wpAnyIn_ready (rs := [8]) (by kernel_rfl) (by simp) ?_
              refine AllReadyIn.cons rfl (fun K hK => ?_) ?_
              · refine step_mstIn (.tmp 25) (.tmp 27) rfl w.heap.size (.slice q (prE pre x.2).length c) (prE pre x.2) (by rfl) (World.ownsRow.alloc HO.out (.cells #[.int .i64 (x.1 : Nat)] 3)) ⟨_, 0, none⟩ 1 x.1 (by rfl) (news_one rfl rfl) (by omega) (by simp; omega) ?_
                intro v' w9 hO9 hg9 hat9
                obtain ⟨q9, c9, rfl⟩ := own_shape hO9
                rw [hl9] at hO9 hat9 ⊢
                have HF := Lib.hid (Xr.more (tmp := .cells #[.int .i64 (x.1 : Nat)] 3) HX1.out (by omega) hxn HRow.out hO9 ⟨hg9.os, hg9.tape, hg9.output, hg9.size, hg9.block⟩ (by simpa [World.drew] using hat9) (by omega))
                have t0 := HT9.out w9 _ hg9 rfl
                obtain ⟨u9, f9⟩ := HT8.out w9 _ hg9 rfl
                clear hO9 hg9 hat9
                refine hK _ _ ?_
                clear hK K
                try simp only [Act.put, List.setIfInBounds_toArray, List.set_cons_zero, List.set_cons_succ, List.getElem_toArray, List.getElem_cons_zero, List.getElem_cons_succ]
                refine wpAnyIn_take (i := 9) (v := .pointer (some ⟨w.heap.size + 1, x.2, none⟩)) rfl rfl (by kernel_rfl) (by kernel_rfl) (by kernel_rfl) (fun _ _ _ h => h) ⟨Or.inl ⟨by rfl, fun w => by go_simp⟩, fun _ => rfl⟩ ?_
                try simp only [Act.put, List.setIfInBounds_toArray, List.set_cons_zero, List.set_cons_succ, List.getElem_toArray, List.getElem_cons_zero, List.getElem_cons_succ]
                refine wpAnyIn_ready (rs := [10]) (by kernel_rfl) (by simp) ?_
                refine AllReadyIn.cons rfl (fun K hK => ?_) ?_
                · go_simp
                  refine hK _ _ ?_
                  clear hK K
                  try simp only [Act.put, List.setIfInBounds_toArray, List.set_cons_zero, List.set_cons_succ, List.getElem_toArray, List.getElem_cons_zero, List.getElem_cons_succ]
                  refine wpAnyIn_done (by kernel_rfl) ?_ _
                  gi_wp2
                  exact ⟨HF.out.1, HF.out.2.1, _, HPR.out ▸ HF.out.2.2⟩
                exact AllReadyIn.nil
              exact AllReadyIn.nil
            refine AllReadyIn.cons rfl (fun K hK => ?_) ?_
            · refine step_mstIn (.tmp 25) (.tmp 27) rfl w.heap.size (.slice q (prE pre x.2).length c) (prE pre x.2) (by rfl) (World.ownsRow.alloc HO.out (.cells #[.int .i64 (x.1 : Nat)] 3)) ⟨_, 0, none⟩ 1 x.1 (by rfl) (news_one rfl rfl) (by omega) (by simp; omega) ?_
              intro v' w9 hO9 hg9 hat9
              obtain ⟨q9, c9, rfl⟩ := own_shape hO9
              rw [hl9] at hO9 hat9 ⊢
              have HF := Lib.hid (Xr.more (tmp := .cells #[.int .i64 (x.1 : Nat)] 3) HX1.out (by omega) hxn HRow.out hO9 ⟨hg9.os, hg9.tape, hg9.output, hg9.size, hg9.block⟩ (by simpa [World.drew] using hat9) (by omega))
              have t0 := HT9.out w9 _ hg9 rfl
              obtain ⟨u9, f9⟩ := HT8.out w9 _ hg9 rfl
              clear hO9 hg9 hat9
              refine hK _ _ ?_
              clear hK K
              try simp only [Act.put, List.setIfInBounds_toArray, List.set_cons_zero, List.set_cons_succ, List.getElem_toArray, List.getElem_cons_zero, List.getElem_cons_succ]
              refine wpAnyIn_ready (rs := [0]) (by kernel_rfl) (by simp) ?_
              refine AllReadyIn.cons rfl (fun K hK => ?_) ?_
              · go_simp
                refine hK _ _ ?_
                clear hK K
                try simp only [Act.put, List.setIfInBounds_toArray, List.set_cons_zero, List.set_cons_succ, List.getElem_toArray, List.getElem_cons_zero, List.getElem_cons_succ]
                refine wpAnyIn_take (i := 9) (v := .pointer (some ⟨w.heap.size + 1, x.2, none⟩)) rfl rfl (by kernel_rfl) (by kernel_rfl) (by kernel_rfl) (fun _ _ _ h => h) ⟨Or.inl ⟨by rfl, fun w => by go_simp⟩, fun _ => rfl⟩ ?_
                try simp only [Act.put, List.setIfInBounds_toArray, List.set_cons_zero, List.set_cons_succ, List.getElem_toArray, List.getElem_cons_zero, List.getElem_cons_succ]
                refine wpAnyIn_ready (rs := [10]) (by kernel_rfl) (by simp) ?_
                refine AllReadyIn.cons rfl (fun K hK => ?_) ?_
                · go_simp
                  refine hK _ _ ?_
                  clear hK K
                  try simp only [Act.put, List.setIfInBounds_toArray, List.set_cons_zero, List.set_cons_succ, List.getElem_toArray, List.getElem_cons_zero, List.getElem_cons_succ]
                  refine wpAnyIn_done (by kernel_rfl) ?_ _
                  gi_wp2
                  exact ⟨HF.out.1, HF.out.2.1, _, HPR.out ▸ HF.out.2.2⟩
                exact AllReadyIn.nil
              exact AllReadyIn.nil
            exact AllReadyIn.nil
          exact AllReadyIn.nil
        refine AllReadyIn.cons rfl (fun K hK => ?_) ?_
        · go_simp
          refine hK _ _ ?_
          clear hK K
          try simp only [Act.put, List.setIfInBounds_toArray, List.set_cons_zero, List.set_cons_succ, List.getElem_toArray, List.getElem_cons_zero, List.getElem_cons_succ]
          refine wpAnyIn_ready (rs := [0, 5]) (by kernel_rfl) (by simp) ?_
          refine AllReadyIn.cons rfl (fun K hK => ?_) ?_
          · go_simp
            refine hK _ _ ?_
            clear hK K
            try simp only [Act.put, List.setIfInBounds_toArray, List.set_cons_zero, List.set_cons_succ, List.getElem_toArray, List.getElem_cons_zero, List.getElem_cons_succ]
            refine wpAnyIn_ready (rs := [5]) (by kernel_rfl) (by simp) ?_
            refine AllReadyIn.cons rfl (fun K hK => ?_) ?_
            · go_simp
              refine hK _ _ ?_
              clear hK K
              try simp only [Act.put, List.setIfInBounds_toArray, List.set_cons_zero, List.set_cons_succ, List.getElem_toArray, List.getElem_cons_zero, List.getElem_cons_succ]
              refine wpAnyIn_ready (rs := [8]) (by kernel_rfl) (by simp) ?_
              refine AllReadyIn.cons rfl (fun K hK => ?_) ?_
              · refine step_mstIn (.tmp 25) (.tmp 27) rfl w.heap.size (.slice q (prE pre x.2).length c) (prE pre x.2) (by rfl) (World.ownsRow.alloc HO.out (.cells #[.int .i64 (x.1 : Nat)] 3)) ⟨_, 0, none⟩ 1 x.1 (by rfl) (news_one rfl rfl) (by omega) (by simp; omega) ?_
                intro v' w9 hO9 hg9 hat9
                obtain ⟨q9, c9, rfl⟩ := own_shape hO9
                rw [hl9] at hO9 hat9 ⊢
                have HF := Lib.hid (Xr.more (tmp := .cells #[.int .i64 (x.1 : Nat)] 3) HX1.out (by omega) hxn HRow.out hO9 ⟨hg9.os, hg9.tape, hg9.output, hg9.size, hg9.block⟩ (by simpa [World.drew] using hat9) (by omega))
                have t0 := HT9.out w9 _ hg9 rfl
                obtain ⟨u9, f9⟩ := HT8.out w9 _ hg9 rfl
                clear hO9 hg9 hat9
                refine hK _ _ ?_
                clear hK K
                try simp only [Act.put, List.setIfInBounds_toArray, List.set_cons_zero, List.set_cons_succ, List.getElem_toArray, List.getElem_cons_zero, List.getElem_cons_succ]
                refine wpAnyIn_take (i := 9) (v := .pointer (some ⟨w.heap.size + 1, x.2, none⟩)) rfl rfl (by kernel_rfl) (by kernel_rfl) (by kernel_rfl) (fun _ _ _ h => h) ⟨Or.inl ⟨by rfl, fun w => by go_simp⟩, fun _ => rfl⟩ ?_
                try simp only [Act.put, List.setIfInBounds_toArray, List.set_cons_zero, List.set_cons_succ, List.getElem_toArray, List.getElem_cons_zero, List.getElem_cons_succ]
                refine wpAnyIn_ready (rs := [10]) (by kernel_rfl) (by simp) ?_
                refine AllReadyIn.cons rfl (fun K hK => ?_) ?_
                · go_simp
                  refine hK _ _ ?_
                  clear hK K
                  try simp only [Act.put, List.setIfInBounds_toArray, List.set_cons_zero, List.set_cons_succ, List.getElem_toArray, List.getElem_cons_zero, List.getElem_cons_succ]
                  refine wpAnyIn_done (by kernel_rfl) ?_ _
                  gi_wp2
                  exact ⟨HF.out.1, HF.out.2.1, _, HPR.out ▸ HF.out.2.2⟩
                exact AllReadyIn.nil
              exact AllReadyIn.nil
            exact AllReadyIn.nil
          refine AllReadyIn.cons rfl (fun K hK => ?_) ?_
          · go_simp
            refine hK _ _ ?_
            clear hK K
            try simp only [Act.put, List.setIfInBounds_toArray, List.set_cons_zero, List.set_cons_succ, List.getElem_toArray, List.getElem_cons_zero, List.getElem_cons_succ]
            refine wpAnyIn_ready (rs := [0, 8]) (by kernel_rfl) (by simp) ?_
            refine AllReadyIn.cons rfl (fun K hK => ?_) ?_
            · go_simp
              refine hK _ _ ?_
              clear hK K
              try simp only [Act.put, List.setIfInBounds_toArray, List.set_cons_zero, List.set_cons_succ, List.getElem_toArray, List.getElem_cons_zero, List.getElem_cons_succ]
              refine wpAnyIn_ready (rs := [8]) (by kernel_rfl) (by simp) ?_
              refine AllReadyIn.cons rfl (fun K hK => ?_) ?_
              · refine step_mstIn (.tmp 25) (.tmp 27) rfl w.heap.size (.slice q (prE pre x.2).length c) (prE pre x.2) (by rfl) (World.ownsRow.alloc HO.out (.cells #[.int .i64 (x.1 : Nat)] 3)) ⟨_, 0, none⟩ 1 x.1 (by rfl) (news_one rfl rfl) (by omega) (by simp; omega) ?_
                intro v' w9 hO9 hg9 hat9
                obtain ⟨q9, c9, rfl⟩ := own_shape hO9
                rw [hl9] at hO9 hat9 ⊢
                have HF := Lib.hid (Xr.more (tmp := .cells #[.int .i64 (x.1 : Nat)] 3) HX1.out (by omega) hxn HRow.out hO9 ⟨hg9.os, hg9.tape, hg9.output, hg9.size, hg9.block⟩ (by simpa [World.drew] using hat9) (by omega))
                have t0 := HT9.out w9 _ hg9 rfl
                obtain ⟨u9, f9⟩ := HT8.out w9 _ hg9 rfl
                clear hO9 hg9 hat9
                refine hK _ _ ?_
                clear hK K
                try simp only [Act.put, List.setIfInBounds_toArray, List.set_cons_zero, List.set_cons_succ, List.getElem_toArray, List.getElem_cons_zero, List.getElem_cons_succ]
                refine wpAnyIn_take (i := 9) (v := .pointer (some ⟨w.heap.size + 1, x.2, none⟩)) rfl rfl (by kernel_rfl) (by kernel_rfl) (by kernel_rfl) (fun _ _ _ h => h) ⟨Or.inl ⟨by rfl, fun w => by go_simp⟩, fun _ => rfl⟩ ?_
                try simp only [Act.put, List.setIfInBounds_toArray, List.set_cons_zero, List.set_cons_succ, List.getElem_toArray, List.getElem_cons_zero, List.getElem_cons_succ]
                refine wpAnyIn_ready (rs := [10]) (by kernel_rfl) (by simp) ?_
                refine AllReadyIn.cons rfl (fun K hK => ?_) ?_
                · go_simp
                  refine hK _ _ ?_
                  clear hK K
                  try simp only [Act.put, List.setIfInBounds_toArray, List.set_cons_zero, List.set_cons_succ, List.getElem_toArray, List.getElem_cons_zero, List.getElem_cons_succ]
                  refine wpAnyIn_done (by kernel_rfl) ?_ _
                  gi_wp2
                  exact ⟨HF.out.1, HF.out.2.1, _, HPR.out ▸ HF.out.2.2⟩
                exact AllReadyIn.nil
              exact AllReadyIn.nil
            refine AllReadyIn.cons rfl (fun K hK => ?_) ?_
            · refine step_mstIn (.tmp 25) (.tmp 27) rfl w.heap.size (.slice q (prE pre x.2).length c) (prE pre x.2) (by rfl) (World.ownsRow.alloc HO.out (.cells #[.int .i64 (x.1 : Nat)] 3)) ⟨_, 0, none⟩ 1 x.1 (by rfl) (news_one rfl rfl) (by omega) (by simp; omega) ?_
              intro v' w9 hO9 hg9 hat9
              obtain ⟨q9, c9, rfl⟩ := own_shape hO9
              rw [hl9] at hO9 hat9 ⊢
              have HF := Lib.hid (Xr.more (tmp := .cells #[.int .i64 (x.1 : Nat)] 3) HX1.out (by omega) hxn HRow.out hO9 ⟨hg9.os, hg9.tape, hg9.output, hg9.size, hg9.block⟩ (by simpa [World.drew] using hat9) (by omega))
              have t0 := HT9.out w9 _ hg9 rfl
              obtain ⟨u9, f9⟩ := HT8.out w9 _ hg9 rfl
              clear hO9 hg9 hat9
              refine hK _ _ ?_
              clear hK K
              try simp only [Act.put, List.setIfInBounds_toArray, List.set_cons_zero, List.set_cons_succ, List.getElem_toArray, List.getElem_cons_zero, List.getElem_cons_succ]
              refine wpAnyIn_ready (rs := [0]) (by kernel_rfl) (by simp) ?_
              refine AllReadyIn.cons rfl (fun K hK => ?_) ?_
              · go_simp
                refine hK _ _ ?_
                clear hK K
                try simp only [Act.put, List.setIfInBounds_toArray, List.set_cons_zero, List.set_cons_succ, List.getElem_toArray, List.getElem_cons_zero, List.getElem_cons_succ]
                refine wpAnyIn_take (i := 9) (v := .pointer (some ⟨w.heap.size + 1, x.2, none⟩)) rfl rfl (by kernel_rfl) (by kernel_rfl) (by kernel_rfl) (fun _ _ _ h => h) ⟨Or.inl ⟨by rfl, fun w => by go_simp⟩, fun _ => rfl⟩ ?_
                try simp only [Act.put, List.setIfInBounds_toArray, List.set_cons_zero, List.set_cons_succ, List.getElem_toArray, List.getElem_cons_zero, List.getElem_cons_succ]
                refine wpAnyIn_ready (rs := [10]) (by kernel_rfl) (by simp) ?_
                refine AllReadyIn.cons rfl (fun K hK => ?_) ?_
                · go_simp
                  refine hK _ _ ?_
                  clear hK K
                  try simp only [Act.put, List.setIfInBounds_toArray, List.set_cons_zero, List.set_cons_succ, List.getElem_toArray, List.getElem_cons_zero, List.getElem_cons_succ]
                  refine wpAnyIn_done (by kernel_rfl) ?_ _
                  gi_wp2
                  exact ⟨HF.out.1, HF.out.2.1, _, HPR.out ▸ HF.out.2.2⟩
                exact AllReadyIn.nil
              exact AllReadyIn.nil
            exact AllReadyIn.nil
          exact AllReadyIn.nil
        exact AllReadyIn.nil
      refine AllReadyIn.cons rfl (fun K hK => ?_) ?_
      · go_simp
        refine hK _ _ ?_
        clear hK K
        try simp only [Act.put, List.setIfInBounds_toArray, List.set_cons_zero, List.set_cons_succ, List.getElem_toArray, List.getElem_cons_zero, List.getElem_cons_succ]
        refine wpAnyIn_ready (rs := [0, 2]) (by kernel_rfl) (by simp) ?_
        refine AllReadyIn.cons rfl (fun K hK => ?_) ?_
        · go_simp
          refine hK _ _ ?_
          clear hK K
          try simp only [Act.put, List.setIfInBounds_toArray, List.set_cons_zero, List.set_cons_succ, List.getElem_toArray, List.getElem_cons_zero, List.getElem_cons_succ]
          refine wpAnyIn_ready (rs := [2]) (by kernel_rfl) (by simp) ?_
          refine AllReadyIn.cons rfl (fun K hK => ?_) ?_
          · go_simp
            refine hK _ _ ?_
            clear hK K
            try simp only [Act.put, List.setIfInBounds_toArray, List.set_cons_zero, List.set_cons_succ, List.getElem_toArray, List.getElem_cons_zero, List.getElem_cons_succ]
            refine wpAnyIn_take (i := 4) (v := .pointer (some ⟨w.heap.size + 1, x.2, none⟩)) rfl rfl (by kernel_rfl) (by kernel_rfl) (by kernel_rfl) (fun _ _ _ h => h) ⟨Or.inl ⟨by rfl, fun w => by go_simp⟩, fun _ => rfl⟩ ?_
            try simp only [Act.put, List.setIfInBounds_toArray, List.set_cons_zero, List.set_cons_succ, List.getElem_toArray, List.getElem_cons_zero, List.getElem_cons_succ]
            refine wpAnyIn_ready (rs := [5]) (by kernel_rfl) (by simp) ?_
            refine AllReadyIn.cons rfl (fun K hK => ?_) ?_
            · go_simp
              refine hK _ _ ?_
              clear hK K
              try simp only [Act.put, List.setIfInBounds_toArray, List.set_cons_zero, List.set_cons_succ, List.getElem_toArray, List.getElem_cons_zero, List.getElem_cons_succ]
              refine wpAnyIn_ready (rs := [8]) (by kernel_rfl) (by simp) ?_
              refine AllReadyIn.cons rfl (fun K hK => ?_) ?_
              · refine step_mstIn (.tmp 25) (.tmp 27) rfl w.heap.size (.slice q (prE pre x.2).length c) (prE pre x.2) (by rfl) (World.ownsRow.alloc HO.out (.cells #[.int .i64 (x.1 : Nat)] 3)) ⟨_, 0, none⟩ 1 x.1 (by rfl) (news_one rfl rfl) (by omega) (by simp; omega) ?_
                intro v' w9 hO9 hg9 hat9
                obtain ⟨q9, c9, rfl⟩ := own_shape hO9
                rw [hl9] at hO9 hat9 ⊢
                have HF := Lib.hid (Xr.more (tmp := .cells #[.int .i64 (x.1 : Nat)] 3) HX1.out (by omega) hxn HRow.out hO9 ⟨hg9.os, hg9.tape, hg9.output, hg9.size, hg9.block⟩ (by simpa [World.drew] using hat9) (by omega))
                have t0 := HT9.out w9 _ hg9 rfl
                obtain ⟨u9, f9⟩ := HT8.out w9 _ hg9 rfl
                clear hO9 hg9 hat9
                refine hK _ _ ?_
                clear hK K
                try simp only [Act.put, List.setIfInBounds_toArray, List.set_cons_zero, List.set_cons_succ, List.getElem_toArray, List.getElem_cons_zero, List.getElem_cons_succ]
                refine wpAnyIn_take (i := 9) (v := .pointer (some ⟨w.heap.size + 1, x.2, none⟩)) rfl rfl (by kernel_rfl) (by kernel_rfl) (by kernel_rfl) (fun _ _ _ h => h) ⟨Or.inl ⟨by rfl, fun w => by go_simp⟩, fun _ => rfl⟩ ?_
                try simp only [Act.put, List.setIfInBounds_toArray, List.set_cons_zero, List.set_cons_succ, List.getElem_toArray, List.getElem_cons_zero, List.getElem_cons_succ]
                refine wpAnyIn_ready (rs := [10]) (by kernel_rfl) (by simp) ?_
                refine AllReadyIn.cons rfl (fun K hK => ?_) ?_
                · go_simp
                  refine hK _ _ ?_
                  clear hK K
                  try simp only [Act.put, List.setIfInBounds_toArray, List.set_cons_zero, List.set_cons_succ, List.getElem_toArray, List.getElem_cons_zero, List.getElem_cons_succ]
                  refine wpAnyIn_done (by kernel_rfl) ?_ _
                  gi_wp2
                  exact ⟨HF.out.1, HF.out.2.1, _, HPR.out ▸ HF.out.2.2⟩
                exact AllReadyIn.nil
              exact AllReadyIn.nil
            exact AllReadyIn.nil
          exact AllReadyIn.nil
        refine AllReadyIn.cons rfl (fun K hK => ?_) ?_
        · go_simp
          refine hK _ _ ?_
          clear hK K
          try simp only [Act.put, List.setIfInBounds_toArray, List.set_cons_zero, List.set_cons_succ, List.getElem_toArray, List.getElem_cons_zero, List.getElem_cons_succ]
          refine wpAnyIn_take (i := 4) (v := .pointer (some ⟨w.heap.size + 1, x.2, none⟩)) rfl rfl (by kernel_rfl) (by kernel_rfl) (by kernel_rfl) (fun _ _ _ h => h) ⟨Or.inl ⟨by rfl, fun w => by go_simp⟩, fun _ => rfl⟩ ?_
          try simp only [Act.put, List.setIfInBounds_toArray, List.set_cons_zero, List.set_cons_succ, List.getElem_toArray, List.getElem_cons_zero, List.getElem_cons_succ]
          refine wpAnyIn_ready (rs := [0, 5]) (by kernel_rfl) (by simp) ?_
          refine AllReadyIn.cons rfl (fun K hK => ?_) ?_
          · go_simp
            refine hK _ _ ?_
            clear hK K
            try simp only [Act.put, List.setIfInBounds_toArray, List.set_cons_zero, List.set_cons_succ, List.getElem_toArray, List.getElem_cons_zero, List.getElem_cons_succ]
            refine wpAnyIn_ready (rs := [5]) (by kernel_rfl) (by simp) ?_
            refine AllReadyIn.cons rfl (fun K hK => ?_) ?_
            · go_simp
              refine hK _ _ ?_
              clear hK K
              try simp only [Act.put, List.setIfInBounds_toArray, List.set_cons_zero, List.set_cons_succ, List.getElem_toArray, List.getElem_cons_zero, List.getElem_cons_succ]
              refine wpAnyIn_ready (rs := [8]) (by kernel_rfl) (by simp) ?_
              refine AllReadyIn.cons rfl (fun K hK => ?_) ?_
              · refine step_mstIn (.tmp 25) (.tmp 27) rfl w.heap.size (.slice q (prE pre x.2).length c) (prE pre x.2) (by rfl) (World.ownsRow.alloc HO.out (.cells #[.int .i64 (x.1 : Nat)] 3)) ⟨_, 0, none⟩ 1 x.1 (by rfl) (news_one rfl rfl) (by omega) (by simp; omega) ?_
                intro v' w9 hO9 hg9 hat9
                obtain ⟨q9, c9, rfl⟩ := own_shape hO9
                rw [hl9] at hO9 hat9 ⊢
                have HF := Lib.hid (Xr.more (tmp := .cells #[.int .i64 (x.1 : Nat)] 3) HX1.out (by omega) hxn HRow.out hO9 ⟨hg9.os, hg9.tape, hg9.output, hg9.size, hg9.block⟩ (by simpa [World.drew] using hat9) (by omega))
                have t0 := HT9.out w9 _ hg9 rfl
                obtain ⟨u9, f9⟩ := HT8.out w9 _ hg9 rfl
                clear hO9 hg9 hat9
                refine hK _ _ ?_
                clear hK K
                try simp only [Act.put, List.setIfInBounds_toArray, List.set_cons_zero, List.set_cons_succ, List.getElem_toArray, List.getElem_cons_zero, List.getElem_cons_succ]
                refine wpAnyIn_take (i := 9) (v := .pointer (some ⟨w.heap.size + 1, x.2, none⟩)) rfl rfl (by kernel_rfl) (by kernel_rfl) (by kernel_rfl) (fun _ _ _ h => h) ⟨Or.inl ⟨by rfl, fun w => by go_simp⟩, fun _ => rfl⟩ ?_
                try simp only [Act.put, List.setIfInBounds_toArray, List.set_cons_zero, List.set_cons_succ, List.getElem_toArray, List.getElem_cons_zero, List.getElem_cons_succ]
                refine wpAnyIn_ready (rs := [10]) (by kernel_rfl) (by simp) ?_
                refine AllReadyIn.cons rfl (fun K hK => ?_) ?_
                · go_simp
                  refine hK _ _ ?_
                  clear hK K
                  try simp only [Act.put, List.setIfInBounds_toArray, List.set_cons_zero, List.set_cons_succ, List.getElem_toArray, List.getElem_cons_zero, List.getElem_cons_succ]
                  refine wpAnyIn_done (by kernel_rfl) ?_ _
                  gi_wp2
                  exact ⟨HF.out.1, HF.out.2.1, _, HPR.out ▸ HF.out.2.2⟩
                exact AllReadyIn.nil
              exact AllReadyIn.nil
            exact AllReadyIn.nil
          refine AllReadyIn.cons rfl (fun K hK => ?_) ?_
          · go_simp
            refine hK _ _ ?_
            clear hK K
            try simp only [Act.put, List.setIfInBounds_toArray, List.set_cons_zero, List.set_cons_succ, List.getElem_toArray, List.getElem_cons_zero, List.getElem_cons_succ]
            refine wpAnyIn_ready (rs := [0, 8]) (by kernel_rfl) (by simp) ?_
            refine AllReadyIn.cons rfl (fun K hK => ?_) ?_
            · go_simp
              refine hK _ _ ?_
              clear hK K
              try simp only [Act.put, List.setIfInBounds_toArray, List.set_cons_zero, List.set_cons_succ, List.getElem_toArray, List.getElem_cons_zero, List.getElem_cons_succ]
              refine wpAnyIn_ready (rs := [8]) (by kernel_rfl) (by simp) ?_
              refine AllReadyIn.cons rfl (fun K hK => ?_) ?_
              · refine step_mstIn (.tmp 25) (.tmp 27) rfl w.heap.size (.slice q (prE pre x.2).length c) (prE pre x.2) (by rfl) (World.ownsRow.alloc HO.out (.cells #[.int .i64 (x.1 : Nat)] 3)) ⟨_, 0, none⟩ 1 x.1 (by rfl) (news_one rfl rfl) (by omega) (by simp; omega) ?_
                intro v' w9 hO9 hg9 hat9
                obtain ⟨q9, c9, rfl⟩ := own_shape hO9
                rw [hl9] at hO9 hat9 ⊢
                have HF := Lib.hid (Xr.more (tmp := .cells #[.int .i64 (x.1 : Nat)] 3) HX1.out (by omega) hxn HRow.out hO9 ⟨hg9.os, hg9.tape, hg9.output, hg9.size, hg9.block⟩ (by simpa [World.drew] using hat9) (by omega))
                have t0 := HT9.out w9 _ hg9 rfl
                obtain ⟨u9, f9⟩ := HT8.out w9 _ hg9 rfl
                clear hO9 hg9 hat9
                refine hK _ _ ?_
                clear hK K
                try simp only [Act.put, List.setIfInBounds_toArray, List.set_cons_zero, List.set_cons_succ, List.getElem_toArray, List.getElem_cons_zero, List.getElem_cons_succ]
                refine wpAnyIn_take (i := 9) (v := .pointer (some ⟨w.heap.size + 1, x.2, none⟩)) rfl rfl (by kernel_rfl) (by kernel_rfl) (by kernel_rfl) (fun _ _ _ h => h) ⟨Or.inl ⟨by rfl, fun w => by go_simp⟩, fun _ => rfl⟩ ?_
                try simp only [Act.put, List.setIfInBounds_toArray, List.set_cons_zero, List.set_cons_succ, List.getElem_toArray, List.getElem_cons_zero, List.getElem_cons_succ]
                refine wpAnyIn_ready (rs := [10]) (by kernel_rfl) (by simp) ?_
                refine AllReadyIn.cons rfl (fun K hK => ?_) ?_
                · go_simp
                  refine hK _ _ ?_
                  clear hK K
                  try simp only [Act.put, List.setIfInBounds_toArray, List.set_cons_zero, List.set_cons_succ, List.getElem_toArray, List.getElem_cons_zero, List.getElem_cons_succ]
                  refine wpAnyIn_done (by kernel_rfl) ?_ _
                  gi_wp2
                  exact ⟨HF.out.1, HF.out.2.1, _, HPR.out ▸ HF.out.2.2⟩
                exact AllReadyIn.nil
              exact AllReadyIn.nil
            refine AllReadyIn.cons rfl (fun K hK => ?_) ?_
            · refine step_mstIn (.tmp 25) (.tmp 27) rfl w.heap.size (.slice q (prE pre x.2).length c) (prE pre x.2) (by rfl) (World.ownsRow.alloc HO.out (.cells #[.int .i64 (x.1 : Nat)] 3)) ⟨_, 0, none⟩ 1 x.1 (by rfl) (news_one rfl rfl) (by omega) (by simp; omega) ?_
              intro v' w9 hO9 hg9 hat9
              obtain ⟨q9, c9, rfl⟩ := own_shape hO9
              rw [hl9] at hO9 hat9 ⊢
              have HF := Lib.hid (Xr.more (tmp := .cells #[.int .i64 (x.1 : Nat)] 3) HX1.out (by omega) hxn HRow.out hO9 ⟨hg9.os, hg9.tape, hg9.output, hg9.size, hg9.block⟩ (by simpa [World.drew] using hat9) (by omega))
              have t0 := HT9.out w9 _ hg9 rfl
              obtain ⟨u9, f9⟩ := HT8.out w9 _ hg9 rfl
              clear hO9 hg9 hat9
              refine hK _ _ ?_
              clear hK K
              try simp only [Act.put, List.setIfInBounds_toArray, List.set_cons_zero, List.set_cons_succ, List.getElem_toArray, List.getElem_cons_zero, List.getElem_cons_succ]
              refine wpAnyIn_ready (rs := [0]) (by kernel_rfl) (by simp) ?_
              refine AllReadyIn.cons rfl (fun K hK => ?_) ?_
              · go_simp
                refine hK _ _ ?_
                clear hK K
                try simp only [Act.put, List.setIfInBounds_toArray, List.set_cons_zero, List.set_cons_succ, List.getElem_toArray, List.getElem_cons_zero, List.getElem_cons_succ]
                refine wpAnyIn_take (i := 9) (v := .pointer (some ⟨w.heap.size + 1, x.2, none⟩)) rfl rfl (by kernel_rfl) (by kernel_rfl) (by kernel_rfl) (fun _ _ _ h => h) ⟨Or.inl ⟨by rfl, fun w => by go_simp⟩, fun _ => rfl⟩ ?_
                try simp only [Act.put, List.setIfInBounds_toArray, List.set_cons_zero, List.set_cons_succ, List.getElem_toArray, List.getElem_cons_zero, List.getElem_cons_succ]
                refine wpAnyIn_ready (rs := [10]) (by kernel_rfl) (by simp) ?_
                refine AllReadyIn.cons rfl (fun K hK => ?_) ?_
                · go_simp
                  refine hK _ _ ?_
                  clear hK K
                  try simp only [Act.put, List.setIfInBounds_toArray, List.set_cons_zero, List.set_cons_succ, List.getElem_toArray, List.getElem_cons_zero, List.getElem_cons_succ]
                  refine wpAnyIn_done (by kernel_rfl) ?_ _
                  gi_wp2
                  exact ⟨HF.out.1, HF.out.2.1, _, HPR.out ▸ HF.out.2.2⟩
                exact AllReadyIn.nil
              exact AllReadyIn.nil
            exact AllReadyIn.nil
          exact AllReadyIn.nil
        exact AllReadyIn.nil
      exact AllReadyIn.nil
  case done =>
    rintro D xs W hD hS ⟨rows, hX⟩ hK
    rw [hS] at hX
    have hpa : ∀ b, prE (edgK code code.length) b = ahd code b := fun b => prE_edg code b
    have HV := Lib.hid (visited_any (w := W) (m0 := fun k => W.heap[k]?) (N := nc + 1) (s := nc) (nx := fun b => ahd code b) (K := 33) (ca := #[.pointer (some ⟨w.heap.size + 2, 0, none⟩)]) (fun _ _ e => e) (by omega) (by omega) (fun a b hb => by have := (mem_ahd.1 hb).1; omega) (enters_of Try.func33 (by kernel_rfl) rfl) (by
      intro W' m x hB hH hle hx
      obtain ⟨q, c, c1, c2, hO⟩ := hX.at hx
      rw [hpa] at c1 hO
      refine (exit1_any (w := W') ((hB.cell (World.block_lt_of_cell? _ _ hX.box.cell)).trans hX.box.cell) hx ((hB.cell (World.block_lt_of_cell? _ _ c1)).trans c1)).mono ?_
      rintro e w' ⟨rfl, rfl⟩
      exact ⟨_, m, rfl, Below.refl _ _, Mem.More.refl _ _, hH, (own_all hO).le (mle_cle hle)⟩))
    have HB := Lib.hid hX.low
    have hWs := hX.low.size
    have hDl := heap_lt hK
    have HK := Lib.hid hK
    clear hX hS hK hpa
    gi_wp2_with fail
    refine ⟨trivial, (callsIn_wide.2 HV.out).mono ?_⟩
    rintro e w7 ⟨v7, rfl, hO7, hB7⟩
    have HI7 := Lib.hid (index_any hO7.re)
    have HB7 := Lib.hid (HB.out.trans (hB7.mono hWs))
    have HK7 := Lib.hid ((hB7.block D hDl).trans HK.out)
    obtain ⟨q7, c7, rfl⟩ := own_shape hO7
    clear hO7 hB7
    gi_wp2_with fail
    refine ⟨trivial, (callsIn_wide.2 HI7.out).mono ?_⟩
    have hrl := rch_len (fun b => ahd code (b : Nat)) (nc + 1) nc
    have hrt : ∀ b, b < nc + 1 → ((rch (fun b => ahd code (b : Nat)) (nc + 1) nc).getD b false = true ↔ Way (fun x => nxt code x) b code.length) := fun b hb => by
      rw [rch_at hb]
      rw [← hn]
      exact way_back
    rintro e w8 (⟨⟨i, rfl, hi, hf, ht⟩, rfl⟩ | ⟨⟨rfl, ht⟩, rfl⟩)
    · rw [hrl] at hi
      have hin : i ≠ nc := fun e => by
        have := (hrt nc (by omega)).2 (by rw [hn]; exact .here)
        rw [e] at hf
        rw [hf] at this
        cases this
      have HE := Lib.hid (show ExS code (.returned (.tuple #[.int .i64 i, .bool true])) from .inl ⟨i, by omega, rfl, (fun h => by
        have := (hrt i hi).2 h
        rw [hf] at this
        cases this), (fun j hj => (hrt j (by omega)).1 (ht j hj))⟩)
      have hi0 : (0 : Int) ≤ (i : Int) := by omega
      clear ht hf hrt hrl hin hi
      gi_wp2
      refine ⟨by simp, .inl ⟨_, _, rfl, run_takeDeferred HK7.out, ?_⟩⟩
      refine ⟨_, results_tmp2 rfl _ _ _, ?_⟩
      exact ⟨HE.out, HB7.out.trans (belowK_b (w := w) (Nat.le_refl _) _ D _ _ (by omega) HK7.out rfl rfl)⟩
    · rw [hrl] at ht
      have HE := Lib.hid (show ExS code (.returned (.tuple #[.int .i64 0, .bool false])) from .inr ⟨rfl, fun j hj => (hrt j (by omega)).1 (ht j (by omega))⟩)
      clear ht hrt hrl
      gi_wp2
      refine ⟨by simp, .inl ⟨_, _, rfl, run_takeDeferred HK7.out, ?_⟩⟩
      refine ⟨_, results_tmp2 rfl _ _ _, ?_⟩
      exact ⟨HE.out, HB7.out.trans (belowK_b (w := w) (Nat.le_refl _) _ D _ _ (by omega) HK7.out rfl rfl)⟩
  case stop =>
    rintro D cc pre W _ _ h _
    exact h.elim
end
end Go.Proofs.Ythgcnlccikpmaaa
