/- The document's expressions, whole; how a text is begun; Expr. -/
import Derived.Test.YtnmcjkabihihiaaDoorDD
import Derived.Test.YtnmcjkabihihiaaDoorO
import Derived.Test.YtnmcjkabihihiaaDoorLQd
namespace Go.Proofs.YtnmcjkabihihiaaDoor
open Go Go.RowKit Go.Proofs.Mm

section
variable {D : DC} {nv bv : Value} {er a : Nat} {w : World}
theorem levelD_six {d : Nat} {r : Nat → Syn.R (List Syn.Tm)} {C : Nat} (hR : RdD D nv bv 19 (fun i => #[PB D, .int .i64 (i : Nat), .int .i64 (d : Nat)]) r C) :
    RdD D nv bv 10 (fun i => #[PB D, .int .i64 (i : Nat), .int .i64 6, .int .i64 (d : Nat)]) r C := by
  intro w a i hi h
  have HC := Lib.hid (hR w a i hi h)
  have e6 : ((6 : Int) == 6) = true := rfl
  clear hR h
  go_enter Tryd.func10, Tryd.ntmps10
  go_wp2_with fail
  go_at_call 19
  refine HC.out.mono ?_
  rintro e w1 ⟨q, c, l, z, er1, a1, rfl, ho, hp, hc, hC, hd, hm⟩
  have HO := Lib.hid ho
  have HCC := Lib.hid hC
  have HD := Lib.hid hd
  have HM := Lib.hid hm
  clear ho hC hd hm
  go_wp2_with fail
  go_ret2
  exact ⟨q, c, l, z, er1, a1, rfl, HO.out, hp, hc, HCC.out, HD.out, HM.out⟩
theorem RdD.args {K : FuncId} {f g : Nat → Array Value} {r : Nat → Syn.R (List Syn.Tm)} {C : Nat} (h : RdD D nv bv K f r C) (e : f = g) : RdD D nv bv K g r C := by subst e; exact h
theorem tower_d {u : Nat → Syn.R (List Syn.Tm)} (hcnt : Syn.Cnt u) (hfit : Syn.FitP D.ys.length u) (d : Nat) {C : Nat} (hCb : C ≤ 90000000)
    (hR : RdD D nv bv 10 (fun i => #[PB D, .int .i64 (i : Nat), .int .i64 6, .int .i64 (d : Nat)]) u C) : ∀ k, k ≤ 6 →
    RdD D nv bv 10 (fun i => #[PB D, .int .i64 (i : Nat), .int .i64 ((6 - k : Nat) : Int), .int .i64 (d : Nat)]) (Syn.tower (Tk D.ys) (D.ys.length + 1) u k) (C + k * 65537)
  | 0, _ => by
    have := hR.args (g := fun i => #[PB D, .int .i64 (i : Nat), .int .i64 ((6 - 0 : Nat) : Int), .int .i64 (d : Nat)]) rfl
    simpa [Syn.tower] using this
  | k + 1, hk => by
    have ih := tower_d hcnt hfit d hCb hR k (by omega)
    have e1 : ((6 - k : Nat) : Int) = ((5 - k : Nat) : Int) + 1 := by omega
    rw [e1] at ih
    have := level_step (Syn.tower_cnt hcnt k) (Syn.tower_fit (tk_nones D.ys) (by omega) hfit k) (5 - k) d (by omega) (C := C + k * 65537) (by omega) ih
    rw [show 6 - (k + 1) = 5 - k by omega, show C + (k + 1) * 65537 = C + k * 65537 + 65537 by omega]
    exact this
theorem expr_d : ∀ m : Nat, m ≤ 12 → RdD D nv bv 10 (fun i => #[PB D, .int .i64 (i : Nat), .int .i64 0, .int .i64 ((12 - m : Nat) : Int)]) (Syn.exprD (Tk D.ys) (D.ys.length + 1) m) (1 + (m + 1) * 458759)
  | 0, _ => by
    have hu := unary_d (D := D) (nv := nv) (bv := bv) (e := none) 12 (Nat.le_refl _) (C := 1) (Nat.le_refl _) (by decide) rfl
    have ht := tower_d (Syn.unary_cnt (T := Tk D.ys) (F := D.ys.length + 1) (e := none) (fun p h => by cases h)) (Syn.unary_fit (tk_nones D.ys) (by omega) (e := none) (fun p h => by cases h) (fun p h => by cases h)) 12 (by omega) (levelD_six hu) 6 (Nat.le_refl _)
    exact ht
  | m + 1, hm => by
    have ih := expr_d m (by omega)
    obtain ⟨d, hd⟩ : ∃ d, 12 - (m + 1) = d := ⟨_, rfl⟩
    have e1 : ((12 - m : Nat) : Int) = (d : Int) + 1 := by omega
    rw [e1] at ih
    rw [hd]
    have hu := unary_d (D := D) (nv := nv) (bv := bv) (e := some (Syn.exprD (Tk D.ys) (D.ys.length + 1) m)) d (by omega) (C := 1 + (m + 1) * 458759) (by omega) (by omega) ⟨by omega, Syn.expr_cnt m, Syn.expr_fit (tk_nones D.ys) (by omega) m, ih⟩
    have ht := tower_d (Syn.unary_cnt (T := Tk D.ys) (F := D.ys.length + 1) (e := some (Syn.exprD (Tk D.ys) (D.ys.length + 1) m)) (fun p h => by cases h; exact Syn.expr_cnt m)) (Syn.unary_fit (tk_nones D.ys) (by omega) (fun p h => by cases h; exact Syn.expr_fit (tk_nones D.ys) (by omega) m) (fun p h => by cases h; exact Syn.expr_good m)) d (by omega) (levelD_six hu) 6 (Nat.le_refl _)
    rw [show 1 + (m + 1 + 1) * 458759 = 1 + (m + 1) * 458759 + 65537 + 6 * 65537 by omega]
    exact ht
end
/-! ## A text is begun -/
theorem allItems_W (s : ByteArray) : allItems s = itemsOf (wordsR s) := by
  unfold allItems wordsR
  split
  · rfl
  · rfl
/-- What Scan answers. -/
def ScnR (s : ByteArray) (w : World) (e : Ending) (w' : World) : Prop :=
  Below w.heap.size w w' ∧ ((∃ er a : Nat, er ≠ 0 ∧ faultOf s = some (er, a) ∧ e = .returned (.tuple #[.slice none 0 0, .int .i64 (a : Nat), .int .i64 (er : Nat)])) ∨
    ∃ q c, faultOf s = none ∧ s.size ≤ 65536 ∧ Ws (itsOf s) ∧ e = .returned (.tuple #[.slice q (itsOf s).length c, .int .i64 0, .int .i64 0]) ∧ w'.ownsRow w.heap.size 65 4 (.slice q (itsOf s).length c) (itsOf s).length (tokCells (itsOf s)))
theorem scanD_any (s : ByteArray) (w : World) : Calls Tryd.prog 18 #[.string s] w (ScnR s w) := by
  have HW := Lib.hid (show Calls Tryd.prog 27 #[.string s] w (WordsRes s w) from by
    by_cases h : 65536 < s.size
    · exact words_long s h w
    · exact words_ok s (by omega) w)
  go_enter Tryd.func18, Tryd.ntmps18
  go_wp2_with fail
  go_at_call 27
  refine HW.out.mono ?_
  rintro e w1 ⟨hb, ys, q, c, hy, hy0, rfl, ho⟩
  have HB := Lib.hid hb
  obtain ⟨at_, hat⟩ : ∃ at_, (wordsR s).2.1 = at_ := ⟨_, rfl⟩
  obtain ⟨er, her⟩ : ∃ er, (wordsR s).2.2 = er := ⟨_, rfl⟩
  rw [hat, her]
  have HIT := Lib.hid (allItems_W s)
  by_cases h0 : er = 0
  · subst h0
    have hkey : ys.map It.key = allItems s := by
      rw [HIT.out]
      unfold itemsOf
      rw [her, if_pos rfl, List.append_nil, ← hy, List.map_map]
      apply List.map_congr_left
      intro x hx
      simp only [Function.comp, It.key, hy0 x hx]
    have hI := its_of hkey
    have hF := faultOf_none hkey hy0
    have hsz := (all_short hkey hy0).1
    have hws := ws_of hkey hy0
    rw [← hI] at hws
    rw [← hI] at ho ⊢
    have HO := Lib.hid ho
    have HF := Lib.hid hF
    have e0 : (((0 : Nat) : Int) != 0) = false := rfl
    clear ho hkey hI hF hy hy0 hat her HIT hb
    go_wp2_with fail
    go_ret3
    exact ⟨HB.out, .inr ⟨q, c, HF.out, hsz, hws, rfl, HO.out⟩⟩
  · have e0 : ((er : Int) != 0) = true := by simp; omega
    have HF := Lib.hid (show faultOf s = some (er, at_) from by
      have hk : (ys ++ ([⟨0, ⟨#[]⟩, 0, at_, er⟩] : List It)).map It.key = allItems s := by
        rw [HIT.out]
        unfold itemsOf
        rw [her, if_neg h0, ← hy, hat, List.map_append, List.map_map]
        congr 1
        apply List.map_congr_left
        intro x hx
        simp only [Function.comp, It.key, hy0 x hx]
      exact faultOf_some (x := ⟨0, ⟨#[]⟩, 0, at_, er⟩) (by rw [hk]; exact List.prefix_refl _) h0)
    clear ho hy hy0 hat her HIT hb
    go_wp2_with fail
    go_ret3
    exact ⟨HB.out, .inl ⟨er, at_, h0, HF.out, rfl⟩⟩
/-- How a text is begun: with its first fault, or with its words. -/
def BgR (s : ByteArray) (w : World) (e : Ending) (w' : World) : Prop :=
  Below w.heap.size w w' ∧ ∃ D : DC, e = .returned (PB D) ∧ w.heap.size ≤ D.bt ∧ D.bt < w'.heap.size ∧
    ((∃ er a : Nat, er ≠ 0 ∧ faultOf s = some (er, a) ∧ DS D (.slice none 0 0) (.slice none 0 0) er a w') ∨
     (faultOf s = none ∧ s.size ≤ 65536 ∧ Ws (itsOf s) ∧ D.ys = itsOf s ∧ D.len = s.size ∧ DS D (.slice none 0 0) (.slice none 0 0) 0 0 w' ∧ (D.ys ≠ [] → w.heap.size ≤ D.bw)))
theorem begin_any (s : ByteArray) (w : World) : Calls Tryd.prog 9 #[.string s] w (BgR s w) := by
  have HS := Lib.hid (scanD_any s w)
  by_cases hs : 65536 < s.size
  · have hsi : (65536 : Int) < ((s.size : Nat) : Int) := by omega
    have HF := Lib.hid (show faultOf s = some (3, 0) from by
      have hk : ([⟨0, ⟨#[]⟩, 0, 0, 3⟩] : List It).map It.key = allItems s := by unfold allItems; rw [if_pos hs]; rfl
      exact faultOf_some (pr := []) (x := ⟨0, ⟨#[]⟩, 0, 0, 3⟩) (by rw [List.nil_append, hk]; exact List.prefix_refl _) (by decide))
    have hB := (Below.refl w.heap.size w).alloc (Nat.le_refl _) (.cells #[.slice none 0 0, .int .i64 0, .int .i64 3, .int .i64 0, .slice none 0 0, .slice none 0 0] 40)
    have hN := World.alloc_heap_new w (.cells #[.slice none 0 0, .int .i64 0, .int .i64 3, .int .i64 0, .slice none 0 0, .slice none 0 0] 40)
    clear HS hs
    go_enter Tryd.func9, Tryd.ntmps9
    go_wp2_with fail
    go_ret
    refine ⟨hB, ⟨[], 0, w.heap.size, 0, 0, none⟩, rfl, Nat.le_refl _, by simp, .inl ⟨3, 0, by decide, HF.out, ⟨hN, .inl rfl, by simp⟩⟩⟩
  · have hsi : ¬ ((65536 : Int) < ((s.size : Nat) : Int)) := by omega
    clear hs
    go_enter Tryd.func9, Tryd.ntmps9
    go_wp2_with fail
    go_at_call 18
    refine HS.out.mono ?_
    rintro e w1 ⟨hb, ⟨er, a, h0, hf, rfl⟩ | ⟨q, c, hf, hsz, hwsI, rfl, ho⟩⟩
    · have hB := hb.alloc hb.size (.cells #[.slice none 0 0, .int .i64 (s.size : Nat), .int .i64 (er : Nat), .int .i64 (a : Nat), .slice none 0 0, .slice none 0 0] 40)
      have hN := World.alloc_heap_new w1 (.cells #[.slice none 0 0, .int .i64 (s.size : Nat), .int .i64 (er : Nat), .int .i64 (a : Nat), .slice none 0 0, .slice none 0 0] 40)
      have HB := Lib.hid hB
      have HN := Lib.hid hN
      have hws := hb.size
      clear hB hN hb
      go_wp2_with fail
      go_ret
      exact ⟨HB.out, ⟨[], s.size, w1.heap.size, 0, 0, none⟩, rfl, hws, by simp, .inl ⟨er, a, h0, hf, ⟨HN.out, .inl rfl, by simp⟩⟩⟩
    · obtain ⟨n, hn⟩ : ∃ n, (itsOf s).length = n := ⟨_, rfl⟩
      have HNN := Lib.hid hn
      rw [hn] at ho ⊢
      have hB := hb.alloc hb.size (.cells #[.slice q n c, .int .i64 (s.size : Nat), .int .i64 0, .int .i64 0, .slice none 0 0, .slice none 0 0] 40)
      have hN := World.alloc_heap_new w1 (.cells #[.slice q n c, .int .i64 (s.size : Nat), .int .i64 0, .int .i64 0, .slice none 0 0, .slice none 0 0] 40)
      have HB := Lib.hid hB
      have hws := hb.size
      have hws2 : (itsOf s).length ≤ 65536 := hwsI.2
      have HDS := Lib.hid (show ∃ bw, (itsOf s ≠ [] → w.heap.size ≤ bw) ∧ DS ⟨itsOf s, s.size, w1.heap.size, bw, c, q⟩ (.slice none 0 0) (.slice none 0 0) 0 0 (w1.alloc (.cells #[.slice q n c, .int .i64 (s.size : Nat), .int .i64 0, .int .i64 0, .slice none 0 0, .slice none 0 0] 40)) from by
        by_cases hnil : itsOf s = []
        · exact ⟨0, fun h => absurd hnil h, ⟨by rw [show (DC.ys ⟨itsOf s, s.size, w1.heap.size, 0, c, q⟩).length = n from hn]; exact hN, .inl hnil, hws2⟩⟩
        · rcases ho.2 with ⟨h1, h2⟩ | ⟨g, cap, cur, h1, h2, h3, h4, h5, h6, h7⟩
          · exact absurd (List.eq_nil_of_length_eq_zero (by omega)) hnil
          · have hq : q = some ⟨g, 0, none⟩ := by injection h1
            refine ⟨g, fun _ => h2, ⟨by rw [show (DC.ys ⟨itsOf s, s.size, w1.heap.size, g, c, q⟩).length = n from hn]; exact hN, .inr ⟨hq, cur, heap_new _ _ h3, fun j u hu => ?_⟩, hws2⟩⟩
            have hu : (tokCells (itsOf s))[j]? = some u := hu
            rw [← h7, List.getElem?_take] at hu
            split at hu
            · simpa using hu
            · cases hu)
      clear hB hN hb ho hn
      go_wp2_with fail
      go_ret
      obtain ⟨bw, hbw, hds⟩ := HDS.out
      exact ⟨HB.out, ⟨itsOf s, s.size, w1.heap.size, bw, c, q⟩, rfl, hws, by simp, .inr ⟨hf, hsz, hwsI, rfl, rfl, hds, hbw⟩⟩

theorem resultsF (tmps : Array Value) (w : World) (b5 : Nat) (y0 y1 y2 : Value) (T3 : TypeId) (h5 : tmps[2]?.getD undef = .pointer (some ⟨b5, 0, none⟩))
    (c5 : w.heap[b5]? = some (.cells #[y0, y1, y2] T3 (0, 0))) :
    (results Tryd.f12 tmps).run Tryd.prog w = .ok (.agg #[y0, y1, y2]) w := by
  obtain ⟨q0, q1, q2, _⟩ := three_cells c5
  simp [results, Tryd.results12, go_sem, h5, q0, q1, q2]
theorem faultD_any {D : DC} {nv bv : Value} {er a : Nat} {w : World} (h : DS D nv bv er a w) (he : er ≠ 0) : Calls Tryd.prog 12 #[PB D] w fun e w' => e = .returned (.agg #[.int .i64 (er : Nat), .int .i64 (-1), .int .i64 (a : Nat)]) ∧ Chg (fun _ => False) w w' := by
  obtain ⟨q, x0, x1, x2, x3, _, _, hz, hlt, hx⟩ := h.raw
  have e0 : ((er : Int) == 0) = false := by simp; omega
  clear hx hz h
  go_enter Tryd.func12, Tryd.ntmps12
  go_wp2_with fail
  go_region_with (fail)
  all_goals
    go_wp2
    exact bodyPost_ret (resultsF _ _ _ _ _ _ _ rfl (show ((w.alloc (.cells #[.int .i64 (er : Nat), .int .i64 (-1), .int .i64 (a : Nat)] 25)).drew).heap[w.heap.size]? = _ from World.alloc_heap_new w _)) rfl ⟨rfl, ((Chg.refl _ w).alloc _).drew⟩
end Go.Proofs.YtnmcjkabihihiaaDoor
