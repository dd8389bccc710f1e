/- BitsEach returns true at every label and every number, in every memory in which the library's tables and errors lie. -/
import Derived.Test.YthmcckdoneiglaaDoorRefN
import Derived.Test.YthmcckdoneiglaaDoorKit
import Derived.Deep.Onto
namespace Go.Proofs.YthmcckdoneiglaaDoor
open Go Go.RowKit Go.Shelf

attribute [local go_sem] Oper.semAt_some

theorem next_prefix {p l : List Nat} {k : Nat} (h : p <+: l) (hlt : p.length < l.length) (hk : k = l.getD p.length 0) : p ++ [k] <+: l := by
  obtain ⟨r, rfl⟩ := h
  cases r with
  | nil => simp at hlt
  | cons z r =>
    have : k = z := by rw [hk, List.getD_eq_getElem?_getD, List.getElem?_append_right (Nat.le_refl _)]; simp
    subst this
    exact ⟨r, by simp⟩
theorem next_of {p l : List Nat} {k : Nat} (h : p ++ [k] <+: l) : p.length < l.length ∧ k = l.getD p.length 0 := by
  obtain ⟨r, rfl⟩ := h
  refine ⟨by simp, ?_⟩
  rw [List.getD_eq_getElem?_getD, List.append_assoc, List.getElem?_append_right (Nat.le_refl _)]; simp

theorem row_cells {W : World} {b : Nat} {e : TypeId} {size : Nat} {v : Value} {n : Nat} {xs : List Value} (h : W.ownsRow b e size v n xs) {j : Nat} {o : Obj} (he : v.ownBlock = some j) (ho : W.heap[j]? = some o) : o.isCells = true := by
  rcases h.2 with ⟨rfl, _⟩ | ⟨g, cap, cur, rfl, _, hgb, _⟩
  · cases he
  · obtain rfl : g = j := by simpa [Value.ownBlock] using he
    rw [hgb] at ho; cases ho; rfl
theorem row_ne {W : World} {b : Nat} {e : TypeId} {size : Nat} {v : Value} {n : Nat} {xs : List Value} (h : W.ownsRow b e size v n xs) {j : Nat} (hj : j < b) : v.ownBlock = none ∨ v.ownBlock ≠ some j := by
  refine .inr fun e' => ?_
  have := (h.lt j e').1
  omega

theorem row_in {W : World} {b : Nat} {q : Option Addr} {c m : Nat} {l : List Nat} (hm : l.length = m) (h : W.ownsRow b 3 1 (.slice q m c) m (numVals l)) : IntIn W q (l.map Int.ofNat) := by
  intro i hi
  rw [List.length_map] at hi
  rcases h.2 with ⟨_, h0⟩ | ⟨gq, cap, cur, h0, _, _, _⟩
  · omega
  · simp only [Value.slice.injEq, true_and] at h0
    obtain ⟨rfl, rfl⟩ := h0
    refine ⟨gq, 0, rfl, ?_⟩
    rw [Nat.zero_add]
    have hc := h.cellAt i (by omega)
    refine hc.trans ?_
    simp only [numVals, List.getElem?_map, List.getD_eq_getElem?_getD]
    rw [List.getElem?_eq_getElem hi]; rfl
theorem results3 (tmps : Array Value) (w : World) (b4 : Nat) (v : Bool) (h4 : tmps[4]?.getD undef = .pointer (some ⟨b4, 0, none⟩)) (c4 : w.cell? ⟨b4, 0, none⟩ = some (.bool v)) :
    (results Tryd.f3 tmps).run Tryd.prog w = .ok (.bool v) w := by
  simp [results, Tryd.results3, go_sem, h4, c4]

theorem func_nil (l : Array Value) (W : World) : Sem.run Tryd.prog (binOp .eql 27 (.func (.func 29) #[] l) .nilFunc) W = .ok (.bool false) W := by kernel_rfl

set_option maxRecDepth 100000 in
set_option maxHeartbeats 2000000 in
theorem each_law (x : Nat) (hx : x < 18446744073709551616) (u : Int) (hu0 : 1 ≤ u) (hu : u ≤ 9223372036854775807) (w : World) (hE : Env w) :
    Calls Tryd.prog 3 #[.int .u64 (x : Int), .int .i64 u] w fun e w' => e = .returned (.bool true) ∧ Below w.heap.size w w' := by
  have h8 := hE.1.2.2
  have hr := refnums_s x hx
  have hfn := func_nil
  have hlen64 : (bitsOf x).length ≤ 64 := (bitsOf_length x).symm ▸ popN_le 64 x
  obtain ⟨m, hm⟩ : ∃ m, (bitsOf x).length = m := ⟨_, rfl⟩
  rw [hm] at hr
  refine (callsIn_wide (n := 3)).1 ?_
  refine callsIn_of_wp_marks Tryd.func3 rfl trivial ?_ rfl
  simp only [Tryd.ntmps3, List.size_toArray, List.length_cons, List.length_nil, Nat.reduceAdd, Nat.reduceSub, Array.replicate_succ, Array.replicate_zero, List.push_toArray, List.append_toArray, List.nil_append, List.cons_append]
  gi_wp2
  refine ⟨trivial, ?_⟩
  gi_at_call 8
  refine (callsIn_wide.2 (hr _)).mono ?_
  rintro e w1 ⟨q, c, rfl, hR, hb1⟩
  have c0 := cell_new_l w (.int .i64 u) 3
  have c1 := cell_new_l (w.alloc (.cells #[.int .i64 u] 3)) (.bool false) 4
  rw [World.size_alloc] at c1
  have hB2 : Below w.heap.size w ((w.alloc (.cells #[.int .i64 u] 3)).alloc (.cells #[.bool false] 4)) := ((Below.refl _ w).alloc (Nat.le_refl _) _).alloc (by simp) _
  have hsz2 : ((w.alloc (.cells #[.int .i64 u] 3)).alloc (.cells #[.bool false] 4)).heap.size = w.heap.size + 1 + 1 := by simp
  have c0' := cell_alloc_l (.cells #[.bool false] 4) c0.1
  have f0' := frozen_alloc_l (.cells #[.bool false] 4) c0.1 c0.2
  generalize ((w.alloc (.cells #[.int .i64 u] 3)).alloc (.cells #[.bool false] 4)) = w2 at *
  have hB1 := hB2.trans (hb1.mono (by omega))
  have d0 := (hb1.cell (p := ⟨w.heap.size, 0, none⟩) (by simp; omega)).trans c0'
  have e0 := (hb1.frozen (p := ⟨w.heap.size, 0, none⟩) (by simp; omega)).trans f0'
  have d1 := (hb1.cell (p := ⟨w.heap.size + 1, 0, none⟩) (by simp; omega)).trans c1.1
  have e1 := (hb1.frozen (p := ⟨w.heap.size + 1, 0, none⟩) (by simp; omega)).trans c1.2
  have hs1 := hb1.size
  rw [hsz2] at hs1
  have hRb := hR.mono (base' := w.heap.size + 1) (by omega)
  clear c0 c1 c0' f0' hb1 hB2 hsz2 hr hR
  gi_wp2_with fail
  have g2 := cell_new_l w1 (.slice q m c) 24
  have g0 := cell_alloc_l (.cells #[.slice q m c] 24) d0
  have k0 := frozen_alloc_l (.cells #[.slice q m c] 24) d0 e0
  have g1 := cell_alloc_l (.cells #[.slice q m c] 24) d1
  have k1 := frozen_alloc_l (.cells #[.slice q m c] 24) d1 e1
  have hR3 := hRb.alloc (.cells #[.slice q m c] 24)
  have hB3 : Below w.heap.size w (w1.alloc (.cells #[.slice q m c] 24)) := hB1.alloc (by omega) _
  have hsz3 : (w1.alloc (.cells #[.slice q m c] 24)).heap.size = w1.heap.size + 1 := by simp
  generalize w1.heap.size = g at *
  generalize (w1.alloc (.cells #[.slice q m c] 24)) = w3 at *
  clear d0 e0 d1 e1 hRb hB1
  refine ⟨trivial, ?_⟩
  gi_at_call 9
  refine (callsIn_wide.2 (each_any x w3)).mono ?_
  rintro e w' ⟨rfl, rfl⟩
  have j3 := cell_new_l w3 (.int .u64 (x : Int)) 23
  have j0 := cell_alloc_l (.cells #[.int .u64 (x : Int)] 23) g0
  have l0 := frozen_alloc_l (.cells #[.int .u64 (x : Int)] 23) g0 k0
  have j1 := cell_alloc_l (.cells #[.int .u64 (x : Int)] 23) g1
  have l1 := frozen_alloc_l (.cells #[.int .u64 (x : Int)] 23) g1 k1
  have j2 := cell_alloc_l (.cells #[.int .u64 (x : Int)] 23) g2.1
  have hR4 := hR3.alloc (.cells #[.int .u64 (x : Int)] 23)
  have hB4 : Below w.heap.size w (w3.alloc (.cells #[.int .u64 (x : Int)] 23)) := hB3.alloc (by omega) _
  have hsz4 : (w3.alloc (.cells #[.int .u64 (x : Int)] 23)).heap.size = g + 1 + 1 := by simp [hsz3]
  rw [hsz3] at j3 ⊢
  generalize (w3.alloc (.cells #[.int .u64 (x : Int)] 23)) = w4 at *
  clear g0 k0 g1 k1 g2 hR3 hB3 hsz3
  -- LOOP1
  have HSZ4 := Lib.hid hsz4
  clear hsz4
  gi_wp2_with fail
  have hsz4 := HSZ4.out
  clear HSZ4
  obtain ⟨v, hv⟩ : ∃ v, u = v := ⟨_, rfl⟩
  have hv0 : 1 ≤ v := by omega
  rw [hv] at j0
  have hv2 : v ≤ 9223372036854775807 := by omega
  clear hv
  have n4 := cell_new_l w4 (.int .i64 0) 3
  rw [hsz4] at n4
  have hT4 := tab_below (n₀ := w.heap.size) (by omega) hB4 hE.2
  have hg : w.heap.size + 2 ≤ g := by omega
  have hIn4 : ∀ i, i < m → ∃ gq, q = some ⟨gq, 0, none⟩ ∧ gq < g + 1 + 1 ∧ w4.cell? ⟨gq, i, none⟩ = some (.int .i64 (((bitsOf x).getD i 0 : Nat) : Int)) := by
    intro i hi
    rcases hR4.2 with ⟨h0, _⟩ | ⟨gq, cap, cur, h0, _, _, _⟩
    · omega
    · simp only [Value.slice.injEq, true_and] at h0
      obtain ⟨rfl, rfl⟩ := h0
      have hc := hR4.cellAt i (by omega)
      refine ⟨gq, rfl, by have := (hR4.lt gq rfl).2; omega, hc.trans ?_⟩
      simp only [numVals, List.getElem?_map, List.getD_eq_getElem?_getD]
      rw [List.getElem?_eq_getElem (by omega)]; rfl
  refine wpIn_rangeFunc_ownF rfl (by omega) (gf := 29) (lb := #[.pointer (some ⟨g + 1, 0, none⟩)]) rfl trivial (enters_of Tryd.func29 (by kernel_rfl) rfl)
    (each_stops (3 - 1) (g + 1) (g + 1 + 1) x (by omega) hx _ (by simp; omega) (by simp; omega) (tab_below (n₀ := w4.heap.size) (by omega) ((Below.refl _ _).alloc (Nat.le_refl _) _) hT4) (cell_alloc_l _ j3.1)) belowK_t (belowK_b (by simp; omega)) (Below.refl _ _) (fun _ => rfl)
    (fun pre W => (prVals pre <+: bitsOf x ∧ (pre.length : Int) < v ∧ W.cell? ⟨g + 1 + 1, 0, none⟩ = some (.int .i64 (pre.length : Int)) ∧ W.frozen? ⟨g + 1 + 1, 0, none⟩ = false) ∧ Below (g + 1 + 1) w4 W)
    (fun cc pre W => (cc = .ret ∧ ¬ prVals pre <+: bitsOf x) ∨ ((cc = .exit 0 ∧ W.cell? ⟨g + 1 + 1, 0, none⟩ = some (.int .i64 v)) ∧ Below (g + 1 + 1) w4 W))
    (OwnFrom.and (Own.from (fun s A B row hs hg hr => ⟨hs.1, hs.2.1, cell_kept hs.2.2.1 hg hr, (frozen_kept hs.2.2.1 hg hr).trans hs.2.2.2⟩) _) (ownFrom_below (Nat.le_of_eq hsz4.symm) (by simp; omega)))
    ?ownx
    ⟨⟨⟨bitsOf x, rfl⟩, by simp; omega, n4.1, n4.2⟩, (Below.refl _ _).alloc (by omega) _⟩
    (fun k => { tmps := #[.int .u64 (x : Int), .int .i64 u, undef, .pointer (some ⟨w.heap.size, 0, none⟩), .pointer (some ⟨w.heap.size + 1, 0, none⟩), .pointer (some ⟨g, 0, none⟩), .func (.func 29) #[] #[.pointer (some ⟨g + 1, 0, none⟩)], .pointer (some ⟨g + 1 + 1, 0, none⟩), .int .i64 (k.val : Int), undef, undef, .int .u64 (x : Int), .slice q m c, .int .u64 (x : Int), .func (.func 29) #[] #[.pointer (some ⟨g + 1, 0, none⟩)], .func (.func 29) #[] #[.pointer (some ⟨g + 1, 0, none⟩)], .bool false, .int .i64 u, .bool (decide (u < 1)), .func (.func 29) #[] #[.pointer (some ⟨g + 1, 0, none⟩)], .int .i64 (k.val : Int), undef, undef, undef, undef, undef, undef, undef, undef, undef, undef, undef, undef, undef, undef, undef, undef, undef, undef, undef, undef, undef, undef, undef, undef, undef, undef, undef, undef, undef, undef, undef, undef, undef, undef, undef, undef, undef, undef, undef, undef], defers := [] }) ?assign ?body ?done ?stop
  case ownx =>
    rintro cc s A B row (⟨h1, h2⟩ | ⟨⟨h1, h2⟩, h3⟩) hgr hr
    · exact .inl ⟨h1, h2⟩
    · exact .inr ⟨⟨h1, cell_kept h2 hgr (fun r e => (hr r e).2)⟩, h3.grown hgr (by have := h3.size; omega) (fun k e => by have := (hr k e).1; simp at this; omega)⟩
  case assign =>
    intro l k W K hK
    gi_wp2
    exact hK
  case body =>
    rintro l pre k W ⟨⟨hpre, hlt, hc, hf⟩, hB⟩ _
    have h2 := (hB.cell (p := ⟨g, 0, none⟩) (by simp; omega)).trans j2
    have h0 := (hB.cell (p := ⟨w.heap.size, 0, none⟩) (by simp; omega)).trans j0
    have h1 := (hB.cell (p := ⟨w.heap.size + 1, 0, none⟩) (by simp; omega)).trans j1
    have hf1 := (hB.frozen (p := ⟨w.heap.size + 1, 0, none⟩) (by simp; omega)).trans l1
    have hpl : (prVals pre).length = pre.length := by simp [prVals]
    have hnx := fun h => next_prefix (k := k.val) hpre h
    have hno := fun h => next_of (p := prVals pre) (k := k.val) (l := bitsOf x) h
    rw [hpl, hm] at hnx hno
    rw [← prVals_snoc] at hnx hno
    by_cases hlm : pre.length < m
    · obtain ⟨gq, rfl, hgq, hq4⟩ := hIn4 pre.length hlm
      have hq := (hB.cell (p := ⟨gq, pre.length, none⟩) (by simp; omega)).trans hq4
      have hge : ¬ (m : Int) ≤ (pre.length : Int) := by omega
      have HNX := Lib.hid (hnx hlm)
      have HNO := Lib.hid hno
      clear hq4 hIn4 hnx hno
      generalize (bitsOf x).getD pre.length 0 = y at hq HNX HNO
      by_cases hk : k.val = y
      · have hkk : ((k.val : Int) != (y : Int)) = false := by rw [hk]; simp
        have HP := Lib.hid (HNX.out hk)
        clear HNX HNO
        by_cases hu1 : (pre.length : Int) + 1 = v
        · have huu : ((pre.length : Int) + 1 == v) = true := by simpa using hu1
          gi_wp2
          refine ⟨KeepsOthers.setCell _ _ _, .inr ⟨⟨rfl, ?_⟩, hB.setCell (p := ⟨g + 1 + 1, 0, none⟩) (Nat.le_refl _) _⟩⟩
          rw [← hu1]
          exact World.cell?_setCell_same' _ _ _ (by rw [hc]; rfl)
        · have huu : ((pre.length : Int) + 1 == v) = false := by simpa using hu1
          gi_wp2
          refine ⟨KeepsOthers.setCell _ _ _, (Below.refl _ W).setCell (p := ⟨g + 1 + 1, 0, none⟩) (by simp) _, ⟨HP.out, ?_, ?_, by rw [World.frozen?_setCell]; exact hf⟩, hB.setCell (p := ⟨g + 1 + 1, 0, none⟩) (Nat.le_refl _) _⟩
          · rw [List.length_append, List.length_singleton]; omega
          · rw [List.length_append, List.length_singleton]
            exact World.cell?_setCell_same' _ _ _ (by rw [hc]; rfl)
      · have hkk : ((k.val : Int) != (y : Int)) = true := by simp; omega
        have HNO2 := Lib.hid (fun h => hk (HNO.out h).2)
        clear HNX HNO
        gi_wp2
        exact ⟨KeepsOthers.setCell _ _ _, .inl ⟨rfl, HNO2.out⟩⟩
    · have hge : (m : Int) ≤ (pre.length : Int) := by omega
      have HNO2 := Lib.hid (fun h => hlm (hno h).1)
      clear hnx hno hIn4
      gi_wp2
      exact ⟨KeepsOthers.setCell _ _ _, .inl ⟨rfl, HNO2.out⟩⟩
  case done =>
    rintro D ys W hD hS ⟨⟨_, _, hc, hf⟩, hB⟩ hK
    obtain ⟨nn, hnn, hc⟩ : ∃ nn : Int, (nn = v ∨ nn = m) ∧ W.cell? ⟨g + 1 + 1, 0, none⟩ = some (.int .i64 nn) := ⟨_, .inr (by rw [← hm, ← show prVals ys = bitsOf x from hS]; simp [prVals]), hc⟩
    clear hS hf
    rw [World.size_alloc, hsz4] at hD
    have hlK : D < W.heap.size := (Array.getElem?_eq_some_iff.1 hK).1
    have z0 := (hB.cell (p := ⟨w.heap.size, 0, none⟩) (by simp; omega)).trans j0
    have z1 := (hB.cell (p := ⟨w.heap.size + 1, 0, none⟩) (by simp; omega)).trans j1
    have y1 := (hB.frozen (p := ⟨w.heap.size + 1, 0, none⟩) (by simp; omega)).trans l1
    have z2 := (hB.cell (p := ⟨g, 0, none⟩) (by simp; omega)).trans j2
    have z3 := (hB.cell (p := ⟨g + 1, 0, none⟩) (by simp)).trans j3.1
    have hIn : IntIn W q ((bitsOf x).map Int.ofNat) := by
      intro i hi
      rw [List.length_map, hm] at hi
      obtain ⟨gq, hqe, hlt, hcc⟩ := hIn4 i hi
      refine ⟨gq, 0, hqe, ?_⟩
      rw [Nat.zero_add]
      refine ((hB.cell (p := ⟨gq, i, none⟩) hlt).trans hcc).trans ?_
      simp only [List.getD_eq_getElem?_getD, List.getElem?_map]
      rw [List.getElem?_eq_getElem (by omega)]; rfl
    have hBW := hB4.trans (hB.mono (B' := w.heap.size) (by omega))
    have hEW := hE.below h8 hBW
    clear hB hIn4 hB4 j0 l0 j1 l1 j2 j3 hR4 n4 hT4
    have hWs : g + 1 + 1 < W.heap.size := World.block_lt_of_cell? _ _ hc
    obtain ⟨N, hN⟩ : ∃ N, W.heap.size = N := ⟨_, rfl⟩
    gi_wp2_with fail
    have a5 := cell_new_l W (.slice none 0 0) 24
    rw [hN] at a5 hlK hWs
    obtain ⟨i3, i2, iz, is, ib⟩ := info3
    refine wpIn_rangeFunc_ownF rfl (by omega) (gf := 29) (lb := #[.pointer (some ⟨g + 1, 0, none⟩)]) rfl trivial (enters_of Tryd.func29 (by kernel_rfl) rfl)
      (each_stops (3 - 1) (g + 1) N x (by omega) hx _ (by simp; omega) (by simp; omega) (tab_below (n₀ := w.heap.size) (by omega) ((Below.refl _ _).alloc (by omega) _) hEW.2) (cell_alloc_l _ z3)) belowK_t (belowK_b (by simp; omega)) (Below.refl _ _) (fun _ => rfl)
      (fun pre W' => (∃ q' c', W'.cell? ⟨N, 0, none⟩ = some (.slice q' pre.length c') ∧ W'.frozen? ⟨N, 0, none⟩ = false ∧ W'.ownsRow (N + 1) 3 1 (.slice q' pre.length c') pre.length (numVals (prVals pre))) ∧ Below N W W')
      (fun _ _ _ => False)
      (OwnFrom.and (Own.from (fun s A B row hs hg hr => by
        obtain ⟨q', c', h1, h2, h3⟩ := hs
        exact ⟨q', c', cell_kept h1 hg hr, (frozen_kept h1 hg hr).trans h2, Own.row h3 hg hr⟩) _) (ownFrom_below (Nat.le_of_eq hN.symm) (by simp; omega)))
      (fun _ _ _ _ _ hs _ _ => hs)
      ⟨⟨none, 0, a5.1, a5.2, World.ownsRow_nil _ _ _ _⟩, (Below.refl _ _).alloc (by omega) _⟩
      (fun k => { tmps := #[.int .u64 (x : Int), .int .i64 u, undef, .pointer (some ⟨w.heap.size, 0, none⟩), .pointer (some ⟨w.heap.size + 1, 0, none⟩), .pointer (some ⟨g, 0, none⟩), .func (.func 29) #[] #[.pointer (some ⟨g + 1, 0, none⟩)], .pointer (some ⟨w4.heap.size, 0, none⟩), undef, .pointer (some ⟨N, 0, none⟩), .int .i64 (k.val : Int), .int .u64 (x : Int), .slice q m c, .int .u64 (x : Int), .func (.func 29) #[] #[.pointer (some ⟨g + 1, 0, none⟩)], .func (.func 29) #[] #[.pointer (some ⟨g + 1, 0, none⟩)], .bool false, .int .i64 u, .bool (decide (u < 1)), .func (.func 29) #[] #[.pointer (some ⟨g + 1, 0, none⟩)], undef, undef, undef, undef, undef, undef, undef, undef, undef, undef, undef, undef, undef, undef, undef, undef, undef, undef, .func (.func 29) #[] #[.pointer (some ⟨g + 1, 0, none⟩)], .int .i64 (k.val : Int), undef, undef, undef, undef, undef, undef, undef, undef, undef, undef, undef, undef, undef, undef, undef, undef, undef, undef, undef, undef, undef], defers := [] }) ?assignA ?bodyA ?doneA ?stopA
    case assignA =>
      intro l k W' K hK'
      clear hsz4
      gi_wp2
      exact hK'
    case bodyA =>
      rintro l pre k W' ⟨⟨q', c', hc', hf', hR'⟩, hB'⟩ hlt
      have hWN : N < W'.heap.size := World.block_lt_of_cell? _ _ hc'
      have hR2 := hR'.alloc (.cells #[.int .i64 (k.val : Int)] 3)
      have hc2 := cell_alloc_l (.cells #[.int .i64 (k.val : Int)] 3) hc'
      have hf2 := frozen_alloc_l (.cells #[.int .i64 (k.val : Int)] 3) hc' hf'
      have hlt2 : N < (W'.alloc (.cells #[.int .i64 (k.val : Int)] 3)).heap.size := by simp; omega
      gi_wp2_with (gi_at_builtin; refine wpListIn_append_own _ rfl _ _ 24 rfl (N + 1) 3 i3 (.int .i64 0) 1 8 Tryd.underlying24 i2 iz is ib rfl (by omega) _ pre.length _ rfl hR2 ⟨W'.heap.size, 0, none⟩ 1 1 [.int .i64 (k.val : Int)] rfl (by simp) (newHere W' k.val) (oneHere k.val) (by unfold maxLen; omega) (by omega) (by simp; omega) ?_)
      intro v' w9 hR9 hg9 _
      obtain ⟨q2, c2, rfl⟩ := row_slice hR9
      have hblk := hg9.block N hlt2 (by intro e; have := (hR2.lt N e.symm).1; omega)
      have hc9 := (World.cell?_of_block (a := ⟨N, 0, none⟩) hblk).trans hc2
      have hf9 := (World.frozen?_of_block (a := ⟨N, 0, none⟩) hblk).trans hf2
      have hB9 : Below N W' w9 := ((Below.refl _ W').alloc (by omega) _).trans (below_own hg9 (by simp; omega) (fun j hj => by have := (hR2.lt j hj).1; omega))
      have hk9 : KeepsOthers W' w9 := (KeepsOthers.alloc W' _).trans (KeepsOthers.of_grownBy hg9 fun j o e ho => row_cells hR2 e ho)
      clear hR2 hc2 hf2 hlt2 hblk hc' hf' hR'
      gi_wp2
      have hR10 := hR9.kept (grownBy_setCell' w9 N (.slice q2 (pre.length + 1) c2)) (row_ne hR9 (Nat.lt_succ_self N))
      have hB10 : Below N W' (w9.setCell ⟨N, 0, none⟩ (.slice q2 (pre.length + 1) c2)) := hB9.setCell (p := ⟨N, 0, none⟩) (Nat.le_refl _) _
      refine ⟨hk9.trans (KeepsOthers.setCell _ _ _), hB10, ⟨q2, c2, ?_, ?_, ?_⟩, hB'.trans hB10⟩
      · rw [List.length_append, List.length_singleton]
        exact World.cell?_setCell_same' _ _ _ (by rw [hc9]; rfl)
      · rw [World.frozen?_setCell]; exact hf9
      · rw [List.length_append, List.length_singleton, prVals_snoc]
        simpa [numVals] using hR10
    case stopA =>
      rintro D2 cc pre W' _ _ h _
      exact h.elim
    case doneA =>
      rintro D2 ys2 W' hD2 hS2 ⟨⟨q', c', hc', hf', hR'⟩, hB'⟩ hK2
      have hyl : ys2.length = m := by rw [← hm, ← show prVals ys2 = bitsOf x from hS2]; simp [prVals]
      rw [show prVals ys2 = bitsOf x from hS2, hyl] at hR'
      rw [hyl] at hc'
      clear hS2
      rw [World.size_alloc, hN] at hD2
      have hl2 : D2 < W'.heap.size := (Array.getElem?_eq_some_iff.1 hK2).1
      have v0 := (hB'.cell (p := ⟨w.heap.size, 0, none⟩) (by simp; omega)).trans z0
      have v1 := (hB'.cell (p := ⟨w.heap.size + 1, 0, none⟩) (by simp; omega)).trans z1
      have u1 := (hB'.frozen (p := ⟨w.heap.size + 1, 0, none⟩) (by simp; omega)).trans y1
      have v2 := (hB'.cell (p := ⟨g, 0, none⟩) (by simp; omega)).trans z2
      have v4 := (hB'.cell (p := ⟨g + 1 + 1, 0, none⟩) (by simp; omega)).trans hc
      have hD1 : W'.heap[D]? = some (.deferred (some [])) := (hB'.block D hlK).trans hK
      have hIn1 : IntIn W' q ((bitsOf x).map Int.ofNat) := hIn.below (by rw [hN]; exact hB')
      have hIn2 : IntIn W' q' ((bitsOf x).map Int.ofNat) := row_in hm hR'
      have hcall := ints_same q' q c' c ((bitsOf x).map Int.ofNat) (by rw [List.length_map]; unfold maxLen; omega) W' hIn2 hIn1
      rw [List.length_map, hm] at hcall
      have hBW' := hBW.trans (hB'.mono (B' := w.heap.size) (by omega))
      clear z0 z1 y1 z2 z3 hc hK hIn hIn1 hIn2 hBW hB' hR' hEW
      have hcase : ((nn == v) = true) ∨ ((nn == v) = false ∧ (nn == (m : Int)) = true) := by
        by_cases h : nn = v
        · exact .inl (by simpa using h)
        · exact .inr ⟨by simpa using h, by simpa using hnn.resolve_left h⟩
      clear hnn
      gi_wp2_with fail
      refine ⟨trivial, ?_⟩
      gi_at_call 10
      refine (callsIn_wide.2 hcall).mono ?_
      rintro e w10 ⟨rfl, hb10⟩
      have s10 := hb10.size
      have t0 := (hb10.cell (p := ⟨w.heap.size, 0, none⟩) (by simp; omega)).trans v0
      have t1 := (hb10.cell (p := ⟨w.heap.size + 1, 0, none⟩) (by simp; omega)).trans v1
      have r1 := (hb10.frozen (p := ⟨w.heap.size + 1, 0, none⟩) (by simp; omega)).trans u1
      have t2 := (hb10.cell (p := ⟨g, 0, none⟩) (by simp; omega)).trans v2
      have t4 := (hb10.cell (p := ⟨g + 1 + 1, 0, none⟩) (by simp; omega)).trans v4
      have q1 := (hb10.block D (by omega)).trans hD1
      have q2 := (hb10.block D2 hl2).trans hK2
      have hBW10 := hBW'.trans (hb10.mono (B' := w.heap.size) hBW'.size)
      have haw := awake_any w10 (hE.below h8 hBW10)
      clear v0 v1 u1 v2 v4 hD1 hK2 hBW' hb10 hcall
      rcases hcase with hq1 | ⟨hq1, hq2⟩
      all_goals
        gi_wp2_with fail
        refine ⟨trivial, ?_⟩
        gi_at_call 11
        refine (callsIn_wide.2 haw).mono ?_
        rintro e w11 ⟨rfl, hb11⟩
        have p1 := (hb11.cell (p := ⟨w.heap.size + 1, 0, none⟩) (by simp; omega)).trans t1
        have o1 := (hb11.frozen (p := ⟨w.heap.size + 1, 0, none⟩) (by simp; omega)).trans r1
        have q3 := (hb11.block D (by omega)).trans q1
        have q4 := (hb11.block D2 (by omega)).trans q2
        have hBW11 := hBW10.trans (hb11.mono (B' := w.heap.size) hBW10.size)
        clear t0 t1 r1 t2 t4 q1 q2 hBW10 hb11 haw
        gi_wp2
        have q5 := (KeepsOthers.setCell w11 ⟨w.heap.size + 1, 0, none⟩ (.bool true)).same D _ q3 rfl
        have q6 := (KeepsOthers.setCell w11 ⟨w.heap.size + 1, 0, none⟩ (.bool true)).same D2 _ q4 rfl
        have q7 : ((w11.setCell ⟨w.heap.size + 1, 0, none⟩ (.bool true)).putObj D2 (.deferred none)).heap[D]? = some (.deferred (some [])) := (World.putObj_heap_other (by omega)).trans q5
        have p2 : (w11.setCell ⟨w.heap.size + 1, 0, none⟩ (.bool true)).cell? ⟨w.heap.size + 1, 0, none⟩ = some (.bool true) := World.cell?_setCell_same' _ _ _ (by rw [p1]; rfl)
        have p3 := cell_kept p2 (grownBy_putObj' _ D2 (.deferred none)) (fun r e => by cases e; exact ⟨_, q6, rfl⟩)
        have p4 := cell_kept p3 (grownBy_putObj' _ D (.deferred none)) (fun r e => by cases e; exact ⟨_, q7, rfl⟩)
        refine ⟨by simp, .inl ⟨_, _, rfl, run_takeDeferred q6, ⟨by simp, .inl ⟨_, _, rfl, run_takeDeferred q7, ?_⟩⟩⟩⟩
        exact ⟨_, results3 _ _ (w.heap.size + 1) true rfl p4, rfl, ((hBW11.setCell (p := ⟨w.heap.size + 1, 0, none⟩) (by simp) _).trans (belowK_b (w := w) (Nat.le_refl _) _ D2 _ _ (by omega) q6 rfl rfl)).trans (belowK_b (w := w) (Nat.le_refl _) _ D _ _ (by omega) q7 rfl rfl)⟩
  case stop =>
    rintro D cc pre W hD hpre (⟨rfl, hno⟩ | ⟨⟨rfl, hc⟩, hB⟩) hK
    · exact absurd hpre hno
    clear hpre
    obtain ⟨nn, hnn, hc⟩ : ∃ nn : Int, (nn = v ∨ nn = m) ∧ W.cell? ⟨g + 1 + 1, 0, none⟩ = some (.int .i64 nn) := ⟨_, .inl rfl, hc⟩
    rw [World.size_alloc, hsz4] at hD
    have hlK : D < W.heap.size := (Array.getElem?_eq_some_iff.1 hK).1
    have z0 := (hB.cell (p := ⟨w.heap.size, 0, none⟩) (by simp; omega)).trans j0
    have z1 := (hB.cell (p := ⟨w.heap.size + 1, 0, none⟩) (by simp; omega)).trans j1
    have y1 := (hB.frozen (p := ⟨w.heap.size + 1, 0, none⟩) (by simp; omega)).trans l1
    have z2 := (hB.cell (p := ⟨g, 0, none⟩) (by simp; omega)).trans j2
    have z3 := (hB.cell (p := ⟨g + 1, 0, none⟩) (by simp)).trans j3.1
    have hIn : IntIn W q ((bitsOf x).map Int.ofNat) := by
      intro i hi
      rw [List.length_map, hm] at hi
      obtain ⟨gq, hqe, hlt, hcc⟩ := hIn4 i hi
      refine ⟨gq, 0, hqe, ?_⟩
      rw [Nat.zero_add]
      refine ((hB.cell (p := ⟨gq, i, none⟩) hlt).trans hcc).trans ?_
      simp only [List.getD_eq_getElem?_getD, List.getElem?_map]
      rw [List.getElem?_eq_getElem (by omega)]; rfl
    have hBW := hB4.trans (hB.mono (B' := w.heap.size) (by omega))
    have hEW := hE.below h8 hBW
    clear hB hIn4 hB4 j0 l0 j1 l1 j2 j3 hR4 n4 hT4
    have hWs : g + 1 + 1 < W.heap.size := World.block_lt_of_cell? _ _ hc
    obtain ⟨N, hN⟩ : ∃ N, W.heap.size = N := ⟨_, rfl⟩
    gi_wp2_with fail
    have a5 := cell_new_l W (.slice none 0 0) 24
    rw [hN] at a5 hlK hWs
    obtain ⟨i3, i2, iz, is, ib⟩ := info3
    refine wpIn_rangeFunc_ownF rfl (by omega) (gf := 29) (lb := #[.pointer (some ⟨g + 1, 0, none⟩)]) rfl trivial (enters_of Tryd.func29 (by kernel_rfl) rfl)
      (each_stops (3 - 1) (g + 1) N x (by omega) hx _ (by simp; omega) (by simp; omega) (tab_below (n₀ := w.heap.size) (by omega) ((Below.refl _ _).alloc (by omega) _) hEW.2) (cell_alloc_l _ z3)) belowK_t (belowK_b (by simp; omega)) (Below.refl _ _) (fun _ => rfl)
      (fun pre W' => (∃ q' c', W'.cell? ⟨N, 0, none⟩ = some (.slice q' pre.length c') ∧ W'.frozen? ⟨N, 0, none⟩ = false ∧ W'.ownsRow (N + 1) 3 1 (.slice q' pre.length c') pre.length (numVals (prVals pre))) ∧ Below N W W')
      (fun _ _ _ => False)
      (OwnFrom.and (Own.from (fun s A B row hs hg hr => by
        obtain ⟨q', c', h1, h2, h3⟩ := hs
        exact ⟨q', c', cell_kept h1 hg hr, (frozen_kept h1 hg hr).trans h2, Own.row h3 hg hr⟩) _) (ownFrom_below (Nat.le_of_eq hN.symm) (by simp; omega)))
      (fun _ _ _ _ _ hs _ _ => hs)
      ⟨⟨none, 0, a5.1, a5.2, World.ownsRow_nil _ _ _ _⟩, (Below.refl _ _).alloc (by omega) _⟩
      (fun k => { tmps := #[.int .u64 (x : Int), .int .i64 u, undef, .pointer (some ⟨w.heap.size, 0, none⟩), .pointer (some ⟨w.heap.size + 1, 0, none⟩), .pointer (some ⟨g, 0, none⟩), .func (.func 29) #[] #[.pointer (some ⟨g + 1, 0, none⟩)], .pointer (some ⟨w4.heap.size, 0, none⟩), undef, .pointer (some ⟨N, 0, none⟩), .int .i64 (k.val : Int), .int .u64 (x : Int), .slice q m c, .int .u64 (x : Int), .func (.func 29) #[] #[.pointer (some ⟨g + 1, 0, none⟩)], .func (.func 29) #[] #[.pointer (some ⟨g + 1, 0, none⟩)], .bool false, .int .i64 u, .bool (decide (u < 1)), .func (.func 29) #[] #[.pointer (some ⟨g + 1, 0, none⟩)], undef, undef, undef, undef, undef, undef, undef, undef, undef, undef, undef, undef, undef, undef, undef, undef, undef, undef, .func (.func 29) #[] #[.pointer (some ⟨g + 1, 0, none⟩)], .int .i64 (k.val : Int), undef, undef, undef, undef, undef, undef, undef, undef, undef, undef, undef, undef, undef, undef, undef, undef, undef, undef, undef, undef, undef], defers := [] }) ?assignB ?bodyB ?doneB ?stopB
    case assignB =>
      intro l k W' K hK'
      clear hsz4
      gi_wp2
      exact hK'
    case bodyB =>
      rintro l pre k W' ⟨⟨q', c', hc', hf', hR'⟩, hB'⟩ hlt
      have hWN : N < W'.heap.size := World.block_lt_of_cell? _ _ hc'
      have hR2 := hR'.alloc (.cells #[.int .i64 (k.val : Int)] 3)
      have hc2 := cell_alloc_l (.cells #[.int .i64 (k.val : Int)] 3) hc'
      have hf2 := frozen_alloc_l (.cells #[.int .i64 (k.val : Int)] 3) hc' hf'
      have hlt2 : N < (W'.alloc (.cells #[.int .i64 (k.val : Int)] 3)).heap.size := by simp; omega
      gi_wp2_with (gi_at_builtin; refine wpListIn_append_own _ rfl _ _ 24 rfl (N + 1) 3 i3 (.int .i64 0) 1 8 Tryd.underlying24 i2 iz is ib rfl (by omega) _ pre.length _ rfl hR2 ⟨W'.heap.size, 0, none⟩ 1 1 [.int .i64 (k.val : Int)] rfl (by simp) (newHere W' k.val) (oneHere k.val) (by unfold maxLen; omega) (by omega) (by simp; omega) ?_)
      intro v' w9 hR9 hg9 _
      obtain ⟨q2, c2, rfl⟩ := row_slice hR9
      have hblk := hg9.block N hlt2 (by intro e; have := (hR2.lt N e.symm).1; omega)
      have hc9 := (World.cell?_of_block (a := ⟨N, 0, none⟩) hblk).trans hc2
      have hf9 := (World.frozen?_of_block (a := ⟨N, 0, none⟩) hblk).trans hf2
      have hB9 : Below N W' w9 := ((Below.refl _ W').alloc (by omega) _).trans (below_own hg9 (by simp; omega) (fun j hj => by have := (hR2.lt j hj).1; omega))
      have hk9 : KeepsOthers W' w9 := (KeepsOthers.alloc W' _).trans (KeepsOthers.of_grownBy hg9 fun j o e ho => row_cells hR2 e ho)
      clear hR2 hc2 hf2 hlt2 hblk hc' hf' hR'
      gi_wp2
      have hR10 := hR9.kept (grownBy_setCell' w9 N (.slice q2 (pre.length + 1) c2)) (row_ne hR9 (Nat.lt_succ_self N))
      have hB10 : Below N W' (w9.setCell ⟨N, 0, none⟩ (.slice q2 (pre.length + 1) c2)) := hB9.setCell (p := ⟨N, 0, none⟩) (Nat.le_refl _) _
      refine ⟨hk9.trans (KeepsOthers.setCell _ _ _), hB10, ⟨q2, c2, ?_, ?_, ?_⟩, hB'.trans hB10⟩
      · rw [List.length_append, List.length_singleton]
        exact World.cell?_setCell_same' _ _ _ (by rw [hc9]; rfl)
      · rw [World.frozen?_setCell]; exact hf9
      · rw [List.length_append, List.length_singleton, prVals_snoc]
        simpa [numVals] using hR10
    case stopB =>
      rintro D2 cc pre W' _ _ h _
      exact h.elim
    case doneB =>
      rintro D2 ys2 W' hD2 hS2 ⟨⟨q', c', hc', hf', hR'⟩, hB'⟩ hK2
      have hyl : ys2.length = m := by rw [← hm, ← show prVals ys2 = bitsOf x from hS2]; simp [prVals]
      rw [show prVals ys2 = bitsOf x from hS2, hyl] at hR'
      rw [hyl] at hc'
      clear hS2
      rw [World.size_alloc, hN] at hD2
      have hl2 : D2 < W'.heap.size := (Array.getElem?_eq_some_iff.1 hK2).1
      have v0 := (hB'.cell (p := ⟨w.heap.size, 0, none⟩) (by simp; omega)).trans z0
      have v1 := (hB'.cell (p := ⟨w.heap.size + 1, 0, none⟩) (by simp; omega)).trans z1
      have u1 := (hB'.frozen (p := ⟨w.heap.size + 1, 0, none⟩) (by simp; omega)).trans y1
      have v2 := (hB'.cell (p := ⟨g, 0, none⟩) (by simp; omega)).trans z2
      have v4 := (hB'.cell (p := ⟨g + 1 + 1, 0, none⟩) (by simp; omega)).trans hc
      have hD1 : W'.heap[D]? = some (.deferred (some [])) := (hB'.block D hlK).trans hK
      have hIn1 : IntIn W' q ((bitsOf x).map Int.ofNat) := hIn.below (by rw [hN]; exact hB')
      have hIn2 : IntIn W' q' ((bitsOf x).map Int.ofNat) := row_in hm hR'
      have hcall := ints_same q' q c' c ((bitsOf x).map Int.ofNat) (by rw [List.length_map]; unfold maxLen; omega) W' hIn2 hIn1
      rw [List.length_map, hm] at hcall
      have hBW' := hBW.trans (hB'.mono (B' := w.heap.size) (by omega))
      clear z0 z1 y1 z2 z3 hc hK hIn hIn1 hIn2 hBW hB' hR' hEW
      have hcase : ((nn == v) = true) ∨ ((nn == v) = false ∧ (nn == (m : Int)) = true) := by
        by_cases h : nn = v
        · exact .inl (by simpa using h)
        · exact .inr ⟨by simpa using h, by simpa using hnn.resolve_left h⟩
      clear hnn
      gi_wp2_with fail
      refine ⟨trivial, ?_⟩
      gi_at_call 10
      refine (callsIn_wide.2 hcall).mono ?_
      rintro e w10 ⟨rfl, hb10⟩
      have s10 := hb10.size
      have t0 := (hb10.cell (p := ⟨w.heap.size, 0, none⟩) (by simp; omega)).trans v0
      have t1 := (hb10.cell (p := ⟨w.heap.size + 1, 0, none⟩) (by simp; omega)).trans v1
      have r1 := (hb10.frozen (p := ⟨w.heap.size + 1, 0, none⟩) (by simp; omega)).trans u1
      have t2 := (hb10.cell (p := ⟨g, 0, none⟩) (by simp; omega)).trans v2
      have t4 := (hb10.cell (p := ⟨g + 1 + 1, 0, none⟩) (by simp; omega)).trans v4
      have q1 := (hb10.block D (by omega)).trans hD1
      have q2 := (hb10.block D2 hl2).trans hK2
      have hBW10 := hBW'.trans (hb10.mono (B' := w.heap.size) hBW'.size)
      have haw := awake_any w10 (hE.below h8 hBW10)
      clear v0 v1 u1 v2 v4 hD1 hK2 hBW' hb10 hcall
      rcases hcase with hq1 | ⟨hq1, hq2⟩
      all_goals
        gi_wp2_with fail
        refine ⟨trivial, ?_⟩
        gi_at_call 11
        refine (callsIn_wide.2 haw).mono ?_
        rintro e w11 ⟨rfl, hb11⟩
        have p1 := (hb11.cell (p := ⟨w.heap.size + 1, 0, none⟩) (by simp; omega)).trans t1
        have o1 := (hb11.frozen (p := ⟨w.heap.size + 1, 0, none⟩) (by simp; omega)).trans r1
        have q3 := (hb11.block D (by omega)).trans q1
        have q4 := (hb11.block D2 (by omega)).trans q2
        have hBW11 := hBW10.trans (hb11.mono (B' := w.heap.size) hBW10.size)
        clear t0 t1 r1 t2 t4 q1 q2 hBW10 hb11 haw
        gi_wp2
        have q5 := (KeepsOthers.setCell w11 ⟨w.heap.size + 1, 0, none⟩ (.bool true)).same D _ q3 rfl
        have q6 := (KeepsOthers.setCell w11 ⟨w.heap.size + 1, 0, none⟩ (.bool true)).same D2 _ q4 rfl
        have q7 : ((w11.setCell ⟨w.heap.size + 1, 0, none⟩ (.bool true)).putObj D2 (.deferred none)).heap[D]? = some (.deferred (some [])) := (World.putObj_heap_other (by omega)).trans q5
        have p2 : (w11.setCell ⟨w.heap.size + 1, 0, none⟩ (.bool true)).cell? ⟨w.heap.size + 1, 0, none⟩ = some (.bool true) := World.cell?_setCell_same' _ _ _ (by rw [p1]; rfl)
        have p3 := cell_kept p2 (grownBy_putObj' _ D2 (.deferred none)) (fun r e => by cases e; exact ⟨_, q6, rfl⟩)
        have p4 := cell_kept p3 (grownBy_putObj' _ D (.deferred none)) (fun r e => by cases e; exact ⟨_, q7, rfl⟩)
        refine ⟨by simp, .inl ⟨_, _, rfl, run_takeDeferred q6, ⟨by simp, .inl ⟨_, _, rfl, run_takeDeferred q7, ?_⟩⟩⟩⟩
        exact ⟨_, results3 _ _ (w.heap.size + 1) true rfl p4, rfl, ((hBW11.setCell (p := ⟨w.heap.size + 1, 0, none⟩) (by simp) _).trans (belowK_b (w := w) (Nat.le_refl _) _ D2 _ _ (by omega) q6 rfl rfl)).trans (belowK_b (w := w) (Nat.le_refl _) _ D _ _ (by omega) q7 rfl rfl)⟩

set_option maxRecDepth 100000 in
set_option maxHeartbeats 2000000 in
theorem each_low (x : Nat) (hx : x < 18446744073709551616) (u : Int) (hu0 : u < 1) (w : World) (hE : Env w) :
    Calls Tryd.prog 3 #[.int .u64 (x : Int), .int .i64 u] w fun e w' => e = .returned (.bool true) ∧ Below w.heap.size w w' := by
  have h8 := hE.1.2.2
  have hr := refnums_s x hx
  have hfn := func_nil
  have hlen64 : (bitsOf x).length ≤ 64 := (bitsOf_length x).symm ▸ popN_le 64 x
  obtain ⟨m, hm⟩ : ∃ m, (bitsOf x).length = m := ⟨_, rfl⟩
  rw [hm] at hr
  refine (callsIn_wide (n := 3)).1 ?_
  refine callsIn_of_wp_marks Tryd.func3 rfl trivial ?_ rfl
  simp only [Tryd.ntmps3, List.size_toArray, List.length_cons, List.length_nil, Nat.reduceAdd, Nat.reduceSub, Array.replicate_succ, Array.replicate_zero, List.push_toArray, List.append_toArray, List.nil_append, List.cons_append]
  gi_wp2
  refine ⟨trivial, ?_⟩
  gi_at_call 8
  refine (callsIn_wide.2 (hr _)).mono ?_
  rintro e w1 ⟨q, c, rfl, hR, hb1⟩
  have c0 := cell_new_l w (.int .i64 u) 3
  have c1 := cell_new_l (w.alloc (.cells #[.int .i64 u] 3)) (.bool false) 4
  rw [World.size_alloc] at c1
  have hB2 : Below w.heap.size w ((w.alloc (.cells #[.int .i64 u] 3)).alloc (.cells #[.bool false] 4)) := ((Below.refl _ w).alloc (Nat.le_refl _) _).alloc (by simp) _
  have hsz2 : ((w.alloc (.cells #[.int .i64 u] 3)).alloc (.cells #[.bool false] 4)).heap.size = w.heap.size + 1 + 1 := by simp
  have c0' := cell_alloc_l (.cells #[.bool false] 4) c0.1
  have f0' := frozen_alloc_l (.cells #[.bool false] 4) c0.1 c0.2
  generalize ((w.alloc (.cells #[.int .i64 u] 3)).alloc (.cells #[.bool false] 4)) = w2 at *
  have hB1 := hB2.trans (hb1.mono (by omega))
  have d0 := (hb1.cell (p := ⟨w.heap.size, 0, none⟩) (by simp; omega)).trans c0'
  have e0 := (hb1.frozen (p := ⟨w.heap.size, 0, none⟩) (by simp; omega)).trans f0'
  have d1 := (hb1.cell (p := ⟨w.heap.size + 1, 0, none⟩) (by simp; omega)).trans c1.1
  have e1 := (hb1.frozen (p := ⟨w.heap.size + 1, 0, none⟩) (by simp; omega)).trans c1.2
  have hs1 := hb1.size
  rw [hsz2] at hs1
  have hRb := hR.mono (base' := w.heap.size + 1) (by omega)
  clear c0 c1 c0' f0' hb1 hB2 hsz2 hr hR
  gi_wp2_with fail
  have g2 := cell_new_l w1 (.slice q m c) 24
  have g0 := cell_alloc_l (.cells #[.slice q m c] 24) d0
  have k0 := frozen_alloc_l (.cells #[.slice q m c] 24) d0 e0
  have g1 := cell_alloc_l (.cells #[.slice q m c] 24) d1
  have k1 := frozen_alloc_l (.cells #[.slice q m c] 24) d1 e1
  have hR3 := hRb.alloc (.cells #[.slice q m c] 24)
  have hB3 : Below w.heap.size w (w1.alloc (.cells #[.slice q m c] 24)) := hB1.alloc (by omega) _
  have hsz3 : (w1.alloc (.cells #[.slice q m c] 24)).heap.size = w1.heap.size + 1 := by simp
  generalize w1.heap.size = g at *
  generalize (w1.alloc (.cells #[.slice q m c] 24)) = w3 at *
  clear d0 e0 d1 e1 hRb hB1
  refine ⟨trivial, ?_⟩
  gi_at_call 9
  refine (callsIn_wide.2 (each_any x w3)).mono ?_
  rintro e w' ⟨rfl, rfl⟩
  have j3 := cell_new_l w3 (.int .u64 (x : Int)) 23
  have j0 := cell_alloc_l (.cells #[.int .u64 (x : Int)] 23) g0
  have l0 := frozen_alloc_l (.cells #[.int .u64 (x : Int)] 23) g0 k0
  have j1 := cell_alloc_l (.cells #[.int .u64 (x : Int)] 23) g1
  have l1 := frozen_alloc_l (.cells #[.int .u64 (x : Int)] 23) g1 k1
  have j2 := cell_alloc_l (.cells #[.int .u64 (x : Int)] 23) g2.1
  have hR4 := hR3.alloc (.cells #[.int .u64 (x : Int)] 23)
  have hB4 : Below w.heap.size w (w3.alloc (.cells #[.int .u64 (x : Int)] 23)) := hB3.alloc (by omega) _
  have hsz4 : (w3.alloc (.cells #[.int .u64 (x : Int)] 23)).heap.size = g + 1 + 1 := by simp [hsz3]
  rw [hsz3] at j3 ⊢
  generalize (w3.alloc (.cells #[.int .u64 (x : Int)] 23)) = w4 at *
  clear g0 k0 g1 k1 g2 hR3 hB3 hsz3
  -- LOOP1
  have HSZ4 := Lib.hid hsz4
  clear hsz4
  gi_wp2_with fail
  have hsz4 := HSZ4.out
  clear HSZ4
  have x0 : (w4.setCell ⟨w.heap.size, 0, none⟩ (.int .i64 1)).cell? ⟨w.heap.size, 0, none⟩ = some (.int .i64 1) := World.cell?_setCell_same' _ _ _ (by rw [j0]; rfl)
  have x1 := (World.cell?_setCell_other w4 ⟨w.heap.size, 0, none⟩ ⟨w.heap.size + 1, 0, none⟩ (.int .i64 1) (by simp)).trans j1
  have v1 := (World.frozen?_setCell w4 ⟨w.heap.size, 0, none⟩ ⟨w.heap.size + 1, 0, none⟩ (.int .i64 1)).trans l1
  have x2 := (World.cell?_setCell_other w4 ⟨w.heap.size, 0, none⟩ ⟨g, 0, none⟩ (.int .i64 1) (by simp <;> omega)).trans j2
  have x3 : (w4.setCell ⟨w.heap.size, 0, none⟩ (.int .i64 1)).cell? ⟨g + 1, 0, none⟩ = some (.int .u64 (x : Int)) := (World.cell?_setCell_other w4 ⟨w.heap.size, 0, none⟩ ⟨g + 1, 0, none⟩ (.int .i64 1) (by simp <;> omega)).trans j3.1
  have xR := hR4.kept (grownBy_setCell' w4 w.heap.size (.int .i64 1)) (row_ne hR4 (Nat.lt_succ_self _))
  have xB := hB4.setCell (p := ⟨w.heap.size, 0, none⟩) (Nat.le_refl _) (.int .i64 1)
  have hsz5 : (w4.setCell ⟨w.heap.size, 0, none⟩ (.int .i64 1)).heap.size = g + 1 + 1 := by simpa using hsz4
  clear j0 j1 l1 j2 j3 hR4 hB4 l0
  generalize (w4.setCell ⟨w.heap.size, 0, none⟩ (.int .i64 1)) = w5 at *
  have j3 := And.intro x3 True.intro
  have j1 := x1
  have l1 := v1
  have j2 := x2
  have hR4 := xR
  have hB4 := xB
  obtain ⟨v, hv⟩ : ∃ v, (1 : Int) = v := ⟨_, rfl⟩
  have hv0 : 1 ≤ v := by omega
  have j0 := x0
  rw [hv] at j0
  have hv2 : v ≤ 9223372036854775807 := by omega
  clear hv
  have l0 := True.intro
  clear x0 x1 v1 x2 x3 xR xB
  have n4 := cell_new_l w5 (.int .i64 0) 3
  rw [hsz5] at n4
  have hT4 := tab_below (n₀ := w.heap.size) (by omega) hB4 hE.2
  have hg : w.heap.size + 2 ≤ g := by omega
  have hIn4 : ∀ i, i < m → ∃ gq, q = some ⟨gq, 0, none⟩ ∧ gq < g + 1 + 1 ∧ w5.cell? ⟨gq, i, none⟩ = some (.int .i64 (((bitsOf x).getD i 0 : Nat) : Int)) := by
    intro i hi
    rcases hR4.2 with ⟨h0, _⟩ | ⟨gq, cap, cur, h0, _, _, _⟩
    · omega
    · simp only [Value.slice.injEq, true_and] at h0
      obtain ⟨rfl, rfl⟩ := h0
      have hc := hR4.cellAt i (by omega)
      refine ⟨gq, rfl, by have := (hR4.lt gq rfl).2; omega, hc.trans ?_⟩
      simp only [numVals, List.getElem?_map, List.getD_eq_getElem?_getD]
      rw [List.getElem?_eq_getElem (by omega)]; rfl
  refine wpIn_rangeFunc_ownF rfl (by omega) (gf := 29) (lb := #[.pointer (some ⟨g + 1, 0, none⟩)]) rfl trivial (enters_of Tryd.func29 (by kernel_rfl) rfl)
    (each_stops (3 - 1) (g + 1) (g + 1 + 1) x (by omega) hx _ (by simp; omega) (by simp; omega) (tab_below (n₀ := w5.heap.size) (by omega) ((Below.refl _ _).alloc (Nat.le_refl _) _) hT4) (cell_alloc_l _ j3.1)) belowK_t (belowK_b (by simp; omega)) (Below.refl _ _) (fun _ => rfl)
    (fun pre W => (prVals pre <+: bitsOf x ∧ (pre.length : Int) < v ∧ W.cell? ⟨g + 1 + 1, 0, none⟩ = some (.int .i64 (pre.length : Int)) ∧ W.frozen? ⟨g + 1 + 1, 0, none⟩ = false) ∧ Below (g + 1 + 1) w5 W)
    (fun cc pre W => (cc = .ret ∧ ¬ prVals pre <+: bitsOf x) ∨ ((cc = .exit 0 ∧ W.cell? ⟨g + 1 + 1, 0, none⟩ = some (.int .i64 v)) ∧ Below (g + 1 + 1) w5 W))
    (OwnFrom.and (Own.from (fun s A B row hs hg hr => ⟨hs.1, hs.2.1, cell_kept hs.2.2.1 hg hr, (frozen_kept hs.2.2.1 hg hr).trans hs.2.2.2⟩) _) (ownFrom_below (Nat.le_of_eq hsz5.symm) (by simp; omega)))
    ?ownx
    ⟨⟨⟨bitsOf x, rfl⟩, by simp; omega, n4.1, n4.2⟩, (Below.refl _ _).alloc (by omega) _⟩
    (fun k => { tmps := #[.int .u64 (x : Int), .int .i64 u, undef, .pointer (some ⟨w.heap.size, 0, none⟩), .pointer (some ⟨w.heap.size + 1, 0, none⟩), .pointer (some ⟨g, 0, none⟩), .func (.func 29) #[] #[.pointer (some ⟨g + 1, 0, none⟩)], .pointer (some ⟨g + 1 + 1, 0, none⟩), .int .i64 (k.val : Int), undef, undef, .int .u64 (x : Int), .slice q m c, .int .u64 (x : Int), .func (.func 29) #[] #[.pointer (some ⟨g + 1, 0, none⟩)], .func (.func 29) #[] #[.pointer (some ⟨g + 1, 0, none⟩)], .bool false, .int .i64 u, .bool true, .func (.func 29) #[] #[.pointer (some ⟨g + 1, 0, none⟩)], .int .i64 (k.val : Int), undef, undef, undef, undef, undef, undef, undef, undef, undef, undef, undef, undef, undef, undef, undef, undef, undef, undef, undef, undef, undef, undef, undef, undef, undef, undef, undef, undef, undef, undef, undef, undef, undef, undef, undef, undef, undef, undef, undef, undef], defers := [] }) ?assign ?body ?done ?stop
  case ownx =>
    rintro cc s A B row (⟨h1, h2⟩ | ⟨⟨h1, h2⟩, h3⟩) hgr hr
    · exact .inl ⟨h1, h2⟩
    · exact .inr ⟨⟨h1, cell_kept h2 hgr (fun r e => (hr r e).2)⟩, h3.grown hgr (by have := h3.size; omega) (fun k e => by have := (hr k e).1; simp at this; omega)⟩
  case assign =>
    intro l k W K hK
    clear hu0
    gi_wp2
    exact hK
  case body =>
    rintro l pre k W ⟨⟨hpre, hlt, hc, hf⟩, hB⟩ _
    have h2 := (hB.cell (p := ⟨g, 0, none⟩) (by simp; omega)).trans j2
    have h0 := (hB.cell (p := ⟨w.heap.size, 0, none⟩) (by simp; omega)).trans j0
    have h1 := (hB.cell (p := ⟨w.heap.size + 1, 0, none⟩) (by simp; omega)).trans j1
    have hf1 := (hB.frozen (p := ⟨w.heap.size + 1, 0, none⟩) (by simp; omega)).trans l1
    have hpl : (prVals pre).length = pre.length := by simp [prVals]
    have hnx := fun h => next_prefix (k := k.val) hpre h
    have hno := fun h => next_of (p := prVals pre) (k := k.val) (l := bitsOf x) h
    rw [hpl, hm] at hnx hno
    rw [← prVals_snoc] at hnx hno
    by_cases hlm : pre.length < m
    · obtain ⟨gq, rfl, hgq, hq4⟩ := hIn4 pre.length hlm
      have hq := (hB.cell (p := ⟨gq, pre.length, none⟩) (by simp; omega)).trans hq4
      have hge : ¬ (m : Int) ≤ (pre.length : Int) := by omega
      have HNX := Lib.hid (hnx hlm)
      have HNO := Lib.hid hno
      clear hq4 hIn4 hnx hno
      generalize (bitsOf x).getD pre.length 0 = y at hq HNX HNO
      by_cases hk : k.val = y
      · have hkk : ((k.val : Int) != (y : Int)) = false := by rw [hk]; simp
        have HP := Lib.hid (HNX.out hk)
        clear HNX HNO
        by_cases hu1 : (pre.length : Int) + 1 = v
        · have huu : ((pre.length : Int) + 1 == v) = true := by simpa using hu1
          gi_wp2
          refine ⟨KeepsOthers.setCell _ _ _, .inr ⟨⟨rfl, ?_⟩, hB.setCell (p := ⟨g + 1 + 1, 0, none⟩) (Nat.le_refl _) _⟩⟩
          rw [← hu1]
          exact World.cell?_setCell_same' _ _ _ (by rw [hc]; rfl)
        · have huu : ((pre.length : Int) + 1 == v) = false := by simpa using hu1
          gi_wp2
          refine ⟨KeepsOthers.setCell _ _ _, (Below.refl _ W).setCell (p := ⟨g + 1 + 1, 0, none⟩) (by simp) _, ⟨HP.out, ?_, ?_, by rw [World.frozen?_setCell]; exact hf⟩, hB.setCell (p := ⟨g + 1 + 1, 0, none⟩) (Nat.le_refl _) _⟩
          · rw [List.length_append, List.length_singleton]; omega
          · rw [List.length_append, List.length_singleton]
            exact World.cell?_setCell_same' _ _ _ (by rw [hc]; rfl)
      · have hkk : ((k.val : Int) != (y : Int)) = true := by simp; omega
        have HNO2 := Lib.hid (fun h => hk (HNO.out h).2)
        clear HNX HNO
        gi_wp2
        exact ⟨KeepsOthers.setCell _ _ _, .inl ⟨rfl, HNO2.out⟩⟩
    · have hge : (m : Int) ≤ (pre.length : Int) := by omega
      have HNO2 := Lib.hid (fun h => hlm (hno h).1)
      clear hnx hno hIn4
      gi_wp2
      exact ⟨KeepsOthers.setCell _ _ _, .inl ⟨rfl, HNO2.out⟩⟩
  case done =>
    rintro D ys W hD hS ⟨⟨_, _, hc, hf⟩, hB⟩ hK
    obtain ⟨nn, hnn, hc⟩ : ∃ nn : Int, (nn = v ∨ nn = m) ∧ W.cell? ⟨g + 1 + 1, 0, none⟩ = some (.int .i64 nn) := ⟨_, .inr (by rw [← hm, ← show prVals ys = bitsOf x from hS]; simp [prVals]), hc⟩
    clear hS hf
    rw [World.size_alloc, hsz5] at hD
    have hlK : D < W.heap.size := (Array.getElem?_eq_some_iff.1 hK).1
    have z0 := (hB.cell (p := ⟨w.heap.size, 0, none⟩) (by simp; omega)).trans j0
    have z1 := (hB.cell (p := ⟨w.heap.size + 1, 0, none⟩) (by simp; omega)).trans j1
    have y1 := (hB.frozen (p := ⟨w.heap.size + 1, 0, none⟩) (by simp; omega)).trans l1
    have z2 := (hB.cell (p := ⟨g, 0, none⟩) (by simp; omega)).trans j2
    have z3 := (hB.cell (p := ⟨g + 1, 0, none⟩) (by simp)).trans j3.1
    have hIn : IntIn W q ((bitsOf x).map Int.ofNat) := by
      intro i hi
      rw [List.length_map, hm] at hi
      obtain ⟨gq, hqe, hlt, hcc⟩ := hIn4 i hi
      refine ⟨gq, 0, hqe, ?_⟩
      rw [Nat.zero_add]
      refine ((hB.cell (p := ⟨gq, i, none⟩) hlt).trans hcc).trans ?_
      simp only [List.getD_eq_getElem?_getD, List.getElem?_map]
      rw [List.getElem?_eq_getElem (by omega)]; rfl
    have hBW := hB4.trans (hB.mono (B' := w.heap.size) (by omega))
    have hEW := hE.below h8 hBW
    clear hB hIn4 hB4 j0 l0 j1 l1 j2 j3 hR4 n4 hT4
    have hWs : g + 1 + 1 < W.heap.size := World.block_lt_of_cell? _ _ hc
    obtain ⟨N, hN⟩ : ∃ N, W.heap.size = N := ⟨_, rfl⟩
    gi_wp2_with fail
    have a5 := cell_new_l W (.slice none 0 0) 24
    rw [hN] at a5 hlK hWs
    obtain ⟨i3, i2, iz, is, ib⟩ := info3
    refine wpIn_rangeFunc_ownF rfl (by omega) (gf := 29) (lb := #[.pointer (some ⟨g + 1, 0, none⟩)]) rfl trivial (enters_of Tryd.func29 (by kernel_rfl) rfl)
      (each_stops (3 - 1) (g + 1) N x (by omega) hx _ (by simp; omega) (by simp; omega) (tab_below (n₀ := w.heap.size) (by omega) ((Below.refl _ _).alloc (by omega) _) hEW.2) (cell_alloc_l _ z3)) belowK_t (belowK_b (by simp; omega)) (Below.refl _ _) (fun _ => rfl)
      (fun pre W' => (∃ q' c', W'.cell? ⟨N, 0, none⟩ = some (.slice q' pre.length c') ∧ W'.frozen? ⟨N, 0, none⟩ = false ∧ W'.ownsRow (N + 1) 3 1 (.slice q' pre.length c') pre.length (numVals (prVals pre))) ∧ Below N W W')
      (fun _ _ _ => False)
      (OwnFrom.and (Own.from (fun s A B row hs hg hr => by
        obtain ⟨q', c', h1, h2, h3⟩ := hs
        exact ⟨q', c', cell_kept h1 hg hr, (frozen_kept h1 hg hr).trans h2, Own.row h3 hg hr⟩) _) (ownFrom_below (Nat.le_of_eq hN.symm) (by simp; omega)))
      (fun _ _ _ _ _ hs _ _ => hs)
      ⟨⟨none, 0, a5.1, a5.2, World.ownsRow_nil _ _ _ _⟩, (Below.refl _ _).alloc (by omega) _⟩
      (fun k => { tmps := #[.int .u64 (x : Int), .int .i64 u, undef, .pointer (some ⟨w.heap.size, 0, none⟩), .pointer (some ⟨w.heap.size + 1, 0, none⟩), .pointer (some ⟨g, 0, none⟩), .func (.func 29) #[] #[.pointer (some ⟨g + 1, 0, none⟩)], .pointer (some ⟨w4.heap.size, 0, none⟩), undef, .pointer (some ⟨N, 0, none⟩), .int .i64 (k.val : Int), .int .u64 (x : Int), .slice q m c, .int .u64 (x : Int), .func (.func 29) #[] #[.pointer (some ⟨g + 1, 0, none⟩)], .func (.func 29) #[] #[.pointer (some ⟨g + 1, 0, none⟩)], .bool false, .int .i64 u, .bool true, .func (.func 29) #[] #[.pointer (some ⟨g + 1, 0, none⟩)], undef, undef, undef, undef, undef, undef, undef, undef, undef, undef, undef, undef, undef, undef, undef, undef, undef, undef, .func (.func 29) #[] #[.pointer (some ⟨g + 1, 0, none⟩)], .int .i64 (k.val : Int), undef, undef, undef, undef, undef, undef, undef, undef, undef, undef, undef, undef, undef, undef, undef, undef, undef, undef, undef, undef, undef], defers := [] }) ?assignA ?bodyA ?doneA ?stopA
    case assignA =>
      intro l k W' K hK'
      clear hu0
      clear hsz5 hsz4
      gi_wp2
      exact hK'
    case bodyA =>
      rintro l pre k W' ⟨⟨q', c', hc', hf', hR'⟩, hB'⟩ hlt
      have hWN : N < W'.heap.size := World.block_lt_of_cell? _ _ hc'
      have hR2 := hR'.alloc (.cells #[.int .i64 (k.val : Int)] 3)
      have hc2 := cell_alloc_l (.cells #[.int .i64 (k.val : Int)] 3) hc'
      have hf2 := frozen_alloc_l (.cells #[.int .i64 (k.val : Int)] 3) hc' hf'
      have hlt2 : N < (W'.alloc (.cells #[.int .i64 (k.val : Int)] 3)).heap.size := by simp; omega
      gi_wp2_with (gi_at_builtin; refine wpListIn_append_own _ rfl _ _ 24 rfl (N + 1) 3 i3 (.int .i64 0) 1 8 Tryd.underlying24 i2 iz is ib rfl (by omega) _ pre.length _ rfl hR2 ⟨W'.heap.size, 0, none⟩ 1 1 [.int .i64 (k.val : Int)] rfl (by simp) (newHere W' k.val) (oneHere k.val) (by unfold maxLen; omega) (by omega) (by simp; omega) ?_)
      intro v' w9 hR9 hg9 _
      obtain ⟨q2, c2, rfl⟩ := row_slice hR9
      have hblk := hg9.block N hlt2 (by intro e; have := (hR2.lt N e.symm).1; omega)
      have hc9 := (World.cell?_of_block (a := ⟨N, 0, none⟩) hblk).trans hc2
      have hf9 := (World.frozen?_of_block (a := ⟨N, 0, none⟩) hblk).trans hf2
      have hB9 : Below N W' w9 := ((Below.refl _ W').alloc (by omega) _).trans (below_own hg9 (by simp; omega) (fun j hj => by have := (hR2.lt j hj).1; omega))
      have hk9 : KeepsOthers W' w9 := (KeepsOthers.alloc W' _).trans (KeepsOthers.of_grownBy hg9 fun j o e ho => row_cells hR2 e ho)
      clear hR2 hc2 hf2 hlt2 hblk hc' hf' hR'
      gi_wp2
      have hR10 := hR9.kept (grownBy_setCell' w9 N (.slice q2 (pre.length + 1) c2)) (row_ne hR9 (Nat.lt_succ_self N))
      have hB10 : Below N W' (w9.setCell ⟨N, 0, none⟩ (.slice q2 (pre.length + 1) c2)) := hB9.setCell (p := ⟨N, 0, none⟩) (Nat.le_refl _) _
      refine ⟨hk9.trans (KeepsOthers.setCell _ _ _), hB10, ⟨q2, c2, ?_, ?_, ?_⟩, hB'.trans hB10⟩
      · rw [List.length_append, List.length_singleton]
        exact World.cell?_setCell_same' _ _ _ (by rw [hc9]; rfl)
      · rw [World.frozen?_setCell]; exact hf9
      · rw [List.length_append, List.length_singleton, prVals_snoc]
        simpa [numVals] using hR10
    case stopA =>
      rintro D2 cc pre W' _ _ h _
      exact h.elim
    case doneA =>
      rintro D2 ys2 W' hD2 hS2 ⟨⟨q', c', hc', hf', hR'⟩, hB'⟩ hK2
      have hyl : ys2.length = m := by rw [← hm, ← show prVals ys2 = bitsOf x from hS2]; simp [prVals]
      rw [show prVals ys2 = bitsOf x from hS2, hyl] at hR'
      rw [hyl] at hc'
      clear hS2
      rw [World.size_alloc, hN] at hD2
      have hl2 : D2 < W'.heap.size := (Array.getElem?_eq_some_iff.1 hK2).1
      have v0 := (hB'.cell (p := ⟨w.heap.size, 0, none⟩) (by simp; omega)).trans z0
      have v1 := (hB'.cell (p := ⟨w.heap.size + 1, 0, none⟩) (by simp; omega)).trans z1
      have u1 := (hB'.frozen (p := ⟨w.heap.size + 1, 0, none⟩) (by simp; omega)).trans y1
      have v2 := (hB'.cell (p := ⟨g, 0, none⟩) (by simp; omega)).trans z2
      have v4 := (hB'.cell (p := ⟨g + 1 + 1, 0, none⟩) (by simp; omega)).trans hc
      have hD1 : W'.heap[D]? = some (.deferred (some [])) := (hB'.block D hlK).trans hK
      have hIn1 : IntIn W' q ((bitsOf x).map Int.ofNat) := hIn.below (by rw [hN]; exact hB')
      have hIn2 : IntIn W' q' ((bitsOf x).map Int.ofNat) := row_in hm hR'
      have hcall := ints_same q' q c' c ((bitsOf x).map Int.ofNat) (by rw [List.length_map]; unfold maxLen; omega) W' hIn2 hIn1
      rw [List.length_map, hm] at hcall
      have hBW' := hBW.trans (hB'.mono (B' := w.heap.size) (by omega))
      clear z0 z1 y1 z2 z3 hc hK hIn hIn1 hIn2 hBW hB' hR' hEW
      have hcase : ((nn == v) = true) ∨ ((nn == v) = false ∧ (nn == (m : Int)) = true) := by
        by_cases h : nn = v
        · exact .inl (by simpa using h)
        · exact .inr ⟨by simpa using h, by simpa using hnn.resolve_left h⟩
      clear hnn
      gi_wp2_with fail
      refine ⟨trivial, ?_⟩
      gi_at_call 10
      refine (callsIn_wide.2 hcall).mono ?_
      rintro e w10 ⟨rfl, hb10⟩
      have s10 := hb10.size
      have t0 := (hb10.cell (p := ⟨w.heap.size, 0, none⟩) (by simp; omega)).trans v0
      have t1 := (hb10.cell (p := ⟨w.heap.size + 1, 0, none⟩) (by simp; omega)).trans v1
      have r1 := (hb10.frozen (p := ⟨w.heap.size + 1, 0, none⟩) (by simp; omega)).trans u1
      have t2 := (hb10.cell (p := ⟨g, 0, none⟩) (by simp; omega)).trans v2
      have t4 := (hb10.cell (p := ⟨g + 1 + 1, 0, none⟩) (by simp; omega)).trans v4
      have q1 := (hb10.block D (by omega)).trans hD1
      have q2 := (hb10.block D2 hl2).trans hK2
      have hBW10 := hBW'.trans (hb10.mono (B' := w.heap.size) hBW'.size)
      have haw := awake_any w10 (hE.below h8 hBW10)
      clear v0 v1 u1 v2 v4 hD1 hK2 hBW' hb10 hcall
      rcases hcase with hq1 | ⟨hq1, hq2⟩
      all_goals
        gi_wp2_with fail
        refine ⟨trivial, ?_⟩
        gi_at_call 11
        refine (callsIn_wide.2 haw).mono ?_
        rintro e w11 ⟨rfl, hb11⟩
        have p1 := (hb11.cell (p := ⟨w.heap.size + 1, 0, none⟩) (by simp; omega)).trans t1
        have o1 := (hb11.frozen (p := ⟨w.heap.size + 1, 0, none⟩) (by simp; omega)).trans r1
        have q3 := (hb11.block D (by omega)).trans q1
        have q4 := (hb11.block D2 (by omega)).trans q2
        have hBW11 := hBW10.trans (hb11.mono (B' := w.heap.size) hBW10.size)
        clear t0 t1 r1 t2 t4 q1 q2 hBW10 hb11 haw
        gi_wp2
        have q5 := (KeepsOthers.setCell w11 ⟨w.heap.size + 1, 0, none⟩ (.bool true)).same D _ q3 rfl
        have q6 := (KeepsOthers.setCell w11 ⟨w.heap.size + 1, 0, none⟩ (.bool true)).same D2 _ q4 rfl
        have q7 : ((w11.setCell ⟨w.heap.size + 1, 0, none⟩ (.bool true)).putObj D2 (.deferred none)).heap[D]? = some (.deferred (some [])) := (World.putObj_heap_other (by omega)).trans q5
        have p2 : (w11.setCell ⟨w.heap.size + 1, 0, none⟩ (.bool true)).cell? ⟨w.heap.size + 1, 0, none⟩ = some (.bool true) := World.cell?_setCell_same' _ _ _ (by rw [p1]; rfl)
        have p3 := cell_kept p2 (grownBy_putObj' _ D2 (.deferred none)) (fun r e => by cases e; exact ⟨_, q6, rfl⟩)
        have p4 := cell_kept p3 (grownBy_putObj' _ D (.deferred none)) (fun r e => by cases e; exact ⟨_, q7, rfl⟩)
        refine ⟨by simp, .inl ⟨_, _, rfl, run_takeDeferred q6, ⟨by simp, .inl ⟨_, _, rfl, run_takeDeferred q7, ?_⟩⟩⟩⟩
        exact ⟨_, results3 _ _ (w.heap.size + 1) true rfl p4, rfl, ((hBW11.setCell (p := ⟨w.heap.size + 1, 0, none⟩) (by simp) _).trans (belowK_b (w := w) (Nat.le_refl _) _ D2 _ _ (by omega) q6 rfl rfl)).trans (belowK_b (w := w) (Nat.le_refl _) _ D _ _ (by omega) q7 rfl rfl)⟩
  case stop =>
    rintro D cc pre W hD hpre (⟨rfl, hno⟩ | ⟨⟨rfl, hc⟩, hB⟩) hK
    · exact absurd hpre hno
    clear hpre
    obtain ⟨nn, hnn, hc⟩ : ∃ nn : Int, (nn = v ∨ nn = m) ∧ W.cell? ⟨g + 1 + 1, 0, none⟩ = some (.int .i64 nn) := ⟨_, .inl rfl, hc⟩
    rw [World.size_alloc, hsz5] at hD
    have hlK : D < W.heap.size := (Array.getElem?_eq_some_iff.1 hK).1
    have z0 := (hB.cell (p := ⟨w.heap.size, 0, none⟩) (by simp; omega)).trans j0
    have z1 := (hB.cell (p := ⟨w.heap.size + 1, 0, none⟩) (by simp; omega)).trans j1
    have y1 := (hB.frozen (p := ⟨w.heap.size + 1, 0, none⟩) (by simp; omega)).trans l1
    have z2 := (hB.cell (p := ⟨g, 0, none⟩) (by simp; omega)).trans j2
    have z3 := (hB.cell (p := ⟨g + 1, 0, none⟩) (by simp)).trans j3.1
    have hIn : IntIn W q ((bitsOf x).map Int.ofNat) := by
      intro i hi
      rw [List.length_map, hm] at hi
      obtain ⟨gq, hqe, hlt, hcc⟩ := hIn4 i hi
      refine ⟨gq, 0, hqe, ?_⟩
      rw [Nat.zero_add]
      refine ((hB.cell (p := ⟨gq, i, none⟩) hlt).trans hcc).trans ?_
      simp only [List.getD_eq_getElem?_getD, List.getElem?_map]
      rw [List.getElem?_eq_getElem (by omega)]; rfl
    have hBW := hB4.trans (hB.mono (B' := w.heap.size) (by omega))
    have hEW := hE.below h8 hBW
    clear hB hIn4 hB4 j0 l0 j1 l1 j2 j3 hR4 n4 hT4
    have hWs : g + 1 + 1 < W.heap.size := World.block_lt_of_cell? _ _ hc
    obtain ⟨N, hN⟩ : ∃ N, W.heap.size = N := ⟨_, rfl⟩
    gi_wp2_with fail
    have a5 := cell_new_l W (.slice none 0 0) 24
    rw [hN] at a5 hlK hWs
    obtain ⟨i3, i2, iz, is, ib⟩ := info3
    refine wpIn_rangeFunc_ownF rfl (by omega) (gf := 29) (lb := #[.pointer (some ⟨g + 1, 0, none⟩)]) rfl trivial (enters_of Tryd.func29 (by kernel_rfl) rfl)
      (each_stops (3 - 1) (g + 1) N x (by omega) hx _ (by simp; omega) (by simp; omega) (tab_below (n₀ := w.heap.size) (by omega) ((Below.refl _ _).alloc (by omega) _) hEW.2) (cell_alloc_l _ z3)) belowK_t (belowK_b (by simp; omega)) (Below.refl _ _) (fun _ => rfl)
      (fun pre W' => (∃ q' c', W'.cell? ⟨N, 0, none⟩ = some (.slice q' pre.length c') ∧ W'.frozen? ⟨N, 0, none⟩ = false ∧ W'.ownsRow (N + 1) 3 1 (.slice q' pre.length c') pre.length (numVals (prVals pre))) ∧ Below N W W')
      (fun _ _ _ => False)
      (OwnFrom.and (Own.from (fun s A B row hs hg hr => by
        obtain ⟨q', c', h1, h2, h3⟩ := hs
        exact ⟨q', c', cell_kept h1 hg hr, (frozen_kept h1 hg hr).trans h2, Own.row h3 hg hr⟩) _) (ownFrom_below (Nat.le_of_eq hN.symm) (by simp; omega)))
      (fun _ _ _ _ _ hs _ _ => hs)
      ⟨⟨none, 0, a5.1, a5.2, World.ownsRow_nil _ _ _ _⟩, (Below.refl _ _).alloc (by omega) _⟩
      (fun k => { tmps := #[.int .u64 (x : Int), .int .i64 u, undef, .pointer (some ⟨w.heap.size, 0, none⟩), .pointer (some ⟨w.heap.size + 1, 0, none⟩), .pointer (some ⟨g, 0, none⟩), .func (.func 29) #[] #[.pointer (some ⟨g + 1, 0, none⟩)], .pointer (some ⟨w4.heap.size, 0, none⟩), undef, .pointer (some ⟨N, 0, none⟩), .int .i64 (k.val : Int), .int .u64 (x : Int), .slice q m c, .int .u64 (x : Int), .func (.func 29) #[] #[.pointer (some ⟨g + 1, 0, none⟩)], .func (.func 29) #[] #[.pointer (some ⟨g + 1, 0, none⟩)], .bool false, .int .i64 u, .bool true, .func (.func 29) #[] #[.pointer (some ⟨g + 1, 0, none⟩)], undef, undef, undef, undef, undef, undef, undef, undef, undef, undef, undef, undef, undef, undef, undef, undef, undef, undef, .func (.func 29) #[] #[.pointer (some ⟨g + 1, 0, none⟩)], .int .i64 (k.val : Int), undef, undef, undef, undef, undef, undef, undef, undef, undef, undef, undef, undef, undef, undef, undef, undef, undef, undef, undef, undef, undef], defers := [] }) ?assignB ?bodyB ?doneB ?stopB
    case assignB =>
      intro l k W' K hK'
      clear hu0
      clear hsz5 hsz4
      gi_wp2
      exact hK'
    case bodyB =>
      rintro l pre k W' ⟨⟨q', c', hc', hf', hR'⟩, hB'⟩ hlt
      have hWN : N < W'.heap.size := World.block_lt_of_cell? _ _ hc'
      have hR2 := hR'.alloc (.cells #[.int .i64 (k.val : Int)] 3)
      have hc2 := cell_alloc_l (.cells #[.int .i64 (k.val : Int)] 3) hc'
      have hf2 := frozen_alloc_l (.cells #[.int .i64 (k.val : Int)] 3) hc' hf'
      have hlt2 : N < (W'.alloc (.cells #[.int .i64 (k.val : Int)] 3)).heap.size := by simp; omega
      gi_wp2_with (gi_at_builtin; refine wpListIn_append_own _ rfl _ _ 24 rfl (N + 1) 3 i3 (.int .i64 0) 1 8 Tryd.underlying24 i2 iz is ib rfl (by omega) _ pre.length _ rfl hR2 ⟨W'.heap.size, 0, none⟩ 1 1 [.int .i64 (k.val : Int)] rfl (by simp) (newHere W' k.val) (oneHere k.val) (by unfold maxLen; omega) (by omega) (by simp; omega) ?_)
      intro v' w9 hR9 hg9 _
      obtain ⟨q2, c2, rfl⟩ := row_slice hR9
      have hblk := hg9.block N hlt2 (by intro e; have := (hR2.lt N e.symm).1; omega)
      have hc9 := (World.cell?_of_block (a := ⟨N, 0, none⟩) hblk).trans hc2
      have hf9 := (World.frozen?_of_block (a := ⟨N, 0, none⟩) hblk).trans hf2
      have hB9 : Below N W' w9 := ((Below.refl _ W').alloc (by omega) _).trans (below_own hg9 (by simp; omega) (fun j hj => by have := (hR2.lt j hj).1; omega))
      have hk9 : KeepsOthers W' w9 := (KeepsOthers.alloc W' _).trans (KeepsOthers.of_grownBy hg9 fun j o e ho => row_cells hR2 e ho)
      clear hR2 hc2 hf2 hlt2 hblk hc' hf' hR'
      gi_wp2
      have hR10 := hR9.kept (grownBy_setCell' w9 N (.slice q2 (pre.length + 1) c2)) (row_ne hR9 (Nat.lt_succ_self N))
      have hB10 : Below N W' (w9.setCell ⟨N, 0, none⟩ (.slice q2 (pre.length + 1) c2)) := hB9.setCell (p := ⟨N, 0, none⟩) (Nat.le_refl _) _
      refine ⟨hk9.trans (KeepsOthers.setCell _ _ _), hB10, ⟨q2, c2, ?_, ?_, ?_⟩, hB'.trans hB10⟩
      · rw [List.length_append, List.length_singleton]
        exact World.cell?_setCell_same' _ _ _ (by rw [hc9]; rfl)
      · rw [World.frozen?_setCell]; exact hf9
      · rw [List.length_append, List.length_singleton, prVals_snoc]
        simpa [numVals] using hR10
    case stopB =>
      rintro D2 cc pre W' _ _ h _
      exact h.elim
    case doneB =>
      rintro D2 ys2 W' hD2 hS2 ⟨⟨q', c', hc', hf', hR'⟩, hB'⟩ hK2
      have hyl : ys2.length = m := by rw [← hm, ← show prVals ys2 = bitsOf x from hS2]; simp [prVals]
      rw [show prVals ys2 = bitsOf x from hS2, hyl] at hR'
      rw [hyl] at hc'
      clear hS2
      rw [World.size_alloc, hN] at hD2
      have hl2 : D2 < W'.heap.size := (Array.getElem?_eq_some_iff.1 hK2).1
      have v0 := (hB'.cell (p := ⟨w.heap.size, 0, none⟩) (by simp; omega)).trans z0
      have v1 := (hB'.cell (p := ⟨w.heap.size + 1, 0, none⟩) (by simp; omega)).trans z1
      have u1 := (hB'.frozen (p := ⟨w.heap.size + 1, 0, none⟩) (by simp; omega)).trans y1
      have v2 := (hB'.cell (p := ⟨g, 0, none⟩) (by simp; omega)).trans z2
      have v4 := (hB'.cell (p := ⟨g + 1 + 1, 0, none⟩) (by simp; omega)).trans hc
      have hD1 : W'.heap[D]? = some (.deferred (some [])) := (hB'.block D hlK).trans hK
      have hIn1 : IntIn W' q ((bitsOf x).map Int.ofNat) := hIn.below (by rw [hN]; exact hB')
      have hIn2 : IntIn W' q' ((bitsOf x).map Int.ofNat) := row_in hm hR'
      have hcall := ints_same q' q c' c ((bitsOf x).map Int.ofNat) (by rw [List.length_map]; unfold maxLen; omega) W' hIn2 hIn1
      rw [List.length_map, hm] at hcall
      have hBW' := hBW.trans (hB'.mono (B' := w.heap.size) (by omega))
      clear z0 z1 y1 z2 z3 hc hK hIn hIn1 hIn2 hBW hB' hR' hEW
      have hcase : ((nn == v) = true) ∨ ((nn == v) = false ∧ (nn == (m : Int)) = true) := by
        by_cases h : nn = v
        · exact .inl (by simpa using h)
        · exact .inr ⟨by simpa using h, by simpa using hnn.resolve_left h⟩
      clear hnn
      gi_wp2_with fail
      refine ⟨trivial, ?_⟩
      gi_at_call 10
      refine (callsIn_wide.2 hcall).mono ?_
      rintro e w10 ⟨rfl, hb10⟩
      have s10 := hb10.size
      have t0 := (hb10.cell (p := ⟨w.heap.size, 0, none⟩) (by simp; omega)).trans v0
      have t1 := (hb10.cell (p := ⟨w.heap.size + 1, 0, none⟩) (by simp; omega)).trans v1
      have r1 := (hb10.frozen (p := ⟨w.heap.size + 1, 0, none⟩) (by simp; omega)).trans u1
      have t2 := (hb10.cell (p := ⟨g, 0, none⟩) (by simp; omega)).trans v2
      have t4 := (hb10.cell (p := ⟨g + 1 + 1, 0, none⟩) (by simp; omega)).trans v4
      have q1 := (hb10.block D (by omega)).trans hD1
      have q2 := (hb10.block D2 hl2).trans hK2
      have hBW10 := hBW'.trans (hb10.mono (B' := w.heap.size) hBW'.size)
      have haw := awake_any w10 (hE.below h8 hBW10)
      clear v0 v1 u1 v2 v4 hD1 hK2 hBW' hb10 hcall
      rcases hcase with hq1 | ⟨hq1, hq2⟩
      all_goals
        gi_wp2_with fail
        refine ⟨trivial, ?_⟩
        gi_at_call 11
        refine (callsIn_wide.2 haw).mono ?_
        rintro e w11 ⟨rfl, hb11⟩
        have p1 := (hb11.cell (p := ⟨w.heap.size + 1, 0, none⟩) (by simp; omega)).trans t1
        have o1 := (hb11.frozen (p := ⟨w.heap.size + 1, 0, none⟩) (by simp; omega)).trans r1
        have q3 := (hb11.block D (by omega)).trans q1
        have q4 := (hb11.block D2 (by omega)).trans q2
        have hBW11 := hBW10.trans (hb11.mono (B' := w.heap.size) hBW10.size)
        clear t0 t1 r1 t2 t4 q1 q2 hBW10 hb11 haw
        gi_wp2
        have q5 := (KeepsOthers.setCell w11 ⟨w.heap.size + 1, 0, none⟩ (.bool true)).same D _ q3 rfl
        have q6 := (KeepsOthers.setCell w11 ⟨w.heap.size + 1, 0, none⟩ (.bool true)).same D2 _ q4 rfl
        have q7 : ((w11.setCell ⟨w.heap.size + 1, 0, none⟩ (.bool true)).putObj D2 (.deferred none)).heap[D]? = some (.deferred (some [])) := (World.putObj_heap_other (by omega)).trans q5
        have p2 : (w11.setCell ⟨w.heap.size + 1, 0, none⟩ (.bool true)).cell? ⟨w.heap.size + 1, 0, none⟩ = some (.bool true) := World.cell?_setCell_same' _ _ _ (by rw [p1]; rfl)
        have p3 := cell_kept p2 (grownBy_putObj' _ D2 (.deferred none)) (fun r e => by cases e; exact ⟨_, q6, rfl⟩)
        have p4 := cell_kept p3 (grownBy_putObj' _ D (.deferred none)) (fun r e => by cases e; exact ⟨_, q7, rfl⟩)
        refine ⟨by simp, .inl ⟨_, _, rfl, run_takeDeferred q6, ⟨by simp, .inl ⟨_, _, rfl, run_takeDeferred q7, ?_⟩⟩⟩⟩
        exact ⟨_, results3 _ _ (w.heap.size + 1) true rfl p4, rfl, ((hBW11.setCell (p := ⟨w.heap.size + 1, 0, none⟩) (by simp) _).trans (belowK_b (w := w) (Nat.le_refl _) _ D2 _ _ (by omega) q6 rfl rfl)).trans (belowK_b (w := w) (Nat.le_refl _) _ D _ _ (by omega) q7 rfl rfl)⟩

theorem each_all (x : Nat) (hx : x < 18446744073709551616) (u : Int) (hu : u ≤ 9223372036854775807) (w : World) (hE : Env w) :
    Calls Tryd.prog 3 #[.int .u64 (x : Int), .int .i64 u] w fun e w' => e = .returned (.bool true) ∧ Below w.heap.size w w' := by
  by_cases h : 1 ≤ u
  · exact each_law x hx u h hu w hE
  · exact each_low x hx u (by omega) w hE
end Go.Proofs.YthmcckdoneiglaaDoor
