/- What instructions take and lay on: effects of package code, in every memory. -/
import Derived.Test.YtahnhohccbnhjaaCoC
import Derived.Test.YtahnhohccbnhjaaIA
import Derived.Lib.QuietBelow
namespace Go.Proofs.Ytahnhohccbnhjaa
open Go Go.RowKit Go.Proofs.Mm

theorem bl_al {W w : World} (h : Below W.heap.size W w) (o : Obj) : Below W.heap.size W (w.alloc o) := h.alloc h.size o
theorem bl_dr {W w : World} (h : Below W.heap.size W w) : Below W.heap.size W w.drew := h.drew
theorem bl_tr {W w w' : World} (h : Below W.heap.size W w) (k : Below w.heap.size w w') : Below W.heap.size W w' := h.trans (k.mono h.size)
theorem bl_set {W w : World} (h : Below W.heap.size W w) {b j : Nat} (v : Value) (hb : W.heap.size ≤ b) : Below W.heap.size W (w.setCell ⟨b, j, none⟩ v) := h.setCell hb v
theorem cell_b {w w' : World} {a : Addr} {v : Value} (h : w.cell? a = some v) (hb : Below w.heap.size w w') : w'.cell? a = some v := below_cle hb _ _ h
def InB (w : World) (b : Nat) (cs : Array Value) (T : TypeId) : Prop := w.heap[b]? = some (.cells cs T (0, 0))
theorem InB.le {w w' : World} {b : Nat} {cs : Array Value} {T : TypeId} (h : InB w b cs T) (hb : Below w.heap.size w w') : InB w' b cs T := (hb.block b (heap_lt h)).trans h
theorem InB.cell {w : World} {b : Nat} {cs : Array Value} {T : TypeId} (h : InB w b cs T) {j : Nat} {v : Value} (hv : cs[j]? = some v) : w.cell? ⟨b, j, none⟩ = some v := cell_of h hv
theorem InB.free {w : World} {b : Nat} {cs : Array Value} {T : TypeId} (h : InB w b cs T) (j : Nat) : w.frozen? ⟨b, j, none⟩ = false := free_of h
theorem InB.lt {w : World} {b : Nat} {cs : Array Value} {T : TypeId} (h : InB w b cs T) : b < w.heap.size := heap_lt h
theorem InB.new (w : World) (cs : Array Value) (T : TypeId) : InB (w.alloc (.cells cs T)) w.heap.size cs T := heap_alloc_new _ _
theorem InB.new' {w : World} {b : Nat} (cs : Array Value) (T : TypeId) (h : w.heap.size = b) : InB (w.alloc (.cells cs T)) b cs T := by subst h; exact InB.new _ _ _

theorem InB.set2 {w : World} {b c i j : Nat} {x y : Value} {cs : Array Value} {T : TypeId} (h : InB w b cs T) (hn : b ≠ c) : InB ((w.setCell ⟨c, i, none⟩ x).setCell ⟨c, j, none⟩ y) b cs T := heap_other (heap_other h hn) hn
theorem _root_.Go.RowKit.Below.set2 {n : Nat} {W w : World} (h : Below n W w) {c i j : Nat} {x y : Value} (hc : n ≤ c) : Below n W ((w.setCell ⟨c, i, none⟩ x).setCell ⟨c, j, none⟩ y) := (h.setCell hc x).setCell hc y
theorem setRow_below {w : World} {n b : Nat} {cs : Array Value} (h : n ≤ b) : Below n w (w.setRow b cs) := ⟨rfl, rfl, rfl, by simp, fun k hk => setRow_other _ _ _ _ (by omega)⟩
def ef0 (r p q : Int) : Array Value := #[.int .i64 0, .int .i64 0, .int .i64 0, .int .i64 0, .int .i64 0, .int .i64 0, .int .i64 0, .int .i64 0, .int .i64 0, .int .i64 0, .int .i64 0, .int .i64 0, .int .i64 0, .int .i64 0, .int .i64 0, .int .i64 0, .int .i64 0, .int .i64 0, .int .i64 0, .int .i64 0, .int .i64 0, .int .i64 0, .int .i64 0, .int .i64 0, .int .i64 0, .int .i64 0, .int .i64 0, .int .i64 0, .int .i64 0, .int .i64 0, .int .i64 0, .int .i64 0, .int .i64 0, .int .i64 0, .int .i64 0, .int .i64 0, .int .i64 0, .int .i64 0, .int .i64 0, .int .i64 0, .int .i64 0, .int .i64 0, .int .i64 0, .int .i64 0, .int .i64 0, .int .i64 0, .int .i64 0, .int .i64 0, .int .i64 0, .int .i64 0, .int .i64 0, .int .i64 0, .int .i64 0, .int .i64 0, .int .i64 0, .int .i64 0, .int .i64 0, .int .i64 0, .int .i64 0, .int .i64 0, .int .i64 0, .int .i64 0, .int .i64 0, .int .i64 0, .int .i64 0, .int .i64 1, .int .i64 0, .int .i64 1, .int .i64 1, .int .i64 0, .int .i64 0, .int .i64 1, .int .i64 1, .int .i64 0, .int .i64 1, .int .i64 1, .int .i64 2, .int .i64 0, .int .i64 1, .int .i64 2, .int .i64 2, .int .i64 2, .int .i64 1, .int .i64 0, .int .i64 0, .int .i64 0, .int .i64 0, .int .i64 0, .int .i64 1, .int .i64 0, .int .i64 p, .int .i64 q, .int .i64 r, .int .i64 0, .int .i64 1, .int .i64 0]
def efK (r p q : Int) (k : Nat) : Array Value := ((ef0 r p q).toList.zipIdx.map fun x => if 2 ≤ x.2 ∧ x.2 < 2 * k then (if x.2 < 30 ∧ x.2 % 2 = 0 then .int .i64 2 else .int .i64 1) else x.1).toArray
def efA (r p q : Int) : Array Value := #[.int .i64 0, .int .i64 0, .int .i64 2, .int .i64 1, .int .i64 2, .int .i64 1, .int .i64 2, .int .i64 1, .int .i64 2, .int .i64 1, .int .i64 2, .int .i64 1, .int .i64 2, .int .i64 1, .int .i64 2, .int .i64 1, .int .i64 2, .int .i64 1, .int .i64 2, .int .i64 1, .int .i64 2, .int .i64 1, .int .i64 2, .int .i64 1, .int .i64 2, .int .i64 1, .int .i64 2, .int .i64 1, .int .i64 2, .int .i64 1, .int .i64 1, .int .i64 1, .int .i64 1, .int .i64 1, .int .i64 1, .int .i64 1, .int .i64 0, .int .i64 0, .int .i64 0, .int .i64 0, .int .i64 0, .int .i64 0, .int .i64 0, .int .i64 0, .int .i64 0, .int .i64 0, .int .i64 0, .int .i64 0, .int .i64 0, .int .i64 0, .int .i64 0, .int .i64 0, .int .i64 0, .int .i64 0, .int .i64 0, .int .i64 0, .int .i64 0, .int .i64 0, .int .i64 0, .int .i64 0, .int .i64 0, .int .i64 0, .int .i64 0, .int .i64 0, .int .i64 0, .int .i64 1, .int .i64 0, .int .i64 1, .int .i64 1, .int .i64 0, .int .i64 0, .int .i64 1, .int .i64 1, .int .i64 0, .int .i64 1, .int .i64 1, .int .i64 2, .int .i64 0, .int .i64 1, .int .i64 2, .int .i64 2, .int .i64 2, .int .i64 1, .int .i64 0, .int .i64 0, .int .i64 0, .int .i64 0, .int .i64 0, .int .i64 1, .int .i64 0, .int .i64 p, .int .i64 q, .int .i64 r, .int .i64 0, .int .i64 1, .int .i64 0]
theorem efK_1 (r p q : Int) : efK r p q 1 = ef0 r p q := by kernel_rfl
theorem efK_18 (r p q : Int) : efK r p q 18 = efA r p q := by kernel_rfl
theorem efK_s1 (r p q : Int) : efK r p q 2 = ((efK r p q 1).setIfInBounds 2 (.int .i64 2)).setIfInBounds 3 (.int .i64 1) := by kernel_rfl
theorem efK_s2 (r p q : Int) : efK r p q 3 = ((efK r p q 2).setIfInBounds 4 (.int .i64 2)).setIfInBounds 5 (.int .i64 1) := by kernel_rfl
theorem efK_s3 (r p q : Int) : efK r p q 4 = ((efK r p q 3).setIfInBounds 6 (.int .i64 2)).setIfInBounds 7 (.int .i64 1) := by kernel_rfl
theorem efK_s4 (r p q : Int) : efK r p q 5 = ((efK r p q 4).setIfInBounds 8 (.int .i64 2)).setIfInBounds 9 (.int .i64 1) := by kernel_rfl
theorem efK_s5 (r p q : Int) : efK r p q 6 = ((efK r p q 5).setIfInBounds 10 (.int .i64 2)).setIfInBounds 11 (.int .i64 1) := by kernel_rfl
theorem efK_s6 (r p q : Int) : efK r p q 7 = ((efK r p q 6).setIfInBounds 12 (.int .i64 2)).setIfInBounds 13 (.int .i64 1) := by kernel_rfl
theorem efK_s7 (r p q : Int) : efK r p q 8 = ((efK r p q 7).setIfInBounds 14 (.int .i64 2)).setIfInBounds 15 (.int .i64 1) := by kernel_rfl
theorem efK_s8 (r p q : Int) : efK r p q 9 = ((efK r p q 8).setIfInBounds 16 (.int .i64 2)).setIfInBounds 17 (.int .i64 1) := by kernel_rfl
theorem efK_s9 (r p q : Int) : efK r p q 10 = ((efK r p q 9).setIfInBounds 18 (.int .i64 2)).setIfInBounds 19 (.int .i64 1) := by kernel_rfl
theorem efK_s10 (r p q : Int) : efK r p q 11 = ((efK r p q 10).setIfInBounds 20 (.int .i64 2)).setIfInBounds 21 (.int .i64 1) := by kernel_rfl
theorem efK_s11 (r p q : Int) : efK r p q 12 = ((efK r p q 11).setIfInBounds 22 (.int .i64 2)).setIfInBounds 23 (.int .i64 1) := by kernel_rfl
theorem efK_s12 (r p q : Int) : efK r p q 13 = ((efK r p q 12).setIfInBounds 24 (.int .i64 2)).setIfInBounds 25 (.int .i64 1) := by kernel_rfl
theorem efK_s13 (r p q : Int) : efK r p q 14 = ((efK r p q 13).setIfInBounds 26 (.int .i64 2)).setIfInBounds 27 (.int .i64 1) := by kernel_rfl
theorem efK_s14 (r p q : Int) : efK r p q 15 = ((efK r p q 14).setIfInBounds 28 (.int .i64 2)).setIfInBounds 29 (.int .i64 1) := by kernel_rfl
theorem efK_s15 (r p q : Int) : efK r p q 16 = ((efK r p q 15).setIfInBounds 30 (.int .i64 1)).setIfInBounds 31 (.int .i64 1) := by kernel_rfl
theorem efK_s16 (r p q : Int) : efK r p q 17 = ((efK r p q 16).setIfInBounds 32 (.int .i64 1)).setIfInBounds 33 (.int .i64 1) := by kernel_rfl
theorem efK_s17 (r p q : Int) : efK r p q 18 = ((efK r p q 17).setIfInBounds 34 (.int .i64 1)).setIfInBounds 35 (.int .i64 1) := by kernel_rfl
theorem efK_lo (r p q : Int) (k : Nat) (h1 : 1 ≤ k) (h2 : k < 15) : efK r p q (k + 1) = ((efK r p q k).setIfInBounds (k * 2) (.int .i64 2)).setIfInBounds (k * 2 + 1) (.int .i64 1) := by
  match k, h1, h2 with
  | 1, _, _ => exact efK_s1 r p q
  | 2, _, _ => exact efK_s2 r p q
  | 3, _, _ => exact efK_s3 r p q
  | 4, _, _ => exact efK_s4 r p q
  | 5, _, _ => exact efK_s5 r p q
  | 6, _, _ => exact efK_s6 r p q
  | 7, _, _ => exact efK_s7 r p q
  | 8, _, _ => exact efK_s8 r p q
  | 9, _, _ => exact efK_s9 r p q
  | 10, _, _ => exact efK_s10 r p q
  | 11, _, _ => exact efK_s11 r p q
  | 12, _, _ => exact efK_s12 r p q
  | 13, _, _ => exact efK_s13 r p q
  | 14, _, _ => exact efK_s14 r p q
  | n + 15, _, h => exact absurd h (by omega)
theorem efK_hi (r p q : Int) (k : Nat) (h1 : 15 ≤ k) (h2 : k < 18) : efK r p q (k + 1) = ((efK r p q k).setIfInBounds (k * 2) (.int .i64 1)).setIfInBounds (k * 2 + 1) (.int .i64 1) := by
  have h3 : k = 15 ∨ k = 16 ∨ k = 17 := by omega
  rcases h3 with rfl | rfl | rfl
  · exact efK_s15 r p q
  · exact efK_s16 r p q
  · exact efK_s17 r p q
theorem efK_size (r p q : Int) (k : Nat) : (efK r p q k).size = 96 := by simp [efK, ef0]
theorem info_ef : (Try.prog.info? 87).map (·.size) = some 96 := by kernel_rfl

abbrev fnV (lv : Int) (qp : Option Addr) (np cp : Nat) (qr : Option Addr) (nr cr : Nat) (loc stk : Int) (qc : Option Addr) (nc cc : Nat) : Value :=
  .agg #[.int .u64 lv, .slice qp np cp, .slice qr nr cr, .int .i64 loc, .int .i64 stk, .slice qc nc cc]
set_option maxRecDepth 100000 in
set_option maxHeartbeats 1000000 in
theorem effects_any (lv : Int) (qp : Option Addr) (np cp : Nat) (qr : Option Addr) (nr cr : Nat) (loc stk : Int) (qc : Option Addr) (nc cc : Nat) (lv' : Int) (qp' : Option Addr) (np' cp' : Nat) (qr' : Option Addr) (nr' cr' : Nat) (loc' stk' : Int) (qc' : Option Addr) (nc' cc' : Nat) (w : World) :
    Calls Try.prog 44 #[fnV lv qp np cp qr nr cr loc stk qc nc cc, fnV lv' qp' np' cp' qr' nr' cr' loc' stk' qc' nc' cc'] w fun e w' => e = .returned (.agg (efA nr np' nr')) ∧ Below w.heap.size w w' := by
  go_enter Try.func44, Try.ntmps44
  go_upto_region 1 with (fail)
  refine wp_region_lit ?_
  iterate 75 go_step
  refine wpList_build_to rfl _ _ rfl (ef0 nr np' nr') (by kernel_rfl) ?_
  iterate 3 go_step
  obtain ⟨A, hAe⟩ : ∃ A, ((w.alloc (Obj.cells #[.int .u64 lv, .slice qp np cp, .slice qr nr cr, .int .i64 loc, .int .i64 stk, .slice qc nc cc] 68)).alloc (Obj.cells #[.int .u64 lv', .slice qp' np' cp', .slice qr' nr' cr', .int .i64 loc', .int .i64 stk', .slice qc' nc' cc'] 68)) = A := ⟨_, rfl⟩
  have hA : Below w.heap.size w A := hAe ▸ bl_al (bl_al (Below.refl _ w) _) _
  have hs : A.heap.size = w.heap.size + 1 + 1 := by rw [← hAe]; simp
  rw [hAe]
  clear hAe
  obtain ⟨n, hn⟩ : ∃ n, w.heap.size = n := ⟨_, rfl⟩
  have hzs : Try.zeroCells87.size = 96 := by kernel_rfl
  have h1 : InB ((A.alloc (.cells Try.zeroCells87 87)).alloc (.cells Try.zeroCells87 87)) (n + 1 + 1 + 1) Try.zeroCells87 87 := InB.new' _ _ (by simp [hs, hn])
  have h0 : InB ((A.alloc (.cells Try.zeroCells87 87)).alloc (.cells Try.zeroCells87 87)) (n + 1 + 1) Try.zeroCells87 87 := (InB.new' _ _ (by simp [hs, hn])).le (bl_al (Below.refl _ _) _)
  have hB : Below w.heap.size w ((A.alloc (.cells Try.zeroCells87 87)).alloc (.cells Try.zeroCells87 87)) := bl_al (bl_al hA _) _
  generalize ((A.alloc (.cells Try.zeroCells87 87)).alloc (.cells Try.zeroCells87 87)) = W1 at h1 h0 hB ⊢
  generalize Try.zeroCells87 = Z at h0 h1 hzs
  rw [hn]
  refine wpList_store_row rfl _ _ _ rfl (n + 1 + 1 + 1) (ef0 nr np' nr') rfl rfl _ _ h1 info_ef hzs (by kernel_rfl) ?_
  have h2 : InB (W1.setRow (n + 1 + 1 + 1) (ef0 nr np' nr')) (n + 1 + 1 + 1) (ef0 nr np' nr') 87 := setRow_heap _ _ _ _ _ _ h1
  have h3 : InB (W1.setRow (n + 1 + 1 + 1) (ef0 nr np' nr')) (n + 1 + 1) Z 87 := (setRow_other _ _ _ _ (by omega)).trans h0
  have h4 : Below w.heap.size w (W1.setRow (n + 1 + 1 + 1) (ef0 nr np' nr')) := hB.trans ⟨rfl, rfl, rfl, by simp, fun k hk => setRow_other _ _ _ _ (by omega)⟩
  generalize W1.setRow (n + 1 + 1 + 1) (ef0 nr np' nr') = W2 at h2 h3 h4 ⊢
  rw [← efK_1] at h2
  clear h0 h1 hB hA hs
  have H2 := Lib.hid h2
  have H3 := Lib.hid h3
  have H4 := Lib.hid h4
  have HN := Lib.hid hn
  have HS := Lib.hid hzs
  clear h2 h3 h4 hn hzs
  refine wpList_nil ?_
  simp only [Act.put]
  go_wp2
  go_loopw [6] (fun i wr => ∃ k : Nat, 1 ≤ k ∧ k ≤ 15 ∧ i = .int .i64 k ∧ InB wr (n + 1 + 1 + 1) (efK nr np' nr' k) 87 ∧ InB wr (n + 1 + 1) Z 87 ∧ Below w.heap.size w wr) (fun i _ => 15 - (intOf i).toNat)
  case atStart => exact ⟨1, by omega, by omega, rfl, H2.out, H3.out, H4.out⟩
  case round =>
    obtain ⟨k, hk1, hk, rfl, hi, hz, hb⟩ := hrel
    have HI := Lib.hid hi
    have HZ := Lib.hid hz
    have HB := Lib.hid hb
    clear hi hz hb
    by_cases hlt : k < 15
    · have hki : (k : Int) ≤ 14 := by omega
      have c0 : wr.cell? ⟨n + 1 + 1 + 1, k * 2, none⟩ = some _ := HI.out.cell (Array.getElem?_eq_getElem (by rw [efK_size]; omega))
      have c1 : wr.cell? ⟨n + 1 + 1 + 1, k * 2 + 1, none⟩ = some _ := HI.out.cell (Array.getElem?_eq_getElem (by rw [efK_size]; omega))
      have f0 := HI.out.free (k * 2)
      have f1 := HI.out.free (k * 2 + 1)
      go_wp2
      refine ⟨⟨k + 1, by omega, by omega, by go_num, ?_, HZ.out.set2 (by omega), HB.out.set2 (by have := HN.out; omega)⟩, by simp [intOf]; omega⟩
      rw [efK_lo _ _ _ k hk1 hlt]
      exact heap_set (heap_set HI.out _ _) _ _
    · obtain rfl : k = 15 := by omega
      go_wp2
      go_loopw [7] (fun i wr => ∃ k : Nat, 15 ≤ k ∧ k ≤ 18 ∧ i = .int .i64 k ∧ InB wr (n + 1 + 1 + 1) (efK nr np' nr' k) 87 ∧ InB wr (n + 1 + 1) Z 87 ∧ Below w.heap.size w wr) (fun i _ => 18 - (intOf i).toNat)
      case atStart => exact ⟨15, by omega, by omega, rfl, HI.out, HZ.out, HB.out⟩
      case round =>
        clear HI HZ HB
        obtain ⟨k, hk1, hk, rfl, hi, hz, hb⟩ := hrel
        have HI := Lib.hid hi
        have HZ := Lib.hid hz
        have HB := Lib.hid hb
        clear hi hz hb
        by_cases hlt : k < 18
        · have hki : (k : Int) ≤ 17 := by omega
          have c0 : wr.cell? ⟨n + 1 + 1 + 1, k * 2, none⟩ = some _ := HI.out.cell (Array.getElem?_eq_getElem (by rw [efK_size]; omega))
          have c1 : wr.cell? ⟨n + 1 + 1 + 1, k * 2 + 1, none⟩ = some _ := HI.out.cell (Array.getElem?_eq_getElem (by rw [efK_size]; omega))
          have f0 := HI.out.free (k * 2)
          have f1 := HI.out.free (k * 2 + 1)
          go_wp2
          refine ⟨⟨k + 1, by omega, by omega, by go_num, ?_, HZ.out.set2 (by omega), HB.out.set2 (by have := HN.out; omega)⟩, by simp [intOf]; omega⟩
          rw [efK_hi _ _ _ k hk1 hlt]
          exact heap_set (heap_set HI.out _ _) _ _
        · obtain rfl : k = 18 := by omega
          have h5 := HI.out
          rw [efK_18] at h5
          have H5 := Lib.hid h5
          clear h5 HI
          go_upto_region 10 with (fail)
          refine wp_region_lit ?_
          refine wpList_load_row rfl _ _ rfl (n + 1 + 1 + 1) rfl _ _ _ _ H5.out Try.underlying87 rfl info_ef ?_
          refine wpList_store_row rfl _ _ _ rfl (n + 1 + 1) (efA nr np' nr') rfl rfl _ _ HZ.out info_ef HS.out (by kernel_rfl) ?_
          refine wpList_nil ?_
          have h6 := setRow_heap _ _ _ (efA nr np' nr') _ _ HZ.out
          have h7 := HB.out.trans (setRow_below (n := w.heap.size) (b := n + 1 + 1) (cs := efA nr np' nr') (by have := HN.out; omega))
          simp only [Act.put]
          go_wp2
          refine bodyPost_ret (results_cell_row rfl _ _ (n + 1 + 1) 87 (efA nr np' nr') (0, 0) _ rfl h6 Try.underlying87 rfl info_ef) rfl ⟨rfl, h7⟩
end Go.Proofs.Ytahnhohccbnhjaa
