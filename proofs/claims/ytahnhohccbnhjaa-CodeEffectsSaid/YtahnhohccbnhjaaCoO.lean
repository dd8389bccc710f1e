/- Get of the document's answer, in every memory. -/
import Derived.Test.YtahnhohccbnhjaaCoM
namespace Go.Proofs.Ytahnhohccbnhjaa
open Go Go.RowKit Go.Proofs.Mm Go.Sort

set_option maxRecDepth 100000 in
theorem refGet_nil (p : Option Addr) (c : Nat) (w : World) : Calls Try.prog 21 #[.slice p 0 c] w fun e w' => e = .returned (gtV (getI [])) ∧ Below w.heap.size w w' := by
  rw [show gtV (getI []) = .tuple #[.agg #[.int .i64 0, .int .i64 0], .int .i64 0, .int .i64 30] from rfl]
  go_enter Try.func21, Try.ntmps21
  go_wp2
  try simp only [Exit.inBlock, Exit.then]
  refine bodyPost_ret (v := .tuple #[.agg #[.int .i64 0, .int .i64 0], .int .i64 0, .int .i64 30]) (by simp [results, Try.results21, go_sem]) rfl ⟨rfl, bl_al (Below.refl _ _) _⟩
section
variable (b off c n x : Nat) (w : World) (hb : b < w.heap.size) (hc : w.cell? ⟨b, off, none⟩ = some (.int .u8 (x : Int))) (hx : x < 256) (hlen : (n : Int) + 1 ≤ (c : Int)) (hmx : c ≤ 9223372036854775807)
include hb hc hx hlen hmx
set_option linter.unusedSectionVars false
set_option maxRecDepth 100000 in
set_option maxHeartbeats 1000000 in
theorem refGet_unk (hk : knI (x : Int) = false) : Calls Try.prog 21 #[.slice (some ⟨b, off, none⟩) (n + 1) c] w fun e w' => e = .returned (.tuple #[.agg #[.int .i64 0, .int .i64 0], .int .i64 0, .int .i64 100]) ∧ Below w.heap.size w w' := by
  have hw2 : wrap64 (x : Int) = x := wrap_id (by omega) (by omega)
  have hw1 : IntKind.i64.wrap (x : Int) = x := by rw [wrap_i64]; exact hw2
  clear hx
  have HT := Lib.hid (show ∀ W, Calls Try.prog 9 #[.int .i64 (x : Int)] W fun e w' => e = .returned (.tuple #[.agg #[.string (nmI (x : Int)), .int .i64 (poI (x : Int)), .int .i64 (puI (x : Int)), .int .i64 (kiI (x : Int))], .bool false]) ∧ Below W.heap.size W w' from fun W => by
    have h := Table_any (x : Int) W
    unfold tbV rwV at h
    rw [hk] at h
    exact h)
  generalize nmI (x : Int) = ns at HT
  generalize poI (x : Int) = po at HT
  generalize puI (x : Int) = pu at HT
  generalize kiI (x : Int) = ki at HT
  clear hk
  go_enter Try.func21, Try.ntmps21
  go_wp2_with fail
  refine (HT.out _).mono ?_
  rintro e w1 ⟨rfl, hb1⟩
  have hI := (InB.new w #[.int .i64 0, .int .i64 0] 23).le hb1
  have hB := (bl_al (Below.refl _ w) (.cells #[.int .i64 0, .int .i64 0] 23)).trans (hb1.mono (by simp))
  have hc2 := (hB.cell (p := ⟨b, off, none⟩) hb).trans hc
  have d0 := hI.cell (j := 0) rfl
  have d1 := hI.cell (j := 1) rfl
  have f0 := hI.free 0
  have f1 := hI.free 1
  have hl1 := hI.lt
  have hbl : b < w1.heap.size := by have := hB.size; omega
  have HI := Lib.hid hI
  have HB := Lib.hid hB
  clear hb1 hI hB hb hc
  go_wp2
  all_goals
    refine bodyPost_ret (results_c3 rfl _ _ w.heap.size 23 #[.int .i64 0, .int .i64 0] (0, 0) _ rfl (heap_new _ _ (heap_set (heap_set HI.out 0 _) 1 _)) Try.underlying23 rfl (by kernel_rfl)) rfl ⟨rfl, bl_al (HB.out.set2 (Nat.le_refl _)) _⟩
set_option maxRecDepth 100000 in
set_option maxHeartbeats 1000000 in
theorem refGet_plain (hk : knI (x : Int) = true) (hki : kiI (x : Int) = 0) : Calls Try.prog 21 #[.slice (some ⟨b, off, none⟩) (n + 1) c] w fun e w' => e = .returned (.tuple #[.agg #[.int .i64 (x : Int), .int .i64 0], .int .i64 1, .int .i64 0]) ∧ Below w.heap.size w w' := by
  have hw2 : wrap64 (x : Int) = x := wrap_id (by omega) (by omega)
  have hw1 : IntKind.i64.wrap (x : Int) = x := by rw [wrap_i64]; exact hw2
  clear hx
  have HT := Lib.hid (show ∀ W, Calls Try.prog 9 #[.int .i64 (x : Int)] W fun e w' => e = .returned (.tuple #[.agg #[.string (nmI (x : Int)), .int .i64 (poI (x : Int)), .int .i64 (puI (x : Int)), .int .i64 0], .bool true]) ∧ Below W.heap.size W w' from fun W => by
    have h := Table_any (x : Int) W
    unfold tbV rwV at h
    rw [hk, hki] at h
    exact h)
  generalize nmI (x : Int) = ns at HT
  generalize poI (x : Int) = po at HT
  generalize puI (x : Int) = pu at HT
  clear hk hki
  go_enter Try.func21, Try.ntmps21
  go_wp2_with fail
  refine (HT.out _).mono ?_
  rintro e w1 ⟨rfl, hb1⟩
  have hI := (InB.new w #[.int .i64 0, .int .i64 0] 23).le hb1
  have hB := (bl_al (Below.refl _ w) (.cells #[.int .i64 0, .int .i64 0] 23)).trans (hb1.mono (by simp))
  have hc2 := (hB.cell (p := ⟨b, off, none⟩) hb).trans hc
  have d0 := hI.cell (j := 0) rfl
  have d1 := hI.cell (j := 1) rfl
  have f0 := hI.free 0
  have f1 := hI.free 1
  have hl1 := hI.lt
  have hbl : b < w1.heap.size := by have := hB.size; omega
  have HI := Lib.hid hI
  have HB := Lib.hid hB
  clear hb1 hI hB hb hc
  go_wp2
  all_goals
    refine bodyPost_ret (results_c3 rfl _ _ w.heap.size 23 #[.int .i64 (x : Int), .int .i64 0] (0, 0) _ rfl (heap_new _ _ (heap_new _ _ (heap_set (heap_set HI.out 0 _) 1 _))) Try.underlying23 rfl (by kernel_rfl)) rfl ⟨rfl, bl_al (bl_al (HB.out.set2 (Nat.le_refl _)) _) _⟩
set_option maxRecDepth 100000 in
set_option maxHeartbeats 1000000 in
theorem refGet_conste1 (hk : knI (x : Int) = true) (hki : kiI (x : Int) = 1) (hc1 : c = 1) (m : Int) (k er : Nat) (her : ¬ (er : Int) = 0) (hP : ∀ W, Below w.heap.size w W → Calls Try.prog 39 #[.slice (some ⟨b, off, none⟩) 0 0] W fun e w' => e = .returned (.tuple #[.int .i64 m, .int .i64 (k : Nat), .int .i64 (er : Nat)]) ∧ Below W.heap.size W w') : Calls Try.prog 21 #[.slice (some ⟨b, off, none⟩) (n + 1) c] w fun e w' => e = .returned (.tuple #[.agg #[.int .i64 0, .int .i64 0], .int .i64 0, .int .i64 (er : Nat)]) ∧ Below w.heap.size w w' := by
  have hw2 : wrap64 (x : Int) = x := wrap_id (by omega) (by omega)
  have hw1 : IntKind.i64.wrap (x : Int) = x := by rw [wrap_i64]; exact hw2
  clear hx
  have HP := Lib.hid hP
  clear hP
  subst hc1
  obtain rfl : n = 0 := by omega
  have HT := Lib.hid (show ∀ W, Calls Try.prog 9 #[.int .i64 (x : Int)] W fun e w' => e = .returned (.tuple #[.agg #[.string (nmI (x : Int)), .int .i64 (poI (x : Int)), .int .i64 (puI (x : Int)), .int .i64 1], .bool true]) ∧ Below W.heap.size W w' from fun W => by
    have h := Table_any (x : Int) W
    unfold tbV rwV at h
    rw [hk, hki] at h
    exact h)
  generalize nmI (x : Int) = ns at HT
  generalize poI (x : Int) = po at HT
  generalize puI (x : Int) = pu at HT
  clear hk hki
  go_enter Try.func21, Try.ntmps21
  go_wp2_with fail
  refine (HT.out _).mono ?_
  rintro e w1 ⟨rfl, hb1⟩
  have hI := (InB.new w #[.int .i64 0, .int .i64 0] 23).le hb1
  have hB := (bl_al (Below.refl _ w) (.cells #[.int .i64 0, .int .i64 0] 23)).trans (hb1.mono (by simp))
  have hc2 := (hB.cell (p := ⟨b, off, none⟩) hb).trans hc
  have d0 := hI.cell (j := 0) rfl
  have d1 := hI.cell (j := 1) rfl
  have f0 := hI.free 0
  have f1 := hI.free 1
  have hl1 := hI.lt
  have hbl : b < w1.heap.size := by have := hB.size; omega
  have HI := Lib.hid hI
  have HB := Lib.hid hB
  clear hb1 hI hB hb hc
  go_wp2_with fail
  refine (HP.out _ (bl_al (bl_al HB.out _) _)).mono ?_
  rintro e w2 ⟨rfl, hb2⟩
  have hB2 := (bl_al (bl_al HB.out (.cells #[.string ns, .int .i64 po, .int .i64 pu, .int .i64 1] 25)) (.cells #[.int .i64 (x : Int), .int .i64 0] 23)).trans (hb2.mono (by have := HB.out.size; simp; omega))
  have hI2 : InB w2 w.heap.size #[.int .i64 0, .int .i64 0] 23 := InB.le (heap_new _ _ (heap_new _ _ HI.out)) hb2
  have hR2 : InB w2 w1.heap.size #[.string ns, .int .i64 po, .int .i64 pu, .int .i64 1] 25 := InB.le (heap_new _ _ (InB.new w1 _ _)) hb2
  have hJ2 : InB w2 (w1.heap.size + 1) #[.int .i64 (x : Int), .int .i64 0] 23 := InB.le (InB.new' _ _ (by simp)) hb2
  clear d0 d1 f0 f1 hc2 hbl hb2
  obtain ⟨s, hs⟩ : ∃ s, w1.heap.size = s := ⟨_, rfl⟩
  have hne : ¬ w.heap.size = s + 1 := by omega
  rw [hs] at hR2 hJ2 ⊢
  have HS := Lib.hid hs
  clear hs hl1
  have d0 := hI2.cell (j := 0) rfl
  have d1 := hI2.cell (j := 1) rfl
  have f0 := hI2.free 0
  have f1 := hI2.free 1
  have q3 := hR2.cell (j := 3) rfl
  have j0 := hJ2.cell (j := 0) rfl
  have j1 := hJ2.cell (j := 1) rfl
  have g1 := hJ2.free 1
  have hl1 := hI2.lt
  have hl2 := hR2.lt
  have hl3 := hJ2.lt
  have HI2 := Lib.hid hI2
  have HJ2 := Lib.hid hJ2
  have HB2 := Lib.hid hB2
  have HNE := Lib.hid hne
  clear hI2 hR2 hJ2 hB2
  go_wp2
  all_goals
    refine bodyPost_ret (results_c3 rfl _ _ w.heap.size 23 #[.int .i64 0, .int .i64 0] (0, 0) _ rfl (heap_set (heap_set HI2.out 0 _) 1 _) Try.underlying23 rfl (by kernel_rfl)) rfl ⟨rfl, HB2.out.set2 (Nat.le_refl _)⟩
set_option maxRecDepth 100000 in
set_option maxHeartbeats 1000000 in
theorem refGet_conste2 (hk : knI (x : Int) = true) (hki : kiI (x : Int) = 1) (hc1 : ¬ c = 1) (m : Int) (k er : Nat) (her : ¬ (er : Int) = 0) (hP : ∀ W, Below w.heap.size w W → Calls Try.prog 39 #[.slice (some ⟨b, off + 1, none⟩) n (c - 1)] W fun e w' => e = .returned (.tuple #[.int .i64 m, .int .i64 (k : Nat), .int .i64 (er : Nat)]) ∧ Below W.heap.size W w') : Calls Try.prog 21 #[.slice (some ⟨b, off, none⟩) (n + 1) c] w fun e w' => e = .returned (.tuple #[.agg #[.int .i64 0, .int .i64 0], .int .i64 0, .int .i64 (er : Nat)]) ∧ Below w.heap.size w w' := by
  have hw2 : wrap64 (x : Int) = x := wrap_id (by omega) (by omega)
  have hw1 : IntKind.i64.wrap (x : Int) = x := by rw [wrap_i64]; exact hw2
  clear hx
  have HP := Lib.hid hP
  clear hP
  have HT := Lib.hid (show ∀ W, Calls Try.prog 9 #[.int .i64 (x : Int)] W fun e w' => e = .returned (.tuple #[.agg #[.string (nmI (x : Int)), .int .i64 (poI (x : Int)), .int .i64 (puI (x : Int)), .int .i64 1], .bool true]) ∧ Below W.heap.size W w' from fun W => by
    have h := Table_any (x : Int) W
    unfold tbV rwV at h
    rw [hk, hki] at h
    exact h)
  generalize nmI (x : Int) = ns at HT
  generalize poI (x : Int) = po at HT
  generalize puI (x : Int) = pu at HT
  clear hk hki
  go_enter Try.func21, Try.ntmps21
  go_wp2_with fail
  refine (HT.out _).mono ?_
  rintro e w1 ⟨rfl, hb1⟩
  have hI := (InB.new w #[.int .i64 0, .int .i64 0] 23).le hb1
  have hB := (bl_al (Below.refl _ w) (.cells #[.int .i64 0, .int .i64 0] 23)).trans (hb1.mono (by simp))
  have hc2 := (hB.cell (p := ⟨b, off, none⟩) hb).trans hc
  have d0 := hI.cell (j := 0) rfl
  have d1 := hI.cell (j := 1) rfl
  have f0 := hI.free 0
  have f1 := hI.free 1
  have hl1 := hI.lt
  have hbl : b < w1.heap.size := by have := hB.size; omega
  have HI := Lib.hid hI
  have HB := Lib.hid hB
  clear hb1 hI hB hb hc
  go_wp2_with fail
  refine (HP.out _ (bl_al (bl_al HB.out _) _)).mono ?_
  rintro e w2 ⟨rfl, hb2⟩
  have hB2 := (bl_al (bl_al HB.out (.cells #[.string ns, .int .i64 po, .int .i64 pu, .int .i64 1] 25)) (.cells #[.int .i64 (x : Int), .int .i64 0] 23)).trans (hb2.mono (by have := HB.out.size; simp; omega))
  have hI2 : InB w2 w.heap.size #[.int .i64 0, .int .i64 0] 23 := InB.le (heap_new _ _ (heap_new _ _ HI.out)) hb2
  have hR2 : InB w2 w1.heap.size #[.string ns, .int .i64 po, .int .i64 pu, .int .i64 1] 25 := InB.le (heap_new _ _ (InB.new w1 _ _)) hb2
  have hJ2 : InB w2 (w1.heap.size + 1) #[.int .i64 (x : Int), .int .i64 0] 23 := InB.le (InB.new' _ _ (by simp)) hb2
  clear d0 d1 f0 f1 hc2 hbl hb2
  obtain ⟨s, hs⟩ : ∃ s, w1.heap.size = s := ⟨_, rfl⟩
  have hne : ¬ w.heap.size = s + 1 := by omega
  rw [hs] at hR2 hJ2 ⊢
  have HS := Lib.hid hs
  clear hs hl1
  have d0 := hI2.cell (j := 0) rfl
  have d1 := hI2.cell (j := 1) rfl
  have f0 := hI2.free 0
  have f1 := hI2.free 1
  have q3 := hR2.cell (j := 3) rfl
  have j0 := hJ2.cell (j := 0) rfl
  have j1 := hJ2.cell (j := 1) rfl
  have g1 := hJ2.free 1
  have hl1 := hI2.lt
  have hl2 := hR2.lt
  have hl3 := hJ2.lt
  have HI2 := Lib.hid hI2
  have HJ2 := Lib.hid hJ2
  have HB2 := Lib.hid hB2
  have HNE := Lib.hid hne
  clear hI2 hR2 hJ2 hB2
  go_wp2
  all_goals
    refine bodyPost_ret (results_c3 rfl _ _ w.heap.size 23 #[.int .i64 0, .int .i64 0] (0, 0) _ rfl (heap_set (heap_set HI2.out 0 _) 1 _) Try.underlying23 rfl (by kernel_rfl)) rfl ⟨rfl, HB2.out.set2 (Nat.le_refl _)⟩
set_option maxRecDepth 100000 in
set_option maxHeartbeats 1000000 in
theorem refGet_consto1 (hk : knI (x : Int) = true) (hki : kiI (x : Int) = 1) (hc1 : c = 1) (m : Int) (k : Nat) (hkn : k ≤ n) (hP : ∀ W, Below w.heap.size w W → Calls Try.prog 39 #[.slice (some ⟨b, off, none⟩) 0 0] W fun e w' => e = .returned (.tuple #[.int .i64 m, .int .i64 (k : Nat), .int .i64 0]) ∧ Below W.heap.size W w') : Calls Try.prog 21 #[.slice (some ⟨b, off, none⟩) (n + 1) c] w fun e w' => e = .returned (.tuple #[.agg #[.int .i64 (x : Int), .int .i64 m], .int .i64 ((k : Int) + 1), .int .i64 0]) ∧ Below w.heap.size w w' := by
  have hw2 : wrap64 (x : Int) = x := wrap_id (by omega) (by omega)
  have hw1 : IntKind.i64.wrap (x : Int) = x := by rw [wrap_i64]; exact hw2
  clear hx
  have HP := Lib.hid hP
  clear hP
  have hwk : wrap64 ((k : Int) + 1) = (k : Int) + 1 := wrap_id (by omega) (by omega)
  rw [← hwk]
  clear hwk hkn
  subst hc1
  obtain rfl : n = 0 := by omega
  have HT := Lib.hid (show ∀ W, Calls Try.prog 9 #[.int .i64 (x : Int)] W fun e w' => e = .returned (.tuple #[.agg #[.string (nmI (x : Int)), .int .i64 (poI (x : Int)), .int .i64 (puI (x : Int)), .int .i64 1], .bool true]) ∧ Below W.heap.size W w' from fun W => by
    have h := Table_any (x : Int) W
    unfold tbV rwV at h
    rw [hk, hki] at h
    exact h)
  generalize nmI (x : Int) = ns at HT
  generalize poI (x : Int) = po at HT
  generalize puI (x : Int) = pu at HT
  clear hk hki
  go_enter Try.func21, Try.ntmps21
  go_wp2_with fail
  refine (HT.out _).mono ?_
  rintro e w1 ⟨rfl, hb1⟩
  have hI := (InB.new w #[.int .i64 0, .int .i64 0] 23).le hb1
  have hB := (bl_al (Below.refl _ w) (.cells #[.int .i64 0, .int .i64 0] 23)).trans (hb1.mono (by simp))
  have hc2 := (hB.cell (p := ⟨b, off, none⟩) hb).trans hc
  have d0 := hI.cell (j := 0) rfl
  have d1 := hI.cell (j := 1) rfl
  have f0 := hI.free 0
  have f1 := hI.free 1
  have hl1 := hI.lt
  have hbl : b < w1.heap.size := by have := hB.size; omega
  have HI := Lib.hid hI
  have HB := Lib.hid hB
  clear hb1 hI hB hb hc
  go_wp2_with fail
  refine (HP.out _ (bl_al (bl_al HB.out _) _)).mono ?_
  rintro e w2 ⟨rfl, hb2⟩
  have hB2 := (bl_al (bl_al HB.out (.cells #[.string ns, .int .i64 po, .int .i64 pu, .int .i64 1] 25)) (.cells #[.int .i64 (x : Int), .int .i64 0] 23)).trans (hb2.mono (by have := HB.out.size; simp; omega))
  have hI2 : InB w2 w.heap.size #[.int .i64 0, .int .i64 0] 23 := InB.le (heap_new _ _ (heap_new _ _ HI.out)) hb2
  have hR2 : InB w2 w1.heap.size #[.string ns, .int .i64 po, .int .i64 pu, .int .i64 1] 25 := InB.le (heap_new _ _ (InB.new w1 _ _)) hb2
  have hJ2 : InB w2 (w1.heap.size + 1) #[.int .i64 (x : Int), .int .i64 0] 23 := InB.le (InB.new' _ _ (by simp)) hb2
  clear d0 d1 f0 f1 hc2 hbl hb2
  obtain ⟨s, hs⟩ : ∃ s, w1.heap.size = s := ⟨_, rfl⟩
  have hne : ¬ w.heap.size = s + 1 := by omega
  rw [hs] at hR2 hJ2 ⊢
  have HS := Lib.hid hs
  clear hs hl1
  have d0 := hI2.cell (j := 0) rfl
  have d1 := hI2.cell (j := 1) rfl
  have f0 := hI2.free 0
  have f1 := hI2.free 1
  have q3 := hR2.cell (j := 3) rfl
  have j0 := hJ2.cell (j := 0) rfl
  have j1 := hJ2.cell (j := 1) rfl
  have g1 := hJ2.free 1
  have hl1 := hI2.lt
  have hl2 := hR2.lt
  have hl3 := hJ2.lt
  have HI2 := Lib.hid hI2
  have HJ2 := Lib.hid hJ2
  have HB2 := Lib.hid hB2
  have HNE := Lib.hid hne
  clear hI2 hR2 hJ2 hB2
  go_wp2
  all_goals
    refine bodyPost_ret (results_c3 rfl _ _ w.heap.size 23 #[.int .i64 (x : Int), .int .i64 m] (0, 0) _ rfl (heap_set (heap_set (heap_other HI2.out HNE.out) 0 _) 1 _) Try.underlying23 rfl (by kernel_rfl)) rfl ⟨rfl, (HB2.out.setCell (by have := HB.out.size; have := HS.out; show w.heap.size ≤ s + 1; omega) _).set2 (Nat.le_refl _)⟩
set_option maxRecDepth 100000 in
set_option maxHeartbeats 1000000 in
theorem refGet_consto2 (hk : knI (x : Int) = true) (hki : kiI (x : Int) = 1) (hc1 : ¬ c = 1) (m : Int) (k : Nat) (hkn : k ≤ n) (hP : ∀ W, Below w.heap.size w W → Calls Try.prog 39 #[.slice (some ⟨b, off + 1, none⟩) n (c - 1)] W fun e w' => e = .returned (.tuple #[.int .i64 m, .int .i64 (k : Nat), .int .i64 0]) ∧ Below W.heap.size W w') : Calls Try.prog 21 #[.slice (some ⟨b, off, none⟩) (n + 1) c] w fun e w' => e = .returned (.tuple #[.agg #[.int .i64 (x : Int), .int .i64 m], .int .i64 ((k : Int) + 1), .int .i64 0]) ∧ Below w.heap.size w w' := by
  have hw2 : wrap64 (x : Int) = x := wrap_id (by omega) (by omega)
  have hw1 : IntKind.i64.wrap (x : Int) = x := by rw [wrap_i64]; exact hw2
  clear hx
  have HP := Lib.hid hP
  clear hP
  have hwk : wrap64 ((k : Int) + 1) = (k : Int) + 1 := wrap_id (by omega) (by omega)
  rw [← hwk]
  clear hwk hkn
  have HT := Lib.hid (show ∀ W, Calls Try.prog 9 #[.int .i64 (x : Int)] W fun e w' => e = .returned (.tuple #[.agg #[.string (nmI (x : Int)), .int .i64 (poI (x : Int)), .int .i64 (puI (x : Int)), .int .i64 1], .bool true]) ∧ Below W.heap.size W w' from fun W => by
    have h := Table_any (x : Int) W
    unfold tbV rwV at h
    rw [hk, hki] at h
    exact h)
  generalize nmI (x : Int) = ns at HT
  generalize poI (x : Int) = po at HT
  generalize puI (x : Int) = pu at HT
  clear hk hki
  go_enter Try.func21, Try.ntmps21
  go_wp2_with fail
  refine (HT.out _).mono ?_
  rintro e w1 ⟨rfl, hb1⟩
  have hI := (InB.new w #[.int .i64 0, .int .i64 0] 23).le hb1
  have hB := (bl_al (Below.refl _ w) (.cells #[.int .i64 0, .int .i64 0] 23)).trans (hb1.mono (by simp))
  have hc2 := (hB.cell (p := ⟨b, off, none⟩) hb).trans hc
  have d0 := hI.cell (j := 0) rfl
  have d1 := hI.cell (j := 1) rfl
  have f0 := hI.free 0
  have f1 := hI.free 1
  have hl1 := hI.lt
  have hbl : b < w1.heap.size := by have := hB.size; omega
  have HI := Lib.hid hI
  have HB := Lib.hid hB
  clear hb1 hI hB hb hc
  go_wp2_with fail
  refine (HP.out _ (bl_al (bl_al HB.out _) _)).mono ?_
  rintro e w2 ⟨rfl, hb2⟩
  have hB2 := (bl_al (bl_al HB.out (.cells #[.string ns, .int .i64 po, .int .i64 pu, .int .i64 1] 25)) (.cells #[.int .i64 (x : Int), .int .i64 0] 23)).trans (hb2.mono (by have := HB.out.size; simp; omega))
  have hI2 : InB w2 w.heap.size #[.int .i64 0, .int .i64 0] 23 := InB.le (heap_new _ _ (heap_new _ _ HI.out)) hb2
  have hR2 : InB w2 w1.heap.size #[.string ns, .int .i64 po, .int .i64 pu, .int .i64 1] 25 := InB.le (heap_new _ _ (InB.new w1 _ _)) hb2
  have hJ2 : InB w2 (w1.heap.size + 1) #[.int .i64 (x : Int), .int .i64 0] 23 := InB.le (InB.new' _ _ (by simp)) hb2
  clear d0 d1 f0 f1 hc2 hbl hb2
  obtain ⟨s, hs⟩ : ∃ s, w1.heap.size = s := ⟨_, rfl⟩
  have hne : ¬ w.heap.size = s + 1 := by omega
  rw [hs] at hR2 hJ2 ⊢
  have HS := Lib.hid hs
  clear hs hl1
  have d0 := hI2.cell (j := 0) rfl
  have d1 := hI2.cell (j := 1) rfl
  have f0 := hI2.free 0
  have f1 := hI2.free 1
  have q3 := hR2.cell (j := 3) rfl
  have j0 := hJ2.cell (j := 0) rfl
  have j1 := hJ2.cell (j := 1) rfl
  have g1 := hJ2.free 1
  have hl1 := hI2.lt
  have hl2 := hR2.lt
  have hl3 := hJ2.lt
  have HI2 := Lib.hid hI2
  have HJ2 := Lib.hid hJ2
  have HB2 := Lib.hid hB2
  have HNE := Lib.hid hne
  clear hI2 hR2 hJ2 hB2
  go_wp2
  all_goals
    refine bodyPost_ret (results_c3 rfl _ _ w.heap.size 23 #[.int .i64 (x : Int), .int .i64 m] (0, 0) _ rfl (heap_set (heap_set (heap_other HI2.out HNE.out) 0 _) 1 _) Try.underlying23 rfl (by kernel_rfl)) rfl ⟨rfl, (HB2.out.setCell (by have := HB.out.size; have := HS.out; show w.heap.size ≤ s + 1; omega) _).set2 (Nat.le_refl _)⟩
set_option maxRecDepth 100000 in
set_option maxHeartbeats 1000000 in
theorem refGet_unse1 (hk : knI (x : Int) = true) (hki : 1 < kiI (x : Int)) (hc1 : c = 1) (m k er : Nat) (her : ¬ (er : Int) = 0) (hP : ∀ W, Below w.heap.size w W → Calls Try.prog 40 #[.slice (some ⟨b, off, none⟩) 0 0] W fun e w' => e = .returned (.tuple #[.int .u64 (m : Nat), .int .i64 (k : Nat), .int .i64 (er : Nat)]) ∧ Below W.heap.size W w') : Calls Try.prog 21 #[.slice (some ⟨b, off, none⟩) (n + 1) c] w fun e w' => e = .returned (.tuple #[.agg #[.int .i64 0, .int .i64 0], .int .i64 0, .int .i64 (er : Nat)]) ∧ Below w.heap.size w w' := by
  have hw2 : wrap64 (x : Int) = x := wrap_id (by omega) (by omega)
  have hw1 : IntKind.i64.wrap (x : Int) = x := by rw [wrap_i64]; exact hw2
  clear hx
  have HP := Lib.hid hP
  clear hP
  subst hc1
  obtain rfl : n = 0 := by omega
  have HT := Lib.hid (show ∀ W, Calls Try.prog 9 #[.int .i64 (x : Int)] W fun e w' => e = .returned (.tuple #[.agg #[.string (nmI (x : Int)), .int .i64 (poI (x : Int)), .int .i64 (puI (x : Int)), .int .i64 (kiI (x : Int))], .bool true]) ∧ Below W.heap.size W w' from fun W => by
    have h := Table_any (x : Int) W
    unfold tbV rwV at h
    rw [hk] at h
    exact h)
  generalize nmI (x : Int) = ns at HT
  generalize poI (x : Int) = po at HT
  generalize puI (x : Int) = pu at HT
  generalize kiI (x : Int) = ki at HT hki
  have hki1 : ¬ ki = 1 := by omega
  clear hk
  go_enter Try.func21, Try.ntmps21
  go_wp2_with fail
  refine (HT.out _).mono ?_
  rintro e w1 ⟨rfl, hb1⟩
  have hI := (InB.new w #[.int .i64 0, .int .i64 0] 23).le hb1
  have hB := (bl_al (Below.refl _ w) (.cells #[.int .i64 0, .int .i64 0] 23)).trans (hb1.mono (by simp))
  have hc2 := (hB.cell (p := ⟨b, off, none⟩) hb).trans hc
  have d0 := hI.cell (j := 0) rfl
  have d1 := hI.cell (j := 1) rfl
  have f0 := hI.free 0
  have f1 := hI.free 1
  have hl1 := hI.lt
  have hbl : b < w1.heap.size := by have := hB.size; omega
  have HI := Lib.hid hI
  have HB := Lib.hid hB
  clear hb1 hI hB hb hc
  go_wp2_with fail
  refine (HP.out _ (bl_al (bl_al HB.out _) _)).mono ?_
  rintro e w2 ⟨rfl, hb2⟩
  have hB2 := (bl_al (bl_al HB.out (.cells #[.string ns, .int .i64 po, .int .i64 pu, .int .i64 ki] 25)) (.cells #[.int .i64 (x : Int), .int .i64 0] 23)).trans (hb2.mono (by have := HB.out.size; simp; omega))
  have hI2 : InB w2 w.heap.size #[.int .i64 0, .int .i64 0] 23 := InB.le (heap_new _ _ (heap_new _ _ HI.out)) hb2
  have hR2 : InB w2 w1.heap.size #[.string ns, .int .i64 po, .int .i64 pu, .int .i64 ki] 25 := InB.le (heap_new _ _ (InB.new w1 _ _)) hb2
  have hJ2 : InB w2 (w1.heap.size + 1) #[.int .i64 (x : Int), .int .i64 0] 23 := InB.le (InB.new' _ _ (by simp)) hb2
  clear d0 d1 f0 f1 hc2 hbl hb2
  obtain ⟨s, hs⟩ : ∃ s, w1.heap.size = s := ⟨_, rfl⟩
  have hne : ¬ w.heap.size = s + 1 := by omega
  rw [hs] at hR2 hJ2 ⊢
  have HS := Lib.hid hs
  clear hs hl1
  have d0 := hI2.cell (j := 0) rfl
  have d1 := hI2.cell (j := 1) rfl
  have f0 := hI2.free 0
  have f1 := hI2.free 1
  have q3 := hR2.cell (j := 3) rfl
  have j0 := hJ2.cell (j := 0) rfl
  have j1 := hJ2.cell (j := 1) rfl
  have g1 := hJ2.free 1
  have hl1 := hI2.lt
  have hl2 := hR2.lt
  have hl3 := hJ2.lt
  have HI2 := Lib.hid hI2
  have HJ2 := Lib.hid hJ2
  have HB2 := Lib.hid hB2
  have HNE := Lib.hid hne
  clear hI2 hR2 hJ2 hB2
  go_wp2
  all_goals
    refine bodyPost_ret (results_c3 rfl _ _ w.heap.size 23 #[.int .i64 0, .int .i64 0] (0, 0) _ rfl (heap_set (heap_set HI2.out 0 _) 1 _) Try.underlying23 rfl (by kernel_rfl)) rfl ⟨rfl, HB2.out.set2 (Nat.le_refl _)⟩
set_option maxRecDepth 100000 in
set_option maxHeartbeats 1000000 in
theorem refGet_unse2 (hk : knI (x : Int) = true) (hki : 1 < kiI (x : Int)) (hc1 : ¬ c = 1) (m k er : Nat) (her : ¬ (er : Int) = 0) (hP : ∀ W, Below w.heap.size w W → Calls Try.prog 40 #[.slice (some ⟨b, off + 1, none⟩) n (c - 1)] W fun e w' => e = .returned (.tuple #[.int .u64 (m : Nat), .int .i64 (k : Nat), .int .i64 (er : Nat)]) ∧ Below W.heap.size W w') : Calls Try.prog 21 #[.slice (some ⟨b, off, none⟩) (n + 1) c] w fun e w' => e = .returned (.tuple #[.agg #[.int .i64 0, .int .i64 0], .int .i64 0, .int .i64 (er : Nat)]) ∧ Below w.heap.size w w' := by
  have hw2 : wrap64 (x : Int) = x := wrap_id (by omega) (by omega)
  have hw1 : IntKind.i64.wrap (x : Int) = x := by rw [wrap_i64]; exact hw2
  clear hx
  have HP := Lib.hid hP
  clear hP
  have HT := Lib.hid (show ∀ W, Calls Try.prog 9 #[.int .i64 (x : Int)] W fun e w' => e = .returned (.tuple #[.agg #[.string (nmI (x : Int)), .int .i64 (poI (x : Int)), .int .i64 (puI (x : Int)), .int .i64 (kiI (x : Int))], .bool true]) ∧ Below W.heap.size W w' from fun W => by
    have h := Table_any (x : Int) W
    unfold tbV rwV at h
    rw [hk] at h
    exact h)
  generalize nmI (x : Int) = ns at HT
  generalize poI (x : Int) = po at HT
  generalize puI (x : Int) = pu at HT
  generalize kiI (x : Int) = ki at HT hki
  have hki1 : ¬ ki = 1 := by omega
  clear hk
  go_enter Try.func21, Try.ntmps21
  go_wp2_with fail
  refine (HT.out _).mono ?_
  rintro e w1 ⟨rfl, hb1⟩
  have hI := (InB.new w #[.int .i64 0, .int .i64 0] 23).le hb1
  have hB := (bl_al (Below.refl _ w) (.cells #[.int .i64 0, .int .i64 0] 23)).trans (hb1.mono (by simp))
  have hc2 := (hB.cell (p := ⟨b, off, none⟩) hb).trans hc
  have d0 := hI.cell (j := 0) rfl
  have d1 := hI.cell (j := 1) rfl
  have f0 := hI.free 0
  have f1 := hI.free 1
  have hl1 := hI.lt
  have hbl : b < w1.heap.size := by have := hB.size; omega
  have HI := Lib.hid hI
  have HB := Lib.hid hB
  clear hb1 hI hB hb hc
  go_wp2_with fail
  refine (HP.out _ (bl_al (bl_al HB.out _) _)).mono ?_
  rintro e w2 ⟨rfl, hb2⟩
  have hB2 := (bl_al (bl_al HB.out (.cells #[.string ns, .int .i64 po, .int .i64 pu, .int .i64 ki] 25)) (.cells #[.int .i64 (x : Int), .int .i64 0] 23)).trans (hb2.mono (by have := HB.out.size; simp; omega))
  have hI2 : InB w2 w.heap.size #[.int .i64 0, .int .i64 0] 23 := InB.le (heap_new _ _ (heap_new _ _ HI.out)) hb2
  have hR2 : InB w2 w1.heap.size #[.string ns, .int .i64 po, .int .i64 pu, .int .i64 ki] 25 := InB.le (heap_new _ _ (InB.new w1 _ _)) hb2
  have hJ2 : InB w2 (w1.heap.size + 1) #[.int .i64 (x : Int), .int .i64 0] 23 := InB.le (InB.new' _ _ (by simp)) hb2
  clear d0 d1 f0 f1 hc2 hbl hb2
  obtain ⟨s, hs⟩ : ∃ s, w1.heap.size = s := ⟨_, rfl⟩
  have hne : ¬ w.heap.size = s + 1 := by omega
  rw [hs] at hR2 hJ2 ⊢
  have HS := Lib.hid hs
  clear hs hl1
  have d0 := hI2.cell (j := 0) rfl
  have d1 := hI2.cell (j := 1) rfl
  have f0 := hI2.free 0
  have f1 := hI2.free 1
  have q3 := hR2.cell (j := 3) rfl
  have j0 := hJ2.cell (j := 0) rfl
  have j1 := hJ2.cell (j := 1) rfl
  have g1 := hJ2.free 1
  have hl1 := hI2.lt
  have hl2 := hR2.lt
  have hl3 := hJ2.lt
  have HI2 := Lib.hid hI2
  have HJ2 := Lib.hid hJ2
  have HB2 := Lib.hid hB2
  have HNE := Lib.hid hne
  clear hI2 hR2 hJ2 hB2
  go_wp2
  all_goals
    refine bodyPost_ret (results_c3 rfl _ _ w.heap.size 23 #[.int .i64 0, .int .i64 0] (0, 0) _ rfl (heap_set (heap_set HI2.out 0 _) 1 _) Try.underlying23 rfl (by kernel_rfl)) rfl ⟨rfl, HB2.out.set2 (Nat.le_refl _)⟩
set_option maxRecDepth 100000 in
set_option maxHeartbeats 1000000 in
theorem refGet_unsb1 (hk : knI (x : Int) = true) (hki : 1 < kiI (x : Int)) (hc1 : c = 1) (m k : Nat) (hm : (9223372036854775807 : Int) < (m : Int)) (hP : ∀ W, Below w.heap.size w W → Calls Try.prog 40 #[.slice (some ⟨b, off, none⟩) 0 0] W fun e w' => e = .returned (.tuple #[.int .u64 (m : Nat), .int .i64 (k : Nat), .int .i64 0]) ∧ Below W.heap.size W w') : Calls Try.prog 21 #[.slice (some ⟨b, off, none⟩) (n + 1) c] w fun e w' => e = .returned (.tuple #[.agg #[.int .i64 0, .int .i64 0], .int .i64 0, .int .i64 100]) ∧ Below w.heap.size w w' := by
  have hw2 : wrap64 (x : Int) = x := wrap_id (by omega) (by omega)
  have hw1 : IntKind.i64.wrap (x : Int) = x := by rw [wrap_i64]; exact hw2
  clear hx
  have HP := Lib.hid hP
  clear hP
  subst hc1
  obtain rfl : n = 0 := by omega
  have HT := Lib.hid (show ∀ W, Calls Try.prog 9 #[.int .i64 (x : Int)] W fun e w' => e = .returned (.tuple #[.agg #[.string (nmI (x : Int)), .int .i64 (poI (x : Int)), .int .i64 (puI (x : Int)), .int .i64 (kiI (x : Int))], .bool true]) ∧ Below W.heap.size W w' from fun W => by
    have h := Table_any (x : Int) W
    unfold tbV rwV at h
    rw [hk] at h
    exact h)
  generalize nmI (x : Int) = ns at HT
  generalize poI (x : Int) = po at HT
  generalize puI (x : Int) = pu at HT
  generalize kiI (x : Int) = ki at HT hki
  have hki1 : ¬ ki = 1 := by omega
  clear hk
  go_enter Try.func21, Try.ntmps21
  go_wp2_with fail
  refine (HT.out _).mono ?_
  rintro e w1 ⟨rfl, hb1⟩
  have hI := (InB.new w #[.int .i64 0, .int .i64 0] 23).le hb1
  have hB := (bl_al (Below.refl _ w) (.cells #[.int .i64 0, .int .i64 0] 23)).trans (hb1.mono (by simp))
  have hc2 := (hB.cell (p := ⟨b, off, none⟩) hb).trans hc
  have d0 := hI.cell (j := 0) rfl
  have d1 := hI.cell (j := 1) rfl
  have f0 := hI.free 0
  have f1 := hI.free 1
  have hl1 := hI.lt
  have hbl : b < w1.heap.size := by have := hB.size; omega
  have HI := Lib.hid hI
  have HB := Lib.hid hB
  clear hb1 hI hB hb hc
  go_wp2_with fail
  refine (HP.out _ (bl_al (bl_al HB.out _) _)).mono ?_
  rintro e w2 ⟨rfl, hb2⟩
  have hB2 := (bl_al (bl_al HB.out (.cells #[.string ns, .int .i64 po, .int .i64 pu, .int .i64 ki] 25)) (.cells #[.int .i64 (x : Int), .int .i64 0] 23)).trans (hb2.mono (by have := HB.out.size; simp; omega))
  have hI2 : InB w2 w.heap.size #[.int .i64 0, .int .i64 0] 23 := InB.le (heap_new _ _ (heap_new _ _ HI.out)) hb2
  have hR2 : InB w2 w1.heap.size #[.string ns, .int .i64 po, .int .i64 pu, .int .i64 ki] 25 := InB.le (heap_new _ _ (InB.new w1 _ _)) hb2
  have hJ2 : InB w2 (w1.heap.size + 1) #[.int .i64 (x : Int), .int .i64 0] 23 := InB.le (InB.new' _ _ (by simp)) hb2
  clear d0 d1 f0 f1 hc2 hbl hb2
  obtain ⟨s, hs⟩ : ∃ s, w1.heap.size = s := ⟨_, rfl⟩
  have hne : ¬ w.heap.size = s + 1 := by omega
  rw [hs] at hR2 hJ2 ⊢
  have HS := Lib.hid hs
  clear hs hl1
  have d0 := hI2.cell (j := 0) rfl
  have d1 := hI2.cell (j := 1) rfl
  have f0 := hI2.free 0
  have f1 := hI2.free 1
  have q3 := hR2.cell (j := 3) rfl
  have j0 := hJ2.cell (j := 0) rfl
  have j1 := hJ2.cell (j := 1) rfl
  have g1 := hJ2.free 1
  have hl1 := hI2.lt
  have hl2 := hR2.lt
  have hl3 := hJ2.lt
  have HI2 := Lib.hid hI2
  have HJ2 := Lib.hid hJ2
  have HB2 := Lib.hid hB2
  have HNE := Lib.hid hne
  clear hI2 hR2 hJ2 hB2
  go_wp2
  all_goals
    refine bodyPost_ret (results_c3 rfl _ _ w.heap.size 23 #[.int .i64 0, .int .i64 0] (0, 0) _ rfl (heap_set (heap_set HI2.out 0 _) 1 _) Try.underlying23 rfl (by kernel_rfl)) rfl ⟨rfl, HB2.out.set2 (Nat.le_refl _)⟩
set_option maxRecDepth 100000 in
set_option maxHeartbeats 1000000 in
theorem refGet_unsb2 (hk : knI (x : Int) = true) (hki : 1 < kiI (x : Int)) (hc1 : ¬ c = 1) (m k : Nat) (hm : (9223372036854775807 : Int) < (m : Int)) (hP : ∀ W, Below w.heap.size w W → Calls Try.prog 40 #[.slice (some ⟨b, off + 1, none⟩) n (c - 1)] W fun e w' => e = .returned (.tuple #[.int .u64 (m : Nat), .int .i64 (k : Nat), .int .i64 0]) ∧ Below W.heap.size W w') : Calls Try.prog 21 #[.slice (some ⟨b, off, none⟩) (n + 1) c] w fun e w' => e = .returned (.tuple #[.agg #[.int .i64 0, .int .i64 0], .int .i64 0, .int .i64 100]) ∧ Below w.heap.size w w' := by
  have hw2 : wrap64 (x : Int) = x := wrap_id (by omega) (by omega)
  have hw1 : IntKind.i64.wrap (x : Int) = x := by rw [wrap_i64]; exact hw2
  clear hx
  have HP := Lib.hid hP
  clear hP
  have HT := Lib.hid (show ∀ W, Calls Try.prog 9 #[.int .i64 (x : Int)] W fun e w' => e = .returned (.tuple #[.agg #[.string (nmI (x : Int)), .int .i64 (poI (x : Int)), .int .i64 (puI (x : Int)), .int .i64 (kiI (x : Int))], .bool true]) ∧ Below W.heap.size W w' from fun W => by
    have h := Table_any (x : Int) W
    unfold tbV rwV at h
    rw [hk] at h
    exact h)
  generalize nmI (x : Int) = ns at HT
  generalize poI (x : Int) = po at HT
  generalize puI (x : Int) = pu at HT
  generalize kiI (x : Int) = ki at HT hki
  have hki1 : ¬ ki = 1 := by omega
  clear hk
  go_enter Try.func21, Try.ntmps21
  go_wp2_with fail
  refine (HT.out _).mono ?_
  rintro e w1 ⟨rfl, hb1⟩
  have hI := (InB.new w #[.int .i64 0, .int .i64 0] 23).le hb1
  have hB := (bl_al (Below.refl _ w) (.cells #[.int .i64 0, .int .i64 0] 23)).trans (hb1.mono (by simp))
  have hc2 := (hB.cell (p := ⟨b, off, none⟩) hb).trans hc
  have d0 := hI.cell (j := 0) rfl
  have d1 := hI.cell (j := 1) rfl
  have f0 := hI.free 0
  have f1 := hI.free 1
  have hl1 := hI.lt
  have hbl : b < w1.heap.size := by have := hB.size; omega
  have HI := Lib.hid hI
  have HB := Lib.hid hB
  clear hb1 hI hB hb hc
  go_wp2_with fail
  refine (HP.out _ (bl_al (bl_al HB.out _) _)).mono ?_
  rintro e w2 ⟨rfl, hb2⟩
  have hB2 := (bl_al (bl_al HB.out (.cells #[.string ns, .int .i64 po, .int .i64 pu, .int .i64 ki] 25)) (.cells #[.int .i64 (x : Int), .int .i64 0] 23)).trans (hb2.mono (by have := HB.out.size; simp; omega))
  have hI2 : InB w2 w.heap.size #[.int .i64 0, .int .i64 0] 23 := InB.le (heap_new _ _ (heap_new _ _ HI.out)) hb2
  have hR2 : InB w2 w1.heap.size #[.string ns, .int .i64 po, .int .i64 pu, .int .i64 ki] 25 := InB.le (heap_new _ _ (InB.new w1 _ _)) hb2
  have hJ2 : InB w2 (w1.heap.size + 1) #[.int .i64 (x : Int), .int .i64 0] 23 := InB.le (InB.new' _ _ (by simp)) hb2
  clear d0 d1 f0 f1 hc2 hbl hb2
  obtain ⟨s, hs⟩ : ∃ s, w1.heap.size = s := ⟨_, rfl⟩
  have hne : ¬ w.heap.size = s + 1 := by omega
  rw [hs] at hR2 hJ2 ⊢
  have HS := Lib.hid hs
  clear hs hl1
  have d0 := hI2.cell (j := 0) rfl
  have d1 := hI2.cell (j := 1) rfl
  have f0 := hI2.free 0
  have f1 := hI2.free 1
  have q3 := hR2.cell (j := 3) rfl
  have j0 := hJ2.cell (j := 0) rfl
  have j1 := hJ2.cell (j := 1) rfl
  have g1 := hJ2.free 1
  have hl1 := hI2.lt
  have hl2 := hR2.lt
  have hl3 := hJ2.lt
  have HI2 := Lib.hid hI2
  have HJ2 := Lib.hid hJ2
  have HB2 := Lib.hid hB2
  have HNE := Lib.hid hne
  clear hI2 hR2 hJ2 hB2
  go_wp2
  all_goals
    refine bodyPost_ret (results_c3 rfl _ _ w.heap.size 23 #[.int .i64 0, .int .i64 0] (0, 0) _ rfl (heap_set (heap_set HI2.out 0 _) 1 _) Try.underlying23 rfl (by kernel_rfl)) rfl ⟨rfl, HB2.out.set2 (Nat.le_refl _)⟩
set_option maxRecDepth 100000 in
set_option maxHeartbeats 1000000 in
theorem refGet_unso1 (hk : knI (x : Int) = true) (hki : 1 < kiI (x : Int)) (hc1 : c = 1) (m k : Nat) (hm : ¬ (9223372036854775807 : Int) < (m : Int)) (hkn : k ≤ n) (hP : ∀ W, Below w.heap.size w W → Calls Try.prog 40 #[.slice (some ⟨b, off, none⟩) 0 0] W fun e w' => e = .returned (.tuple #[.int .u64 (m : Nat), .int .i64 (k : Nat), .int .i64 0]) ∧ Below W.heap.size W w') : Calls Try.prog 21 #[.slice (some ⟨b, off, none⟩) (n + 1) c] w fun e w' => e = .returned (.tuple #[.agg #[.int .i64 (x : Int), .int .i64 (m : Nat)], .int .i64 ((k : Int) + 1), .int .i64 0]) ∧ Below w.heap.size w w' := by
  have hw2 : wrap64 (x : Int) = x := wrap_id (by omega) (by omega)
  have hw1 : IntKind.i64.wrap (x : Int) = x := by rw [wrap_i64]; exact hw2
  clear hx
  have HP := Lib.hid hP
  clear hP
  have hwk : wrap64 ((k : Int) + 1) = (k : Int) + 1 := wrap_id (by omega) (by omega)
  rw [← hwk]
  clear hwk hkn
  have hwm : IntKind.i64.wrap (m : Int) = (m : Int) := by rw [wrap_i64]; exact wrap_id (by omega) (by omega)
  subst hc1
  obtain rfl : n = 0 := by omega
  have HT := Lib.hid (show ∀ W, Calls Try.prog 9 #[.int .i64 (x : Int)] W fun e w' => e = .returned (.tuple #[.agg #[.string (nmI (x : Int)), .int .i64 (poI (x : Int)), .int .i64 (puI (x : Int)), .int .i64 (kiI (x : Int))], .bool true]) ∧ Below W.heap.size W w' from fun W => by
    have h := Table_any (x : Int) W
    unfold tbV rwV at h
    rw [hk] at h
    exact h)
  generalize nmI (x : Int) = ns at HT
  generalize poI (x : Int) = po at HT
  generalize puI (x : Int) = pu at HT
  generalize kiI (x : Int) = ki at HT hki
  have hki1 : ¬ ki = 1 := by omega
  clear hk
  go_enter Try.func21, Try.ntmps21
  go_wp2_with fail
  refine (HT.out _).mono ?_
  rintro e w1 ⟨rfl, hb1⟩
  have hI := (InB.new w #[.int .i64 0, .int .i64 0] 23).le hb1
  have hB := (bl_al (Below.refl _ w) (.cells #[.int .i64 0, .int .i64 0] 23)).trans (hb1.mono (by simp))
  have hc2 := (hB.cell (p := ⟨b, off, none⟩) hb).trans hc
  have d0 := hI.cell (j := 0) rfl
  have d1 := hI.cell (j := 1) rfl
  have f0 := hI.free 0
  have f1 := hI.free 1
  have hl1 := hI.lt
  have hbl : b < w1.heap.size := by have := hB.size; omega
  have HI := Lib.hid hI
  have HB := Lib.hid hB
  clear hb1 hI hB hb hc
  go_wp2_with fail
  refine (HP.out _ (bl_al (bl_al HB.out _) _)).mono ?_
  rintro e w2 ⟨rfl, hb2⟩
  have hB2 := (bl_al (bl_al HB.out (.cells #[.string ns, .int .i64 po, .int .i64 pu, .int .i64 ki] 25)) (.cells #[.int .i64 (x : Int), .int .i64 0] 23)).trans (hb2.mono (by have := HB.out.size; simp; omega))
  have hI2 : InB w2 w.heap.size #[.int .i64 0, .int .i64 0] 23 := InB.le (heap_new _ _ (heap_new _ _ HI.out)) hb2
  have hR2 : InB w2 w1.heap.size #[.string ns, .int .i64 po, .int .i64 pu, .int .i64 ki] 25 := InB.le (heap_new _ _ (InB.new w1 _ _)) hb2
  have hJ2 : InB w2 (w1.heap.size + 1) #[.int .i64 (x : Int), .int .i64 0] 23 := InB.le (InB.new' _ _ (by simp)) hb2
  clear d0 d1 f0 f1 hc2 hbl hb2
  obtain ⟨s, hs⟩ : ∃ s, w1.heap.size = s := ⟨_, rfl⟩
  have hne : ¬ w.heap.size = s + 1 := by omega
  rw [hs] at hR2 hJ2 ⊢
  have HS := Lib.hid hs
  clear hs hl1
  have d0 := hI2.cell (j := 0) rfl
  have d1 := hI2.cell (j := 1) rfl
  have f0 := hI2.free 0
  have f1 := hI2.free 1
  have q3 := hR2.cell (j := 3) rfl
  have j0 := hJ2.cell (j := 0) rfl
  have j1 := hJ2.cell (j := 1) rfl
  have g1 := hJ2.free 1
  have hl1 := hI2.lt
  have hl2 := hR2.lt
  have hl3 := hJ2.lt
  have HI2 := Lib.hid hI2
  have HJ2 := Lib.hid hJ2
  have HB2 := Lib.hid hB2
  have HNE := Lib.hid hne
  clear hI2 hR2 hJ2 hB2
  go_wp2
  all_goals
    refine bodyPost_ret (results_c3 rfl _ _ w.heap.size 23 #[.int .i64 (x : Int), .int .i64 (m : Nat)] (0, 0) _ rfl (heap_set (heap_set (heap_other HI2.out HNE.out) 0 _) 1 _) Try.underlying23 rfl (by kernel_rfl)) rfl ⟨rfl, (HB2.out.setCell (by have := HB.out.size; have := HS.out; show w.heap.size ≤ s + 1; omega) _).set2 (Nat.le_refl _)⟩
set_option maxRecDepth 100000 in
set_option maxHeartbeats 1000000 in
theorem refGet_unso2 (hk : knI (x : Int) = true) (hki : 1 < kiI (x : Int)) (hc1 : ¬ c = 1) (m k : Nat) (hm : ¬ (9223372036854775807 : Int) < (m : Int)) (hkn : k ≤ n) (hP : ∀ W, Below w.heap.size w W → Calls Try.prog 40 #[.slice (some ⟨b, off + 1, none⟩) n (c - 1)] W fun e w' => e = .returned (.tuple #[.int .u64 (m : Nat), .int .i64 (k : Nat), .int .i64 0]) ∧ Below W.heap.size W w') : Calls Try.prog 21 #[.slice (some ⟨b, off, none⟩) (n + 1) c] w fun e w' => e = .returned (.tuple #[.agg #[.int .i64 (x : Int), .int .i64 (m : Nat)], .int .i64 ((k : Int) + 1), .int .i64 0]) ∧ Below w.heap.size w w' := by
  have hw2 : wrap64 (x : Int) = x := wrap_id (by omega) (by omega)
  have hw1 : IntKind.i64.wrap (x : Int) = x := by rw [wrap_i64]; exact hw2
  clear hx
  have HP := Lib.hid hP
  clear hP
  have hwk : wrap64 ((k : Int) + 1) = (k : Int) + 1 := wrap_id (by omega) (by omega)
  rw [← hwk]
  clear hwk hkn
  have hwm : IntKind.i64.wrap (m : Int) = (m : Int) := by rw [wrap_i64]; exact wrap_id (by omega) (by omega)
  have HT := Lib.hid (show ∀ W, Calls Try.prog 9 #[.int .i64 (x : Int)] W fun e w' => e = .returned (.tuple #[.agg #[.string (nmI (x : Int)), .int .i64 (poI (x : Int)), .int .i64 (puI (x : Int)), .int .i64 (kiI (x : Int))], .bool true]) ∧ Below W.heap.size W w' from fun W => by
    have h := Table_any (x : Int) W
    unfold tbV rwV at h
    rw [hk] at h
    exact h)
  generalize nmI (x : Int) = ns at HT
  generalize poI (x : Int) = po at HT
  generalize puI (x : Int) = pu at HT
  generalize kiI (x : Int) = ki at HT hki
  have hki1 : ¬ ki = 1 := by omega
  clear hk
  go_enter Try.func21, Try.ntmps21
  go_wp2_with fail
  refine (HT.out _).mono ?_
  rintro e w1 ⟨rfl, hb1⟩
  have hI := (InB.new w #[.int .i64 0, .int .i64 0] 23).le hb1
  have hB := (bl_al (Below.refl _ w) (.cells #[.int .i64 0, .int .i64 0] 23)).trans (hb1.mono (by simp))
  have hc2 := (hB.cell (p := ⟨b, off, none⟩) hb).trans hc
  have d0 := hI.cell (j := 0) rfl
  have d1 := hI.cell (j := 1) rfl
  have f0 := hI.free 0
  have f1 := hI.free 1
  have hl1 := hI.lt
  have hbl : b < w1.heap.size := by have := hB.size; omega
  have HI := Lib.hid hI
  have HB := Lib.hid hB
  clear hb1 hI hB hb hc
  go_wp2_with fail
  refine (HP.out _ (bl_al (bl_al HB.out _) _)).mono ?_
  rintro e w2 ⟨rfl, hb2⟩
  have hB2 := (bl_al (bl_al HB.out (.cells #[.string ns, .int .i64 po, .int .i64 pu, .int .i64 ki] 25)) (.cells #[.int .i64 (x : Int), .int .i64 0] 23)).trans (hb2.mono (by have := HB.out.size; simp; omega))
  have hI2 : InB w2 w.heap.size #[.int .i64 0, .int .i64 0] 23 := InB.le (heap_new _ _ (heap_new _ _ HI.out)) hb2
  have hR2 : InB w2 w1.heap.size #[.string ns, .int .i64 po, .int .i64 pu, .int .i64 ki] 25 := InB.le (heap_new _ _ (InB.new w1 _ _)) hb2
  have hJ2 : InB w2 (w1.heap.size + 1) #[.int .i64 (x : Int), .int .i64 0] 23 := InB.le (InB.new' _ _ (by simp)) hb2
  clear d0 d1 f0 f1 hc2 hbl hb2
  obtain ⟨s, hs⟩ : ∃ s, w1.heap.size = s := ⟨_, rfl⟩
  have hne : ¬ w.heap.size = s + 1 := by omega
  rw [hs] at hR2 hJ2 ⊢
  have HS := Lib.hid hs
  clear hs hl1
  have d0 := hI2.cell (j := 0) rfl
  have d1 := hI2.cell (j := 1) rfl
  have f0 := hI2.free 0
  have f1 := hI2.free 1
  have q3 := hR2.cell (j := 3) rfl
  have j0 := hJ2.cell (j := 0) rfl
  have j1 := hJ2.cell (j := 1) rfl
  have g1 := hJ2.free 1
  have hl1 := hI2.lt
  have hl2 := hR2.lt
  have hl3 := hJ2.lt
  have HI2 := Lib.hid hI2
  have HJ2 := Lib.hid hJ2
  have HB2 := Lib.hid hB2
  have HNE := Lib.hid hne
  clear hI2 hR2 hJ2 hB2
  go_wp2
  all_goals
    refine bodyPost_ret (results_c3 rfl _ _ w.heap.size 23 #[.int .i64 (x : Int), .int .i64 (m : Nat)] (0, 0) _ rfl (heap_set (heap_set (heap_other HI2.out HNE.out) 0 _) 1 _) Try.underlying23 rfl (by kernel_rfl)) rfl ⟨rfl, (HB2.out.setCell (by have := HB.out.size; have := HS.out; show w.heap.size ≤ s + 1; omega) _).set2 (Nat.le_refl _)⟩
end
end Go.Proofs.Ytahnhohccbnhjaa
