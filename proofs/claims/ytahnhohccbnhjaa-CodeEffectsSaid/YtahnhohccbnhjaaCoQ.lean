/- What the statements of this stage ask first: put, got, awake; in every memory. -/
import Derived.Test.YtahnhohccbnhjaaCoP
namespace Go.Proofs.Ytahnhohccbnhjaa
open Go Go.RowKit Go.Proofs.Mm Go.Sort

theorem putI_len (op a : Int) (h1 : -9223372036854775808 ≤ a) (h2 : a < 9223372036854775808) : (putI op a).length ≤ 11 := by
  unfold putI
  split
  · split
    · have := putS_ten h1 h2; simp only [List.length_cons]; omega
    · split
      · rename_i hm h32 ho
        have ha : 0 ≤ a := by
          rw [mayI_unsigned ho h32] at hm
          exact of_decide_eq_true hm
        have hW : a.toNat < W64 := by unfold W64; omega
        have := putU_ten hW
        simp only [List.length_cons]
        omega
      · simp
  · simp
set_option maxRecDepth 100000 in
set_option maxHeartbeats 1000000 in
theorem put_any (op a : Int) (h1 : -9223372036854775808 ≤ a) (h2 : a < 9223372036854775808) (q : Option Addr) (c : Nat) (ys : List Nat) (w : World) (hq : ByIn w.heap.size w q ys) :
    Calls Try.prog 29 #[.int .i64 op, .int .i64 a, .slice q ys.length c] w fun e w' => e = .returned (.bool (decide (putI op a = ys))) ∧ Below w.heap.size w w' := by
  have HP := Lib.hid (cPut_any w op a h1 h2)
  have hle := putI_len op a h1 h2
  have HQ := Lib.hid hq
  obtain ⟨d, hd⟩ : ∃ d, decide (putI op a = ys) = d := ⟨_, rfl⟩
  have HBB := Lib.hid (fun (W : World) (q1 : Option Addr) (c1 : Nat) (hb : Below w.heap.size w W) (h : ByIn W.heap.size W q1 (putI op a)) => bytes_any q1 q c1 c (putI op a) ys (by unfold maxLen; omega) W h (HQ.out.below hb (Nat.le_refl _) hb.size))
  rw [hd] at HBB ⊢
  clear h1 h2 hq hd hle
  go_enter Try.func29, Try.ntmps29
  go_wp2_with fail
  refine HP.out.mono ?_
  rintro e w1 ⟨⟨v, rfl, hO, _⟩, hb⟩
  obtain ⟨q1, c1, rfl⟩ := hO.slice
  have HB := Lib.hid hb
  have HO := Lib.hid hO
  clear hb hO
  go_wp2_with fail
  refine (HBB.out _ _ _ HB.out HO.out.in).mono ?_
  rintro e w2 ⟨rfl, hb2⟩
  have HB2 := Lib.hid (bl_tr HB.out hb2)
  clear hb2
  go_wp2
  go_ret
  exact ⟨rfl, HB2.out⟩
set_option maxRecDepth 100000 in
set_option maxHeartbeats 1000000 in
theorem got_any (q : Option Addr) (c : Nat) (xs : List Nat) (hx : bytesL xs) (hl : xs.length ≤ c) (hm : c ≤ maxLen) (w : World) (hq : ByIn w.heap.size w q xs) :
    Calls Try.prog 30 #[.slice q xs.length c] w fun e w' => e = .returned (.agg #[.int .i64 (getI xs).1, .int .i64 ((getI xs).2.2.1 : Nat), .int .i64 ((getI xs).2.2.2 : Nat)]) ∧ Below w.heap.size w w' := by
  have HG := Lib.hid (fun (W : World) (hb : Below w.heap.size w W) => cGet_any q c xs hx hl hm W (hq.below hb (Nat.le_refl _) hb.size))
  generalize getI xs = R at HG ⊢
  obtain ⟨x, a, n, er⟩ := R
  unfold gtV at HG
  simp only at HG ⊢
  generalize xs.length = l at HG ⊢
  clear hx hl hm hq
  go_enter Try.func30, Try.ntmps30
  go_wp2_with fail
  refine (HG.out _ (bl_al (Below.refl _ _) _)).mono ?_
  rintro e w1 ⟨rfl, hb⟩
  have hI := (InB.new w #[.int .i64 0, .int .i64 0, .int .i64 0] 58).le hb
  have d0 := hI.cell (j := 0) rfl
  have d1 := hI.cell (j := 1) rfl
  have d2 := hI.cell (j := 2) rfl
  have f0 := hI.free 0
  have f1 := hI.free 1
  have f2 := hI.free 2
  have hl1 := hI.lt
  have HI := Lib.hid hI
  have HB := Lib.hid ((bl_al (Below.refl _ w) (.cells #[.int .i64 0, .int .i64 0, .int .i64 0] 58)).trans (hb.mono (by simp)))
  clear hb hI
  go_wp2
  refine bodyPost_ret (results_cell_row rfl _ _ w.heap.size 58 #[.int .i64 x, .int .i64 (n : Nat), .int .i64 (er : Nat)] (0, 0) _ rfl (heap_new _ _ (heap_set (heap_set (heap_set HI.out 0 _) 1 _) 2 _)) Try.underlying58 rfl (by kernel_rfl)) rfl ⟨rfl, bl_al ((HB.out.set2 (Nat.le_refl _)).setCell (Nat.le_refl _) _) _⟩
theorem bytes_own2 (w : World) (x y : Nat) : OwnB w.heap.size (w.alloc (.cells #[.int .u8 (x : Int), .int .u8 (y : Int)] 5)) (.slice (some ⟨w.heap.size, 0, none⟩) 2 2) [x, y] :=
  World.ownsRow_lit w #[.int .u8 (x : Int), .int .u8 (y : Int)] 2 (Nat.le_refl _) (by unfold maxLen; omega) rfl
theorem bytes_own3 (w : World) (x y z : Nat) : OwnB w.heap.size (w.alloc (.cells #[.int .u8 (x : Int), .int .u8 (y : Int), .int .u8 (z : Int)] 5)) (.slice (some ⟨w.heap.size, 0, none⟩) 3 3) [x, y, z] :=
  World.ownsRow_lit w #[.int .u8 (x : Int), .int .u8 (y : Int), .int .u8 (z : Int)] 3 (Nat.le_refl _) (by unfold maxLen; omega) rfl
theorem sm1 : putS (-1) = [127] := by rw [putS_small (by omega)]; rfl
theorem u200 : putU 200 = [200, 1] := by rw [putU_big (by omega), putU_small (by omega)]
theorem pI_m1 : decide (putI 32 (-1) = [32, 127]) = true := by
  rw [show putI 32 (-1) = 32 :: putS (-1) from rfl, sm1]; rfl
theorem pI_200 : decide (putI 33 200 = [33, 200, 1]) = true := by
  rw [show putI 33 200 = 33 :: putU 200 from rfl, u200]; rfl
theorem gI_m1 : getI [32, 127, 5] = (32, -1, 2, 0) := by
  have h := getS_put (-1) (by decide) (by decide) [5]
  rw [sm1] at h
  have h2 : oprI ((32 : Nat) : Int) [127, 5] = (-1, 1, 0) := h
  rw [getI_cons, if_pos (by decide), h2]
  rfl
theorem awb : bytesL [32, 127, 5] := by intro x hx; simp at hx; omega
theorem eq2_12 (w : World) : (binOp .eql 60 (.agg #[.int .i64 1, .int .i64 2]) (.agg #[.int .i64 1, .int .i64 2])).run Try.prog w = .ok (.bool true) w := by kernel_rfl
theorem eq3_aw (w : World) : (binOp .eql 58 (.agg #[.int .i64 32, .int .i64 2, .int .i64 0]) (.agg #[.int .i64 32, .int .i64 2, .int .i64 0])).run Try.prog w = .ok (.bool true) w := by kernel_rfl
set_option maxRecDepth 100000 in
set_option maxHeartbeats 1000000 in
theorem awake_any (w : World) : Calls Try.prog 16 #[] w fun e w' => e = .returned (.bool true) ∧ Below w.heap.size w w' := by
  have h2 := eq2_12
  have h3 := eq3_aw
  go_enter Try.func16, Try.ntmps16
  go_wp2_with fail
  refine (put_any 32 (-1) (by decide) (by decide) (some ⟨w.heap.size, 0, none⟩) 2 [32, 127] _ (bytes_own2 w 32 127).in).mono ?_
  rw [pI_m1]
  rintro e w1 ⟨rfl, hb⟩
  have HB := Lib.hid (bl_tr (bl_al (Below.refl _ w) _) hb)
  clear hb
  go_wp2_with fail
  refine (put_any 33 200 (by decide) (by decide) (some ⟨w1.heap.size, 0, none⟩) 3 [33, 200, 1] _ (bytes_own3 w1 33 200 1).in).mono ?_
  rw [pI_200]
  rintro e w2 ⟨rfl, hb⟩
  have HB2 := Lib.hid (bl_tr (bl_al HB.out _) hb)
  clear hb
  go_wp2_with fail
  refine (effect_any 0 45 0 (by decide) _).mono ?_
  rw [show efR (effE 1 1 0 gvL 0 45 0) = .agg #[.int .i64 1, .int .i64 2] from rfl]
  rintro e w3 ⟨rfl, hb⟩
  have HB3 := Lib.hid (bl_tr HB2.out hb)
  clear hb
  go_wp2_with fail
  refine (got_any (some ⟨w3.heap.size, 0, none⟩) 3 [32, 127, 5] awb (Nat.le_refl _) (by decide) _ (bytes_own3 w3 32 127 5).in).mono ?_
  rw [gI_m1]
  rintro e w4 ⟨rfl, hb⟩
  have HB4 := Lib.hid (bl_tr (bl_al HB3.out _) hb)
  clear hb
  go_wp2
  go_ret
  exact ⟨rfl, HB4.out⟩
end Go.Proofs.Ytahnhohccbnhjaa
