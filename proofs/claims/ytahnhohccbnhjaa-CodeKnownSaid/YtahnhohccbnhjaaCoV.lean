/- CodeKnown: the chapter's examples hold. -/
import Derived.Test.YtahnhohccbnhjaaCoQ
namespace Go.Proofs.Ytahnhohccbnhjaa
open Go Go.RowKit Go.Proofs.Mm Go.Sort

theorem max_put : putU 18446744073709551615 = [255, 255, 255, 255, 255, 255, 255, 255, 255, 1] := by
  rw [putU_big (by omega)]
  simp only [Nat.reduceDiv, Nat.reduceMod, Nat.reduceAdd]
  rw [putU_big (by omega)]
  simp only [Nat.reduceDiv, Nat.reduceMod, Nat.reduceAdd]
  rw [putU_big (by omega)]
  simp only [Nat.reduceDiv, Nat.reduceMod, Nat.reduceAdd]
  rw [putU_big (by omega)]
  simp only [Nat.reduceDiv, Nat.reduceMod, Nat.reduceAdd]
  rw [putU_big (by omega)]
  simp only [Nat.reduceDiv, Nat.reduceMod, Nat.reduceAdd]
  rw [putU_big (by omega)]
  simp only [Nat.reduceDiv, Nat.reduceMod, Nat.reduceAdd]
  rw [putU_big (by omega)]
  simp only [Nat.reduceDiv, Nat.reduceMod, Nat.reduceAdd]
  rw [putU_big (by omega)]
  simp only [Nat.reduceDiv, Nat.reduceMod, Nat.reduceAdd]
  rw [putU_big (by omega)]
  simp only [Nat.reduceDiv, Nat.reduceMod, Nat.reduceAdd]
  rw [putU_small (by omega)]
theorem getU_max : getU [255, 255, 255, 255, 255, 255, 255, 255, 255, 1] = (18446744073709551615, 10, 0) := by
  have h := getU_put 18446744073709551615 (by decide) []
  rw [List.append_nil, max_put] at h
  exact h
theorem getU_two : getU [128, 0] = (0, 0, 31) := by
  unfold getU
  rw [if_neg (by decide), if_neg (by decide), if_neg ?_]
  rw [show valU (List.take (lead [128, 0] + 1) [128, 0]) % W64 = 0 from by decide, putU_small (by omega)]
  decide
theorem gI_nil : getI [] = (0, 0, 0, 30) := rfl
theorem gI_18 : getI [18] = (0, 0, 0, 100) := by rw [getI_cons, if_neg (by decide)]
theorem gI_33 : getI [33] = (0, 0, 0, 30) := by
  rw [getI_cons, if_pos (by decide), show oprI ((33 : Nat) : Int) [] = (0, 0, 30) from by
    unfold oprI
    rw [if_neg (by decide), if_pos (by decide), show getU [] = (0, 0, 30) from by decide]
    rfl]
  rfl
theorem gI_two : getI [33, 128, 0] = (0, 0, 0, 31) := by
  rw [getI_cons, if_pos (by decide), show oprI ((33 : Nat) : Int) [128, 0] = (0, 0, 31) from by
    unfold oprI
    rw [if_neg (by decide), if_pos (by decide), getU_two]
    rfl]
  rfl
theorem gI_max : getI [33, 255, 255, 255, 255, 255, 255, 255, 255, 255, 1] = (0, 0, 0, 100) := by
  rw [getI_cons, if_pos (by decide), show oprI ((33 : Nat) : Int) [255, 255, 255, 255, 255, 255, 255, 255, 255, 1] = (0, 0, 100) from by
    unfold oprI
    rw [if_neg (by decide), if_pos (by decide), getU_max]
    rfl]
  rfl
theorem gI_46 : getI [46, 1] = (46, 0, 1, 0) := by
  rw [getI_cons, if_pos (by decide), show oprI ((46 : Nat) : Int) [1] = (0, 0, 0) from by
    unfold oprI
    rw [if_neg (by decide), if_neg (by decide)]]
  rfl
theorem bytes_own1 (w : World) (x : Nat) : OwnB w.heap.size (w.alloc (.cells #[.int .u8 (x : Int)] 5)) (.slice (some ⟨w.heap.size, 0, none⟩) 1 1) [x] := one_own w x
theorem bytes_own11 (w : World) : OwnB w.heap.size (w.alloc (.cells #[.int .u8 33, .int .u8 255, .int .u8 255, .int .u8 255, .int .u8 255, .int .u8 255, .int .u8 255, .int .u8 255, .int .u8 255, .int .u8 255, .int .u8 1] 5)) (.slice (some ⟨w.heap.size, 0, none⟩) 11 11) [33, 255, 255, 255, 255, 255, 255, 255, 255, 255, 1] :=
  World.ownsRow_lit w #[.int .u8 33, .int .u8 255, .int .u8 255, .int .u8 255, .int .u8 255, .int .u8 255, .int .u8 255, .int .u8 255, .int .u8 255, .int .u8 255, .int .u8 1] 11 (Nat.le_refl _) (by unfold maxLen; omega) rfl
theorem ne3_0x30 (w : World) : (binOp .neq 58 (.agg #[.int .i64 0, .int .i64 0, .int .i64 30]) (.agg #[.int .i64 0, .int .i64 0, .int .i64 30])).run Try.prog w = .ok (.bool false) w := by kernel_rfl
theorem ne3_0x100 (w : World) : (binOp .neq 58 (.agg #[.int .i64 0, .int .i64 0, .int .i64 100]) (.agg #[.int .i64 0, .int .i64 0, .int .i64 100])).run Try.prog w = .ok (.bool false) w := by kernel_rfl
theorem ne3_0x31 (w : World) : (binOp .neq 58 (.agg #[.int .i64 0, .int .i64 0, .int .i64 31]) (.agg #[.int .i64 0, .int .i64 0, .int .i64 31])).run Try.prog w = .ok (.bool false) w := by kernel_rfl
theorem ne3_46x0 (w : World) : (binOp .neq 58 (.agg #[.int .i64 46, .int .i64 1, .int .i64 0]) (.agg #[.int .i64 46, .int .i64 1, .int .i64 0])).run Try.prog w = .ok (.bool false) w := by kernel_rfl
theorem eq2_0x1 (w : World) : (binOp .eql 60 (.agg #[.int .i64 0, .int .i64 1]) (.agg #[.int .i64 0, .int .i64 1])).run Try.prog w = .ok (.bool true) w := by kernel_rfl
theorem eq2_2x0 (w : World) : (binOp .eql 60 (.agg #[.int .i64 2, .int .i64 0]) (.agg #[.int .i64 2, .int .i64 0])).run Try.prog w = .ok (.bool true) w := by kernel_rfl
theorem eq2_9x9 (w : World) : (binOp .eql 60 (.agg #[.int .i64 9, .int .i64 9]) (.agg #[.int .i64 9, .int .i64 9])).run Try.prog w = .ok (.bool true) w := by kernel_rfl
theorem eq2_0x0 (w : World) : (binOp .eql 60 (.agg #[.int .i64 0, .int .i64 0]) (.agg #[.int .i64 0, .int .i64 0])).run Try.prog w = .ok (.bool true) w := by kernel_rfl
theorem by_zero : ByRes ⟨#[122, 101, 114, 111]⟩ 44 true := .inl ⟨rfl, rfl, rfl⟩
theorem by_none : ByRes ⟨#[]⟩ 0 false := .inr ⟨rfl, rfl, fun k hk hkn e => by
  have key : ∀ k : Fin 48, knI k.val = true → (nmI k.val).data.toList ≠ [] := by decide +kernel
  exact key ⟨k, hk⟩ hkn (by show (nmI k).data.toList = []; rw [e])⟩
set_option maxRecDepth 100000 in
set_option maxHeartbeats 4000000 in
theorem known_law (w : World) : Calls Try.prog 6 #[] w fun e w' => e = .returned (.bool true) ∧ Below w.heap.size w w' := by
  have x1 := ne3_0x30
  have x2 := ne3_0x100
  have x3 := ne3_0x31
  have x4 := ne3_46x0
  have y1 := eq2_0x1
  have y2 := eq2_2x0
  have y3 := eq2_9x9
  have y4 := eq2_0x0
  go_enter Try.func6, Try.ntmps6
  go_wp2_with fail
  refine (awake_any _).mono ?_
  rintro e w1 ⟨rfl, hb⟩
  have HB1 := Lib.hid (bl_tr (Below.refl _ w) hb)
  clear hb
  go_wp2_with fail
  refine (put_any 1 (0) (by decide) (by decide) (some ⟨w1.heap.size, 0, none⟩) 1 [1] _ (bytes_own1 w1 1).in).mono ?_
  rw [show decide (putI 1 (0) = [1]) = true from by decide]
  rintro e w2 ⟨rfl, hb⟩
  have HB2 := Lib.hid (bl_tr (bl_al HB1.out _) hb)
  clear hb HB1
  go_wp2_with fail
  refine (put_any 1 (1) (by decide) (by decide) none 0 [] _ (ByIn.nil _ _ _)).mono ?_
  rw [show decide (putI 1 (1) = []) = true from by decide]
  rintro e w3 ⟨rfl, hb⟩
  have HB3 := Lib.hid (bl_tr HB2.out hb)
  clear hb HB2
  go_wp2_with fail
  refine (put_any 33 (-1) (by decide) (by decide) none 0 [] _ (ByIn.nil _ _ _)).mono ?_
  rw [show decide (putI 33 (-1) = []) = true from by decide]
  rintro e w4 ⟨rfl, hb⟩
  have HB4 := Lib.hid (bl_tr HB3.out hb)
  clear hb HB3
  go_wp2_with fail
  refine (put_any 18 (0) (by decide) (by decide) none 0 [] _ (ByIn.nil _ _ _)).mono ?_
  rw [show decide (putI 18 (0) = []) = true from by decide]
  rintro e w5 ⟨rfl, hb⟩
  have HB5 := Lib.hid (bl_tr HB4.out hb)
  clear hb HB4
  go_wp2_with fail
  refine (got_any none 0 [] (by intro x hx; cases hx) (Nat.le_refl _) (by decide) _ (ByIn.nil _ _ _)).mono ?_
  rw [gI_nil]
  rintro e w6 ⟨rfl, hb⟩
  have HB6 := Lib.hid (bl_tr HB5.out hb)
  clear hb HB5
  go_wp2_with fail
  refine (got_any (some ⟨w6.heap.size, 0, none⟩) 1 [18] (by intro x hx; simp at hx; omega) (Nat.le_refl _) (by decide) _ (bytes_own1 w6 18).in).mono ?_
  rw [gI_18]
  rintro e w7 ⟨rfl, hb⟩
  have HB7 := Lib.hid (bl_tr (bl_al HB6.out _) hb)
  clear hb HB6
  go_wp2_with fail
  refine (got_any (some ⟨w7.heap.size, 0, none⟩) 1 [33] (by intro x hx; simp at hx; omega) (Nat.le_refl _) (by decide) _ (bytes_own1 w7 33).in).mono ?_
  rw [gI_33]
  rintro e w8 ⟨rfl, hb⟩
  have HB8 := Lib.hid (bl_tr (bl_al HB7.out _) hb)
  clear hb HB7
  go_wp2_with fail
  refine (got_any (some ⟨w8.heap.size, 0, none⟩) 3 [33, 128, 0] (by intro x hx; simp at hx; omega) (Nat.le_refl _) (by decide) _ (bytes_own3 w8 33 128 0).in).mono ?_
  rw [gI_two]
  rintro e w9 ⟨rfl, hb⟩
  have HB9 := Lib.hid (bl_tr (bl_al HB8.out _) hb)
  clear hb HB8
  go_wp2_with fail
  refine (got_any (some ⟨w9.heap.size, 0, none⟩) 11 [33, 255, 255, 255, 255, 255, 255, 255, 255, 255, 1] (by intro x hx; simp at hx; omega) (Nat.le_refl _) (by decide) _ (bytes_own11 w9).in).mono ?_
  rw [gI_max]
  rintro e w10 ⟨rfl, hb⟩
  have HB10 := Lib.hid (bl_tr (bl_al HB9.out _) hb)
  clear hb HB9
  go_wp2_with fail
  refine (got_any (some ⟨w10.heap.size, 0, none⟩) 2 [46, 1] (by intro x hx; simp at hx; omega) (Nat.le_refl _) (by decide) _ (bytes_own2 w10 46 1).in).mono ?_
  rw [gI_46]
  rintro e w11 ⟨rfl, hb⟩
  have HB11 := Lib.hid (bl_tr (bl_al HB10.out _) hb)
  clear hb HB10
  go_wp2_with fail
  refine (ByName_any ⟨#[122, 101, 114, 111]⟩ _).mono ?_
  rintro e w12 ⟨r, t, rfl, hr, hb⟩
  obtain ⟨rfl, rfl⟩ := hr.same by_zero
  have HN12 := Lib.hid ((InB.new w11 #[.int .i64 9, .int .i64 9] 60).le hb)
  clear hr
  have HB12 := Lib.hid (bl_tr (bl_al HB11.out _) hb)
  clear hb HB11
  go_wp2_with fail
  refine (ByName_any ⟨#[]⟩ _).mono ?_
  rintro e w13 ⟨r, t, rfl, hr, hb⟩
  obtain ⟨rfl, rfl⟩ := hr.same by_none
  clear hr
  have HN13 := Lib.hid (HN12.out.le hb)
  have n0 := HN13.out.cell (j := 0) rfl
  have n1 := HN13.out.cell (j := 1) rfl
  clear HN12
  have HB13 := Lib.hid (bl_tr HB12.out hb)
  clear hb HB12
  go_wp2_with fail
  simp only [List.append_eq, List.cons_append, List.nil_append]
  have k0 := cell_regrown n0
  have k1 := cell_regrown n1
  clear n0 n1 x1 x2 x3 x4
  have c0 : ∀ d os, Calls Try.prog 31 #[.int .i64 (0), .int .i64 45, .int .i64 1] (grow (redrawn w13 d) os) fun e w'' => e = .returned (.agg #[.int .i64 0, .int .i64 1]) ∧ ∃ p : Regrown, w'' = grow (redrawn w13 p.d) p.os := fun d os => Calls.regrown_of (effect_any (0) 45 1 (by decide) _)
  have c1 : ∀ d os, Calls Try.prog 31 #[.int .i64 (0), .int .i64 46, .int .i64 0] (grow (redrawn w13 d) os) fun e w'' => e = .returned (.agg #[.int .i64 2, .int .i64 0]) ∧ ∃ p : Regrown, w'' = grow (redrawn w13 p.d) p.os := fun d os => Calls.regrown_of (effect_any (0) 46 0 (by decide) _)
  have c2 : ∀ d os, Calls Try.prog 31 #[.int .i64 (0), .int .i64 33, .int .i64 1] (grow (redrawn w13 d) os) fun e w'' => e = .returned (.agg #[.int .i64 0, .int .i64 1]) ∧ ∃ p : Regrown, w'' = grow (redrawn w13 p.d) p.os := fun d os => Calls.regrown_of (effect_any (0) 33 1 (by decide) _)
  have c3 : ∀ d os, Calls Try.prog 31 #[.int .i64 (0), .int .i64 33, .int .i64 2] (grow (redrawn w13 d) os) fun e w'' => e = .returned (.agg #[.int .i64 9, .int .i64 9]) ∧ ∃ p : Regrown, w'' = grow (redrawn w13 p.d) p.os := fun d os => Calls.regrown_of (effect_any (0) 33 2 (by decide) _)
  have c4 : ∀ d os, Calls Try.prog 31 #[.int .i64 (0), .int .i64 43, .int .i64 2] (grow (redrawn w13 d) os) fun e w'' => e = .returned (.agg #[.int .i64 0, .int .i64 0]) ∧ ∃ p : Regrown, w'' = grow (redrawn w13 p.d) p.os := fun d os => Calls.regrown_of (effect_any (0) 43 2 (by decide) _)
  have c5 : ∀ d os, Calls Try.prog 31 #[.int .i64 (0), .int .i64 43, .int .i64 3] (grow (redrawn w13 d) os) fun e w'' => e = .returned (.agg #[.int .i64 9, .int .i64 9]) ∧ ∃ p : Regrown, w'' = grow (redrawn w13 p.d) p.os := fun d os => Calls.regrown_of (effect_any (0) 43 3 (by decide) _)
  have c6 : ∀ d os, Calls Try.prog 31 #[.int .i64 (0), .int .i64 47, .int .i64 0] (grow (redrawn w13 d) os) fun e w'' => e = .returned (.agg #[.int .i64 9, .int .i64 9]) ∧ ∃ p : Regrown, w'' = grow (redrawn w13 p.d) p.os := fun d os => Calls.regrown_of (effect_any (0) 47 0 (by decide) _)
  have c7 : ∀ d os, Calls Try.prog 31 #[.int .i64 (2), .int .i64 42, .int .i64 0] (grow (redrawn w13 d) os) fun e w'' => e = .returned (.agg #[.int .i64 9, .int .i64 9]) ∧ ∃ p : Regrown, w'' = grow (redrawn w13 p.d) p.os := fun d os => Calls.regrown_of (effect_any (2) 42 0 (by decide) _)
  have c8 : ∀ d os, Calls Try.prog 31 #[.int .i64 (-1), .int .i64 42, .int .i64 0] (grow (redrawn w13 d) os) fun e w'' => e = .returned (.agg #[.int .i64 9, .int .i64 9]) ∧ ∃ p : Regrown, w'' = grow (redrawn w13 p.d) p.os := fun d os => Calls.regrown_of (effect_any (-1) 42 0 (by decide) _)
  have c9 : ∀ d os, Calls Try.prog 31 #[.int .i64 (0), .int .i64 38, .int .i64 0] (grow (redrawn w13 d) os) fun e w'' => e = .returned (.agg #[.int .i64 2, .int .i64 0]) ∧ ∃ p : Regrown, w'' = grow (redrawn w13 p.d) p.os := fun d os => Calls.regrown_of (effect_any (0) 38 0 (by decide) _)
  have c10 : ∀ d os, Calls Try.prog 31 #[.int .i64 (1), .int .i64 44, .int .i64 0] (grow (redrawn w13 d) os) fun e w'' => e = .returned (.agg #[.int .i64 9, .int .i64 9]) ∧ ∃ p : Regrown, w'' = grow (redrawn w13 p.d) p.os := fun d os => Calls.regrown_of (effect_any (1) 44 0 (by decide) _)
  have c11 : ∀ d os, Calls Try.prog 15 #[.int .i64 44] (grow (redrawn w13 d) os) fun e w'' => e = .returned (.string ⟨#[122, 101, 114, 111]⟩) ∧ ∃ p : Regrown, w'' = grow (redrawn w13 p.d) p.os := fun d os => Calls.regrown_of (Name_any 44 _)
  have c12 : ∀ d os, Calls Try.prog 15 #[.int .i64 0] (grow (redrawn w13 d) os) fun e w'' => e = .returned (.string ⟨#[]⟩) ∧ ∃ p : Regrown, w'' = grow (redrawn w13 p.d) p.os := fun d os => Calls.regrown_of (Name_any 0 _)
  have c13 : ∀ d os, Calls Try.prog 15 #[.int .i64 48] (grow (redrawn w13 d) os) fun e w'' => e = .returned (.string ⟨#[]⟩) ∧ ∃ p : Regrown, w'' = grow (redrawn w13 p.d) p.os := fun d os => Calls.regrown_of (Name_any 48 _)
  refine wp_region_quiet_below (by kernel_rfl) (by kernel_rfl) ?_
  go_big_quiet_step (exact c0 _ _)
  iterate 3 (go_big_quiet_step (fail))
  go_big_quiet_step (exact c1 _ _)
  iterate 4 (go_big_quiet_step (fail))
  go_big_quiet_step (exact c2 _ _)
  iterate 4 (go_big_quiet_step (fail))
  go_big_quiet_step (exact c3 _ _)
  iterate 4 (go_big_quiet_step (fail))
  go_big_quiet_step (exact c4 _ _)
  iterate 4 (go_big_quiet_step (fail))
  go_big_quiet_step (exact c5 _ _)
  iterate 4 (go_big_quiet_step (fail))
  go_big_quiet_step (exact c6 _ _)
  iterate 4 (go_big_quiet_step (fail))
  go_big_quiet_step (exact c7 _ _)
  iterate 4 (go_big_quiet_step (fail))
  go_big_quiet_step (exact c8 _ _)
  iterate 4 (go_big_quiet_step (fail))
  go_big_quiet_step (exact c9 _ _)
  iterate 4 (go_big_quiet_step (fail))
  go_big_quiet_step (exact c10 _ _)
  iterate 4 (go_big_quiet_step (fail))
  go_big_quiet_step (exact c11 _ _)
  iterate 14 (go_big_quiet_step (fail))
  go_big_quiet_step (exact c12 _ _)
  iterate 3 (go_big_quiet_step (fail))
  go_big_quiet_step (exact c13 _ _)
  iterate 3 (go_big_quiet_step (fail))
  refine wpQuiet_nil ?_
  intro _ hw'
  obtain ⟨⟨dq, osq⟩, hw''⟩ := hw'
  subst hw''
  have HV := Lib.hid (bl_tr HB13.out (below_regrown w13 dq osq))
  generalize grow (redrawn w13 dq) osq = V at HV ⊢
  clear c0 c1 c2 c3 c4 c5 c6 c7 c8 c9 c10 c11 c12 c13
  go_wp2
  go_ret
  exact ⟨rfl, HV.out⟩
end Go.Proofs.Ytahnhohccbnhjaa
