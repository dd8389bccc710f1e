/- CodeEffects, of whatever module. -/
import Derived.Test.YtahnhohccbnhjaaCoLg
import Derived.Test.YtahnhohccbnhjaaCoMl
namespace Go.Proofs.Ytahnhohccbnhjaa
open Go Go.RowKit Go.Proofs.Mm Go.Sort
theorem MoR.le {lt : Bool} {C D : Cl} {v : Value} {m : MoM} (h : MoR lt C v m) (hc : CLe C D) : MoR lt D v m := by
  obtain ⟨v1, v2, v3, v4, rfl, h1, h2, h3, h4⟩ := h
  exact ⟨v1, v2, v3, v4, rfl, h1.le hc, h2.le hc, h3.le hc, h4.le hc⟩
theorem Effect_mod {lt : Bool} {m : MoM} {v : Value} {W : World} (h : MoR lt (wC W) v m) (f op a : Int) (ha : a < 9223372036854775808) :
    Calls Try.prog 26 #[v, .int .i64 f, inV op a] W fun e w' => e = .returned (efV (effE m.globals.length m.arrays.length m.channels.length (m.funcs.map FnM.lens) f op a)) ∧ Below W.heap.size W w' := by
  obtain ⟨v1, v2, v3, v4, rfl, h1, h2, h3, h4⟩ := h
  obtain ⟨q1, c1, rfl⟩ := slx_shape h1
  obtain ⟨q2, c2, rfl⟩ := slx_shape h2
  obtain ⟨q3, c3, rfl⟩ := slx_shape h3
  have hmx := slx_max h4
  obtain ⟨q4, c4, rfl⟩ := slx_shape h4
  have hl : (m.funcs.map FnM.lens).length = m.funcs.length := List.length_map ..
  have h := Effect_any q1 m.globals.length c1 q2 m.arrays.length c2 q3 m.channels.length c3 q4 c4 (m.funcs.map FnM.lens) (by rw [hl]; exact hmx) f op a ha W (FnsR.at h4)
  rw [hl] at h
  exact h
theorem refEffect_mod {lt : Bool} {m : MoM} {v : Value} {W : World} (h : MoR lt (wC W) v m) (f op a : Int) (ha : a < 9223372036854775808) :
    Calls Try.prog 27 #[v, .int .i64 f, inV op a] W fun e w' => e = .returned (efV (effE m.globals.length m.arrays.length m.channels.length (m.funcs.map FnM.lens) f op a)) ∧ Below W.heap.size W w' := by
  obtain ⟨v1, v2, v3, v4, rfl, h1, h2, h3, h4⟩ := h
  obtain ⟨q1, c1, rfl⟩ := slx_shape h1
  obtain ⟨q2, c2, rfl⟩ := slx_shape h2
  obtain ⟨q3, c3, rfl⟩ := slx_shape h3
  have hmx := slx_max h4
  obtain ⟨q4, c4, rfl⟩ := slx_shape h4
  have hl : (m.funcs.map FnM.lens).length = m.funcs.length := List.length_map ..
  have h := refEffect_any q1 m.globals.length c1 q2 m.arrays.length c2 q3 m.channels.length c3 q4 c4 (m.funcs.map FnM.lens) (by rw [hl]; exact hmx) f op a ha W (FnsR.at h4)
  rw [hl] at h
  exact h
theorem mod_shape {lt : Bool} {C : Cl} {v : Value} {m : MoM} (h : MoR lt C v m) : ∃ q1 c1 q2 c2 q3 c3 q4 c4, v = .agg #[.slice q1 m.globals.length c1, .slice q2 m.arrays.length c2, .slice q3 m.channels.length c3, .slice q4 m.funcs.length c4] := by
  obtain ⟨v1, v2, v3, v4, rfl, h1, h2, h3, h4⟩ := h
  obtain ⟨q1, c1, rfl⟩ := slx_shape h1
  obtain ⟨q2, c2, rfl⟩ := slx_shape h2
  obtain ⟨q3, c3, rfl⟩ := slx_shape h3
  obtain ⟨q4, c4, rfl⟩ := slx_shape h4
  exact ⟨q1, c1, q2, c2, q3, c3, q4, c4, rfl⟩
set_option maxRecDepth 100000 in
set_option maxHeartbeats 2000000 in
theorem effects_law {m : MoM} {v : Value} {w : World} (h : MoR false (wC w) v m) (f op a : Int) (ha : a < 9223372036854775808) :
    Calls Try.prog 5 #[v, .int .i64 f, inV op a] w fun e w' => e = .returned (.bool true) ∧ Below w.heap.size w w' := by
  have hm0 : Has w (fun _ => none) := fun k o e => by cases e
  have HL := Lib.hid (fun W (hb : Below w.heap.size w W) => lentModule_any (h.le (below_cle hb)) (m := fun _ => none) (show Has W (fun _ => none) from fun k o e => by cases e))
  have HI := Lib.hid (fun W (hb : Below w.heap.size w W) => show MoR false (wC W) v m from h.le (below_cle hb))
  have HE := Lib.hid (fun (lt : Bool) (v : Value) W (h : MoR lt (wC W) v m) => Effect_mod h f op a ha)
  have HR := Lib.hid (fun (lt : Bool) (v : Value) W (h : MoR lt (wC W) v m) => refEffect_mod h f op a ha)
  obtain ⟨x, y, b, he⟩ : ∃ x y b, efV (effE m.globals.length m.arrays.length m.channels.length (m.funcs.map FnM.lens) f op a) = .tuple #[.int .i64 x, .int .i64 y, .bool b] := ⟨_, _, _, rfl⟩
  rw [he] at HE HR
  clear he hm0
  have b1 : (x == x) = true := by simp
  have b2 : (y == y) = true := by simp
  have b3 : (b == b) = true := by simp
  have HSH := Lib.hid (fun (W : World) (v' : Value) (h' : MoR true (wC W) v' m) => mod_shape h')
  obtain ⟨q1, c1, q2, c2, q3, c3, q4, c4, rfl⟩ := mod_shape h
  clear h
  generalize m.globals.length = n1 at *
  generalize m.arrays.length = n2 at *
  generalize m.channels.length = n3 at *
  generalize m.funcs.length = n4 at *
  go_enter Try.func5, Try.ntmps5
  go_wp2_with fail
  obtain ⟨W0, hW0⟩ : ∃ W0, (w.alloc (.cells #[.slice q1 n1 c1, .slice q2 n2 c2, .slice q3 n3 c3, .slice q4 n4 c4] 51)).alloc (.cells #[.int .i64 op, .int .i64 a] 23) = W0 := ⟨_, rfl⟩
  have HB0 := Lib.hid (show Below w.heap.size w W0 by rw [← hW0]; exact ((Below.refl _ w).alloc (Nat.le_refl _) _).alloc (by simp) _)
  have HX0 := Lib.hid (show W0.heap[w.heap.size]? = some (.cells #[.slice q1 n1 c1, .slice q2 n2 c2, .slice q3 n3 c3, .slice q4 n4 c4] 51 (0, 0)) by rw [← hW0]; exact heap_new _ _ (World.alloc_heap_new _ _))
  have HY0 := Lib.hid (show W0.heap[w.heap.size + 1]? = some (.cells #[.int .i64 op, .int .i64 a] 23 (0, 0)) from by
    have h9 := World.alloc_heap_new (w.alloc (.cells #[.slice q1 n1 c1, .slice q2 n2 c2, .slice q3 n3 c3, .slice q4 n4 c4] 51)) (.cells #[.int .i64 op, .int .i64 a] 23)
    rwa [show (w.alloc (.cells #[.slice q1 n1 c1, .slice q2 n2 c2, .slice q3 n3 c3, .slice q4 n4 c4] 51)).heap.size = w.heap.size + 1 by simp, hW0] at h9)
  rw [hW0]
  clear hW0
  go_at_call 25
  refine (HL.out W0 HB0.out).mono ?_
  rintro e w1 ⟨v', m', rfl, hb1, hmo, hH, hM⟩
  have hM1 : MoR true (wC w1) v' m := hM.le (has_cle hH)
  obtain ⟨p1, d1, p2, d2, p3, d3, p4, d4, rfl⟩ := HSH.out w1 v' hM1
  obtain ⟨W1, hW1⟩ : ∃ W1, w1.alloc (.cells #[.slice p1 n1 d1, .slice p2 n2 d2, .slice p3 n3 d3, .slice p4 n4 d4] 51) = W1 := ⟨_, rfl⟩
  have hb : Below w1.heap.size w1 W1 := by rw [← hW1]; exact (Below.refl _ _).alloc (Nat.le_refl _) _
  have HB1 := Lib.hid (HB0.out.trans ((be_le hb1 hb).mono HB0.out.size))
  have HX1 := Lib.hid ((hb.block _ (by have := hb1.size; have := heap_lt HX0.out; omega)).trans ((hb1.block _ (heap_lt HX0.out)).trans HX0.out))
  have HY1 := Lib.hid ((hb.block _ (by have := hb1.size; have := heap_lt HY0.out; omega)).trans ((hb1.block _ (heap_lt HY0.out)).trans HY0.out))
  have HZ1 := Lib.hid (show W1.heap[w1.heap.size]? = some (.cells #[.slice p1 n1 d1, .slice p2 n2 d2, .slice p3 n3 d3, .slice p4 n4 d4] 51 (0, 0)) by rw [← hW1]; exact World.alloc_heap_new _ _)
  have HW1 := Lib.hid hW1
  have HM1 := Lib.hid (show MoR true (wC W1) (.agg #[.slice p1 n1 d1, .slice p2 n2 d2, .slice p3 n3 d3, .slice p4 n4 d4]) m from hM1.le (below_cle hb))
  have j0 := cell_of (j := 0) ((hb1.block _ (heap_lt HY0.out)).trans HY0.out) rfl
  have j1 := cell_of (j := 1) ((hb1.block _ (heap_lt HY0.out)).trans HY0.out) rfl
  have hlt1 : w.heap.size + 1 < w1.heap.size := by have := hb1.size; have := heap_lt HY0.out; omega
  clear hM hM1 hH hmo hb1 hb HX0 HY0 HB0 hW1 HSH HL
  go_wp2_with fail
  try rw [HW1.out]
  go_at_call 26
  refine (HE.out true _ W1 HM1.out).mono ?_
  rintro e w2 ⟨rfl, hb⟩
  clear j0 j1
  have hlt2 : w1.heap.size < W1.heap.size := heap_lt HZ1.out
  have HB2 := Lib.hid (HB1.out.trans (hb.mono HB1.out.size))
  have HX2 := Lib.hid ((hb.block _ (heap_lt HX1.out)).trans HX1.out)
  have HY2 := Lib.hid ((hb.block _ (heap_lt HY1.out)).trans HY1.out)
  have HZ2 := Lib.hid ((hb.block _ (heap_lt HZ1.out)).trans HZ1.out)
  have HM2 := Lib.hid (HM1.out.le (below_cle hb))
  have j0 := cell_of (j := 0) HY2.out rfl
  have j1 := cell_of (j := 1) HY2.out rfl
  have m0 := cell_of (j := 0) HX2.out rfl
  have m1 := cell_of (j := 1) HX2.out rfl
  have m2 := cell_of (j := 2) HX2.out rfl
  have m3 := cell_of (j := 3) HX2.out rfl
  clear hb HX1 HY1 HZ1 HB1 HM1
  go_wp2_with fail
  go_at_call 27
  refine (HR.out false _ w2 (HI.out w2 HB2.out)).mono ?_
  rintro e w3 ⟨rfl, hb⟩
  clear j0 j1 m0 m1 m2 m3
  have HB3 := Lib.hid (HB2.out.trans (hb.mono HB2.out.size))
  have HX3 := Lib.hid ((hb.block _ (heap_lt HX2.out)).trans HX2.out)
  have HZ3 := Lib.hid ((hb.block _ (heap_lt HZ2.out)).trans HZ2.out)
  have HM3 := Lib.hid (HM2.out.le (below_cle hb))
  have m0 := cell_of (j := 0) HX3.out rfl
  have m1 := cell_of (j := 1) HX3.out rfl
  have m2 := cell_of (j := 2) HX3.out rfl
  have m3 := cell_of (j := 3) HX3.out rfl
  have i0 := cell_of (j := 0) HZ3.out rfl
  have i1 := cell_of (j := 1) HZ3.out rfl
  have i2 := cell_of (j := 2) HZ3.out rfl
  have i3 := cell_of (j := 3) HZ3.out rfl
  clear hb HX2 HY2 HZ2 HB2 HM2
  go_wp2_with fail
  go_at_call 28
  refine (keptModule_true HM3.out (HI.out w3 HB3.out)).mono ?_
  rintro e w4 ⟨rfl, hb⟩
  have HB4 := Lib.hid (HB3.out.trans (hb.mono HB3.out.size))
  clear hb m0 m1 m2 m3 i0 i1 i2 i3 HX3 HZ3
  go_wp2_with fail
  refine (awake_any _).mono ?_
  rintro e w5 ⟨rfl, hb⟩
  have HB5 := Lib.hid (HB4.out.trans (hb.mono HB4.out.size))
  clear hb
  go_wp2
  go_ret
  exact ⟨rfl, HB5.out⟩
end Go.Proofs.Ytahnhohccbnhjaa
