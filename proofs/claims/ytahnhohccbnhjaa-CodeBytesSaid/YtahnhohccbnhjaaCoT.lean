/- CodeBytes: the law's walk. -/
import Derived.Test.YtahnhohccbnhjaaApN
import Derived.Laws.StructEq
namespace Go.Proofs.Ytahnhohccbnhjaa
open Go Go.RowKit Go.Proofs.Mm Go.Sort

theorem eqIns (a b c d : Int) (w : World) : (Op.equalIn 10000 23 (.agg #[.int .i64 a, .int .i64 b]) (.agg #[.int .i64 c, .int .i64 d])).run Try.prog w = .ok (a == c && b == d) w := by
  have u3 := Try.underlying3
  have u2 := Try.underlying2
  have hS : Try.prog.underlying 23 = some (.struct (Try.prog.fieldsOf 23)) := by kernel_rfl
  have hp : Try.prog.stoodInHeld 23 = false := by kernel_rfl
  rw [show (10000 : Nat) = 9999 + 1 from rfl, run_equalIn_agg w 9999 23 _ _ hS hp]
  simp only [Program.fieldsOf, Try.underlying23]
  go_simp
  by_cases h1 : a = c <;> by_cases h2 : b = d <;> simp [h1, h2]
theorem eqIns' (a b c d : Int) (w : World) : (binOp .eql 23 (.agg #[.int .i64 a, .int .i64 b]) (.agg #[.int .i64 c, .int .i64 d])).run Try.prog w = .ok (.bool (a == c && b == d)) w := by
  rw [run_eql_struct, eqIns]; rfl
theorem neIns' (a b c d : Int) (w : World) : (binOp .neq 23 (.agg #[.int .i64 a, .int .i64 b]) (.agg #[.int .i64 c, .int .i64 d])).run Try.prog w = .ok (.bool (!(a == c && b == d))) w := by
  rw [run_neq_struct, eqIns]; rfl
theorem lent_own {w : World} {b q cap : Nat} {ns : List Nat} (h : w.ownsRow b 5 1 (.slice (some ⟨q, 0, none⟩) (ns.length + 1) cap) (ns.length + 1) (bv (ns ++ [markB]))) : OwnB b w (.slice (some ⟨q, 0, none⟩) (ns.length + 1) cap) (ns ++ [markB]) := by
  unfold OwnB
  rw [show (ns ++ [markB]).length = ns.length + 1 from by simp]
  exact h
theorem own_lent {w : World} {b q cap : Nat} {ns : List Nat} (h : OwnB b w (.slice (some ⟨q, 0, none⟩) (ns.length + 1) cap) (ns ++ [markB])) : w.ownsRow b 5 1 (.slice (some ⟨q, 0, none⟩) (ns.length + 1) cap) (ns.length + 1) (bv (ns ++ [markB])) := by
  unfold OwnB at h
  rw [show (ns ++ [markB]).length = ns.length + 1 from by simp] at h
  exact h
set_option maxRecDepth 100000 in
set_option maxHeartbeats 4000000 in
theorem bytes_law (op a : Int) (h1 : -9223372036854775808 ≤ a) (h2 : a < 9223372036854775808) (p : Option Addr) (c : Nat) (ns : List Nat) (hp : (p = none ∧ ns = [] ∧ c = 0) ∨ ∃ ad, p = some ad) (hl : ns.length ≤ c) (hm : c ≤ maxLen) (hb : ns.length + 1 ≤ 140737488355328) (hx : bytesL ns) (w : World) (hs : ByIn w.heap.size w p ns) :
    Calls Try.prog 4 #[inV op a, .slice p ns.length c] w fun e w' => e = .returned (.bool true) ∧ Below w.heap.size w w' := by
  have HPut := Lib.hid (fun W => cPut_any W op a h1 h2)
  have HRef := Lib.hid (fun W => crPut_any W op a h1 h2)
  have HLen := Lib.hid (putI_len op a h1 h2)
  have HLent := Lib.hid (fun (W : World) (hw : Below w.heap.size w W) => lent_any p c ns hp hb W (hs.below hw (Nat.le_refl _) hw.size))
  have HGet := Lib.hid (fun (W : World) (q : Option Addr) (cap : Nat) (h : ns.length ≤ cap) (hc : cap ≤ maxLen) (hq : ByIn W.heap.size W q ns) => cGet_any q cap ns hx h hc W hq)
  have HRGet := Lib.hid (fun (W : World) (hw : Below w.heap.size w W) => crGet_any p c ns hx hl hm W (hs.below hw (Nat.le_refl _) hw.size))
  have HKept := Lib.hid (fun (W : World) (q cap : Nat) (h : ns.length + 1 ≤ cap) (hc : cap ≤ maxLen) (hq : ByIn W.heap.size W (some ⟨q, 0, none⟩) ns) (hlt : q < W.heap.size) (hk : W.cell? ⟨q, ns.length, none⟩ = some (.int .u8 201)) (hw : Below w.heap.size w W) => kept_any q p cap c ns h hc W hq (hs.below hw (Nat.le_refl _) hw.size) hlt hk)
  have HCat := Lib.hid (show (ns ++ [markB]).length = ns.length + 1 from by simp)
  clear h1 h2 hp hl hm hb hx hs
  go_enter Try.func4, Try.ntmps4
  go_wp2_with fail
  refine (HLent.out _ (bl_al (Below.refl _ _) _)).mono ?_
  rintro e w1 ⟨q, cap, rfl, hq, hcap, hrow, hb⟩
  have hI := (InB.new w #[.int .i64 op, .int .i64 a] 23).le hb
  have d0 := hI.cell (j := 0) rfl
  have d1 := hI.cell (j := 1) rfl
  have HI := Lib.hid hI
  have HB := Lib.hid ((bl_al (Below.refl _ w) (.cells #[.int .i64 op, .int .i64 a] 23)).trans (hb.mono (by simp)))
  have HL := Lib.hid ((lent_own hrow).base (Nat.le_of_lt (show w.heap.size < (w.alloc (.cells #[.int .i64 op, .int .i64 a] 23)).heap.size by simp)))
  have HCAP := Lib.hid (And.intro hcap (lent_row hrow).2.2.2.2)
  clear hI hb hrow hq hcap
  go_wp2_with fail
  refine (HPut.out _).mono ?_
  rintro e w2 ⟨⟨vx, rfl, hX, hXn⟩, hb⟩
  have hI := HI.out.le hb
  have d0 := hI.cell (j := 0) rfl
  have d1 := hI.cell (j := 1) rfl
  have HI2 := Lib.hid hI
  have HL2 := Lib.hid (HL.out.stay hb)
  have HB2 := Lib.hid (bl_tr HB.out hb)
  have HX := Lib.hid hX
  have HXN := Lib.hid hXn
  obtain ⟨qx, cx, rfl⟩ := hX.slice
  clear hI hb hX hXn HI HL
  go_wp2_with fail
  refine (HPut.out _).mono ?_
  rintro e w3 ⟨⟨vy, rfl, hY, hYn⟩, hb⟩
  have hI := HI2.out.le hb
  have d0 := hI.cell (j := 0) rfl
  have d1 := hI.cell (j := 1) rfl
  have HI3 := Lib.hid hI
  have HL3 := Lib.hid (HL2.out.stay hb)
  have HX3 := Lib.hid (HX.out.stay hb)
  have HB3 := Lib.hid (bl_tr HB2.out hb)
  have HY := Lib.hid hY
  have HYN := Lib.hid hYn
  obtain ⟨qy, cy, rfl⟩ := hY.slice
  clear hI hb hY hYn HI2 HL2
  go_wp2_with fail
  refine (HRef.out _).mono ?_
  rintro e w4 ⟨⟨vz, rfl, hZ, _⟩, hb⟩
  have HL4 := Lib.hid (HL3.out.stay hb)
  have HX4 := Lib.hid (HX3.out.stay hb)
  have HY4 := Lib.hid (HY.out.stay hb)
  have HB4 := Lib.hid (bl_tr HB3.out hb)
  have HZ := Lib.hid hZ
  obtain ⟨qz, cz, rfl⟩ := hZ.slice
  clear hb hZ HI3 HL3 HX3 d0 d1
  go_wp2_with fail
  refine (HGet.out _ (some ⟨q, 0, none⟩) cap (by have := HCAP.out.1; omega) HCAP.out.2 (lent_row (own_lent HL4.out)).1).mono ?_
  generalize getI ns = R at HRGet ⊢
  obtain ⟨ro, ra, rn, re⟩ := R
  unfold gtV
  rintro e w5 ⟨rfl, hb⟩
  have HL5 := Lib.hid (HL4.out.stay hb)
  have HX5 := Lib.hid (HX4.out.stay hb)
  have HY5 := Lib.hid (HY4.out.stay hb)
  have HZ5 := Lib.hid (HZ.out.stay hb)
  have HB5 := Lib.hid (bl_tr HB4.out hb)
  clear hb HL4 HX4 HY4 HZ
  go_wp2_with fail
  refine (HRGet.out _ (bl_al HB5.out _)).mono ?_
  unfold gtV
  rintro e w6 ⟨rfl, hb⟩
  have hb' := (bl_al (Below.refl _ w5) (.cells #[.int .i64 ro, .int .i64 ra] 23)).trans (hb.mono (by simp))
  have hJ := (InB.new w5 #[.int .i64 ro, .int .i64 ra] 23).le hb
  have e0 := hJ.cell (j := 0) rfl
  have e1 := hJ.cell (j := 1) rfl
  have el := hJ.lt
  have HL6 := Lib.hid ((HL5.out.stay hb').alloc (.cells #[.int .i64 ro, .int .i64 ra] 23))
  have HX6 := Lib.hid ((HX5.out.stay hb').alloc (.cells #[.int .i64 ro, .int .i64 ra] 23))
  have HY6 := Lib.hid ((HY5.out.stay hb').alloc (.cells #[.int .i64 ro, .int .i64 ra] 23))
  have HZ6 := Lib.hid ((HZ5.out.stay hb').alloc (.cells #[.int .i64 ro, .int .i64 ra] 23))
  have HB6 := Lib.hid (bl_al (bl_tr HB5.out hb') (.cells #[.int .i64 ro, .int .i64 ra] 23))
  clear hb hb' hJ HL5 HX5 HY5 HZ5 HB5
  have hK := InB.new w6 #[.int .i64 ro, .int .i64 ra] 23
  have hE := cell_b e0 (bl_al (Below.refl _ w6) (.cells #[.int .i64 ro, .int .i64 ra] 23))
  have hE1 := cell_b e1 (bl_al (Below.refl _ w6) (.cells #[.int .i64 ro, .int .i64 ra] 23))
  clear e0 e1
  have hle := HLen.out
  go_wp2_with fail
  generalize w6.alloc (.cells #[.int .i64 ro, .int .i64 ra] 23) = U at *
  generalize w5.heap.size = b9 at *
  generalize w6.heap.size = b12 at *
  have HE := Lib.hid hE
  have HE1 := Lib.hid hE1
  have HK := Lib.hid hK
  have HXI := Lib.hid HX6.out.in
  have HYI := Lib.hid HY6.out.in
  have HZI := Lib.hid HZ6.out.in
  clear hE hE1 hK el
  refine (bytes_any qx qz cx cz _ _ (by unfold maxLen; omega) _ HXI.out HZI.out).mono ?_
  rw [decide_eq_true rfl]
  rintro e w7 ⟨rfl, hb⟩
  have HB7 := Lib.hid hb
  clear hb
  go_wp2_with fail
  refine (bytes_any qy qz cy cz _ _ (by unfold maxLen; omega) _ (HYI.out.below HB7.out (Nat.le_refl _) HB7.out.size) (HZI.out.below HB7.out (Nat.le_refl _) HB7.out.size)).mono ?_
  rw [decide_eq_true rfl]
  rintro e w8 ⟨rfl, hb⟩
  have HB8 := Lib.hid (bl_tr HB7.out hb)
  clear hb HB7
  have e0 := cell_b HE.out HB8.out
  have e1 := cell_b HE1.out HB8.out
  have e2 := (HK.out.le HB8.out).cell (j := 0) rfl
  have e3 := (HK.out.le HB8.out).cell (j := 1) rfl
  have heq : ∀ W, (binOp .eql 23 (.agg #[.int .i64 ro, .int .i64 ra]) (.agg #[.int .i64 ro, .int .i64 ra])).run Try.prog W = .ok (.bool true) W := fun W => by rw [eqIns']; simp
  go_wp2_with fail
  clear e0 e1 e2 e3 heq
  have HL8 := Lib.hid (lent_row (own_lent (HL6.out.stay HB8.out)))
  refine (HKept.out _ q cap HCAP.out.1 HCAP.out.2 HL8.out.1 HL8.out.2.2.1 HL8.out.2.1 (bl_tr HB6.out HB8.out)).mono ?_
  rintro e w9 ⟨rfl, hb⟩
  have HB9 := Lib.hid (bl_tr HB8.out hb)
  clear hb HL8 HB8
  go_wp2_with fail
  have HF : Hid (Calls Try.prog 24 #[.slice (some ⟨w9.heap.size, 0, none⟩) 2 2] (w9.alloc (.cells #[.slice qx (putI op a).length cx, .slice qy (putI op a).length cy] 35)) fun e w' => e = .returned (.bool true) ∧ Below w.heap.size w w') := by
    refine Lib.hid ?_
    have hBW : Below w.heap.size w (w9.alloc (.cells #[.slice qx (putI op a).length cx, .slice qy (putI op a).length cy] 35)) := bl_al (bl_tr HB6.out HB9.out) _
    have hl := InB.new w9 #[.slice qx (putI op a).length cx, .slice qy (putI op a).length cy] 35
    cases hm : mayI op a
    · have h1 := HXN.out hm
      have h2 := HYN.out hm
      rw [h1, h2] at hl hBW ⊢
      refine (apart_nil w9.heap.size 2 _ (fun q hq => ?_)).mono (fun e w' h => ⟨h.1, hBW.trans (h.2.mono hBW.size)⟩)
      have h3 : q = 0 ∨ q = 1 := by omega
      rcases h3 with rfl | rfl
      · exact hl.cell rfl
      · exact hl.cell rfl
    · have hpos : 0 < (putI op a).length := by unfold putI; rw [hm]; simp
      obtain ⟨gx, cx', ex, _⟩ := row_form HX.out hpos
      obtain ⟨gy, cy', ey, _⟩ := row_form HY.out hpos
      injection ex with ex1 _ ex3
      injection ey with ey1 _ ey3
      subst ex1 ey1 ex3 ey3
      have hgx := (HX.out.lt gx rfl).2
      have hgy := HY.out.lt gy rfl
      have hgx1 := (HX.out.lt gx rfl).1
      have hxU := (HX6.out.lt gx rfl).2
      have hyU := (HY6.out.lt gy rfl).2
      have hU9 := HB9.out.size
      have hBb := HB.out.size
      have hB3 := HB2.out.size
      have hX9 := (HX6.out.stay HB9.out).alloc (.cells #[.slice (some ⟨gx, 0, none⟩) (putI op a).length cx, .slice (some ⟨gy, 0, none⟩) (putI op a).length cy] 35)
      have hY9 := (HY6.out.stay HB9.out).alloc (.cells #[.slice (some ⟨gx, 0, none⟩) (putI op a).length cx, .slice (some ⟨gy, 0, none⟩) (putI op a).length cy] 35)
      refine (apart_any w9.heap.size w.heap.size (fun q => if q = 0 then gx else gy) (fun _ => (putI op a).length) (fun q => if q = 0 then cx else cy) (fun _ => putI op a) (fun q hq => ?_) (fun q r hq hr h => ?_) (fun q _ => by omega) 2 _ hBW.size ⟨fun q hq => ?_, fun q hq => ?_, fun _ _ => rfl, Below.refl _ _⟩).mono (fun e w' h => ⟨h.1, hBW.trans h.2⟩)
      · show ¬ w9.heap.size = if q = 0 then gx else gy
        split <;> omega
      · have h' : (if q = 0 then gx else gy) = (if r = 0 then gx else gy) := h
        split at h' <;> split at h' <;> omega
      · have h3 : q = 0 ∨ q = 1 := by omega
        rcases h3 with rfl | rfl
        · exact hl.cell rfl
        · exact hl.cell rfl
      · have h3 : q = 0 ∨ q = 1 := by omega
        rcases h3 with rfl | rfl
        · exact hX9.base hBb
        · exact hY9.base hB3
  refine HF.out.mono ?_
  rintro e w10 ⟨rfl, hb⟩
  have HB10 := Lib.hid hb
  clear hb HF
  go_wp2_with fail
  refine (awake_any _).mono ?_
  rintro e w11 ⟨rfl, hb⟩
  have HB11 := Lib.hid (HB10.out.trans (hb.mono HB10.out.size))
  clear hb
  go_wp2
  go_ret
  exact ⟨rfl, HB11.out⟩
end Go.Proofs.Ytahnhohccbnhjaa
