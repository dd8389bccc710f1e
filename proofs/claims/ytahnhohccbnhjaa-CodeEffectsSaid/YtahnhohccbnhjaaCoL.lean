/- Bytes of instructions: Put, of package code and of the document's answer, in every memory. -/
import Derived.Test.YtahnhohccbnhjaaCoK
namespace Go.Proofs.Ytahnhohccbnhjaa
open Go Go.RowKit Go.Proofs.Mm Go.Sort

/-- The bytes of an instruction. -/
def putI (op a : Int) : List Nat := if mayI op a then op.toNat :: (if op = 32 then putS a else if opdI op then putU a.toNat else []) else []
/-- Bytes handed out: new memory; none at all of what may not be. -/
structure PutR (w : World) (op a : Int) (e : Ending) (w' : World) : Prop where
  val : ∃ v, e = .returned v ∧ OwnB w.heap.size w' v (putI op a) ∧ (mayI op a = false → v = .slice none 0 0)
  bl : Below w.heap.size w w'
theorem wrapU64 (z : Int) : IntKind.u64.wrap z = z % 18446744073709551616 := by simp [IntKind.wrap, IntKind.signed, IntKind.bits]
theorem byteI {op : Int} (h : knI op = true) : IntKind.u8.wrap op = op := by
  obtain ⟨k, hk, rfl⟩ := knI_nat h
  rw [byteU]
  omega
theorem one_own (w : World) (x : Nat) : OwnB w.heap.size (w.alloc (.cells #[.int .u8 (x : Int)] 5)) (.slice (some ⟨w.heap.size, 0, none⟩) 1 1) [x] :=
  World.ownsRow_lit w #[.int .u8 (x : Int)] 1 (Nat.le_refl _) (by unfold maxLen; omega) rfl
theorem kiI_none {op : Int} (h : knI op = true) (h2 : opdI op = false) : kiI op = 0 := by
  unfold opdI at h2
  rw [h, Bool.true_and, decide_eq_false_iff_not] at h2
  have h3 : ∀ k : Fin 48, 0 ≤ kiL.getD k.val 0 := by decide
  obtain ⟨k, hk, rfl⟩ := knI_nat h
  have h4 : 0 ≤ kiI (k : Int) := h3 ⟨k, hk⟩
  omega
section
variable (w : World) (op a : Int)
set_option maxRecDepth 100000 in
set_option maxHeartbeats 1000000 in
theorem Put_no (hm : mayI op a = false) : Calls Try.prog 18 #[inV op a] w (PutR w op a) := by
  have HM := Lib.hid (hm ▸ May_any op a)
  go_enter Try.func18, Try.ntmps18
  go_wp2_with fail
  refine (HM.out _).mono ?_
  rintro e w1 ⟨rfl, hb⟩
  have HB := Lib.hid ((bl_al (Below.refl _ w) _).trans (hb.mono (by simp)))
  clear hb
  go_wp2
  go_ret
  refine ⟨⟨_, rfl, ?_, fun _ => rfl⟩, HB.out⟩
  rw [show putI op a = [] from by unfold putI; rw [hm]; rfl]
  exact World.ownsRow_nil _ _ _ _
set_option maxRecDepth 100000 in
set_option maxHeartbeats 1000000 in
theorem Put_plain (hm : mayI op a = true) (h32 : op ≠ 32) (ho : opdI op = false) : Calls Try.prog 18 #[inV op a] w (PutR w op a) := by
  have HM := Lib.hid (hm ▸ May_any op a)
  have HO := Lib.hid (ho ▸ Operand_any op)
  have hbyte := byteI (mayI_kn hm)
  have h32b : (op == 32) = false := by rw [beq_eq_false_iff_ne]; exact h32
  obtain ⟨k, hk, rfl⟩ := knI_nat (mayI_kn hm)
  have HL := Lib.hid (show putI k a = [k] from by unfold putI; rw [hm, if_neg h32, ho]; rfl)
  have HMM := Lib.hid hm
  clear hm ho h32
  go_enter Try.func18, Try.ntmps18
  go_wp2_with fail
  refine (HM.out _).mono ?_
  rintro e w1 ⟨rfl, hb⟩
  have hl1 : w.heap.size < w1.heap.size := by have := hb.size; simp at this; omega
  have hI := (InB.new w #[.int .i64 (k : Int), .int .i64 a] 23).le hb
  have d0 := hI.cell (j := 0) rfl
  have d1 := hI.cell (j := 1) rfl
  have HB := Lib.hid ((bl_al (Below.refl _ w) _).trans (hb.mono (by simp)))
  clear hb hI
  go_wp2_with fail
  refine (HO.out _).mono ?_
  rintro e w2 ⟨rfl, rfl⟩
  go_wp2
  go_ret
  refine ⟨⟨_, rfl, ?_, fun h => absurd h (by rw [HMM.out]; simp)⟩, bl_al HB.out _⟩
  rw [HL.out]
  exact (one_own w1 k).base HB.out.size
set_option maxRecDepth 100000 in
set_option maxHeartbeats 1000000 in
theorem Put_const (h1 : -9223372036854775808 ≤ a) (h2 : a < 9223372036854775808) : Calls Try.prog 18 #[inV 32 a] w (PutR w 32 a) := by
  have hm : mayI 32 a = true := mayI_const a
  have HM := Lib.hid (hm ▸ May_any 32 a)
  have HL := Lib.hid (show putI 32 a = [32] ++ putS a from by unfold putI; rw [hm]; rfl)
  have HMM := Lib.hid hm
  clear hm
  go_enter Try.func18, Try.ntmps18
  go_wp2_with fail
  refine (HM.out _).mono ?_
  rintro e w1 ⟨rfl, hb⟩
  have hl1 : w.heap.size < w1.heap.size := by have := hb.size; simp at this; omega
  have hI := (InB.new w #[.int .i64 32, .int .i64 a] 23).le hb
  have d0 := hI.cell (j := 0) rfl
  have d1 := hI.cell (j := 1) rfl
  have HB := Lib.hid ((bl_al (Below.refl _ w) _).trans (hb.mono (by simp)))
  clear hb hI
  have HP := Lib.hid (fun (W : World) (hs : ByIn W.heap.size W (some ⟨w1.heap.size, 0, none⟩) [32]) => PutSigned_any (some ⟨w1.heap.size, 0, none⟩) 1 [32] a h1 h2 (.inr ⟨_, rfl⟩) (by simp) W hs)
  clear h1 h2
  have HO1 := Lib.hid (one_own w1 32)
  go_wp2_with fail
  refine (HP.out _ HO1.out.in).mono ?_
  rintro e w2 ⟨v, rfl, hO, hb⟩
  have HO := Lib.hid (hO.base (Nat.le_trans HB.out.size (by simp)))
  have HB2 := Lib.hid ((bl_al HB.out _).trans (hb.mono (by have := HB.out.size; simp; omega)))
  clear hO hb
  go_wp2
  go_ret
  refine ⟨⟨_, rfl, ?_, fun h => absurd h (by rw [HMM.out]; simp)⟩, HB2.out⟩
  rw [HL.out]
  exact HO.out
set_option maxRecDepth 100000 in
set_option maxHeartbeats 1000000 in
theorem Put_uns (hm : mayI op a = true) (h32 : op ≠ 32) (ho : opdI op = true) (h2 : a < 9223372036854775808) : Calls Try.prog 18 #[inV op a] w (PutR w op a) := by
  have HM := Lib.hid (hm ▸ May_any op a)
  have HO := Lib.hid (ho ▸ Operand_any op)
  have hbyte := byteI (mayI_kn hm)
  have h32b : (op == 32) = false := by rw [beq_eq_false_iff_ne]; exact h32
  obtain ⟨k, hk, rfl⟩ := knI_nat (mayI_kn hm)
  have ha0 : 0 ≤ a := by
    rw [mayI_unsigned ho h32] at hm
    exact of_decide_eq_true hm
  obtain ⟨m, rfl⟩ : ∃ m : Nat, a = m := ⟨a.toNat, by omega⟩
  have hw : IntKind.u64.wrap (m : Int) = (m : Int) := by rw [wrapU64]; omega
  have HL := Lib.hid (show putI k m = [k] ++ putU m from by unfold putI; rw [hm, if_neg h32, ho]; rfl)
  have HMM := Lib.hid hm
  clear hm ho h32
  go_enter Try.func18, Try.ntmps18
  go_wp2_with fail
  refine (HM.out _).mono ?_
  rintro e w1 ⟨rfl, hb⟩
  have hl1 : w.heap.size < w1.heap.size := by have := hb.size; simp at this; omega
  have hI := (InB.new w #[.int .i64 (k : Int), .int .i64 (m : Int)] 23).le hb
  have d0 := hI.cell (j := 0) rfl
  have d1 := hI.cell (j := 1) rfl
  have HB := Lib.hid ((bl_al (Below.refl _ w) _).trans (hb.mono (by simp)))
  clear hb hI
  have HP := Lib.hid (fun (W : World) (hs : ByIn W.heap.size W (some ⟨w1.heap.size, 0, none⟩) [k]) => Put_any (some ⟨w1.heap.size, 0, none⟩) 1 [k] m (by unfold W64; omega) (.inr ⟨_, rfl⟩) (by simp) W hs)
  clear ha0 h2
  have HO1 := Lib.hid (one_own w1 k)
  go_wp2_with fail
  refine (HO.out _).mono ?_
  rintro e w3 ⟨rfl, rfl⟩
  go_wp2_with fail
  refine (HP.out _ HO1.out.in).mono ?_
  rintro e w2 ⟨v, rfl, hO, hb⟩
  have HO := Lib.hid (hO.base (Nat.le_trans HB.out.size (by simp)))
  have HB2 := Lib.hid ((bl_al HB.out _).trans (hb.mono (by have := HB.out.size; simp; omega)))
  clear hO hb
  go_wp2
  go_ret
  refine ⟨⟨_, rfl, ?_, fun h => absurd h (by rw [HMM.out]; simp)⟩, HB2.out⟩
  rw [HL.out]
  exact HO.out
theorem cPut_any (h1 : -9223372036854775808 ≤ a) (h2 : a < 9223372036854775808) : Calls Try.prog 18 #[inV op a] w (PutR w op a) := by
  cases hm : mayI op a
  · exact Put_no w op a hm
  · by_cases h32 : op = 32
    · subst h32; exact Put_const w a h1 h2
    · cases ho : opdI op
      · exact Put_plain w op a hm h32 ho
      · exact Put_uns w op a hm h32 ho h2
set_option maxRecDepth 100000 in
set_option maxHeartbeats 1000000 in
theorem refPut_no (hm : mayI op a = false) : Calls Try.prog 19 #[inV op a] w (PutR w op a) := by
  have HM := Lib.hid (hm ▸ refMay_any op a)
  go_enter Try.func19, Try.ntmps19
  go_wp2_with fail
  refine (HM.out _).mono ?_
  rintro e w1 ⟨rfl, hb⟩
  have HB := Lib.hid ((bl_al (Below.refl _ w) _).trans (hb.mono (by simp)))
  clear hb
  go_wp2
  go_ret
  refine ⟨⟨_, rfl, ?_, fun _ => rfl⟩, HB.out⟩
  rw [show putI op a = [] from by unfold putI; rw [hm]; rfl]
  exact World.ownsRow_nil _ _ _ _
set_option maxRecDepth 100000 in
set_option maxHeartbeats 1000000 in
theorem refPut_plain (hm : mayI op a = true) (h32 : op ≠ 32) (ho : opdI op = false) : Calls Try.prog 19 #[inV op a] w (PutR w op a) := by
  have HM := Lib.hid (hm ▸ refMay_any op a)
  have hbyte := byteI (mayI_kn hm)
  obtain ⟨k, hk, rfl⟩ := knI_nat (mayI_kn hm)
  have HL := Lib.hid (show putI k a = [k] from by unfold putI; rw [hm, if_neg h32, ho]; rfl)
  have hk0 : kiI (k : Int) = 0 := kiI_none (mayI_kn hm) ho
  have HT := Lib.hid (show ∀ W, Calls Try.prog 9 #[.int .i64 (k : Int)] W fun e w' => e = .returned (.tuple #[.agg #[.string (nmI (k : Int)), .int .i64 (poI (k : Int)), .int .i64 (puI (k : Int)), .int .i64 (kiI (k : Int))], .bool true]) ∧ Below W.heap.size W w' from fun W => by
    have h := Table_any (k : Int) W
    unfold tbV rwV at h
    rw [mayI_kn hm] at h
    exact h)
  generalize nmI (k : Int) = ns at HT
  generalize poI (k : Int) = po at HT
  generalize puI (k : Int) = pu at HT
  rw [hk0] at HT
  have HMM := Lib.hid hm
  clear hm ho h32 hk0
  go_enter Try.func19, Try.ntmps19
  go_wp2_with fail
  refine (HM.out _).mono ?_
  rintro e w1 ⟨rfl, hb⟩
  have hl1 : w.heap.size < w1.heap.size := by have := hb.size; simp at this; omega
  have hI := (InB.new w #[.int .i64 (k : Int), .int .i64 a] 23).le hb
  have d0 := hI.cell (j := 0) rfl
  have HI := Lib.hid hI
  have HB := Lib.hid ((bl_al (Below.refl _ w) _).trans (hb.mono (by simp)))
  clear hb hI
  go_wp2_with fail
  refine (HT.out _).mono ?_
  rintro e w2 ⟨rfl, hb⟩
  have hI := HI.out.le hb
  have d0 := hI.cell (j := 0) rfl
  have d1 := hI.cell (j := 1) rfl
  have hl2 := hI.lt
  have HB2 := Lib.hid (bl_tr HB.out hb)
  clear hb hI hl1 HI HB
  go_wp2
  all_goals
    go_ret
    refine ⟨⟨_, rfl, ?_, fun h => absurd h (by rw [HMM.out]; simp)⟩, bl_al (bl_al HB2.out _) _⟩
    rw [HL.out]
    have h := one_own (w2.alloc (.cells #[.string ns, .int .i64 po, .int .i64 pu, .int .i64 0] 25)) k
    rw [World.size_alloc] at h
    exact h.base (Nat.le_trans HB2.out.size (by simp))
set_option maxRecDepth 100000 in
set_option maxHeartbeats 1000000 in
theorem refPut_const (h1 : -9223372036854775808 ≤ a) (h2 : a < 9223372036854775808) : Calls Try.prog 19 #[inV 32 a] w (PutR w 32 a) := by
  have hm : mayI 32 a = true := mayI_const a
  have HM := Lib.hid (hm ▸ refMay_any 32 a)
  have HL := Lib.hid (show putI 32 a = [32] ++ putS a from by unfold putI; rw [hm]; rfl)
  have HT := Lib.hid (show ∀ W, Calls Try.prog 9 #[.int .i64 32] W fun e w' => e = .returned (.tuple #[.agg #[.string (nmI 32), .int .i64 (poI 32), .int .i64 (puI 32), .int .i64 (kiI 32)], .bool true]) ∧ Below W.heap.size W w' from fun W => by
    have h := Table_any 32 W
    unfold tbV rwV at h
    rw [mayI_kn hm] at h
    exact h)
  generalize nmI 32 = ns at HT
  generalize poI 32 = po at HT
  generalize puI 32 = pu at HT
  rw [show kiI 32 = 1 from rfl] at HT
  have HMM := Lib.hid hm
  have HP := Lib.hid (refPutSigned_any a h1 h2)
  have HNE := Lib.hid (putS_ne a)
  have HLEN := Lib.hid (putS_ten h1 h2)
  clear hm h1 h2
  go_enter Try.func19, Try.ntmps19
  go_wp2_with fail
  refine (HM.out _).mono ?_
  rintro e w1 ⟨rfl, hb⟩
  have hl1 : w.heap.size < w1.heap.size := by have := hb.size; simp at this; omega
  have hI := (InB.new w #[.int .i64 32, .int .i64 a] 23).le hb
  have d0 := hI.cell (j := 0) rfl
  have HI := Lib.hid hI
  have HB := Lib.hid ((bl_al (Below.refl _ w) _).trans (hb.mono (by simp)))
  clear hb hI
  go_wp2_with fail
  refine (HT.out _).mono ?_
  rintro e w2 ⟨rfl, hb⟩
  have hI := HI.out.le hb
  have d0 := hI.cell (j := 0) rfl
  have d1 := hI.cell (j := 1) rfl
  have hl2 := hI.lt
  have HB2 := Lib.hid (bl_tr HB.out hb)
  clear hb hI hl1 HI HB
  have HR0 := Lib.hid (((one_own (w2.alloc (.cells #[.string ns, .int .i64 po, .int .i64 pu, .int .i64 1] 25)) 32)).base (show w.heap.size ≤ _ from Nat.le_trans HB2.out.size (by simp)))
  go_wp2_with fail
  refine (HP.out _).mono ?_
  rintro e w3 ⟨v, rfl, hO, hb⟩
  have HB3 := Lib.hid ((bl_al (bl_al HB2.out _) _).trans (hb.mono (by have := HB2.out.size; simp; omega)))
  obtain ⟨g, cp, rfl, hg⟩ := row_form hO (List.length_pos_iff.2 HNE.out)
  have hin := hO.in
  have hcl := by_cells hin
  have hR := HR0.out.stay hb
  rw [World.size_alloc] at hR
  have HR := Lib.hid hR
  have r3 := ((InB.new w2 #[.string ns, .int .i64 po, .int .i64 pu, .int .i64 1] 25).le (bl_al (Below.refl _ _) (.cells #[.int .u8 (32 : Int)] 5))).le hb
  clear hR
  have hbig := HB3.out.size
  have hlen := HLEN.out
  clear hO hin
  go_wp2_with (at_builtin; refine wpList_bytes rfl _ _ rfl w.heap.size _ [32] rfl HR.out ⟨g, 0, none⟩ cp (putS a) rfl hcl (by simp; omega) hbig ?_)
  intro v2 w4 hO2 hgr _
  have HB4 := Lib.hid (HB3.out.trans (below_own hgr hbig (fun t ht => (HR.out.lt t ht).1)))
  have HO2 := Lib.hid hO2
  have r4 : InB w4 w2.heap.size #[.string ns, .int .i64 po, .int .i64 pu, .int .i64 1] 25 := (hgr.block _ r3.lt (fun e => by simp [Value.ownBlock] at e)).trans r3
  have q3 := r4.cell (j := 3) rfl
  clear hO2 hgr hcl hbig hlen r3 r4
  go_wp2
  all_goals
    go_ret
    refine ⟨⟨_, rfl, ?_, fun h => absurd h (by rw [HMM.out]; simp)⟩, HB4.out⟩
    rw [HL.out]
    exact HO2.out
set_option maxRecDepth 100000 in
set_option maxHeartbeats 1000000 in
theorem refPut_uns (hm : mayI op a = true) (h32 : op ≠ 32) (ho : opdI op = true) (h2 : a < 9223372036854775808) : Calls Try.prog 19 #[inV op a] w (PutR w op a) := by
  have HM := Lib.hid (hm ▸ refMay_any op a)
  have hbyte := byteI (mayI_kn hm)
  have hk1 : 1 < kiI op := by
    have h := ho
    unfold opdI at h
    rw [Bool.and_eq_true, decide_eq_true_iff] at h
    have h1 : kiI op ≠ 1 := fun e => h32 (kiI_one e)
    omega
  obtain ⟨k, hk, rfl⟩ := knI_nat (mayI_kn hm)
  have ha0 : 0 ≤ a := by
    rw [mayI_unsigned ho h32] at hm
    exact of_decide_eq_true hm
  obtain ⟨m, rfl⟩ : ∃ m : Nat, a = m := ⟨a.toNat, by omega⟩
  have hw : IntKind.u64.wrap (m : Int) = (m : Int) := by rw [wrapU64]; omega
  have HL := Lib.hid (show putI k m = [k] ++ putU m from by unfold putI; rw [hm, if_neg h32, ho]; rfl)
  have HT := Lib.hid (show ∀ W, Calls Try.prog 9 #[.int .i64 (k : Int)] W fun e w' => e = .returned (.tuple #[.agg #[.string (nmI (k : Int)), .int .i64 (poI (k : Int)), .int .i64 (puI (k : Int)), .int .i64 (kiI (k : Int))], .bool true]) ∧ Below W.heap.size W w' from fun W => by
    have h := Table_any (k : Int) W
    unfold tbV rwV at h
    rw [mayI_kn hm] at h
    exact h)
  generalize nmI (k : Int) = ns at HT
  generalize poI (k : Int) = po at HT
  generalize puI (k : Int) = pu at HT
  generalize kiI (k : Int) = ki at HT hk1
  have hki1 : ¬ ki = 1 := by omega
  have HMM := Lib.hid hm
  have hW : m < W64 := by unfold W64; omega
  have HP := Lib.hid (refPut_any m hW)
  have HNE := Lib.hid (putU_ne m)
  have HLEN := Lib.hid (putU_ten hW)
  clear hm ha0 h2 h32 ho hW
  go_enter Try.func19, Try.ntmps19
  go_wp2_with fail
  refine (HM.out _).mono ?_
  rintro e w1 ⟨rfl, hb⟩
  have hl1 : w.heap.size < w1.heap.size := by have := hb.size; simp at this; omega
  have hI := (InB.new w #[.int .i64 (k : Int), .int .i64 (m : Int)] 23).le hb
  have d0 := hI.cell (j := 0) rfl
  have HI := Lib.hid hI
  have HB := Lib.hid ((bl_al (Below.refl _ w) _).trans (hb.mono (by simp)))
  clear hb hI
  go_wp2_with fail
  refine (HT.out _).mono ?_
  rintro e w2 ⟨rfl, hb⟩
  have hI := HI.out.le hb
  have d0 := hI.cell (j := 0) rfl
  have d1 := hI.cell (j := 1) rfl
  have hl2 := hI.lt
  have HB2 := Lib.hid (bl_tr HB.out hb)
  clear hb hI hl1 HI HB
  have HR0 := Lib.hid (((one_own (w2.alloc (.cells #[.string ns, .int .i64 po, .int .i64 pu, .int .i64 ki] 25)) k)).base (show w.heap.size ≤ _ from Nat.le_trans HB2.out.size (by simp)))
  go_wp2_with fail
  refine (HP.out _).mono ?_
  rintro e w3 ⟨v, rfl, hO, hb⟩
  have HB3 := Lib.hid ((bl_al (bl_al HB2.out _) _).trans (hb.mono (by have := HB2.out.size; simp; omega)))
  obtain ⟨g, cp, rfl, hg⟩ := row_form hO (List.length_pos_iff.2 HNE.out)
  have hin := hO.in
  have hcl := by_cells hin
  have hR := HR0.out.stay hb
  rw [World.size_alloc] at hR
  have HR := Lib.hid hR
  have r3 := ((InB.new w2 #[.string ns, .int .i64 po, .int .i64 pu, .int .i64 ki] 25).le (bl_al (Below.refl _ _) (.cells #[.int .u8 (k : Int)] 5))).le hb
  clear hR
  have hbig := HB3.out.size
  have hlen := HLEN.out
  clear hO hin
  go_wp2_with (at_builtin; refine wpList_bytes rfl _ _ rfl w.heap.size _ [k] rfl HR.out ⟨g, 0, none⟩ cp (putU m) rfl hcl (by simp; omega) hbig ?_)
  intro v2 w4 hO2 hgr _
  have HB4 := Lib.hid (HB3.out.trans (below_own hgr hbig (fun t ht => (HR.out.lt t ht).1)))
  have HO2 := Lib.hid hO2
  have r4 : InB w4 w2.heap.size #[.string ns, .int .i64 po, .int .i64 pu, .int .i64 ki] 25 := (hgr.block _ r3.lt (fun e => by simp [Value.ownBlock] at e)).trans r3
  have q3 := r4.cell (j := 3) rfl
  clear hO2 hgr hcl hbig hlen r3 r4
  go_wp2
  all_goals
    go_ret
    refine ⟨⟨_, rfl, ?_, fun h => absurd h (by rw [HMM.out]; simp)⟩, HB4.out⟩
    rw [HL.out]
    exact HO2.out
theorem crPut_any (h1 : -9223372036854775808 ≤ a) (h2 : a < 9223372036854775808) : Calls Try.prog 19 #[inV op a] w (PutR w op a) := by
  cases hm : mayI op a
  · exact refPut_no w op a hm
  · by_cases h32 : op = 32
    · subst h32; exact refPut_const w a h1 h2
    · cases ho : opdI op
      · exact refPut_plain w op a hm h32 ho
      · exact refPut_uns w op a hm h32 ho h2
end
end Go.Proofs.Ytahnhohccbnhjaa
