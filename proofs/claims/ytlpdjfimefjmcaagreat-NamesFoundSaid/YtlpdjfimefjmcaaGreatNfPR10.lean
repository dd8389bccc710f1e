/- The laws' kinds: a statement's uses and what they may be. (Written by a program.) -/
import Derived.Test.YtlpdjfimefjmcaaGreatNfPR9
import Derived.Deep.CutRange
namespace Go.Proofs.YtlpdjfimefjmcaaGreat
open Go Go.RowKit Go.Proofs.Mm

section
variable {lt : Bool} {C : Cl} {W : World} {qt qe : Option Addr} {ct ce : Nat}
/-- The rows stand at u. -/
def TwoU (w : World) (u : List (ByteArray × Nat)) (l k : Value) (w' : World) : Prop := Two w u.length u.length (nmRow u) (kdRow u) l k w'
set_option maxRecDepth 100000 in
set_option maxHeartbeats 8000000 in
theorem kinds_p (x : StZ) (ht : StrR lt C (.slice qt x.targets.length ct) x.targets) (he : ExsR lt C (.slice qe x.exprs.length ce) x.exprs) (hC : CLe C (wC W)) (hok : UsOk x) :
    Calls Tryz.prog 9 #[.agg (stA x qt ct qe ce)] W fun e w' => ∃ l k w0, e = .returned (.tuple #[l, k]) ∧ Below W.heap.size W w0 ∧ TwoU w0 (usesZ x) l k w' := by
  have hsz := usesZ_len hok
  obtain ⟨i1, hi1, hz1, hs1, hb1⟩ := infoSr
  obtain ⟨i2, hi2, hz2, hs2', hb2⟩ := infoKz
  have HT := Lib.hid ht.cells
  have HE := Lib.hid he.cells
  have HC := Lib.hid hC
  have HUZ := Lib.hid (show usesZ x = x.targets.map (fun n => (n, 2)) ++ ((if x.kind = 2 then [(x.name, 3)] else if x.kind = 3 then [(x.name, 4)] else if x.kind = 4 then [(x.name, 5)] else []) ++ x.exprs.flatMap usesT) from rfl)
  have HOK := Lib.hid hok
  clear ht he hC hok
  unfold stA
  obtain ⟨nt, hnt⟩ : ∃ n, x.targets.length = n := ⟨_, rfl⟩
  obtain ⟨ne, hne⟩ : ∃ n, x.exprs.length = n := ⟨_, rfl⟩
  have HNT := Lib.hid hnt
  have HNE := Lib.hid hne
  have hntb : nt ≤ 8796093021952 := by rw [← hnt]; exact HOK.out.1
  have hneb : ne ≤ 8 := by rw [← hne]; exact HOK.out.2.1
  rw [hnt, hne]
  clear hnt hne hsz
  generalize x.kind = kd at *
  generalize x.name = xn at *
  go_enter Tryz.func9, Tryz.ntmps9
  go_wp2_with fail
  obtain ⟨w0, hw0⟩ : ∃ w0, W.alloc (.cells #[.int .i64 kd, .string xn, .slice qt nt ct, .slice qe ne ce] 47) = w0 := ⟨_, rfl⟩
  have j0 : InB w0 W.heap.size #[.int .i64 kd, .string xn, .slice qt nt ct, .slice qe ne ce] 47 := by rw [← hw0]; exact InB.new _ _ _
  have HB0 := Lib.hid (show Below W.heap.size W w0 by rw [← hw0]; exact bl_al (Below.refl _ _) _)
  rw [hw0]
  clear hw0
  have HJ := Lib.hid j0
  clear j0
  go_loopw [4, 5, 6] (fun l k i wr => ∃ (j : Nat) (q1 : Option Addr) (c1 : Nat) (q2 : Option Addr) (c2 : Nat), j ≤ nt ∧ i = .int .i64 j ∧ l = .slice q1 j c1 ∧ k = .slice q2 j c2 ∧ Hid (Two w0 j j (nmRow ((x.targets.take j).map fun n => (n, 2))) (kdRow ((x.targets.take j).map fun n => (n, 2))) (.slice q1 j c1) (.slice q2 j c2) wr)) (fun _ _ i _ => nt - (intOf i).toNat)
  case atStart => exact ⟨0, none, 0, none, 0, Nat.zero_le _, rfl, rfl, rfl, Lib.hid (Two.start w0)⟩
  case round =>
    obtain ⟨j, q1, c1, q2, c2, hj, rfl, rfl, rfl, H2⟩ := hrel
    generalize wr = V at *
    have HBV := Lib.hid (bl_tr HB0.out H2.out.below)
    have HJV := Lib.hid (HJ.out.le H2.out.below)
    have s2 := HJV.out.cell (j := 2) (v := .slice qt nt ct) rfl
    have hbx := HJV.out.lt
    by_cases hlt : j < nt
    · have hjt : j < x.targets.length := by rw [HNT.out]; exact hlt
      obtain ⟨g, o, rfl, a0⟩ := HT.out j hjt
      have e0 := below_cle HBV.out _ _ (HC.out _ _ a0)
      unfold wC at e0
      have hglt : g < V.heap.size := World.block_lt_of_cell? _ _ e0
      have HU := Lib.hid (show (x.targets.take (j + 1)).map (fun n => (n, 2)) = (x.targets.take j).map (fun n => (n, 2)) ++ [(x.targets[j], 2)] by rw [List.take_succ_eq_append_getElem hjt, List.map_append]; rfl)
      generalize x.targets[j] = tn at *
      clear a0 hjt
      generalize (x.targets.take j).map (fun n => (n, 2)) = U0 at *
      have hji : (j : Int) < (nt : Int) := by omega
      have H3 := Lib.hid (H2.out.le (bl_al (Below.refl _ _) (.cells #[.string tn] 9)))
      have hnew := row_new V [.string tn] 9
      have hone : ∀ u ∈ [Value.string tn], u.oneCell' = true := by intro u hu; rw [List.mem_singleton.1 hu]; rfl
      have hs2 := H2.out.below.size
      go_wp2_with (at_builtin; refine wpList_append_own_wide _ rfl _ _ 22 rfl w0.heap.size 9 i1 _ 1 16 und_strs hi1 hz1 hs1 hb1 rfl (by decide) _ _ _ rfl H3.out.one ⟨V.heap.size, 0, none⟩ 1 1 [.string tn] rfl rfl hnew hone (by unfold maxLen; omega) (by omega) (by simp; omega) ?_)
      intro v3 w3 hR3 hg3 _
      obtain ⟨q3, c3, rfl⟩ := own_shape hR3
      have H4 := Lib.hid (H3.out.first hR3 hg3)
      clear hR3 hg3  hnew hone e0 s2
      have H5 := Lib.hid (H4.out.le (bl_al (Below.refl _ _) (.cells #[.int .i64 1, .int .i64 2] 55)))
      have hnew := row_new w3 [.int .i64 1, .int .i64 2] 55
      have hone : ∀ u ∈ [Value.int .i64 1, .int .i64 2], u.oneCell' = true := by intro u hu; simp only [List.mem_cons, List.not_mem_nil, or_false] at hu; rcases hu with rfl | rfl <;> rfl
      have hs3 := H4.out.below.size
      go_wp2_with (at_builtin; refine wpList_append_own_wide _ rfl _ _ 48 rfl w0.heap.size 55 i2 _ 2 16 und_kds hi2 hz2 hs2' hb2 rfl (by decide) _ _ _ rfl H5.out.two ⟨w3.heap.size, 0, none⟩ 1 1 [.int .i64 1, .int .i64 2] rfl rfl hnew hone (by unfold maxLen; omega) (by omega) (by simp; omega) ?_)
      intro v5 w5 hR5 hg5 _
      obtain ⟨q5, c5, rfl⟩ := own_shape hR5
      have H6 := Lib.hid (H5.out.second hR5 hg5)
      clear hR5 hg5  hnew hone
      go_wp2_with fail
      exact ⟨⟨j + 1, q3, c3, q5, c5, by omega, by go_num, rfl, rfl, Lib.hid (by rw [HU.out, nmRow_snoc, kdRow_snoc]; exact H6.out)⟩, by simp [intOf]; omega⟩
    · obtain rfl : j = nt := by omega
      have HU := Lib.hid (show (x.targets.take j).map (fun n => (n, 2)) = x.targets.map fun n => (n, 2) by rw [List.take_of_length_le (by rw [HNT.out]; exact Nat.le_refl _)])
      rw [HU.out] at H2
      have HUL := Lib.hid (show (x.targets.map (fun n => (n, 2)) : List (ByteArray × Nat)).length = j by rw [List.length_map]; exact HNT.out)
      generalize x.targets.map (fun n => (n, 2)) = U0 at *
      clear HU

      have s0 := HJV.out.cell (j := 0) (v := .int .i64 kd) rfl
      go_upto_region 8 with fail
      go_cut [41] from 29 to 41 (fun r wx => ∃ t : Bool, r = .bool t ∧ wx = V ∧ Hid (t = true ↔ kd = 2 ∨ kd = 3 ∨ kd = 4))
      case first =>
        by_cases hk2 : kd = 2
        · subst hk2
          go_wp2_with fail
          go_meet
          exact ⟨true, rfl, rfl, Lib.hid (by simp)⟩
        have e2 : (kd == 2) = false := by rw [beq_eq_false_iff_ne]; exact hk2
        by_cases hk3 : kd = 3
        · subst hk3
          go_wp2_with fail
          go_meet
          exact ⟨true, rfl, rfl, Lib.hid (by simp)⟩
        have e3 : (kd == 3) = false := by rw [beq_eq_false_iff_ne]; exact hk3
        by_cases hk4 : kd = 4
        · subst hk4
          go_wp2_with fail
          go_meet
          exact ⟨true, rfl, rfl, Lib.hid (by simp)⟩
        have e4 : (kd == 4) = false := by rw [beq_eq_false_iff_ne]; exact hk4
        have HNO := Lib.hid (show false = true ↔ kd = 2 ∨ kd = 3 ∨ kd = 4 by simp [hk2, hk3, hk4])
        clear hk2 hk3 hk4
        go_wp2_with fail
        go_meet
        exact ⟨false, rfl, rfl, HNO⟩
      case rest =>
      obtain ⟨tt, rfl, hwv, HTT⟩ := hcut
      have hwv2 := hwv.symm
      subst hwv2
      clear s0 hwv
      go_upto_if 41 with fail
      go_cut [4, 5] from 42 to 56 (fun l k wx => ∃ (m : Nat) (q1 : Option Addr) (c1 : Nat) (q2 : Option Addr) (c2 : Nat) (L : List (ByteArray × Nat)), m ≤ 8796093021953 ∧ l = .slice q1 m c1 ∧ k = .slice q2 m c2 ∧ Hid (m = L.length) ∧ Hid (usesZ x = L ++ x.exprs.flatMap usesT) ∧ Hid (Two w0 m m (nmRow L) (kdRow L) (.slice q1 m c1) (.slice q2 m c2) wx))
      case first =>
        have s0 := HJV.out.cell (j := 0) (v := .int .i64 kd) rfl
        have s1 := HJV.out.cell (j := 1) (v := .string xn) rfl
        have HNL := Lib.hid (show U0.length = j from HUL.out)
        by_cases hk2 : kd = 2
        · subst hk2
          obtain rfl : tt = true := HTT.out.2 (by simp)
          have HLZ := Lib.hid (show usesZ x = (U0 ++ [(xn, 3)]) ++ x.exprs.flatMap usesT by rw [HUZ.out]; simp)
          have H2a := Lib.hid (H2.out.le (bl_al (Below.refl _ _) (.cells #[.string xn] 9)))
          have hnew := row_new V [.string xn] 9
          have hone : ∀ u ∈ [Value.string xn], u.oneCell' = true := by intro u hu; rw [List.mem_singleton.1 hu]; rfl
          have hs2 := H2.out.below.size
          go_wp2_with (at_builtin; refine wpList_append_own_wide _ rfl _ _ 22 rfl w0.heap.size 9 i1 _ 1 16 und_strs hi1 hz1 hs1 hb1 rfl (by decide) _ _ _ rfl H2a.out.one ⟨V.heap.size, 0, none⟩ 1 1 [.string xn] rfl rfl hnew hone (by unfold maxLen; omega) (by omega) (by simp; omega) ?_)
          intro v3 w3 hR3 hg3 _
          obtain ⟨q3, c3, rfl⟩ := own_shape hR3
          have H4 := Lib.hid (H2a.out.first hR3 hg3)
          clear hR3 hg3  hnew hone
          have H4a := Lib.hid (H4.out.le (bl_al (Below.refl _ _) (.cells #[.int .i64 3, .int .i64 3] 55)))
          have hnew := row_new w3 [.int .i64 3, .int .i64 3] 55
          have hone : ∀ u ∈ [Value.int .i64 3, .int .i64 3], u.oneCell' = true := by intro u hu; simp only [List.mem_cons, List.not_mem_nil, or_false] at hu; rcases hu with rfl | rfl <;> rfl
          have hs3 := H4.out.below.size
          have s0 := (HJ.out.le H4.out.below).cell (j := 0) (v := .int .i64 2) rfl
          have hbx := (HJ.out.le H4.out.below).lt
          go_wp2_with (at_builtin; refine wpList_append_own_wide _ rfl _ _ 48 rfl w0.heap.size 55 i2 _ 2 16 und_kds hi2 hz2 hs2' hb2 rfl (by decide) _ _ _ rfl H4a.out.two ⟨w3.heap.size, 0, none⟩ 1 1 [.int .i64 3, .int .i64 3] rfl rfl hnew hone (by unfold maxLen; omega) (by omega) (by simp; omega) ?_)
          intro v5 w5 hR5 hg5 _
          obtain ⟨q5, c5, rfl⟩ := own_shape hR5
          have H6 := Lib.hid (H4a.out.second hR5 hg5)
          clear hR5 hg5  hnew hone
          have HTW := Lib.hid (show Two w0 (j + 1) (j + 1) (nmRow (U0 ++ [(xn, 3)])) (kdRow (U0 ++ [(xn, 3)])) (.slice q3 (j + 1) c3) (.slice q5 (j + 1) c5) w5 by rw [nmRow_snoc, kdRow_snoc]; exact H6.out)
          have HML := Lib.hid (show j + 1 = (U0 ++ [(xn, 3)]).length by rw [List.length_append, HNL.out]; rfl)
          go_wp2_with fail
          go_meet
          exact ⟨j + 1, q3, c3, q5, c5, _, by omega, rfl, rfl, HML, HLZ, HTW⟩
        by_cases hk3 : kd = 3
        · subst hk3
          obtain rfl : tt = true := HTT.out.2 (by simp)
          have HLZ := Lib.hid (show usesZ x = (U0 ++ [(xn, 4)]) ++ x.exprs.flatMap usesT by rw [HUZ.out]; simp)
          have H2a := Lib.hid (H2.out.le (bl_al (Below.refl _ _) (.cells #[.string xn] 9)))
          have hnew := row_new V [.string xn] 9
          have hone : ∀ u ∈ [Value.string xn], u.oneCell' = true := by intro u hu; rw [List.mem_singleton.1 hu]; rfl
          have hs2 := H2.out.below.size
          go_wp2_with (at_builtin; refine wpList_append_own_wide _ rfl _ _ 22 rfl w0.heap.size 9 i1 _ 1 16 und_strs hi1 hz1 hs1 hb1 rfl (by decide) _ _ _ rfl H2a.out.one ⟨V.heap.size, 0, none⟩ 1 1 [.string xn] rfl rfl hnew hone (by unfold maxLen; omega) (by omega) (by simp; omega) ?_)
          intro v3 w3 hR3 hg3 _
          obtain ⟨q3, c3, rfl⟩ := own_shape hR3
          have H4 := Lib.hid (H2a.out.first hR3 hg3)
          clear hR3 hg3  hnew hone
          have H4a := Lib.hid (H4.out.le (bl_al (Below.refl _ _) (.cells #[.int .i64 4, .int .i64 4] 55)))
          have hnew := row_new w3 [.int .i64 4, .int .i64 4] 55
          have hone : ∀ u ∈ [Value.int .i64 4, .int .i64 4], u.oneCell' = true := by intro u hu; simp only [List.mem_cons, List.not_mem_nil, or_false] at hu; rcases hu with rfl | rfl <;> rfl
          have hs3 := H4.out.below.size
          have s0 := (HJ.out.le H4.out.below).cell (j := 0) (v := .int .i64 3) rfl
          have hbx := (HJ.out.le H4.out.below).lt
          go_wp2_with (at_builtin; refine wpList_append_own_wide _ rfl _ _ 48 rfl w0.heap.size 55 i2 _ 2 16 und_kds hi2 hz2 hs2' hb2 rfl (by decide) _ _ _ rfl H4a.out.two ⟨w3.heap.size, 0, none⟩ 1 1 [.int .i64 4, .int .i64 4] rfl rfl hnew hone (by unfold maxLen; omega) (by omega) (by simp; omega) ?_)
          intro v5 w5 hR5 hg5 _
          obtain ⟨q5, c5, rfl⟩ := own_shape hR5
          have H6 := Lib.hid (H4a.out.second hR5 hg5)
          clear hR5 hg5  hnew hone
          have HTW := Lib.hid (show Two w0 (j + 1) (j + 1) (nmRow (U0 ++ [(xn, 4)])) (kdRow (U0 ++ [(xn, 4)])) (.slice q3 (j + 1) c3) (.slice q5 (j + 1) c5) w5 by rw [nmRow_snoc, kdRow_snoc]; exact H6.out)
          have HML := Lib.hid (show j + 1 = (U0 ++ [(xn, 4)]).length by rw [List.length_append, HNL.out]; rfl)
          go_wp2_with fail
          go_meet
          exact ⟨j + 1, q3, c3, q5, c5, _, by omega, rfl, rfl, HML, HLZ, HTW⟩
        by_cases hk4 : kd = 4
        · subst hk4
          obtain rfl : tt = true := HTT.out.2 (by simp)
          have HLZ := Lib.hid (show usesZ x = (U0 ++ [(xn, 5)]) ++ x.exprs.flatMap usesT by rw [HUZ.out]; simp)
          have H2a := Lib.hid (H2.out.le (bl_al (Below.refl _ _) (.cells #[.string xn] 9)))
          have hnew := row_new V [.string xn] 9
          have hone : ∀ u ∈ [Value.string xn], u.oneCell' = true := by intro u hu; rw [List.mem_singleton.1 hu]; rfl
          have hs2 := H2.out.below.size
          go_wp2_with (at_builtin; refine wpList_append_own_wide _ rfl _ _ 22 rfl w0.heap.size 9 i1 _ 1 16 und_strs hi1 hz1 hs1 hb1 rfl (by decide) _ _ _ rfl H2a.out.one ⟨V.heap.size, 0, none⟩ 1 1 [.string xn] rfl rfl hnew hone (by unfold maxLen; omega) (by omega) (by simp; omega) ?_)
          intro v3 w3 hR3 hg3 _
          obtain ⟨q3, c3, rfl⟩ := own_shape hR3
          have H4 := Lib.hid (H2a.out.first hR3 hg3)
          clear hR3 hg3  hnew hone
          have H4a := Lib.hid (H4.out.le (bl_al (Below.refl _ _) (.cells #[.int .i64 5, .int .i64 5] 55)))
          have hnew := row_new w3 [.int .i64 5, .int .i64 5] 55
          have hone : ∀ u ∈ [Value.int .i64 5, .int .i64 5], u.oneCell' = true := by intro u hu; simp only [List.mem_cons, List.not_mem_nil, or_false] at hu; rcases hu with rfl | rfl <;> rfl
          have hs3 := H4.out.below.size
          have s0 := (HJ.out.le H4.out.below).cell (j := 0) (v := .int .i64 4) rfl
          have hbx := (HJ.out.le H4.out.below).lt
          go_wp2_with (at_builtin; refine wpList_append_own_wide _ rfl _ _ 48 rfl w0.heap.size 55 i2 _ 2 16 und_kds hi2 hz2 hs2' hb2 rfl (by decide) _ _ _ rfl H4a.out.two ⟨w3.heap.size, 0, none⟩ 1 1 [.int .i64 5, .int .i64 5] rfl rfl hnew hone (by unfold maxLen; omega) (by omega) (by simp; omega) ?_)
          intro v5 w5 hR5 hg5 _
          obtain ⟨q5, c5, rfl⟩ := own_shape hR5
          have H6 := Lib.hid (H4a.out.second hR5 hg5)
          clear hR5 hg5  hnew hone
          have HTW := Lib.hid (show Two w0 (j + 1) (j + 1) (nmRow (U0 ++ [(xn, 5)])) (kdRow (U0 ++ [(xn, 5)])) (.slice q3 (j + 1) c3) (.slice q5 (j + 1) c5) w5 by rw [nmRow_snoc, kdRow_snoc]; exact H6.out)
          have HML := Lib.hid (show j + 1 = (U0 ++ [(xn, 5)]).length by rw [List.length_append, HNL.out]; rfl)
          go_wp2_with fail
          go_meet
          exact ⟨j + 1, q3, c3, q5, c5, _, by omega, rfl, rfl, HML, HLZ, HTW⟩
        obtain rfl : tt = false := by
          cases tt with
          | false => rfl
          | true => rcases HTT.out.1 rfl with h9 | h9 | h9 <;> contradiction
        have HL0 := Lib.hid (show usesZ x = U0 ++ x.exprs.flatMap usesT by rw [HUZ.out, if_neg hk2, if_neg hk3, if_neg hk4, List.nil_append])
        have e2 : (kd == 2) = false := by rw [beq_eq_false_iff_ne]; exact hk2
        have e3 : (kd == 3) = false := by rw [beq_eq_false_iff_ne]; exact hk3
        have e4 : (kd == 4) = false := by rw [beq_eq_false_iff_ne]; exact hk4
        clear hk2 hk3 hk4
        go_wp2_with fail
        go_meet
        exact ⟨j, q1, c1, q2, c2, U0, by omega, rfl, rfl, Lib.hid HNL.out.symm, HL0, H2⟩
      case rest =>
        obtain ⟨mm, q1, c1, q2, c2, L, hmm, rfl, rfl, HMM, HLZ, HTW⟩ := hcut
        clear hbx HJV HBV s2 H2 HUL HUZ
        go_wp2_with fail
        go_loopw [4, 5, 7] (fun l k i wr => ∃ (j : Nat) (m : Nat) (q1 : Option Addr) (c1 : Nat) (q2 : Option Addr) (c2 : Nat), j ≤ ne ∧ i = .int .i64 j ∧ m ≤ mm + j * 48 ∧ l = .slice q1 m c1 ∧ k = .slice q2 m c2 ∧ Hid (m = (L ++ (x.exprs.take j).flatMap usesT).length) ∧ Hid (Two w0 m m (nmRow (L ++ (x.exprs.take j).flatMap usesT)) (kdRow (L ++ (x.exprs.take j).flatMap usesT)) (.slice q1 m c1) (.slice q2 m c2) wr)) (fun _ _ i _ => ne - (intOf i).toNat)
        case atStart => exact ⟨0, mm, _, _, _, _, Nat.zero_le _, rfl, by omega, rfl, rfl, Lib.hid (by rw [List.take_zero]; simpa using HMM.out), Lib.hid (by rw [List.take_zero]; simpa using HTW.out)⟩
        case round =>
          obtain ⟨j, m, q1, c1, q2, c2, hj, rfl, hm, rfl, rfl, HML, H2⟩ := hrel
          generalize wr = V at *
          have HBV := Lib.hid (bl_tr HB0.out H2.out.below)
          have HJV := Lib.hid (HJ.out.le H2.out.below)
          have s3 := HJV.out.cell (j := 3) (v := .slice qe ne ce) rfl
          have hbx := HJV.out.lt
          by_cases hjn : j < ne
          · have hj1 : j < x.exprs.length := by rw [HNE.out]; exact hjn
            obtain ⟨g, o, qx, cx, rfl, a0, hx⟩ := HE.out j hj1
            have HTK := Lib.hid (show L ++ (x.exprs.take (j + 1)).flatMap usesT = (L ++ (x.exprs.take j).flatMap usesT) ++ usesT x.exprs[j] by
              rw [List.take_succ_eq_append_getElem hj1, List.flatMap_append, List.append_assoc]; simp)
            have hlx : x.exprs[j].length ≤ 48 := HOK.out.2.2 _ (List.getElem_mem hj1)
            have HAX := Lib.hid hx.cells
            have HA0 := Lib.hid a0
            have HJJ := Lib.hid hjn
            clear a0 hx
            generalize x.exprs[j] = ex at *
            clear hj1
            generalize L ++ (x.exprs.take j).flatMap usesT = U0 at *
            generalize hg1 : L ++ (x.exprs.take (j + 1)).flatMap usesT = U1 at *
            have HG1 := Lib.hid hg1
            clear hg1
            obtain ⟨nx, hnx⟩ : ∃ nx, ex.length = nx := ⟨_, rfl⟩
            have HNX := Lib.hid hnx
            rw [hnx] at HA0 hlx
            clear hnx
            have hji : (j : Int) < (ne : Int) := by omega
            go_wp2_with fail
            clear s3 hbx HJV HBV
            go_loopw [4, 5, 8] (fun l k i wr => ∃ (p : Nat) (m2 : Nat) (q1 : Option Addr) (c1 : Nat) (q2 : Option Addr) (c2 : Nat), p ≤ nx ∧ i = .int .i64 p ∧ m2 ≤ m + p ∧ l = .slice q1 m2 c1 ∧ k = .slice q2 m2 c2 ∧ Hid (m2 = (U0 ++ usesT (ex.take p)).length) ∧ Hid (Two w0 m2 m2 (nmRow (U0 ++ usesT (ex.take p))) (kdRow (U0 ++ usesT (ex.take p))) (.slice q1 m2 c1) (.slice q2 m2 c2) wr)) (fun _ _ i _ => nx - (intOf i).toNat)
            case atStart => exact ⟨0, m, _, _, _, _, Nat.zero_le _, rfl, by omega, rfl, rfl, Lib.hid (by rw [List.take_zero]; simpa [usesT] using HML.out), Lib.hid (by rw [List.take_zero]; simpa [usesT] using H2.out)⟩
            case round =>
              obtain ⟨p, m2, y1, d1, y2, d2, hp, rfl, hm2, rfl, rfl, HML2, H9⟩ := hrel
              generalize wr = V2 at *
              have HBV := Lib.hid (bl_tr HB0.out H9.out.below)
              have HJV := Lib.hid (HJ.out.le H9.out.below)
              have s3 := HJV.out.cell (j := 3) (v := .slice (some ⟨g, o, none⟩) ne ce) rfl
              have hbx := HJV.out.lt
              have e0 := below_cle HBV.out _ _ (HC.out _ _ HA0.out)
              unfold wC at e0
              have hglt : g < V2.heap.size := World.block_lt_of_cell? _ _ e0
              by_cases hpn : p < nx
              · have hp1 : p < ex.length := by rw [HNX.out]; exact hpn
                obtain ⟨gt, ot, rfl, t0, t1, t2⟩ := HAX.out p hp1
                have u0 := below_cle HBV.out _ _ (HC.out _ _ t0)
                have u1 := below_cle HBV.out _ _ (HC.out _ _ t1)
                have u2 := below_cle HBV.out _ _ (HC.out _ _ t2)
                unfold wC at u0 u1 u2
                have hgt : gt < V2.heap.size := World.block_lt_of_cell? _ _ u0
                have HTP := Lib.hid (show U0 ++ usesT (ex.take (p + 1)) = (U0 ++ usesT (ex.take p)) ++ usesT [ex[p]] by
                  rw [List.take_succ_eq_append_getElem hp1]; unfold usesT; rw [List.flatMap_append, List.append_assoc])
                have HT1 := Lib.hid (show usesT [ex[p]] = if ex[p].kind = 2 then [(ex[p].name, 2)] else if ex[p].kind = 3 then [(ex[p].name, 3)] else [] by unfold usesT; simp)
                clear t0 t1 t2 
                generalize ex[p] = tm at *
                obtain ⟨tk, tv, tn⟩ := tm
                simp only at u0 u1 u2 HT1
                clear hp1
                generalize U0 ++ usesT (ex.take p) = U2 at *
                generalize hg3 : U0 ++ usesT (ex.take (p + 1)) = U3 at *
                have HG3 := Lib.hid hg3
                clear hg3
                have hpi : (p : Int) < (nx : Int) := by omega
                have hji : (j : Int) < (ne : Int) := by have := HJJ.out; omega
                have H9b := Lib.hid (H9.out.le (bl_al (Below.refl _ _) (.cells #[.int .i64 tk, .int .i64 tv, .string tn] 62)))
                obtain ⟨V3, hV3⟩ : ∃ V3, V2.alloc (.cells #[.int .i64 tk, .int .i64 tv, .string tn] 62) = V3 := ⟨_, rfl⟩
                have HL1 := Lib.hid (fun b hb => (H9.out.one.lt b hb).2)
                have HL2 := Lib.hid (fun b hb => (H9.out.two.lt b hb).2)
                have HJ9 := Lib.hid (show InB V3 V2.heap.size #[.int .i64 tk, .int .i64 tv, .string tn] 62 by rw [← hV3]; exact InB.new _ _ _)
                rw [hV3] at H9b
                go_upto_region 18 with fail
                clear s3 hbx u0 u1 u2 hgt e0 hglt HBV HJV
                by_cases hk2 : tk = 2
                · subst hk2
                  have HU3 := Lib.hid (show U3 = U2 ++ [(tn, 2)] by rw [HTP.out, HT1.out]; rfl)
                  have ul := HJ9.out.lt
                  have v0 := HJ9.out.cell (j := 0) (v := .int .i64 2) rfl
                  have v2 := HJ9.out.cell (j := 2) (v := .string tn) rfl
                  have H9ba := Lib.hid (H9b.out.le (bl_al (Below.refl _ _) (.cells #[.string tn] 9)))
                  have hnew := row_new V3 [.string tn] 9
                  have hone : ∀ u ∈ [Value.string tn], u.oneCell' = true := by intro u hu; rw [List.mem_singleton.1 hu]; rfl
                  have hs2 := H9b.out.below.size
                  go_wp2_with (at_builtin; refine wpList_append_own_wide _ rfl _ _ 22 rfl w0.heap.size 9 i1 _ 1 16 und_strs hi1 hz1 hs1 hb1 rfl (by decide) _ _ _ rfl H9ba.out.one ⟨V3.heap.size, 0, none⟩ 1 1 [.string tn] rfl rfl hnew hone (by unfold maxLen; omega) (by omega) (by simp; omega) ?_)
                  intro v3 w3 hR3 hg3 _
                  obtain ⟨q3, c3, rfl⟩ := own_shape hR3
                  have H4 := Lib.hid (H9ba.out.first hR3 hg3)
                  have HJa := Lib.hid (show InB w3 V2.heap.size _ 62 from (hg3.block _ (Nat.lt_of_lt_of_le HJ9.out.lt (by simp)) (fun e => by have := HL1.out _ e.symm; omega)).trans (HJ9.out.le (bl_al (Below.refl _ _) _)))
                  have v0 := HJa.out.cell (j := 0) rfl
                  have ul := HJa.out.lt
                  clear hR3 hg3  hnew hone
                  have H4a := Lib.hid (H4.out.le (bl_al (Below.refl _ _) (.cells #[.int .i64 1, .int .i64 2] 55)))
                  have hnew := row_new w3 [.int .i64 1, .int .i64 2] 55
                  have hone : ∀ u ∈ [Value.int .i64 1, .int .i64 2], u.oneCell' = true := by intro u hu; simp only [List.mem_cons, List.not_mem_nil, or_false] at hu; rcases hu with rfl | rfl <;> rfl
                  have hs3 := H4.out.below.size

                  go_wp2_with (at_builtin; refine wpList_append_own_wide _ rfl _ _ 48 rfl w0.heap.size 55 i2 _ 2 16 und_kds hi2 hz2 hs2' hb2 rfl (by decide) _ _ _ rfl H4a.out.two ⟨w3.heap.size, 0, none⟩ 1 1 [.int .i64 1, .int .i64 2] rfl rfl hnew hone (by unfold maxLen; omega) (by omega) (by simp; omega) ?_)
                  intro v5 w5 hR5 hg5 _
                  obtain ⟨q5, c5, rfl⟩ := own_shape hR5
                  have H6 := Lib.hid (H4a.out.second hR5 hg5)
                  have HJb := Lib.hid (show InB w5 V2.heap.size _ 62 from (hg5.block _ (Nat.lt_of_lt_of_le HJa.out.lt (by simp)) (fun e => by have := HL2.out _ e.symm; omega)).trans (HJa.out.le (bl_al (Below.refl _ _) _)))
                  clear v0 ul
                  have v0 := HJb.out.cell (j := 0) rfl
                  have ul := HJb.out.lt
                  clear hR5 hg5  hnew hone
                  go_wp2
                  exact ⟨⟨p + 1, m2 + 1, q3, c3, q5, c5, by omega, by go_num, by omega, rfl, rfl, Lib.hid (by rw [HG3.out, HU3.out, List.length_append, ← HML2.out]; rfl), Lib.hid (by rw [HG3.out, HU3.out, nmRow_snoc, kdRow_snoc]; exact H6.out)⟩, by simp [intOf]; omega⟩
                by_cases hk3 : tk = 3
                · subst hk3
                  have HU3 := Lib.hid (show U3 = U2 ++ [(tn, 3)] by rw [HTP.out, HT1.out]; rfl)
                  have ul := HJ9.out.lt
                  have v0 := HJ9.out.cell (j := 0) (v := .int .i64 3) rfl
                  have v2 := HJ9.out.cell (j := 2) (v := .string tn) rfl
                  have H9ba := Lib.hid (H9b.out.le (bl_al (Below.refl _ _) (.cells #[.string tn] 9)))
                  have hnew := row_new V3 [.string tn] 9
                  have hone : ∀ u ∈ [Value.string tn], u.oneCell' = true := by intro u hu; rw [List.mem_singleton.1 hu]; rfl
                  have hs2 := H9b.out.below.size
                  go_wp2_with (at_builtin; refine wpList_append_own_wide _ rfl _ _ 22 rfl w0.heap.size 9 i1 _ 1 16 und_strs hi1 hz1 hs1 hb1 rfl (by decide) _ _ _ rfl H9ba.out.one ⟨V3.heap.size, 0, none⟩ 1 1 [.string tn] rfl rfl hnew hone (by unfold maxLen; omega) (by omega) (by simp; omega) ?_)
                  intro v3 w3 hR3 hg3 _
                  obtain ⟨q3, c3, rfl⟩ := own_shape hR3
                  have H4 := Lib.hid (H9ba.out.first hR3 hg3)
                  have HJa := Lib.hid (show InB w3 V2.heap.size _ 62 from (hg3.block _ (Nat.lt_of_lt_of_le HJ9.out.lt (by simp)) (fun e => by have := HL1.out _ e.symm; omega)).trans (HJ9.out.le (bl_al (Below.refl _ _) _)))
                  have v0 := HJa.out.cell (j := 0) rfl
                  have ul := HJa.out.lt
                  clear hR3 hg3  hnew hone
                  have H4a := Lib.hid (H4.out.le (bl_al (Below.refl _ _) (.cells #[.int .i64 3, .int .i64 3] 55)))
                  have hnew := row_new w3 [.int .i64 3, .int .i64 3] 55
                  have hone : ∀ u ∈ [Value.int .i64 3, .int .i64 3], u.oneCell' = true := by intro u hu; simp only [List.mem_cons, List.not_mem_nil, or_false] at hu; rcases hu with rfl | rfl <;> rfl
                  have hs3 := H4.out.below.size

                  go_wp2_with (at_builtin; refine wpList_append_own_wide _ rfl _ _ 48 rfl w0.heap.size 55 i2 _ 2 16 und_kds hi2 hz2 hs2' hb2 rfl (by decide) _ _ _ rfl H4a.out.two ⟨w3.heap.size, 0, none⟩ 1 1 [.int .i64 3, .int .i64 3] rfl rfl hnew hone (by unfold maxLen; omega) (by omega) (by simp; omega) ?_)
                  intro v5 w5 hR5 hg5 _
                  obtain ⟨q5, c5, rfl⟩ := own_shape hR5
                  have H6 := Lib.hid (H4a.out.second hR5 hg5)
                  have HJb := Lib.hid (show InB w5 V2.heap.size _ 62 from (hg5.block _ (Nat.lt_of_lt_of_le HJa.out.lt (by simp)) (fun e => by have := HL2.out _ e.symm; omega)).trans (HJa.out.le (bl_al (Below.refl _ _) _)))
                  clear v0 ul
                  have v0 := HJb.out.cell (j := 0) rfl
                  have ul := HJb.out.lt
                  clear hR5 hg5  hnew hone
                  go_wp2
                  exact ⟨⟨p + 1, m2 + 1, q3, c3, q5, c5, by omega, by go_num, by omega, rfl, rfl, Lib.hid (by rw [HG3.out, HU3.out, List.length_append, ← HML2.out]; rfl), Lib.hid (by rw [HG3.out, HU3.out, nmRow_snoc, kdRow_snoc]; exact H6.out)⟩, by simp [intOf]; omega⟩
                have HU3 := Lib.hid (show U3 = U2 by rw [HTP.out, HT1.out, if_neg hk2, if_neg hk3, List.append_nil])
                have e2 : (tk == 2) = false := by rw [beq_eq_false_iff_ne]; exact hk2
                have e3 : (tk == 3) = false := by rw [beq_eq_false_iff_ne]; exact hk3
                clear hk2 hk3
                have ul := HJ9.out.lt
                have v0 := HJ9.out.cell (j := 0) (v := .int .i64 tk) rfl
                go_wp2
                exact ⟨⟨p + 1, m2, y1, d1, y2, d2, by omega, by go_num, by omega, rfl, rfl, Lib.hid (by rw [HG3.out, HU3.out]; exact HML2.out), Lib.hid (by rw [HG3.out, HU3.out]; exact H9b.out)⟩, by simp [intOf]; omega⟩
              · obtain rfl : p = nx := by omega
                have HF := Lib.hid (show U0 ++ usesT (ex.take p) = U1 by rw [HTK.out, List.take_of_length_le (by rw [HNX.out]; exact Nat.le_refl _)])
                rw [HF.out] at H9 HML2
                have hji : (j : Int) < (ne : Int) := by have := HJJ.out; omega
                go_wp2
                exact ⟨⟨j + 1, m2, y1, d1, y2, d2, by have := HJJ.out; omega, by go_num, by omega, rfl, rfl, Lib.hid (by rw [HG1.out]; exact HML2.out), Lib.hid (by rw [HG1.out]; exact H9.out)⟩, by have := HJJ.out; simp [intOf]; omega⟩
          · obtain rfl : j = ne := by omega
            have HF := Lib.hid (show L ++ (x.exprs.take j).flatMap usesT = usesZ x by rw [HLZ.out, List.take_of_length_le (by rw [HNE.out]; exact Nat.le_refl _)])
            rw [HF.out] at H2 HML
            go_wp2
            exact bodyPost_ret (results_tmp2 rfl _ _ _) rfl ⟨_, _, w0, rfl, HB0.out, by unfold TwoU; rw [← HML.out]; exact H2.out⟩
end
end Go.Proofs.YtlpdjfimefjmcaaGreat
