/- FlowtypeOpen: whatever comes in, it returns true, and what came in reads as it did: the law's row, and its tied card. No condition. -/
import Derived.Test.YtlpdjfimefjmcaaGreatDoorFlOpenPR37
import Derived.Test.YtlpdjfimefjmcaaGreatDoorFlOpenPR38
namespace Go.Proofs.YtlpdjfimefjmcaaGreatDoor
open Go Go.ChangeShapes Go.WideShapes Go.ChangeAt Go.RowKit

set_option maxRecDepth 100000 in
theorem flowtypeOpen_lifted (os : Os) (started : os.Started) (H : Type) (enc : TypeId × Value → H) :
    ReturnsInHanded {} Tryz.checked os 3 .any (fun w args => (Rows.flowtypeOpenSpec.pre enc Tryz.prog Tryz.f3 Rows.flowtypeOpenRow.domain false w args ∧ laidMetH Tryz.prog Rows.flowtypeOpenRow.laid w) ∧ sizedMet enc Tryz.prog Tryz.f3 (OpenSpec.ofChange Rows.flowtypeOpenSpec) false w args)
      (Rows.flowtypeOpenSpec.post enc Tryz.prog Tryz.f3 false true false false) := by
  refine returnsInHanded_of_change_and (C := Tryz.checked) (X := fun w _ => laidMetH Tryz.prog Rows.flowtypeOpenRow.laid w) (fun _ _ _ hh h => h.of_heap hh) own_knob started (by kernel_rfl) Tryz.func3
    (ChangeSpec.witness_shaped (enc := enc) (C := Tryz.checked) (os := os) (X := fun w _ => laidMetH Tryz.prog Rows.flowtypeOpenRow.laid w) false (World.laidAll Tryz.prog os Rows.flowtypeOpenRow.laid) #[.agg #[.slice none 0 0, .slice none 0 0, .slice none 0 0, .slice none 0 0, .slice none 0 0], .int .i64 0, .int .u64 0] 8 (World.laidAll_os _ _ _)
      (World.shaped_of_ZipB (by kernel_rfl) (by kernel_rfl)) (by kernel_rfl) (by kernel_rfl) (by kernel_rfl)
      (by rw [MakeChecks.laidMetH_plain _ _ _ (by kernel_rfl)]; exact laidMet_laidAll _ (by kernel_rfl) (by kernel_rfl))) ?_
  intro W base args ds gs before hval0 hW hc hsz hL _
  have hval : ∀ (j : Nat) t v, Tryz.f3.params[j]? = some t → args[j]? = some v → Value.okWide Tryz.prog W .any base t v := hval0
  have hW' := hW
  obtain ⟨p, q, hA0, hV, rfl, _, _⟩ := hW
  have hA : DataW.TrodAll enc Tryz.prog W 0 (fun _ => true) true Tryz.f3.params.toList args.toList ds p := hA0
  rw [Tryz.params3] at hA hval hsz
  obtain ⟨v0, vs0, d0, ds0, p0, q0, hargs, rfl, rfl, h0, r0⟩ := trodAll_cons hA
  obtain ⟨v1, vs1, d1, ds1, p1, q1, hargs1, rfl, rfl, h1, r1⟩ := trodAll_cons r0
  obtain ⟨v2, vs2, d2, ds2, p2, q2, hargs2, rfl, rfl, h2, r2⟩ := trodAll_cons r1
  obtain ⟨rfl, rfl, rfl⟩ := trodAll_nil r2
  subst hargs2
  subst hargs1
  obtain rfl : args = #[v0, v1, v2] := by cases args; simp_all
  obtain ⟨rfl, rfl⟩ := trodVars_none hV
  obtain ⟨x1, rfl, rfl, hx1, hy1⟩ := open_int Tryz.underlying3 (hval 1 3 v1 rfl rfl) h1
  obtain ⟨x2, rfl, rfl, hx2, hy2⟩ := open_int Tryz.underlying29 (hval 2 29 v2 rfl rfl) h2
  obtain ⟨fuel, hf⟩ := h0
  obtain ⟨cs0, rfl, hcs⟩ := okWide_struct Tryz.underlying27 (hval 0 27 v0 rfl rfl)
  have hc5 : cs0.toList.length = 5 := by rw [Array.length_toList, hcs]; kernel_rfl
  have hwt : Wt 27 d0 := fun x hx => by
    have := List.all_eq_true.1 hsz x (DataW.weights_mem_each (j := 0) (t := 27) rfl rfl x hx)
    simpa using this
  obtain ⟨s, v, hv, hS⟩ := src_open hc5 hf hwt
  obtain ⟨q1, c1, q2, c2, q3, c3, q4, c4, q5, c5, hS2, hO⟩ := hS.opened
  have hcs3 : cs0 = v.toArray := by rw [← Array.toArray_toList (xs := cs0)]; exact congrArg _ hv
  have hcs4 : cs0 = srV s q1 c1 q2 c2 q3 c3 q4 c4 q5 c5 := by
    have h9 : Value.agg v.toArray = _ := hS2
    injection h9 with h9
    rw [hcs3, h9]; rfl
  subst hcs4
  have hz2 : 0 ≤ x2 ∧ x2 < 18446744073709551616 := by
    unfold Lit.wf at hy2
    simp only [Bool.and_eq_true, decide_eq_true_eq] at hy2
    have m1 : IntKind.u64.min = 0 := by decide
    have m2 : IntKind.u64.max = 18446744073709551615 := by decide
    rw [m1, m2] at hy2
    omega
  obtain ⟨l2, rfl⟩ := Int.eq_ofNat_of_zero_le hz2.1
  refine (fopen_p hO (env_of_laid hL) x1 l2 (by have := hz2.2; unfold u64B; omega)).mono fun e W' ⟨he, hb⟩ => ⟨_, he, ?_⟩
  exact post_true rfl rfl (by
    rw [Tryz.params3]; intro t ht
    have hm : t ∈ [27, 3, 29] := by simpa using ht
    have hall : ([27, 3, 29].all fun u => Tryz.prog.readableRec u && decide (u < Tryz.prog.types.size)) = true := by kernel_rfl
    have := List.all_eq_true.1 hall t hm
    rw [Bool.and_eq_true, decide_eq_true_eq] at this
    exact this) rfl hW' hb

theorem flowtypeOpen_holds : Rows.FlowtypeOpenSaid :=
  OpenClaim.holds_of_wide 3 Tryz.f3 rfl rfl rfl rfl rfl rfl rfl ⟨rfl, rfl, rfl, rfl, rfl⟩ rfl rfl rfl rfl rfl (by kernel_rfl) Tryz.func3 (by kernel_rfl)
    (of_decide_eq_true (by kernel_rfl)) (by unfold Func.isWrapper; first | (rw [if_pos (by decide +kernel)]; kernel_rfl) | (rw [if_neg (by decide +kernel)]; exact ⟨rfl, rfl⟩))
    (fun os started H enc _ => flowtypeOpen_lifted os started H enc)
theorem flowtypeOpen_card_holds : Rows.FlowtypeOpenCardSaid :=
  Claim7.holds_tied_plain_at .later [] [.data, .data, .data, .sentinel, .sentinel] true (true, "1de316d26ec1b0da523fde211ad604a56cb82bb3b6227c4a863b4ea364d4c017") true flowtypeOpen_holds (fun _ h => by cases h) (by kernel_rfl) (fun _ h => by cases h) flowtypeOpen_row_tie rfl ⟨rfl, rfl⟩ (by kernel_rfl) rfl
    (fun f fn hf hfn => by
      obtain rfl : f = 3 := Option.some.inj ((show Tryz.prog.funcNamed "louver/louverlaw08.FlowtypeOpen" = some 3 by kernel_rfl).symm.trans hf) |>.symm
      obtain rfl : fn = Tryz.f3 := (Option.some.inj (Tryz.func3.symm.trans hfn)).symm
      exact ⟨by kernel_rfl, fun j t ht => by
        rw [Tryz.params3] at ht
        have hm : t ∈ [27, 3, 29] := by simpa using Array.mem_of_getElem? ht
        have hall : ([27, 3, 29].all fun u => !Tryz.prog.wantsStandIn u) = true := by kernel_rfl
        exact (show Tryz.prog.wantsStandIn t = false by simpa using List.all_eq_true.1 hall t hm)⟩)
    (by kernel_rfl)
#print axioms flowtypeOpen_holds
#print axioms flowtypeOpen_card_holds
end Go.Proofs.YtlpdjfimefjmcaaGreatDoor

