/- PrintBare: where what comes in is of bulk at most 1048576 it returns true: an expression's text is read as its terms, and without one of its bracket pairs it is not: the law's row, and its tied card. -/
import Derived.Test.YtpcniebkabkikaaGreatDoorVSR1
import Derived.Test.YtpcniebkabkikaaGreatDoorVSR26
namespace Go.Proofs.YtpcniebkabkikaaGreatDoor
open Go Go.ChangeShapes Go.WideShapes Go.ChangeAt Go.RowKit
theorem bare_any {C : Cl} {W : World} {q : Option Addr} {c : Nat} (l : List TmZ) (hf : ExF l) (k : Int) (hrow : Go.Proofs.YtpcniebkabkikaaGreatDoor.TmRow C q l) (hc : c ≤ maxLen) (hlc : l.length ≤ c) (hr : CLe C (wC W)) (hE : EnvP W) :
    Calls Tryz.prog 7 #[.slice q l.length c, .int .i64 k] W fun e w' => e = .returned (.bool true) ∧ Below W.heap.size W w' := by
  cases hw : wholeZ l with
  | false => exact bare_no l hf k hrow hc hlc hr hE hw
  | true =>
    by_cases hlg : (exZ l).length ≤ 2000
    · exact bare_yes l hf k hrow hc hlc hr hE hw hlg
    · exact bare_long l hf k hrow hc hlc hr hE hw (by omega)
set_option maxRecDepth 100000 in
theorem printBare_lifted (os : Os) (started : os.Started) (H : Type) (enc : TypeId × Value → H) (F : Stop.Interp) :
    ReturnsInHanded {} Tryz.checked os 7 .any (fun w args => ((Rows.OpenSpec.upto Rows.printBareSpec).pre enc Tryz.prog Tryz.f7 Rows.printBareUptoRow.domain false w args ∧ laidMetH Tryz.prog Rows.printBareUptoRow.laid w) ∧ sizedMet enc Tryz.prog Tryz.f7 (Rows.OpenSpec.upto Rows.printBareSpec) false w args)
      (((Rows.OpenSpec.upto Rows.printBareSpec).at F).post enc Tryz.prog Tryz.f7 false true false false) := by
  refine lifted_cond (C := Tryz.checked) (s := Rows.OpenSpec.upto Rows.printBareSpec) (k := Rows.uptoSmall) rfl (X := fun w _ => laidMetH Tryz.prog Rows.printBareUptoRow.laid w) (fun _ _ _ hh h => h.of_heap hh) own started (by kernel_rfl) Tryz.func7
    (witness_cond (s := Rows.OpenSpec.upto Rows.printBareSpec) (k := Rows.uptoSmall) rfl (X := fun w _ => laidMetH Tryz.prog Rows.printBareUptoRow.laid w) false (World.laidAll Tryz.prog os Rows.printBareUptoRow.laid) #[.slice none 0 0, .int .i64 0] 8 (World.laidAll_os _ _ _)
      (World.shaped_of_ZipB (by kernel_rfl) (by kernel_rfl)) (by kernel_rfl) (x := ([.nil, .lit (.int .i64 0)], [], [])) (by kernel_rfl) (by kernel_rfl) (by kernel_rfl) (sizedMet_of_sizedB (s := Rows.printBareSpec) (fuel := 8) (by kernel_rfl))
      (by rw [MakeChecks.laidMetH_plain _ _ _ (by kernel_rfl)]; exact laidMet_laidAll _ (by kernel_rfl) (by kernel_rfl))) ?_
  intro W base args ds gs before hval0 hW hc hkk hsz hL _
  have hval : ∀ (j : Nat) t v, Tryz.f7.params[j]? = some t → args[j]? = some v → Value.okWide Tryz.prog W .any base t v := hval0
  have hW' := hW
  obtain ⟨p, q, hA0, hV, rfl, _, _⟩ := hW
  have hA : DataW.TrodAll enc Tryz.prog W 0 (fun _ => true) true Tryz.f7.params.toList args.toList ds p := hA0
  rw [Tryz.params7] at hA hval hsz
  obtain ⟨v0, vs0, d0, ds0, p0, q0, hargs, rfl, rfl, h0, r0⟩ := trodAll_cons hA
  obtain ⟨v1, vs1, d1, ds1, p1, q1, hargs1, rfl, rfl, h1, r1⟩ := trodAll_cons r0
  obtain ⟨rfl, rfl, rfl⟩ := trodAll_nil r1
  subst hargs1
  obtain rfl : args = #[v0, v1] := by cases args; simp_all
  obtain ⟨rfl, rfl⟩ := trodVars_none hV
  have hk2 : Rows.uptoBulkAll [d0, d1] ≤ 1048576 := by
    have := hkk
    unfold Rows.uptoSmall at this
    simpa using this
  have hb0 : Rows.uptoBulk d0 ≤ 1048576 := Nat.le_trans (bulk_mem (by simp)) hk2
  obtain ⟨fuel, hf⟩ := h0
  obtain ⟨a0, n0, c0, rfl⟩ := okWide_slice Tryz.underlying37 (hval 0 37 v0 rfl rfl)
  obtain ⟨q, c, l, hv, hrow, hfit, hcm, hlc⟩ := tms_up hf hb0
  have hv0 : (Value.slice a0 n0 c0) = .slice q l.length c := by
    have hv' : [Value.slice a0 n0 c0] = [.slice q l.length c] := hv
    injection hv'
  obtain ⟨k, rfl, rfl, rfl, _⟩ := open_int Tryz.underlying3 (hval 1 3 v1 rfl rfl) h1
  injection hv0 with e1 e2 e3
  subst e1 e2 e3
  refine (bare_any l hfit k hrow hcm hlc (CLe.refl _) (envP_of_laid hL)).mono fun e W' ⟨he, hb⟩ => ⟨_, he, ?_⟩
  exact post_true rfl rfl (by
    rw [Tryz.params7]; intro t ht
    have hm : t ∈ [37, 3] := by simpa using ht
    have hall : ([37, 3].all fun u => Tryz.prog.readableRec u && decide (u < Tryz.prog.types.size)) = true := by kernel_rfl
    have := List.all_eq_true.1 hall t hm
    rw [Bool.and_eq_true, decide_eq_true_eq] at this
    exact this) rfl hW' hb
theorem printBare_holds : Rows.PrintBareUptoSaid :=
  OpenClaim.holds_of_cond 7 Tryz.f7 rfl rfl rfl rfl rfl rfl rfl ⟨rfl, rfl, rfl, rfl, rfl⟩ rfl rfl rfl rfl rfl (by kernel_rfl) Tryz.func7 (by kernel_rfl)
    (of_decide_eq_true (by kernel_rfl)) (by unfold Func.isWrapper; first | (rw [if_pos (by decide +kernel)]; kernel_rfl) | (rw [if_neg (by decide +kernel)]; exact ⟨rfl, rfl⟩))
    (fun os started H enc _ F => printBare_lifted os started H enc F)
theorem printBare_card_holds : Rows.PrintBareUptoCardSaid :=
  Claim7.holds_tied_plain_at .later [] [.data, .data, .data, .sentinel, .sentinel, .data] true (true, "94ce259657371a8e8aa55fb7a27d33e29c449cbff21fcd00a7aee6abbada3f7f") true printBare_holds (fun _ h => by cases h) (by kernel_rfl) (fun _ h => by cases h) printBareUpto_row_tie rfl ⟨rfl, rfl⟩ (by kernel_rfl) rfl
    (fun f fn hf hfn => by
      obtain rfl : f = 7 := Option.some.inj ((show Tryz.prog.funcNamed "louver/louverlaw06.PrintBare" = some 7 by kernel_rfl).symm.trans hf) |>.symm
      obtain rfl : fn = Tryz.f7 := (Option.some.inj (Tryz.func7.symm.trans hfn)).symm
      exact ⟨by kernel_rfl, fun j t ht => by
        rw [Tryz.params7] at ht
        have hm : t ∈ [37, 3] := by simpa using Array.mem_of_getElem? ht
        have hall : ([37, 3].all fun u => !Tryz.prog.wantsStandIn u) = true := by kernel_rfl
        exact (show Tryz.prog.wantsStandIn t = false by simpa using List.all_eq_true.1 hall t hm)⟩)
    (by kernel_rfl)
#print axioms printBare_holds
#print axioms printBare_card_holds
end Go.Proofs.YtpcniebkabkikaaGreatDoor
