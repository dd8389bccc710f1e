/- BitsOrder: the law, the row, the card. -/
import Derived.Test.YthmcckdoneiglaaDoorOrderW
import Derived.Test.YthmcckdoneiglaaDoorLaid
namespace Go.Proofs.YthmcckdoneiglaaDoor
open Go Go.ChangeShapes Go.WideShapes Go.ChangeAt Go.RowKit

theorem wB_true {x y : Nat} (hx : x < 18446744073709551616) (h : ∀ i, i < 64 → x.testBit i = true → y.testBit i = true) : wB x y = true := (wB_iff hx).2 h

theorem and_lt {a : Nat} (b : Nat) (ha : a < 18446744073709551616) : a &&& b < 18446744073709551616 := Nat.lt_of_le_of_lt Nat.and_le_left ha

theorem cast_beq (x y : Nat) : ((x : Int) == (y : Int)) = (x == y) := by
  rw [Bool.eq_iff_iff, beq_iff_eq, beq_iff_eq]; omega

theorem order_any (a b c : Nat) (ha : a < 18446744073709551616) (hb : b < 18446744073709551616) (hc : c < 18446744073709551616) (w : World) (hE : Env w) :
    Calls Tryd.prog 6 #[.int .u64 a, .int .u64 b, .int .u64 c] w fun e w' => e = .returned (.bool true) ∧ Below w.heap.size w w' := by
  refine order_core a b c (a ||| b) (a &&& b) (minusN a b) _ _ _ _ (wB a b) (wB a c) (wB b c) (wB c a) (wB c b) ha hb hc (or_lt ha hb) (and_lt b ha) (minus_lt ha) rfl rfl rfl (minus_or_and ha) rfl rfl rfl rfl
    (popN_or_and 64 a b) ⟨popN_le _ _, popN_le _ _, popN_le _ _, popN_le _ _⟩ ?_ ?_ ?_ ?_ rfl rfl rfl rfl ?_ ?_ rfl ?_ ?_ w hE
  · exact wB_true ha fun i _ h => by rw [Nat.testBit_or, h]; rfl
  · exact wB_true hb fun i _ h => by rw [Nat.testBit_or, h, Bool.or_true]
  · exact wB_true (and_lt b ha) fun i _ h => by rw [Nat.testBit_and, Bool.and_eq_true] at h; exact h.1
  · exact wB_true (and_lt b ha) fun i _ h => by rw [Nat.testBit_and, Bool.and_eq_true] at h; exact h.2
  · intro h1 h2
    refine wB_true (or_lt ha hb) fun i hi h => ?_
    rw [Nat.testBit_or, Bool.or_eq_true] at h
    rcases h with h | h
    · exact (wB_iff ha).1 h1 i hi h
    · exact (wB_iff hb).1 h2 i hi h
  · intro h1 h2
    refine wB_true hc fun i hi h => ?_
    rw [Nat.testBit_and, (wB_iff hc).1 h1 i hi h, (wB_iff hc).1 h2 i hi h]; rfl
  · rw [cast_beq]; exact wB_eq ha hb
  · exact cast_beq (minusN a b) 0

set_option maxRecDepth 100000 in
/-- A label that came in. -/
theorem open_label {H : Type} {enc : TypeId × Value → H} {W : World} {base b0 : Nat} {sp : Nat → Bool} {held : Bool} {v : Value} {d : DataW H} {ps : List MemPlace} (hval : Value.okWide Tryd.prog W .any b0 23 v) (hd : DataW.Trod enc Tryd.prog W base sp held 23 v d ps) :
    ∃ x : Nat, x < 18446744073709551616 ∧ v = .int .u64 (x : Int) := by
  obtain ⟨n, rfl, _, _, hw⟩ := open_int Tryd.underlying23 hval hd
  simp only [Lit.wf, Bool.and_eq_true, decide_eq_true_eq] at hw
  have h1 : IntKind.u64.min = 0 := rfl
  have h2 : IntKind.u64.max = 18446744073709551615 := rfl
  exact ⟨n.toNat, by omega, by rw [Int.toNat_of_nonneg (by omega)]⟩

set_option maxRecDepth 100000 in
theorem order_lifted (os : Os) (started : os.Started) (H : Type) (enc : TypeId × Value → H) :
    ReturnsInHanded {} Tryd.checked os 6 .any (fun w args => (Rows.bitsOrderSpec.pre enc Tryd.prog Tryd.f6 Rows.bitsOrderRow.domain false w args ∧ laidMetH Tryd.prog Rows.bitsOrderRow.laid w) ∧ sizedMet enc Tryd.prog Tryd.f6 (OpenSpec.ofChange Rows.bitsOrderSpec) false w args)
      (Rows.bitsOrderSpec.post enc Tryd.prog Tryd.f6 false true false false) := by
  refine returnsInHanded_of_change_and (C := Tryd.checked) (X := fun w _ => laidMetH Tryd.prog Rows.bitsOrderRow.laid w) (fun _ _ _ hh h => h.of_heap hh) own started (by kernel_rfl) Tryd.func6
    (ChangeSpec.witness_shaped (enc := enc) (C := Tryd.checked) (os := os) (X := fun w _ => laidMetH Tryd.prog Rows.bitsOrderRow.laid w) false (World.laidAll Tryd.prog os Rows.bitsOrderRow.laid) #[.int .u64 1, .int .u64 2, .int .u64 4] 8 (World.laidAll_os _ _ _)
      (World.shaped_of_ZipB (by kernel_rfl) (by kernel_rfl)) (by kernel_rfl) (by kernel_rfl) (by kernel_rfl)
      (by rw [MakeChecks.laidMetH_plain _ _ _ (by kernel_rfl)]; exact laidMet_laidAll _ (by kernel_rfl) (by kernel_rfl))) ?_
  intro W base args ds gs before hval0 hW hc _ hL _
  have hval : ∀ (j : Nat) t v, Tryd.f6.params[j]? = some t → args[j]? = some v → Value.okWide Tryd.prog W .any base t v := hval0
  have hW' := hW
  obtain ⟨p, q, hA0, hV, rfl, _, _⟩ := hW
  have hA : DataW.TrodAll enc Tryd.prog W 0 (fun _ => true) true Tryd.f6.params.toList args.toList ds p := hA0
  rw [Tryd.params6] at hA hval
  obtain ⟨v0, v1, v2, d0, d1, d2, p0, p1, p2, rfl, rfl, rfl, h0, h1, h2⟩ := trodAll_three hA
  obtain ⟨rfl, rfl⟩ := trodVars_none hV
  obtain ⟨a, ha, rfl⟩ := open_label (hval 0 23 v0 rfl rfl) h0
  obtain ⟨b, hb, rfl⟩ := open_label (hval 1 23 v1 rfl rfl) h1
  obtain ⟨c, hc, rfl⟩ := open_label (hval 2 23 v2 rfl rfl) h2
  refine (order_any a b c ha hb hc W (env_of_laid hL)).mono fun e W' ⟨he, hb⟩ => ⟨_, he, ?_⟩
  exact post_true rfl rfl (by rw [Tryd.params6]; intro t ht; obtain rfl : t = 23 := by simpa using ht
                              exact ⟨by kernel_rfl, of_decide_eq_true (by kernel_rfl)⟩) rfl hW' hb

theorem order_holds : Rows.BitsOrderSaid :=
  OpenClaim.holds_of_wide 6 Tryd.f6 rfl rfl rfl rfl rfl rfl rfl ⟨rfl, rfl, rfl, rfl, rfl⟩ rfl rfl rfl rfl rfl (by kernel_rfl) Tryd.func6 (by kernel_rfl)
    (of_decide_eq_true (by kernel_rfl)) (by unfold Func.isWrapper; first | (rw [if_pos (by decide +kernel)]; kernel_rfl) | (rw [if_neg (by decide +kernel)]; exact ⟨rfl, rfl⟩))
    (fun os started H enc _ => order_lifted os started H enc)
theorem order_card_holds : Rows.BitsOrderCardSaid :=
  Claim7.holds_tied_plain_at .later [] [.data, .data, .data, .data, .sentinel, .sentinel, .pinned] true (true, "8d5d46edd058e075180fb993c1fce799f1f8b1406da7d8f23ab3fceec4daf558") true order_holds (fun _ h => by cases h) (by kernel_rfl) (fun _ h => by cases h) bitsOrder_row_tie rfl ⟨rfl, rfl⟩ (by kernel_rfl) rfl
    (fun f fn hf hfn => by
      obtain rfl : f = 6 := Option.some.inj ((show Tryd.prog.funcNamed "louver/louverlaw01.BitsOrder" = some 6 by kernel_rfl).symm.trans hf) |>.symm
      obtain rfl : fn = Tryd.f6 := (Option.some.inj (Tryd.func6.symm.trans hfn)).symm
      exact ⟨by kernel_rfl, fun j t ht => by
        rw [Tryd.params6] at ht
        have hm : t ∈ [23, 23, 23] := by simpa using Array.mem_of_getElem? ht
        have hall : ([23, 23, 23].all fun u => !Tryd.prog.wantsStandIn u) = true := by kernel_rfl
        exact (show Tryd.prog.wantsStandIn t = false by simpa using List.all_eq_true.1 hall t hm)⟩)
    (by kernel_rfl)
#print axioms order_holds
#print axioms order_card_holds
end Go.Proofs.YthmcckdoneiglaaDoor
