/- BitsSets: for every two lists it returns true, and what came in reads as it did: the law's row, and its tied card. -/
import Derived.Test.YthmcckdoneiglaaGreatDoorSetsW
import Derived.Test.YthmcckdoneiglaaGreatDoorLift
import Derived.SizedLaws
import Derived.ChangeSlices
namespace Go.Proofs.YthmcckdoneiglaaGreatDoor
open Go Go.ChangeShapes Go.WideShapes Go.ChangeAt Go.RowKit Go.Lib

theorem cellsL : Tryz.prog.cellsOf 27 = 1 := by kernel_rfl
theorem bytesL : Tryz.prog.bytesOf 27 = 8 := by kernel_rfl

set_option maxRecDepth 100000 in
/-- A list of numbers that came in. -/
theorem in_numsL {H : Type} {enc : TypeId × Value → H} {W : World} {b0 : Nat} {v : Value} {d : DataW H} {ps : List MemPlace} (hval : Value.okWide Tryz.prog W .any b0 22 v) (hd : DataW.Trod enc Tryz.prog W 0 (fun _ => true) true 22 v d ps) :
    ∃ (p : Option Addr) (c : Nat) (ns : List Int), v = .slice p ns.length c ∧ ns.length ≤ maxLen ∧ ns.length ≤ c ∧ ((p = none ∧ ns = [] ∧ c = 0) ∨ ∃ ad, p = some ad) ∧ (∀ x ∈ ns, 0 ≤ x ∧ x < 18446744073709551616) ∧ NumInL W.heap.size W p ns ∧
      (c = 0 ∨ ∃ el sp, d = .slice el sp ∧ el.length + sp.length = c) := by
  obtain ⟨a, len, cap, rfl⟩ := okWide_slice Tryz.underlying22 hval
  obtain ⟨fuel, hf⟩ := hd
  rcases open_ints Tryz.underlying22 Tryz.underlying27 cellsL hf with ⟨hcs, _⟩ | ⟨a', len', cap', zs, hcs, _, hl, hm, hlen, hx, hcell, hwf⟩
  · have hcs' : (Value.slice a len cap) = .slice none 0 0 := by simpa [Value.cells] using hcs
    rw [hcs']
    exact ⟨none, 0, [], rfl, by simp, by simp, .inl ⟨rfl, rfl, rfl⟩, (fun x hx => by cases hx), (fun i hi => absurd hi (by simp)), .inl rfl⟩
  · have hcs' : (Value.slice a len cap) = .slice (some a') len' cap' := by simpa [Value.cells] using hcs
    rw [hcs']
    rw [if_pos rfl] at hlen
    have hle : len' ≤ zs.length := by omega
    have hget : ∀ i, i < len' → (zs.take len').getD i 0 = zs.getD i 0 := fun i hi => by
      rw [List.getD_eq_getElem?_getD, List.getElem?_take_of_lt hi, ← List.getD_eq_getElem?_getD]
    refine ⟨some a', cap', zs.take len', by rw [List.length_take, Nat.min_eq_left hle], by rw [List.length_take]; omega, by rw [List.length_take]; omega, .inr ⟨a', rfl⟩, fun x hx => ?_, fun i hi => ?_, .inr ⟨_, _, (Prod.mk.inj hx).1, ?_⟩⟩
    · have h := hwf x (List.mem_of_mem_take hx)
      simp only [Lit.wf, Bool.and_eq_true, decide_eq_true_eq] at h
      have h1 : IntKind.u64.min = 0 := rfl
      have h2 : IntKind.u64.max = 18446744073709551616 - 1 := rfl
      omega
    · rw [List.length_take, Nat.min_eq_left hle] at hi
      have h0 := hcell 0 (by omega)
      have h1 := hcell i (by omega)
      obtain ⟨b, off, sp⟩ := a'
      rw [show (⟨b, off, sp⟩ : Addr).add 0 = ⟨b, off, sp⟩ from by simp [Addr.add]] at h0
      obtain rfl : sp = none := cell_spot h0
      rw [show (⟨b, off, none⟩ : Addr).add i = ⟨b, off + i, none⟩ from by unfold Addr.add; split <;> simp_all] at h1
      refine ⟨b, off, rfl, World.block_lt_of_cell? _ _ h0, ?_⟩
      rw [hget i hi]
      exact h1
    · simp [lits]
      omega

theorem cellsN : Tryz.prog.cellsOf 3 = 1 := by kernel_rfl
theorem bytesN : Tryz.prog.bytesOf 3 = 8 := by kernel_rfl

set_option maxRecDepth 100000 in
/-- A list of numbers that came in. -/
theorem in_numsN {H : Type} {enc : TypeId × Value → H} {W : World} {b0 : Nat} {v : Value} {d : DataW H} {ps : List MemPlace} (hval : Value.okWide Tryz.prog W .any b0 23 v) (hd : DataW.Trod enc Tryz.prog W 0 (fun _ => true) true 23 v d ps) :
    ∃ (p : Option Addr) (c : Nat) (ns : List Int), v = .slice p ns.length c ∧ ns.length ≤ maxLen ∧ ns.length ≤ c ∧ ((p = none ∧ ns = [] ∧ c = 0) ∨ ∃ ad, p = some ad) ∧ (∀ x ∈ ns, -9223372036854775808 ≤ x ∧ x < 9223372036854775808) ∧ NumInN W.heap.size W p ns ∧
      (c = 0 ∨ ∃ el sp, d = .slice el sp ∧ el.length + sp.length = c) := by
  obtain ⟨a, len, cap, rfl⟩ := okWide_slice Tryz.underlying23 hval
  obtain ⟨fuel, hf⟩ := hd
  rcases open_ints Tryz.underlying23 Tryz.underlying3 cellsN hf with ⟨hcs, _⟩ | ⟨a', len', cap', zs, hcs, _, hl, hm, hlen, hx, hcell, hwf⟩
  · have hcs' : (Value.slice a len cap) = .slice none 0 0 := by simpa [Value.cells] using hcs
    rw [hcs']
    exact ⟨none, 0, [], rfl, by simp, by simp, .inl ⟨rfl, rfl, rfl⟩, (fun x hx => by cases hx), (fun i hi => absurd hi (by simp)), .inl rfl⟩
  · have hcs' : (Value.slice a len cap) = .slice (some a') len' cap' := by simpa [Value.cells] using hcs
    rw [hcs']
    rw [if_pos rfl] at hlen
    have hle : len' ≤ zs.length := by omega
    have hget : ∀ i, i < len' → (zs.take len').getD i 0 = zs.getD i 0 := fun i hi => by
      rw [List.getD_eq_getElem?_getD, List.getElem?_take_of_lt hi, ← List.getD_eq_getElem?_getD]
    refine ⟨some a', cap', zs.take len', by rw [List.length_take, Nat.min_eq_left hle], by rw [List.length_take]; omega, by rw [List.length_take]; omega, .inr ⟨a', rfl⟩, fun x hx => ?_, fun i hi => ?_, .inr ⟨_, _, (Prod.mk.inj hx).1, ?_⟩⟩
    · have h := hwf x (List.mem_of_mem_take hx)
      simp only [Lit.wf, Bool.and_eq_true, decide_eq_true_eq] at h
      have h1 : IntKind.i64.min = -9223372036854775808 := rfl
      have h2 : IntKind.i64.max = 9223372036854775808 - 1 := rfl
      omega
    · rw [List.length_take, Nat.min_eq_left hle] at hi
      have h0 := hcell 0 (by omega)
      have h1 := hcell i (by omega)
      obtain ⟨b, off, sp⟩ := a'
      rw [show (⟨b, off, sp⟩ : Addr).add 0 = ⟨b, off, sp⟩ from by simp [Addr.add]] at h0
      obtain rfl : sp = none := cell_spot h0
      rw [show (⟨b, off, none⟩ : Addr).add i = ⟨b, off + i, none⟩ from by unfold Addr.add; split <;> simp_all] at h1
      refine ⟨b, off, rfl, World.block_lt_of_cell? _ _ h0, ?_⟩
      rw [hget i hi]
      exact h1
    · simp [lits]
      omega

set_option maxRecDepth 100000 in
theorem sets_lifted (os : Os) (started : os.Started) (H : Type) (enc : TypeId × Value → H) :
    ReturnsInHanded {} Tryz.checked os 3 .any (fun w args => (Rows.bitsSetsSpec.pre enc Tryz.prog Tryz.f3 Rows.bitsSetsRow.domain false w args ∧ laidMetH Tryz.prog Rows.bitsSetsRow.laid w) ∧ sizedMet enc Tryz.prog Tryz.f3 (OpenSpec.ofChange Rows.bitsSetsSpec) false w args)
      (Rows.bitsSetsSpec.post enc Tryz.prog Tryz.f3 false true false false) := by
  refine returnsInHanded_of_change_and (C := Tryz.checked) (X := fun w _ => laidMetH Tryz.prog Rows.bitsSetsRow.laid w) (fun _ _ _ hh h => h.of_heap hh) own started (by kernel_rfl) Tryz.func3
    (ChangeSpec.witness_shaped (enc := enc) (C := Tryz.checked) (os := os) (X := fun w _ => laidMetH Tryz.prog Rows.bitsSetsRow.laid w) false (World.laidAll Tryz.prog os Rows.bitsSetsRow.laid) #[.slice none 0 0, .slice none 0 0] 8 (World.laidAll_os _ _ _)
      (World.shaped_of_ZipB (by kernel_rfl) (by kernel_rfl)) (by kernel_rfl) (by kernel_rfl) (by kernel_rfl)
      (by rw [MakeChecks.laidMetH_plain _ _ _ (by kernel_rfl)]; exact laidMet_laidAll _ (by kernel_rfl) (by kernel_rfl))) ?_
  intro W base args ds gs before hval0 hW hc hsz hL _
  have hval : ∀ (j : Nat) t v, Tryz.f3.params[j]? = some t → args[j]? = some v → Value.okWide Tryz.prog W .any base t v := hval0
  have hW' := hW
  obtain ⟨p, q, hA0, hV, rfl, _, _⟩ := hW
  have hA : DataW.TrodAll enc Tryz.prog W 0 (fun _ => true) true Tryz.f3.params.toList args.toList ds p := hA0
  rw [Tryz.params3] at hA hval hsz
  obtain ⟨v0, v1, d0, d1, p0, p1, rfl, rfl, rfl, h0, h1⟩ := trodAll_two hA
  obtain ⟨rfl, rfl⟩ := trodVars_none hV
  obtain ⟨q, c, ns, rfl, a1, a2, a3, a4, a5, a6⟩ := in_numsL (hval 0 22 v0 rfl rfl) h0
  obtain ⟨q2, c2, ks, rfl, b1, _, b3, _, b5, b6⟩ := in_numsN (hval 1 23 v1 rfl rfl) h1
  have hr : reachBytes = 140737488351232 := rfl
  have hb0 : (ns.length + 1) * 8 ≤ 140737488355328 := by
    rcases a6 with h | ⟨el, sp, rfl, he⟩
    · omega
    · have := sized_slice hsz (j := 0) (t := 22) rfl rfl Tryz.underlying22
      rw [show Tryz.checked.prog.bytesOf 27 = 8 from bytesL, he] at this
      omega
  have hb1' : ks.length ≤ c2 := by assumption
  have hb1 : (ks.length + 1) * 8 ≤ 140737488355328 := by
    rcases b6 with h | ⟨el, sp, rfl, he⟩
    · omega
    · have := sized_slice hsz (j := 1) (t := 23) rfl rfl Tryz.underlying23
      rw [show Tryz.checked.prog.bytesOf 3 = 8 from bytesN, he] at this
      omega
  obtain ⟨zs, hzs⟩ : ∃ zs : List Nat, zs = ns.map Int.toNat := ⟨_, rfl⟩
  have hmz : zs.map Int.ofNat = ns := by
    rw [hzs, List.map_map]
    refine (List.map_congr_left (fun x hx => ?_)).trans (List.map_id ns)
    have := (a4 x hx).1
    simp only [Function.comp_apply, id_eq]
    exact Int.toNat_of_nonneg this
  have hln : ns.length = zs.length := by rw [hzs, List.length_map]
  have hz : ∀ z ∈ zs, z < 18446744073709551616 := fun z hz => by
    rw [hzs] at hz
    obtain ⟨x, hx, rfl⟩ := List.mem_map.1 hz
    have := a4 x hx
    omega
  have hp : (q = none ∧ zs = [] ∧ c = 0) ∨ ∃ ad, q = some ad := by
    rcases a3 with ⟨h1, h2, h3⟩ | h
    · exact .inl ⟨h1, by rw [hzs, h2]; rfl, h3⟩
    · exact .inr h
  rw [← hmz] at a5
  have hgo := sets_any q c zs hp hz (by omega) (by omega) (by omega) q2 c2 ks b3 b1 hb1 W a5 b5 (env_of_laid hL)
  rw [← hln] at hgo
  refine hgo.mono fun e W' ⟨he, hb⟩ => ⟨_, he, ?_⟩
  exact post_true rfl rfl (by
    rw [Tryz.params3]; intro t ht
    rcases (show t = 22 ∨ t = 23 by simpa using ht) with rfl | rfl
    · exact ⟨by kernel_rfl, of_decide_eq_true (by kernel_rfl)⟩
    · exact ⟨by kernel_rfl, of_decide_eq_true (by kernel_rfl)⟩) rfl hW' hb

theorem sets_holds : Rows.BitsSetsSaid :=
  OpenClaim.holds_of_wide 3 Tryz.f3 rfl rfl rfl rfl rfl rfl rfl ⟨rfl, rfl, rfl, rfl, rfl⟩ rfl rfl rfl rfl rfl (by kernel_rfl) Tryz.func3 (by kernel_rfl)
    (of_decide_eq_true (by kernel_rfl)) (by unfold Func.isWrapper; first | (rw [if_pos (by decide +kernel)]; kernel_rfl) | (rw [if_neg (by decide +kernel)]; exact ⟨rfl, rfl⟩))
    (fun os started H enc _ => sets_lifted os started H enc)
theorem sets_card_holds : Rows.BitsSetsCardSaid :=
  Claim7.holds_tied_plain_at .later [] [.data, .data, .data, .data, .sentinel, .sentinel, .pinned] true (true, "e23173052b3e7e08bdf07be112760c7ba7d7f61feb2a4a590d9e207b200f6999") true sets_holds (fun _ h => by cases h) (by kernel_rfl) (fun _ h => by cases h) bitsSets_row_tie rfl ⟨rfl, rfl⟩ (by kernel_rfl) rfl
    (fun f fn hf hfn => by
      obtain rfl : f = 3 := Option.some.inj ((show Tryz.prog.funcNamed "louver/louverlaw01.BitsSets" = some 3 by kernel_rfl).symm.trans hf) |>.symm
      obtain rfl : fn = Tryz.f3 := (Option.some.inj (Tryz.func3.symm.trans hfn)).symm
      exact ⟨by kernel_rfl, fun j t ht => by
        rw [Tryz.params3] at ht
        have hm : t ∈ [22, 23] := by simpa using Array.mem_of_getElem? ht
        have hall : ([22, 23].all fun u => !Tryz.prog.wantsStandIn u) = true := by kernel_rfl
        exact (show Tryz.prog.wantsStandIn t = false by simpa using List.all_eq_true.1 hall t hm)⟩)
    (by kernel_rfl)
#print axioms sets_holds
#print axioms sets_card_holds
end Go.Proofs.YthmcckdoneiglaaGreatDoor
