/- BitsTexts: for every label, every list of names and every text it returns true, and what came in reads as it did: the law's row, and its tied card. -/
import Derived.Test.YthmcckdoneiglaaDoorTextsW
import Derived.Test.YthmcckdoneiglaaDoorLift
import Derived.SizedLaws
import Derived.ChangeMaps5
namespace Go.Proofs.YthmcckdoneiglaaDoor
open Go Go.ChangeShapes Go.WideShapes Go.ChangeAt Go.RowKit

set_option maxRecDepth 100000 in
/-- A list of strings, and what it weighs. -/
theorem in_names2 {H : Type} {enc : TypeId × Value → H} {W : World} {b0 : Nat} {v : Value} {d : DataW H} {ps : List MemPlace} (hval : Value.okWide Tryd.prog W .any b0 32 v) (hd : DataW.Trod enc Tryd.prog W 0 (fun _ => true) true 32 v d ps) :
    ∃ (p : Option Addr) (c : Nat) (ns : List ByteArray), v = .slice p ns.length c ∧ ((p = none ∧ ns = [] ∧ c = 0) ∨ ∃ ad, p = some ad) ∧ ns.length ≤ c ∧ (c = 0 ∨ ∃ el sp, d = .slice el sp ∧ el.length + sp.length = c) ∧ ns.length ≤ maxLen ∧ (∀ i, (ns.getD i ByteArray.empty).size ≤ maxLen) ∧ StrIn W.heap.size W p ns := by
  obtain ⟨a, len, cap, rfl⟩ := okWide_slice Tryd.underlying32 hval
  obtain ⟨fuel, hf⟩ := hd
  rcases open_strings Tryd.underlying32 Tryd.underlying9 cells9 hf with ⟨hcs, _⟩ | ⟨a', len', cap', ss, hcs, _, hl, hm, hlen, hx, hcell, hsz⟩
  · have hcs' : (Value.slice a len cap) = .slice none 0 0 := by simpa [Value.cells] using hcs
    rw [hcs']
    refine ⟨none, 0, [], rfl, .inl ⟨rfl, rfl, rfl⟩, by simp, .inl rfl, by simp, fun i => ?_, fun i hi => ?_⟩
    · rw [List.getD_nil]; exact Nat.zero_le _
    · simp at hi
  · have hcs' : (Value.slice a len cap) = .slice (some a') len' cap' := by simpa [Value.cells] using hcs
    rw [hcs']
    rw [if_pos rfl] at hlen
    have hle : len' ≤ ss.length := by omega
    refine ⟨some a', cap', ss.take len', by rw [List.length_take, Nat.min_eq_left hle], .inr ⟨a', rfl⟩, by rw [List.length_take]; omega, .inr ⟨_, _, (Prod.mk.inj hx).1, by simp [strs]; omega⟩, by rw [List.length_take]; omega, fun i => ?_, fun i hi => ?_⟩
    · rw [List.getD_eq_getElem?_getD]
      cases hg : (ss.take len')[i]? with
      | none => exact Nat.zero_le _
      | some x =>
        have hx := List.mem_of_getElem? hg
        exact hsz x (List.mem_of_mem_take hx)
    · rw [List.length_take, Nat.min_eq_left hle] at hi
      have h0 := hcell 0 (by omega)
      have h1 := hcell i (by omega)
      obtain ⟨b, off, sp⟩ := a'
      rw [show (⟨b, off, sp⟩ : Addr).add 0 = ⟨b, off, sp⟩ from by simp [Addr.add]] at h0
      obtain rfl : sp = none := cell_spot h0
      rw [show (⟨b, off, none⟩ : Addr).add i = ⟨b, off + i, none⟩ from by unfold Addr.add; split <;> simp_all] at h1
      refine ⟨b, off, rfl, World.block_lt_of_cell? _ _ h0, ?_⟩
      rw [List.getD_eq_getElem?_getD, List.getElem?_take_of_lt hi, ← List.getD_eq_getElem?_getD]
      exact h1

theorem bytes9 : Tryd.prog.bytesOf 9 = 16 := by kernel_rfl

set_option maxRecDepth 100000 in
theorem texts_lifted (os : Os) (started : os.Started) (H : Type) (enc : TypeId × Value → H) :
    ReturnsInHanded {} Tryd.checked os 4 .any (fun w args => (Rows.bitsTextsSpec.pre enc Tryd.prog Tryd.f4 Rows.bitsTextsRow.domain false w args ∧ laidMetH Tryd.prog Rows.bitsTextsRow.laid w) ∧ sizedMet enc Tryd.prog Tryd.f4 (OpenSpec.ofChange Rows.bitsTextsSpec) false w args)
      (Rows.bitsTextsSpec.post enc Tryd.prog Tryd.f4 false true false false) := by
  refine returnsInHanded_of_change_and (C := Tryd.checked) (X := fun w _ => laidMetH Tryd.prog Rows.bitsTextsRow.laid w) (fun _ _ _ hh h => h.of_heap hh) own started (by kernel_rfl) Tryd.func4
    (ChangeSpec.witness_shaped (enc := enc) (C := Tryd.checked) (os := os) (X := fun w _ => laidMetH Tryd.prog Rows.bitsTextsRow.laid w) false (World.laidAll Tryd.prog os Rows.bitsTextsRow.laid) #[.int .u64 1, .slice none 0 0, .string ByteArray.empty] 8 (World.laidAll_os _ _ _)
      (World.shaped_of_ZipB (by kernel_rfl) (by kernel_rfl)) (by kernel_rfl) (by kernel_rfl) (by kernel_rfl)
      (by rw [MakeChecks.laidMetH_plain _ _ _ (by kernel_rfl)]; exact laidMet_laidAll _ (by kernel_rfl) (by kernel_rfl))) ?_
  intro W base args ds gs before hval0 hW hc hsz hL _
  have hval : ∀ (j : Nat) t v, Tryd.f4.params[j]? = some t → args[j]? = some v → Value.okWide Tryd.prog W .any base t v := hval0
  have hW' := hW
  obtain ⟨p, q, hA0, hV, rfl, _, _⟩ := hW
  have hA : DataW.TrodAll enc Tryd.prog W 0 (fun _ => true) true Tryd.f4.params.toList args.toList ds p := hA0
  rw [Tryd.params4] at hA hval hsz
  obtain ⟨v0, v1, v2, d0, d1, d2, p0, p1, p2, rfl, rfl, rfl, h0, h1, h2⟩ := trodAll_three hA
  obtain ⟨rfl, rfl⟩ := trodVars_none hV
  obtain ⟨a, ha, rfl⟩ := in_label (hval 0 23 v0 rfl rfl) h0
  obtain ⟨q, c, ns, rfl, g1, g2, g3, hn, hz, hs⟩ := in_names2 (hval 1 32 v1 rfl rfl) h1
  obtain ⟨s, rfl, rfl, _, _⟩ := Go.ChangeMaps.open_string Tryd.underlying9 (hval 2 9 v2 rfl rfl) h2
  have hr : reachBytes = 140737488351232 := rfl
  have hb0 : (ns.length + 1) * 16 ≤ 140737488355328 := by
    rcases g3 with h | ⟨el, sp, rfl, he⟩
    · omega
    · have := sized_slice hsz (j := 1) (t := 32) rfl rfl Tryd.underlying32
      rw [show Tryd.checked.prog.bytesOf 9 = 16 from bytes9, he] at this
      omega
  have hss : s.size ≤ 140737488355328 := by
    have := sized_string hsz (j := 2) (t := 9) rfl rfl
    have h2 : s.data.toList.length = s.size := by simp
    omega
  refine (texts_any a ha q c ns s hss g1 hn hz hb0 W hs (env_of_laid hL)).mono fun e W' ⟨he, hb⟩ => ⟨_, he, ?_⟩
  exact post_true rfl rfl (by
    rw [Tryd.params4]; intro t ht
    rcases (show t = 23 ∨ t = 32 ∨ t = 9 by simpa using ht) with rfl | rfl | rfl
    · exact ⟨by kernel_rfl, of_decide_eq_true (by kernel_rfl)⟩
    · exact ⟨by kernel_rfl, of_decide_eq_true (by kernel_rfl)⟩
    · exact ⟨by kernel_rfl, of_decide_eq_true (by kernel_rfl)⟩) rfl hW' hb

theorem texts_holds : Rows.BitsTextsSaid :=
  OpenClaim.holds_of_wide 4 Tryd.f4 rfl rfl rfl rfl rfl rfl rfl ⟨rfl, rfl, rfl, rfl, rfl⟩ rfl rfl rfl rfl rfl (by kernel_rfl) Tryd.func4 (by kernel_rfl)
    (of_decide_eq_true (by kernel_rfl)) (by unfold Func.isWrapper; first | (rw [if_pos (by decide +kernel)]; kernel_rfl) | (rw [if_neg (by decide +kernel)]; exact ⟨rfl, rfl⟩))
    (fun os started H enc _ => texts_lifted os started H enc)
theorem texts_card_holds : Rows.BitsTextsCardSaid :=
  Claim7.holds_tied_plain_at .later [] [.data, .data, .data, .data, .sentinel, .sentinel, .pinned] true (true, "8d5d46edd058e075180fb993c1fce799f1f8b1406da7d8f23ab3fceec4daf558") true texts_holds (fun _ h => by cases h) (by kernel_rfl) (fun _ h => by cases h) bitsTexts_row_tie rfl ⟨rfl, rfl⟩ (by kernel_rfl) rfl
    (fun f fn hf hfn => by
      obtain rfl : f = 4 := Option.some.inj ((show Tryd.prog.funcNamed "louver/louverlaw01.BitsTexts" = some 4 by kernel_rfl).symm.trans hf) |>.symm
      obtain rfl : fn = Tryd.f4 := (Option.some.inj (Tryd.func4.symm.trans hfn)).symm
      exact ⟨by kernel_rfl, fun j t ht => by
        rw [Tryd.params4] at ht
        have hm : t ∈ [23, 32, 9] := by simpa using Array.mem_of_getElem? ht
        have hall : ([23, 32, 9].all fun u => !Tryd.prog.wantsStandIn u) = true := by kernel_rfl
        exact (show Tryd.prog.wantsStandIn t = false by simpa using List.all_eq_true.1 hall t hm)⟩)
    (by kernel_rfl)
#print axioms texts_holds
#print axioms texts_card_holds
end Go.Proofs.YthmcckdoneiglaaDoor
