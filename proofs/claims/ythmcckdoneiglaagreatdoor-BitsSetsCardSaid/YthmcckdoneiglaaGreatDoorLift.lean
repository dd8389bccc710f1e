/- What comes in: labels, and lists of names. -/
import Derived.Test.YthmcckdoneiglaaGreatDoorLaid
import Derived.SliceStrings
namespace Go.Proofs.YthmcckdoneiglaaGreatDoor
open Go Go.ChangeShapes Go.WideShapes Go.ChangeAt Go.RowKit

set_option maxRecDepth 100000 in
/-- A label. -/
theorem in_label {H : Type} {enc : TypeId × Value → H} {W : World} {base b0 : Nat} {sp : Nat → Bool} {held : Bool} {v : Value} {d : DataW H} {ps : List MemPlace} (hval : Value.okWide Tryz.prog W .any b0 27 v) (hd : DataW.Trod enc Tryz.prog W base sp held 27 v d ps) :
    ∃ x : Nat, x < 18446744073709551616 ∧ v = .int .u64 (x : Int) := by
  obtain ⟨n, rfl, _, _, hw⟩ := open_int Tryz.underlying27 hval hd
  simp only [Lit.wf, Bool.and_eq_true, decide_eq_true_eq] at hw
  have h1 : IntKind.u64.min = 0 := rfl
  have h2 : IntKind.u64.max = 18446744073709551615 := rfl
  exact ⟨n.toNat, by omega, by rw [Int.toNat_of_nonneg (by omega)]⟩

theorem cells9 : Tryz.prog.cellsOf 9 = 1 := by kernel_rfl

set_option maxRecDepth 100000 in
/-- A list of strings. -/
theorem in_names {H : Type} {enc : TypeId × Value → H} {W : World} {b0 : Nat} {v : Value} {d : DataW H} {ps : List MemPlace} (hval : Value.okWide Tryz.prog W .any b0 51 v) (hd : DataW.Trod enc Tryz.prog W 0 (fun _ => true) true 51 v d ps) :
    ∃ (p : Option Addr) (c : Nat) (ns : List ByteArray), v = .slice p ns.length c ∧ ns.length ≤ maxLen ∧ (∀ i, (ns.getD i ByteArray.empty).size ≤ maxLen) ∧ StrIn W.heap.size W p ns := by
  obtain ⟨a, len, cap, rfl⟩ := okWide_slice Tryz.underlying51 hval
  obtain ⟨fuel, hf⟩ := hd
  rcases open_strings Tryz.underlying51 Tryz.underlying9 cells9 hf with ⟨hcs, _⟩ | ⟨a', len', cap', ss, hcs, _, hl, hm, hlen, _, hcell, hsz⟩
  · have hcs' : (Value.slice a len cap) = .slice none 0 0 := by simpa [Value.cells] using hcs
    rw [hcs']
    refine ⟨none, 0, [], rfl, by simp, fun i => ?_, fun i hi => ?_⟩
    · rw [List.getD_nil]; exact Nat.zero_le _
    · simp at hi
  · have hcs' : (Value.slice a len cap) = .slice (some a') len' cap' := by simpa [Value.cells] using hcs
    rw [hcs']
    rw [if_pos rfl] at hlen
    have hle : len' ≤ ss.length := by omega
    refine ⟨some a', cap', ss.take len', by rw [List.length_take, Nat.min_eq_left hle], by rw [List.length_take]; omega, fun i => ?_, fun i hi => ?_⟩
    · rw [List.getD_eq_getElem?_getD]
      cases hg : (ss.take len')[i]? with
      | none => exact Nat.zero_le _
      | some x =>
        have hx := List.mem_of_getElem? hg
        exact hsz x (List.mem_of_mem_take hx)
    · rw [List.length_take, Nat.min_eq_left hle] at hi
      have h0 := hcell 0 (by omega)
      have h1 := hcell i (by omega)
      obtain ⟨b, off, sp⟩ := a'
      rw [show (⟨b, off, sp⟩ : Addr).add 0 = ⟨b, off, sp⟩ from by simp [Addr.add]] at h0
      obtain rfl : sp = none := cell_spot h0
      rw [show (⟨b, off, none⟩ : Addr).add i = ⟨b, off + i, none⟩ from by unfold Addr.add; split <;> simp_all] at h1
      refine ⟨b, off, rfl, World.block_lt_of_cell? _ _ h0, ?_⟩
      rw [List.getD_eq_getElem?_getD, List.getElem?_take_of_lt hi, ← List.getD_eq_getElem?_getD]
      exact h1
end Go.Proofs.YthmcckdoneiglaaGreatDoor
