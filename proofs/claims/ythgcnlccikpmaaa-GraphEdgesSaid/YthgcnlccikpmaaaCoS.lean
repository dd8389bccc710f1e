/- An instruction that comes in. -/
import Derived.Test.YthgcnlccikpmaaaSmA
import Derived.ChangeArms
import Derived.Deep.Slices
namespace Go.Proofs.Ythgcnlccikpmaaa
open Go Go.ChangeShapes Go.WideShapes Go.ChangeAt Go.RowKit Go.Lib

theorem wf_le {k : IntKind} {n : Int} (h : (Lit.int k n).wf = true) : k.min ≤ n ∧ n ≤ k.max := by
  unfold Lit.wf at h
  rw [Bool.and_eq_true, decide_eq_true_eq, decide_eq_true_eq] at h
  exact h
set_option maxRecDepth 100000 in
theorem wf_64 {n : Int} (h : (Lit.int .i64 n).wf = true) : -9223372036854775808 ≤ n ∧ n < 9223372036854775808 := by
  have h1 := wf_le h
  have h2 : IntKind.min .i64 = -9223372036854775808 := by decide
  have h3 : IntKind.max .i64 = 9223372036854775807 := by decide
  rw [h2, h3] at h1
  omega
set_option maxRecDepth 100000 in
theorem ins_open {H : Type} {enc : TypeId × Value → H} {w : World} {n : Nat} {cs : List Value} {d : DataW H} {p : List MemPlace} (hl : cs.length = 2) (h : DataW.trod enc Try.prog w 0 (fun _ => true) true n 46 cs = some (d, p)) :
    ∃ op a : Int, cs = [.int .i64 op, .int .i64 a] ∧ (-9223372036854775808 ≤ a ∧ a < 9223372036854775808) ∧ (-9223372036854775808 ≤ op ∧ op < 9223372036854775808) := by
  obtain ⟨xs, n', rfl, hx, _, hlen, hf⟩ := DataW.trod_struct Try.underlying46 h
  have h0 := hf 0 _ rfl
  have h1 := hf 1 _ rfl
  match cs, hl with
  | [c0, c1], _ =>
    have l2 : xs.length = 2 := hlen
    rw [List.getElem?_eq_getElem (by omega)] at h0 h1
    obtain ⟨op, ho, _, hw0⟩ := DataW.trod_int (k := .i64) (by kernel_rfl) h0
    obtain ⟨a, ha, _, hw1⟩ := DataW.trod_int (k := .i64) (by kernel_rfl) h1
    have ho' : [c0] = [.int .i64 op] := ho
    have ha' : [c1] = [.int .i64 a] := ha
    injection ho' with e0
    injection ha' with e1
    exact ⟨op, a, by rw [e0, e1], wf_64 hw1, wf_64 hw0⟩
set_option maxRecDepth 100000 in
theorem in_ins {H : Type} {enc : TypeId × Value → H} {W : World} {b0 : Nat} {v : Value} {d : DataW H} {ps : List MemPlace} (hval : Value.okWide Try.prog W .any b0 46 v) (hd : DataW.Trod enc Try.prog W 0 (fun _ => true) true 46 v d ps) :
    ∃ op a : Int, v = inV op a ∧ (-9223372036854775808 ≤ a ∧ a < 9223372036854775808) ∧ (-9223372036854775808 ≤ op ∧ op < 9223372036854775808) := by
  obtain ⟨cs0, rfl, hcs⟩ := okWide_struct Try.underlying46 hval
  obtain ⟨fuel, hf⟩ := hd
  have hc2 : cs0.toList.length = 2 := by rw [Array.length_toList, hcs]; kernel_rfl
  obtain ⟨op, a, hv, h1, h2⟩ := ins_open hc2 hf
  refine ⟨op, a, ?_, h1, h2⟩
  have hv2 : cs0.toList = [.int .i64 op, .int .i64 a] := hv
  rw [show cs0 = #[.int .i64 op, .int .i64 a] from by rw [← Array.toArray_toList (xs := cs0), hv2]]
end Go.Proofs.Ythgcnlccikpmaaa
