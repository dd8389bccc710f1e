/- math/bits.Mul of 1 and a number; slices.Repeat of one number; slices.Clone of numbers. -/
import Derived.Test.YtnmcjkabihihiaaBs
import Derived.RangeFuncRecord
import Derived.RangeFuncOwn
import Derived.Laws.CopyOwn
import Derived.Deep.OwnRows
import Derived.Laws.OwnMore
import Derived.Laws.Bits64
import Derived.Laws.Bits64b
namespace Go.Proofs.Ytnmcjkabihihiaa
open Go Go.RowKit Go.Proofs.Mm

set_option maxRecDepth 100000 in
theorem mul64_one (n : Nat) (hn : n ≤ 140737488355328) (w : World) : Calls Try.prog 21 #[.int .u64 1, .int .u64 (n : Nat)] w fun e w' => e = .returned (.tuple #[.int .u64 0, .int .u64 (n : Nat)]) ∧ w = w' := by
  have e1 : bits BinOp.and IntKind.u64 1 4294967295 = 1 := by
    have := bits_and_u64_nat 1 4294967295 (by decide) (by decide)
    exact this
  have e2 : bits BinOp.and IntKind.u64 (n : Int) 4294967295 = ((n % 4294967296 : Nat) : Int) := by
    have := bits_and_u64_nat n 4294967295 (by omega) (by decide)
    rw [show n &&& 4294967295 = n % 4294967296 from Nat.and_two_pow_sub_one_eq_mod n 32] at this
    exact this
  have e3 : bits BinOp.and IntKind.u64 0 4294967295 = 0 := by
    have := bits_and_u64_nat 0 4294967295 (by decide) (by decide)
    exact this
  have E1 := Lib.hid e1
  have E2 := Lib.hid e2
  have E3 := Lib.hid e3
  clear e1 e2 e3
  go_enter Try.func21, Try.ntmps21
  go_wp2
  go_ret2
  refine ⟨?_, rfl⟩
  have e4 : IntKind.u64.wrap (IntKind.u64.wrap (1 * ((n % 4294967296 : Nat) : Int)) / 4294967296) = 0 := by rw [IntKind.wrap_u64, IntKind.wrap_u64]; omega
  have e5 : IntKind.u64.wrap (0 + IntKind.u64.wrap (1 * ((n : Int) / 4294967296))) / 4294967296 = 0 := by rw [IntKind.wrap_u64, IntKind.wrap_u64]; omega
  have e6 : IntKind.u64.wrap (IntKind.u64.wrap (1 * ((n % 4294967296 : Nat) : Int)) / 4294967296) / 4294967296 = 0 := by rw [e4]; rfl
  rw [E1.out, E2.out, e6, e4, E3.out, e5]
  rfl
set_option maxRecDepth 100000 in
theorem mul_one (n : Nat) (hn : n ≤ 140737488355328) (w : World) : Calls Try.prog 16 #[.int .u64 1, .int .u64 (n : Nat)] w fun e w' => e = .returned (.tuple #[.int .u64 0, .int .u64 (n : Nat)]) ∧ w = w' := by
  have h1 := Lib.hid (mul64_one n hn w)
  go_enter Try.func16, Try.ntmps16
  go_wp2_with (go_at_call 21; refine h1.out.mono ?_; rintro e w' ⟨rfl, rfl⟩)
  go_ret2
  exact ⟨rfl, rfl⟩
def negs (n m : Nat) : List Value := List.replicate m (.int .i64 (-1)) ++ List.replicate (n - m) (.int .i64 0)
theorem negs_len {n m : Nat} (h : m ≤ n) : (negs n m).length = n := by simp [negs]; omega
theorem negs_splice {n m c : Nat} (_h : m + c ≤ n) : splice (negs n m) m (List.replicate c (.int .i64 (-1))) = negs n (m + c) := by
  unfold splice negs
  rw [List.take_append_of_le_length (by simp), List.take_of_length_le (by simp), List.drop_append, List.drop_eq_nil_of_le (by simp), List.nil_append, List.drop_replicate, ← List.append_assoc, List.replicate_append_replicate]
  congr 2
  simp
  omega
theorem mk_ints (n : Nat) (hn : n ≤ 2199023255552) (w : World) : (Instr.makeSlice 24 (.int .i64 (n : Int)) (.int .i64 (n : Int))).run Try.prog w = .ok (.slice (some ⟨w.heap.size, 0, none⟩) n n) (w.alloc (.cells (negs n 0).toArray 3)) := by
  have h := run_make_row' (P := Try.prog) 24 3 (.int .i64 0) 8 (by kernel_rfl) (by kernel_rfl) rfl .i64 .i64 n (by omega) (by omega) w
  rw [h, show madeCells #[.int .i64 0] n = (negs n 0).toArray from by rw [← Array.toList_inj, toList_madeCells_one]; simp [negs]]
def RepI (w : World) (n : Nat) (i : Value) (wr : World) : Prop := ∃ m : Nat, m ≤ n ∧ (n = 0 ∨ 0 < m) ∧ i = .int .i64 m ∧ Hid (wr.heap[w.heap.size]? = some (.cells (negs n m).toArray 3 (0, 0))) ∧ Hid (Below w.heap.size w wr)
theorem stopAt {P : Program} {w : World} {ops : Array Oper} {rest : List Oper} {a : Act} {Q : Exit → Act → World → Prop} (n : Nat) {op : Op} {ty : TypeId} {pos : String} {after : Array Edge} {g : Option (Nat × Bool)} (h : Hid (wpList P ops Q (⟨some n, op, ty, pos, after, g⟩ :: rest) a w)) : wpList P ops Q (⟨some n, op, ty, pos, after, g⟩ :: rest) a w := h
set_option maxRecDepth 100000 in
set_option maxHeartbeats 1000000 in
theorem repeat_any (n : Nat) (hn : n ≤ 2199023255552) (w : World) (g : Nat) (hg : w.cell? ⟨g, 0, none⟩ = some (.int .i64 (-1))) : Calls Try.prog 11 #[.slice (some ⟨g, 0, none⟩) 1 1, .int .i64 (n : Nat)] w fun e w' => e = .returned (.slice (some ⟨w.heap.size, 0, none⟩) n n) ∧ w'.heap[w.heap.size]? = some (.cells (negs n n).toArray 3 (0, 0)) ∧ Below w.heap.size w w' := by
  have HMU := Lib.hid (mul_one n (by omega) w)
  have hmk := mk_ints n hn w
  obtain ⟨W1, hW1⟩ : ∃ W1, w.alloc (.cells (negs n 0).toArray 3) = W1 := ⟨_, rfl⟩
  have HA := Lib.hid (show W1.heap[w.heap.size]? = some (.cells (negs n 0).toArray 3 (0, 0)) by rw [← hW1]; exact World.alloc_heap_new w _)
  have HB := Lib.hid (show Below w.heap.size w W1 by rw [← hW1]; exact (Below.refl _ _).alloc (Nat.le_refl _) _)
  have HG := Lib.hid (show W1.cell? ⟨g, 0, none⟩ = some (.int .i64 (-1)) by rw [← hW1]; exact cell_kept hg (World.grownBy_alloc w _ none) (fun r e => by cases e))
  rw [hW1] at hmk
  obtain ⟨c1, hc1⟩ : ∃ c1, Nat.min 1 n = c1 := ⟨_, rfl⟩
  have HC := Lib.hid (show c1 ≤ n ∧ (n = 0 ∨ 0 < c1) ∧ c1 ≤ 1 by rw [← hc1]; simp only [Nat.min_def]; split <;> omega)
  have HC2 := Lib.hid hc1
  clear hg hW1 hc1
  have hw1 : IntKind.u64.wrap (n : Int) = n := by rw [IntKind.wrap_u64]; omega
  have hw2 : IntKind.i64.wrap (n : Int) = n := by rw [IntKind.wrap_i64]; omega
  have hn0 : ¬ ((n : Int) < 0) := by omega
  have hn1 : ¬ (9223372036854775807 < (n : Int)) := by omega
  go_enter Try.func11, Try.ntmps11
  go_wp2_with (first
    | (go_at_call 16; refine HMU.out.mono ?_; rintro e w' ⟨rfl, rfl⟩)
    | (with_reducible refine stopAt 33 ?_))
  show wpList _ _ _ _ _ _
  refine wpList_copy_splice rfl (.tmp 31) (.tmp 32) 24 24 rfl 3 (by kernel_rfl) (by kernel_rfl) (some ⟨w.heap.size, 0, none⟩) (some ⟨g, 0, none⟩) n n 1 1 rfl rfl w.heap.size 0 (negs n 0) 3 HA.out (List.replicate c1 (.int .i64 (-1))) (by rw [List.length_replicate]; exact HC2.out.symm) (fun _ => ⟨rfl, ⟨g, 0, none⟩, rfl, fun j v hv => by
        have hj : j < c1 := by have := (List.getElem?_eq_some_iff.1 hv).1; simpa using this
        have hv' : v = .int .i64 (-1) := by rw [List.getElem?_replicate, if_pos hj] at hv; exact (Option.some.inj hv).symm
        obtain rfl : j = 0 := by have := HC.out.2.2; omega
        rw [hv']; exact HG.out⟩) (by rw [List.length_replicate, negs_len (Nat.zero_le _)]; have := HC.out.1; omega) (by intro v hv; rw [List.eq_of_mem_replicate hv]; rfl) w.heap.size w HB.out (Nat.le_refl _) ?_
  intro w2 hw2r hw2b
  have HR := Lib.hid (show w2.heap[w.heap.size]? = some (.cells (negs n c1).toArray 3 (0, 0)) by
    have h := hw2r.out
    rw [negs_splice (by have := HC.out.1; omega), Nat.zero_add] at h
    exact h)
  clear hw2r
  have HB2 := Lib.hid hw2b
  clear hw2b
  rw [List.length_replicate]
  go_wp2
  go_loopw [8] (RepI w n) (fun i _ => n - (intOf i).toNat)
  case atStart => exact ⟨c1, HC.out.1, HC.out.2.1, rfl, HR, HB2⟩
  case round =>
    obtain ⟨m, hm, hm0, rfl, hR, hB⟩ := hrel
    by_cases hmn : m < n
    · have hmn' : (m : Int) < (n : Int) := by omega
      obtain ⟨c, hc⟩ : ∃ c, Nat.min m (n - m) = c := ⟨_, rfl⟩
      have HC3 := Lib.hid (show c ≤ m ∧ c ≤ n - m ∧ 0 < c by rw [← hc]; simp only [Nat.min_def]; split <;> omega)
      have HC4 := Lib.hid (show (List.replicate c (Value.int .i64 (-1))).length = Nat.min m (n - m) by rw [List.length_replicate, hc])
      have HC5 := Lib.hid (show m + (List.replicate c (Value.int .i64 (-1))).length ≤ (negs n m).length by rw [List.length_replicate, negs_len hm]; have := HC3.out; omega)
      have HC6 := Lib.hid (show ∀ v ∈ List.replicate c (Value.int .i64 (-1)), v.oneCell' = true by intro v hv; rw [List.eq_of_mem_replicate hv]; rfl)
      have HC7 := Lib.hid (show ∀ j v, (List.replicate c (Value.int .i64 (-1)))[j]? = some v → wr.drew.cell? ((⟨w.heap.size, 0, none⟩ : Addr).add j) = some v from fun j v hv => by
        have hj : j < c := by have := (List.getElem?_eq_some_iff.1 hv).1; simpa using this
        have hv' : v = .int .i64 (-1) := by rw [List.getElem?_replicate, if_pos hj] at hv; exact (Option.some.inj hv).symm
        have h1 := HC3.out.1
        rw [show ((⟨w.heap.size, 0, none⟩ : Addr).add j) = ⟨w.heap.size, j, none⟩ from by simp [Addr.add]; intro h; exact h.symm]
        refine cell_of (show wr.drew.heap[w.heap.size]? = _ from hR.out) ?_
        rw [hv', List.getElem?_toArray, negs, List.getElem?_append_left (by simp; omega), List.getElem?_replicate, if_pos (by omega)])
      have HR8 := Lib.hid (show wr.drew.heap[w.heap.size]? = _ from hR.out)
      have HB8 := Lib.hid (show Below w.heap.size w wr.drew from hB.out.drew)
      have e1 : ¬ (n - m = 0) := by omega
      have e4 : ¬ n = m := by omega
      have e2 : (m : Int) ≤ (n : Int) := by omega
      have e3 : ¬ ((m : Int) < 0) := by omega
      go_wp2
      go_region_law (refine step_copy_splice rfl (.tmp 41) (.tmp 44) 24 24 rfl 3 (by kernel_rfl) (by kernel_rfl) (some ⟨w.heap.size, m, none⟩) (some ⟨w.heap.size, 0, none⟩) (n - m) (n - m) m n (by simp [Act.eval, Act.put]) (by simp [Act.eval, Act.put]) w.heap.size m (negs n m) 3 HR8.out (List.replicate c (.int .i64 (-1))) HC4.out (fun _ => ⟨rfl, _, rfl, HC7.out⟩) HC5.out HC6.out w.heap.size w HB8.out (Nat.le_refl _) ?_; intro w3 hw3r hw3b)
      have HR9 := Lib.hid (show w3.heap[w.heap.size]? = some (.cells (negs n (m + c)).toArray 3 (0, 0)) by
        have h := hw3r.out
        rw [negs_splice (by have := HC3.out; omega)] at h
        exact h)
      have HB9 := Lib.hid hw3b
      clear hw3r hw3b
      have hmw : IntKind.i64.wrap ((m : Int) + (c : Int)) = (m : Int) + (c : Int) := by rw [IntKind.wrap_i64]; have := HC3.out; omega
      rw [hmw]
      go_wp2
      try simp only [Act.put]
      try simp
      exact ⟨⟨m + c, by have := HC3.out; omega, by have := HC3.out; omega, by go_num, HR9, HB9⟩, by have := HC3.out; simp [intOf]; omega⟩
    · obtain rfl : m = n := by omega
      go_wp2
      go_ret
      exact ⟨rfl, hR.out, hB.out⟩
end Go.Proofs.Ytnmcjkabihihiaa
