/- The kit's Ints and Bools of lists that are the same; has. -/
import Derived.Test.YthgcnlccikpmaaaGrD
namespace Go.Proofs.Ythgcnlccikpmaaa
open Go Go.RowKit Go.Proofs.Mm
set_option maxRecDepth 100000 in
set_option maxHeartbeats 1000000 in
theorem ints_true {w : World} {v v' : Value} {l : List Nat} (ha : ReI (wC w) v l) (hb : ReI (wC w) v' l) : Calls Try.prog 11 #[v, v'] w (Yes w) := by
  obtain ⟨q, c, rfl⟩ := ha.shape
  obtain ⟨q', c', rfl⟩ := hb.shape
  obtain ⟨-, hm1, hm2, hA⟩ := ha.at
  obtain ⟨-, -, -, hB⟩ := hb.at
  unfold maxLen at hm2
  obtain ⟨n, hn⟩ : ∃ n, l.length = n := ⟨_, rfl⟩
  have HA := Lib.hid hA
  have HB := Lib.hid hB
  rw [hn] at HA HB hm1 ⊢
  have hneq : ((n : Int) != (n : Int)) = false := by simp
  clear ha hb hn hA hB
  go_enter Try.func11, Try.ntmps11
  go_wp2
  go_loopw [5] (fun i wr => ∃ k nq : Nat, k ≤ n ∧ i = .int .i64 k ∧ wr = w.drewN nq) (fun i _ => n - (intOf i).toNat)
  case atStart => exact ⟨0, 0, Nat.zero_le _, rfl, rfl⟩
  case round =>
    obtain ⟨k, nq, hk, rfl, rfl⟩ := hrel
    by_cases hlt : k < n
    · obtain ⟨g, o, rfl, a1⟩ := HA.out k hlt
      obtain ⟨g', o', rfl, b1⟩ := HB.out k hlt
      have x1 : w.cell? ⟨g, o + k, none⟩ = some (.int .i64 ((l.getD k 0 : Nat) : Int)) := a1
      have y1 : w.cell? ⟨g', o' + k, none⟩ = some (.int .i64 ((l.getD k 0 : Nat) : Int)) := b1
      clear a1 b1
      generalize l.getD k 0 = lb at *
      have hki : (k : Int) < (n : Int) := by omega
      have e2 : ((lb : Int) == (lb : Int)) = true := by simp
      have e3 : ((lb : Int) != (lb : Int)) = false := by simp
      go_wp2
      go_quiet (fail)
      go_wp2
      exact ⟨⟨k + 1, _, by omega, by go_num, rfl⟩, by simp [intOf]; omega⟩
    · go_wp2
      go_ret
      exact ⟨rfl, _, rfl⟩
set_option maxRecDepth 100000 in
set_option maxHeartbeats 1000000 in
theorem bools_true {w : World} {v v' : Value} {l : List Bool} (ha : ReT (wC w) v l) (hb : ReT (wC w) v' l) : Calls Try.prog 14 #[v, v'] w (Yes w) := by
  obtain ⟨q, c, rfl⟩ := ha.shape
  obtain ⟨q', c', rfl⟩ := hb.shape
  obtain ⟨-, hm1, hm2, hA⟩ := ha.at
  obtain ⟨-, -, -, hB⟩ := hb.at
  unfold maxLen at hm2
  obtain ⟨n, hn⟩ : ∃ n, l.length = n := ⟨_, rfl⟩
  have HA := Lib.hid hA
  have HB := Lib.hid hB
  rw [hn] at HA HB hm1 ⊢
  have hneq : ((n : Int) != (n : Int)) = false := by simp
  clear ha hb hn hA hB
  go_enter Try.func14, Try.ntmps14
  go_wp2
  go_loopw [5] (fun i wr => ∃ k nq : Nat, k ≤ n ∧ i = .int .i64 k ∧ wr = w.drewN nq) (fun i _ => n - (intOf i).toNat)
  case atStart => exact ⟨0, 0, Nat.zero_le _, rfl, rfl⟩
  case round =>
    obtain ⟨k, nq, hk, rfl, rfl⟩ := hrel
    by_cases hlt : k < n
    · obtain ⟨g, o, rfl, a1⟩ := HA.out k hlt
      obtain ⟨g', o', rfl, b1⟩ := HB.out k hlt
      have x1 : w.cell? ⟨g, o + k, none⟩ = some (.bool (l.getD k false)) := a1
      have y1 : w.cell? ⟨g', o' + k, none⟩ = some (.bool (l.getD k false)) := b1
      clear a1 b1
      generalize l.getD k false = lb at *
      have hki : (k : Int) < (n : Int) := by omega
      have e3 : (lb != lb) = false := by simp
      go_wp2
      go_quiet (fail)
      go_wp2
      exact ⟨⟨k + 1, _, by omega, by go_num, rfl⟩, by simp [intOf]; omega⟩
    · go_wp2
      go_ret
      exact ⟨rfl, _, rfl⟩
set_option maxRecDepth 100000 in
set_option maxHeartbeats 1000000 in
theorem has_any {w : World} {v : Value} {l : List Nat} (ha : ReI (wC w) v l) (b : Nat) : Calls Try.prog 24 #[v, .int .i64 (b : Nat)] w fun e w' => e = .returned (.bool (decide (b ∈ l))) ∧ w' = w := by
  obtain ⟨q, c, rfl⟩ := ha.shape
  obtain ⟨-, hm1, hm2, hA⟩ := ha.at
  unfold maxLen at hm2
  obtain ⟨n, hn⟩ : ∃ n, l.length = n := ⟨_, rfl⟩
  have HA := Lib.hid hA
  have HN := Lib.hid hn
  obtain ⟨R, hR⟩ : ∃ R, decide (b ∈ l) = R := ⟨_, rfl⟩
  have HR := Lib.hid hR
  rw [hn] at HA hm1 ⊢
  rw [hR]
  clear ha hn hA hR
  go_enter Try.func24, Try.ntmps24
  go_wp2
  go_loopw [5] (fun i wr => ∃ k : Nat, k ≤ n ∧ i = .int .i64 k ∧ wr = w ∧ Hid (b ∉ l.take k)) (fun i _ => n - (intOf i).toNat)
  case atStart => exact ⟨0, Nat.zero_le _, rfl, rfl, Lib.hid (by simp)⟩
  case round =>
    obtain ⟨k, hk, rfl, rfl, HT⟩ := hrel
    by_cases hlt : k < n
    · obtain ⟨g, o, rfl, a1⟩ := HA.out k hlt
      have hkl : k < l.length := by rw [HN.out]; exact hlt
      have hgd : l.getD k 0 = l[k] := by simp [hkl]
      rw [hgd] at a1
      have x1 : wr.cell? ⟨g, o + k, none⟩ = some (.int .i64 ((l[k] : Nat) : Int)) := a1
      have hki : (k : Int) < (n : Int) := by omega
      clear a1 hgd
      by_cases hb : l[k] = b
      · have hRt : R = true := by rw [← HR.out, decide_eq_true_eq, ← hb]; exact List.getElem_mem _
        have e2 : (((l[k] : Nat) : Int) == (b : Int)) = true := by rw [hb]; simp
        have HRt := Lib.hid hRt
        clear hb hRt
        generalize l[k] = lb at *
        go_wp2
        go_ret
        exact ⟨by rw [HRt.out]; rfl, rfl⟩
      · have e2 : (((l[k] : Nat) : Int) == (b : Int)) = false := by simp; omega
        have HT2 := Lib.hid (show b ∉ l.take (k + 1) by
          rw [List.take_succ_eq_append_getElem hkl, List.mem_append, List.mem_singleton]
          rintro (h | h)
          · exact HT.out h
          · exact hb h.symm)
        clear hb
        generalize l[k] = lb at *
        go_wp2
        exact ⟨⟨k + 1, by omega, by go_num, trivial, HT2⟩, by simp [intOf]; omega⟩
    · obtain rfl : k = n := by omega
      have hRf : R = false := by
        rw [← HR.out, decide_eq_false_iff_not]
        have := HT.out
        rwa [List.take_of_length_le (by rw [HN.out]; exact Nat.le_refl _)] at this
      have HRf := Lib.hid hRf
      clear hRf
      go_wp2
      go_ret
      exact ⟨by rw [HRf.out]; rfl, rfl⟩
end Go.Proofs.Ythgcnlccikpmaaa
