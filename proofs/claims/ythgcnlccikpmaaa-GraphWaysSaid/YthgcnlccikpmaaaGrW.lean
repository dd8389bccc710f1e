/- slices.Index of truths; the row of those ahead is told. -/
import Derived.Test.YthgcnlccikpmaaaGrD
namespace Go.Proofs.Ythgcnlccikpmaaa
open Go Go.RowKit Go.Proofs.Mm
/-- The first that is not. -/
def fsF (L : List Bool) : Int := match L.findIdx? (fun b => b == false) with | some i => i | none => -1
set_option maxRecDepth 100000 in
set_option maxHeartbeats 1000000 in
theorem index_any {w : World} {v : Value} {l : List Bool} (ha : ReT (wC w) v l) : Calls Try.prog 34 #[v, .bool false] w fun e w' => (∃ i : Nat, e = .returned (.int .i64 i) ∧ i < l.length ∧ l.getD i false = false ∧ ∀ j, j < i → l.getD j false = true) ∧ w' = w ∨ (e = .returned (.int .i64 (-1)) ∧ ∀ j, j < l.length → l.getD j false = true) ∧ w' = w := by
  obtain ⟨q, c, rfl⟩ := ha.shape
  obtain ⟨-, hm1, hm2, hA⟩ := ha.at
  unfold maxLen at hm2
  obtain ⟨n, hn⟩ : ∃ n, l.length = n := ⟨_, rfl⟩
  have HA := Lib.hid hA
  rw [hn] at HA hm1 ⊢
  clear ha hn hA
  go_enter Try.func34, Try.ntmps34
  go_wp2
  go_loopw [8] (fun i wr => ∃ k : Nat, k ≤ n ∧ i = .int .i64 k ∧ wr = w ∧ Hid (∀ j, j < k → l.getD j false = true)) (fun i _ => n - (intOf i).toNat)
  case atStart => exact ⟨0, Nat.zero_le _, rfl, rfl, Lib.hid (fun j hj => absurd hj (by omega))⟩
  case round =>
    obtain ⟨k, hk, rfl, rfl, HT⟩ := hrel
    by_cases hlt : k < n
    · obtain ⟨g, o, rfl, a1⟩ := HA.out k hlt
      have x1 : wr.cell? ⟨g, o + k, none⟩ = some (.bool (l.getD k false)) := a1
      have hki : (k : Int) < (n : Int) := by omega
      clear a1
      cases hb : l.getD k false with
      | false =>
        rw [hb] at x1
        have HBk := Lib.hid hb
        clear hb
        go_wp2
        go_ret
        exact .inl ⟨⟨k, rfl, hlt, HBk.out, HT.out⟩, rfl⟩
      | true =>
        rw [hb] at x1
        have HT2 := Lib.hid (show ∀ j, j < k + 1 → l.getD j false = true from fun j hj => by
          by_cases e : j = k
          · subst e; exact hb
          · exact HT.out j (by omega))
        clear hb
        go_wp2
        exact ⟨⟨k + 1, by omega, by go_num, trivial, HT2⟩, by simp [intOf]; omega⟩
    · obtain rfl : k = n := by omega
      go_wp2
      go_ret
      exact .inr ⟨⟨rfl, HT.out⟩, rfl⟩
theorem mk_rows (n : Nat) (hn : n ≤ 1000000) (w : World) : (Instr.makeSlice 30 (.int .i64 (n : Int)) (.int .i64 (n : Int))).run Try.prog w = .ok (.slice (some ⟨w.heap.size, 0, none⟩) n n) (w.alloc (.cells (List.replicate n (Value.slice none 0 0)).toArray 31)) := by
  obtain ⟨i, hi, hz, hs, hb⟩ := infoNs
  have := run_makeSlice (P := Try.prog) w 30 31 i (.slice none 0 0) (by kernel_rfl) hi hz .i64 .i64 (n : Int) (n : Int) (by omega) (Int.le_refl _) (by rw [hs]; omega) (by rw [hb]; omega) (by omega)
  rw [hs, Nat.mul_one] at this
  rw [show (List.replicate n (Value.slice none 0 0)).toArray = madeCells #[.slice none 0 0] n from by rw [← Array.toList_inj, toList_madeCells_one]]
  simpa [Value.cells] using this
set_option maxRecDepth 100000 in
set_option maxHeartbeats 1000000 in
theorem exit1_any {w : World} {B r N x : Nat} {q : Option Addr} {n c : Nat} (hb : w.cell? ⟨B, 0, none⟩ = some (.slice (some ⟨r, 0, none⟩) N N)) (hx : x < N) (hc : w.cell? ⟨r, x, none⟩ = some (.slice q n c)) :
    Calls Try.prog 33 #[.int .i64 (x : Nat), .pointer (some ⟨B, 0, none⟩)] w fun e w' => e = .returned (.slice q n c) ∧ w' = w := by
  have hxi : (x : Int) < (N : Int) := by omega
  go_enter Try.func33, Try.ntmps33
  go_wp2
  go_ret
  exact ⟨rfl, rfl⟩
end Go.Proofs.Ythgcnlccikpmaaa
