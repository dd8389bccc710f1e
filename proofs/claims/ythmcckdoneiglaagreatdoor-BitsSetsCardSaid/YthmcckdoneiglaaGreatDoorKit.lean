/- Ints of the statements' kit: two lists of the same numbers are the same, in every memory. -/
import Derived.Test.YthmcckdoneiglaaGreatDoorN
namespace Go.Proofs.YthmcckdoneiglaaGreatDoor
open Go Go.RowKit

/-- A list of ints as a slice at p has it. -/
def IntIn (w : World) (p : Option Addr) (xs : List Int) : Prop :=
  ∀ i, i < xs.length → ∃ b off, p = some ⟨b, off, none⟩ ∧ w.cell? ⟨b, off + i, none⟩ = some (.int .i64 (xs.getD i 0))

theorem IntIn.below {w w' : World} {p : Option Addr} {xs : List Int} (h : IntIn w p xs) (hb : Below w.heap.size w w') : IntIn w' p xs := by
  intro i hi
  obtain ⟨b, off, hp, hc⟩ := h i hi
  exact ⟨b, off, hp, (hb.cell (p := ⟨b, off + i, none⟩) (World.block_lt_of_cell? _ _ hc)).trans hc⟩

set_option maxRecDepth 100000 in
set_option maxHeartbeats 1000000 in
theorem ints_same (p q : Option Addr) (c d : Nat) (xs : List Int) (hl : xs.length ≤ maxLen) (w : World) (hp : IntIn w p xs) (hq : IntIn w q xs) :
    Calls Tryz.prog 21 #[.slice p xs.length c, .slice q xs.length d] w fun e w' => e = .returned (.bool true) ∧ Below w.heap.size w w' := by
  unfold maxLen at hl
  obtain ⟨n, hn⟩ : ∃ n, xs.length = n := ⟨_, rfl⟩
  have hn' : ((n : Int) != (n : Int)) = false := by simp
  rw [hn] at hl ⊢
  have HN := Lib.hid hn
  clear hn
  go_enter Tryz.func21, Tryz.ntmps21
  go_wp2
  go_loopw [5] (fun i wr => ∃ k : Nat, k ≤ n ∧ i = .int .i64 k ∧ Below w.heap.size w wr) (fun i _ => n - (intOf i).toNat)
  case atStart => exact ⟨0, Nat.zero_le _, rfl, Below.refl _ _⟩
  case round =>
    obtain ⟨k, hk, rfl, hB⟩ := hrel
    by_cases hlt : k < n
    · obtain ⟨b, off, rfl, hc⟩ := hp k (by rw [HN.out]; exact hlt)
      obtain ⟨b2, off2, rfl, hc2⟩ := hq k (by rw [HN.out]; exact hlt)
      have h1 := (hB.cell (p := ⟨b, off + k, none⟩) (World.block_lt_of_cell? _ _ hc)).trans hc
      have h2 := (hB.cell (p := ⟨b2, off2 + k, none⟩) (World.block_lt_of_cell? _ _ hc2)).trans hc2
      clear hc hc2 hp hq
      generalize xs.getD k 0 = y at h1 h2
      have hki : (k : Int) < (n : Int) := by omega
      have hyy : (y != y) = false := by simp
      go_wp2
      go_region
      go_wp2
      exact ⟨⟨k + 1, by omega, by go_num, hB.drew⟩, by simp [intOf]; omega⟩
    · go_wp2
      go_ret
      exact ⟨rfl, hB⟩
end Go.Proofs.YthmcckdoneiglaaGreatDoor
