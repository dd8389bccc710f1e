/- Contracts of Join and Of of package bits, for every list and every memory. -/
import Derived.Test.YthmcckdoneiglaaGreatDoorA
import Derived.LoopTactic
import Derived.Lib.Hide
namespace Go.Proofs.YthmcckdoneiglaaGreatDoor
open Go Go.RowKit

def orAll (zs : List Nat) : Nat := zs.foldl (fun x y => x ||| y) 0
theorem orAll_snoc (zs : List Nat) (x : Nat) : orAll (zs ++ [x]) = orAll zs ||| x := by simp [orAll]
theorem or_lt {a b : Nat} (ha : a < 18446744073709551616) (hb : b < 18446744073709551616) : a ||| b < 18446744073709551616 :=
  Nat.or_lt_two_pow (n := 64) ha hb
theorem orAll_lt (zs : List Nat) (h : ∀ z ∈ zs, z < 18446744073709551616) : orAll zs < 18446744073709551616 := by
  unfold orAll
  have : ∀ (l : List Nat) (a : Nat), a < 18446744073709551616 → (∀ z ∈ l, z < 18446744073709551616) → l.foldl (fun x y => x ||| y) a < 18446744073709551616 := by
    intro l
    induction l with
    | nil => intro a ha _; exact ha
    | cons x l ih => intro a ha hl; exact ih _ (or_lt ha (hl x (by simp))) (fun z hz => hl z (by simp [hz]))
  exact this zs 0 (by omega) h

theorem take_snoc_getD (zs : List Nat) (k : Nat) (h : k < zs.length) : zs.take (k + 1) = zs.take k ++ [zs.getD k 0] := by
  rw [List.take_succ_eq_append_getElem h]; simp [h]

theorem int64_or (k : IntKind) {a b : Int} (h : a = b) : Value.int k a = Value.int k b := by rw [h]

set_option maxHeartbeats 400000 in
theorem join_any (b off c : Nat) (zs : List Nat) (hz : ∀ z ∈ zs, z < 18446744073709551616) (hlen : zs.length ≤ maxLen) (w : World)
    (hc : ∀ i, i < zs.length → w.cell? ⟨b, off + i, none⟩ = some (.int .u64 ((zs.getD i 0 : Nat) : Int))) :
    Calls Tryz.prog 6 #[.slice (some ⟨b, off, none⟩) zs.length c] w fun e w' => e = .returned (.int .u64 (orAll zs : Nat)) ∧ w = w' := by
  unfold maxLen at hlen
  go_enter Tryz.func6, Tryz.ntmps6
  go_wp2
  go_loop [3, 8] (fun t i => ∃ k : Nat, k ≤ zs.length ∧ i = .int .i64 k ∧ t = .int .u64 (orAll (zs.take k) : Nat))
    (fun _ i => zs.length - (intOf i).toNat)
  case atStart => exact ⟨0, Nat.zero_le _, rfl, by simp [orAll]⟩
  case round =>
    obtain ⟨k, hk, rfl, rfl⟩ := hrel
    by_cases hlt : k < zs.length
    · have hcell := hc k hlt
      have hb1 : orAll (zs.take k) < 18446744073709551616 := orAll_lt _ (fun z hz' => hz z (List.mem_of_mem_take hz'))
      have hb2 : zs.getD k 0 < 18446744073709551616 := hz _ (by simp [hlt])
      have HO := Lib.hid (bits_or_u64_nat _ _ hb1 hb2)
      have HS := Lib.hid (take_snoc_getD zs k hlt)
      clear hb1 hb2
      go_wp2
      go_round
      case rel => exact ⟨k + 1, by omega, by go_num, by rw [HS.out, orAll_snoc, ← HO.out]; simp [hlt]⟩
      case measure => simp [intOf]; omega
    · go_wp2
      go_ret
      exact ⟨by rw [List.take_of_length_le (by omega)]; rfl, rfl⟩

theorem join_none (p : Option Addr) (c : Nat) (w : World) :
    Calls Tryz.prog 6 #[.slice p 0 c] w fun e w' => e = .returned (.int .u64 0) ∧ w = w' := by
  go_enter Tryz.func6, Tryz.ntmps6
  go_wp2
  refine wp_loop_rounds 1 ?_
  rw [rounds_succ]
  go_wp2
  go_ret
  exact ⟨rfl, rfl⟩

def ofStep (a : Nat) (k : Int) : Nat := if 0 ≤ k ∧ k < 64 then a ||| 2 ^ k.toNat else a
def ofInts (zs : List Int) : Nat := zs.foldl ofStep 0
theorem ofInts_snoc (zs : List Int) (x : Int) : ofInts (zs ++ [x]) = ofStep (ofInts zs) x := by simp [ofInts]
theorem pow_lt64 (n : Nat) (h : n < 64) : 2 ^ n < 18446744073709551616 := Nat.pow_lt_pow_right (a := 2) (m := n) (n := 64) (by omega) h
theorem ofStep_lt (a : Nat) (k : Int) (ha : a < 18446744073709551616) : ofStep a k < 18446744073709551616 := by
  unfold ofStep
  split
  · exact or_lt ha (pow_lt64 _ (by omega))
  · exact ha
theorem ofInts_lt (zs : List Int) : ofInts zs < 18446744073709551616 := by
  have : ∀ (l : List Int) (a : Nat), a < 18446744073709551616 → l.foldl ofStep a < 18446744073709551616 := by
    intro l
    induction l with
    | nil => intro a ha; exact ha
    | cons x l ih => intro a ha; exact ih _ (ofStep_lt a x ha)
  exact this zs 0 (by omega)
theorem take_snoc_int (zs : List Int) (k : Nat) (h : k < zs.length) : zs.take (k + 1) = zs.take k ++ [zs.getD k 0] := by
  rw [List.take_succ_eq_append_getElem h]; simp [h]

theorem pow_wrap (n : Nat) (h : n < 64) : IntKind.u64.wrap ((2 : Int) ^ n) = ((2 ^ n : Nat) : Int) := by
  have : ((2 : Int) ^ n) = ((2 ^ n : Nat) : Int) := by push_cast; rfl
  rw [this]
  exact cast_wrap _ (pow_lt64 n h)

set_option maxHeartbeats 400000 in
theorem of_any (b off c : Nat) (zs : List Int) (hlen : zs.length ≤ maxLen) (w : World)
    (hc : ∀ i, i < zs.length → w.cell? ⟨b, off + i, none⟩ = some (.int .i64 (zs.getD i 0))) :
    Calls Tryz.prog 7 #[.slice (some ⟨b, off, none⟩) zs.length c] w fun e w' => e = .returned (.int .u64 (ofInts zs : Nat)) ∧ w = w' := by
  unfold maxLen at hlen
  go_enter Tryz.func7, Tryz.ntmps7
  go_wp2
  go_loop [3, 8] (fun t i => ∃ k : Nat, k ≤ zs.length ∧ i = .int .i64 k ∧ t = .int .u64 (ofInts (zs.take k) : Nat))
    (fun _ i => zs.length - (intOf i).toNat)
  case atStart => exact ⟨0, Nat.zero_le _, rfl, by simp [ofInts]⟩
  case round =>
    obtain ⟨k, hk, rfl, rfl⟩ := hrel
    by_cases hlt : k < zs.length
    · obtain ⟨x, hx⟩ : ∃ x, zs.getD k 0 = x := ⟨_, rfl⟩
      have hcell := hc k hlt
      rw [hx] at hcell
      have HS := Lib.hid (take_snoc_int zs k hlt)
      have HX := Lib.hid hx
      clear hx hc
      have hb := ofInts_lt (zs.take k)
      by_cases hr : 0 ≤ x ∧ x < 64
      · obtain ⟨h0, h1⟩ := hr
        have HO := Lib.hid (bits_or_u64_nat _ _ hb (pow_lt64 x.toNat (by omega)))
        clear hb
        have HW := Lib.hid (pow_wrap x.toNat (by omega))
        go_wp2
        go_round
        case rel => exact ⟨k + 1, by omega, by go_num, by rw [HS.out, HX.out, ofInts_snoc, ofStep, if_pos ⟨h0, h1⟩, ← HO.out, HW.out]⟩
        case measure => simp [intOf]; omega
      · clear hb
        by_cases h0 : 0 ≤ x
        · have h1 : ¬ x < 64 := fun h => hr ⟨h0, h⟩
          have HR := Lib.hid hr
          clear hr
          go_wp2
          go_round
          case rel => exact ⟨k + 1, by omega, by go_num, by rw [HS.out, HX.out, ofInts_snoc, ofStep, if_neg HR.out]⟩
          case measure => simp [intOf]; omega
        · have HR := Lib.hid hr
          clear hr
          go_wp2
          go_round
          case rel => exact ⟨k + 1, by omega, by go_num, by rw [HS.out, HX.out, ofInts_snoc, ofStep, if_neg HR.out]⟩
          case measure => simp [intOf]; omega
    · go_wp2
      go_ret
      exact ⟨by rw [List.take_of_length_le (by omega)]; rfl, rfl⟩
end Go.Proofs.YthmcckdoneiglaaGreatDoor
