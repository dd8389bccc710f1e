/- Join and Of of the document's answer, in every memory. -/
import Derived.Test.YthmcckdoneiglaaGreatDoorSetR
namespace Go.Proofs.YthmcckdoneiglaaGreatDoor
open Go Go.RowKit

theorem orAll_bit (zs : List Nat) (k : Nat) : (orAll zs).testBit k = zs.any (fun z => z.testBit k) := by
  have h : ∀ (l : List Nat) (a : Nat), (l.foldl (· ||| ·) a).testBit k = (a.testBit k || l.any (fun z => z.testBit k)) := by
    intro l
    induction l with
    | nil => intro a; simp
    | cons z l ih =>
      intro a
      rw [List.foldl_cons, ih, Nat.testBit_or, List.any_cons, Bool.or_assoc]
  have := h zs 0
  rw [Nat.zero_testBit, Bool.false_or] at this
  exact this

theorem take_any_snoc {α : Type} (zs : List α) (d : α) (p : α → Bool) (i : Nat) (h : i < zs.length) : (zs.take (i + 1)).any p = ((zs.take i).any p || p (zs.getD i d)) := by
  rw [List.take_succ_eq_append_getElem h, List.any_append]
  simp [h]

theorem or_again (M k : Nat) : (M ||| 2 ^ k) ||| 2 ^ k = M ||| 2 ^ k := by rw [Nat.or_assoc, Nat.or_self]

/-- The accumulated label while one principal is asked for. -/
def accB (M k : Nat) (b : Bool) : Nat := if b then M ||| 2 ^ k else M
theorem accB_lt {M k : Nat} (b : Bool) (hM : M < 18446744073709551616) (hk : k < 64) : accB M k b < 18446744073709551616 := by
  unfold accB; split
  · exact or_lt hM (pow_lt64 k hk)
  · exact hM
theorem accB_or (M k : Nat) (b : Bool) : accB M k b ||| 2 ^ k = accB M k (b || true) := by
  cases b
  · rfl
  · exact or_again M k

set_option maxRecDepth 100000 in
set_option maxHeartbeats 1000000 in
theorem refjoin_any (p : Option Addr) (c : Nat) (zs : List Nat) (hz : ∀ z ∈ zs, z < 18446744073709551616) (hlen : zs.length ≤ maxLen) (w : World)
    (hc : ∀ i, i < zs.length → ∃ b off, p = some ⟨b, off, none⟩ ∧ w.cell? ⟨b, off + i, none⟩ = some (.int .u64 ((zs.getD i 0 : Nat) : Int))) (hN : orAll zs < 18446744073709551616) :
    Calls Tryz.prog 8 #[.slice p zs.length c] w fun e w' => e = .returned (.int .u64 ((orAll zs : Nat) : Int)) ∧ w = w' := by
  unfold maxLen at hlen
  obtain ⟨N, hNN⟩ : ∃ N, orAll zs = N := ⟨_, rfl⟩
  have hbit : ∀ k, N.testBit k = zs.any (fun z => z.testBit k) := fun k => by rw [← hNN]; exact orAll_bit zs k
  rw [hNN] at hN ⊢
  clear hNN
  have HB := Lib.hid hbit
  clear hbit
  obtain ⟨n, hn⟩ : ∃ n, zs.length = n := ⟨_, rfl⟩
  have HC := Lib.hid (show ∀ i, i < n → ∃ b off, p = some ⟨b, off, none⟩ ∧ w.cell? ⟨b, off + i, none⟩ = some (.int .u64 ((zs.getD i 0 : Nat) : Int)) from fun i hi => hc i (by omega))
  have HZ := Lib.hid (show ∀ i, i < n → zs.getD i 0 < 18446744073709551616 from fun i hi => hz _ (by rw [List.getD_eq_getElem?_getD, List.getElem?_eq_getElem (by omega)]; exact List.getElem_mem _))
  have HT := Lib.hid (show ∀ (q : Nat → Bool) i, i < n → (zs.take (i + 1)).any q = ((zs.take i).any q || q (zs.getD i 0)) from fun q i hi => take_any_snoc zs 0 q i (by omega))
  have HA := Lib.hid (show zs.take n = zs from List.take_of_length_le (by omega))
  rw [hn] at hlen ⊢
  clear hn hc hz
  go_enter Tryz.func8, Tryz.ntmps8
  go_wp2
  go_loop [3, 4] (fun a x => ∃ k M : Nat, k ≤ 64 ∧ x = .int .i64 k ∧ a = .int .u64 (M : Int) ∧ M < 18446744073709551616 ∧ Hid (M = N % 2 ^ k)) (fun _ x => 64 - (intOf x).toNat)
  case atStart => exact ⟨0, 0, by omega, rfl, rfl, by omega, Lib.hid (by simp [Nat.mod_one])⟩
  case round =>
    obtain ⟨k, M, hk, rfl, rfl, hM, HMM⟩ := hrel
    by_cases hlt : k < 64
    · have hki : (k : Int) < 64 := by omega
      go_wp2
      go_loop [3, 5] (fun a x => ∃ (i : Nat) (b : Bool), i ≤ n ∧ x = .int .i64 i ∧ a = .int .u64 (accB M k b : Int) ∧ Hid (b = (zs.take i).any (fun z => z.testBit k))) (fun _ x => n - (intOf x).toNat)
      case atStart => exact ⟨0, false, Nat.zero_le _, rfl, rfl, Lib.hid (by simp)⟩
      case round =>
        obtain ⟨i, b, hi, rfl, rfl, HI⟩ := hrel
        by_cases hil : i < n
        · obtain ⟨bb, off, rfl, hcell⟩ := HC.out i hil
          have hzi := HZ.out i hil
          have hh := has_any (zs.getD i 0) k hzi hlt w
          have hs := HT.out (fun z => z.testBit k) i hil
          have hii : (i : Int) < (n : Int) := by omega
          generalize zs.getD i 0 = z at hcell hh hs hzi
          have hor := Lib.hid (bits_or_u64_nat _ _ (accB_lt b hM hlt) (pow_lt64 k hlt))
          have hpw := Lib.hid (pow_wrap k hlt)
          cases ht : z.testBit k with
          | true =>
            rw [ht] at hh
            have HX := Lib.hid (show (b || true) = (zs.take (i + 1)).any (fun z => z.testBit k) from by rw [hs, HI.out]; simp [ht])
            clear hs ht
            have hac := Lib.hid (accB_or M k b)
            generalize accB M k b = A at hor hac ⊢
            go_wp2_with fail
            refine hh.mono ?_
            rintro e w' ⟨rfl, rfl⟩
            go_wp2_with fail
            rw [hpw.out, hor.out]
            exact ⟨⟨i + 1, b || true, by omega, by go_num, by rw [hac.out], HX⟩, by simp [intOf]; omega⟩
          | false =>
            rw [ht] at hh
            have HX := Lib.hid (show b = (zs.take (i + 1)).any (fun z => z.testBit k) from by rw [hs, HI.out]; simp [ht])
            clear hs ht
            go_wp2_with fail
            refine hh.mono ?_
            rintro e w' ⟨rfl, rfl⟩
            go_wp2_with fail
            exact ⟨⟨i + 1, b, by omega, by go_num, rfl, HX⟩, by simp [intOf]; omega⟩
        · obtain rfl : i = n := by omega
          have hb : b = N.testBit k := by rw [HI.out, HA.out, HB.out k]
          have hnext : accB M k b = N % 2 ^ (k + 1) := by
            rw [mod_bit, ← HMM.out, hb]
            unfold accB
            cases N.testBit k <;> simp
          have HX := Lib.hid hnext
          have hlt2 := accB_lt b hM hlt
          clear hb hnext
          generalize accB M k b = A at HX hlt2 ⊢
          go_wp2
          exact ⟨⟨k + 1, A, by omega, by go_num, rfl, hlt2, HX⟩, by simp [intOf]; omega⟩
    · obtain rfl : k = 64 := by omega
      obtain rfl : M = N := by rw [HMM.out, mod_all hN]
      go_wp2
      go_ret
      exact ⟨rfl, rfl⟩

theorem ofInts_bit (zs : List Int) (k : Nat) (hk : k < 64) : (ofInts zs).testBit k = zs.any (fun z => z == (k : Int)) := by
  have h : ∀ (l : List Int) (a : Nat), (l.foldl ofStep a).testBit k = (a.testBit k || l.any (fun z => z == (k : Int))) := by
    intro l
    induction l with
    | nil => intro a; simp
    | cons z l ih =>
      intro a
      rw [List.foldl_cons, ih, List.any_cons, ← Bool.or_assoc]
      congr 1
      unfold ofStep
      split
      · rename_i hz
        rw [Nat.testBit_or, Nat.testBit_two_pow]
        congr 1
        rw [Bool.eq_iff_iff, decide_eq_true_eq, beq_iff_eq]
        omega
      · rename_i hz
        have : (z == (k : Int)) = false := by simp; omega
        rw [this, Bool.or_false]
  have := h zs 0
  rw [Nat.zero_testBit, Bool.false_or] at this
  exact this

set_option maxRecDepth 100000 in
set_option maxHeartbeats 1000000 in
theorem refof_any (p : Option Addr) (c : Nat) (zs : List Int) (hlen : zs.length ≤ maxLen) (w : World)
    (hc : ∀ i, i < zs.length → ∃ b off, p = some ⟨b, off, none⟩ ∧ w.cell? ⟨b, off + i, none⟩ = some (.int .i64 (zs.getD i 0))):
    Calls Tryz.prog 9 #[.slice p zs.length c] w fun e w' => e = .returned (.int .u64 ((ofInts zs : Nat) : Int)) ∧ w = w' := by
  unfold maxLen at hlen
  obtain ⟨N, hNN⟩ : ∃ N, ofInts zs = N := ⟨_, rfl⟩
  have hN := ofInts_lt zs
  have hbit : ∀ k, k < 64 → N.testBit k = zs.any (fun z => z == (k : Int)) := fun k hk => by rw [← hNN]; exact ofInts_bit zs k hk
  rw [hNN] at hN ⊢
  clear hNN
  have HB := Lib.hid hbit
  clear hbit
  obtain ⟨n, hn⟩ : ∃ n, zs.length = n := ⟨_, rfl⟩
  have HC := Lib.hid (show ∀ i, i < n → ∃ b off, p = some ⟨b, off, none⟩ ∧ w.cell? ⟨b, off + i, none⟩ = some (.int .i64 (zs.getD i 0)) from fun i hi => hc i (by omega))
  have HT := Lib.hid (show ∀ (q : Int → Bool) i, i < n → (zs.take (i + 1)).any q = ((zs.take i).any q || q (zs.getD i 0)) from fun q i hi => take_any_snoc zs 0 q i (by omega))
  have HA := Lib.hid (show zs.take n = zs from List.take_of_length_le (by omega))
  rw [hn] at hlen ⊢
  clear hn hc
  go_enter Tryz.func9, Tryz.ntmps9
  go_wp2
  go_loop [3, 4] (fun a x => ∃ k M : Nat, k ≤ 64 ∧ x = .int .i64 k ∧ a = .int .u64 (M : Int) ∧ M < 18446744073709551616 ∧ Hid (M = N % 2 ^ k)) (fun _ x => 64 - (intOf x).toNat)
  case atStart => exact ⟨0, 0, by omega, rfl, rfl, by omega, Lib.hid (by simp [Nat.mod_one])⟩
  case round =>
    obtain ⟨k, M, hk, rfl, rfl, hM, HMM⟩ := hrel
    by_cases hlt : k < 64
    · have hki : (k : Int) < 64 := by omega
      go_wp2
      go_loop [3, 5] (fun a x => ∃ (i : Nat) (b : Bool), i ≤ n ∧ x = .int .i64 i ∧ a = .int .u64 (accB M k b : Int) ∧ Hid (b = (zs.take i).any (fun z => z == (k : Int)))) (fun _ x => n - (intOf x).toNat)
      case atStart => exact ⟨0, false, Nat.zero_le _, rfl, rfl, Lib.hid (by simp)⟩
      case round =>
        obtain ⟨i, b, hi, rfl, rfl, HI⟩ := hrel
        by_cases hil : i < n
        · obtain ⟨bb, off, rfl, hcell⟩ := HC.out i hil
          have hs := HT.out (fun z => z == (k : Int)) i hil
          have hii : (i : Int) < (n : Int) := by omega
          generalize zs.getD i 0 = z at hcell hs
          have hor := Lib.hid (bits_or_u64_nat _ _ (accB_lt b hM hlt) (pow_lt64 k hlt))
          have hpw := Lib.hid (pow_wrap k hlt)
          cases ht : (z == (k : Int)) with
          | true =>
            have HX := Lib.hid (show (b || true) = (zs.take (i + 1)).any (fun z => z == (k : Int)) from by rw [hs, HI.out]; simp only [ht, Bool.or_true])
            clear hs
            have hac := Lib.hid (accB_or M k b)
            generalize accB M k b = A at hor hac ⊢
            go_wp2_with fail
            rw [hpw.out, hor.out]
            exact ⟨⟨i + 1, b || true, by omega, by go_num, by rw [hac.out], HX⟩, by simp [intOf]; omega⟩
          | false =>
            have HX := Lib.hid (show b = (zs.take (i + 1)).any (fun z => z == (k : Int)) from by rw [hs, HI.out]; simp only [ht, Bool.or_false])
            clear hs
            go_wp2_with fail
            exact ⟨⟨i + 1, b, by omega, by go_num, rfl, HX⟩, by simp [intOf]; omega⟩
        · obtain rfl : i = n := by omega
          have hb : b = N.testBit k := by rw [HI.out, HA.out, HB.out k hlt]
          have hnext : accB M k b = N % 2 ^ (k + 1) := by
            rw [mod_bit, ← HMM.out, hb]
            unfold accB
            cases N.testBit k <;> simp
          have HX := Lib.hid hnext
          have hlt2 := accB_lt b hM hlt
          clear hb hnext
          generalize accB M k b = A at HX hlt2 ⊢
          go_wp2
          exact ⟨⟨k + 1, A, by omega, by go_num, rfl, hlt2, HX⟩, by simp [intOf]; omega⟩
    · obtain rfl : k = 64 := by omega
      obtain rfl : M = N := by rw [HMM.out, mod_all hN]
      go_wp2
      go_ret
      exact ⟨rfl, rfl⟩
end Go.Proofs.YthmcckdoneiglaaGreatDoor
