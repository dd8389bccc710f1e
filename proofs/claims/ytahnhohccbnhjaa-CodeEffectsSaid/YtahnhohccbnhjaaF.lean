/- PutSigned of the document's answer, in every memory. -/
import Derived.Test.YtahnhohccbnhjaaE
namespace Go.Proofs.Ytahnhohccbnhjaa
open Go Go.RowKit

theorem shrS (n : Int) (k : Nat) : n / 2 ^ (7 * k) = n / 128 ^ k := by
  congr 1
  rw [Int.pow_mul]; rfl
theorem and127 (y : Int) : bits .and .u8 (y % 256) 127 = (((y % 128).toNat : Nat) : Int) := by
  have := u8_and_nat (y % 256).toNat 127 (by omega) (by omega)
  rw [show (((y % 256).toNat : Nat) : Int) = y % 256 from by omega, show ((127 : Nat) : Int) = 127 from rfl] at this
  rw [this]
  congr 1
  rw [nat_mask7]
  omega

/-- What k groups can hold. -/
def fitsV (n : Int) (k : Nat) : Prop := 10 ≤ k ∨ (-(64 * 128 ^ (k - 1) : Int) ≤ n ∧ n < 64 * 128 ^ (k - 1))
instance (n : Int) (k : Nat) : Decidable (fitsV n k) := by unfold fitsV; exact inferInstance

set_option maxRecDepth 100000 in
theorem fits_any (n : Int) (hn1 : -9223372036854775808 ≤ n) (hn2 : n < 9223372036854775808) (k : Nat) (hk : 1 ≤ k) (hk1 : k ≤ 10) (w : World) :
    Calls Try.prog 54 #[.int .i64 n, .int .i64 (k : Int)] w fun e w' => e = .returned (.bool (decide (fitsV n k))) ∧ w = w' := by
  by_cases h10 : k = 10
  · subst h10
    have hd : decide (fitsV n 10) = true := decide_eq_true (.inl (by omega))
    rw [hd]
    go_enter Try.func54, Try.ntmps54
    go_wp2
    go_ret
    exact ⟨rfl, rfl⟩
  · have key : ∀ (j : Nat) (H : Int), (64 * 128 ^ (j - 1) : Int) = H → j < 10 → decide (fitsV n j) = (decide (-H ≤ n) && decide (n < H)) := by
      intro j H hH hj
      rw [← hH, Bool.eq_iff_iff, decide_eq_true_iff, Bool.and_eq_true, decide_eq_true_iff, decide_eq_true_iff]
      unfold fitsV
      omega
    have : k = 1 ∨ k = 2 ∨ k = 3 ∨ k = 4 ∨ k = 5 ∨ k = 6 ∨ k = 7 ∨ k = 8 ∨ k = 9 := by omega
    rcases this with rfl | rfl | rfl | rfl | rfl | rfl | rfl | rfl | rfl
    · rw [key 1 64 (by decide) (by omega)]
      clear key
      go_enter Try.func54, Try.ntmps54
      go_wp2
      · have h1 : -64 ≤ n := by omega
        go_ret
        rw [decide_eq_true h1]
        exact ⟨rfl, rfl⟩
      · have h1 : ¬ -64 ≤ n := by omega
        go_ret
        rw [decide_eq_false h1]
        exact ⟨rfl, rfl⟩
    · rw [key 2 8192 (by decide) (by omega)]
      clear key
      go_enter Try.func54, Try.ntmps54
      go_wp2
      · have h1 : -8192 ≤ n := by omega
        go_ret
        rw [decide_eq_true h1]
        exact ⟨rfl, rfl⟩
      · have h1 : ¬ -8192 ≤ n := by omega
        go_ret
        rw [decide_eq_false h1]
        exact ⟨rfl, rfl⟩
    · rw [key 3 1048576 (by decide) (by omega)]
      clear key
      go_enter Try.func54, Try.ntmps54
      go_wp2
      · have h1 : -1048576 ≤ n := by omega
        go_ret
        rw [decide_eq_true h1]
        exact ⟨rfl, rfl⟩
      · have h1 : ¬ -1048576 ≤ n := by omega
        go_ret
        rw [decide_eq_false h1]
        exact ⟨rfl, rfl⟩
    · rw [key 4 134217728 (by decide) (by omega)]
      clear key
      go_enter Try.func54, Try.ntmps54
      go_wp2
      · have h1 : -134217728 ≤ n := by omega
        go_ret
        rw [decide_eq_true h1]
        exact ⟨rfl, rfl⟩
      · have h1 : ¬ -134217728 ≤ n := by omega
        go_ret
        rw [decide_eq_false h1]
        exact ⟨rfl, rfl⟩
    · rw [key 5 17179869184 (by decide) (by omega)]
      clear key
      go_enter Try.func54, Try.ntmps54
      go_wp2
      · have h1 : -17179869184 ≤ n := by omega
        go_ret
        rw [decide_eq_true h1]
        exact ⟨rfl, rfl⟩
      · have h1 : ¬ -17179869184 ≤ n := by omega
        go_ret
        rw [decide_eq_false h1]
        exact ⟨rfl, rfl⟩
    · rw [key 6 2199023255552 (by decide) (by omega)]
      clear key
      go_enter Try.func54, Try.ntmps54
      go_wp2
      · have h1 : -2199023255552 ≤ n := by omega
        go_ret
        rw [decide_eq_true h1]
        exact ⟨rfl, rfl⟩
      · have h1 : ¬ -2199023255552 ≤ n := by omega
        go_ret
        rw [decide_eq_false h1]
        exact ⟨rfl, rfl⟩
    · rw [key 7 281474976710656 (by decide) (by omega)]
      clear key
      go_enter Try.func54, Try.ntmps54
      go_wp2
      · have h1 : -281474976710656 ≤ n := by omega
        go_ret
        rw [decide_eq_true h1]
        exact ⟨rfl, rfl⟩
      · have h1 : ¬ -281474976710656 ≤ n := by omega
        go_ret
        rw [decide_eq_false h1]
        exact ⟨rfl, rfl⟩
    · rw [key 8 36028797018963968 (by decide) (by omega)]
      clear key
      go_enter Try.func54, Try.ntmps54
      go_wp2
      · have h1 : -36028797018963968 ≤ n := by omega
        go_ret
        rw [decide_eq_true h1]
        exact ⟨rfl, rfl⟩
      · have h1 : ¬ -36028797018963968 ≤ n := by omega
        go_ret
        rw [decide_eq_false h1]
        exact ⟨rfl, rfl⟩
    · rw [key 9 4611686018427387904 (by decide) (by omega)]
      clear key
      go_enter Try.func54, Try.ntmps54
      go_wp2
      · have h1 : -4611686018427387904 ≤ n := by omega
        go_ret
        rw [decide_eq_true h1]
        exact ⟨rfl, rfl⟩
      · have h1 : ¬ -4611686018427387904 ≤ n := by omega
        go_ret
        rw [decide_eq_false h1]
        exact ⟨rfl, rfl⟩

set_option maxRecDepth 100000 in
set_option maxHeartbeats 1000000 in
theorem refPutSigned_any (n : Int) (hn1 : -9223372036854775808 ≤ n) (hn2 : n < 9223372036854775808) (w : World) :
    Calls Try.prog 36 #[.int .i64 n] w fun e w' => ∃ v, e = .returned v ∧ OwnB w.heap.size w' v (putS n) ∧ Below w.heap.size w w' := by
  have h10 := putS_ten hn1 hn2
  go_enter Try.func36, Try.ntmps36
  go_wp2
  go_loop [3] (fun i => ∃ k : Nat, 1 ≤ k ∧ k ≤ 10 ∧ (k = 1 ∨ ¬ fitsV n (k - 1)) ∧ i = .int .i64 k) (fun i => 10 - (intOf i).toNat)
  case atStart => exact ⟨1, by omega, by omega, .inl rfl, rfl⟩
  case round =>
    obtain ⟨k, hk, hk1, hlow, rfl⟩ := hrel
    have hf := fits_any n hn1 hn2 k hk hk1 w
    by_cases hgo : fitsV n k
    · have hlen : (putS n).length = k := by
        have h1 : k - 1 < (putS n).length := by
          rcases hlow with rfl | h
          · exact List.length_pos_iff.2 (putS_ne n)
          · rcases Nat.lt_or_ge 1 k with h2 | h2
            · have := putS_length_gt n (k - 1 - 1) (by
                unfold fitsV at h
                rcases Int.lt_or_le n (-(64 * 128 ^ (k - 1 - 1) : Int)) with h3 | h3
                · exact .inl h3
                · refine .inr ?_
                  rcases Int.lt_or_le n (64 * 128 ^ (k - 1 - 1) : Int) with h4 | h4
                  · exact absurd (.inr ⟨h3, h4⟩) h
                  · exact h4)
              omega
            · have := List.length_pos_iff.2 (putS_ne n)
              omega
        rcases hgo with h9 | ⟨h3, h4⟩
        · omega
        · have := putS_length_le n (k - 1) h3 h4
          omega
      have HL := Lib.hid hlen
      rw [decide_eq_true hgo] at hf
      have HF := Lib.hid hf
      clear hlen hgo hlow hf
      go_wp2_with fail
      refine HF.out.mono ?_
      rintro e w' ⟨rfl, rfl⟩
      go_wp2
      go_loopw [4, 5] (fun b i wr => ∃ j : Nat, j ≤ k ∧ i = .int .i64 j ∧ OwnB w.heap.size wr b ((putS n).take j) ∧ Below w.heap.size w wr) (fun _ i _ => k - (intOf i).toNat)
      case atStart => exact ⟨0, Nat.zero_le _, rfl, World.ownsRow_nil _ _ _ _, Below.refl _ _⟩
      case round =>
        obtain ⟨j, hj, rfl, hO, hB⟩ := hrel
        obtain ⟨q, c, rfl⟩ := hO.slice
        by_cases hjk : j < k
        · have hat := putS_at n j (by rw [HL.out]; exact hjk)
          rw [HL.out] at hat
          have hji : (j : Int) < (k : Int) := by omega
          have hsh2 := shrS n j
          generalize n / 128 ^ j = y at hat hsh2
          have hc1 := and127 y
          have hx : (y % 128).toNat < 128 := by omega
          generalize (y % 128).toNat = x at hat hc1 hx
          have hx' : (x : Int) < 128 := by omega
          have HM := Lib.hid (show ((putS n).take j).length = j by rw [List.length_take, HL.out]; omega)
          by_cases hj1 : j + 1 < k
          · rw [if_pos hj1] at hat
            have hnext := take_next hat
            have hj1' : (j : Int) + 1 < (k : Int) := by omega
            obtain ⟨z, hz⟩ : ∃ z, x + 128 = z := ⟨_, rfl⟩
            rw [hz] at hnext
            have hz' : (x : Int) + 128 = (z : Int) := by omega
            clear hat hz
            generalize (putS n).take j = m at hO hnext HM
            have hA := hO.alloc (.cells #[.int .u8 (z : Int)] 5)
            have hBA : Below w.heap.size wr (wr.alloc (.cells #[.int .u8 (z : Int)] 5)) := (Below.refl _ _).alloc hB.size _
            clear hO
            go_wp2_with (at_builtin; refine wpList_bytes rfl _ _ rfl w.heap.size _ m rfl hA ⟨_, 0, none⟩ 1 [z] rfl (one_cells _ _) (by have := HM.out; simp; omega) (by have := hB.size; simp; omega) ?_)
            intro v2 w2 hO2 hgr _
            have hB2 : Below w.heap.size w w2 := hB.trans (hBA.trans (below_own hgr (by have := hB.size; simp; omega) (fun t ht => (hA.lt t ht).1)))
            rw [← hnext] at hO2
            have HO := Lib.hid (And.intro hO2 hB2)
            clear hO2 hB2 hA hBA hgr hnext hB
            go_wp2
            exact ⟨⟨j + 1, by omega, by go_num, HO.out⟩, by simp [intOf]; omega⟩
          · rw [if_neg hj1] at hat
            have hnext := take_next hat
            rw [show x + 0 = x from rfl] at hnext
            have hjn : ¬ (j : Int) + 1 < (k : Int) := by omega
            clear hat
            generalize (putS n).take j = m at hO hnext HM
            have hA := hO.alloc (.cells #[.int .u8 (x : Int)] 5)
            have hBA : Below w.heap.size wr (wr.alloc (.cells #[.int .u8 (x : Int)] 5)) := (Below.refl _ _).alloc hB.size _
            clear hO
            go_wp2_with (at_builtin; refine wpList_bytes rfl _ _ rfl w.heap.size _ m rfl hA ⟨_, 0, none⟩ 1 [x] rfl (one_cells _ _) (by have := HM.out; simp; omega) (by have := hB.size; simp; omega) ?_)
            intro v2 w2 hO2 hgr _
            have hB2 : Below w.heap.size w w2 := hB.trans (hBA.trans (below_own hgr (by have := hB.size; simp; omega) (fun t ht => (hA.lt t ht).1)))
            rw [← hnext] at hO2
            have HO := Lib.hid (And.intro hO2 hB2)
            clear hO2 hB2 hA hBA hgr hnext hB
            go_wp2
            exact ⟨⟨j + 1, by omega, by go_num, HO.out⟩, by simp [intOf]; omega⟩
        · have hji : ¬ (j : Int) < (k : Int) := by omega
          have ht : (putS n).take j = putS n := List.take_of_length_le (by rw [HL.out]; omega)
          rw [ht] at hO ⊢
          have HO := Lib.hid (And.intro hO hB)
          clear hO hB ht
          go_wp2
          go_ret
          exact ⟨_, rfl, HO.out⟩

    · rw [decide_eq_false hgo] at hf
      have HF := Lib.hid (And.intro hf hgo)
      have hk9 : k < 10 := by
        rcases Nat.lt_or_ge k 10 with h | h
        · exact h
        · exact absurd (.inl h) hgo
      clear hf hgo hlow
      go_wp2_with fail
      refine HF.out.1.mono ?_
      rintro e w' ⟨rfl, rfl⟩
      go_wp2
      exact ⟨⟨k + 1, by omega, by omega, .inr (by simpa using HF.out.2), by go_num⟩, by simp [intOf]; omega⟩
end Go.Proofs.Ytahnhohccbnhjaa
