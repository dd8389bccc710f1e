/- Contracts of the small calls on names of package bits. -/
import Derived.Test.YthmcckdoneiglaaGreatDoorC
import Derived.Test.YthmcckdoneiglaaGreatDoorStr
import Derived.BigQuiet
import Derived.Deep.QuietTactic
import Derived.Test.YthmcckdoneiglaaGreatDoorShelf
namespace Go.Proofs.YthmcckdoneiglaaGreatDoor
open Go Go.RowKit

theorem ret_bool {a b : Bool} (h : a = b) : Ending.returned (.bool a) = .returned (.bool b) := by rw [h]
theorem ret_str {a b : ByteArray} (h : a = b) : Ending.returned (.string a) = .returned (.string b) := by rw [h]

theorem dig_any (c : UInt8) (w : World) :
    Calls Tryz.prog 64 #[.int .u8 (c.toNat : Int)] w fun e w' => e = .returned (.bool (digB c)) ∧ w = w' := by
  by_cases h1 : 48 ≤ c.toNat
  · go_enter Tryz.func64, Tryz.ntmps64
    go_wp2
    go_ret
    exact ⟨ret_bool (by simp [digB, h1]; omega), rfl⟩
  · go_enter Tryz.func64, Tryz.ntmps64
    go_wp2
    go_ret
    exact ⟨ret_bool (by simp [digB, h1]), rfl⟩

theorem let_any (c : UInt8) (w : World) :
    Calls Tryz.prog 65 #[.int .u8 (c.toNat : Int)] w fun e w' => e = .returned (.bool (letB c)) ∧ w = w' := by
  by_cases h1 : 97 ≤ c.toNat
  · by_cases h2 : c.toNat ≤ 122
    · have h2' : decide ((c.toNat : Int) ≤ 122) = true := by simp; omega
      go_enter Tryz.func65, Tryz.ntmps65
      go_wp2
      go_ret
      exact ⟨ret_bool (by simp [letB, h1, h2]), rfl⟩
    · have h2' : decide ((c.toNat : Int) ≤ 122) = false := by simp; omega
      go_enter Tryz.func65, Tryz.ntmps65
      go_wp2
      go_ret
      exact ⟨ret_bool (by rw [Bool.eq_iff_iff]; simp [letB, h2]; omega), rfl⟩
  · go_enter Tryz.func65, Tryz.ntmps65
    go_wp2
    go_ret
    exact ⟨ret_bool (by rw [Bool.eq_iff_iff]; simp [letB, h1]; omega), rfl⟩

set_option maxHeartbeats 1000000 in
theorem wf_any (s : ByteArray) (hs : s.size ≤ maxLen) (w : World) :
    Calls Tryz.prog 46 #[.string s] w fun e w' => e = .returned (.bool (wfB s.data.toList)) ∧ w = w' := by
  unfold maxLen at hs
  have hsz : s.data.toList.length = s.size := (Lib.size_eq s).symm
  by_cases h0 : s.size < 1
  · have hw := Lib.hid (wfB_nil (l := s.data.toList) (by omega))
    go_enter Tryz.func46, Tryz.ntmps46
    go_wp2
    go_ret
    exact ⟨ret_bool hw.out.symm, rfl⟩
  by_cases h1 : 32 < s.size
  · have hw := Lib.hid (wfB_long (l := s.data.toList) (by omega))
    go_enter Tryz.func46, Tryz.ntmps46
    go_wp2
    go_ret
    exact ⟨ret_bool hw.out.symm, rfl⟩
  have h00 : 0 < s.size := by omega
  have hd := dig_any (s[0]) w
  by_cases h2 : digB (s[0]) = true
  · have hw := Lib.hid (wfB_dig (l := s.data.toList) (by omega) h2)
    rw [h2] at hd
    go_enter Tryz.func46, Tryz.ntmps46
    go_wp2_with (go_at_call 64; refine hd.mono ?_; rintro e w' ⟨rfl, rfl⟩)
    go_ret
    exact ⟨ret_bool hw.out.symm, rfl⟩
  · have h2' : digB (s[0]) = false := by simpa using h2
    rw [h2'] at hd
    have H2 := Lib.hid h2'
    have HSZ := Lib.hid hsz
    clear h2 h2' hsz
    go_enter Tryz.func46, Tryz.ntmps46
    go_wp2_with (go_at_call 64; refine hd.mono ?_; rintro e w' ⟨rfl, rfl⟩)
    clear hd
    go_loop [19] (fun i => ∃ k : Nat, k ≤ s.size ∧ i = .int .i64 k ∧ Hid ((s.data.toList.take k).all okB = true)) (fun i => s.size - (intOf i).toNat)
    case atStart => exact ⟨0, Nat.zero_le _, rfl, Lib.hid (by simp)⟩
    case round =>
      obtain ⟨k, hk, rfl, HA⟩ := hrel
      by_cases hlt : k < s.size
      · have hl := let_any (s[k]) w
        have hd := dig_any (s[k]) w
        have hlen : k < s.data.toList.length := by rw [HSZ.out]; exact hlt
        cases hl1 : letB (s[k]) with
        | true =>
          rw [hl1] at hl
          have HN := Lib.hid (all_take_snoc hlen HA.out (show okB (s[k]) = true by simp [okB, hl1]))
          clear hl1 hlen
          go_wp2_with (first | (go_at_call 65; refine hl.mono ?_; rintro e w' ⟨rfl, rfl⟩) | (go_at_call 64; refine hd.mono ?_; rintro e w' ⟨rfl, rfl⟩))
          go_round
          case rel => exact ⟨k + 1, by omega, by go_num, HN⟩
          case measure => simp [intOf]; omega
        | false =>
          rw [hl1] at hl
          cases hd1 : digB (s[k]) with
          | true =>
            rw [hd1] at hd
            have HN := Lib.hid (all_take_snoc hlen HA.out (show okB (s[k]) = true by simp [okB, hd1]))
            clear hl1 hd1 hlen
            go_wp2_with (first | (go_at_call 65; refine hl.mono ?_; rintro e w' ⟨rfl, rfl⟩) | (go_at_call 64; refine hd.mono ?_; rintro e w' ⟨rfl, rfl⟩))
            go_round
            case rel => exact ⟨k + 1, by omega, by go_num, HN⟩
            case measure => simp [intOf]; omega
          | false =>
            rw [hd1] at hd
            have HN := Lib.hid (wfB_bad (l := s.data.toList) hlen (show okB (s[k]) = false by simp [okB, hl1, hd1]))
            clear hl1 hd1 hlen
            go_wp2_with (first | (go_at_call 65; refine hl.mono ?_; rintro e w' ⟨rfl, rfl⟩) | (go_at_call 64; refine hd.mono ?_; rintro e w' ⟨rfl, rfl⟩))
            go_ret
            exact ⟨ret_bool HN.out.symm, rfl⟩
      · have HN := Lib.hid (wfB_good (l := s.data.toList) (by rw [HSZ.out]; omega) (by rw [HSZ.out]; omega) H2.out (by have := HA.out; rwa [List.take_of_length_le (by rw [HSZ.out]; omega)] at this))
        go_wp2
        go_ret
        exact ⟨ret_bool HN.out.symm, rfl⟩
end Go.Proofs.YthmcckdoneiglaaGreatDoor
