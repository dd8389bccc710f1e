/- The document's own word and value: for every text and every memory. -/
import Derived.Test.YtnmcjkabihihiaaDoorD
import Derived.Test.YtnmcjkabihihiaaDoorF
namespace Go.Proofs.YtnmcjkabihihiaaDoor
open Go Go.RowKit

theorem bl_at (s : ByteArray) (a k : Nat) (h : a + k < s.size) : ((bl s).drop a)[k]? = some (s[a + k]).toNat := by
  rw [List.getElem?_drop]; exact bl_get s (a + k) h
theorem bl_cut (s : ByteArray) (a n : Nat) : bl (s.extract a (a + n)) = ((bl s).drop a).take n := by
  rw [bl_extract, List.drop_take, show a + n - a = n by omega]
theorem head_at (s : ByteArray) (a : Nat) (h : a < s.size) : (bl s).drop a = (s[a]).toNat :: (bl s).drop (a + 1) := by
  have h1 : a < (bl s).length := by rw [bl_length]; exact h
  have h2 := bl_get s a h
  rw [List.getElem?_eq_getElem h1] at h2
  rw [List.drop_eq_getElem_cons h1, Option.some.inj h2]
theorem run_stop_len {p : Nat → Bool} {s : ByteArray} {a k : Nat} (h : ∀ x ∈ ((bl s).drop a).take k, p x = true) (hk : a + k = s.size) : (((bl s).drop a).takeWhile p).length = k := by
  have hl : ((bl s).drop a).length = k := by rw [List.length_drop, bl_length]; omega
  rw [← hl] at h ⊢
  exact run_end _ h

/-- What the document's word answers. -/
def WordRes (l : List Nat) (W : World) (e : Ending) (W' : World) : Prop := e = .returned (.tuple #[.int .i64 (((wordL l).1 : Nat) : Int), .int .i64 (((wordL l).2 : Nat) : Int)]) ∧ Below W.heap.size W W'

theorem ret_two {a b c d : Int} (h1 : a = c) (h2 : b = d) : Ending.returned (.tuple #[.int .i64 a, .int .i64 b]) = .returned (.tuple #[.int .i64 c, .int .i64 d]) := by rw [h1, h2]
set_option maxRecDepth 100000 in
set_option maxHeartbeats 1000000 in
theorem word_letter (s : ByteArray) (a : Nat) (ha : a < s.size) (hs : s.size ≤ 9223372036854775800) (hl : letterB (s[a]).toNat = true) (w : World) : Calls Tryd.prog 41 #[.string s, .int .i64 (a : Int)] w (WordRes ((bl s).drop a) w) := by
  have hw := wordL_letter (r := (bl s).drop (a + 1)) hl
  rw [← head_at s a ha] at hw
  have h0 := Lib.hid (fun W => hl ▸ letter_any (s[a]).toNat W)
  have HW := Lib.hid hw
  clear hl hw
  go_enter Tryd.func41, Tryd.ntmps41
  go_wp2_with (go_at_call 53; refine (h0.out _).mono ?_; rintro e w' ⟨rfl, rfl⟩)
  go_loop [6] (fun i => ∃ k : Nat, a + k ≤ s.size ∧ i = .int .i64 k ∧ Hid (∀ x ∈ ((bl s).drop a).take k, nameB x = true)) (fun i => s.size - a - (intOf i).toNat)
  case atStart => exact ⟨0, by omega, rfl, Lib.hid (by simp)⟩
  case round =>
    obtain ⟨k, hk, rfl, H⟩ := hrel
    by_cases hlt : a + k < s.size
    · have hb := Lib.hid (bl_at s a k hlt)
      have hlt' : (a : Int) + (k : Int) < (s.size : Int) := by omega
      have hti : ((a : Int) + (k : Int)).toNat = a + k := by omega
      cases hL : letterB (s[a + k]).toNat
      · cases hD : digitB (s[a + k]).toNat
        · have hL1 := Lib.hid (fun W => hL ▸ letter_any (s[a + k]).toNat W)
          have hD1 := Lib.hid (fun W => hD ▸ digit_any (s[a + k]).toNat W)
          have HN := Lib.hid (run_stop _ k H.out _ hb.out (by unfold nameB; rw [hL, hD]; rfl))
          clear hL hD H
          have hkw := keyword_any (s.extract a (a + k)) w
          rw [bl_cut] at hkw
          have j1 : (a : Int) ≤ (a : Int) + (k : Int) := by omega
          have j2 : (a : Int) + (k : Int) ≤ (s.size : Int) := by omega
          have hwk : (wordL ((bl s).drop a)).1 = k := by rw [HW.out]; exact HN.out
          have hw2 : (wordL ((bl s).drop a)).2 = if ((bl s).drop a).take k ∈ keysL then 2 else 1 := by rw [HW.out]; simp only; rw [HN.out]
          have HWK := Lib.hid hwk
          have HW2 := Lib.hid hw2
          clear hwk hw2 HW
          by_cases hkey : ((bl s).drop a).take k ∈ keysL
          · rw [decide_eq_true hkey] at hkw
            have HKW := Lib.hid hkw
            have HK := Lib.hid hkey
            clear hkw hkey
            go_wp2_with (first | (go_at_call 53; refine (hL1.out _).mono ?_; rintro e w' ⟨rfl, rfl⟩) | (go_at_call 54; refine (hD1.out _).mono ?_; rintro e w' ⟨rfl, rfl⟩) | (go_at_call 55; refine HKW.out.mono ?_))
            rintro e w1 ⟨rfl, hb1⟩
            go_wp2
            go_ret2
            exact ⟨ret_two (by rw [HWK.out]) (by rw [HW2.out, if_pos HK.out]; rfl), hb1⟩
          · rw [decide_eq_false hkey] at hkw
            have HKW := Lib.hid hkw
            have HK := Lib.hid hkey
            clear hkw hkey
            go_wp2_with (first | (go_at_call 53; refine (hL1.out _).mono ?_; rintro e w' ⟨rfl, rfl⟩) | (go_at_call 54; refine (hD1.out _).mono ?_; rintro e w' ⟨rfl, rfl⟩) | (go_at_call 55; refine HKW.out.mono ?_))
            rintro e w1 ⟨rfl, hb1⟩
            go_wp2
            go_ret2
            exact ⟨ret_two (by rw [HWK.out]) (by rw [HW2.out, if_neg HK.out]; rfl), hb1⟩
        · have hL1 := Lib.hid (fun W => hL ▸ letter_any (s[a + k]).toNat W)
          have hD1 := Lib.hid (fun W => hD ▸ digit_any (s[a + k]).toNat W)
          have HN := Lib.hid (run_step _ k H.out _ hb.out (by unfold nameB; rw [hL, hD]; rfl))
          clear hL hD H
          go_wp2_with (first | (go_at_call 53; refine (hL1.out _).mono ?_; rintro e w' ⟨rfl, rfl⟩) | (go_at_call 54; refine (hD1.out _).mono ?_; rintro e w' ⟨rfl, rfl⟩))
          go_round
          case rel => exact ⟨k + 1, by omega, by go_num, HN⟩
          case measure => simp [intOf]; omega
      · have hL1 := Lib.hid (fun W => hL ▸ letter_any (s[a + k]).toNat W)
        have HN := Lib.hid (run_step _ k H.out _ hb.out (by unfold nameB; rw [hL]; rfl))
        clear hL H
        go_wp2_with (go_at_call 53; refine (hL1.out _).mono ?_; rintro e w' ⟨rfl, rfl⟩)
        go_round
        case rel => exact ⟨k + 1, by omega, by go_num, HN⟩
        case measure => simp [intOf]; omega
    · have HN := Lib.hid (run_stop_len H.out (show a + k = s.size by omega))
      have hti : ((a : Int) + (k : Int)).toNat = a + k := by omega
      have hge : ¬ (a : Int) + (k : Int) < (s.size : Int) := by omega
      clear H
      have hkw := keyword_any (s.extract a (a + k)) w
      rw [bl_cut] at hkw
      have j1 : (a : Int) ≤ (a : Int) + (k : Int) := by omega
      have j2 : (a : Int) + (k : Int) ≤ (s.size : Int) := by omega
      have hwk : (wordL ((bl s).drop a)).1 = k := by rw [HW.out]; exact HN.out
      have hw2 : (wordL ((bl s).drop a)).2 = if ((bl s).drop a).take k ∈ keysL then 2 else 1 := by rw [HW.out]; simp only; rw [HN.out]
      have HWK := Lib.hid hwk
      have HW2 := Lib.hid hw2
      clear hwk hw2 HW
      by_cases hkey : ((bl s).drop a).take k ∈ keysL
      · rw [decide_eq_true hkey] at hkw
        have HKW := Lib.hid hkw
        have HK := Lib.hid hkey
        clear hkw hkey
        go_wp2_with fail
        go_at_call 55
        refine HKW.out.mono ?_
        rintro e w1 ⟨rfl, hb1⟩
        go_wp2
        go_ret2
        exact ⟨ret_two (by rw [HWK.out]) (by rw [HW2.out, if_pos HK.out]; rfl), hb1⟩
      · rw [decide_eq_false hkey] at hkw
        have HKW := Lib.hid hkw
        have HK := Lib.hid hkey
        clear hkw hkey
        go_wp2_with fail
        go_at_call 55
        refine HKW.out.mono ?_
        rintro e w1 ⟨rfl, hb1⟩
        go_wp2
        go_ret2
        exact ⟨ret_two (by rw [HWK.out]) (by rw [HW2.out, if_neg HK.out]; rfl), hb1⟩

set_option maxRecDepth 100000 in
set_option maxHeartbeats 1000000 in
theorem word_digit (s : ByteArray) (a : Nat) (ha : a < s.size) (hs : s.size ≤ 9223372036854775800) (hl : letterB (s[a]).toNat = false) (hd : digitB (s[a]).toNat = true) (w : World) : Calls Tryd.prog 41 #[.string s, .int .i64 (a : Int)] w (WordRes ((bl s).drop a) w) := by
  have hw := wordL_digit (r := (bl s).drop (a + 1)) hl hd
  rw [← head_at s a ha] at hw
  have h0 := Lib.hid (fun W => hl ▸ letter_any (s[a]).toNat W)
  have h00 := Lib.hid (fun W => hd ▸ digit_any (s[a]).toNat W)
  have HW := Lib.hid hw
  clear hl hd hw
  go_enter Tryd.func41, Tryd.ntmps41
  go_wp2_with (first | (go_at_call 53; refine (h0.out _).mono ?_; rintro e w' ⟨rfl, rfl⟩) | (go_at_call 54; refine (h00.out _).mono ?_; rintro e w' ⟨rfl, rfl⟩))
  go_loop [6] (fun i => ∃ k : Nat, a + k ≤ s.size ∧ i = .int .i64 k ∧ Hid (∀ x ∈ ((bl s).drop a).take k, digitB x = true)) (fun i => s.size - a - (intOf i).toNat)
  case atStart => exact ⟨0, by omega, rfl, Lib.hid (by simp)⟩
  case round =>
    obtain ⟨k, hk, rfl, H⟩ := hrel
    by_cases hlt : a + k < s.size
    · have hb := Lib.hid (bl_at s a k hlt)
      have hlt' : (a : Int) + (k : Int) < (s.size : Int) := by omega
      have hti : ((a : Int) + (k : Int)).toNat = a + k := by omega
      cases hD : digitB (s[a + k]).toNat
      · have hD1 := Lib.hid (fun W => hD ▸ digit_any (s[a + k]).toNat W)
        have HN := Lib.hid (run_stop _ k H.out _ hb.out hD)
        clear hD H
        go_wp2_with (go_at_call 54; refine (hD1.out _).mono ?_; rintro e w' ⟨rfl, rfl⟩)
        go_ret2
        exact ⟨ret_two (by rw [HW.out]; simp only; rw [HN.out]) (by rw [HW.out]; rfl), Below.refl _ _⟩
      · have hD1 := Lib.hid (fun W => hD ▸ digit_any (s[a + k]).toNat W)
        have HN := Lib.hid (run_step _ k H.out _ hb.out hD)
        clear hD H
        go_wp2_with (go_at_call 54; refine (hD1.out _).mono ?_; rintro e w' ⟨rfl, rfl⟩)
        go_round
        case rel => exact ⟨k + 1, by omega, by go_num, HN⟩
        case measure => simp [intOf]; omega
    · have HN := Lib.hid (run_stop_len H.out (show a + k = s.size by omega))
      have hti : ((a : Int) + (k : Int)).toNat = a + k := by omega
      have hge : ¬ (a : Int) + (k : Int) < (s.size : Int) := by omega
      clear H
      go_wp2
      go_ret2
      exact ⟨ret_two (by rw [HW.out]; simp only; rw [HN.out]) (by rw [HW.out]; rfl), Below.refl _ _⟩

set_option maxRecDepth 100000 in
set_option maxHeartbeats 1000000 in
theorem word_mark (s : ByteArray) (a : Nat) (ha : a < s.size) (hs : s.size ≤ 9223372036854775800) (hl : letterB (s[a]).toNat = false) (hd : digitB (s[a]).toNat = false) (w : World) : Calls Tryd.prog 41 #[.string s, .int .i64 (a : Int)] w (WordRes ((bl s).drop a) w) := by
  have hhd := head_at s a ha
  have hw := wordL_mark (r := (bl s).drop (a + 1)) hl hd
  rw [← hhd] at hw
  have h0 := Lib.hid (fun W => hl ▸ letter_any (s[a]).toNat W)
  have h00 := Lib.hid (fun W => hd ▸ digit_any (s[a]).toNat W)
  have hlen : ((bl s).drop a).length = s.size - a := by rw [List.length_drop, bl_length]
  have hm2 := fun W => mark_any' (s.extract a (a + 2)) W
  have hm1 := fun W => mark_any' (s.extract a (a + 1)) W
  rw [bl_cut] at hm2 hm1
  have ht1 : ((bl s).drop a).take 1 = [(s[a]).toNat] := by rw [hhd]; rfl
  rw [ht1] at hm1
  have t2 : ((a : Int) + 2).toNat = a + 2 := by omega
  have t1 : ((a : Int) + 1).toNat = a + 1 := by omega
  have j1 : (a : Int) ≤ (a : Int) + 1 := by omega
  have j2 : (a : Int) + 1 ≤ (s.size : Int) := by omega
  have j3 : (a : Int) ≤ (a : Int) + 2 := by omega
  clear hl hd hhd ht1
  by_cases hsz : a + 2 ≤ s.size
  · have hq := take2_mark (l := (bl s).drop a) (by omega)
    have k2 : (a : Int) + 2 ≤ (s.size : Int) := by omega
    by_cases hm : ((bl s).drop a).take 2 ∈ mark2
    · rw [if_pos hm] at hw
      rw [decide_eq_true (hq.2 hm)] at hm2
      have HM2 := Lib.hid hm2
      have HW := Lib.hid hw
      clear hm2 hm1 hw hq hm hlen
      go_enter Tryd.func41, Tryd.ntmps41
      go_wp2_with (first | (go_at_call 53; refine (h0.out _).mono ?_; rintro e w' ⟨rfl, rfl⟩) | (go_at_call 54; refine (h00.out _).mono ?_; rintro e w' ⟨rfl, rfl⟩))
      go_at_call 56
      refine (HM2.out _).mono ?_
      rintro e w1 ⟨rfl, hb1⟩
      go_wp2
      go_ret2
      exact ⟨ret_two (by rw [HW.out]; rfl) (by rw [HW.out]; rfl), hb1⟩
    · rw [if_neg hm] at hw
      rw [decide_eq_false (fun h => hm (hq.1 h))] at hm2
      by_cases hn : (s[a]).toNat ∈ mark1
      · rw [if_pos hn] at hw
        rw [decide_eq_true ((take1_mark _).2 hn)] at hm1
        have HM2 := Lib.hid hm2
        have HM1 := Lib.hid hm1
        have HW := Lib.hid hw
        clear hm2 hm1 hw hq hm hn hlen
        go_enter Tryd.func41, Tryd.ntmps41
        go_wp2_with (first | (go_at_call 53; refine (h0.out _).mono ?_; rintro e w' ⟨rfl, rfl⟩) | (go_at_call 54; refine (h00.out _).mono ?_; rintro e w' ⟨rfl, rfl⟩))
        go_at_call 56
        refine (HM2.out _).mono ?_
        rintro e w1 ⟨rfl, hb1⟩
        go_wp2_with fail
        go_at_call 56
        refine (HM1.out _).mono ?_
        rintro e w2 ⟨rfl, hb2⟩
        go_wp2
        go_ret2
        exact ⟨ret_two (by rw [HW.out]; rfl) (by rw [HW.out]; rfl), hb1.trans (hb2.mono hb1.size)⟩
      · rw [if_neg hn] at hw
        rw [decide_eq_false (fun h => hn ((take1_mark _).1 h))] at hm1
        have HM2 := Lib.hid hm2
        have HM1 := Lib.hid hm1
        have HW := Lib.hid hw
        clear hm2 hm1 hw hq hm hn hlen
        go_enter Tryd.func41, Tryd.ntmps41
        go_wp2_with (first | (go_at_call 53; refine (h0.out _).mono ?_; rintro e w' ⟨rfl, rfl⟩) | (go_at_call 54; refine (h00.out _).mono ?_; rintro e w' ⟨rfl, rfl⟩))
        go_at_call 56
        refine (HM2.out _).mono ?_
        rintro e w1 ⟨rfl, hb1⟩
        go_wp2_with fail
        go_at_call 56
        refine (HM1.out _).mono ?_
        rintro e w2 ⟨rfl, hb2⟩
        go_wp2
        go_ret2
        exact ⟨ret_two (by rw [HW.out]; rfl) (by rw [HW.out]; rfl), hb1.trans (hb2.mono hb1.size)⟩
  · rw [if_neg (not_mark2 (by omega))] at hw
    have k2 : ¬ (a : Int) + 2 ≤ (s.size : Int) := by omega
    by_cases hn : (s[a]).toNat ∈ mark1
    · rw [if_pos hn] at hw
      rw [decide_eq_true ((take1_mark _).2 hn)] at hm1
      have HM1 := Lib.hid hm1
      have HW := Lib.hid hw
      clear hm2 hm1 hw hn hlen
      go_enter Tryd.func41, Tryd.ntmps41
      go_wp2_with (first | (go_at_call 53; refine (h0.out _).mono ?_; rintro e w' ⟨rfl, rfl⟩) | (go_at_call 54; refine (h00.out _).mono ?_; rintro e w' ⟨rfl, rfl⟩))
      go_at_call 56
      refine (HM1.out _).mono ?_
      rintro e w1 ⟨rfl, hb1⟩
      go_wp2
      go_ret2
      exact ⟨ret_two (by rw [HW.out]; rfl) (by rw [HW.out]; rfl), hb1⟩
    · rw [if_neg hn] at hw
      rw [decide_eq_false (fun h => hn ((take1_mark _).1 h))] at hm1
      have HM1 := Lib.hid hm1
      have HW := Lib.hid hw
      clear hm2 hm1 hw hn hlen
      go_enter Tryd.func41, Tryd.ntmps41
      go_wp2_with (first | (go_at_call 53; refine (h0.out _).mono ?_; rintro e w' ⟨rfl, rfl⟩) | (go_at_call 54; refine (h00.out _).mono ?_; rintro e w' ⟨rfl, rfl⟩))
      go_at_call 56
      refine (HM1.out _).mono ?_
      rintro e w1 ⟨rfl, hb1⟩
      go_wp2
      go_ret2
      exact ⟨ret_two (by rw [HW.out]; rfl) (by rw [HW.out]; rfl), hb1⟩

theorem word_any (s : ByteArray) (a : Nat) (ha : a < s.size) (hs : s.size ≤ 9223372036854775800) (w : World) : Calls Tryd.prog 41 #[.string s, .int .i64 (a : Int)] w (WordRes ((bl s).drop a) w) := by
  cases hl : letterB (s[a]).toNat
  · cases hd : digitB (s[a]).toNat
    · exact word_mark s a ha hs hl hd w
    · exact word_digit s a ha hs hl hd w
  · exact word_letter s a ha hs hl w

/-- What the document's value answers of digits. -/
def ValRes (l : List Nat) (w : World) (e : Ending) (w' : World) : Prop := e = .returned (.tuple #[.int .i64 (((if valD l ≤ most then valD l else 0 : Nat)) : Int), .bool (decide (valD l ≤ most))]) ∧ w = w'
theorem ret_ib {a c : Int} {b d : Bool} (h1 : a = c) (h2 : b = d) : Ending.returned (.tuple #[.int .i64 a, .bool b]) = .returned (.tuple #[.int .i64 c, .bool d]) := by rw [h1, h2]
set_option maxRecDepth 100000 in
set_option maxHeartbeats 1000000 in
theorem value_any (s : ByteArray) (hs : s.size ≤ 9223372036854775800) (hd : ∀ x ∈ bl s, digitB x = true) (w : World) : Calls Tryd.prog 42 #[.string s] w (ValRes (bl s) w) := by
  have HD := Lib.hid (fun (i : Nat) (h : i < s.size) => digit_range (hd (s[i]).toNat (by rw [List.mem_iff_getElem?]; exact ⟨i, bl_get s i h⟩)))
  clear hd
  go_enter Tryd.func42, Tryd.ntmps42
  go_wp2
  go_loop [4, 5] (fun n i => ∃ k v : Nat, k ≤ s.size ∧ i = .int .i64 k ∧ n = .int .i64 v ∧ v ≤ 9223372036854775807 ∧ Hid (v = valD ((bl s).take k))) (fun _ i => s.size - (intOf i).toNat)
  case atStart => exact ⟨0, 0, Nat.zero_le _, rfl, rfl, by omega, Lib.hid rfl⟩
  case round =>
    obtain ⟨k, v, hk, rfl, rfl, hv, HV⟩ := hrel
    by_cases hlt : k < s.size
    · obtain ⟨d1, d2⟩ := HD.out k hlt
      have hstep := valD_take (bl s) k (by rw [bl_length]; exact hlt)
      rw [bl_getD s k hlt, ← HV.out] at hstep
      have hle := valD_take_le (bl s) (k + 1)
      have hm : (((s[k]).toNat : Int) - 48) % 256 = ((s[k]).toNat : Int) - 48 := by omega
      have HM := Lib.hid hm
      clear hm
      by_cases hbig : most < valD ((bl s).take (k + 1))
      · have hlt2 : (9223372036854775807 - (((s[k]).toNat : Int) - 48) % 256) / 10 < (v : Int) := by
          have := (too_great v ((s[k]).toNat - 48) (by omega)).2 (by rw [← hstep]; exact hbig)
          rw [HM.out]
          simp only [most] at this
          omega
        have HT := Lib.hid (show ¬ valD (bl s) ≤ most by omega)
        clear hstep hle hbig
        go_wp2
        go_ret2
        exact ⟨ret_ib (by rw [if_neg HT.out]; rfl) (by rw [decide_eq_false HT.out]), rfl⟩
      · have hge2 : ¬ (9223372036854775807 - (((s[k]).toNat : Int) - 48) % 256) / 10 < (v : Int) := by
          intro hc
          refine hbig ?_
          rw [hstep]
          refine (too_great v ((s[k]).toNat - 48) (by omega)).1 ?_
          rw [HM.out] at hc
          simp only [most]
          omega
        have hv2 : 10 * v + ((s[k]).toNat - 48) ≤ 9223372036854775807 := by rw [← hstep]; exact Nat.le_of_not_lt hbig
        have HN := Lib.hid (show 10 * v + ((s[k]).toNat - 48) = valD ((bl s).take (k + 1)) from hstep.symm)
        clear hstep hle hbig
        go_wp2
        go_round
        case rel => exact ⟨k + 1, 10 * v + ((s[k]).toNat - 48), by omega, by go_num, by congr 1; omega, hv2, HN⟩
        case measure => simp [intOf]; omega
    · have hk2 : (bl s).take k = bl s := List.take_of_length_le (by rw [bl_length]; omega)
      have HT : Hid (v = valD (bl s)) := Lib.hid (by rw [← hk2]; exact HV.out)
      clear hk2 HV
      go_wp2
      go_ret2
      exact ⟨ret_ib (by rw [← HT.out, if_pos (by simp only [most]; exact hv)]) (by rw [← HT.out, decide_eq_true (by simp only [most]; exact hv)]), rfl⟩
end Go.Proofs.YtnmcjkabihihiaaDoor
