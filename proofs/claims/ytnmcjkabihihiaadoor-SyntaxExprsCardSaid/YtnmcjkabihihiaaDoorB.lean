/- Contracts of run and gap of package lex: for every text and every memory. -/
import Derived.Test.YtnmcjkabihihiaaDoorA
import Derived.Test.YtnmcjkabihihiaaDoorL
import Derived.LoopTactic
import Derived.Lib.Strings
namespace Go.Proofs.YtnmcjkabihihiaaDoor
open Go Go.RowKit

/-- A text's bytes as numbers. -/
def bl (s : ByteArray) : List Nat := s.data.toList.map UInt8.toNat
theorem bl_length (s : ByteArray) : (bl s).length = s.size := by simp [bl]
theorem bl_get (s : ByteArray) (i : Nat) (h : i < s.size) : (bl s)[i]? = some (s[i]).toNat := by
  have h' : i < s.data.toList.length := by simpa using h
  rw [bl, List.getElem?_map, List.getElem?_eq_getElem h']; rfl
theorem bl_getD (s : ByteArray) (i : Nat) (h : i < s.size) : (bl s).getD i 0 = (s[i]).toNat := by
  rw [List.getD_eq_getElem?_getD, bl_get s i h]; rfl
theorem bl_extract (s : ByteArray) (a b : Nat) : bl (s.extract a b) = ((bl s).take b).drop a := by
  unfold bl
  rw [ByteArray.data_extract, Array.toList_extract, List.extract_eq_take_drop, List.map_take, List.map_drop, List.drop_take]
theorem bl_inj {s t : ByteArray} (h : bl s = bl t) : s = t := by
  unfold bl at h
  have : s.data.toList = t.data.toList := (List.map_inj_right (fun a b h => UInt8.toNat_inj.1 h)).1 h
  apply ByteArray.ext
  exact Array.ext' this
theorem bl_lt (s : ByteArray) : ∀ x ∈ bl s, x < 256 := by
  intro x hx
  obtain ⟨c, _, rfl⟩ := List.mem_map.1 hx
  exact c.toNat_lt

/-- How far a text's head keeps a sort. -/
theorem run_step {p : Nat → Bool} (l : List Nat) (k : Nat) (h : ∀ x ∈ l.take k, p x = true) (c : Nat) (hc : l[k]? = some c) (hp : p c = true) : ∀ x ∈ l.take (k + 1), p x = true := by
  rw [List.take_add_one, hc]
  intro x hx
  rcases List.mem_append.1 hx with h1 | h1
  · exact h x h1
  · obtain rfl : x = c := by simpa using h1
    exact hp
theorem run_stop {p : Nat → Bool} (l : List Nat) (k : Nat) (h : ∀ x ∈ l.take k, p x = true) (c : Nat) (hc : l[k]? = some c) (hp : p c = false) : (l.takeWhile p).length = k := by
  have hk : k < l.length := (List.getElem?_eq_some_iff.1 hc).1
  have h2 : l = l.take k ++ l.drop k := (List.take_append_drop k l).symm
  have hd : (l.drop k).head? = some c := by rw [List.head?_drop]; exact hc
  rw [h2, takeWhile_stop _ _ h (fun d hd' => by rw [hd] at hd'; obtain rfl : c = d := by simpa using hd'
                                                exact hp), List.length_take]
  omega
theorem run_end {p : Nat → Bool} (l : List Nat) (h : ∀ x ∈ l.take l.length, p x = true) : (l.takeWhile p).length = l.length := by
  rw [List.take_length] at h
  have := takeWhile_stop l [] h (by simp)
  rw [List.append_nil] at this
  rw [this]

set_option maxHeartbeats 400000 in
theorem run_name (s : ByteArray) (hs : s.size ≤ 9223372036854775806) (w : World) :
    Calls Tryd.prog 57 #[.string s, .func (.func 62) #[] #[]] w fun e w' => e = .returned (.int .i64 ((((bl s).takeWhile nameB).length : Nat) : Int)) ∧ w = w' := by
  go_enter Tryd.func57, Tryd.ntmps57
  go_wp2
  go_loop [8] (fun i => ∃ k : Nat, k ≤ s.size ∧ i = .int .i64 k ∧ Hid (∀ x ∈ (bl s).take k, nameB x = true)) (fun i => s.size - (intOf i).toNat)
  case atStart => exact ⟨0, Nat.zero_le _, rfl, Lib.hid (by simp)⟩
  case round =>
    obtain ⟨k, hk, rfl, H⟩ := hrel
    by_cases hlt : k < s.size
    · have hb := Lib.hid (bl_get s k hlt)
      cases hp : nameB (s[k]).toNat
      · have hcall := hp ▸ isOfName_any (s[k]).toNat w
        have HP := Lib.hid hp
        clear hp
        go_wp2_with (go_at_call 62; refine hcall.mono ?_; rintro e w' ⟨rfl, rfl⟩)
        go_ret
        exact ⟨ret_int (by rw [run_stop _ k H.out _ hb.out HP.out]), rfl⟩
      · have hcall := hp ▸ isOfName_any (s[k]).toNat w
        have HP := Lib.hid hp
        clear hp
        go_wp2_with (go_at_call 62; refine hcall.mono ?_; rintro e w' ⟨rfl, rfl⟩)
        go_round
        case rel => exact ⟨k + 1, by omega, by go_num, Lib.hid (run_step _ k H.out _ hb.out HP.out)⟩
        case measure => simp [intOf]; omega
    · have hk' : k = (bl s).length := by rw [bl_length]; omega
      have HK := Lib.hid hk'
      clear hk'
      go_wp2
      go_ret
      exact ⟨ret_int (by rw [run_end _ (HK.out ▸ H.out), bl_length]), rfl⟩
set_option maxHeartbeats 400000 in
theorem run_digit (s : ByteArray) (hs : s.size ≤ 9223372036854775806) (w : World) :
    Calls Tryd.prog 57 #[.string s, .func (.func 63) #[] #[]] w fun e w' => e = .returned (.int .i64 ((((bl s).takeWhile digitB).length : Nat) : Int)) ∧ w = w' := by
  go_enter Tryd.func57, Tryd.ntmps57
  go_wp2
  go_loop [8] (fun i => ∃ k : Nat, k ≤ s.size ∧ i = .int .i64 k ∧ Hid (∀ x ∈ (bl s).take k, digitB x = true)) (fun i => s.size - (intOf i).toNat)
  case atStart => exact ⟨0, Nat.zero_le _, rfl, Lib.hid (by simp)⟩
  case round =>
    obtain ⟨k, hk, rfl, H⟩ := hrel
    by_cases hlt : k < s.size
    · have hb := Lib.hid (bl_get s k hlt)
      cases hp : digitB (s[k]).toNat
      · have hcall := hp ▸ isDigit_any (s[k]).toNat w
        have HP := Lib.hid hp
        clear hp
        go_wp2_with (go_at_call 63; refine hcall.mono ?_; rintro e w' ⟨rfl, rfl⟩)
        go_ret
        exact ⟨ret_int (by rw [run_stop _ k H.out _ hb.out HP.out]), rfl⟩
      · have hcall := hp ▸ isDigit_any (s[k]).toNat w
        have HP := Lib.hid hp
        clear hp
        go_wp2_with (go_at_call 63; refine hcall.mono ?_; rintro e w' ⟨rfl, rfl⟩)
        go_round
        case rel => exact ⟨k + 1, by omega, by go_num, Lib.hid (run_step _ k H.out _ hb.out HP.out)⟩
        case measure => simp [intOf]; omega
    · have hk' : k = (bl s).length := by rw [bl_length]; omega
      have HK := Lib.hid hk'
      clear hk'
      go_wp2
      go_ret
      exact ⟨ret_int (by rw [run_end _ (HK.out ▸ H.out), bl_length]), rfl⟩
set_option maxHeartbeats 400000 in
theorem run_line (s : ByteArray) (hs : s.size ≤ 9223372036854775806) (w : World) :
    Calls Tryd.prog 57 #[.string s, .func (.func 58) #[] #[]] w fun e w' => e = .returned (.int .i64 ((((bl s).takeWhile inC).length : Nat) : Int)) ∧ w = w' := by
  go_enter Tryd.func57, Tryd.ntmps57
  go_wp2
  go_loop [8] (fun i => ∃ k : Nat, k ≤ s.size ∧ i = .int .i64 k ∧ Hid (∀ x ∈ (bl s).take k, inC x = true)) (fun i => s.size - (intOf i).toNat)
  case atStart => exact ⟨0, Nat.zero_le _, rfl, Lib.hid (by simp)⟩
  case round =>
    obtain ⟨k, hk, rfl, H⟩ := hrel
    by_cases hlt : k < s.size
    · have hb := Lib.hid (bl_get s k hlt)
      cases hp : inC (s[k]).toNat
      · have hcall := hp ▸ isInLine_any (s[k]).toNat w
        have HP := Lib.hid hp
        clear hp
        go_wp2_with (go_at_call 58; refine hcall.mono ?_; rintro e w' ⟨rfl, rfl⟩)
        go_ret
        exact ⟨ret_int (by rw [run_stop _ k H.out _ hb.out HP.out]), rfl⟩
      · have hcall := hp ▸ isInLine_any (s[k]).toNat w
        have HP := Lib.hid hp
        clear hp
        go_wp2_with (go_at_call 58; refine hcall.mono ?_; rintro e w' ⟨rfl, rfl⟩)
        go_round
        case rel => exact ⟨k + 1, by omega, by go_num, Lib.hid (run_step _ k H.out _ hb.out HP.out)⟩
        case measure => simp [intOf]; omega
    · have hk' : k = (bl s).length := by rw [bl_length]; omega
      have HK := Lib.hid hk'
      clear hk'
      go_wp2
      go_ret
      exact ⟨ret_int (by rw [run_end _ (HK.out ▸ H.out), bl_length]), rfl⟩
set_option maxHeartbeats 400000 in
theorem run_blank (s : ByteArray) (hs : s.size ≤ 9223372036854775806) (w : World) :
    Calls Tryd.prog 57 #[.string s, .func (.func 59) #[] #[]] w fun e w' => e = .returned (.int .i64 ((((bl s).takeWhile blankB).length : Nat) : Int)) ∧ w = w' := by
  go_enter Tryd.func57, Tryd.ntmps57
  go_wp2
  go_loop [8] (fun i => ∃ k : Nat, k ≤ s.size ∧ i = .int .i64 k ∧ Hid (∀ x ∈ (bl s).take k, blankB x = true)) (fun i => s.size - (intOf i).toNat)
  case atStart => exact ⟨0, Nat.zero_le _, rfl, Lib.hid (by simp)⟩
  case round =>
    obtain ⟨k, hk, rfl, H⟩ := hrel
    by_cases hlt : k < s.size
    · have hb := Lib.hid (bl_get s k hlt)
      cases hp : blankB (s[k]).toNat
      · have hcall := hp ▸ isBlank_any (s[k]).toNat w
        have HP := Lib.hid hp
        clear hp
        go_wp2_with (go_at_call 59; refine hcall.mono ?_; rintro e w' ⟨rfl, rfl⟩)
        go_ret
        exact ⟨ret_int (by rw [run_stop _ k H.out _ hb.out HP.out]), rfl⟩
      · have hcall := hp ▸ isBlank_any (s[k]).toNat w
        have HP := Lib.hid hp
        clear hp
        go_wp2_with (go_at_call 59; refine hcall.mono ?_; rintro e w' ⟨rfl, rfl⟩)
        go_round
        case rel => exact ⟨k + 1, by omega, by go_num, Lib.hid (run_step _ k H.out _ hb.out HP.out)⟩
        case measure => simp [intOf]; omega
    · have hk' : k = (bl s).length := by rw [bl_length]; omega
      have HK := Lib.hid hk'
      clear hk'
      go_wp2
      go_ret
      exact ⟨ret_int (by rw [run_end _ (HK.out ▸ H.out), bl_length]), rfl⟩
theorem gap_any (s : ByteArray) (h0 : 0 < s.size) (hs : s.size ≤ 9223372036854775806) (w : World) :
    Calls Tryd.prog 44 #[.string s] w fun e w' => e = .returned (.int .i64 ((gapL (bl s) : Nat) : Int)) ∧ w = w' := by
  have hg := bl_get s 0 h0
  rw [← List.head?_eq_getElem?] at hg
  have h1 := run_line s hs w
  have h2 := run_blank s hs w
  by_cases hc : (s[0]).toNat = 35
  · have hn : (((s[0]).toNat : Int) == 35) = true := by simp; omega
    have hgl : gapL (bl s) = ((bl s).takeWhile inC).length := by rw [gapL, hg, if_pos (by rw [hc])]
    have HG := Lib.hid hgl
    clear hgl hg hc
    go_enter Tryd.func44, Tryd.ntmps44
    go_wp2_with (go_at_call 57; refine h1.mono ?_; rintro e w' ⟨rfl, rfl⟩)
    go_ret
    exact ⟨ret_int (by rw [HG.out]), rfl⟩
  · have hn : (((s[0]).toNat : Int) == 35) = false := by simp; omega
    have hgl : gapL (bl s) = ((bl s).takeWhile blankB).length := by rw [gapL, hg, if_neg (by simpa using hc)]
    have HG := Lib.hid hgl
    clear hgl hg hc
    go_enter Tryd.func44, Tryd.ntmps44
    go_wp2_with (go_at_call 57; refine h2.mono ?_; rintro e w' ⟨rfl, rfl⟩)
    go_ret
    exact ⟨ret_int (by rw [HG.out]), rfl⟩
end Go.Proofs.YtnmcjkabihihiaaDoor
