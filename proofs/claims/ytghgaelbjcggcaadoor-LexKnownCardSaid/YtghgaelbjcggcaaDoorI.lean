/- Package lex's Is; the document's between: for every text and every memory. -/
import Derived.Test.YtghgaelbjcggcaaDoorF
import Derived.Test.YtghgaelbjcggcaaDoorG
namespace Go.Proofs.YtghgaelbjcggcaaDoor
open Go Go.RowKit

/-- The kind of a text that is one word. -/
def isL (l : List Nat) : Nat := if l ≠ [] ∧ errL l = 0 ∧ (wordL l).1 = l.length then (wordL l).2 else 0

theorem beq_self (s : ByteArray) : (s.toList == s.toList) = true := by simp
theorem beq_ne {s t : ByteArray} (h : s ≠ t) : (s.toList == t.toList) = false := by
  rw [beq_eq_false_iff_ne]
  intro e
  rw [Lib.toList_data, Lib.toList_data] at e
  exact h (ByteArray.ext (Array.ext' e))

set_option maxRecDepth 100000 in
theorem is_any (s : ByteArray) (hs : s.size ≤ 281474976710656) (w : World) (hE : Env w) : Calls Tryd.prog 11 #[.string s] w fun e w' => e = .returned (.int .i64 ((isL (bl s) : Nat) : Int)) ∧ Below w.heap.size w w' := by
  by_cases h0 : s.size = 0
  · obtain rfl : s = ⟨#[]⟩ := by
      apply ByteArray.ext
      exact Array.eq_empty_of_size_eq_zero h0
    go_enter Tryd.func11, Tryd.ntmps11
    go_wp2
    go_ret
    exact ⟨rfl, Below.refl _ _⟩
  · have hne : bl s ≠ [] := by
      intro e
      have := congrArg List.length e
      rw [bl_length] at this
      exact h0 this
    have he0 : (s.toList == ([] : List UInt8)) = false := by
      rw [beq_eq_false_iff_ne]
      intro e
      rw [Lib.toList_data] at e
      exact hne (by unfold bl; rw [e]; rfl)
    have he1 : s.toList = [] → False := by intro e; rw [e] at he0; simp at he0
    by_cases he : errL (bl s) = 0
    · have hf := Lib.hid (first_ok s (by omega) hs he w hE)
      have hle := wordL_le (bl s)
      rw [bl_length] at hle
      by_cases hw : (wordL (bl s)).1 = s.size
      · have hv : isL (bl s) = (wordL (bl s)).2 := by unfold isL; rw [if_pos ⟨hne, he, by rw [bl_length]; exact hw⟩]
        have hx : s.extract 0 (wordL (bl s)).1 = s := by
          apply bl_inj
          rw [bl_take, hw, ← bl_length, List.take_length]
        rw [hx] at hf
        have hbs := beq_self s
        rw [hv]
        generalize (wordL (bl s)).2 = kk at *
        generalize valL (bl s) = vv at *
        clear hw hv hx hle hne
        have HE1 := Lib.hid he1
        clear he1
        go_enter Tryd.func11, Tryd.ntmps11
        go_wp2_with (go_at_call 26; refine hf.out.mono ?_)
        rintro e w1 ⟨rfl, hb1⟩
        have hB := hb1.alloc hb1.size (.cells #[.int .i64 (kk : Nat), .string s, .int .i64 (vv : Nat), .int .i64 0] 29)
        have HB := Lib.hid hB
        clear hB hb1
        go_wp2
        go_ret
        exact ⟨rfl, HB.out⟩
      · have hv : isL (bl s) = 0 := by unfold isL; rw [if_neg (by rw [bl_length]; exact fun h => hw h.2.2)]
        have hx : ((s.extract 0 (wordL (bl s)).1).toList == s.toList) = false := beq_ne (fun h => hw (by
          have := size_take s (wordL (bl s)).1 hle
          rw [h] at this; exact this.symm))
        rw [hv]
        generalize (wordL (bl s)).2 = kk at *
        generalize valL (bl s) = vv at *
        generalize s.extract 0 (wordL (bl s)).1 = tt at *
        clear hw hv hle hne
        have HE1 := Lib.hid he1
        clear he1
        go_enter Tryd.func11, Tryd.ntmps11
        go_wp2_with (go_at_call 26; refine hf.out.mono ?_)
        rintro e w1 ⟨rfl, hb1⟩
        have hB := hb1.alloc hb1.size (.cells #[.int .i64 (kk : Nat), .string tt, .int .i64 (vv : Nat), .int .i64 0] 29)
        have HB := Lib.hid hB
        clear hB hb1
        go_wp2
        go_ret
        exact ⟨rfl, HB.out⟩
    · have hf := Lib.hid (first_bad s (by omega) hs he w hE)
      have hv : isL (bl s) = 0 := by unfold isL; rw [if_neg (fun h => he h.2.1)]
      rw [hv]
      have heb : ((errL (bl s) : Nat) : Int) ≠ 0 := by omega
      generalize errL (bl s) = er at *
      have heb1 : (((er : Nat) : Int) != 0) = true := by simpa using heb
      have HE1 := Lib.hid he1
      clear he1 he hne hv heb
      go_enter Tryd.func11, Tryd.ntmps11
      go_wp2_with (go_at_call 26; refine hf.out.mono ?_)
      rintro e w1 ⟨rfl, hb1⟩
      have hB := hb1.alloc hb1.size (.cells #[.int .i64 0, .string ⟨#[]⟩, .int .i64 0, .int .i64 0] 29)
      have HB := Lib.hid hB
      clear hB hb1
      go_wp2
      go_ret
      exact ⟨rfl, HB.out⟩
theorem between_step {l : List Nat} {k c : Nat} {i : Bool} (hc : l[k]? = some c) (h : betweenB false l = betweenB i (l.drop k)) (hok : (inB i c || blankB c) = true) : betweenB false l = betweenB (inB i c) (l.drop (k + 1)) := by
  obtain ⟨hk, hg⟩ := List.getElem?_eq_some_iff.1 hc
  rw [h, List.drop_eq_getElem_cons hk, hg, betweenB, hok]; rfl
theorem between_stop {l : List Nat} {k c : Nat} {i : Bool} (hc : l[k]? = some c) (h : betweenB false l = betweenB i (l.drop k)) (hok : (inB i c || blankB c) = false) : betweenB false l = false := by
  obtain ⟨hk, hg⟩ := List.getElem?_eq_some_iff.1 hc
  rw [h, List.drop_eq_getElem_cons hk, hg, betweenB, hok]; rfl

set_option maxRecDepth 100000 in
set_option maxHeartbeats 1000000 in
theorem between_any (s : ByteArray) (hs : s.size ≤ 9223372036854775806) (w : World) : Calls Tryd.prog 18 #[.string s] w fun e w' => e = .returned (.bool (betweenB false (bl s))) ∧ w = w' := by
  go_enter Tryd.func18, Tryd.ntmps18
  go_wp2
  go_loop [3, 4] (fun b i => ∃ (k : Nat) (j : Bool), k ≤ s.size ∧ b = .bool j ∧ i = .int .i64 k ∧ Hid (betweenB false (bl s) = betweenB j ((bl s).drop k))) (fun _ i => s.size - (intOf i).toNat)
  case atStart => exact ⟨0, false, Nat.zero_le _, rfl, rfl, Lib.hid rfl⟩
  case round =>
    obtain ⟨k, j, hk, rfl, rfl, H⟩ := hrel
    by_cases hlt : k < s.size
    · have hb := Lib.hid (bl_get s k hlt)
      have hcls : (s[k]).toNat = 35 ∨ (s[k]).toNat = 10 ∨ (s[k]).toNat = 9 ∨ (s[k]).toNat = 13 ∨ (s[k]).toNat = 32 ∨ ((s[k]).toNat ≠ 35 ∧ (s[k]).toNat ≠ 10 ∧ (s[k]).toNat ≠ 9 ∧ (s[k]).toNat ≠ 13 ∧ (s[k]).toNat ≠ 32) := by omega
      rcases hcls with hc | hc | hc | hc | hc | hc
      · cases j
        · have HN0 := between_step hb.out H.out (show (inB false (s[k]).toNat || blankB (s[k]).toNat) = true by rw [hc]; rfl)
          rw [show inB false (s[k]).toNat = true by rw [hc]; rfl] at HN0
          have HN := Lib.hid HN0
          clear H hb HN0
          have f35 : (((s[k]).toNat : Int) == 35) = true := by simp; omega
          have n35 : (((s[k]).toNat : Int) != 35) = false := by simp; omega
          have f10 : (((s[k]).toNat : Int) == 10) = false := by simp; omega
          have n10 : (((s[k]).toNat : Int) != 10) = true := by simp; omega
          have f9 : (((s[k]).toNat : Int) == 9) = false := by simp; omega
          have n9 : (((s[k]).toNat : Int) != 9) = true := by simp; omega
          have f13 : (((s[k]).toNat : Int) == 13) = false := by simp; omega
          have n13 : (((s[k]).toNat : Int) != 13) = true := by simp; omega
          have f32 : (((s[k]).toNat : Int) == 32) = false := by simp; omega
          have n32 : (((s[k]).toNat : Int) != 32) = true := by simp; omega
          clear hc
          go_wp2
          go_round
          case rel => exact ⟨k + 1, true, by omega, rfl, by go_num, HN⟩
          case measure => simp [intOf]; omega
        · have HN0 := between_step hb.out H.out (show (inB true (s[k]).toNat || blankB (s[k]).toNat) = true by rw [hc]; rfl)
          rw [show inB true (s[k]).toNat = true by rw [hc]; rfl] at HN0
          have HN := Lib.hid HN0
          clear H hb HN0
          have f35 : (((s[k]).toNat : Int) == 35) = true := by simp; omega
          have n35 : (((s[k]).toNat : Int) != 35) = false := by simp; omega
          have f10 : (((s[k]).toNat : Int) == 10) = false := by simp; omega
          have n10 : (((s[k]).toNat : Int) != 10) = true := by simp; omega
          have f9 : (((s[k]).toNat : Int) == 9) = false := by simp; omega
          have n9 : (((s[k]).toNat : Int) != 9) = true := by simp; omega
          have f13 : (((s[k]).toNat : Int) == 13) = false := by simp; omega
          have n13 : (((s[k]).toNat : Int) != 13) = true := by simp; omega
          have f32 : (((s[k]).toNat : Int) == 32) = false := by simp; omega
          have n32 : (((s[k]).toNat : Int) != 32) = true := by simp; omega
          clear hc
          go_wp2
          go_round
          case rel => exact ⟨k + 1, true, by omega, rfl, by go_num, HN⟩
          case measure => simp [intOf]; omega
      · cases j
        · have HN0 := between_step hb.out H.out (show (inB false (s[k]).toNat || blankB (s[k]).toNat) = true by rw [hc]; rfl)
          rw [show inB false (s[k]).toNat = false by rw [hc]; rfl] at HN0
          have HN := Lib.hid HN0
          clear H hb HN0
          have f35 : (((s[k]).toNat : Int) == 35) = false := by simp; omega
          have n35 : (((s[k]).toNat : Int) != 35) = true := by simp; omega
          have f10 : (((s[k]).toNat : Int) == 10) = true := by simp; omega
          have n10 : (((s[k]).toNat : Int) != 10) = false := by simp; omega
          have f9 : (((s[k]).toNat : Int) == 9) = false := by simp; omega
          have n9 : (((s[k]).toNat : Int) != 9) = true := by simp; omega
          have f13 : (((s[k]).toNat : Int) == 13) = false := by simp; omega
          have n13 : (((s[k]).toNat : Int) != 13) = true := by simp; omega
          have f32 : (((s[k]).toNat : Int) == 32) = false := by simp; omega
          have n32 : (((s[k]).toNat : Int) != 32) = true := by simp; omega
          clear hc
          go_wp2
          go_round
          case rel => exact ⟨k + 1, false, by omega, rfl, by go_num, HN⟩
          case measure => simp [intOf]; omega
        · have HN0 := between_step hb.out H.out (show (inB true (s[k]).toNat || blankB (s[k]).toNat) = true by rw [hc]; rfl)
          rw [show inB true (s[k]).toNat = false by rw [hc]; rfl] at HN0
          have HN := Lib.hid HN0
          clear H hb HN0
          have f35 : (((s[k]).toNat : Int) == 35) = false := by simp; omega
          have n35 : (((s[k]).toNat : Int) != 35) = true := by simp; omega
          have f10 : (((s[k]).toNat : Int) == 10) = true := by simp; omega
          have n10 : (((s[k]).toNat : Int) != 10) = false := by simp; omega
          have f9 : (((s[k]).toNat : Int) == 9) = false := by simp; omega
          have n9 : (((s[k]).toNat : Int) != 9) = true := by simp; omega
          have f13 : (((s[k]).toNat : Int) == 13) = false := by simp; omega
          have n13 : (((s[k]).toNat : Int) != 13) = true := by simp; omega
          have f32 : (((s[k]).toNat : Int) == 32) = false := by simp; omega
          have n32 : (((s[k]).toNat : Int) != 32) = true := by simp; omega
          clear hc
          go_wp2
          go_round
          case rel => exact ⟨k + 1, false, by omega, rfl, by go_num, HN⟩
          case measure => simp [intOf]; omega
      · cases j
        · have HN0 := between_step hb.out H.out (show (inB false (s[k]).toNat || blankB (s[k]).toNat) = true by rw [hc]; rfl)
          rw [show inB false (s[k]).toNat = false by rw [hc]; rfl] at HN0
          have HN := Lib.hid HN0
          clear H hb HN0
          have f35 : (((s[k]).toNat : Int) == 35) = false := by simp; omega
          have n35 : (((s[k]).toNat : Int) != 35) = true := by simp; omega
          have f10 : (((s[k]).toNat : Int) == 10) = false := by simp; omega
          have n10 : (((s[k]).toNat : Int) != 10) = true := by simp; omega
          have f9 : (((s[k]).toNat : Int) == 9) = true := by simp; omega
          have n9 : (((s[k]).toNat : Int) != 9) = false := by simp; omega
          have f13 : (((s[k]).toNat : Int) == 13) = false := by simp; omega
          have n13 : (((s[k]).toNat : Int) != 13) = true := by simp; omega
          have f32 : (((s[k]).toNat : Int) == 32) = false := by simp; omega
          have n32 : (((s[k]).toNat : Int) != 32) = true := by simp; omega
          clear hc
          go_wp2
          go_round
          case rel => exact ⟨k + 1, false, by omega, rfl, by go_num, HN⟩
          case measure => simp [intOf]; omega
        · have HN0 := between_step hb.out H.out (show (inB true (s[k]).toNat || blankB (s[k]).toNat) = true by rw [hc]; rfl)
          rw [show inB true (s[k]).toNat = true by rw [hc]; rfl] at HN0
          have HN := Lib.hid HN0
          clear H hb HN0
          have f35 : (((s[k]).toNat : Int) == 35) = false := by simp; omega
          have n35 : (((s[k]).toNat : Int) != 35) = true := by simp; omega
          have f10 : (((s[k]).toNat : Int) == 10) = false := by simp; omega
          have n10 : (((s[k]).toNat : Int) != 10) = true := by simp; omega
          have f9 : (((s[k]).toNat : Int) == 9) = true := by simp; omega
          have n9 : (((s[k]).toNat : Int) != 9) = false := by simp; omega
          have f13 : (((s[k]).toNat : Int) == 13) = false := by simp; omega
          have n13 : (((s[k]).toNat : Int) != 13) = true := by simp; omega
          have f32 : (((s[k]).toNat : Int) == 32) = false := by simp; omega
          have n32 : (((s[k]).toNat : Int) != 32) = true := by simp; omega
          clear hc
          go_wp2
          go_round
          case rel => exact ⟨k + 1, true, by omega, rfl, by go_num, HN⟩
          case measure => simp [intOf]; omega
      · cases j
        · have HN0 := between_step hb.out H.out (show (inB false (s[k]).toNat || blankB (s[k]).toNat) = true by rw [hc]; rfl)
          rw [show inB false (s[k]).toNat = false by rw [hc]; rfl] at HN0
          have HN := Lib.hid HN0
          clear H hb HN0
          have f35 : (((s[k]).toNat : Int) == 35) = false := by simp; omega
          have n35 : (((s[k]).toNat : Int) != 35) = true := by simp; omega
          have f10 : (((s[k]).toNat : Int) == 10) = false := by simp; omega
          have n10 : (((s[k]).toNat : Int) != 10) = true := by simp; omega
          have f9 : (((s[k]).toNat : Int) == 9) = false := by simp; omega
          have n9 : (((s[k]).toNat : Int) != 9) = true := by simp; omega
          have f13 : (((s[k]).toNat : Int) == 13) = true := by simp; omega
          have n13 : (((s[k]).toNat : Int) != 13) = false := by simp; omega
          have f32 : (((s[k]).toNat : Int) == 32) = false := by simp; omega
          have n32 : (((s[k]).toNat : Int) != 32) = true := by simp; omega
          clear hc
          go_wp2
          go_round
          case rel => exact ⟨k + 1, false, by omega, rfl, by go_num, HN⟩
          case measure => simp [intOf]; omega
        · have HN0 := between_step hb.out H.out (show (inB true (s[k]).toNat || blankB (s[k]).toNat) = true by rw [hc]; rfl)
          rw [show inB true (s[k]).toNat = true by rw [hc]; rfl] at HN0
          have HN := Lib.hid HN0
          clear H hb HN0
          have f35 : (((s[k]).toNat : Int) == 35) = false := by simp; omega
          have n35 : (((s[k]).toNat : Int) != 35) = true := by simp; omega
          have f10 : (((s[k]).toNat : Int) == 10) = false := by simp; omega
          have n10 : (((s[k]).toNat : Int) != 10) = true := by simp; omega
          have f9 : (((s[k]).toNat : Int) == 9) = false := by simp; omega
          have n9 : (((s[k]).toNat : Int) != 9) = true := by simp; omega
          have f13 : (((s[k]).toNat : Int) == 13) = true := by simp; omega
          have n13 : (((s[k]).toNat : Int) != 13) = false := by simp; omega
          have f32 : (((s[k]).toNat : Int) == 32) = false := by simp; omega
          have n32 : (((s[k]).toNat : Int) != 32) = true := by simp; omega
          clear hc
          go_wp2
          go_round
          case rel => exact ⟨k + 1, true, by omega, rfl, by go_num, HN⟩
          case measure => simp [intOf]; omega
      · cases j
        · have HN0 := between_step hb.out H.out (show (inB false (s[k]).toNat || blankB (s[k]).toNat) = true by rw [hc]; rfl)
          rw [show inB false (s[k]).toNat = false by rw [hc]; rfl] at HN0
          have HN := Lib.hid HN0
          clear H hb HN0
          have f35 : (((s[k]).toNat : Int) == 35) = false := by simp; omega
          have n35 : (((s[k]).toNat : Int) != 35) = true := by simp; omega
          have f10 : (((s[k]).toNat : Int) == 10) = false := by simp; omega
          have n10 : (((s[k]).toNat : Int) != 10) = true := by simp; omega
          have f9 : (((s[k]).toNat : Int) == 9) = false := by simp; omega
          have n9 : (((s[k]).toNat : Int) != 9) = true := by simp; omega
          have f13 : (((s[k]).toNat : Int) == 13) = false := by simp; omega
          have n13 : (((s[k]).toNat : Int) != 13) = true := by simp; omega
          have f32 : (((s[k]).toNat : Int) == 32) = true := by simp; omega
          have n32 : (((s[k]).toNat : Int) != 32) = false := by simp; omega
          clear hc
          go_wp2
          go_round
          case rel => exact ⟨k + 1, false, by omega, rfl, by go_num, HN⟩
          case measure => simp [intOf]; omega
        · have HN0 := between_step hb.out H.out (show (inB true (s[k]).toNat || blankB (s[k]).toNat) = true by rw [hc]; rfl)
          rw [show inB true (s[k]).toNat = true by rw [hc]; rfl] at HN0
          have HN := Lib.hid HN0
          clear H hb HN0
          have f35 : (((s[k]).toNat : Int) == 35) = false := by simp; omega
          have n35 : (((s[k]).toNat : Int) != 35) = true := by simp; omega
          have f10 : (((s[k]).toNat : Int) == 10) = false := by simp; omega
          have n10 : (((s[k]).toNat : Int) != 10) = true := by simp; omega
          have f9 : (((s[k]).toNat : Int) == 9) = false := by simp; omega
          have n9 : (((s[k]).toNat : Int) != 9) = true := by simp; omega
          have f13 : (((s[k]).toNat : Int) == 13) = false := by simp; omega
          have n13 : (((s[k]).toNat : Int) != 13) = true := by simp; omega
          have f32 : (((s[k]).toNat : Int) == 32) = true := by simp; omega
          have n32 : (((s[k]).toNat : Int) != 32) = false := by simp; omega
          clear hc
          go_wp2
          go_round
          case rel => exact ⟨k + 1, true, by omega, rfl, by go_num, HN⟩
          case measure => simp [intOf]; omega
      · cases j
        · have HN := Lib.hid (between_stop hb.out H.out (by unfold inB; rw [if_neg hc.2.1, if_neg hc.1]; simp [blankB, hc.2.1, hc.2.2.1, hc.2.2.2.1, hc.2.2.2.2]))
          clear H hb
          have f35 : (((s[k]).toNat : Int) == 35) = false := by simp; omega
          have n35 : (((s[k]).toNat : Int) != 35) = true := by simp; omega
          have f10 : (((s[k]).toNat : Int) == 10) = false := by simp; omega
          have n10 : (((s[k]).toNat : Int) != 10) = true := by simp; omega
          have f9 : (((s[k]).toNat : Int) == 9) = false := by simp; omega
          have n9 : (((s[k]).toNat : Int) != 9) = true := by simp; omega
          have f13 : (((s[k]).toNat : Int) == 13) = false := by simp; omega
          have n13 : (((s[k]).toNat : Int) != 13) = true := by simp; omega
          have f32 : (((s[k]).toNat : Int) == 32) = false := by simp; omega
          have n32 : (((s[k]).toNat : Int) != 32) = true := by simp; omega
          clear hc
          go_wp2
          go_ret
          exact ⟨ret_bool HN.out.symm, rfl⟩
        · have hin : inB true (s[k]).toNat = true := by unfold inB; rw [if_neg hc.2.1, if_neg hc.1]
          have HN0 := between_step hb.out H.out (show (inB true (s[k]).toNat || blankB (s[k]).toNat) = true by rw [hin]; rfl)
          rw [hin] at HN0
          clear hin
          have HN := Lib.hid HN0
          clear H hb HN0
          have f35 : (((s[k]).toNat : Int) == 35) = false := by simp; omega
          have n35 : (((s[k]).toNat : Int) != 35) = true := by simp; omega
          have f10 : (((s[k]).toNat : Int) == 10) = false := by simp; omega
          have n10 : (((s[k]).toNat : Int) != 10) = true := by simp; omega
          have f9 : (((s[k]).toNat : Int) == 9) = false := by simp; omega
          have n9 : (((s[k]).toNat : Int) != 9) = true := by simp; omega
          have f13 : (((s[k]).toNat : Int) == 13) = false := by simp; omega
          have n13 : (((s[k]).toNat : Int) != 13) = true := by simp; omega
          have f32 : (((s[k]).toNat : Int) == 32) = false := by simp; omega
          have n32 : (((s[k]).toNat : Int) != 32) = true := by simp; omega
          clear hc
          go_wp2
          go_round
          case rel => exact ⟨k + 1, true, by omega, rfl, by go_num, HN⟩
          case measure => simp [intOf]; omega
    · have HK := Lib.hid (show betweenB false (bl s) = true by rw [H.out, List.drop_of_length_le (by rw [bl_length]; omega)]; cases j <;> rfl)
      clear H
      go_wp2
      go_ret
      exact ⟨ret_bool HK.out.symm, rfl⟩
end Go.Proofs.YtghgaelbjcggcaaDoor
