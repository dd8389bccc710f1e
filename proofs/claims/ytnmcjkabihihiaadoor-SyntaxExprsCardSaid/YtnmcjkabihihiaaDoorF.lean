/- The contract of first of package lex: for every text that is not empty and every memory in which the library's error lies. -/
import Derived.Test.YtnmcjkabihihiaaDoorE
namespace Go.Proofs.YtnmcjkabihihiaaDoor
open Go Go.RowKit

/-- What a call that answers a token and an error comes to. -/
def TokRes (W : World) (k : Int) (t : ByteArray) (v er : Int) (e : Ending) (W' : World) : Prop := e = .returned (.tuple #[tokV k t v 0, .int .i64 er]) ∧ Below W.heap.size W W'

theorem below_box {w w1 : World} {o : Obj} (hb : Below (w.alloc o).heap.size (w.alloc o) w1) : Below w.heap.size w w1 :=
  ((Below.refl _ w).alloc (Nat.le_refl _) o).trans (hb.mono (by simp))

set_option maxRecDepth 100000 in
theorem first_letter (s : ByteArray) (h0 : 0 < s.size) (hs : s.size ≤ 9223372036854775806) (hl : letterB (s[0]).toNat = true) (k : Int) (t : ByteArray) (v er : Int) (n : Nat) (hn : ((bl s).takeWhile nameB).length = n)
    (hcall : ∀ W, Env W → Calls Tryd.prog 61 #[.string (s.extract 0 n)] W (TokRes W k t v er)) (w : World) (hE : Env w) : Calls Tryd.prog 45 #[.string s] w (TokRes w k t v er) := by
  have hlt := hE.lt
  have hn2 : n ≤ s.size := by rw [← hn, ← bl_length]; exact (List.takeWhile_sublist _).length_le
  have hl1 := Lib.hid (fun W => hl ▸ isLetter_any (s[0]).toNat W)
  have hr := Lib.hid (fun W => hn ▸ run_name s hs W)
  have hc := Lib.hid (hcall _ (hE.below ((Below.refl _ w).alloc (Nat.le_refl _) (.cells #[.int .i64 0, .string ⟨#[]⟩, .int .i64 0, .int .i64 0] 54)) hlt))
  clear hl hcall hn
  go_enter Tryd.func45, Tryd.ntmps45
  go_wp2_with (first | (go_at_call 60; refine (hl1.out _).mono ?_; rintro e w' ⟨rfl, rfl⟩) | (go_at_call 57; refine (hr.out _).mono ?_; rintro e w' ⟨rfl, rfl⟩) | (go_at_call 61; refine hc.out.mono ?_))
  rintro e w1 ⟨rfl, hb⟩
  have s1 := hb.size
  simp only [World.size_alloc] at s1
  obtain ⟨k0, k1, k2, k3, f0, f1, f2, f3⟩ := (TokAt.new w 0 ⟨#[]⟩ 0 0 54).below hb (by simp)
  have hB := below_box hb
  clear hb
  go_wp2
  exact bodyPost_ret (v := .tuple #[tokV k t v 0, .int .i64 er]) (by simp [results, Tryd.results45, go_sem, k0, k1, k2, k3]) rfl ⟨rfl, set4 hB (Nat.le_refl _) _ _ _ _⟩

set_option maxRecDepth 100000 in
theorem first_digit (s : ByteArray) (h0 : 0 < s.size) (hs : s.size ≤ 9223372036854775806) (hl : letterB (s[0]).toNat = false) (hd : digitB (s[0]).toNat = true) (k : Int) (t : ByteArray) (v er : Int) (n : Nat) (hn : ((bl s).takeWhile digitB).length = n)
    (hcall : ∀ W, Env W → Calls Tryd.prog 64 #[.string (s.extract 0 n)] W (TokRes W k t v er)) (w : World) (hE : Env w) : Calls Tryd.prog 45 #[.string s] w (TokRes w k t v er) := by
  have hlt := hE.lt
  have hn2 : n ≤ s.size := by rw [← hn, ← bl_length]; exact (List.takeWhile_sublist _).length_le
  have hl1 := Lib.hid (fun W => hl ▸ isLetter_any (s[0]).toNat W)
  have hd1 := Lib.hid (fun W => hd ▸ isDigit_any (s[0]).toNat W)
  have hr := Lib.hid (fun W => hn ▸ run_digit s hs W)
  have hc := Lib.hid (hcall _ (hE.below ((Below.refl _ w).alloc (Nat.le_refl _) (.cells #[.int .i64 0, .string ⟨#[]⟩, .int .i64 0, .int .i64 0] 54)) hlt))
  clear hl hd hcall hn
  go_enter Tryd.func45, Tryd.ntmps45
  go_wp2_with (first | (go_at_call 60; refine (hl1.out _).mono ?_; rintro e w' ⟨rfl, rfl⟩) | (go_at_call 63; refine (hd1.out _).mono ?_; rintro e w' ⟨rfl, rfl⟩) | (go_at_call 57; refine (hr.out _).mono ?_; rintro e w' ⟨rfl, rfl⟩) | (go_at_call 64; refine hc.out.mono ?_))
  rintro e w1 ⟨rfl, hb⟩
  have s1 := hb.size
  simp only [World.size_alloc] at s1
  obtain ⟨k0, k1, k2, k3, f0, f1, f2, f3⟩ := (TokAt.new w 0 ⟨#[]⟩ 0 0 54).below hb (by simp)
  have hB := below_box hb
  clear hb
  go_wp2
  exact bodyPost_ret (v := .tuple #[tokV k t v 0, .int .i64 er]) (by simp [results, Tryd.results45, go_sem, k0, k1, k2, k3]) rfl ⟨rfl, set4 hB (Nat.le_refl _) _ _ _ _⟩

set_option maxRecDepth 100000 in
theorem first_mark (s : ByteArray) (h0 : 0 < s.size) (hl : letterB (s[0]).toNat = false) (hd : digitB (s[0]).toNat = false) (k : Int) (t : ByteArray) (v er : Int)
    (hcall : ∀ W, Calls Tryd.prog 65 #[.string s] W (TokRes W k t v er)) (w : World) : Calls Tryd.prog 45 #[.string s] w (TokRes w k t v er) := by
  have hl1 := Lib.hid (fun W => hl ▸ isLetter_any (s[0]).toNat W)
  have hd1 := Lib.hid (fun W => hd ▸ isDigit_any (s[0]).toNat W)
  have hc := Lib.hid (hcall)
  clear hl hd hcall
  go_enter Tryd.func45, Tryd.ntmps45
  go_wp2_with (first | (go_at_call 60; refine (hl1.out _).mono ?_; rintro e w' ⟨rfl, rfl⟩) | (go_at_call 63; refine (hd1.out _).mono ?_; rintro e w' ⟨rfl, rfl⟩) | (go_at_call 65; refine (hc.out _).mono ?_))
  rintro e w1 ⟨rfl, hb⟩
  have s1 := hb.size
  simp only [World.size_alloc] at s1
  obtain ⟨k0, k1, k2, k3, f0, f1, f2, f3⟩ := (TokAt.new w 0 ⟨#[]⟩ 0 0 54).below hb (by simp)
  have hB := below_box hb
  clear hb
  go_wp2
  exact bodyPost_ret (v := .tuple #[tokV k t v 0, .int .i64 er]) (by simp [results, Tryd.results45, go_sem, k0, k1, k2, k3]) rfl ⟨rfl, set4 hB (Nat.le_refl _) _ _ _ _⟩

theorem bl_take (s : ByteArray) (n : Nat) : bl (s.extract 0 n) = (bl s).take n := by rw [bl_extract, List.drop_zero]
theorem size_take (s : ByteArray) (n : Nat) (h : n ≤ s.size) : (s.extract 0 n).size = n := by rw [← bl_length, bl_take, List.length_take, bl_length]; omega

theorem wordL_letter {c : Nat} {r : List Nat} (h : letterB c = true) : wordL (c :: r) = (((c :: r).takeWhile nameB).length, if (c :: r).take ((c :: r).takeWhile nameB).length ∈ keysL then 2 else 1) := by rw [wordL, if_pos h]
theorem wordL_digit {c : Nat} {r : List Nat} (hl : letterB c = false) (h : digitB c = true) : wordL (c :: r) = (((c :: r).takeWhile digitB).length, 3) := by rw [wordL, if_neg (by rw [hl]; simp), if_pos h]
theorem wordL_mark {c : Nat} {r : List Nat} (hl : letterB c = false) (h : digitB c = false) : wordL (c :: r) = if (c :: r).take 2 ∈ mark2 then (2, 4) else if c ∈ mark1 then (1, 4) else (0, 0) := by rw [wordL, if_neg (by rw [hl]; simp), if_neg (by rw [h]; simp)]
theorem take2_mark {l : List Nat} (h : 2 ≤ l.length) : l.take 2 ∈ marksL ↔ l.take 2 ∈ mark2 := by
  match l, h with
  | a :: b :: r, _ =>
    simp only [marksL, List.mem_append, List.take_succ_cons, List.take_zero]
    constructor
    · rintro (h | h)
      · simp [mark1] at h
      · exact h
    · exact .inr
theorem take1_mark (c : Nat) : [c] ∈ marksL ↔ c ∈ mark1 := by
  simp [marksL, mark1, mark2]
theorem not_mark2 {l : List Nat} (h : l.length < 2) : l.take 2 ∉ mark2 := by
  intro hm
  have : (l.take 2).length = 2 := (show ∀ m ∈ mark2, m.length = 2 by decide) _ hm
  rw [List.length_take] at this
  omega

theorem first_ok (s : ByteArray) (h0 : 0 < s.size) (hs : s.size ≤ 281474976710656) (h : errL (bl s) = 0) (w : World) (hE : Env w) :
    Calls Tryd.prog 45 #[.string s] w (TokRes w ((wordL (bl s)).2 : Nat) (s.extract 0 (wordL (bl s)).1) ((valL (bl s) : Nat) : Int) 0) := by
  have hg := bl_get s 0 h0
  have hle := wordL_le (bl s)
  rw [bl_length] at hle
  have hbt := bl_take s (wordL (bl s)).1
  have hst := size_take s (wordL (bl s)).1 hle
  have h1 := bl_take s 1
  have h2 := bl_take s 2
  have hlen := bl_length s
  obtain ⟨c, hc⟩ : ∃ c, (s[0]).toNat = c := ⟨_, rfl⟩
  rw [hc] at hg
  obtain ⟨r, hr⟩ : ∃ r, bl s = c :: r := by
    cases hb : bl s with
    | nil => rw [hb] at hg; simp at hg
    | cons d r => rw [hb] at hg; simp at hg; exact ⟨r, by rw [hg]⟩
  have hw0 : (wordL (bl s)).1 ≠ 0 := by
    intro e; rw [errL, if_pos e] at h; exact absurd h (by decide)
  rw [errL, if_neg hw0] at h
  have hn1 : ¬ ((wordL (bl s)).2 = 1 ∧ 32 < (wordL (bl s)).1) := by
    intro e; rw [if_pos e] at h; exact absurd h (by decide)
  rw [if_neg hn1] at h
  have hn2 : ¬ ((wordL (bl s)).2 = 3 ∧ most < valD ((bl s).take (wordL (bl s)).1)) := by
    intro e; rw [if_pos e] at h; exact absurd h (by decide)
  clear h
  by_cases hl : letterB c = true
  · have hw : wordL (bl s) = (((bl s).takeWhile nameB).length, if (bl s).take ((bl s).takeWhile nameB).length ∈ keysL then 2 else 1) := by rw [hr]; exact wordL_letter hl
    have hn : ((bl s).takeWhile nameB).length = (wordL (bl s)).1 := by rw [hw]
    refine first_letter s h0 (by omega) (by rw [hc]; exact hl) _ _ _ _ (wordL (bl s)).1 hn (fun W _ => ?_) w hE
    by_cases hk : (bl s).take ((bl s).takeWhile nameB).length ∈ keysL
    · have e2 : (wordL (bl s)).2 = 2 := by rw [hw]; exact if_pos hk
      have hv : valL (bl s) = 0 := by rw [valL, e2]; rfl
      rw [e2, hv]
      exact name_key _ (by rw [hbt, ← hn]; exact hk) W
    · have e2 : (wordL (bl s)).2 = 1 := by rw [hw]; exact if_neg hk
      have hv : valL (bl s) = 0 := by rw [valL, e2]; rfl
      rw [e2, hv]
      exact name_ok _ (by rw [hbt, ← hn]; exact hk) (by rw [hst]; rw [e2] at hn1; omega) W
  · have hl : letterB c = false := by simpa using hl
    by_cases hd : digitB c = true
    · have hw : wordL (bl s) = (((bl s).takeWhile digitB).length, 3) := by rw [hr]; exact wordL_digit hl hd
      have hn : ((bl s).takeWhile digitB).length = (wordL (bl s)).1 := by rw [hw]
      have e2 : (wordL (bl s)).2 = 3 := by rw [hw]
      have hv : valL (bl s) = valD (bl (s.extract 0 (wordL (bl s)).1)) := by rw [valL, e2, hbt]; rfl
      refine first_digit s h0 (by omega) (by rw [hc]; exact hl) (by rw [hc]; exact hd) _ _ _ _ (wordL (bl s)).1 hn (fun W _ => ?_) w hE
      rw [e2, hv]
      refine number_ok _ (by rw [hst]; omega) (fun x hx => ?_) (by rw [hst]; omega) ?_ W
      · rw [hbt, ← hn, takeWhile_is_take] at hx
        exact mem_takeWhile _ x hx
      · rw [hbt]; rw [e2] at hn2; omega
    · have hd : digitB c = false := by simpa using hd
      have hw : wordL (bl s) = if (bl s).take 2 ∈ mark2 then (2, 4) else if c ∈ mark1 then (1, 4) else (0, 0) := by
        have := wordL_mark (r := r) hl hd
        rw [← hr] at this; exact this
      refine first_mark s h0 (by rw [hc]; exact hl) (by rw [hc]; exact hd) _ _ _ _ (fun W => ?_) w
      have ht1 : (bl s).take 1 = [c] := by rw [hr]; rfl
      by_cases hm2 : (bl s).take 2 ∈ mark2
      · have hsz : 2 ≤ s.size := by
          rw [← hlen]
          rcases Nat.lt_or_ge (bl s).length 2 with hh | hh
          · exact absurd hm2 (not_mark2 hh)
          · exact hh
        rw [if_pos hm2] at hw
        have hv : valL (bl s) = 0 := by rw [valL, hw]; rfl
        rw [hv, hw]
        exact mark_two s hsz (by omega) (by rw [h2]; exact (take2_mark (by rw [hlen]; exact hsz)).2 hm2) W
      · rw [if_neg hm2] at hw
        by_cases hm1 : c ∈ mark1
        · rw [if_pos hm1] at hw
          have hv : valL (bl s) = 0 := by rw [valL, hw]; rfl
          rw [hv, hw]
          exact mark_one s h0 (by omega) (by rw [h1, ht1]; exact (take1_mark c).2 hm1) (fun hsz => by rw [h2]; exact fun hh => hm2 ((take2_mark (by rw [hlen]; exact hsz)).1 hh)) W
        · rw [if_neg hm1] at hw
          exact absurd (by rw [hw]) hw0

theorem first_bad (s : ByteArray) (h0 : 0 < s.size) (hs : s.size ≤ 281474976710656) (h : errL (bl s) ≠ 0) (w : World) (hE : Env w) :
    Calls Tryd.prog 45 #[.string s] w (TokRes w 0 ⟨#[]⟩ 0 ((errL (bl s) : Nat) : Int)) := by
  have hg := bl_get s 0 h0
  have hle := wordL_le (bl s)
  rw [bl_length] at hle
  have hbt := bl_take s (wordL (bl s)).1
  have hst := size_take s (wordL (bl s)).1 hle
  have h1 := bl_take s 1
  have h2 := bl_take s 2
  have hlen := bl_length s
  obtain ⟨c, hc⟩ : ∃ c, (s[0]).toNat = c := ⟨_, rfl⟩
  rw [hc] at hg
  obtain ⟨r, hr⟩ : ∃ r, bl s = c :: r := by
    cases hb : bl s with
    | nil => rw [hb] at hg; simp at hg
    | cons d r => rw [hb] at hg; simp at hg; exact ⟨r, by rw [hg]⟩
  by_cases hl : letterB c = true
  · have hw : wordL (bl s) = (((bl s).takeWhile nameB).length, if (bl s).take ((bl s).takeWhile nameB).length ∈ keysL then 2 else 1) := by rw [hr]; exact wordL_letter hl
    have hn : ((bl s).takeWhile nameB).length = (wordL (bl s)).1 := by rw [hw]
    have hnm : nameB c = true := by unfold nameB; rw [hl]; rfl
    have hn0 : (wordL (bl s)).1 ≠ 0 := by rw [← hn, hr, List.takeWhile_cons, if_pos hnm]; simp
    refine first_letter s h0 (by omega) (by rw [hc]; exact hl) _ _ _ _ (wordL (bl s)).1 hn (fun W _ => ?_) w hE
    by_cases hk : (bl s).take ((bl s).takeWhile nameB).length ∈ keysL
    · have e2 : (wordL (bl s)).2 = 2 := by rw [hw]; exact if_pos hk
      exact absurd (by rw [errL, if_neg hn0, e2]; simp) h
    · have e2 : (wordL (bl s)).2 = 1 := by rw [hw]; exact if_neg hk
      by_cases h32 : 32 < (wordL (bl s)).1
      · have he : errL (bl s) = 3 := by rw [errL, if_neg hn0, if_pos ⟨e2, h32⟩]
        rw [he]
        exact name_long _ (by rw [hbt, ← hn]; exact hk) (by rw [hst]; exact h32) W
      · exact absurd (by rw [errL, if_neg hn0, e2, if_neg (by omega), if_neg (by simp)]) h
  · have hl : letterB c = false := by simpa using hl
    by_cases hd : digitB c = true
    · have hw : wordL (bl s) = (((bl s).takeWhile digitB).length, 3) := by rw [hr]; exact wordL_digit hl hd
      have hn : ((bl s).takeWhile digitB).length = (wordL (bl s)).1 := by rw [hw]
      have e2 : (wordL (bl s)).2 = 3 := by rw [hw]
      have hn0 : (wordL (bl s)).1 ≠ 0 := by rw [← hn, hr, List.takeWhile_cons, if_pos hd]; simp
      refine first_digit s h0 (by omega) (by rw [hc]; exact hl) (by rw [hc]; exact hd) _ _ _ _ (wordL (bl s)).1 hn (fun W hEW => ?_) w hE
      by_cases hm : most < valD ((bl s).take (wordL (bl s)).1)
      · have he : errL (bl s) = 3 := by rw [errL, if_neg hn0, if_neg (by rw [e2]; omega), if_pos ⟨e2, hm⟩]
        rw [he]
        refine number_big _ (by rw [hst]; omega) (fun x hx => ?_) (by rw [hst]; omega) (by rw [hbt]; exact hm) W hEW
        rw [hbt, ← hn, takeWhile_is_take] at hx
        exact mem_takeWhile _ x hx
      · exact absurd (by rw [errL, if_neg hn0, if_neg (by rw [e2]; omega), if_neg (fun x => hm x.2)]) h
    · have hd : digitB c = false := by simpa using hd
      have hw : wordL (bl s) = if (bl s).take 2 ∈ mark2 then (2, 4) else if c ∈ mark1 then (1, 4) else (0, 0) := by
        have := wordL_mark (r := r) hl hd
        rw [← hr] at this; exact this
      refine first_mark s h0 (by rw [hc]; exact hl) (by rw [hc]; exact hd) _ _ _ _ (fun W => ?_) w
      have ht1 : (bl s).take 1 = [c] := by rw [hr]; rfl
      by_cases hm2 : (bl s).take 2 ∈ mark2
      · rw [if_pos hm2] at hw
        exact absurd (by rw [errL, hw]; simp) h
      · rw [if_neg hm2] at hw
        by_cases hm1 : c ∈ mark1
        · rw [if_pos hm1] at hw
          exact absurd (by rw [errL, hw]; simp) h
        · rw [if_neg hm1] at hw
          have he : errL (bl s) = 40 := by rw [errL, hw, if_pos rfl]
          rw [he]
          exact mark_no s h0 (by omega) (by rw [h1, ht1]; exact fun hh => hm1 ((take1_mark c).1 hh)) (fun hsz => by rw [h2]; exact fun hh => hm2 ((take2_mark (by rw [hlen]; exact hsz)).1 hh)) W
end Go.Proofs.YtnmcjkabihihiaaDoor
