/- Plain: a text's words set apart anew, by whatever blanks, line ends and comments, are the same words (kind, text, number). -/
import Derived.Test.YtbojklbnfgopfaaGreatDoorQ1
import Derived.Test.YtbojklbnfgopfaaGreatDoorQ3
import Derived.Test.YtbojklbnfgopfaaGreatDoorQ16
import Derived.Deep.Cut
import Derived.BigRegion
namespace Go.Proofs.YtbojklbnfgopfaaGreatDoor
open Go

theorem blank_word {x : Nat} (h : blankB x = true) : nameB x = false ∧ digitB x = false ∧ x ∉ mark1 ∧ ∀ m ∈ mark2, x ∉ m := by
  have : x = 9 ∨ x = 10 ∨ x = 13 ∨ x = 32 := by simpa [blankB, or_assoc] using h
  rcases this with rfl | rfl | rfl | rfl <;> decide
/-- A word, again, with whatever blank behind it. -/
theorem wordL_blank (s : List Nat) (h : (wordL s).1 ≠ 0) (b : Nat) (hb : blankB b = true) (r : List Nat) : wordL (s.take (wordL s).1 ++ b :: r) = wordL s := by
  obtain ⟨hb1, hb2, _, hb4⟩ := blank_word hb
  cases s with
  | nil => exact absurd rfl h
  | cons c l =>
    have hx : ∀ x, (b :: r).head? = some x → nameB x = false ∧ digitB x = false := by
      intro x hx
      obtain rfl : b = x := by simpa using hx
      exact ⟨hb1, hb2⟩
    by_cases hl : letterB c = true
    · have hw : wordL (c :: l) = (((c :: l).takeWhile nameB).length, if (c :: l).take ((c :: l).takeWhile nameB).length ∈ keysL then 2 else 1) := by
        rw [wordL, if_pos hl]
      rw [hw]
      simp only
      rw [takeWhile_is_take]
      have hn : nameB c = true := by unfold nameB; rw [hl]; rfl
      have hc : (c :: l).takeWhile nameB = c :: l.takeWhile nameB := by rw [List.takeWhile_cons, if_pos hn]
      have hst : ((c :: l).takeWhile nameB ++ b :: r).takeWhile nameB = (c :: l).takeWhile nameB := takeWhile_stop _ _ (fun x hx => mem_takeWhile _ x hx) (fun x h => (hx x h).1)
      rw [hc] at hst ⊢
      rw [List.cons_append] at hst ⊢
      rw [wordL, if_pos hl]
      simp only
      rw [hst, ← List.cons_append, List.take_left]
    · by_cases hd : digitB c = true
      · have hw : wordL (c :: l) = (((c :: l).takeWhile digitB).length, 3) := by rw [wordL, if_neg hl, if_pos hd]
        rw [hw]
        simp only
        rw [takeWhile_is_take]
        have hc : (c :: l).takeWhile digitB = c :: l.takeWhile digitB := by rw [List.takeWhile_cons, if_pos hd]
        have hst : ((c :: l).takeWhile digitB ++ b :: r).takeWhile digitB = (c :: l).takeWhile digitB := takeWhile_stop _ _ (fun x hx => mem_takeWhile _ x hx) (fun x h => (hx x h).2)
        rw [hc] at hst ⊢
        rw [List.cons_append] at hst ⊢
        rw [wordL, if_neg hl, if_pos hd, hst]
      · by_cases h2 : (c :: l).take 2 ∈ mark2
        · have hw : wordL (c :: l) = (2, 4) := by rw [wordL, if_neg hl, if_neg hd, if_pos h2]
          rw [hw]
          simp only
          obtain ⟨d, l', rfl⟩ : ∃ d l', l = d :: l' := by
            cases l with
            | nil => exact absurd h2 (by simp [mark2])
            | cons d l' => exact ⟨d, l', rfl⟩
          show wordL (c :: d :: b :: r) = (2, 4)
          rw [wordL, if_neg hl, if_neg hd, if_pos (by exact h2)]
        · by_cases h1 : c ∈ mark1
          · have hw : wordL (c :: l) = (1, 4) := by rw [wordL, if_neg hl, if_neg hd, if_neg h2, if_pos h1]
            rw [hw]
            show wordL (c :: b :: r) = (1, 4)
            rw [wordL, if_neg hl, if_neg hd, if_neg ?_, if_pos h1]
            intro hm
            exact hb4 _ hm (by simp)
          · exact absurd (by rw [wordL, if_neg hl, if_neg hd, if_neg h2, if_neg h1]) h
theorem scanL_goodB {k v : Nat} {t : List Nat} (h : Good k t v) (b : Nat) (hb : blankB b = true) (r : List Nat) (a : Nat) :
    scanL (t ++ b :: r) a = (⟨k, t, v, a⟩ :: (scanL (b :: r) (a + t.length)).1, (scanL (b :: r) (a + t.length)).2) := by
  obtain ⟨hw, hs, hh, hn, hu, hv⟩ := h
  have hag : wordL (t ++ b :: r) = (t.length, k) := by
    have := wordL_blank t (by rw [hw]; exact fun e => hs (List.eq_nil_of_length_eq_zero e)) b hb r
    rw [hw] at this
    simpa using this
  cases t with
  | nil => exact absurd rfl hs
  | cons c t =>
    obtain ⟨h1, h2⟩ := hh c rfl
    have htk : ((c :: t) ++ b :: r).take (c :: t).length = c :: t := List.take_left
    have hdr : ((c :: t) ++ b :: r).drop (c :: t).length = b :: r := List.drop_left
    rw [List.cons_append] at hag htk hdr ⊢
    rw [scanL, if_neg (by rw [h1]; simp), dif_neg h2, hag, dif_neg (by simp), if_neg hn]
    simp only
    rw [htk, hdr, if_neg hu, hv]
/-- What may stand between two words: a blank, then blanks and whole comments. -/
structure Gap (g : List Nat) : Prop where
  head : ∃ b r, g = b :: r ∧ blankB b = true
  pass : ∀ r a, scanL (g ++ r) a = scanL r (a + g.length)
theorem pass_blank {b : Nat} (h : blankB b = true) {g : List Nat} (hg : ∀ r a, scanL (g ++ r) a = scanL r (a + g.length)) (r : List Nat) (a : Nat) : scanL (b :: g ++ r) a = scanL r (a + (b :: g).length) := by
  rw [List.cons_append, scanL_blank _ _ h, hg, List.length_cons]; congr 1; omega
theorem pass_nil (r : List Nat) (a : Nat) : scanL ([] ++ r) a = scanL r (a + ([] : List Nat).length) := rfl
/-- A comment and its line end. -/
theorem pass_comment (c : List Nat) (hc : ∀ x ∈ c, x ≠ 10) {g : List Nat} (hg : ∀ r a, scanL (g ++ r) a = scanL r (a + g.length)) (r : List Nat) (a : Nat) : scanL (35 :: c ++ 10 :: g ++ r) a = scanL r (a + (35 :: c ++ 10 :: g).length) := by
  have h1 : (35 :: c ++ (10 :: (g ++ r))).takeWhile inC = 35 :: c := takeWhile_stop _ _ (fun x hx => by
    rcases List.mem_cons.1 hx with rfl | hx
    · decide
    · simpa [inC] using hc x hx) (fun x hx => by
    obtain rfl : 10 = x := by simpa using hx
    decide)
  have h2 : (35 :: c ++ (10 :: (g ++ r))).dropWhile inC = 10 :: (g ++ r) := by
    have := List.takeWhile_append_dropWhile (p := inC) (l := 35 :: c ++ (10 :: (g ++ r)))
    rw [h1] at this
    exact List.append_cancel_left this
  have e : 35 :: c ++ 10 :: g ++ r = 35 :: (c ++ (10 :: (g ++ r))) := by simp
  have e2 : 35 :: c ++ (10 :: (g ++ r)) = 35 :: (c ++ (10 :: (g ++ r))) := rfl
  rw [e2] at h1 h2
  rw [e, scan_comment, h1, h2, scanL_blank _ _ (by decide), hg]
  congr 1
  simp; omega
theorem gap_1 : Gap [32] := ⟨⟨_, _, rfl, by decide⟩, pass_blank (by decide) pass_nil⟩
theorem gap_2 : Gap [10, 9, 13] := ⟨⟨_, _, rfl, by decide⟩, pass_blank (by decide) (pass_blank (by decide) (pass_blank (by decide) pass_nil))⟩
/-- " # a } comment" and a line end. -/
theorem gap_3 : Gap [32, 35, 32, 97, 32, 125, 32, 99, 111, 109, 109, 101, 110, 116, 10] :=
  ⟨⟨_, _, rfl, by decide⟩, pass_blank (by decide) (pass_comment [32, 97, 32, 125, 32, 99, 111, 109, 109, 101, 110, 116] (by decide) pass_nil)⟩
theorem gap_4 : Gap [32, 32, 32] := ⟨⟨_, _, rfl, by decide⟩, pass_blank (by decide) (pass_blank (by decide) (pass_blank (by decide) pass_nil))⟩
/-- Words, each with what stands ahead of it. -/
def apart : List (List Nat × Tok) → List Nat
  | [] => []
  | p :: l => p.1 ++ p.2.text ++ apart l
theorem apart_head : ∀ (l : List (List Nat × Tok)), (∀ p ∈ l, Gap p.1) → ∃ b r, apart l ++ [10] = b :: r ∧ blankB b = true
  | [], _ => ⟨10, [], rfl, by decide⟩
  | p :: l, h => by
    obtain ⟨b, r, h1, h2⟩ := (h p (List.mem_cons_self ..)).head
    exact ⟨b, r ++ p.2.text ++ apart l ++ [10], by rw [apart, h1]; simp, h2⟩
/-- BLANKS, LINE ENDS AND COMMENTS MAKE NO DIFFERENCE: the same words, and no fault. -/
theorem scan_apart : ∀ (l : List (List Nat × Tok)), (∀ p ∈ l, Gap p.1) → (∀ p ∈ l, Good p.2.kind p.2.text p.2.value) → ∀ a,
    (scanL (apart l ++ [10]) a).2.2 = 0 ∧ (scanL (apart l ++ [10]) a).1.map (fun t => (t.kind, t.text, t.value)) = l.map (fun p => (p.2.kind, p.2.text, p.2.value))
  | [], _, _, a => by
    show (scanL [10] a).2.2 = 0 ∧ _
    rw [show apart [] ++ [10] = [10] from rfl, scanL_blank _ _ (by decide), scanL]
    exact ⟨rfl, rfl⟩
  | p :: l, hg, hw, a => by
    obtain ⟨b, r, h1, h2⟩ := apart_head l (fun q hq => hg q (List.mem_cons_of_mem _ hq))
    have hp := (hg p (List.mem_cons_self ..)).pass (p.2.text ++ (apart l ++ [10])) a
    have e : apart (p :: l) ++ [10] = p.1 ++ (p.2.text ++ (apart l ++ [10])) := by rw [apart]; simp
    have hs := scanL_goodB (hw p (List.mem_cons_self ..)) b h2 r (a + p.1.length)
    have ih := scan_apart l (fun q hq => hg q (List.mem_cons_of_mem _ hq)) (fun q hq => hw q (List.mem_cons_of_mem _ hq)) (a + p.1.length + p.2.text.length)
    rw [h1] at ih
    rw [e, hp, h1, hs]
    exact ⟨ih.1, by rw [List.map_cons, List.map_cons, ih.2]⟩
end Go.Proofs.YtbojklbnfgopfaaGreatDoor

/- Plain: a text cut behind a word, and gone on with otherwise behind a blank, has the same words up to that one. -/
namespace Go.Proofs.YtbojklbnfgopfaaGreatDoor
open Go

theorem split_same {l l' : List Nat} {n : Nat} (hlt : n < l.length) (h : l'.take (n + 1) = l.take (n + 1)) : ∃ x s s', l = l.take n ++ x :: s ∧ l' = l.take n ++ x :: s' := by
  have e1 : l.take (n + 1) = l.take n ++ [l[n]] := by rw [List.take_succ_eq_append_getElem hlt]
  refine ⟨l[n], l.drop (n + 1), l'.drop (n + 1), ?_, ?_⟩
  · have := List.take_append_drop (n + 1) l
    rw [e1, List.append_assoc] at this
    exact this.symm
  · have := List.take_append_drop (n + 1) l'
    rw [h, e1, List.append_assoc] at this
    exact this.symm
theorem run_same {p : Nat → Bool} {l l' : List Nat} (hlt : (l.takeWhile p).length < l.length) (h : l'.take ((l.takeWhile p).length + 1) = l.take ((l.takeWhile p).length + 1)) : l'.takeWhile p = l.takeWhile p := by
  obtain ⟨x, s, s', e1, e2⟩ := split_same hlt h
  rw [takeWhile_is_take] at e1 e2
  have hx : p x = false := by
    cases hp : p x with
    | false => rfl
    | true =>
      have : l.takeWhile p = l.takeWhile p ++ (x :: s).takeWhile p := by
        conv => lhs; rw [e1]
        rw [List.takeWhile_append_of_pos (fun y hy => mem_takeWhile _ y hy)]
      have := congrArg List.length this
      rw [List.length_append, List.takeWhile_cons, if_pos hp, List.length_cons] at this
      omega
  conv => lhs; rw [e2]
  exact takeWhile_stop _ _ (fun y hy => mem_takeWhile _ y hy) (fun y hy => by
    obtain rfl : x = y := by simpa using hy
    exact hx)
/-- The word at a text's head hangs on its bytes and the one behind them. -/
theorem wordL_local {l l' : List Nat} (h0 : (wordL l).1 ≠ 0) (hlt : (wordL l).1 < l.length) (h : l'.take ((wordL l).1 + 1) = l.take ((wordL l).1 + 1)) : wordL l' = wordL l := by
  cases l with
  | nil => exact absurd rfl h0
  | cons c r =>
    obtain ⟨m, hm⟩ : ∃ m, (wordL (c :: r)).1 = m + 1 := ⟨(wordL (c :: r)).1 - 1, by omega⟩
    cases l' with
    | nil => rw [hm] at h; simp at h
    | cons c' r' =>
      obtain rfl : c' = c := by
        rw [hm, List.take_succ_cons, List.take_succ_cons] at h
        injection h
      by_cases hl : letterB c' = true
      · have hw : wordL (c' :: r) = (((c' :: r).takeWhile nameB).length, if (c' :: r).take ((c' :: r).takeWhile nameB).length ∈ keysL then 2 else 1) := by rw [wordL, if_pos hl]
        rw [hw] at hlt h
        have e := run_same hlt h
        rw [hw, wordL, if_pos hl]
        simp only
        rw [takeWhile_is_take, takeWhile_is_take, e]
      · by_cases hd : digitB c' = true
        · have hw : wordL (c' :: r) = (((c' :: r).takeWhile digitB).length, 3) := by rw [wordL, if_neg hl, if_pos hd]
          rw [hw] at hlt h
          have e := run_same hlt h
          rw [hw, wordL, if_neg hl, if_pos hd, e]
        · by_cases h2 : (c' :: r).take 2 ∈ mark2
          · have hw : wordL (c' :: r) = (2, 4) := by rw [wordL, if_neg hl, if_neg hd, if_pos h2]
            rw [hw] at h
            have e : (c' :: r').take 2 = (c' :: r).take 2 := by
              have := congrArg (List.take 2) h
              simpa [List.take_take] using this
            rw [hw, wordL, if_neg hl, if_neg hd, e, if_pos h2]
          · by_cases h1 : c' ∈ mark1
            · have hw : wordL (c' :: r) = (1, 4) := by rw [wordL, if_neg hl, if_neg hd, if_neg h2, if_pos h1]
              rw [hw] at h
              rw [hw, wordL, if_neg hl, if_neg hd, show (c' :: r').take 2 = (c' :: r).take 2 from h, if_neg h2, if_pos h1]
            · exact absurd (by rw [wordL, if_neg hl, if_neg hd, if_neg h2, if_neg h1]) h0
/-- Words stand from the place on at which the text begins. -/
theorem scan_at : ∀ (N : Nat) (l : List Nat), l.length ≤ N → ∀ a, ∀ t ∈ (scanL l a).1, a ≤ t.at_
  | _, [], _, a, t, ht => by rw [scanL] at ht; exact absurd ht (by simp)
  | 0, c :: r, h, _, _, _ => absurd h (by simp)
  | N + 1, c :: r, h, a, t, ht => by
    have hr : r.length ≤ N := by simpa using h
    by_cases hb : blankB c = true
    · rw [scanL_blank r a hb] at ht
      have := scan_at N r hr _ t ht
      omega
    · have hb : blankB c = false := by simpa using hb
      by_cases h35 : c = 35
      · subst h35
        rw [scan_comment] at ht
        have := scan_at N _ (by have := dropWhile_lt r; rw [List.length_cons] at this; omega) _ t ht
        omega
      · by_cases he : errL (c :: r) = 0
        · rw [scan_word a hb h35 he] at ht
          rcases List.mem_cons.1 ht with rfl | ht
          · exact Nat.le_refl _
          · have := scan_at N _ (by have := drop_lt c r _ (errL_word he); rw [List.length_cons] at this; omega) _ t ht
            omega
        · rw [scan_err a hb h35 he] at ht
          exact absurd ht (by simp)
/-- Behind word i cut, and gone on with behind a blank: the words up to it stay. -/
theorem scan_ahead : ∀ (N : Nat) (l : List Nat), l.length ≤ N → ∀ (a i : Nat) (t : Tok) (more : List Nat), (scanL l a).1[i]? = some t →
    (scanL (l.take (t.at_ + t.text.length - a) ++ 32 :: more) a).1.take (i + 1) = (scanL l a).1.take (i + 1)
  | _, [], _, a, i, t, _, ht => by rw [scanL] at ht; exact absurd ht (by simp)
  | 0, c :: r, h, _, _, _, _, _ => absurd h (by simp)
  | N + 1, c :: r, h, a, i, t, more, ht => by
    have hr : r.length ≤ N := by simpa using h
    have hmem := List.mem_of_getElem? ht
    have hgood := scanL_all _ (c :: r) (Nat.le_refl _) a t hmem
    have hne : t.text.length ≠ 0 := fun e => hgood.ne (List.eq_nil_of_length_eq_zero e)
    by_cases hb : blankB c = true
    · rw [scanL_blank r a hb] at ht hmem ⊢
      have hat := scan_at _ r (Nat.le_refl _) _ t hmem
      have ih := scan_ahead N r hr (a + 1) i t more ht
      obtain ⟨e, he⟩ : ∃ e, t.at_ + t.text.length - a = e + 1 := ⟨t.at_ + t.text.length - (a + 1), by omega⟩
      rw [he, List.take_succ_cons, List.cons_append, scanL_blank _ a hb]
      rwa [show t.at_ + t.text.length - (a + 1) = e by omega] at ih
    · have hb : blankB c = false := by simpa using hb
      by_cases h35 : c = 35
      · subst h35
        obtain ⟨n, hn⟩ : ∃ n, ((35 :: r).takeWhile inC).length = n := ⟨_, rfl⟩
        rw [scan_comment, hn] at ht hmem ⊢
        have hat := scan_at _ _ (Nat.le_refl _) _ t hmem
        have ih := scan_ahead N _ (by have := dropWhile_lt r; rw [List.length_cons] at this; omega) (a + n) i t more ht
        have hd : (35 :: r).drop n = (35 :: r).dropWhile inC := by rw [← hn]; exact drop_takeWhile _
        have htk : (35 :: r).take n = (35 :: r).takeWhile inC := by rw [← hn]; exact takeWhile_is_take _
        have hnl : n < (35 :: r).length := by
          by_cases hc : n < (35 :: r).length
          · exact hc
          · rw [← hd, List.drop_eq_nil_of_le (by omega), scanL] at ht
            exact absurd ht (by simp)
        -- the cut text begins with the same comment
        have hcut : (35 :: r).take (t.at_ + t.text.length - a) ++ 32 :: more = (35 :: r).take n ++ (((35 :: r).drop n).take (t.at_ + t.text.length - (a + n)) ++ 32 :: more) := by
          rw [show t.at_ + t.text.length - a = n + (t.at_ + t.text.length - (a + n)) by omega, List.take_add, List.append_assoc]
        have hrun : ((35 :: r).take (t.at_ + t.text.length - a) ++ 32 :: more).takeWhile inC = (35 :: r).takeWhile inC := by
          refine run_same (by rw [hn]; exact hnl) ?_
          rw [hn, List.take_append_of_le_length (by rw [List.length_take]; omega), List.take_take, Nat.min_eq_left (by omega)]
        obtain ⟨q, hq⟩ : ∃ q, (35 :: r).take (t.at_ + t.text.length - a) ++ 32 :: more = 35 :: q := by
          obtain ⟨e, he⟩ : ∃ e, t.at_ + t.text.length - a = e + 1 := ⟨t.at_ + t.text.length - (a + 1), by omega⟩
          exact ⟨_, by rw [he, List.take_succ_cons, List.cons_append]⟩
        have hdrop : (35 :: q).dropWhile inC = ((35 :: r).drop n).take (t.at_ + t.text.length - (a + n)) ++ 32 :: more := by
          have := List.takeWhile_append_dropWhile (p := inC) (l := 35 :: q)
          rw [← hq, hrun, ← htk, hcut] at this
          rw [← hq, hcut]
          exact List.append_cancel_left this
        rw [hq] at hrun ⊢
        rw [scan_comment, hrun, hn, hdrop, hd]
        exact ih
      · by_cases he : errL (c :: r) = 0
        · have hsw := scan_word a hb h35 he
          obtain ⟨n, hn⟩ : ∃ n, (wordL (c :: r)).1 = n := ⟨_, rfl⟩
          have hn0 := errL_word he
          rw [hn] at hn0 hsw
          have hnle : n ≤ (c :: r).length := by rw [← hn]; exact wordL_le _
          cases i with
          | zero =>
            rw [hsw] at ht ⊢
            obtain rfl := Option.some.inj ht
            have hlen : ((c :: r).take n).length = n := by rw [List.length_take]; omega
            simp only [hlen, Nat.add_sub_cancel_left]
            rw [scanL_goodB hgood 32 (by decide) more a]
            rfl
          | succ i =>
            rw [hsw] at ht ⊢
            have ht' : (scanL ((c :: r).drop n) (a + n)).1[i]? = some t := ht
            have hat := scan_at _ _ (Nat.le_refl _) _ t (List.mem_of_getElem? ht')
            have ih := scan_ahead N _ (by have := drop_lt c r _ hn0; rw [List.length_cons] at this; omega) (a + n) i t more ht'
            have hnl : n < (c :: r).length := by
              by_cases hc : n < (c :: r).length
              · exact hc
              · rw [List.drop_eq_nil_of_le (by omega), scanL] at ht'
                exact absurd ht' (by simp)
            have hcut : (c :: r).take (t.at_ + t.text.length - a) ++ 32 :: more = (c :: r).take n ++ (((c :: r).drop n).take (t.at_ + t.text.length - (a + n)) ++ 32 :: more) := by
              rw [show t.at_ + t.text.length - a = n + (t.at_ + t.text.length - (a + n)) by omega, List.take_add, List.append_assoc]
            have hwl : wordL ((c :: r).take (t.at_ + t.text.length - a) ++ 32 :: more) = wordL (c :: r) := by
              refine wordL_local (by rw [hn]; exact hn0) (by rw [hn]; exact hnl) ?_
              rw [hn, List.take_append_of_le_length (by rw [List.length_take]; omega), List.take_take, Nat.min_eq_left (by omega)]
            obtain ⟨q, hq⟩ : ∃ q, (c :: r).take (t.at_ + t.text.length - a) ++ 32 :: more = c :: q := by
              obtain ⟨e, he⟩ : ∃ e, t.at_ + t.text.length - a = e + 1 := ⟨t.at_ + t.text.length - (a + 1), by omega⟩
              exact ⟨_, by rw [he, List.take_succ_cons, List.cons_append]⟩
            have hlen : ((c :: r).take n).length = n := by rw [List.length_take]; omega
            have htk : (c :: q).take n = (c :: r).take n := by rw [← hq, hcut, List.take_append_of_le_length (by omega), List.take_of_length_le (by omega)]
            have hdr : (c :: q).drop n = ((c :: r).drop n).take (t.at_ + t.text.length - (a + n)) ++ 32 :: more := by
              rw [← hq, hcut]
              conv => lhs; rw [← hlen]
              rw [hlen, List.drop_append_of_le_length (by omega), List.drop_of_length_le (by omega), List.nil_append]
            rw [hq] at hwl ⊢
            have he' : errL (c :: q) = 0 := by
              unfold errL at he ⊢
              rw [hwl, hn, htk]
              rw [hn] at he
              exact he
            have hv : valL (c :: q) = valL (c :: r) := by unfold valL; rw [hwl, hn, htk]
            rw [scan_word a hb h35 he', hwl, hn, htk, hv, hdr]
            rw [List.take_succ_cons, List.take_succ_cons, ih]
        · rw [scan_err a hb h35 he] at ht
          exact absurd ht (by simp)
end Go.Proofs.YtbojklbnfgopfaaGreatDoor

/- Plain: where a text's words stand: in their order, apart, within the text. -/
namespace Go.Proofs.YtbojklbnfgopfaaGreatDoor
open Go

theorem scan_iw : ∀ (N : Nat) (l : List Nat), l.length ≤ N → ∀ (a i : Nat) (t : Tok), (scanL l a).1[i]? = some t →
    0 < t.text.length ∧ t.at_ + t.text.length ≤ a + l.length ∧ ∀ (j : Nat) (u : Tok), i < j → (scanL l a).1[j]? = some u → t.at_ + t.text.length ≤ u.at_
  | _, [], _, a, i, t, ht => by rw [scanL] at ht; exact absurd ht (by simp)
  | 0, c :: r, h, _, _, _, _ => absurd h (by simp)
  | N + 1, c :: r, h, a, i, t, ht => by
    have hr : r.length ≤ N := by simpa using h
    by_cases hb : blankB c = true
    · rw [scanL_blank r a hb] at ht ⊢
      obtain ⟨h1, h2, h3⟩ := scan_iw N r hr _ i t ht
      exact ⟨h1, by rw [List.length_cons]; omega, h3⟩
    · have hb : blankB c = false := by simpa using hb
      by_cases h35 : c = 35
      · subst h35
        have hd := dropWhile_lt r
        rw [List.length_cons] at hd
        have hsum : (35 :: r).length = ((35 :: r).takeWhile inC).length + ((35 :: r).dropWhile inC).length := by
          rw [← List.length_append, List.takeWhile_append_dropWhile]
        rw [scan_comment] at ht ⊢
        obtain ⟨h1, h2, h3⟩ := scan_iw N _ (by omega) _ i t ht
        exact ⟨h1, by omega, h3⟩
      · by_cases he : errL (c :: r) = 0
        · have hd := drop_lt c r _ (errL_word he)
          have hn := errL_word he
          rw [scan_word a hb h35 he] at ht ⊢
          have hlen : ((c :: r).take (wordL (c :: r)).1).length ≤ (wordL (c :: r)).1 ∧ ((c :: r).take (wordL (c :: r)).1).length ≤ (c :: r).length ∧ 0 < ((c :: r).take (wordL (c :: r)).1).length := by
            rw [List.length_take, List.length_cons]; omega
          cases i with
          | zero =>
            simp only [List.getElem?_cons_zero, Option.some.injEq] at ht
            subst ht
            refine ⟨hlen.2.2, by show a + ((c :: r).take (wordL (c :: r)).1).length ≤ a + (c :: r).length; omega, fun j u hj hu => ?_⟩
            obtain ⟨j, rfl⟩ : ∃ j', j = j' + 1 := ⟨j - 1, by omega⟩
            simp only [List.getElem?_cons_succ] at hu
            have := scan_at _ _ (Nat.le_refl _) _ u (List.mem_of_getElem? hu)
            show a + ((c :: r).take (wordL (c :: r)).1).length ≤ u.at_
            omega
          | succ i =>
            simp only [List.getElem?_cons_succ] at ht
            obtain ⟨h1, h2, h3⟩ := scan_iw N _ (by rw [List.length_cons] at hd; omega) _ i t ht
            have hne : (wordL (c :: r)).1 < (c :: r).length := by
              rcases Nat.lt_or_ge (wordL (c :: r)).1 (c :: r).length with q | q
              · exact q
              · rw [List.drop_of_length_le q, scanL] at ht; exact absurd ht (by simp)
            rw [List.length_drop] at h2
            refine ⟨h1, by omega, fun j u hj hu => ?_⟩
            obtain ⟨j, rfl⟩ : ∃ j', j = j' + 1 := ⟨j - 1, by omega⟩
            simp only [List.getElem?_cons_succ] at hu
            exact h3 j u (by omega) hu
        · rw [scan_err a hb h35 he] at ht
          exact absurd ht (by simp)
theorem scan_end : ∀ (N : Nat) (l : List Nat), l.length ≤ N → ∀ (a : Nat), (scanL l a).2.1 ≤ a + l.length ∨ (scanL l a).2.2 = 0
  | _, [], _, a => by rw [scanL]; exact .inr rfl
  | 0, c :: r, h, _ => absurd h (by simp)
  | N + 1, c :: r, h, a => by
    have hr : r.length ≤ N := by simpa using h
    by_cases hb : blankB c = true
    · rw [scanL_blank r a hb]
      rcases scan_end N r hr (a + 1) with q | q
      · left; rw [List.length_cons]; omega
      · exact .inr q
    · have hb : blankB c = false := by simpa using hb
      by_cases h35 : c = 35
      · subst h35
        have hd := dropWhile_lt r
        rw [List.length_cons] at hd
        have hsum : (35 :: r).length = ((35 :: r).takeWhile inC).length + ((35 :: r).dropWhile inC).length := by
          rw [← List.length_append, List.takeWhile_append_dropWhile]
        rw [scan_comment]
        rcases scan_end N ((35 :: r).dropWhile inC) (by omega) (a + ((35 :: r).takeWhile inC).length) with q | q
        · left; omega
        · exact .inr q
      · by_cases he : errL (c :: r) = 0
        · have hd := drop_lt c r _ (errL_word he)
          rw [scan_word a hb h35 he]
          rcases scan_end N ((c :: r).drop (wordL (c :: r)).1) (by rw [List.length_cons] at hd; omega) (a + (wordL (c :: r)).1) with q | q
          · rcases Nat.lt_or_ge (wordL (c :: r)).1 (c :: r).length with p | p
            · left; rw [List.length_drop] at q; show (scanL _ _).2.1 ≤ _; omega
            · right; rw [List.drop_of_length_le p, scanL]
          · exact .inr q
        · rw [scan_err a hb h35 he]
          left; show a ≤ _; omega
end Go.Proofs.YtbojklbnfgopfaaGreatDoor

/- Plain: with more rounds a reader tells the same, unless it had run out of them. -/
namespace Go.Proofs.Syn

def Up {α : Type} (r r' : R α) : Prop := r' = r ∨ ∃ j, r = .error (99, j)
theorem Up.refl {α : Type} (r : R α) : Up r r := .inl rfl
theorem Up.on {α β : Type} {r r' : R α} {f f' : α → Nat → R β} (h : Up r r') (hf : ∀ x j, Up (f x j) (f' x j)) : Up (r.on f) (r'.on f') := by
  rcases h with rfl | ⟨j, rfl⟩
  · match r' with
    | .error e => exact Up.refl _
    | .ok (x, j) => exact hf x j
  · exact .inr ⟨j, rfl⟩
theorem Up.sw {α : Type} {c : Prop} [Decidable c] {a a' b b' : R α} (ha : c → Up a a') (hb : ¬ c → Up b b') : Up (if c then a else b) (if c then a' else b') := by
  by_cases h : c
  · rw [if_pos h, if_pos h]; exact ha h
  · rw [if_neg h, if_neg h]; exact hb h
section
variable {T : Nat → Option K} {F G : Nat}
theorem labelF_up (ns : List (List Nat)) : ∀ (f g : Nat), f ≤ g → ∀ (l i : Nat), Up (labelF T ns f l i) (labelF T ns g l i)
  | 0, _, _, _, i => .inr ⟨i, by rw [labelF]⟩
  | f + 1, 0, h, _, _ => absurd h (by omega)
  | f + 1, g + 1, h, l, i => by
    rw [labelF, labelF]
    cases T i with
    | none => exact Up.refl _
    | some k => exact Up.sw (fun _ => Up.sw (fun _ => labelF_up ns f g (by omega) _ _) (fun _ => Up.refl _)) (fun _ => Up.refl _)
theorem label_up (h : F ≤ G) (ns : List (List Nat)) (i : Nat) : Up (label T F ns i) (label T G ns i) :=
  (Up.refl _).on fun _ _ => (labelF_up ns F G h _ _).on fun _ _ => Up.refl _
theorem decl_up (h : F ≤ G) (ns : List (List Nat)) (i : Nat) : Up (decl T F ns i) (decl T G ns i) :=
  (Up.refl _).on fun _ _ => (label_up h ns _).on fun _ _ => Up.refl _
theorem loop_up {p p' : Nat → R (List Tm)} (hp : ∀ i, Up (p i) (p' i)) (ms : List (List Nat × Nat)) : ∀ (f g : Nat), f ≤ g → ∀ (l : List Tm) (i : Nat), Up (loopF T p ms f l i) (loopF T p' ms g l i)
  | 0, _, _, _, i => .inr ⟨i, by rw [loopF]⟩
  | f + 1, 0, h, _, _ => absurd h (by omega)
  | f + 1, g + 1, h, l, i => by
    rw [loopF, loopF]
    exact Up.sw (fun _ => Up.refl _) (fun _ => (hp _).on fun _ _ => loop_up hp ms f g (by omega) _ _)
theorem tower_up (h : F ≤ G) {u u' : Nat → R (List Tm)} (hu : ∀ i, Up (u i) (u' i)) : ∀ k i, Up (tower T F u k i) (tower T G u' k i)
  | 0, i => hu i
  | k + 1, i => by
    rw [tower, tower]
    exact (tower_up h hu k i).on fun _ _ => loop_up (tower_up h hu k) _ F G h _ _
theorem unOps_up : ∀ (f g : Nat), f ≤ g → ∀ i, Up (unOps T f i) (unOps T g i)
  | 0, _, _, i => .inr ⟨i, by rw [unOps]⟩
  | f + 1, 0, h, _ => absurd h (by omega)
  | f + 1, g + 1, h, i => by
    rw [unOps, unOps]
    exact Up.sw (fun _ => Up.refl _) (fun _ => (unOps_up f g (by omega) _).on fun _ _ => Up.refl _)
def BothU {α : Type} : Option (Nat → R α) → Option (Nat → R α) → Prop
  | none, none => True
  | some p, some p' => ∀ i, Up (p i) (p' i)
  | _, _ => False
theorem unary_up (h : F ≤ G) {e e' : Option (Nat → R (List Tm))} (he : BothU e e') (i : Nat) : Up (unary T F e i) (unary T G e' i) := by
  unfold unary
  refine (unOps_up F G h i).on fun ops i => Up.on ?_ fun _ _ => Up.refl _
  cases T i with
  | none => exact Up.refl _
  | some k =>
    refine Up.sw (fun _ => Up.refl _) (fun _ => Up.sw (fun _ => ?_) (fun _ => (Up.refl _).on fun s i => Up.sw (fun _ => ?_) (fun _ => Up.refl _)))
    · match e, e', he with
      | none, none, _ => exact Up.refl _
      | some p, some p', he => exact (he _).on fun _ _ => Up.refl _
    · match e, e', he with
      | none, none, _ => exact Up.refl _
      | some p, some p', he => exact (he _).on fun _ _ => Up.refl _
theorem expr_up (h : F ≤ G) : ∀ d i, Up (exprD T F d i) (exprD T G d i)
  | 0 => fun i => by rw [exprD, exprD]; exact tower_up h (fun i => unary_up h (e := none) (e' := none) trivial i) 6 i
  | d + 1 => fun i => by rw [exprD, exprD]; exact tower_up h (fun i => unary_up h (e := some _) (e' := some _) (expr_up h d) i) 6 i
theorem listF_up {e e' : Nat → R (List Tm)} (he : ∀ i, Up (e i) (e' i)) (fin : List Nat) : ∀ (f g : Nat), f ≤ g → ∀ (l : List (List Tm)) (i : Nat), Up (listF T e fin f l i) (listF T e' fin g l i)
  | 0, _, _, _, i => .inr ⟨i, by rw [listF]⟩
  | f + 1, 0, h, _, _ => absurd h (by omega)
  | f + 1, g + 1, h, l, i => by
    rw [listF, listF]
    exact (he i).on fun _ _ => Up.sw (fun _ => Up.refl _) (fun _ => Up.sw (fun _ => listF_up he fin f g (by omega) _ _) (fun _ => Up.refl _))
theorem list_up (h : F ≤ G) (fin : List Nat) (i : Nat) : Up (list T F fin i) (list T G fin i) :=
  Up.sw (fun _ => Up.refl _) (fun _ => listF_up (expr_up h 12) fin F G h _ _)
theorem targetsF_up : ∀ (f g : Nat), f ≤ g → ∀ (l : List (List Nat)) (i : Nat), Up (targetsF T f l i) (targetsF T g l i)
  | 0, _, _, _, i => .inr ⟨i, by rw [targetsF]⟩
  | f + 1, 0, h, _, _ => absurd h (by omega)
  | f + 1, g + 1, h, l, i => by
    rw [targetsF, targetsF]
    exact Up.sw (fun _ => (Up.refl _).on fun _ _ => targetsF_up f g (by omega) _ _) (fun _ => Up.refl _)
theorem stmtsF_up {s s' : Nat → R (List St)} (hs : ∀ i, Up (s i) (s' i)) (fin : List Nat) : ∀ (f g : Nat), f ≤ g → ∀ (l : List St) (i : Nat), Up (stmtsF T s fin f l i) (stmtsF T s' fin g l i)
  | 0, _, _, _, i => .inr ⟨i, by rw [stmtsF]⟩
  | f + 1, 0, h, _, _ => absurd h (by omega)
  | f + 1, g + 1, h, l, i => by
    rw [stmtsF, stmtsF]
    exact Up.sw (fun _ => Up.refl _) (fun _ => (hs i).on fun _ _ => stmtsF_up hs fin f g (by omega) _ _)
theorem block_up (h : F ≤ G) {s s' : Option (Nat → R (List St))} (hs : BothU s s') (i : Nat) : Up (block T F s i) (block T G s' i) := by
  match s, s', hs with
  | none, none, _ => exact Up.refl _
  | some p, some p', hs => exact (Up.refl _).on fun _ _ => stmtsF_up hs _ F G h _ _
theorem call_up (h : F ≤ G) (ts : List (List Nat)) (s : List Nat) (i : Nat) : Up (call T F ts s i) (call T G ts s i) :=
  (Up.refl _).on fun _ _ => (list_up h _ _).on fun _ _ => Up.refl _
theorem plain_up (h : F ≤ G) (i : Nat) : Up (plain T F i) (plain T G i) := by
  unfold plain
  refine (Up.refl _).on fun s i => Up.sw (fun _ => ?_) (fun _ => Up.sw (fun _ => call_up h _ _ _) (fun _ => ?_))
  · exact (expr_up h 12 _).on fun _ _ => (Up.refl _).on fun _ _ => (Up.refl _).on fun _ _ => (expr_up h 12 _).on fun _ _ => Up.refl _
  · exact (targetsF_up F G h _ _).on fun _ _ => (Up.refl _).on fun _ _ => Up.sw (fun _ => (expr_up h 12 _).on fun _ _ => Up.refl _) (fun _ => (Up.refl _).on fun _ _ => call_up h _ _ _)
theorem stmtOf_up (h : F ≤ G) {s s' : Option (Nat → R (List St))} (hs : BothU s s') (i : Nat) : Up (stmtOf T F s i) (stmtOf T G s' i) := by
  unfold stmtOf
  refine Up.sw (fun _ => ?_) (fun _ => Up.sw (fun _ => ?_) (fun _ => Up.sw (fun _ => ?_) (fun _ => plain_up h i)))
  · exact (expr_up h 12 _).on fun _ _ => (block_up h hs _).on fun _ _ => Up.sw (fun _ => (block_up h hs _).on fun _ _ => Up.refl _) (fun _ => Up.refl _)
  · exact (expr_up h 12 _).on fun _ _ => (block_up h hs _).on fun _ _ => Up.refl _
  · exact (Up.refl _).on fun _ _ => (expr_up h 12 _).on fun _ _ => Up.refl _
theorem stmt_up (h : F ≤ G) : ∀ d i, Up (stmtD T F d i) (stmtD T G d i)
  | 0 => fun i => by rw [stmtD, stmtD]; exact stmtOf_up h (s := none) (s' := none) trivial i
  | d + 1 => fun i => by rw [stmtD, stmtD]; exact stmtOf_up h (s := some _) (s' := some _) (stmt_up h d) i
theorem rowF_up {α : Type} {p p' : Nat → R α} (hp : ∀ i, Up (p i) (p' i)) : ∀ (f g : Nat), f ≤ g → ∀ (l : List α) (i : Nat), Up (rowF T p f l i) (rowF T p' g l i)
  | 0, _, _, _, i => .inr ⟨i, by rw [rowF]⟩
  | f + 1, 0, h, _, _ => absurd h (by omega)
  | f + 1, g + 1, h, l, i => by
    rw [rowF, rowF]
    exact (hp i).on fun _ _ => Up.sw (fun _ => Up.refl _) (fun _ => Up.sw (fun _ => rowF_up hp f g (by omega) _ _) (fun _ => Up.refl _))
theorem row_up {α : Type} (h : F ≤ G) {p p' : Nat → R α} (hp : ∀ i, Up (p i) (p' i)) (i : Nat) : Up (row T F p i) (row T G p' i) :=
  (Up.refl _).on fun _ _ => Up.sw (fun _ => Up.refl _) (fun _ => rowF_up hp F G h _ _)
theorem varsF_up (hF : F ≤ G) (ns : List (List Nat)) : ∀ (f g : Nat), f ≤ g → ∀ (l : List De) (i : Nat), Up (varsF T F ns f l i) (varsF T G ns g l i)
  | 0, _, _, _, i => .inr ⟨i, by rw [varsF]⟩
  | f + 1, 0, h, _, _ => absurd h (by omega)
  | f + 1, g + 1, h, l, i => by
    rw [varsF, varsF]
    exact Up.sw (fun _ => (decl_up hF ns _).on fun _ _ => (Up.refl _).on fun _ _ => varsF_up hF ns f g (by omega) _ _) (fun _ => Up.refl _)
theorem func_up (h : F ≤ G) (ns : List (List Nat)) (i : Nat) : Up (func T F ns i) (func T G ns i) :=
  (Up.refl _).on fun _ _ => (label_up h ns _).on fun _ _ => (row_up h (decl_up h ns) _).on fun _ _ => (row_up h (label_up h ns) _).on fun _ _ => (Up.refl _).on fun _ _ => (varsF_up h ns F G h _ _).on fun _ _ =>
    (stmtsF_up (stmt_up h 12) _ F G h _ _).on fun _ _ => (list_up h _ _).on fun _ _ => Up.refl _
theorem namesF_up : ∀ (f g : Nat), f ≤ g → ∀ (l : List (List Nat)) (i : Nat), Up (namesF T f l i) (namesF T g l i)
  | 0, _, _, _, i => .inr ⟨i, by rw [namesF]⟩
  | f + 1, 0, h, _, _ => absurd h (by omega)
  | f + 1, g + 1, h, l, i => by
    rw [namesF, namesF]
    exact (Up.refl _).on fun _ _ => Up.sw (fun _ => Up.refl _) (fun _ => Up.sw (fun _ => namesF_up f g (by omega) _ _) (fun _ => Up.refl _))
theorem principalsF_up (hF : F ≤ G) : ∀ (f g : Nat), f ≤ g → ∀ (l : List (List Nat)) (i : Nat), Up (principalsF T F f l i) (principalsF T G g l i)
  | 0, _, _, _, i => .inr ⟨i, by rw [principalsF]⟩
  | f + 1, 0, h, _, _ => absurd h (by omega)
  | f + 1, g + 1, h, l, i => by
    rw [principalsF, principalsF]
    exact Up.sw (fun _ => (namesF_up F G hF _ _).on fun _ _ => (Up.refl _).on fun _ _ => principalsF_up hF f g (by omega) _ _) (fun _ => Up.refl _)
theorem declsF_up (hF : F ≤ G) (ns : List (List Nat)) : ∀ (f g : Nat), f ≤ g → ∀ (s : So) (i : Nat), Up (declsF T F ns f s i) (declsF T G ns g s i)
  | 0, _, _, _, i => .inr ⟨i, by rw [declsF]⟩
  | f + 1, 0, h, _, _ => absurd h (by omega)
  | f + 1, g + 1, h, s, i => by
    rw [declsF, declsF]
    cases T i with
    | none => exact Up.refl _
    | some k =>
      refine Up.sw (fun _ => ?_) (fun _ => Up.sw (fun _ => ?_) (fun _ => Up.sw (fun _ => ?_) (fun _ => Up.sw (fun _ => ?_) (fun _ => Up.refl _))))
      · exact (decl_up hF ns _).on fun _ _ => (Up.refl _).on fun _ _ => declsF_up hF ns f g (by omega) _ _
      · exact (decl_up hF ns _).on fun _ _ => (Up.refl _).on fun _ _ => declsF_up hF ns f g (by omega) _ _
      · exact (Up.refl _).on fun _ _ => (Up.refl _).on fun _ _ => (label_up hF ns _).on fun _ _ => (Up.refl _).on fun _ _ => declsF_up hF ns f g (by omega) _ _
      · exact (func_up hF ns _).on fun _ _ => declsF_up hF ns f g (by omega) _ _
theorem source_up (h : F ≤ G) : Up (source T F) (source T G) := (principalsF_up h F G h _ _).on fun _ _ => declsF_up h _ F G h _ _
/-- The number of rounds is no matter, if it is enough. -/
theorem source_rounds {n : Nat} (hN : ∀ i, n ≤ i → T i = none) {F G : Nat} (hF : n < F) (hG : n < G) : source T F = source T G := by
  have key : ∀ {F G : Nat}, n < F → F ≤ G → source T F = source T G := fun {F G} hF h => by
    rcases source_up (T := T) h with e | ⟨j, e⟩
    · exact e.symm
    · have := source_fit hN hF
      rw [e] at this
      obtain ⟨h1, _⟩ := this
      rcases h1 with h1 | h1 | h1 | h1 <;> cases h1
  rcases Nat.le_total F G with h | h
  · exact key hF h
  · exact (key hG h).symm
end
end Go.Proofs.Syn

/- What stands behind a fault's word makes no difference, plain. -/
namespace Go.Proofs.YtbojklbnfgopfaaGreatDoor
open Go Go.RowKit Go.Proofs.Mm

/-- The words of a text without a fault, one by one. -/
theorem its_tok {s : ByteArray} {ys : List It} (hy : ys.map It.key = allItems s) (h0 : ∀ x ∈ ys, x.e = 0) : ys.length = (scanL (bl s) 0).1.length ∧ ∀ i (h : i < ys.length), (scanL (bl s) 0).1[i]? = some ⟨ys[i].k, bl ys[i].t, ys[i].v, ys[i].a⟩ := by
  obtain ⟨hs, ha, hz⟩ := all_short hy h0
  have hm : ys.map It.key = (scanL (bl s) 0).1.map fun t => (t, 0) := by rw [hy, ha]; unfold itemsOf; rw [if_pos hz, List.append_nil]
  have hl := congrArg List.length hm
  rw [List.length_map, List.length_map] at hl
  refine ⟨hl, fun i h => ?_⟩
  have := congrArg (fun l => l[i]?) hm
  simp only [List.getElem?_map, List.getElem?_eq_getElem h, Option.map_some] at this
  cases hi : (scanL (bl s) 0).1[i]? with
  | none => rw [hi] at this; cases this
  | some t =>
    rw [hi] at this
    simp only [Option.map_some, Option.some.injEq, Prod.mk.injEq, It.key] at this
    rw [← this.1]
theorem its_place {s : ByteArray} {ys : List It} (hy : ys.map It.key = allItems s) (h0 : ∀ x ∈ ys, x.e = 0) (i : Nat) (h : i < ys.length) :
    0 < ys[i].t.size ∧ ys[i].a + ys[i].t.size ≤ s.size ∧ ∀ j (hj : j < ys.length), i < j → ys[i].a + ys[i].t.size ≤ ys[j].a := by
  obtain ⟨_, ht⟩ := its_tok hy h0
  obtain ⟨h1, h2, h3⟩ := scan_iw _ (bl s) (Nat.le_refl _) 0 i _ (ht i h)
  simp only [bl_length] at h1 h2 h3
  exact ⟨h1, by omega, fun j hj hij => h3 j _ hij (ht j hj)⟩
/-- Only one word stands at a fault's place. -/
theorem place_one {s : ByteArray} {ys : List It} (hy : ys.map It.key = allItems s) (h0 : ∀ x ∈ ys, x.e = 0) {k i : Nat} (h : i < ys.length) : ys[i].a = (tk ys s.size k).a ↔ i = k := by
  obtain ⟨h1, h2, h3⟩ := its_place hy h0 i h
  rcases Nat.lt_or_ge k ys.length with hk | hk
  · have e : tk ys s.size k = ys[k] := by unfold tk; rw [List.getD_eq_getElem?_getD, List.getElem?_eq_getElem hk]; rfl
    rw [e]
    constructor
    · intro ha
      obtain ⟨g1, g2, g3⟩ := its_place hy h0 k hk
      rcases Nat.lt_trichotomy i k with q | q | q
      · have := h3 k hk q; omega
      · exact q
      · have := g3 i h q; omega
    · rintro rfl; rfl
  · rw [tk_end ys s.size hk]
    constructor
    · intro ha; simp only at ha; omega
    · intro e; omega
theorem fault_kind {s : ByteArray} {q : Nat × Nat} (h : faultOf s = some q) : q.1 = 3 ∨ q.1 = 40 := by
  unfold faultOf at h
  cases hf : (itsOf s).find? fun x => x.e != 0 with
  | none => rw [hf] at h; cases h
  | some x =>
    rw [hf] at h
    simp only [Option.map_some, Option.some.injEq] at h
    subst h
    have hx := List.mem_of_find?_eq_some hf
    have he := List.find?_some hf
    simp only [bne_iff_ne, ne_eq] at he
    unfold itsOf at hx
    obtain ⟨y, hy, rfl⟩ := List.mem_map.1 hx
    simp only at he ⊢
    unfold allItems at hy
    split at hy
    · simp only [List.mem_singleton] at hy; rw [hy]; exact .inl rfl
    · unfold itemsOf at hy
      rcases List.mem_append.1 hy with hy | hy
      · obtain ⟨t, _, ht⟩ := List.mem_map.1 hy
        rw [← ht] at he; exact (he rfl).elim
      · split at hy
        · cases hy
        · rw [List.mem_singleton] at hy
          rw [hy]
          rcases scan_errs _ (bl s) (Nat.le_refl _) 0 with e | e | e
          · contradiction
          · exact .inl e
          · exact .inr e
/-- The fault of a grammar stands at a word, or at the end. -/
theorem src_err {s : ByteArray} {ys : List It} (hy : ys.map It.key = allItems s) (h0 : ∀ x ∈ ys, x.e = 0) {er a : Nat} (h : srcOf s = .error (er, a)) : ∃ k, k ≤ ys.length ∧ Syn.source (Tk ys) (ys.length + 1) = .error (er, k) ∧ a = (tk ys s.size k).a := by
  unfold srcOf at h
  rw [read_eq hy h0] at h
  cases hr : Syn.source (Tk ys) (ys.length + 1) with
  | ok q => rw [hr] at h; cases h
  | error q =>
    obtain ⟨e, k⟩ := q
    rw [hr] at h
    simp only [Except.error.injEq, Prod.mk.injEq] at h
    have hf := Syn.source_fit (tk_nones ys) (F := ys.length + 1) (by omega)
    rw [hr] at hf
    exact ⟨k, hf.2, by rw [h.1], h.2.symm⟩
theorem bl_append (s t : ByteArray) : bl (s ++ t) = bl s ++ bl t := by
  unfold bl; simp
/-- A text that is gone on with otherwise behind its fault's word has the same fault. -/
theorem ahead_same {s more : ByteArray} {ys zs : List It} {er k : Nat} (hy : ys.map It.key = allItems s) (h0 : ∀ x ∈ ys, x.e = 0) (hr : Syn.source (Tk ys) (ys.length + 1) = .error (er, k)) (hk : k < ys.length) {o : ByteArray}
    (ho : bl o = (bl s).take (ys[k].a + ys[k].t.size) ++ 32 :: bl more) (hz : zs.map It.key = allItems o) (hz0 : ∀ x ∈ zs, x.e = 0) : srcOf o = .error (er, ys[k].a) := by
  obtain ⟨hl, ht⟩ := its_tok hy h0
  obtain ⟨hlz, htz⟩ := its_tok hz hz0
  have hsc := scan_ahead _ (bl s) (Nat.le_refl _) 0 k _ (bl more) (ht k hk)
  simp only [bl_length, Nat.sub_zero] at hsc
  rw [← ho] at hsc
  have hlen := congrArg List.length hsc
  rw [List.length_take, List.length_take] at hlen
  have hkz : k < zs.length := by omega
  have hkey : ∀ i (h : i ≤ k), zs[i]'(by omega) = ys[i]'(by omega) := fun i h => by
    have e := congrArg (fun l => l[i]?) hsc
    simp only [List.getElem?_take, if_pos (show i < k + 1 by omega)] at e
    rw [htz i (by omega), ht i (by omega)] at e
    simp only [Option.some.injEq, Tok.mk.injEq] at e
    have e0 : (zs[i]'(by omega)).e = (ys[i]'(by omega)).e := by rw [hz0 _ (List.getElem_mem _), h0 _ (List.getElem_mem _)]
    have e1 := bl_inj e.2.1
    rcases hz1 : zs[i]'(by omega) with ⟨a1, a2, a3, a4, a5⟩
    rcases hy1 : ys[i]'(by omega) with ⟨b1, b2, b3, b4, b5⟩
    rw [hz1, hy1] at e e0 e1
    simp only at e e0 e1
    rw [e.1, e1, e.2.2.1, e.2.2.2, e0]
  have hT : ∀ i, i ≤ k → Tk zs i = Tk ys i := fun i h => by
    unfold Tk
    rw [List.getElem?_eq_getElem (show i < zs.length by omega), List.getElem?_eq_getElem (show i < ys.length by omega), hkey i h]
  unfold srcOf
  rw [read_eq hz hz0]
  have h1 : Syn.source (Tk ys) (ys.length + zs.length + 1) = .error (er, k) := by rw [← hr]; exact Syn.source_rounds (tk_nones ys) (by omega) (by omega)
  have h2 : Syn.source (Tk zs) (zs.length + 1) = .error (er, k) := by
    rw [Syn.source_rounds (tk_nones zs) (F := zs.length + 1) (G := ys.length + zs.length + 1) (by omega) (by omega)]
    exact Syn.source_ahead hT (by omega) h1 (Nat.le_refl _)
  rw [h2]
  have : tk zs o.size k = ys[k] := by
    unfold tk
    rw [List.getD_eq_getElem?_getD, List.getElem?_eq_getElem hkz]
    exact hkey k (Nat.le_refl _)
  simp only [this]
end Go.Proofs.YtbojklbnfgopfaaGreatDoor

/- The kit's compares: the same rows are the same. -/
namespace Go.Proofs.YtbojklbnfgopfaaGreatDoor
open Go Go.RowKit Go.Proofs.Mm

theorem enc_at {α : Type} {R : List Value → α → Prop} {size : Nat} (hR : ∀ c x, R c x → c.length = size) : ∀ {l : List α} {cs : List Value}, Enc R cs l → ∀ j (h : j < l.length), ∃ c, R c l[j] ∧ ∀ r, r < size → cs[j * size + r]? = c[r]?
  | [], _, _, j, h => absurd h (by simp)
  | x :: l, cs, he, j, h => by
    obtain ⟨c, d, rfl, h1, h2⟩ := he
    have hc := hR _ _ h1
    cases j with
    | zero => exact ⟨c, h1, fun r hr => by rw [Nat.zero_mul, Nat.zero_add, List.getElem?_append_left (by omega)]⟩
    | succ j =>
      obtain ⟨c', h3, h4⟩ := enc_at hR h2 j (by simpa using h)
      refine ⟨c', h3, fun r hr => ?_⟩
      rw [show (j + 1) * size + r = c.length + (j * size + r) by rw [hc, Nat.succ_mul]; omega, List.getElem?_append_right (by omega), Nat.add_sub_cancel_left]
      exact h4 r hr
theorem rd_enc {α : Type} {R : List Value → α → Prop} {size : Nat} {w : World} {q : Option Addr} {cs : List Value} {l : List α} (hR : ∀ c x, R c x → c.length = size) (h : RdR w q cs) (he : Enc R cs l) (j : Nat) (hj : j < l.length) (hs : 0 < size) :
    ∃ g c, q = some ⟨g, 0, none⟩ ∧ R c l[j] ∧ ∀ r u, r < size → c[r]? = some u → w.cell? ⟨g, j * size + r, none⟩ = some u := by
  obtain ⟨c, h1, h2⟩ := enc_at hR he j hj
  have hc := hR _ _ h1
  rcases h with h | ⟨g, hg, h3⟩
  · subst h
    have := h2 0 hs
    rw [List.getElem?_eq_getElem (show 0 < c.length by omega)] at this
    simp at this
  · exact ⟨g, c, hg, h1, fun r u hr hu => h3 _ _ (by rw [h2 r hr]; exact hu)⟩
theorem enc_str : ∀ l : List (List Nat), Enc (fun c s => c = [Value.string (sb s)]) (strC l) l
  | [] => rfl
  | s :: l => ⟨[.string (sb s)], strC l, rfl, rfl, enc_str l⟩
theorem rd_str {w : World} {q : Option Addr} {l : List (List Nat)} (h : RdR w q (strC l)) (j : Nat) (hj : j < l.length) : ∃ g, q = some ⟨g, 0, none⟩ ∧ w.cell? ⟨g, j, none⟩ = some (.string (sb l[j])) := by
  obtain ⟨g, c, h1, rfl, h2⟩ := rd_enc (size := 1) (fun c x e => by rw [e]; rfl) h (enc_str l) j hj (by decide)
  exact ⟨g, h1, by have := h2 0 _ (by decide) rfl; simpa using this⟩
theorem rd_de {w : World} {m : Mem} {q : Option Addr} {l : List Syn.De} {cs : List Value} (h : RdR w q cs) (he : Enc (DeR m) cs l) (j : Nat) (hj : j < l.length) : ∃ g, q = some ⟨g, 0, none⟩ ∧ w.cell? ⟨g, j * 2, none⟩ = some (.string (sb l[j].name)) ∧ w.cell? ⟨g, j * 2 + 1, none⟩ = some (.int .u64 (l[j].label : Nat)) := by
  obtain ⟨g, c, h1, ⟨rfl, _⟩, h2⟩ := rd_enc (size := 2) (fun c x e => by rw [e.1]; rfl) h he j hj (by decide)
  exact ⟨g, h1, h2 0 _ (by decide) rfl, h2 1 _ (by decide) rfl⟩
theorem rd_la {w : World} {m : Mem} {q : Option Addr} {l : List Nat} {cs : List Value} (h : RdR w q cs) (he : Enc (LaR m) cs l) (j : Nat) (hj : j < l.length) : ∃ g, q = some ⟨g, 0, none⟩ ∧ w.cell? ⟨g, j, none⟩ = some (.int .u64 (l[j] : Nat)) := by
  obtain ⟨g, c, h1, ⟨rfl, _⟩, h2⟩ := rd_enc (size := 1) (fun c x e => by rw [e.1]; rfl) h he j hj (by decide)
  exact ⟨g, h1, by have := h2 0 _ (by decide) rfl; simpa using this⟩
theorem rd_ex {w : World} {m : Mem} {q : Option Addr} {l : List (List Syn.Tm)} {cs : List Value} (hm : Has w m) (h : RdR w q cs) (he : Enc (fun c x => ∃ u, c = [u] ∧ TmM m u x) cs l) (j : Nat) (hj : j < l.length) : ∃ g q' c, q = some ⟨g, 0, none⟩ ∧ w.cell? ⟨g, j, none⟩ = some (.slice q' l[j].length c) ∧ RdR w q' (tmCells l[j]) ∧ l[j].length ≤ 9223372036854775807 := by
  obtain ⟨g, c, h1, ⟨u, rfl, hu⟩, h2⟩ := rd_enc (size := 1) (fun c x ⟨u, e, _⟩ => by rw [e]; rfl) h he j hj (by decide)
  obtain ⟨q', c', rfl⟩ := rowM_shape hu
  refine ⟨g, q', c', h1, by have := h2 0 _ (by decide) rfl; simpa using this, RowM.rd hu hm, ?_⟩
  rcases hu.2 with ⟨_, e⟩ | ⟨_, cap, _, e, _, h4, h5, _⟩
  · omega
  · unfold maxLen at h5; omega
theorem row_max {m : Mem} {E : TypeId} {size n : Nat} {v : Value} {xs : List Value} (hu : RowM m E size v n xs) : n ≤ 9223372036854775807 := by
  rcases hu.2 with ⟨_, e⟩ | ⟨_, cap, _, e, _, h4, h5, _⟩
  · omega
  · unfold maxLen at h5; omega
theorem rd_st {w : World} {m : Mem} {q : Option Addr} {l : List Syn.St} {cs : List Value} (h : RdR w q cs) (he : Enc (StM m) cs l) (j : Nat) (hj : j < l.length) : ∃ g q1 c1 q2 c2, q = some ⟨g, 0, none⟩ ∧ w.cell? ⟨g, j * 4, none⟩ = some (.int .i64 (l[j].kind : Int)) ∧ w.cell? ⟨g, j * 4 + 1, none⟩ = some (.string (sb l[j].name)) ∧ w.cell? ⟨g, j * 4 + 2, none⟩ = some (.slice q1 l[j].targets.length c1) ∧ w.cell? ⟨g, j * 4 + 3, none⟩ = some (.slice q2 l[j].exprs.length c2) ∧
    StrM m (.slice q1 l[j].targets.length c1) l[j].targets ∧ ExM m (.slice q2 l[j].exprs.length c2) l[j].exprs := by
  obtain ⟨g, c, h1, ⟨vt, ve, rfl, ht, hex⟩, h2⟩ := rd_enc (size := 4) (fun c x ⟨vt, ve, e, _⟩ => by rw [e]; rfl) h he j hj (by decide)
  obtain ⟨q1, c1, rfl⟩ := rowM_shape ht
  obtain ⟨q2, c2, rfl⟩ := ex_shape hex
  exact ⟨g, q1, c1, q2, c2, h1, h2 0 _ (by decide) rfl, h2 1 _ (by decide) rfl, h2 2 _ (by decide) rfl, h2 3 _ (by decide) rfl, ht, hex⟩
set_option maxRecDepth 100000 in
set_option maxHeartbeats 1000000 in
theorem strings_same {w : World} {q q' : Option Addr} {n c c' : Nat} (l : List (List Nat)) (hn : l.length = n) (ha : RdR w q (strC l)) (hb : RdR w q' (strC l)) (hmax : n ≤ 9223372036854775807) :
    Calls Tryz.prog 19 #[.slice q n c, .slice q' n c'] w fun e w' => e = .returned (.bool true) ∧ ∃ k, w' = w.drewN k := by
  have HN := Lib.hid hn
  have HA := Lib.hid ha
  have HB := Lib.hid hb
  have hneq : ((n : Int) != (n : Int)) = false := by simp
  clear ha hb hn
  go_enter Tryz.func19, Tryz.ntmps19
  go_wp2
  go_loopw [5] (fun i wr => ∃ k nq : Nat, k ≤ n ∧ i = .int .i64 k ∧ wr = w.drewN nq) (fun i _ => n - (intOf i).toNat)
  case atStart => exact ⟨0, 0, Nat.zero_le _, rfl, rfl⟩
  case round =>
    obtain ⟨k, nq, hk, rfl, rfl⟩ := hrel
    by_cases hlt : k < n
    · have hk' : k < l.length := by rw [HN.out]; exact hlt
      obtain ⟨g, rfl, a1⟩ := rd_str HA.out k hk'
      obtain ⟨g', rfl, b1⟩ := rd_str HB.out k hk'
      generalize sb l[k] = nm at *
      have hki : (k : Int) < (n : Int) := by omega
      have e1 : (nm.toList == nm.toList) = true := by simp
      have e2 : (nm.toList != nm.toList) = false := by simp
      have e3 : (!(nm.toList == nm.toList)) = false := by simp
      go_wp2
      go_quiet (fail)
      go_wp2
      exact ⟨⟨k + 1, _, by omega, by go_num, rfl⟩, by simp [intOf]; omega⟩
    · go_wp2
      go_ret
      exact ⟨rfl, _, rfl⟩
set_option maxRecDepth 100000 in
set_option maxHeartbeats 1000000 in
theorem decls_same {w : World} {q q' : Option Addr} {n c c' : Nat} (l : List Syn.De) {m : Mem} {cs cs' : List Value} (he : Enc (DeR m) cs l) (he' : Enc (DeR m) cs' l) (hn : l.length = n) (ha : RdR w q cs) (hb : RdR w q' cs') (hmax : n ≤ 9223372036854775807) :
    Calls Tryz.prog 20 #[.slice q n c, .slice q' n c'] w fun e w' => e = .returned (.bool true) ∧ ∃ k, w' = w.drewN k := by
  have HN := Lib.hid hn
  have HA := Lib.hid ha
  have HB := Lib.hid hb
  have hneq : ((n : Int) != (n : Int)) = false := by simp
  clear ha hb hn
  go_enter Tryz.func20, Tryz.ntmps20
  go_wp2
  go_loopw [5] (fun i wr => ∃ k nq : Nat, k ≤ n ∧ i = .int .i64 k ∧ wr = w.drewN nq) (fun i _ => n - (intOf i).toNat)
  case atStart => exact ⟨0, 0, Nat.zero_le _, rfl, rfl⟩
  case round =>
    obtain ⟨k, nq, hk, rfl, rfl⟩ := hrel
    by_cases hlt : k < n
    · have hk' : k < l.length := by rw [HN.out]; exact hlt
      obtain ⟨g, rfl, a1, a2⟩ := rd_de HA.out he k hk'
      obtain ⟨g', rfl, b1, b2⟩ := rd_de HB.out he' k hk'
      generalize sb l[k].name = nm at *
      generalize l[k].label = lb at *
      have hki : (k : Int) < (n : Int) := by omega
      have e1 : (nm.toList == nm.toList) = true := by simp
      have e2 : ((lb : Int) == (lb : Int)) = true := by simp
      go_wp2
      go_quiet (fail)
      go_wp2
      exact ⟨⟨k + 1, _, by omega, by go_num, rfl⟩, by simp [intOf]; omega⟩
    · go_wp2
      go_ret
      exact ⟨rfl, _, rfl⟩
set_option maxRecDepth 100000 in
set_option maxHeartbeats 1000000 in
theorem labels_same {w : World} {q q' : Option Addr} {n c c' : Nat} (l : List Nat) {m : Mem} {cs cs' : List Value} (he : Enc (LaR m) cs l) (he' : Enc (LaR m) cs' l) (hn : l.length = n) (ha : RdR w q cs) (hb : RdR w q' cs') (hmax : n ≤ 9223372036854775807) :
    Calls Tryz.prog 21 #[.slice q n c, .slice q' n c'] w fun e w' => e = .returned (.bool true) ∧ ∃ k, w' = w.drewN k := by
  have HN := Lib.hid hn
  have HA := Lib.hid ha
  have HB := Lib.hid hb
  have hneq : ((n : Int) != (n : Int)) = false := by simp
  clear ha hb hn
  go_enter Tryz.func21, Tryz.ntmps21
  go_wp2
  go_loopw [5] (fun i wr => ∃ k nq : Nat, k ≤ n ∧ i = .int .i64 k ∧ wr = w.drewN nq) (fun i _ => n - (intOf i).toNat)
  case atStart => exact ⟨0, 0, Nat.zero_le _, rfl, rfl⟩
  case round =>
    obtain ⟨k, nq, hk, rfl, rfl⟩ := hrel
    by_cases hlt : k < n
    · have hk' : k < l.length := by rw [HN.out]; exact hlt
      obtain ⟨g, rfl, a1⟩ := rd_la HA.out he k hk'
      obtain ⟨g', rfl, b1⟩ := rd_la HB.out he' k hk'
      generalize l[k] = lb at *
      have hki : (k : Int) < (n : Int) := by omega
      have e2 : ((lb : Int) == (lb : Int)) = true := by simp
      have e3 : ((lb : Int) != (lb : Int)) = false := by simp
      go_wp2
      go_quiet (fail)
      go_wp2
      exact ⟨⟨k + 1, _, by omega, by go_num, rfl⟩, by simp [intOf]; omega⟩
    · go_wp2
      go_ret
      exact ⟨rfl, _, rfl⟩
set_option maxRecDepth 100000 in
set_option maxHeartbeats 1000000 in
theorem exprs_same {w : World} {q q' : Option Addr} {n c c' : Nat} (l : List (List Syn.Tm)) {m : Mem} (hm : Has w m) (hn : l.length = n) (ha : ExM m (.slice q n c) l) (hb : ExM m (.slice q' n c') l) :
    Calls Tryz.prog 45 #[.slice q n c, .slice q' n c'] w fun e w' => e = .returned (.bool true) ∧ ∃ k, w' = w.drewN k := by
  subst hn
  obtain ⟨cs, ha, he⟩ := ha
  obtain ⟨cs', hb, he'⟩ := hb
  have hmax := row_max ha
  have HA := Lib.hid (RowM.rd ha hm)
  have HB := Lib.hid (RowM.rd hb hm)
  have HM := Lib.hid hm
  obtain ⟨n, hnn⟩ : ∃ n, l.length = n := ⟨_, rfl⟩
  have HN := Lib.hid hnn
  rw [hnn] at hmax ⊢
  have hneq : ((n : Int) != (n : Int)) = false := by simp
  clear ha hb hm hnn
  go_enter Tryz.func45, Tryz.ntmps45
  go_wp2
  go_loopw [5] (fun i wr => ∃ k nq : Nat, k ≤ n ∧ i = .int .i64 k ∧ wr = w.drewN nq) (fun i _ => n - (intOf i).toNat)
  case atStart => exact ⟨0, 0, Nat.zero_le _, rfl, rfl⟩
  case round =>
    obtain ⟨k, nq, hk, rfl, rfl⟩ := hrel
    by_cases hlt : k < n
    · have hk' : k < l.length := by rw [HN.out]; exact hlt
      obtain ⟨g, qa, ca, rfl, a1, a2, a3⟩ := rd_ex (w := w.drewN nq) HM.out HA.out he k hk'
      obtain ⟨g', qb, cb, rfl, b1, b2, _⟩ := rd_ex (w := w.drewN nq) HM.out HB.out he' k hk'
      obtain ⟨W, hW⟩ : ∃ W, w.drewN nq = W := ⟨_, rfl⟩
      rw [hW] at a1 b1 a2 b2 ⊢
      have HWW := Lib.hid hW
      clear hW
      have HT := Lib.hid (fun j => terms_same (w := W.drewN j) (c := ca) (c' := cb) l[k] rfl a2 b2 a3)
      clear a2 b2 a3
      have hki : (k : Int) < (n : Int) := by omega
      generalize l[k].length = lk at *
      go_wp2
      go_quiet ((go_at_call 24; exact Calls.quiet_of (HT.out _)))
      go_wp2
      exact ⟨⟨k + 1, _, by omega, by go_num, by rw [← HWW.out, World.drewN_drewN]⟩, by simp [intOf]; omega⟩
    · go_wp2
      go_ret
      exact ⟨rfl, _, rfl⟩
set_option maxRecDepth 100000 in
set_option maxHeartbeats 4000000 in
theorem stmts_same {w : World} {q q' : Option Addr} {n c c' : Nat} (l : List Syn.St) {m : Mem} (hm : Has w m) (hn : l.length = n) {cs cs' : List Value} (ha : RowM m 47 4 (.slice q n c) n cs) (he : Enc (StM m) cs l) (hb : RowM m 47 4 (.slice q' n c') n cs') (he' : Enc (StM m) cs' l) :
    Calls Tryz.prog 22 #[.slice q n c, .slice q' n c'] w fun e w' => e = .returned (.bool true) ∧ ∃ k, w' = w.drewN k := by
  have hmax := row_max ha
  have HA := Lib.hid (RowM.rd ha hm)
  have HB := Lib.hid (RowM.rd hb hm)
  have HM := Lib.hid hm
  have HN := Lib.hid hn
  have hneq : ((n : Int) != (n : Int)) = false := by simp
  clear ha hb hm hn
  go_enter Tryz.func22, Tryz.ntmps22
  go_wp2
  go_loopw [5] (fun i wr => ∃ k nq : Nat, k ≤ n ∧ i = .int .i64 k ∧ wr = w.drewN nq) (fun i _ => n - (intOf i).toNat)
  case atStart => exact ⟨0, 0, Nat.zero_le _, rfl, rfl⟩
  case round =>
    obtain ⟨k, nq, hk, rfl, rfl⟩ := hrel
    by_cases hlt : k < n
    · have hk' : k < l.length := by rw [HN.out]; exact hlt
      obtain ⟨g, q1, c1, q2, c2, rfl, a1, a2, a3, a4, a5, a6⟩ := rd_st (w := w.drewN nq) HA.out he k hk'
      obtain ⟨g', q3, c3, q4, c4, rfl, b1, b2, b3, b4, b5, b6⟩ := rd_st (w := w.drewN nq) HB.out he' k hk'
      have hmW : Has (w.drewN nq) m := HM.out
      obtain ⟨W, hW⟩ : ∃ W, w.drewN nq = W := ⟨_, rfl⟩
      rw [hW] at a1 a2 a3 a4 b1 b2 b3 b4 hmW ⊢
      have HWW := Lib.hid hW
      have HMW := Lib.hid hmW
      clear hW hmW
      have HS := Lib.hid (fun j => strings_same (w := W.drewN j) (c := c1) (c' := c3) l[k].targets rfl (RowM.rd a5 HMW.out) (RowM.rd b5 HMW.out) (row_max a5))
      have HX := Lib.hid (fun j => exprs_same (w := W.drewN j) (c := c2) (c' := c4) l[k].exprs (m := m) HMW.out rfl a6 b6)
      clear a5 a6 b5 b6
      have hki : (k : Int) < (n : Int) := by omega
      generalize l[k].targets.length = t1 at *
      generalize l[k].exprs.length = t2 at *
      generalize sb l[k].name = nm at *
      generalize l[k].kind = kd at *
      have e1 : (nm.toList == nm.toList) = true := by simp
      have e2 : (nm.toList != nm.toList) = false := by simp
      have e3 : ((kd : Int) == (kd : Int)) = true := by simp
      have e4 : ((kd : Int) != (kd : Int)) = false := by simp
      have e5 : (!(nm.toList == nm.toList)) = false := by simp
      go_wp2
      go_quiet (first | (go_at_call 19; exact Calls.quiet_of (HS.out _)) | (go_at_call 45; exact Calls.quiet_of (HX.out _)))
      go_wp2
      exact ⟨⟨k + 1, _, by omega, by go_num, by rw [← HWW.out, World.drewN_drewN]⟩, by simp [intOf]; omega⟩
    · go_wp2
      go_ret
      exact ⟨rfl, _, rfl⟩
end Go.Proofs.YtbojklbnfgopfaaGreatDoor

/- The kit's compare of sources: the same sources are the same. -/
namespace Go.Proofs.YtbojklbnfgopfaaGreatDoor
open Go Go.RowKit Go.Proofs.Mm

theorem rd_ar {w : World} {m : Mem} {q : Option Addr} {l : List Syn.Ar} {cs : List Value} (h : RdR w q cs) (he : Enc (ArR m) cs l) (j : Nat) (hj : j < l.length) : ∃ g, q = some ⟨g, 0, none⟩ ∧ w.cell? ⟨g, j * 3, none⟩ = some (.string (sb l[j].name)) ∧ w.cell? ⟨g, j * 3 + 1, none⟩ = some (.int .i64 (l[j].len : Nat)) ∧ w.cell? ⟨g, j * 3 + 2, none⟩ = some (.int .u64 (l[j].label : Nat)) := by
  obtain ⟨g, c, h1, ⟨rfl, _⟩, h2⟩ := rd_enc (size := 3) (fun c x e => by rw [e.1]; rfl) h he j hj (by decide)
  exact ⟨g, h1, h2 0 _ (by decide) rfl, h2 1 _ (by decide) rfl, h2 2 _ (by decide) rfl⟩
/-- A function's rows, behind their slices. -/
structure FnS (m : Mem) (f : Syn.Fn) (q1 : Option Addr) (c1 : Nat) (q2 : Option Addr) (c2 : Nat) (q3 : Option Addr) (c3 : Nat) (q4 : Option Addr) (c4 : Nat) : Prop where
  p : ∃ cs, RowM m 75 2 (.slice q1 f.params.length c1) f.params.length cs ∧ Enc (DeR m) cs f.params
  r : ∃ cs, RowM m 37 1 (.slice q2 f.results.length c2) f.results.length cs ∧ Enc (LaR m) cs f.results
  v : ∃ cs, RowM m 75 2 (.slice q3 f.vars.length c3) f.vars.length cs ∧ Enc (DeR m) cs f.vars
  b : ∃ cs, RowM m 47 4 (.slice q4 f.body.length c4) f.body.length cs ∧ Enc (StM m) cs f.body
theorem rd_fn {w : World} {m : Mem} {q : Option Addr} {l : List Syn.Fn} {cs : List Value} (h : RdR w q cs) (he : Enc (FnM m) cs l) (j : Nat) (hj : j < l.length) : ∃ g q1 c1 q2 c2 q3 c3 q4 c4, q = some ⟨g, 0, none⟩ ∧ w.cell? ⟨g, j * 6, none⟩ = some (.string (sb l[j].name)) ∧ w.cell? ⟨g, j * 6 + 1, none⟩ = some (.int .u64 (l[j].level : Nat)) ∧
    w.cell? ⟨g, j * 6 + 2, none⟩ = some (.slice q1 l[j].params.length c1) ∧ w.cell? ⟨g, j * 6 + 3, none⟩ = some (.slice q2 l[j].results.length c2) ∧ w.cell? ⟨g, j * 6 + 4, none⟩ = some (.slice q3 l[j].vars.length c3) ∧ w.cell? ⟨g, j * 6 + 5, none⟩ = some (.slice q4 l[j].body.length c4) ∧ FnS m l[j] q1 c1 q2 c2 q3 c3 q4 c4 := by
  obtain ⟨g, c, h1, ⟨a, b, d, e, rfl, _, ⟨cs1, p1, e1⟩, ⟨cs2, p2, e2⟩, ⟨cs3, p3, e3⟩, ⟨cs4, p4, e4⟩⟩, h2⟩ := rd_enc (size := 6) (fun c x ⟨_, _, _, _, e, _⟩ => by rw [e]; rfl) h he j hj (by decide)
  obtain ⟨q1, c1, rfl⟩ := rowM_shape p1
  obtain ⟨q2, c2, rfl⟩ := rowM_shape p2
  obtain ⟨q3, c3, rfl⟩ := rowM_shape p3
  obtain ⟨q4, c4, rfl⟩ := rowM_shape p4
  exact ⟨g, q1, c1, q2, c2, q3, c3, q4, c4, h1, h2 0 _ (by decide) rfl, h2 1 _ (by decide) rfl, h2 2 _ (by decide) rfl, h2 3 _ (by decide) rfl, h2 4 _ (by decide) rfl, h2 5 _ (by decide) rfl, ⟨cs1, p1, e1⟩, ⟨cs2, p2, e2⟩, ⟨cs3, p3, e3⟩, ⟨cs4, p4, e4⟩⟩
/-- A source's rows, behind their slices. -/
structure SoS (m : Mem) (s : Syn.So) (q1 : Option Addr) (c1 : Nat) (q2 : Option Addr) (c2 : Nat) (q3 : Option Addr) (c3 : Nat) (q4 : Option Addr) (c4 : Nat) (q5 : Option Addr) (c5 : Nat) : Prop where
  p : RowM m 9 1 (.slice q1 s.principals.length c1) s.principals.length (strC s.principals)
  g : ∃ cs, RowM m 75 2 (.slice q2 s.globals.length c2) s.globals.length cs ∧ Enc (DeR m) cs s.globals
  a : ∃ cs, RowM m 71 3 (.slice q3 s.arrays.length c3) s.arrays.length cs ∧ Enc (ArR m) cs s.arrays
  c : ∃ cs, RowM m 75 2 (.slice q4 s.channels.length c4) s.channels.length cs ∧ Enc (DeR m) cs s.channels
  f : ∃ cs, RowM m 41 6 (.slice q5 s.funcs.length c5) s.funcs.length cs ∧ Enc (FnM m) cs s.funcs
theorem SoM.rows {m : Mem} {s : Syn.So} {q1 c1 q2 c2 q3 c3 q4 c4 q5 c5} (h : SoM m [.slice q1 s.principals.length c1, .slice q2 s.globals.length c2, .slice q3 s.arrays.length c3, .slice q4 s.channels.length c4, .slice q5 s.funcs.length c5] s) : SoS m s q1 c1 q2 c2 q3 c3 q4 c4 q5 c5 := by
  obtain ⟨p', a', b', d', e', h, h0, h1, h2, h3, h4⟩ := h
  simp only [List.cons.injEq, and_true] at h
  obtain ⟨rfl, rfl, rfl, rfl, rfl⟩ := h
  exact ⟨h0, h1, h2, h3, h4⟩
theorem hasD {w : World} {m : Mem} (h : Has w m) (n : Nat) : Has (w.drewN n) m := h
theorem heapD {w : World} {k : Nat} {o : Obj} (h : w.heap[k]? = some o) (n : Nat) : (w.drewN n).heap[k]? = some o := h
def soO (a b c d e : Value) : Obj := .cells #[a, b, c, d, e] 27
set_option maxRecDepth 100000 in
set_option maxHeartbeats 8000000 in
theorem source_same {w : World} {m : Mem} (hm : Has w m) (s : Syn.So) {q1 c1 q2 c2 q3 c3 q4 c4 q5 c5 r1 d1 r2 d2 r3 d3 r4 d4 r5 d5} (ha : SoS m s q1 c1 q2 c2 q3 c3 q4 c4 q5 c5) (hb : SoS m s r1 d1 r2 d2 r3 d3 r4 d4 r5 d5) :
    Calls Tryz.prog 9 #[.agg #[.slice q1 s.principals.length c1, .slice q2 s.globals.length c2, .slice q3 s.arrays.length c3, .slice q4 s.channels.length c4, .slice q5 s.funcs.length c5], .agg #[.slice r1 s.principals.length d1, .slice r2 s.globals.length d2, .slice r3 s.arrays.length d3, .slice r4 s.channels.length d4, .slice r5 s.funcs.length d5]] w fun e w' => e = .returned (.bool true) ∧ Chg (fun _ => False) w w' := by
  obtain ⟨A, hA⟩ : ∃ A, soO (.slice q1 s.principals.length c1) (.slice q2 s.globals.length c2) (.slice q3 s.arrays.length c3) (.slice q4 s.channels.length c4) (.slice q5 s.funcs.length c5) = A := ⟨_, rfl⟩
  obtain ⟨B, hB⟩ : ∃ B, soO (.slice r1 s.principals.length d1) (.slice r2 s.globals.length d2) (.slice r3 s.arrays.length d3) (.slice r4 s.channels.length d4) (.slice r5 s.funcs.length d5) = B := ⟨_, rfl⟩
  have hC0 : Chg (fun _ => False) w ((w.alloc A).alloc B) := ((Chg.refl _ w).alloc _).alloc _
  have hH0 := hm.chg hC0 (fun _ e => e.elim)
  have hX : ((w.alloc A).alloc B).heap[w.heap.size]? = some A := heap_new _ _ (World.alloc_heap_new w A)
  have hY := World.alloc_heap_new (w.alloc A) B
  rw [World.size_alloc] at hY
  have HSt := Lib.hid (fun (W : World) (hW : Has W m) => strings_same (w := W) (c := c1) (c' := d1) s.principals rfl (RowM.rd ha.p hW) (RowM.rd hb.p hW) (row_max ha.p))
  obtain ⟨cg, g1, g2⟩ := ha.g
  obtain ⟨cg', g3, g4⟩ := hb.g
  obtain ⟨cc, h1, h2⟩ := ha.c
  obtain ⟨cc', h3, h4⟩ := hb.c
  have HDg := Lib.hid (fun (W : World) (hW : Has W m) => decls_same (w := W) (c := c2) (c' := d2) s.globals g2 g4 rfl (RowM.rd g1 hW) (RowM.rd g3 hW) (row_max g1))
  have HDc := Lib.hid (fun (W : World) (hW : Has W m) => decls_same (w := W) (c := c4) (c' := d4) s.channels h2 h4 rfl (RowM.rd h1 hW) (RowM.rd h3 hW) (row_max h1))
  have HAA := Lib.hid (And.intro ha.a hb.a)
  have HFF := Lib.hid (And.intro ha.f hb.f)
  have HH0 := Lib.hid hH0
  have HX := Lib.hid hX
  have HY := Lib.hid hY
  have HC0 := Lib.hid hC0
  clear ha hb g1 g2 g3 g4 h1 h2 h3 h4 hm hX hY hC0 hH0
  subst hA; subst hB
  unfold soO at HH0 HX HY HC0
  have e1 : ((s.arrays.length : Int) != (s.arrays.length : Int)) = false := by simp
  have e2 : ((s.funcs.length : Int) != (s.funcs.length : Int)) = false := by simp
  go_enter Tryz.func9, Tryz.ntmps9
  go_wp2_with fail
  go_at_call 19
  refine (HSt.out _ HH0.out).mono ?_
  rintro e w1 ⟨rfl, k1, rfl⟩
  go_wp2_with fail
  go_at_call 20
  refine (HDg.out _ (hasD HH0.out _)).mono ?_
  rintro e w1 ⟨rfl, k2, rfl⟩
  go_wp2_with fail
  go_at_call 20
  refine (HDc.out _ (hasD HH0.out _)).mono ?_
  rintro e w1 ⟨rfl, k3, rfl⟩
  have HX1 := Lib.hid (heapD HX.out (k1 + k2 + k3))
  have HY1 := Lib.hid (heapD HY.out (k1 + k2 + k3))
  have HH1 := Lib.hid (hasD HH0.out (k1 + k2 + k3))
  have HC1 := Lib.hid (HC0.out.drewN (k1 + k2 + k3))
  obtain ⟨x0, x1, x2, x3, x4⟩ := five_cells HX1.out
  obtain ⟨y0, y1, y2, y3, y4⟩ := five_cells HY1.out
  clear HX HY HH0 HC0 HSt HDg HDc
  go_wp2_with fail
  generalize (((w.alloc _).alloc _).drewN (k1 + k2 + k3) : World) = W at *
  obtain ⟨⟨ca, a1, a2⟩, ⟨ca', b1, b2⟩⟩ := HAA.out
  have hmax := row_max a1
  have HA := Lib.hid (RowM.rd a1 HH1.out)
  have HB := Lib.hid (RowM.rd b1 HH1.out)
  clear a1 b1 HAA
  obtain ⟨na, hna⟩ : ∃ na, s.arrays.length = na := ⟨_, rfl⟩
  have HNA := Lib.hid hna
  rw [hna] at hmax x2 y2
  go_loopw [5] (fun i wr => ∃ k nq : Nat, k ≤ na ∧ i = .int .i64 k ∧ wr = W.drewN nq) (fun i _ => na - (intOf i).toNat)
  case atStart => exact ⟨0, 0, Nat.zero_le _, rfl, rfl⟩
  case round =>
    obtain ⟨k, nq, hk, rfl, rfl⟩ := hrel
    by_cases hlt : k < na
    · have hk' : k < s.arrays.length := by rw [HNA.out]; exact hlt
      obtain ⟨g, rfl, p1, p2, p3⟩ := rd_ar HA.out a2 k hk'
      obtain ⟨g', rfl, p4, p5, p6⟩ := rd_ar HB.out b2 k hk'
      generalize sb s.arrays[k].name = nm at *
      generalize s.arrays[k].len = ln at *
      generalize s.arrays[k].label = lb at *
      have hki : (k : Int) < (na : Int) := by omega
      have t1 : (nm.toList == nm.toList) = true := by simp
      have t2 : ((ln : Int) == (ln : Int)) = true := by simp
      have t3 : ((lb : Int) == (lb : Int)) = true := by simp
      clear hna
      go_wp2
      go_quiet (fail)
      go_wp2
      exact ⟨⟨k + 1, _, by omega, by go_num, rfl⟩, by simp [intOf]; omega⟩
    · have hki : ¬ (k : Int) < (na : Int) := by omega
      clear hna
      obtain ⟨⟨cf, f1, f2⟩, ⟨cf', f3, f4⟩⟩ := HFF.out
      have hmaxf := row_max f1
      have HW := Lib.hid (Chg.refl (fun _ => False) (W.drewN nq))
      have HF := Lib.hid (And.intro f1 f3)
      clear f1 f3 HFF
      obtain ⟨nf, hnf⟩ : ∃ nf, s.funcs.length = nf := ⟨_, rfl⟩
      have HNF := Lib.hid hnf
      rw [hnf] at hmaxf x4 y4
      clear hnf
      go_wp2_with fail
      go_loopw [6] (fun i wr => ∃ k : Nat, k ≤ nf ∧ i = .int .i64 k ∧ Hid (Chg (fun _ => False) (W.drewN nq) wr)) (fun i _ => nf - (intOf i).toNat)
      case atStart => exact ⟨0, Nat.zero_le _, rfl, HW⟩
      case round =>
        obtain ⟨k2, hk2, rfl, HC⟩ := hrel
        have hHr := HH1.out.chg ((Chg.refl (fun _ => False) W).drewN nq) (fun _ e => e.elim) |>.chg HC.out (fun _ e => e.elim)
        have HHr := Lib.hid hHr
        have hXr := HC.out.heap (heapD HX1.out nq) (fun e => e.elim)
        have hYr := HC.out.heap (heapD HY1.out nq) (fun e => e.elim)
        rw [HNF.out] at hXr hYr
        obtain ⟨_, _, _, _, x4'⟩ := five_cells hXr
        obtain ⟨_, _, _, _, y4'⟩ := five_cells hYr
        clear hHr hXr hYr x0 x1 x2 x3 x4 y0 y1 y2 y3 y4 hki
        by_cases hlt2 : k2 < nf
        · have hk2' : k2 < s.funcs.length := by rw [HNF.out]; exact hlt2
          obtain ⟨g, qa, xa, qb, xb, qc, xc, qd, xd, rfl, p0, p1, p2, p3, p4, p5, P⟩ := rd_fn (RowM.rd HF.out.1 HHr.out) f2 k2 hk2'
          obtain ⟨g', qa', xa', qb', xb', qc', xc', qd', xd', rfl, u0, u1, u2, u3, u4, u5, U⟩ := rd_fn (RowM.rd HF.out.2 HHr.out) f4 k2 hk2'
          have HP := Lib.hid P
          have HU := Lib.hid U
          clear P U
          have l1 : w.heap.size < wr.heap.size := World.block_lt_of_cell? _ _ x4'
          have l2 : w.heap.size + 1 < wr.heap.size := World.block_lt_of_cell? _ _ y4'
          have l3 : g < wr.heap.size := World.block_lt_of_cell? _ _ p0
          have l4 : g' < wr.heap.size := World.block_lt_of_cell? _ _ u0
          have hki2 : (k2 : Int) < (nf : Int) := by omega
          generalize s.funcs[k2] = fn at *
          go_upto_region 11 with fail
          go_cut [7, 8] from 67 to 127 (fun r7 r8 wx => ∃ g7 g8, r7 = .pointer (some ⟨g7, 0, none⟩) ∧ r8 = .pointer (some ⟨g8, 0, none⟩) ∧ Hid (wx.heap[g7]? = some (.cells #[.string (sb fn.name), .int .u64 (fn.level : Nat), .slice qa fn.params.length xa, .slice qb fn.results.length xb, .slice qc fn.vars.length xc, .slice qd fn.body.length xd] 41 (0, 0))) ∧ Hid (wx.heap[g8]? = some (.cells #[.string (sb fn.name), .int .u64 (fn.level : Nat), .slice qa' fn.params.length xa', .slice qb' fn.results.length xb', .slice qc' fn.vars.length xc', .slice qd' fn.body.length xd'] 41 (0, 0))) ∧ Hid (Chg (fun _ => False) wr wx))
          case first =>
            have w1 := World.alloc_heap_new wr (.cells #[.string (sb fn.name), .int .u64 (fn.level : Nat), .slice qa fn.params.length xa, .slice qb fn.results.length xb, .slice qc fn.vars.length xc, .slice qd fn.body.length xd] 41)
            have w2 := World.alloc_heap_new wr (.cells #[.string (sb fn.name), .int .u64 (fn.level : Nat), .slice qa' fn.params.length xa', .slice qb' fn.results.length xb', .slice qc' fn.vars.length xc', .slice qd' fn.body.length xd'] 41)
            have w3 := World.alloc_heap_new (wr.alloc (.cells #[.string (sb fn.name), .int .u64 (fn.level : Nat), .slice qa fn.params.length xa, .slice qb fn.results.length xb, .slice qc fn.vars.length xc, .slice qd fn.body.length xd] 41)) (.cells #[.string (sb fn.name), .int .u64 (fn.level : Nat), .slice qa' fn.params.length xa', .slice qb' fn.results.length xb', .slice qc' fn.vars.length xc', .slice qd' fn.body.length xd'] 41)
            have w4 := World.alloc_heap_new (wr.alloc (.cells #[.string (sb fn.name), .int .u64 (fn.level : Nat), .slice qa' fn.params.length xa', .slice qb' fn.results.length xb', .slice qc' fn.vars.length xc', .slice qd' fn.body.length xd'] 41)) (.cells #[.string (sb fn.name), .int .u64 (fn.level : Nat), .slice qa fn.params.length xa, .slice qb fn.results.length xb, .slice qc fn.vars.length xc, .slice qd fn.body.length xd] 41)
            rw [World.size_alloc] at w3 w4
            have H1 := Lib.hid (And.intro (heap_new _ (.cells #[.string (sb fn.name), .int .u64 (fn.level : Nat), .slice qa' fn.params.length xa', .slice qb' fn.results.length xb', .slice qc' fn.vars.length xc', .slice qd' fn.body.length xd'] 41) w1) w3)
            have H2 := Lib.hid (And.intro (heap_new _ (.cells #[.string (sb fn.name), .int .u64 (fn.level : Nat), .slice qa fn.params.length xa, .slice qb fn.results.length xb, .slice qc fn.vars.length xc, .slice qd fn.body.length xd] 41) w2) w4)
            clear w1 w2 w3 w4
            go_region
            all_goals
              go_wp2_with fail
              go_meet
              first
                | exact ⟨_, _, rfl, rfl, Lib.hid H1.out.1, Lib.hid H1.out.2, Lib.hid (((Chg.refl _ wr).alloc _).alloc _).drew⟩
                | exact ⟨_, _, rfl, rfl, Lib.hid H2.out.2, Lib.hid H2.out.1, Lib.hid (((Chg.refl _ wr).alloc _).alloc _).drew⟩
          case rest =>
            obtain ⟨g7, g8, rfl, rfl, HG7, HG8, HCX⟩ := hcut
            have hHc := HHr.out.chg HCX.out (fun _ e => e.elim)
            obtain ⟨v0, v1, v2, v3, v4, v5⟩ := six_cells HG7.out
            obtain ⟨z0, z1, z2, z3, z4, z5⟩ := six_cells HG8.out
            obtain ⟨s1, s2, s3⟩ := HP.out.p
            obtain ⟨s4, s5, s6⟩ := HU.out.p
            have D1 := Lib.hid (fun n => decls_same (w := wc.drewN n) (c := xa) (c' := xa') fn.params s3 s6 rfl (RowM.rd s2 hHc) (RowM.rd s5 hHc) (row_max s2))
            obtain ⟨s1, s2, s3⟩ := HP.out.r
            obtain ⟨s4, s5, s6⟩ := HU.out.r
            have D2 := Lib.hid (fun n => labels_same (w := wc.drewN n) (c := xb) (c' := xb') fn.results s3 s6 rfl (RowM.rd s2 hHc) (RowM.rd s5 hHc) (row_max s2))
            obtain ⟨s1, s2, s3⟩ := HP.out.v
            obtain ⟨s4, s5, s6⟩ := HU.out.v
            have D3 := Lib.hid (fun n => decls_same (w := wc.drewN n) (c := xc) (c' := xc') fn.vars s3 s6 rfl (RowM.rd s2 hHc) (RowM.rd s5 hHc) (row_max s2))
            obtain ⟨s1, s2, s3⟩ := HP.out.b
            obtain ⟨s4, s5, s6⟩ := HU.out.b
            have D4 := Lib.hid (fun n => stmts_same (w := wc.drewN n) (c := xd) (c' := xd') fn.body (m := m) hHc rfl s2 s3 s5 s6)
            clear s1 s2 s3 s4 s5 s6 HP HU hHc p0 p1 p2 p3 p4 p5 u0 u1 u2 u3 u4 u5 l1 l2 l3 l4 x4' y4'
            generalize sb fn.name = nm at *
            generalize fn.level = lv at *
            generalize fn.params.length = n1 at *
            generalize fn.results.length = n2 at *
            generalize fn.vars.length = n3 at *
            generalize fn.body.length = n4 at *
            have t1 : (nm.toList == nm.toList) = true := by simp
            have t2 : (nm.toList != nm.toList) = false := by simp
            have t3 : ((lv : Int) == (lv : Int)) = true := by simp
            have t4 : ((lv : Int) != (lv : Int)) = false := by simp
            have E1 := D1.out 0
            have E2 := D2.out
            have E3 := D3.out
            have E4 := D4.out
            rw [World.drewN_zero] at E1
            have HE1 := Lib.hid E1
            have HE2 := Lib.hid E2
            have HE3 := Lib.hid E3
            have HE4 := Lib.hid E4
            clear E1 E2 E3 E4 D1 D2 D3 D4
            go_wp2_with fail
            go_at_call 20
            refine HE1.out.mono ?_
            rintro e w1 ⟨rfl, j1, rfl⟩
            go_wp2_with fail
            go_at_call 21
            refine (HE2.out _).mono ?_
            rintro e w1 ⟨rfl, j2, rfl⟩
            go_wp2_with fail
            go_at_call 20
            refine (HE3.out _).mono ?_
            rintro e w1 ⟨rfl, j3, rfl⟩
            go_wp2_with fail
            go_at_call 22
            refine (HE4.out _).mono ?_
            rintro e w1 ⟨rfl, j4, rfl⟩
            go_wp2_with fail
            exact ⟨⟨k2 + 1, by omega, by go_num, Lib.hid ((HC.out.then HCX.out).drewN _)⟩, by simp [intOf]; omega⟩
        · have hki2 : ¬ (k2 : Int) < (nf : Int) := by omega
          go_wp2_with fail
          go_ret
          exact ⟨rfl, ((HC1.out.drewN nq).then HC.out)⟩
end Go.Proofs.YtbojklbnfgopfaaGreatDoor

/- Blanks make no difference, plain. -/
namespace Go.Proofs.YtbojklbnfgopfaaGreatDoor
open Go Go.RowKit Go.Proofs.Mm

theorem err_long {s : ByteArray} (h : 65536 < s.size) : srcOf s = .error (3, 0) := by
  refine read_bad ?_
  unfold faultOf itsOf
  rw [allItems, if_pos h]
  rfl
theorem Tk_map (ys : List It) (i : Nat) : Tk ys i = (ys.map keyOf)[i]? := by unfold Tk; rw [List.getElem?_map]
theorem blanks_same {s o : ByteArray} {ys : List It} (hy : ys.map It.key = allItems s) (h0 : ∀ x ∈ ys, x.e = 0) {L : List (List Nat × Tok)} (hg : ∀ p ∈ L, Gap p.1) (hL : L.map (fun p => p.2) = (scanL (bl s) 0).1) (ho : bl o = apart L ++ [10]) (hsz : o.size ≤ 65536) :
    (∀ so, srcOf s = .ok so → srcOf o = .ok so) ∧ ∀ er a, srcOf s = .error (er, a) → ∃ a', srcOf o = .error (er, a') := by
  obtain ⟨hl, ht⟩ := its_tok hy h0
  have hgood : ∀ p ∈ L, Good p.2.kind p.2.text p.2.value := fun p hp => scanL_all _ (bl s) (Nat.le_refl _) 0 _ (by rw [← hL]; exact List.mem_map_of_mem hp)
  obtain ⟨h1, h2⟩ := scan_apart L hg hgood 0
  rw [← ho] at h1 h2
  have h3 : (scanL (bl o) 0).1.map (fun t => (t.kind, t.text, t.value)) = ys.map fun x => (x.k, bl x.t, x.v) := by
    rw [h2]
    have e1 : L.map (fun p => (p.2.kind, p.2.text, p.2.value)) = (L.map fun p => p.2).map fun t => (t.kind, t.text, t.value) := by rw [List.map_map]; rfl
    rw [e1, hL]
    have e2 : (scanL (bl s) 0).1 = ys.map fun x => (⟨x.k, bl x.t, x.v, x.a⟩ : Tok) := by
      refine List.ext_getElem? fun i => ?_
      rw [List.getElem?_map]
      rcases Nat.lt_or_ge i ys.length with q | q
      · rw [ht i q, List.getElem?_eq_getElem q]; rfl
      · rw [List.getElem?_eq_none (by omega), List.getElem?_eq_none q]; rfl
    rw [e2, List.map_map]; rfl
  have hlen : (scanL (bl o) 0).1.length = ys.length := by have := congrArg List.length h3; simpa using this
  obtain ⟨zs, hzs⟩ : ∃ zs : List It, (scanL (bl o) 0).1.map (fun t => (⟨t.kind, sb t.text, t.value, t.at_, 0⟩ : It)) = zs := ⟨_, rfl⟩
  have htext : ∀ t ∈ (scanL (bl o) 0).1, bl (sb t.text) = t.text := fun t hm => by
    have : (t.kind, t.text, t.value) ∈ ys.map fun x => (x.k, bl x.t, x.v) := by rw [← h3]; exact List.mem_map_of_mem (f := fun t : Tok => (t.kind, t.text, t.value)) hm
    obtain ⟨x, _, e⟩ := List.mem_map.1 this
    have e2 := congrArg (fun z => z.2.1) e
    simp only at e2
    rw [← e2, sb_bl]
  have hz : zs.map It.key = allItems o := by
    rw [allItems, if_neg (by omega)]
    unfold itemsOf
    rw [if_pos h1, List.append_nil, ← hzs, List.map_map]
    refine List.map_congr_left fun t hm => ?_
    simp only [Function.comp, It.key, htext t hm]
  have hz0 : ∀ x ∈ zs, x.e = 0 := fun x hx => by
    rw [← hzs] at hx
    obtain ⟨t, _, e⟩ := List.mem_map.1 hx
    rw [← e]
  have hzl : zs.length = ys.length := by rw [← hzs, List.length_map, hlen]
  have hkeys : zs.map keyOf = ys.map keyOf := by
    rw [← hzs, List.map_map]
    have e1 : (scanL (bl o) 0).1.map (keyOf ∘ fun t => (⟨t.kind, sb t.text, t.value, t.at_, 0⟩ : It)) = ((scanL (bl o) 0).1.map fun t => (t.kind, t.text, t.value)).map fun z => (⟨z.1, z.2.1, z.2.2⟩ : Syn.K) := by
      rw [List.map_map]
      refine List.map_congr_left fun t hm => ?_
      simp only [Function.comp, keyOf, htext t hm]
    rw [e1, h3, List.map_map]; rfl
  have hT : Tk zs = Tk ys := funext fun i => by rw [Tk_map, Tk_map, hkeys]
  unfold srcOf
  rw [read_eq hy h0, read_eq hz hz0, hT, hzl]
  cases Syn.source (Tk ys) (ys.length + 1) with
  | error q =>
    obtain ⟨er, k⟩ := q
    refine ⟨fun so e => ?_, fun er' a e => ?_⟩
    · cases e
    · simp only [Except.error.injEq, Prod.mk.injEq] at e
      exact ⟨(tk zs o.size k).a, by rw [← e.1]⟩
  | ok q =>
    obtain ⟨so, k⟩ := q
    refine ⟨fun so' e => e, fun er' a e => ?_⟩
    cases e
end Go.Proofs.YtbojklbnfgopfaaGreatDoor
