/- Plain: a text's words set apart anew, by whatever blanks, line ends and comments, are the same words (kind, text, number). -/
import Derived.Test.YtbojklbnfgopfaaGreatDoorQ1
import Derived.Test.YtbojklbnfgopfaaGreatDoorQ3
import Derived.Test.YtbojklbnfgopfaaGreatDoorQ16
namespace Go.Proofs.YtbojklbnfgopfaaGreatDoor
open Go

theorem blank_word {x : Nat} (h : blankB x = true) : nameB x = false ∧ digitB x = false ∧ x ∉ mark1 ∧ ∀ m ∈ mark2, x ∉ m := by
  have : x = 9 ∨ x = 10 ∨ x = 13 ∨ x = 32 := by simpa [blankB, or_assoc] using h
  rcases this with rfl | rfl | rfl | rfl <;> decide
/-- A word, again, with whatever blank behind it. -/
theorem wordL_blank (s : List Nat) (h : (wordL s).1 ≠ 0) (b : Nat) (hb : blankB b = true) (r : List Nat) : wordL (s.take (wordL s).1 ++ b :: r) = wordL s := by
  obtain ⟨hb1, hb2, _, hb4⟩ := blank_word hb
  cases s with
  | nil => exact absurd rfl h
  | cons c l =>
    have hx : ∀ x, (b :: r).head? = some x → nameB x = false ∧ digitB x = false := by
      intro x hx
      obtain rfl : b = x := by simpa using hx
      exact ⟨hb1, hb2⟩
    by_cases hl : letterB c = true
    · have hw : wordL (c :: l) = (((c :: l).takeWhile nameB).length, if (c :: l).take ((c :: l).takeWhile nameB).length ∈ keysL then 2 else 1) := by
        rw [wordL, if_pos hl]
      rw [hw]
      simp only
      rw [takeWhile_is_take]
      have hn : nameB c = true := by unfold nameB; rw [hl]; rfl
      have hc : (c :: l).takeWhile nameB = c :: l.takeWhile nameB := by rw [List.takeWhile_cons, if_pos hn]
      have hst : ((c :: l).takeWhile nameB ++ b :: r).takeWhile nameB = (c :: l).takeWhile nameB := takeWhile_stop _ _ (fun x hx => mem_takeWhile _ x hx) (fun x h => (hx x h).1)
      rw [hc] at hst ⊢
      rw [List.cons_append] at hst ⊢
      rw [wordL, if_pos hl]
      simp only
      rw [hst, ← List.cons_append, List.take_left]
    · by_cases hd : digitB c = true
      · have hw : wordL (c :: l) = (((c :: l).takeWhile digitB).length, 3) := by rw [wordL, if_neg hl, if_pos hd]
        rw [hw]
        simp only
        rw [takeWhile_is_take]
        have hc : (c :: l).takeWhile digitB = c :: l.takeWhile digitB := by rw [List.takeWhile_cons, if_pos hd]
        have hst : ((c :: l).takeWhile digitB ++ b :: r).takeWhile digitB = (c :: l).takeWhile digitB := takeWhile_stop _ _ (fun x hx => mem_takeWhile _ x hx) (fun x h => (hx x h).2)
        rw [hc] at hst ⊢
        rw [List.cons_append] at hst ⊢
        rw [wordL, if_neg hl, if_pos hd, hst]
      · by_cases h2 : (c :: l).take 2 ∈ mark2
        · have hw : wordL (c :: l) = (2, 4) := by rw [wordL, if_neg hl, if_neg hd, if_pos h2]
          rw [hw]
          simp only
          obtain ⟨d, l', rfl⟩ : ∃ d l', l = d :: l' := by
            cases l with
            | nil => exact absurd h2 (by simp [mark2])
            | cons d l' => exact ⟨d, l', rfl⟩
          show wordL (c :: d :: b :: r) = (2, 4)
          rw [wordL, if_neg hl, if_neg hd, if_pos (by exact h2)]
        · by_cases h1 : c ∈ mark1
          · have hw : wordL (c :: l) = (1, 4) := by rw [wordL, if_neg hl, if_neg hd, if_neg h2, if_pos h1]
            rw [hw]
            show wordL (c :: b :: r) = (1, 4)
            rw [wordL, if_neg hl, if_neg hd, if_neg ?_, if_pos h1]
            intro hm
            exact hb4 _ hm (by simp)
          · exact absurd (by rw [wordL, if_neg hl, if_neg hd, if_neg h2, if_neg h1]) h
theorem scanL_goodB {k v : Nat} {t : List Nat} (h : Good k t v) (b : Nat) (hb : blankB b = true) (r : List Nat) (a : Nat) :
    scanL (t ++ b :: r) a = (⟨k, t, v, a⟩ :: (scanL (b :: r) (a + t.length)).1, (scanL (b :: r) (a + t.length)).2) := by
  obtain ⟨hw, hs, hh, hn, hu, hv⟩ := h
  have hag : wordL (t ++ b :: r) = (t.length, k) := by
    have := wordL_blank t (by rw [hw]; exact fun e => hs (List.eq_nil_of_length_eq_zero e)) b hb r
    rw [hw] at this
    simpa using this
  cases t with
  | nil => exact absurd rfl hs
  | cons c t =>
    obtain ⟨h1, h2⟩ := hh c rfl
    have htk : ((c :: t) ++ b :: r).take (c :: t).length = c :: t := List.take_left
    have hdr : ((c :: t) ++ b :: r).drop (c :: t).length = b :: r := List.drop_left
    rw [List.cons_append] at hag htk hdr ⊢
    rw [scanL, if_neg (by rw [h1]; simp), dif_neg h2, hag, dif_neg (by simp), if_neg hn]
    simp only
    rw [htk, hdr, if_neg hu, hv]
/-- What may stand between two words: a blank, then blanks and whole comments. -/
structure Gap (g : List Nat) : Prop where
  head : ∃ b r, g = b :: r ∧ blankB b = true
  pass : ∀ r a, scanL (g ++ r) a = scanL r (a + g.length)
theorem pass_blank {b : Nat} (h : blankB b = true) {g : List Nat} (hg : ∀ r a, scanL (g ++ r) a = scanL r (a + g.length)) (r : List Nat) (a : Nat) : scanL (b :: g ++ r) a = scanL r (a + (b :: g).length) := by
  rw [List.cons_append, scanL_blank _ _ h, hg, List.length_cons]; congr 1; omega
theorem pass_nil (r : List Nat) (a : Nat) : scanL ([] ++ r) a = scanL r (a + ([] : List Nat).length) := rfl
/-- A comment and its line end. -/
theorem pass_comment (c : List Nat) (hc : ∀ x ∈ c, x ≠ 10) {g : List Nat} (hg : ∀ r a, scanL (g ++ r) a = scanL r (a + g.length)) (r : List Nat) (a : Nat) : scanL (35 :: c ++ 10 :: g ++ r) a = scanL r (a + (35 :: c ++ 10 :: g).length) := by
  have h1 : (35 :: c ++ (10 :: (g ++ r))).takeWhile inC = 35 :: c := takeWhile_stop _ _ (fun x hx => by
    rcases List.mem_cons.1 hx with rfl | hx
    · decide
    · simpa [inC] using hc x hx) (fun x hx => by
    obtain rfl : 10 = x := by simpa using hx
    decide)
  have h2 : (35 :: c ++ (10 :: (g ++ r))).dropWhile inC = 10 :: (g ++ r) := by
    have := List.takeWhile_append_dropWhile (p := inC) (l := 35 :: c ++ (10 :: (g ++ r)))
    rw [h1] at this
    exact List.append_cancel_left this
  have e : 35 :: c ++ 10 :: g ++ r = 35 :: (c ++ (10 :: (g ++ r))) := by simp
  have e2 : 35 :: c ++ (10 :: (g ++ r)) = 35 :: (c ++ (10 :: (g ++ r))) := rfl
  rw [e2] at h1 h2
  rw [e, scan_comment, h1, h2, scanL_blank _ _ (by decide), hg]
  congr 1
  simp; omega
theorem gap_1 : Gap [32] := ⟨⟨_, _, rfl, by decide⟩, pass_blank (by decide) pass_nil⟩
theorem gap_2 : Gap [10, 9, 13] := ⟨⟨_, _, rfl, by decide⟩, pass_blank (by decide) (pass_blank (by decide) (pass_blank (by decide) pass_nil))⟩
/-- " # a } comment" and a line end. -/
theorem gap_3 : Gap [32, 35, 32, 97, 32, 125, 32, 99, 111, 109, 109, 101, 110, 116, 10] :=
  ⟨⟨_, _, rfl, by decide⟩, pass_blank (by decide) (pass_comment [32, 97, 32, 125, 32, 99, 111, 109, 109, 101, 110, 116] (by decide) pass_nil)⟩
theorem gap_4 : Gap [32, 32, 32] := ⟨⟨_, _, rfl, by decide⟩, pass_blank (by decide) (pass_blank (by decide) (pass_blank (by decide) pass_nil))⟩
/-- Words, each with what stands ahead of it. -/
def apart : List (List Nat × Tok) → List Nat
  | [] => []
  | p :: l => p.1 ++ p.2.text ++ apart l
theorem apart_head : ∀ (l : List (List Nat × Tok)), (∀ p ∈ l, Gap p.1) → ∃ b r, apart l ++ [10] = b :: r ∧ blankB b = true
  | [], _ => ⟨10, [], rfl, by decide⟩
  | p :: l, h => by
    obtain ⟨b, r, h1, h2⟩ := (h p (List.mem_cons_self ..)).head
    exact ⟨b, r ++ p.2.text ++ apart l ++ [10], by rw [apart, h1]; simp, h2⟩
/-- BLANKS, LINE ENDS AND COMMENTS MAKE NO DIFFERENCE: the same words, and no fault. -/
theorem scan_apart : ∀ (l : List (List Nat × Tok)), (∀ p ∈ l, Gap p.1) → (∀ p ∈ l, Good p.2.kind p.2.text p.2.value) → ∀ a,
    (scanL (apart l ++ [10]) a).2.2 = 0 ∧ (scanL (apart l ++ [10]) a).1.map (fun t => (t.kind, t.text, t.value)) = l.map (fun p => (p.2.kind, p.2.text, p.2.value))
  | [], _, _, a => by
    show (scanL [10] a).2.2 = 0 ∧ _
    rw [show apart [] ++ [10] = [10] from rfl, scanL_blank _ _ (by decide), scanL]
    exact ⟨rfl, rfl⟩
  | p :: l, hg, hw, a => by
    obtain ⟨b, r, h1, h2⟩ := apart_head l (fun q hq => hg q (List.mem_cons_of_mem _ hq))
    have hp := (hg p (List.mem_cons_self ..)).pass (p.2.text ++ (apart l ++ [10])) a
    have e : apart (p :: l) ++ [10] = p.1 ++ (p.2.text ++ (apart l ++ [10])) := by rw [apart]; simp
    have hs := scanL_goodB (hw p (List.mem_cons_self ..)) b h2 r (a + p.1.length)
    have ih := scan_apart l (fun q hq => hg q (List.mem_cons_of_mem _ hq)) (fun q hq => hw q (List.mem_cons_of_mem _ hq)) (a + p.1.length + p.2.text.length)
    rw [h1] at ih
    rw [e, hp, h1, hs]
    exact ⟨ih.1, by rw [List.map_cons, List.map_cons, ih.2]⟩
end Go.Proofs.YtbojklbnfgopfaaGreatDoor

/- Plain: a text cut behind a word, and gone on with otherwise behind a blank, has the same words up to that one. -/
namespace Go.Proofs.YtbojklbnfgopfaaGreatDoor
open Go

theorem split_same {l l' : List Nat} {n : Nat} (hlt : n < l.length) (h : l'.take (n + 1) = l.take (n + 1)) : ∃ x s s', l = l.take n ++ x :: s ∧ l' = l.take n ++ x :: s' := by
  have e1 : l.take (n + 1) = l.take n ++ [l[n]] := by rw [List.take_succ_eq_append_getElem hlt]
  refine ⟨l[n], l.drop (n + 1), l'.drop (n + 1), ?_, ?_⟩
  · have := List.take_append_drop (n + 1) l
    rw [e1, List.append_assoc] at this
    exact this.symm
  · have := List.take_append_drop (n + 1) l'
    rw [h, e1, List.append_assoc] at this
    exact this.symm
theorem run_same {p : Nat → Bool} {l l' : List Nat} (hlt : (l.takeWhile p).length < l.length) (h : l'.take ((l.takeWhile p).length + 1) = l.take ((l.takeWhile p).length + 1)) : l'.takeWhile p = l.takeWhile p := by
  obtain ⟨x, s, s', e1, e2⟩ := split_same hlt h
  rw [takeWhile_is_take] at e1 e2
  have hx : p x = false := by
    cases hp : p x with
    | false => rfl
    | true =>
      have : l.takeWhile p = l.takeWhile p ++ (x :: s).takeWhile p := by
        conv => lhs; rw [e1]
        rw [List.takeWhile_append_of_pos (fun y hy => mem_takeWhile _ y hy)]
      have := congrArg List.length this
      rw [List.length_append, List.takeWhile_cons, if_pos hp, List.length_cons] at this
      omega
  conv => lhs; rw [e2]
  exact takeWhile_stop _ _ (fun y hy => mem_takeWhile _ y hy) (fun y hy => by
    obtain rfl : x = y := by simpa using hy
    exact hx)
/-- The word at a text's head hangs on its bytes and the one behind them. -/
theorem wordL_local {l l' : List Nat} (h0 : (wordL l).1 ≠ 0) (hlt : (wordL l).1 < l.length) (h : l'.take ((wordL l).1 + 1) = l.take ((wordL l).1 + 1)) : wordL l' = wordL l := by
  cases l with
  | nil => exact absurd rfl h0
  | cons c r =>
    obtain ⟨m, hm⟩ : ∃ m, (wordL (c :: r)).1 = m + 1 := ⟨(wordL (c :: r)).1 - 1, by omega⟩
    cases l' with
    | nil => rw [hm] at h; simp at h
    | cons c' r' =>
      obtain rfl : c' = c := by
        rw [hm, List.take_succ_cons, List.take_succ_cons] at h
        injection h
      by_cases hl : letterB c' = true
      · have hw : wordL (c' :: r) = (((c' :: r).takeWhile nameB).length, if (c' :: r).take ((c' :: r).takeWhile nameB).length ∈ keysL then 2 else 1) := by rw [wordL, if_pos hl]
        rw [hw] at hlt h
        have e := run_same hlt h
        rw [hw, wordL, if_pos hl]
        simp only
        rw [takeWhile_is_take, takeWhile_is_take, e]
      · by_cases hd : digitB c' = true
        · have hw : wordL (c' :: r) = (((c' :: r).takeWhile digitB).length, 3) := by rw [wordL, if_neg hl, if_pos hd]
          rw [hw] at hlt h
          have e := run_same hlt h
          rw [hw, wordL, if_neg hl, if_pos hd, e]
        · by_cases h2 : (c' :: r).take 2 ∈ mark2
          · have hw : wordL (c' :: r) = (2, 4) := by rw [wordL, if_neg hl, if_neg hd, if_pos h2]
            rw [hw] at h
            have e : (c' :: r').take 2 = (c' :: r).take 2 := by
              have := congrArg (List.take 2) h
              simpa [List.take_take] using this
            rw [hw, wordL, if_neg hl, if_neg hd, e, if_pos h2]
          · by_cases h1 : c' ∈ mark1
            · have hw : wordL (c' :: r) = (1, 4) := by rw [wordL, if_neg hl, if_neg hd, if_neg h2, if_pos h1]
              rw [hw] at h
              rw [hw, wordL, if_neg hl, if_neg hd, show (c' :: r').take 2 = (c' :: r).take 2 from h, if_neg h2, if_pos h1]
            · exact absurd (by rw [wordL, if_neg hl, if_neg hd, if_neg h2, if_neg h1]) h0
/-- Words stand from the place on at which the text begins. -/
theorem scan_at : ∀ (N : Nat) (l : List Nat), l.length ≤ N → ∀ a, ∀ t ∈ (scanL l a).1, a ≤ t.at_
  | _, [], _, a, t, ht => by rw [scanL] at ht; exact absurd ht (by simp)
  | 0, c :: r, h, _, _, _ => absurd h (by simp)
  | N + 1, c :: r, h, a, t, ht => by
    have hr : r.length ≤ N := by simpa using h
    by_cases hb : blankB c = true
    · rw [scanL_blank r a hb] at ht
      have := scan_at N r hr _ t ht
      omega
    · have hb : blankB c = false := by simpa using hb
      by_cases h35 : c = 35
      · subst h35
        rw [scan_comment] at ht
        have := scan_at N _ (by have := dropWhile_lt r; rw [List.length_cons] at this; omega) _ t ht
        omega
      · by_cases he : errL (c :: r) = 0
        · rw [scan_word a hb h35 he] at ht
          rcases List.mem_cons.1 ht with rfl | ht
          · exact Nat.le_refl _
          · have := scan_at N _ (by have := drop_lt c r _ (errL_word he); rw [List.length_cons] at this; omega) _ t ht
            omega
        · rw [scan_err a hb h35 he] at ht
          exact absurd ht (by simp)
/-- Behind word i cut, and gone on with behind a blank: the words up to it stay. -/
theorem scan_ahead : ∀ (N : Nat) (l : List Nat), l.length ≤ N → ∀ (a i : Nat) (t : Tok) (more : List Nat), (scanL l a).1[i]? = some t →
    (scanL (l.take (t.at_ + t.text.length - a) ++ 32 :: more) a).1.take (i + 1) = (scanL l a).1.take (i + 1)
  | _, [], _, a, i, t, _, ht => by rw [scanL] at ht; exact absurd ht (by simp)
  | 0, c :: r, h, _, _, _, _, _ => absurd h (by simp)
  | N + 1, c :: r, h, a, i, t, more, ht => by
    have hr : r.length ≤ N := by simpa using h
    have hmem := List.mem_of_getElem? ht
    have hgood := scanL_all _ (c :: r) (Nat.le_refl _) a t hmem
    have hne : t.text.length ≠ 0 := fun e => hgood.ne (List.eq_nil_of_length_eq_zero e)
    by_cases hb : blankB c = true
    · rw [scanL_blank r a hb] at ht hmem ⊢
      have hat := scan_at _ r (Nat.le_refl _) _ t hmem
      have ih := scan_ahead N r hr (a + 1) i t more ht
      obtain ⟨e, he⟩ : ∃ e, t.at_ + t.text.length - a = e + 1 := ⟨t.at_ + t.text.length - (a + 1), by omega⟩
      rw [he, List.take_succ_cons, List.cons_append, scanL_blank _ a hb]
      rwa [show t.at_ + t.text.length - (a + 1) = e by omega] at ih
    · have hb : blankB c = false := by simpa using hb
      by_cases h35 : c = 35
      · subst h35
        obtain ⟨n, hn⟩ : ∃ n, ((35 :: r).takeWhile inC).length = n := ⟨_, rfl⟩
        rw [scan_comment, hn] at ht hmem ⊢
        have hat := scan_at _ _ (Nat.le_refl _) _ t hmem
        have ih := scan_ahead N _ (by have := dropWhile_lt r; rw [List.length_cons] at this; omega) (a + n) i t more ht
        have hd : (35 :: r).drop n = (35 :: r).dropWhile inC := by rw [← hn]; exact drop_takeWhile _
        have htk : (35 :: r).take n = (35 :: r).takeWhile inC := by rw [← hn]; exact takeWhile_is_take _
        have hnl : n < (35 :: r).length := by
          by_cases hc : n < (35 :: r).length
          · exact hc
          · rw [← hd, List.drop_eq_nil_of_le (by omega), scanL] at ht
            exact absurd ht (by simp)
        -- the cut text begins with the same comment
        have hcut : (35 :: r).take (t.at_ + t.text.length - a) ++ 32 :: more = (35 :: r).take n ++ (((35 :: r).drop n).take (t.at_ + t.text.length - (a + n)) ++ 32 :: more) := by
          rw [show t.at_ + t.text.length - a = n + (t.at_ + t.text.length - (a + n)) by omega, List.take_add, List.append_assoc]
        have hrun : ((35 :: r).take (t.at_ + t.text.length - a) ++ 32 :: more).takeWhile inC = (35 :: r).takeWhile inC := by
          refine run_same (by rw [hn]; exact hnl) ?_
          rw [hn, List.take_append_of_le_length (by rw [List.length_take]; omega), List.take_take, Nat.min_eq_left (by omega)]
        obtain ⟨q, hq⟩ : ∃ q, (35 :: r).take (t.at_ + t.text.length - a) ++ 32 :: more = 35 :: q := by
          obtain ⟨e, he⟩ : ∃ e, t.at_ + t.text.length - a = e + 1 := ⟨t.at_ + t.text.length - (a + 1), by omega⟩
          exact ⟨_, by rw [he, List.take_succ_cons, List.cons_append]⟩
        have hdrop : (35 :: q).dropWhile inC = ((35 :: r).drop n).take (t.at_ + t.text.length - (a + n)) ++ 32 :: more := by
          have := List.takeWhile_append_dropWhile (p := inC) (l := 35 :: q)
          rw [← hq, hrun, ← htk, hcut] at this
          rw [← hq, hcut]
          exact List.append_cancel_left this
        rw [hq] at hrun ⊢
        rw [scan_comment, hrun, hn, hdrop, hd]
        exact ih
      · by_cases he : errL (c :: r) = 0
        · have hsw := scan_word a hb h35 he
          obtain ⟨n, hn⟩ : ∃ n, (wordL (c :: r)).1 = n := ⟨_, rfl⟩
          have hn0 := errL_word he
          rw [hn] at hn0 hsw
          have hnle : n ≤ (c :: r).length := by rw [← hn]; exact wordL_le _
          cases i with
          | zero =>
            rw [hsw] at ht ⊢
            obtain rfl := Option.some.inj ht
            have hlen : ((c :: r).take n).length = n := by rw [List.length_take]; omega
            simp only [hlen, Nat.add_sub_cancel_left]
            rw [scanL_goodB hgood 32 (by decide) more a]
            rfl
          | succ i =>
            rw [hsw] at ht ⊢
            have ht' : (scanL ((c :: r).drop n) (a + n)).1[i]? = some t := ht
            have hat := scan_at _ _ (Nat.le_refl _) _ t (List.mem_of_getElem? ht')
            have ih := scan_ahead N _ (by have := drop_lt c r _ hn0; rw [List.length_cons] at this; omega) (a + n) i t more ht'
            have hnl : n < (c :: r).length := by
              by_cases hc : n < (c :: r).length
              · exact hc
              · rw [List.drop_eq_nil_of_le (by omega), scanL] at ht'
                exact absurd ht' (by simp)
            have hcut : (c :: r).take (t.at_ + t.text.length - a) ++ 32 :: more = (c :: r).take n ++ (((c :: r).drop n).take (t.at_ + t.text.length - (a + n)) ++ 32 :: more) := by
              rw [show t.at_ + t.text.length - a = n + (t.at_ + t.text.length - (a + n)) by omega, List.take_add, List.append_assoc]
            have hwl : wordL ((c :: r).take (t.at_ + t.text.length - a) ++ 32 :: more) = wordL (c :: r) := by
              refine wordL_local (by rw [hn]; exact hn0) (by rw [hn]; exact hnl) ?_
              rw [hn, List.take_append_of_le_length (by rw [List.length_take]; omega), List.take_take, Nat.min_eq_left (by omega)]
            obtain ⟨q, hq⟩ : ∃ q, (c :: r).take (t.at_ + t.text.length - a) ++ 32 :: more = c :: q := by
              obtain ⟨e, he⟩ : ∃ e, t.at_ + t.text.length - a = e + 1 := ⟨t.at_ + t.text.length - (a + 1), by omega⟩
              exact ⟨_, by rw [he, List.take_succ_cons, List.cons_append]⟩
            have hlen : ((c :: r).take n).length = n := by rw [List.length_take]; omega
            have htk : (c :: q).take n = (c :: r).take n := by rw [← hq, hcut, List.take_append_of_le_length (by omega), List.take_of_length_le (by omega)]
            have hdr : (c :: q).drop n = ((c :: r).drop n).take (t.at_ + t.text.length - (a + n)) ++ 32 :: more := by
              rw [← hq, hcut]
              conv => lhs; rw [← hlen]
              rw [hlen, List.drop_append_of_le_length (by omega), List.drop_of_length_le (by omega), List.nil_append]
            rw [hq] at hwl ⊢
            have he' : errL (c :: q) = 0 := by
              unfold errL at he ⊢
              rw [hwl, hn, htk]
              rw [hn] at he
              exact he
            have hv : valL (c :: q) = valL (c :: r) := by unfold valL; rw [hwl, hn, htk]
            rw [scan_word a hb h35 he', hwl, hn, htk, hv, hdr]
            rw [List.take_succ_cons, List.take_succ_cons, ih]
        · rw [scan_err a hb h35 he] at ht
          exact absurd ht (by simp)
end Go.Proofs.YtbojklbnfgopfaaGreatDoor

/- Plain: where a text's words stand: in their order, apart, within the text. -/
namespace Go.Proofs.YtbojklbnfgopfaaGreatDoor
open Go

theorem scan_iw : ∀ (N : Nat) (l : List Nat), l.length ≤ N → ∀ (a i : Nat) (t : Tok), (scanL l a).1[i]? = some t →
    0 < t.text.length ∧ t.at_ + t.text.length ≤ a + l.length ∧ ∀ (j : Nat) (u : Tok), i < j → (scanL l a).1[j]? = some u → t.at_ + t.text.length ≤ u.at_
  | _, [], _, a, i, t, ht => by rw [scanL] at ht; exact absurd ht (by simp)
  | 0, c :: r, h, _, _, _, _ => absurd h (by simp)
  | N + 1, c :: r, h, a, i, t, ht => by
    have hr : r.length ≤ N := by simpa using h
    by_cases hb : blankB c = true
    · rw [scanL_blank r a hb] at ht ⊢
      obtain ⟨h1, h2, h3⟩ := scan_iw N r hr _ i t ht
      exact ⟨h1, by rw [List.length_cons]; omega, h3⟩
    · have hb : blankB c = false := by simpa using hb
      by_cases h35 : c = 35
      · subst h35
        have hd := dropWhile_lt r
        rw [List.length_cons] at hd
        have hsum : (35 :: r).length = ((35 :: r).takeWhile inC).length + ((35 :: r).dropWhile inC).length := by
          rw [← List.length_append, List.takeWhile_append_dropWhile]
        rw [scan_comment] at ht ⊢
        obtain ⟨h1, h2, h3⟩ := scan_iw N _ (by omega) _ i t ht
        exact ⟨h1, by omega, h3⟩
      · by_cases he : errL (c :: r) = 0
        · have hd := drop_lt c r _ (errL_word he)
          have hn := errL_word he
          rw [scan_word a hb h35 he] at ht ⊢
          have hlen : ((c :: r).take (wordL (c :: r)).1).length ≤ (wordL (c :: r)).1 ∧ ((c :: r).take (wordL (c :: r)).1).length ≤ (c :: r).length ∧ 0 < ((c :: r).take (wordL (c :: r)).1).length := by
            rw [List.length_take, List.length_cons]; omega
          cases i with
          | zero =>
            simp only [List.getElem?_cons_zero, Option.some.injEq] at ht
            subst ht
            refine ⟨hlen.2.2, by show a + ((c :: r).take (wordL (c :: r)).1).length ≤ a + (c :: r).length; omega, fun j u hj hu => ?_⟩
            obtain ⟨j, rfl⟩ : ∃ j', j = j' + 1 := ⟨j - 1, by omega⟩
            simp only [List.getElem?_cons_succ] at hu
            have := scan_at _ _ (Nat.le_refl _) _ u (List.mem_of_getElem? hu)
            show a + ((c :: r).take (wordL (c :: r)).1).length ≤ u.at_
            omega
          | succ i =>
            simp only [List.getElem?_cons_succ] at ht
            obtain ⟨h1, h2, h3⟩ := scan_iw N _ (by rw [List.length_cons] at hd; omega) _ i t ht
            have hne : (wordL (c :: r)).1 < (c :: r).length := by
              rcases Nat.lt_or_ge (wordL (c :: r)).1 (c :: r).length with q | q
              · exact q
              · rw [List.drop_of_length_le q, scanL] at ht; exact absurd ht (by simp)
            rw [List.length_drop] at h2
            refine ⟨h1, by omega, fun j u hj hu => ?_⟩
            obtain ⟨j, rfl⟩ : ∃ j', j = j' + 1 := ⟨j - 1, by omega⟩
            simp only [List.getElem?_cons_succ] at hu
            exact h3 j u (by omega) hu
        · rw [scan_err a hb h35 he] at ht
          exact absurd ht (by simp)
theorem scan_end : ∀ (N : Nat) (l : List Nat), l.length ≤ N → ∀ (a : Nat), (scanL l a).2.1 ≤ a + l.length ∨ (scanL l a).2.2 = 0
  | _, [], _, a => by rw [scanL]; exact .inr rfl
  | 0, c :: r, h, _ => absurd h (by simp)
  | N + 1, c :: r, h, a => by
    have hr : r.length ≤ N := by simpa using h
    by_cases hb : blankB c = true
    · rw [scanL_blank r a hb]
      rcases scan_end N r hr (a + 1) with q | q
      · left; rw [List.length_cons]; omega
      · exact .inr q
    · have hb : blankB c = false := by simpa using hb
      by_cases h35 : c = 35
      · subst h35
        have hd := dropWhile_lt r
        rw [List.length_cons] at hd
        have hsum : (35 :: r).length = ((35 :: r).takeWhile inC).length + ((35 :: r).dropWhile inC).length := by
          rw [← List.length_append, List.takeWhile_append_dropWhile]
        rw [scan_comment]
        rcases scan_end N ((35 :: r).dropWhile inC) (by omega) (a + ((35 :: r).takeWhile inC).length) with q | q
        · left; omega
        · exact .inr q
      · by_cases he : errL (c :: r) = 0
        · have hd := drop_lt c r _ (errL_word he)
          rw [scan_word a hb h35 he]
          rcases scan_end N ((c :: r).drop (wordL (c :: r)).1) (by rw [List.length_cons] at hd; omega) (a + (wordL (c :: r)).1) with q | q
          · rcases Nat.lt_or_ge (wordL (c :: r)).1 (c :: r).length with p | p
            · left; rw [List.length_drop] at q; show (scanL _ _).2.1 ≤ _; omega
            · right; rw [List.drop_of_length_le p, scanL]
          · exact .inr q
        · rw [scan_err a hb h35 he]
          left; show a ≤ _; omega
end Go.Proofs.YtbojklbnfgopfaaGreatDoor

/- Plain: with more rounds a reader tells the same, unless it had run out of them. -/
namespace Go.Proofs.Syn

def Up {α : Type} (r r' : R α) : Prop := r' = r ∨ ∃ j, r = .error (99, j)
theorem Up.refl {α : Type} (r : R α) : Up r r := .inl rfl
theorem Up.on {α β : Type} {r r' : R α} {f f' : α → Nat → R β} (h : Up r r') (hf : ∀ x j, Up (f x j) (f' x j)) : Up (r.on f) (r'.on f') := by
  rcases h with rfl | ⟨j, rfl⟩
  · match r' with
    | .error e => exact Up.refl _
    | .ok (x, j) => exact hf x j
  · exact .inr ⟨j, rfl⟩
theorem Up.sw {α : Type} {c : Prop} [Decidable c] {a a' b b' : R α} (ha : c → Up a a') (hb : ¬ c → Up b b') : Up (if c then a else b) (if c then a' else b') := by
  by_cases h : c
  · rw [if_pos h, if_pos h]; exact ha h
  · rw [if_neg h, if_neg h]; exact hb h
section
variable {T : Nat → Option K} {F G : Nat}
theorem labelF_up (ns : List (List Nat)) : ∀ (f g : Nat), f ≤ g → ∀ (l i : Nat), Up (labelF T ns f l i) (labelF T ns g l i)
  | 0, _, _, _, i => .inr ⟨i, by rw [labelF]⟩
  | f + 1, 0, h, _, _ => absurd h (by omega)
  | f + 1, g + 1, h, l, i => by
    rw [labelF, labelF]
    cases T i with
    | none => exact Up.refl _
    | some k => exact Up.sw (fun _ => Up.sw (fun _ => labelF_up ns f g (by omega) _ _) (fun _ => Up.refl _)) (fun _ => Up.refl _)
theorem label_up (h : F ≤ G) (ns : List (List Nat)) (i : Nat) : Up (label T F ns i) (label T G ns i) :=
  (Up.refl _).on fun _ _ => (labelF_up ns F G h _ _).on fun _ _ => Up.refl _
theorem decl_up (h : F ≤ G) (ns : List (List Nat)) (i : Nat) : Up (decl T F ns i) (decl T G ns i) :=
  (Up.refl _).on fun _ _ => (label_up h ns _).on fun _ _ => Up.refl _
theorem loop_up {p p' : Nat → R (List Tm)} (hp : ∀ i, Up (p i) (p' i)) (ms : List (List Nat × Nat)) : ∀ (f g : Nat), f ≤ g → ∀ (l : List Tm) (i : Nat), Up (loopF T p ms f l i) (loopF T p' ms g l i)
  | 0, _, _, _, i => .inr ⟨i, by rw [loopF]⟩
  | f + 1, 0, h, _, _ => absurd h (by omega)
  | f + 1, g + 1, h, l, i => by
    rw [loopF, loopF]
    exact Up.sw (fun _ => Up.refl _) (fun _ => (hp _).on fun _ _ => loop_up hp ms f g (by omega) _ _)
theorem tower_up (h : F ≤ G) {u u' : Nat → R (List Tm)} (hu : ∀ i, Up (u i) (u' i)) : ∀ k i, Up (tower T F u k i) (tower T G u' k i)
  | 0, i => hu i
  | k + 1, i => by
    rw [tower, tower]
    exact (tower_up h hu k i).on fun _ _ => loop_up (tower_up h hu k) _ F G h _ _
theorem unOps_up : ∀ (f g : Nat), f ≤ g → ∀ i, Up (unOps T f i) (unOps T g i)
  | 0, _, _, i => .inr ⟨i, by rw [unOps]⟩
  | f + 1, 0, h, _ => absurd h (by omega)
  | f + 1, g + 1, h, i => by
    rw [unOps, unOps]
    exact Up.sw (fun _ => Up.refl _) (fun _ => (unOps_up f g (by omega) _).on fun _ _ => Up.refl _)
def BothU {α : Type} : Option (Nat → R α) → Option (Nat → R α) → Prop
  | none, none => True
  | some p, some p' => ∀ i, Up (p i) (p' i)
  | _, _ => False
theorem unary_up (h : F ≤ G) {e e' : Option (Nat → R (List Tm))} (he : BothU e e') (i : Nat) : Up (unary T F e i) (unary T G e' i) := by
  unfold unary
  refine (unOps_up F G h i).on fun ops i => Up.on ?_ fun _ _ => Up.refl _
  cases T i with
  | none => exact Up.refl _
  | some k =>
    refine Up.sw (fun _ => Up.refl _) (fun _ => Up.sw (fun _ => ?_) (fun _ => (Up.refl _).on fun s i => Up.sw (fun _ => ?_) (fun _ => Up.refl _)))
    · match e, e', he with
      | none, none, _ => exact Up.refl _
      | some p, some p', he => exact (he _).on fun _ _ => Up.refl _
    · match e, e', he with
      | none, none, _ => exact Up.refl _
      | some p, some p', he => exact (he _).on fun _ _ => Up.refl _
theorem expr_up (h : F ≤ G) : ∀ d i, Up (exprD T F d i) (exprD T G d i)
  | 0 => fun i => by rw [exprD, exprD]; exact tower_up h (fun i => unary_up h (e := none) (e' := none) trivial i) 6 i
  | d + 1 => fun i => by rw [exprD, exprD]; exact tower_up h (fun i => unary_up h (e := some _) (e' := some _) (expr_up h d) i) 6 i
theorem listF_up {e e' : Nat → R (List Tm)} (he : ∀ i, Up (e i) (e' i)) (fin : List Nat) : ∀ (f g : Nat), f ≤ g → ∀ (l : List (List Tm)) (i : Nat), Up (listF T e fin f l i) (listF T e' fin g l i)
  | 0, _, _, _, i => .inr ⟨i, by rw [listF]⟩
  | f + 1, 0, h, _, _ => absurd h (by omega)
  | f + 1, g + 1, h, l, i => by
    rw [listF, listF]
    exact (he i).on fun _ _ => Up.sw (fun _ => Up.refl _) (fun _ => Up.sw (fun _ => listF_up he fin f g (by omega) _ _) (fun _ => Up.refl _))
theorem list_up (h : F ≤ G) (fin : List Nat) (i : Nat) : Up (list T F fin i) (list T G fin i) :=
  Up.sw (fun _ => Up.refl _) (fun _ => listF_up (expr_up h 12) fin F G h _ _)
theorem targetsF_up : ∀ (f g : Nat), f ≤ g → ∀ (l : List (List Nat)) (i : Nat), Up (targetsF T f l i) (targetsF T g l i)
  | 0, _, _, _, i => .inr ⟨i, by rw [targetsF]⟩
  | f + 1, 0, h, _, _ => absurd h (by omega)
  | f + 1, g + 1, h, l, i => by
    rw [targetsF, targetsF]
    exact Up.sw (fun _ => (Up.refl _).on fun _ _ => targetsF_up f g (by omega) _ _) (fun _ => Up.refl _)
theorem stmtsF_up {s s' : Nat → R (List St)} (hs : ∀ i, Up (s i) (s' i)) (fin : List Nat) : ∀ (f g : Nat), f ≤ g → ∀ (l : List St) (i : Nat), Up (stmtsF T s fin f l i) (stmtsF T s' fin g l i)
  | 0, _, _, _, i => .inr ⟨i, by rw [stmtsF]⟩
  | f + 1, 0, h, _, _ => absurd h (by omega)
  | f + 1, g + 1, h, l, i => by
    rw [stmtsF, stmtsF]
    exact Up.sw (fun _ => Up.refl _) (fun _ => (hs i).on fun _ _ => stmtsF_up hs fin f g (by omega) _ _)
theorem block_up (h : F ≤ G) {s s' : Option (Nat → R (List St))} (hs : BothU s s') (i : Nat) : Up (block T F s i) (block T G s' i) := by
  match s, s', hs with
  | none, none, _ => exact Up.refl _
  | some p, some p', hs => exact (Up.refl _).on fun _ _ => stmtsF_up hs _ F G h _ _
theorem call_up (h : F ≤ G) (ts : List (List Nat)) (s : List Nat) (i : Nat) : Up (call T F ts s i) (call T G ts s i) :=
  (Up.refl _).on fun _ _ => (list_up h _ _).on fun _ _ => Up.refl _
theorem plain_up (h : F ≤ G) (i : Nat) : Up (plain T F i) (plain T G i) := by
  unfold plain
  refine (Up.refl _).on fun s i => Up.sw (fun _ => ?_) (fun _ => Up.sw (fun _ => call_up h _ _ _) (fun _ => ?_))
  · exact (expr_up h 12 _).on fun _ _ => (Up.refl _).on fun _ _ => (Up.refl _).on fun _ _ => (expr_up h 12 _).on fun _ _ => Up.refl _
  · exact (targetsF_up F G h _ _).on fun _ _ => (Up.refl _).on fun _ _ => Up.sw (fun _ => (expr_up h 12 _).on fun _ _ => Up.refl _) (fun _ => (Up.refl _).on fun _ _ => call_up h _ _ _)
theorem stmtOf_up (h : F ≤ G) {s s' : Option (Nat → R (List St))} (hs : BothU s s') (i : Nat) : Up (stmtOf T F s i) (stmtOf T G s' i) := by
  unfold stmtOf
  refine Up.sw (fun _ => ?_) (fun _ => Up.sw (fun _ => ?_) (fun _ => Up.sw (fun _ => ?_) (fun _ => plain_up h i)))
  · exact (expr_up h 12 _).on fun _ _ => (block_up h hs _).on fun _ _ => Up.sw (fun _ => (block_up h hs _).on fun _ _ => Up.refl _) (fun _ => Up.refl _)
  · exact (expr_up h 12 _).on fun _ _ => (block_up h hs _).on fun _ _ => Up.refl _
  · exact (Up.refl _).on fun _ _ => (expr_up h 12 _).on fun _ _ => Up.refl _
theorem stmt_up (h : F ≤ G) : ∀ d i, Up (stmtD T F d i) (stmtD T G d i)
  | 0 => fun i => by rw [stmtD, stmtD]; exact stmtOf_up h (s := none) (s' := none) trivial i
  | d + 1 => fun i => by rw [stmtD, stmtD]; exact stmtOf_up h (s := some _) (s' := some _) (stmt_up h d) i
theorem rowF_up {α : Type} {p p' : Nat → R α} (hp : ∀ i, Up (p i) (p' i)) : ∀ (f g : Nat), f ≤ g → ∀ (l : List α) (i : Nat), Up (rowF T p f l i) (rowF T p' g l i)
  | 0, _, _, _, i => .inr ⟨i, by rw [rowF]⟩
  | f + 1, 0, h, _, _ => absurd h (by omega)
  | f + 1, g + 1, h, l, i => by
    rw [rowF, rowF]
    exact (hp i).on fun _ _ => Up.sw (fun _ => Up.refl _) (fun _ => Up.sw (fun _ => rowF_up hp f g (by omega) _ _) (fun _ => Up.refl _))
theorem row_up {α : Type} (h : F ≤ G) {p p' : Nat → R α} (hp : ∀ i, Up (p i) (p' i)) (i : Nat) : Up (row T F p i) (row T G p' i) :=
  (Up.refl _).on fun _ _ => Up.sw (fun _ => Up.refl _) (fun _ => rowF_up hp F G h _ _)
theorem varsF_up (hF : F ≤ G) (ns : List (List Nat)) : ∀ (f g : Nat), f ≤ g → ∀ (l : List De) (i : Nat), Up (varsF T F ns f l i) (varsF T G ns g l i)
  | 0, _, _, _, i => .inr ⟨i, by rw [varsF]⟩
  | f + 1, 0, h, _, _ => absurd h (by omega)
  | f + 1, g + 1, h, l, i => by
    rw [varsF, varsF]
    exact Up.sw (fun _ => (decl_up hF ns _).on fun _ _ => (Up.refl _).on fun _ _ => varsF_up hF ns f g (by omega) _ _) (fun _ => Up.refl _)
theorem func_up (h : F ≤ G) (ns : List (List Nat)) (i : Nat) : Up (func T F ns i) (func T G ns i) :=
  (Up.refl _).on fun _ _ => (label_up h ns _).on fun _ _ => (row_up h (decl_up h ns) _).on fun _ _ => (row_up h (label_up h ns) _).on fun _ _ => (Up.refl _).on fun _ _ => (varsF_up h ns F G h _ _).on fun _ _ =>
    (stmtsF_up (stmt_up h 12) _ F G h _ _).on fun _ _ => (list_up h _ _).on fun _ _ => Up.refl _
theorem namesF_up : ∀ (f g : Nat), f ≤ g → ∀ (l : List (List Nat)) (i : Nat), Up (namesF T f l i) (namesF T g l i)
  | 0, _, _, _, i => .inr ⟨i, by rw [namesF]⟩
  | f + 1, 0, h, _, _ => absurd h (by omega)
  | f + 1, g + 1, h, l, i => by
    rw [namesF, namesF]
    exact (Up.refl _).on fun _ _ => Up.sw (fun _ => Up.refl _) (fun _ => Up.sw (fun _ => namesF_up f g (by omega) _ _) (fun _ => Up.refl _))
theorem principalsF_up (hF : F ≤ G) : ∀ (f g : Nat), f ≤ g → ∀ (l : List (List Nat)) (i : Nat), Up (principalsF T F f l i) (principalsF T G g l i)
  | 0, _, _, _, i => .inr ⟨i, by rw [principalsF]⟩
  | f + 1, 0, h, _, _ => absurd h (by omega)
  | f + 1, g + 1, h, l, i => by
    rw [principalsF, principalsF]
    exact Up.sw (fun _ => (namesF_up F G hF _ _).on fun _ _ => (Up.refl _).on fun _ _ => principalsF_up hF f g (by omega) _ _) (fun _ => Up.refl _)
theorem declsF_up (hF : F ≤ G) (ns : List (List Nat)) : ∀ (f g : Nat), f ≤ g → ∀ (s : So) (i : Nat), Up (declsF T F ns f s i) (declsF T G ns g s i)
  | 0, _, _, _, i => .inr ⟨i, by rw [declsF]⟩
  | f + 1, 0, h, _, _ => absurd h (by omega)
  | f + 1, g + 1, h, s, i => by
    rw [declsF, declsF]
    cases T i with
    | none => exact Up.refl _
    | some k =>
      refine Up.sw (fun _ => ?_) (fun _ => Up.sw (fun _ => ?_) (fun _ => Up.sw (fun _ => ?_) (fun _ => Up.sw (fun _ => ?_) (fun _ => Up.refl _))))
      · exact (decl_up hF ns _).on fun _ _ => (Up.refl _).on fun _ _ => declsF_up hF ns f g (by omega) _ _
      · exact (decl_up hF ns _).on fun _ _ => (Up.refl _).on fun _ _ => declsF_up hF ns f g (by omega) _ _
      · exact (Up.refl _).on fun _ _ => (Up.refl _).on fun _ _ => (label_up hF ns _).on fun _ _ => (Up.refl _).on fun _ _ => declsF_up hF ns f g (by omega) _ _
      · exact (func_up hF ns _).on fun _ _ => declsF_up hF ns f g (by omega) _ _
theorem source_up (h : F ≤ G) : Up (source T F) (source T G) := (principalsF_up h F G h _ _).on fun _ _ => declsF_up h _ F G h _ _
/-- The number of rounds is no matter, if it is enough. -/
theorem source_rounds {n : Nat} (hN : ∀ i, n ≤ i → T i = none) {F G : Nat} (hF : n < F) (hG : n < G) : source T F = source T G := by
  have key : ∀ {F G : Nat}, n < F → F ≤ G → source T F = source T G := fun {F G} hF h => by
    rcases source_up (T := T) h with e | ⟨j, e⟩
    · exact e.symm
    · have := source_fit hN hF
      rw [e] at this
      obtain ⟨h1, _⟩ := this
      rcases h1 with h1 | h1 | h1 | h1 <;> cases h1
  rcases Nat.le_total F G with h | h
  · exact key hF h
  · exact (key hG h).symm
end
end Go.Proofs.Syn

/- What stands behind a fault's word makes no difference, plain. -/
namespace Go.Proofs.YtbojklbnfgopfaaGreatDoor
open Go Go.RowKit Go.Proofs.Mm

/-- The words of a text without a fault, one by one. -/
theorem its_tok {s : ByteArray} {ys : List It} (hy : ys.map It.key = allItems s) (h0 : ∀ x ∈ ys, x.e = 0) : ys.length = (scanL (bl s) 0).1.length ∧ ∀ i (h : i < ys.length), (scanL (bl s) 0).1[i]? = some ⟨ys[i].k, bl ys[i].t, ys[i].v, ys[i].a⟩ := by
  obtain ⟨hs, ha, hz⟩ := all_short hy h0
  have hm : ys.map It.key = (scanL (bl s) 0).1.map fun t => (t, 0) := by rw [hy, ha]; unfold itemsOf; rw [if_pos hz, List.append_nil]
  have hl := congrArg List.length hm
  rw [List.length_map, List.length_map] at hl
  refine ⟨hl, fun i h => ?_⟩
  have := congrArg (fun l => l[i]?) hm
  simp only [List.getElem?_map, List.getElem?_eq_getElem h, Option.map_some] at this
  cases hi : (scanL (bl s) 0).1[i]? with
  | none => rw [hi] at this; cases this
  | some t =>
    rw [hi] at this
    simp only [Option.map_some, Option.some.injEq, Prod.mk.injEq, It.key] at this
    rw [← this.1]
theorem its_place {s : ByteArray} {ys : List It} (hy : ys.map It.key = allItems s) (h0 : ∀ x ∈ ys, x.e = 0) (i : Nat) (h : i < ys.length) :
    0 < ys[i].t.size ∧ ys[i].a + ys[i].t.size ≤ s.size ∧ ∀ j (hj : j < ys.length), i < j → ys[i].a + ys[i].t.size ≤ ys[j].a := by
  obtain ⟨_, ht⟩ := its_tok hy h0
  obtain ⟨h1, h2, h3⟩ := scan_iw _ (bl s) (Nat.le_refl _) 0 i _ (ht i h)
  simp only [bl_length] at h1 h2 h3
  exact ⟨h1, by omega, fun j hj hij => h3 j _ hij (ht j hj)⟩
/-- Only one word stands at a fault's place. -/
theorem place_one {s : ByteArray} {ys : List It} (hy : ys.map It.key = allItems s) (h0 : ∀ x ∈ ys, x.e = 0) {k i : Nat} (h : i < ys.length) : ys[i].a = (tk ys s.size k).a ↔ i = k := by
  obtain ⟨h1, h2, h3⟩ := its_place hy h0 i h
  rcases Nat.lt_or_ge k ys.length with hk | hk
  · have e : tk ys s.size k = ys[k] := by unfold tk; rw [List.getD_eq_getElem?_getD, List.getElem?_eq_getElem hk]; rfl
    rw [e]
    constructor
    · intro ha
      obtain ⟨g1, g2, g3⟩ := its_place hy h0 k hk
      rcases Nat.lt_trichotomy i k with q | q | q
      · have := h3 k hk q; omega
      · exact q
      · have := g3 i h q; omega
    · rintro rfl; rfl
  · rw [tk_end ys s.size hk]
    constructor
    · intro ha; simp only at ha; omega
    · intro e; omega
theorem fault_kind {s : ByteArray} {q : Nat × Nat} (h : faultOf s = some q) : q.1 = 3 ∨ q.1 = 40 := by
  unfold faultOf at h
  cases hf : (itsOf s).find? fun x => x.e != 0 with
  | none => rw [hf] at h; cases h
  | some x =>
    rw [hf] at h
    simp only [Option.map_some, Option.some.injEq] at h
    subst h
    have hx := List.mem_of_find?_eq_some hf
    have he := List.find?_some hf
    simp only [bne_iff_ne, ne_eq] at he
    unfold itsOf at hx
    obtain ⟨y, hy, rfl⟩ := List.mem_map.1 hx
    simp only at he ⊢
    unfold allItems at hy
    split at hy
    · simp only [List.mem_singleton] at hy; rw [hy]; exact .inl rfl
    · unfold itemsOf at hy
      rcases List.mem_append.1 hy with hy | hy
      · obtain ⟨t, _, ht⟩ := List.mem_map.1 hy
        rw [← ht] at he; exact (he rfl).elim
      · split at hy
        · cases hy
        · rw [List.mem_singleton] at hy
          rw [hy]
          rcases scan_errs _ (bl s) (Nat.le_refl _) 0 with e | e | e
          · contradiction
          · exact .inl e
          · exact .inr e
/-- The fault of a grammar stands at a word, or at the end. -/
theorem src_err {s : ByteArray} {ys : List It} (hy : ys.map It.key = allItems s) (h0 : ∀ x ∈ ys, x.e = 0) {er a : Nat} (h : srcOf s = .error (er, a)) : ∃ k, k ≤ ys.length ∧ Syn.source (Tk ys) (ys.length + 1) = .error (er, k) ∧ a = (tk ys s.size k).a := by
  unfold srcOf at h
  rw [read_eq hy h0] at h
  cases hr : Syn.source (Tk ys) (ys.length + 1) with
  | ok q => rw [hr] at h; cases h
  | error q =>
    obtain ⟨e, k⟩ := q
    rw [hr] at h
    simp only [Except.error.injEq, Prod.mk.injEq] at h
    have hf := Syn.source_fit (tk_nones ys) (F := ys.length + 1) (by omega)
    rw [hr] at hf
    exact ⟨k, hf.2, by rw [h.1], h.2.symm⟩
theorem bl_append (s t : ByteArray) : bl (s ++ t) = bl s ++ bl t := by
  unfold bl; simp
/-- A text that is gone on with otherwise behind its fault's word has the same fault. -/
theorem ahead_same {s more : ByteArray} {ys zs : List It} {er k : Nat} (hy : ys.map It.key = allItems s) (h0 : ∀ x ∈ ys, x.e = 0) (hr : Syn.source (Tk ys) (ys.length + 1) = .error (er, k)) (hk : k < ys.length) {o : ByteArray}
    (ho : bl o = (bl s).take (ys[k].a + ys[k].t.size) ++ 32 :: bl more) (hz : zs.map It.key = allItems o) (hz0 : ∀ x ∈ zs, x.e = 0) : srcOf o = .error (er, ys[k].a) := by
  obtain ⟨hl, ht⟩ := its_tok hy h0
  obtain ⟨hlz, htz⟩ := its_tok hz hz0
  have hsc := scan_ahead _ (bl s) (Nat.le_refl _) 0 k _ (bl more) (ht k hk)
  simp only [bl_length, Nat.sub_zero] at hsc
  rw [← ho] at hsc
  have hlen := congrArg List.length hsc
  rw [List.length_take, List.length_take] at hlen
  have hkz : k < zs.length := by omega
  have hkey : ∀ i (h : i ≤ k), zs[i]'(by omega) = ys[i]'(by omega) := fun i h => by
    have e := congrArg (fun l => l[i]?) hsc
    simp only [List.getElem?_take, if_pos (show i < k + 1 by omega)] at e
    rw [htz i (by omega), ht i (by omega)] at e
    simp only [Option.some.injEq, Tok.mk.injEq] at e
    have e0 : (zs[i]'(by omega)).e = (ys[i]'(by omega)).e := by rw [hz0 _ (List.getElem_mem _), h0 _ (List.getElem_mem _)]
    have e1 := bl_inj e.2.1
    rcases hz1 : zs[i]'(by omega) with ⟨a1, a2, a3, a4, a5⟩
    rcases hy1 : ys[i]'(by omega) with ⟨b1, b2, b3, b4, b5⟩
    rw [hz1, hy1] at e e0 e1
    simp only at e e0 e1
    rw [e.1, e1, e.2.2.1, e.2.2.2, e0]
  have hT : ∀ i, i ≤ k → Tk zs i = Tk ys i := fun i h => by
    unfold Tk
    rw [List.getElem?_eq_getElem (show i < zs.length by omega), List.getElem?_eq_getElem (show i < ys.length by omega), hkey i h]
  unfold srcOf
  rw [read_eq hz hz0]
  have h1 : Syn.source (Tk ys) (ys.length + zs.length + 1) = .error (er, k) := by rw [← hr]; exact Syn.source_rounds (tk_nones ys) (by omega) (by omega)
  have h2 : Syn.source (Tk zs) (zs.length + 1) = .error (er, k) := by
    rw [Syn.source_rounds (tk_nones zs) (F := zs.length + 1) (G := ys.length + zs.length + 1) (by omega) (by omega)]
    exact Syn.source_ahead hT (by omega) h1 (Nat.le_refl _)
  rw [h2]
  have : tk zs o.size k = ys[k] := by
    unfold tk
    rw [List.getD_eq_getElem?_getD, List.getElem?_eq_getElem hkz]
    exact hkey k (Nat.le_refl _)
  simp only [this]
end Go.Proofs.YtbojklbnfgopfaaGreatDoor
