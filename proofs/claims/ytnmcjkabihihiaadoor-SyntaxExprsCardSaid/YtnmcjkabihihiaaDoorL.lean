/- Plain facts: a text's words, gap by gap and word by word; what a sequence of them tells. -/
import Derived.Test.YtnmcjkabihihiaaDoorV
namespace Go.Proofs.YtnmcjkabihihiaaDoor
open Go

/-- What is wrong at a text's head: 0, if a word stands there. -/
def errL (l : List Nat) : Nat :=
  if (wordL l).1 = 0 then 40 else if (wordL l).2 = 1 ∧ 32 < (wordL l).1 then 3 else if (wordL l).2 = 3 ∧ most < valD (l.take (wordL l).1) then 3 else 0
/-- The number of the word at a text's head. -/
def valL (l : List Nat) : Nat := if (wordL l).2 = 3 then valD (l.take (wordL l).1) else 0
/-- How many bytes of blanks, or of one comment, a text begins with. -/
def gapL (l : List Nat) : Nat := if l.head? = some 35 then (l.takeWhile inC).length else (l.takeWhile blankB).length

theorem drop_takeWhile {p : Nat → Bool} : ∀ l : List Nat, l.drop (l.takeWhile p).length = l.dropWhile p
  | [] => rfl
  | c :: r => by
    rw [List.takeWhile_cons, List.dropWhile_cons]
    split
    · rw [List.length_cons, List.drop_succ_cons, drop_takeWhile r]
    · rfl
theorem scan_blanks : ∀ (l : List Nat) (a : Nat), scanL l a = scanL (l.dropWhile blankB) (a + (l.takeWhile blankB).length)
  | [], a => by simp
  | c :: r, a => by
    by_cases h : blankB c = true
    · rw [scanL_blank r a h, scan_blanks r (a + 1), List.dropWhile_cons, if_pos h, List.takeWhile_cons, if_pos h, List.length_cons]
      congr 1; omega
    · rw [List.dropWhile_cons, if_neg h, List.takeWhile_cons, if_neg h]; rfl
theorem scan_comment (r : List Nat) (a : Nat) : scanL (35 :: r) a = scanL ((35 :: r).dropWhile inC) (a + ((35 :: r).takeWhile inC).length) := by
  rw [scanL, if_neg (by decide), dif_pos rfl]
theorem scan_gap (l : List Nat) (a : Nat) : scanL l a = scanL (l.drop (gapL l)) (a + gapL l) := by
  unfold gapL
  split
  · rename_i h
    cases l with
    | nil => simp at h
    | cons c r =>
      obtain rfl : c = 35 := by simpa using h
      rw [drop_takeWhile]
      exact scan_comment r a
  · rw [drop_takeWhile]
    exact scan_blanks l a
theorem no_gap {c : Nat} {r : List Nat} (h : gapL (c :: r) = 0) : blankB c = false ∧ c ≠ 35 := by
  unfold gapL at h
  split at h
  · rename_i h35
    obtain rfl : c = 35 := by simpa using h35
    rw [List.takeWhile_cons, if_pos (by decide)] at h
    simp at h
  · rename_i h35
    refine ⟨?_, by simpa using h35⟩
    rw [List.takeWhile_cons] at h
    split at h
    · simp at h
    · rename_i hb; simpa using hb
theorem scan_err {c : Nat} {r : List Nat} (a : Nat) (h : blankB c = false) (h35 : c ≠ 35) (he : errL (c :: r) ≠ 0) : scanL (c :: r) a = ([], a, errL (c :: r)) := by
  unfold errL at he ⊢
  rw [scanL, if_neg (by rw [h]; simp), dif_neg h35]
  split
  · rfl
  · rename_i h0
    rw [if_neg h0] at he
    split
    · rfl
    · rename_i h1
      rw [if_neg h1] at he
      split
      · rfl
      · rename_i h2; rw [if_neg h2] at he; exact absurd rfl he
theorem scan_word {c : Nat} {r : List Nat} (a : Nat) (h : blankB c = false) (h35 : c ≠ 35) (he : errL (c :: r) = 0) :
    scanL (c :: r) a = (⟨(wordL (c :: r)).2, (c :: r).take (wordL (c :: r)).1, valL (c :: r), a⟩ :: (scanL ((c :: r).drop (wordL (c :: r)).1) (a + (wordL (c :: r)).1)).1, (scanL ((c :: r).drop (wordL (c :: r)).1) (a + (wordL (c :: r)).1)).2) := by
  unfold errL at he
  rw [scanL, if_neg (by rw [h]; simp), dif_neg h35]
  split
  · rename_i h0; rw [if_pos h0] at he; exact absurd he (by decide)
  · rename_i h0
    rw [if_neg h0] at he
    split
    · rename_i h1; rw [if_pos h1] at he; exact absurd he (by decide)
    · rename_i h1
      rw [if_neg h1] at he
      split
      · rename_i h2; rw [if_pos h2] at he; exact absurd he (by decide)
      · rfl
theorem errL_word {l : List Nat} (he : errL l = 0) : (wordL l).1 ≠ 0 := by
  intro h
  rw [errL, if_pos h] at he
  exact absurd he (by decide)
theorem errL_vals (l : List Nat) : errL l = 0 ∨ errL l = 3 ∨ errL l = 40 := by
  unfold errL
  split
  · exact .inr (.inr rfl)
  · split
    · exact .inr (.inl rfl)
    · split
      · exact .inr (.inl rfl)
      · exact .inl rfl

/-- What a sequence of words tells: each with no error, at last the fault's place and error, if there is one. -/
def itemsOf (r : List Tok × Nat × Nat) : List (Tok × Nat) := r.1.map (fun t => (t, 0)) ++ if r.2.2 = 0 then [] else [(⟨0, [], 0, r.2.1⟩, r.2.2)]
theorem items_word {c : Nat} {r : List Nat} (a : Nat) (h : blankB c = false) (h35 : c ≠ 35) (he : errL (c :: r) = 0) :
    itemsOf (scanL (c :: r) a) = (⟨(wordL (c :: r)).2, (c :: r).take (wordL (c :: r)).1, valL (c :: r), a⟩, 0) :: itemsOf (scanL ((c :: r).drop (wordL (c :: r)).1) (a + (wordL (c :: r)).1)) := by
  rw [scan_word a h h35 he]; rfl
theorem items_err {c : Nat} {r : List Nat} (a : Nat) (h : blankB c = false) (h35 : c ≠ 35) (he : errL (c :: r) ≠ 0) :
    itemsOf (scanL (c :: r) a) = [(⟨0, [], 0, a⟩, errL (c :: r))] := by
  rw [scan_err a h h35 he, itemsOf]; simp [he]
theorem items_nil (a : Nat) : itemsOf (scanL [] a) = [] := by rw [scanL]; rfl
theorem items_gap (l : List Nat) (a : Nat) : itemsOf (scanL l a) = itemsOf (scanL (l.drop (gapL l)) (a + gapL l)) := by rw [← scan_gap]

/-- Whatever is told is told with no error, but for the last. -/
theorem scan_errs : ∀ (N : Nat) (l : List Nat), l.length ≤ N → ∀ a, (scanL l a).2.2 = 0 ∨ (scanL l a).2.2 = 3 ∨ (scanL l a).2.2 = 40
  | N, l, h, a => by
    cases l with
    | nil => rw [scanL]; exact .inl rfl
    | cons c r =>
      by_cases hb : blankB c = true
      · cases N with
        | zero => simp at h
        | succ N =>
          rw [scanL_blank r a hb]
          exact scan_errs N r (by simpa using h) _
      · have hb : blankB c = false := by simpa using hb
        by_cases h35 : c = 35
        · cases N with
          | zero => simp at h
          | succ N =>
            subst h35
            rw [scan_comment]
            exact scan_errs N _ (by have := dropWhile_lt r; rw [List.length_cons] at h this; omega) _
        · by_cases he : errL (c :: r) = 0
          · cases N with
            | zero => simp at h
            | succ N =>
              rw [scan_word a hb h35 he]
              exact scan_errs N _ (by have := drop_lt c r _ (errL_word he); rw [List.length_cons] at h this; omega) _
          · rw [scan_err a hb h35 he]
            exact errL_vals _
/-- There are no more words than bytes. -/
theorem scan_count : ∀ (N : Nat) (l : List Nat), l.length ≤ N → ∀ a, (scanL l a).1.length ≤ l.length
  | N, l, h, a => by
    cases l with
    | nil => rw [scanL]; exact Nat.le_refl _
    | cons c r =>
      by_cases hb : blankB c = true
      · cases N with
        | zero => simp at h
        | succ N =>
          rw [scanL_blank r a hb]
          have := scan_count N r (by simpa using h) (a + 1)
          rw [List.length_cons]; omega
      · have hb : blankB c = false := by simpa using hb
        by_cases h35 : c = 35
        · cases N with
          | zero => simp at h
          | succ N =>
            subst h35
            rw [scan_comment]
            have hl := dropWhile_lt r
            have := scan_count N ((35 :: r).dropWhile inC) (by rw [List.length_cons] at h hl; omega) (a + ((35 :: r).takeWhile inC).length)
            omega
        · by_cases he : errL (c :: r) = 0
          · cases N with
            | zero => simp at h
            | succ N =>
              rw [scan_word a hb h35 he]
              have hl := drop_lt c r _ (errL_word he)
              have := scan_count N ((c :: r).drop (wordL (c :: r)).1) (by rw [List.length_cons] at h hl; omega) (a + (wordL (c :: r)).1)
              show _ + 1 ≤ _
              omega
          · rw [scan_err a hb h35 he]; simp
end Go.Proofs.YtnmcjkabihihiaaDoor
