/- Plain facts on words: what a text's words are, one by one from the left on; a word by itself, or with a blank behind it, is the same word. (No seat's own names: to be renamed to the seat that needs it.) -/
import Derived.WalkKit
namespace Go.Proofs.YtnmcjkabihihiaaDoor

def letterB (c : Nat) : Bool := (97 ≤ c && c ≤ 122) || c == 95
def digitB (c : Nat) : Bool := 48 ≤ c && c ≤ 57
def blankB (c : Nat) : Bool := c == 9 || c == 10 || c == 13 || c == 32
def nameB (c : Nat) : Bool := letterB c || digitB c

/-- principal, global, array, channel, func, var, if, else, while, send, return. -/
def keysL : List (List Nat) := [[112, 114, 105, 110, 99, 105, 112, 97, 108], [103, 108, 111, 98, 97, 108], [97, 114, 114, 97, 121], [99, 104, 97, 110, 110, 101, 108], [102, 117, 110, 99], [118, 97, 114], [105, 102], [101, 108, 115, 101], [119, 104, 105, 108, 101], [115, 101, 110, 100], [114, 101, 116, 117, 114, 110]]
/-- The marks of one byte, and of two. -/
def mark1 : List Nat := [123, 125, 40, 41, 91, 93, 44, 59, 61, 60, 43, 45, 42, 47, 37, 38, 124, 94, 33, 126]
def mark2 : List (List Nat) := [[61, 61], [33, 61], [60, 61], [60, 60], [62, 62]]

/-- How long the word at a text's head is (0: none), and its kind. -/
def wordL : List Nat → Nat × Nat
  | [] => (0, 0)
  | c :: l =>
    if letterB c then
      let n := ((c :: l).takeWhile nameB).length
      (n, if (c :: l).take n ∈ keysL then 2 else 1)
    else if digitB c then (((c :: l).takeWhile digitB).length, 3)
    else if (c :: l).take 2 ∈ mark2 then (2, 4)
    else if c ∈ mark1 then (1, 4)
    else (0, 0)

theorem wordL_le (l : List Nat) : (wordL l).1 ≤ l.length := by
  cases l with
  | nil => simp [wordL]
  | cons c l =>
    rw [wordL]
    split
    · exact (List.takeWhile_sublist _).length_le
    · split
      · exact (List.takeWhile_sublist _).length_le
      · split
        · rename_i h
          have : ((c :: l).take 2).length = 2 := by
            have : ∀ m ∈ mark2, m.length = 2 := by decide
            exact this _ h
          rw [List.length_take] at this
          show 2 ≤ _
          omega
        · split
          · simp
          · simp

theorem takeWhile_stop {p : Nat → Bool} : ∀ (t r : List Nat), (∀ x ∈ t, p x = true) → (∀ c, r.head? = some c → p c = false) → (t ++ r).takeWhile p = t
  | [], r, _, hr => by
    cases r with
    | nil => rfl
    | cons c r => simp [hr c rfl]
  | x :: t, r, ht, hr => by
    rw [List.cons_append, List.takeWhile_cons, if_pos (ht x (List.mem_cons_self ..)), takeWhile_stop t r (fun y hy => ht y (List.mem_cons_of_mem _ hy)) hr]

theorem mem_takeWhile {p : Nat → Bool} : ∀ (l : List Nat) (x : Nat), x ∈ l.takeWhile p → p x = true
  | [], x, h => absurd h (by simp)
  | c :: l, x, h => by
    rw [List.takeWhile_cons] at h
    split at h
    · rename_i hc
      rcases List.mem_cons.1 h with rfl | h
      · exact hc
      · exact mem_takeWhile l x h
    · simp at h

theorem takeWhile_is_take {p : Nat → Bool} : ∀ l : List Nat, l.take (l.takeWhile p).length = l.takeWhile p
  | [] => rfl
  | c :: l => by
    rw [List.takeWhile_cons]
    split
    · rw [List.length_cons, List.take_succ_cons, takeWhile_is_take l]
    · rfl

/-- A word by itself, or with a blank behind it, is the same word. -/
theorem wordL_again (s : List Nat) (h : (wordL s).1 ≠ 0) (r : List Nat) (hr : r = [] ∨ ∃ r', r = 32 :: r') : wordL (s.take (wordL s).1 ++ r) = wordL s := by
  cases s with
  | nil => exact absurd rfl h
  | cons c l =>
    have hb : ∀ x, r.head? = some x → nameB x = false ∧ digitB x = false := by
      intro x hx
      rcases hr with rfl | ⟨r', rfl⟩
      · simp at hx
      · obtain rfl : 32 = x := by simpa using hx
        decide
    by_cases hl : letterB c = true
    · have hw : wordL (c :: l) = (((c :: l).takeWhile nameB).length, if (c :: l).take ((c :: l).takeWhile nameB).length ∈ keysL then 2 else 1) := by
        rw [wordL, if_pos hl]
      rw [hw]
      simp only
      rw [takeWhile_is_take]
      have hn : nameB c = true := by unfold nameB; rw [hl]; rfl
      have hc : (c :: l).takeWhile nameB = c :: l.takeWhile nameB := by rw [List.takeWhile_cons, if_pos hn]
      have hst : ((c :: l).takeWhile nameB ++ r).takeWhile nameB = (c :: l).takeWhile nameB := takeWhile_stop _ _ (fun x hx => mem_takeWhile _ x hx) (fun x hx => (hb x hx).1)
      rw [hc] at hst ⊢
      rw [List.cons_append] at hst ⊢
      rw [wordL, if_pos hl]
      simp only
      rw [hst, ← List.cons_append, List.take_left]
    · by_cases hd : digitB c = true
      · have hw : wordL (c :: l) = (((c :: l).takeWhile digitB).length, 3) := by rw [wordL, if_neg hl, if_pos hd]
        rw [hw]
        simp only
        rw [takeWhile_is_take]
        have hc : (c :: l).takeWhile digitB = c :: l.takeWhile digitB := by rw [List.takeWhile_cons, if_pos hd]
        have hst : ((c :: l).takeWhile digitB ++ r).takeWhile digitB = (c :: l).takeWhile digitB := takeWhile_stop _ _ (fun x hx => mem_takeWhile _ x hx) (fun x hx => (hb x hx).2)
        rw [hc] at hst ⊢
        rw [List.cons_append] at hst ⊢
        rw [wordL, if_neg hl, if_pos hd, hst]
      · by_cases h2 : (c :: l).take 2 ∈ mark2
        · have hw : wordL (c :: l) = (2, 4) := by rw [wordL, if_neg hl, if_neg hd, if_pos h2]
          rw [hw]
          simp only
          obtain ⟨d, l', rfl⟩ : ∃ d l', l = d :: l' := by
            cases l with
            | nil => exact absurd h2 (by simp [mark2])
            | cons d l' => exact ⟨d, l', rfl⟩
          show wordL (c :: d :: r) = (2, 4)
          rw [wordL, if_neg hl, if_neg hd, if_pos (by exact h2)]
        · by_cases h1 : c ∈ mark1
          · have hw : wordL (c :: l) = (1, 4) := by rw [wordL, if_neg hl, if_neg hd, if_neg h2, if_pos h1]
            rw [hw]
            show wordL (c :: r) = (1, 4)
            rw [wordL, if_neg hl, if_neg hd, if_neg ?_, if_pos h1]
            rcases hr with rfl | ⟨r', rfl⟩
            · simp [mark2]
            · simp [mark2]
          · exact absurd (by rw [wordL, if_neg hl, if_neg hd, if_neg h2, if_neg h1]) h
end Go.Proofs.YtnmcjkabihihiaaDoor
