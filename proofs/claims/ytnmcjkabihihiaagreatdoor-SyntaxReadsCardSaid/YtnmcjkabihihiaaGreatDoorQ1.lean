/- Plain facts on words: what a text's words are, one by one from the left on; a word by itself, or with a blank behind it, is the same word. (No seat's own names: to be renamed to the seat that needs it.) -/
import Derived.WalkKit
import Derived.Test.YtnmcjkabihihiaaGreatDoorProg
import Derived.Outline
import Derived.Lib.Hide
import Derived.LoopTactic
import Derived.Lib.Strings
import Derived.Lib.ParseIntBCases
import Derived.Shelf.LaysM
import Derived.Shelf.Strconv.Clone
import Derived.Shelf.LaysC
import Derived.Shelf.Strconv.ParseIntPublic10
import Derived.Below
import Derived.Laws.OwnMore
import Derived.RegionTactic
import Derived.Deep.Draws
import Derived.RangeFuncNested
import Derived.RangeFuncBound
import Derived.RangeFuncCalls
import Derived.RangeFuncLeaves
import Derived.OwnWalkIn
import Derived.TacticsInMore
import Derived.LoopNIn
import Derived.LoopIn
import Derived.ScopeJumps
import Derived.WalkMore
namespace Go.Proofs.YtnmcjkabihihiaaGreatDoor

def letterB (c : Nat) : Bool := (97 ≤ c && c ≤ 122) || c == 95
def digitB (c : Nat) : Bool := 48 ≤ c && c ≤ 57
def blankB (c : Nat) : Bool := c == 9 || c == 10 || c == 13 || c == 32
def nameB (c : Nat) : Bool := letterB c || digitB c

/-- principal, global, array, channel, func, var, if, else, while, send, return. -/
def keysL : List (List Nat) := [[112, 114, 105, 110, 99, 105, 112, 97, 108], [103, 108, 111, 98, 97, 108], [97, 114, 114, 97, 121], [99, 104, 97, 110, 110, 101, 108], [102, 117, 110, 99], [118, 97, 114], [105, 102], [101, 108, 115, 101], [119, 104, 105, 108, 101], [115, 101, 110, 100], [114, 101, 116, 117, 114, 110]]
/-- The marks of one byte, and of two. -/
def mark1 : List Nat := [123, 125, 40, 41, 91, 93, 44, 59, 61, 60, 43, 45, 42, 47, 37, 38, 124, 94, 33, 126]
def mark2 : List (List Nat) := [[61, 61], [33, 61], [60, 61], [60, 60], [62, 62]]

/-- How long the word at a text's head is (0: none), and its kind. -/
def wordL : List Nat → Nat × Nat
  | [] => (0, 0)
  | c :: l =>
    if letterB c then
      let n := ((c :: l).takeWhile nameB).length
      (n, if (c :: l).take n ∈ keysL then 2 else 1)
    else if digitB c then (((c :: l).takeWhile digitB).length, 3)
    else if (c :: l).take 2 ∈ mark2 then (2, 4)
    else if c ∈ mark1 then (1, 4)
    else (0, 0)

theorem wordL_le (l : List Nat) : (wordL l).1 ≤ l.length := by
  cases l with
  | nil => simp [wordL]
  | cons c l =>
    rw [wordL]
    split
    · exact (List.takeWhile_sublist _).length_le
    · split
      · exact (List.takeWhile_sublist _).length_le
      · split
        · rename_i h
          have : ((c :: l).take 2).length = 2 := by
            have : ∀ m ∈ mark2, m.length = 2 := by decide
            exact this _ h
          rw [List.length_take] at this
          show 2 ≤ _
          omega
        · split
          · simp
          · simp

theorem takeWhile_stop {p : Nat → Bool} : ∀ (t r : List Nat), (∀ x ∈ t, p x = true) → (∀ c, r.head? = some c → p c = false) → (t ++ r).takeWhile p = t
  | [], r, _, hr => by
    cases r with
    | nil => rfl
    | cons c r => simp [hr c rfl]
  | x :: t, r, ht, hr => by
    rw [List.cons_append, List.takeWhile_cons, if_pos (ht x (List.mem_cons_self ..)), takeWhile_stop t r (fun y hy => ht y (List.mem_cons_of_mem _ hy)) hr]

theorem mem_takeWhile {p : Nat → Bool} : ∀ (l : List Nat) (x : Nat), x ∈ l.takeWhile p → p x = true
  | [], x, h => absurd h (by simp)
  | c :: l, x, h => by
    rw [List.takeWhile_cons] at h
    split at h
    · rename_i hc
      rcases List.mem_cons.1 h with rfl | h
      · exact hc
      · exact mem_takeWhile l x h
    · simp at h

theorem takeWhile_is_take {p : Nat → Bool} : ∀ l : List Nat, l.take (l.takeWhile p).length = l.takeWhile p
  | [] => rfl
  | c :: l => by
    rw [List.takeWhile_cons]
    split
    · rw [List.length_cons, List.take_succ_cons, takeWhile_is_take l]
    · rfl

/-- A word by itself, or with a blank behind it, is the same word. -/
theorem wordL_again (s : List Nat) (h : (wordL s).1 ≠ 0) (r : List Nat) (hr : r = [] ∨ ∃ r', r = 32 :: r') : wordL (s.take (wordL s).1 ++ r) = wordL s := by
  cases s with
  | nil => exact absurd rfl h
  | cons c l =>
    have hb : ∀ x, r.head? = some x → nameB x = false ∧ digitB x = false := by
      intro x hx
      rcases hr with rfl | ⟨r', rfl⟩
      · simp at hx
      · obtain rfl : 32 = x := by simpa using hx
        decide
    by_cases hl : letterB c = true
    · have hw : wordL (c :: l) = (((c :: l).takeWhile nameB).length, if (c :: l).take ((c :: l).takeWhile nameB).length ∈ keysL then 2 else 1) := by
        rw [wordL, if_pos hl]
      rw [hw]
      simp only
      rw [takeWhile_is_take]
      have hn : nameB c = true := by unfold nameB; rw [hl]; rfl
      have hc : (c :: l).takeWhile nameB = c :: l.takeWhile nameB := by rw [List.takeWhile_cons, if_pos hn]
      have hst : ((c :: l).takeWhile nameB ++ r).takeWhile nameB = (c :: l).takeWhile nameB := takeWhile_stop _ _ (fun x hx => mem_takeWhile _ x hx) (fun x hx => (hb x hx).1)
      rw [hc] at hst ⊢
      rw [List.cons_append] at hst ⊢
      rw [wordL, if_pos hl]
      simp only
      rw [hst, ← List.cons_append, List.take_left]
    · by_cases hd : digitB c = true
      · have hw : wordL (c :: l) = (((c :: l).takeWhile digitB).length, 3) := by rw [wordL, if_neg hl, if_pos hd]
        rw [hw]
        simp only
        rw [takeWhile_is_take]
        have hc : (c :: l).takeWhile digitB = c :: l.takeWhile digitB := by rw [List.takeWhile_cons, if_pos hd]
        have hst : ((c :: l).takeWhile digitB ++ r).takeWhile digitB = (c :: l).takeWhile digitB := takeWhile_stop _ _ (fun x hx => mem_takeWhile _ x hx) (fun x hx => (hb x hx).2)
        rw [hc] at hst ⊢
        rw [List.cons_append] at hst ⊢
        rw [wordL, if_neg hl, if_pos hd, hst]
      · by_cases h2 : (c :: l).take 2 ∈ mark2
        · have hw : wordL (c :: l) = (2, 4) := by rw [wordL, if_neg hl, if_neg hd, if_pos h2]
          rw [hw]
          simp only
          obtain ⟨d, l', rfl⟩ : ∃ d l', l = d :: l' := by
            cases l with
            | nil => exact absurd h2 (by simp [mark2])
            | cons d l' => exact ⟨d, l', rfl⟩
          show wordL (c :: d :: r) = (2, 4)
          rw [wordL, if_neg hl, if_neg hd, if_pos (by exact h2)]
        · by_cases h1 : c ∈ mark1
          · have hw : wordL (c :: l) = (1, 4) := by rw [wordL, if_neg hl, if_neg hd, if_neg h2, if_pos h1]
            rw [hw]
            show wordL (c :: r) = (1, 4)
            rw [wordL, if_neg hl, if_neg hd, if_neg ?_, if_pos h1]
            rcases hr with rfl | ⟨r', rfl⟩
            · simp [mark2]
            · simp [mark2]
          · exact absurd (by rw [wordL, if_neg hl, if_neg hd, if_neg h2, if_neg h1]) h
end Go.Proofs.YtnmcjkabihihiaaGreatDoor

/- Plain facts on a text's words: all of them, ahead of the first fault; each is good by itself; their texts with blanks between have the same words. (No seat's own names: to be renamed to the seat that needs it.) -/
namespace Go.Proofs.YtnmcjkabihihiaaGreatDoor

structure Tok where
  kind : Nat
  text : List Nat
  value : Nat
  at_ : Nat
deriving DecidableEq

/-- What digits come to. -/
def valD (l : List Nat) : Nat := l.foldl (fun n d => 10 * n + (d - 48)) 0
abbrev most : Nat := 9223372036854775807

/-- Not of a comment any more. -/
def inC (c : Nat) : Bool := c != 10

theorem drop_lt (c : Nat) (r : List Nat) (n : Nat) (h : n ≠ 0) : ((c :: r).drop n).length < (c :: r).length := by
  rw [List.length_drop, List.length_cons]; omega
theorem dropWhile_lt (r : List Nat) : ((35 :: r).dropWhile inC).length < (35 :: r).length := by
  rw [List.dropWhile_cons, if_pos (by decide)]
  have := (List.dropWhile_sublist inC (l := r)).length_le
  rw [List.length_cons]; omega

/-- The words ahead of the first fault, the place of the fault or the end, the error. -/
def scanL (l : List Nat) (a : Nat) : List Tok × Nat × Nat :=
  match l with
  | [] => ([], a, 0)
  | c :: r =>
    if blankB c then scanL r (a + 1)
    else if _h35 : c = 35 then scanL ((c :: r).dropWhile inC) (a + ((c :: r).takeWhile inC).length)
    else if _h0 : (wordL (c :: r)).1 = 0 then ([], a, 40)
    else if (wordL (c :: r)).2 = 1 ∧ 32 < (wordL (c :: r)).1 then ([], a, 3)
    else if (wordL (c :: r)).2 = 3 ∧ most < valD ((c :: r).take (wordL (c :: r)).1) then ([], a, 3)
    else
      (⟨(wordL (c :: r)).2, (c :: r).take (wordL (c :: r)).1, if (wordL (c :: r)).2 = 3 then valD ((c :: r).take (wordL (c :: r)).1) else 0, a⟩ :: (scanL ((c :: r).drop (wordL (c :: r)).1) (a + (wordL (c :: r)).1)).1,
        (scanL ((c :: r).drop (wordL (c :: r)).1) (a + (wordL (c :: r)).1)).2)
termination_by l.length
decreasing_by
  · simp
  · subst _h35; exact dropWhile_lt r
  · exact drop_lt c r _ _h0

theorem scanL_blank {c : Nat} (r : List Nat) (a : Nat) (h : blankB c = true) : scanL (c :: r) a = scanL r (a + 1) := by rw [scanL, if_pos h]

/-- A word that is one by itself. -/
structure Good (k : Nat) (t : List Nat) (v : Nat) : Prop where
  word : wordL t = (t.length, k)
  ne : t ≠ []
  head : ∀ c, t.head? = some c → blankB c = false ∧ c ≠ 35
  name : ¬ (k = 1 ∧ 32 < t.length)
  num : ¬ (k = 3 ∧ most < valD t)
  val : v = if k = 3 then valD t else 0

/-- A good word at a text's head, a blank or nothing behind it. -/
theorem scanL_good {k v : Nat} {t : List Nat} (h : Good k t v) (r : List Nat) (hr : r = [] ∨ ∃ r', r = 32 :: r') (a : Nat) :
    scanL (t ++ r) a = (⟨k, t, v, a⟩ :: (scanL r (a + t.length)).1, (scanL r (a + t.length)).2) := by
  obtain ⟨hw, hs, hh, hn, hu, hv⟩ := h
  have hag : wordL (t ++ r) = (t.length, k) := by
    have := wordL_again t (by rw [hw]; exact fun e => hs (List.eq_nil_of_length_eq_zero e)) r hr
    rw [hw] at this
    simpa using this
  cases t with
  | nil => exact absurd rfl hs
  | cons c t =>
    obtain ⟨h1, h2⟩ := hh c rfl
    have htk : ((c :: t) ++ r).take (c :: t).length = c :: t := List.take_left
    have hdr : ((c :: t) ++ r).drop (c :: t).length = r := List.drop_left
    rw [List.cons_append] at hag htk hdr ⊢
    rw [scanL, if_neg (by rw [h1]; simp), dif_neg h2, hag, dif_neg (by simp), if_neg hn]
    simp only
    rw [htk, if_neg hu, hdr, hv]

theorem good_of {s : List Nat} (hs : (wordL s).1 ≠ 0) (hh : ∀ c, s.head? = some c → blankB c = false ∧ c ≠ 35) (hn : ¬ ((wordL s).2 = 1 ∧ 32 < (wordL s).1)) (hu : ¬ ((wordL s).2 = 3 ∧ most < valD (s.take (wordL s).1))) :
    Good (wordL s).2 (s.take (wordL s).1) (if (wordL s).2 = 3 then valD (s.take (wordL s).1) else 0) := by
  have hle := wordL_le s
  have hlen : (s.take (wordL s).1).length = (wordL s).1 := by rw [List.length_take]; omega
  have hag := wordL_again s hs [] (.inl rfl)
  rw [List.append_nil] at hag
  refine ⟨by rw [hag, hlen], fun e => hs (by rw [← hlen, e]; rfl), fun c hc => ?_, by rw [hlen]; exact hn, hu, rfl⟩
  cases s with
  | nil => simp at hc
  | cons d s =>
    obtain ⟨n, hn'⟩ : ∃ n, (wordL (d :: s)).1 = n + 1 := ⟨(wordL (d :: s)).1 - 1, by omega⟩
    rw [hn', List.take_succ_cons] at hc
    obtain rfl : d = c := by simpa using hc
    exact hh d rfl

/-- All words of a text are good. -/
theorem scanL_all : ∀ (N : Nat) (l : List Nat), l.length ≤ N → ∀ a, ∀ t ∈ (scanL l a).1, Good t.kind t.text t.value
  | _, [], _, a, t, ht => by rw [scanL] at ht; exact absurd ht (by simp)
  | 0, c :: r, h, _, _, _ => absurd h (by simp)
  | N + 1, c :: r, h, a, t, ht => by
    have hr : r.length ≤ N := by simpa using h
    rw [scanL] at ht
    split at ht
    · exact scanL_all N r hr _ t ht
    · rename_i hb
      split at ht
      · rename_i h35
        subst h35
        exact scanL_all N _ (by have := dropWhile_lt r; rw [List.length_cons] at this; omega) _ t ht
      · rename_i h35
        split at ht
        · exact absurd ht (by simp)
        · rename_i h0
          split at ht
          · exact absurd ht (by simp)
          · rename_i hn
            split at ht
            · exact absurd ht (by simp)
            · rename_i hu
              rcases List.mem_cons.1 ht with rfl | ht
              · refine good_of h0 (fun d hd => ?_) hn hu
                obtain rfl : c = d := by simpa using hd
                exact ⟨by simpa using hb, h35⟩
              · exact scanL_all N _ (by have := drop_lt c r _ h0; rw [List.length_cons] at this; omega) _ t ht

/-- Texts with one blank between each two. -/
def joinL : List (List Nat) → List Nat
  | [] => []
  | [t] => t
  | t :: u :: l => t ++ 32 :: joinL (u :: l)

/-- The joined texts of good words have the same words, at other places, and no fault. -/
theorem scanL_join : ∀ (l : List Tok), (∀ t ∈ l, Good t.kind t.text t.value) → ∀ a, (scanL (joinL (l.map Tok.text)) a).2.2 = 0 ∧ (scanL (joinL (l.map Tok.text)) a).1.map (fun t => (t.kind, t.text, t.value)) = l.map (fun t => (t.kind, t.text, t.value))
  | [], _, a => by simp [joinL, scanL]
  | [t], h, a => by
    have hg := h t (List.mem_cons_self ..)
    have := scanL_good hg [] (.inl rfl) a
    rw [List.append_nil] at this
    show (scanL t.text a).2.2 = 0 ∧ _
    rw [this]
    constructor
    · rw [scanL]
    · show ((scanL t.text a).1).map _ = _
      rw [this]
      simp [scanL]
  | t :: u :: l, h, a => by
    have hg := h t (List.mem_cons_self ..)
    obtain ⟨i1, i2⟩ := scanL_join (u :: l) (fun x hx => h x (List.mem_cons_of_mem _ hx)) (a + t.text.length + 1)
    have := scanL_good hg (32 :: joinL ((u :: l).map Tok.text)) (.inr ⟨_, rfl⟩) a
    rw [scanL_blank _ _ (by decide)] at this
    show (scanL (t.text ++ 32 :: joinL ((u :: l).map Tok.text)) a).2.2 = 0 ∧ ((scanL (t.text ++ 32 :: joinL ((u :: l).map Tok.text)) a).1).map _ = _
    rw [this]
    exact ⟨i1, by rw [List.map_cons, i2]; rfl⟩

/-- A good word is the only word of itself. -/
theorem scanL_one {k v : Nat} {t : List Nat} (h : Good k t v) (a : Nat) : scanL t a = ([⟨k, t, v, a⟩], a + t.length, 0) := by
  have := scanL_good h [] (.inl rfl) a
  rw [List.append_nil] at this
  rw [this, scanL]
end Go.Proofs.YtnmcjkabihihiaaGreatDoor

/- Contracts of the byte tests of package lex and of the document's answer: for every byte and every memory. -/
namespace Go.Proofs.YtnmcjkabihihiaaGreatDoor
open Go Go.RowKit

theorem ret_bool {a b : Bool} (h : a = b) : Ending.returned (.bool a) = .returned (.bool b) := by rw [h]
theorem ret_int {k : IntKind} {a b : Int} (h : a = b) : Ending.returned (.int k a) = .returned (.int k b) := by rw [h]
theorem ret_str {a b : ByteArray} (h : a = b) : Ending.returned (.string a) = .returned (.string b) := by rw [h]

theorem letterB_iff (c : Nat) : letterB c = true ↔ (97 ≤ c ∧ c ≤ 122) ∨ c = 95 := by simp [letterB]
theorem digitB_iff (c : Nat) : digitB c = true ↔ 48 ≤ c ∧ c ≤ 57 := by simp [digitB]
theorem blankB_iff (c : Nat) : blankB c = true ↔ c = 9 ∨ c = 10 ∨ c = 13 ∨ c = 32 := by simp [blankB, or_assoc]

theorem isLetter_any (c : Nat) (w : World) : Calls Tryz.prog 97 #[.int .u8 (c : Int)] w fun e w' => e = .returned (.bool (letterB c)) ∧ w = w' := by
  have hc : (97 ≤ c ∧ c ≤ 122) ∨ c < 97 ∨ 122 < c := by omega
  rcases hc with ⟨h1, h2⟩ | h1 | h1
  all_goals
    go_enter Tryz.func97, Tryz.ntmps97
    go_wp2
    all_goals
      go_ret
      exact ⟨ret_bool (by rw [Bool.eq_iff_iff, letterB_iff]; simp; omega), rfl⟩

theorem letter_any (c : Nat) (w : World) : Calls Tryz.prog 107 #[.int .u8 (c : Int)] w fun e w' => e = .returned (.bool (letterB c)) ∧ w = w' := by
  have hc : (97 ≤ c ∧ c ≤ 122) ∨ c < 97 ∨ 122 < c := by omega
  rcases hc with ⟨h1, h2⟩ | h1 | h1
  all_goals
    go_enter Tryz.func107, Tryz.ntmps107
    go_wp2
    all_goals
      go_ret
      exact ⟨ret_bool (by rw [Bool.eq_iff_iff, letterB_iff]; simp; omega), rfl⟩

theorem isDigit_any (c : Nat) (w : World) : Calls Tryz.prog 100 #[.int .u8 (c : Int)] w fun e w' => e = .returned (.bool (digitB c)) ∧ w = w' := by
  have hc : (48 ≤ c ∧ c ≤ 57) ∨ c < 48 ∨ 57 < c := by omega
  rcases hc with ⟨h1, h2⟩ | h1 | h1
  all_goals
    go_enter Tryz.func100, Tryz.ntmps100
    go_wp2
    all_goals
      go_ret
      exact ⟨ret_bool (by rw [Bool.eq_iff_iff, digitB_iff]; simp; omega), rfl⟩

theorem digit_any (c : Nat) (w : World) : Calls Tryz.prog 108 #[.int .u8 (c : Int)] w fun e w' => e = .returned (.bool (digitB c)) ∧ w = w' := by
  have hc : (48 ≤ c ∧ c ≤ 57) ∨ c < 48 ∨ 57 < c := by omega
  rcases hc with ⟨h1, h2⟩ | h1 | h1
  all_goals
    go_enter Tryz.func108, Tryz.ntmps108
    go_wp2
    all_goals
      go_ret
      exact ⟨ret_bool (by rw [Bool.eq_iff_iff, digitB_iff]; simp; omega), rfl⟩

theorem isBlank_any (c : Nat) (w : World) : Calls Tryz.prog 96 #[.int .u8 (c : Int)] w fun e w' => e = .returned (.bool (blankB c)) ∧ w = w' := by
  go_enter Tryz.func96, Tryz.ntmps96
  go_wp2
  all_goals
    go_ret
    exact ⟨ret_bool (by rw [Bool.eq_iff_iff, blankB_iff]; simp; omega), rfl⟩

theorem blank_any (c : Nat) (w : World) : Calls Tryz.prog 86 #[.int .u8 (c : Int)] w fun e w' => e = .returned (.bool (blankB c)) ∧ w = w' := by
  go_enter Tryz.func86, Tryz.ntmps86
  go_wp2
  all_goals
    go_ret
    exact ⟨ret_bool (by rw [Bool.eq_iff_iff, blankB_iff]; simp; omega), rfl⟩

theorem isInLine_any (c : Nat) (w : World) : Calls Tryz.prog 95 #[.int .u8 (c : Int)] w fun e w' => e = .returned (.bool (inC c)) ∧ w = w' := by
  go_enter Tryz.func95, Tryz.ntmps95
  go_wp2
  go_ret
  exact ⟨ret_bool (by rw [Bool.eq_iff_iff]; simp [inC]; omega), rfl⟩

theorem isOfName_any (c : Nat) (w : World) : Calls Tryz.prog 99 #[.int .u8 (c : Int)] w fun e w' => e = .returned (.bool (nameB c)) ∧ w = w' := by
  cases h : letterB c
  · have h1 := h ▸ isLetter_any c w
    go_enter Tryz.func99, Tryz.ntmps99
    go_wp2_with (first | (go_at_call 97; refine h1.mono ?_; rintro e w' ⟨rfl, rfl⟩) | (go_at_call 100; refine (isDigit_any c _).mono ?_; rintro e w' ⟨rfl, rfl⟩))
    go_ret
    exact ⟨ret_bool (by simp [nameB, h]), rfl⟩
  · have h1 := h ▸ isLetter_any c w
    go_enter Tryz.func99, Tryz.ntmps99
    go_wp2_with (first | (go_at_call 97; refine h1.mono ?_; rintro e w' ⟨rfl, rfl⟩) | (go_at_call 100; refine (isDigit_any c _).mono ?_; rintro e w' ⟨rfl, rfl⟩))
    go_ret
    exact ⟨ret_bool (by simp [nameB, h]), rfl⟩
end Go.Proofs.YtnmcjkabihihiaaGreatDoor

/- Plain facts on digits: what they come to, digit by digit, and when it is too great. (No seat's own names: to be renamed to the seat that needs it.) -/
namespace Go.Proofs.YtnmcjkabihihiaaGreatDoor

theorem valD_snoc (l : List Nat) (d : Nat) : valD (l ++ [d]) = 10 * valD l + (d - 48) := by simp [valD, List.foldl_append]
theorem valD_take (l : List Nat) (i : Nat) (h : i < l.length) : valD (l.take (i + 1)) = 10 * valD (l.take i) + (l.getD i 0 - 48) := by
  rw [List.take_succ_eq_append_getElem h, valD_snoc, List.getD_eq_getElem?_getD, List.getElem?_eq_getElem h]; rfl
theorem foldl_ge : ∀ (l : List Nat) (n : Nat), n ≤ l.foldl (fun n d => 10 * n + (d - 48)) n
  | [], n => Nat.le_refl _
  | d :: l, n => by
    have := foldl_ge l (10 * n + (d - 48))
    rw [List.foldl_cons]; omega
theorem valD_mono (l m : List Nat) : valD l ≤ valD (l ++ m) := by
  unfold valD
  rw [List.foldl_append]
  exact foldl_ge m _
theorem valD_take_le (l : List Nat) (i : Nat) : valD (l.take i) ≤ valD l := by
  have := valD_mono (l.take i) (l.drop i)
  rwa [List.take_append_drop] at this
/-- The document's test, digit by digit. -/
theorem too_great (n d : Nat) (hd : d ≤ 9) : (most - d) / 10 < n ↔ most < 10 * n + d := by
  simp only [most]; omega
theorem valD_zeros (l : List Nat) : valD (48 :: l) = valD l := by simp [valD]
theorem digit_range {c : Nat} (h : digitB c = true) : 48 ≤ c ∧ c ≤ 57 := by
  unfold digitB at h
  simpa using h
/-- A text of no word at all. -/
theorem scanL_nil (a : Nat) : scanL [] a = ([], a, 0) := by rw [scanL]
/-- The words' places rise. -/
theorem joinL_length : ∀ l : List (List Nat), l ≠ [] → (joinL l).length + 1 = (l.map List.length).sum + l.length
  | [], h => absurd rfl h
  | [t], _ => by simp [joinL]
  | t :: u :: l, _ => by
    have := joinL_length (u :: l) (by simp)
    rw [joinL, List.length_append, List.length_cons, List.map_cons, List.sum_cons, List.length_cons]
    omega
end Go.Proofs.YtnmcjkabihihiaaGreatDoor

/- Plain facts: a text's words, gap by gap and word by word; what a sequence of them tells. -/
namespace Go.Proofs.YtnmcjkabihihiaaGreatDoor
open Go

/-- What is wrong at a text's head: 0, if a word stands there. -/
def errL (l : List Nat) : Nat :=
  if (wordL l).1 = 0 then 40 else if (wordL l).2 = 1 ∧ 32 < (wordL l).1 then 3 else if (wordL l).2 = 3 ∧ most < valD (l.take (wordL l).1) then 3 else 0
/-- The number of the word at a text's head. -/
def valL (l : List Nat) : Nat := if (wordL l).2 = 3 then valD (l.take (wordL l).1) else 0
/-- How many bytes of blanks, or of one comment, a text begins with. -/
def gapL (l : List Nat) : Nat := if l.head? = some 35 then (l.takeWhile inC).length else (l.takeWhile blankB).length

theorem drop_takeWhile {p : Nat → Bool} : ∀ l : List Nat, l.drop (l.takeWhile p).length = l.dropWhile p
  | [] => rfl
  | c :: r => by
    rw [List.takeWhile_cons, List.dropWhile_cons]
    split
    · rw [List.length_cons, List.drop_succ_cons, drop_takeWhile r]
    · rfl
theorem scan_blanks : ∀ (l : List Nat) (a : Nat), scanL l a = scanL (l.dropWhile blankB) (a + (l.takeWhile blankB).length)
  | [], a => by simp
  | c :: r, a => by
    by_cases h : blankB c = true
    · rw [scanL_blank r a h, scan_blanks r (a + 1), List.dropWhile_cons, if_pos h, List.takeWhile_cons, if_pos h, List.length_cons]
      congr 1; omega
    · rw [List.dropWhile_cons, if_neg h, List.takeWhile_cons, if_neg h]; rfl
theorem scan_comment (r : List Nat) (a : Nat) : scanL (35 :: r) a = scanL ((35 :: r).dropWhile inC) (a + ((35 :: r).takeWhile inC).length) := by
  rw [scanL, if_neg (by decide), dif_pos rfl]
theorem scan_gap (l : List Nat) (a : Nat) : scanL l a = scanL (l.drop (gapL l)) (a + gapL l) := by
  unfold gapL
  split
  · rename_i h
    cases l with
    | nil => simp at h
    | cons c r =>
      obtain rfl : c = 35 := by simpa using h
      rw [drop_takeWhile]
      exact scan_comment r a
  · rw [drop_takeWhile]
    exact scan_blanks l a
theorem no_gap {c : Nat} {r : List Nat} (h : gapL (c :: r) = 0) : blankB c = false ∧ c ≠ 35 := by
  unfold gapL at h
  split at h
  · rename_i h35
    obtain rfl : c = 35 := by simpa using h35
    rw [List.takeWhile_cons, if_pos (by decide)] at h
    simp at h
  · rename_i h35
    refine ⟨?_, by simpa using h35⟩
    rw [List.takeWhile_cons] at h
    split at h
    · simp at h
    · rename_i hb; simpa using hb
theorem scan_err {c : Nat} {r : List Nat} (a : Nat) (h : blankB c = false) (h35 : c ≠ 35) (he : errL (c :: r) ≠ 0) : scanL (c :: r) a = ([], a, errL (c :: r)) := by
  unfold errL at he ⊢
  rw [scanL, if_neg (by rw [h]; simp), dif_neg h35]
  split
  · rfl
  · rename_i h0
    rw [if_neg h0] at he
    split
    · rfl
    · rename_i h1
      rw [if_neg h1] at he
      split
      · rfl
      · rename_i h2; rw [if_neg h2] at he; exact absurd rfl he
theorem scan_word {c : Nat} {r : List Nat} (a : Nat) (h : blankB c = false) (h35 : c ≠ 35) (he : errL (c :: r) = 0) :
    scanL (c :: r) a = (⟨(wordL (c :: r)).2, (c :: r).take (wordL (c :: r)).1, valL (c :: r), a⟩ :: (scanL ((c :: r).drop (wordL (c :: r)).1) (a + (wordL (c :: r)).1)).1, (scanL ((c :: r).drop (wordL (c :: r)).1) (a + (wordL (c :: r)).1)).2) := by
  unfold errL at he
  rw [scanL, if_neg (by rw [h]; simp), dif_neg h35]
  split
  · rename_i h0; rw [if_pos h0] at he; exact absurd he (by decide)
  · rename_i h0
    rw [if_neg h0] at he
    split
    · rename_i h1; rw [if_pos h1] at he; exact absurd he (by decide)
    · rename_i h1
      rw [if_neg h1] at he
      split
      · rename_i h2; rw [if_pos h2] at he; exact absurd he (by decide)
      · rfl
theorem errL_word {l : List Nat} (he : errL l = 0) : (wordL l).1 ≠ 0 := by
  intro h
  rw [errL, if_pos h] at he
  exact absurd he (by decide)
theorem errL_vals (l : List Nat) : errL l = 0 ∨ errL l = 3 ∨ errL l = 40 := by
  unfold errL
  split
  · exact .inr (.inr rfl)
  · split
    · exact .inr (.inl rfl)
    · split
      · exact .inr (.inl rfl)
      · exact .inl rfl

/-- What a sequence of words tells: each with no error, at last the fault's place and error, if there is one. -/
def itemsOf (r : List Tok × Nat × Nat) : List (Tok × Nat) := r.1.map (fun t => (t, 0)) ++ if r.2.2 = 0 then [] else [(⟨0, [], 0, r.2.1⟩, r.2.2)]
theorem items_word {c : Nat} {r : List Nat} (a : Nat) (h : blankB c = false) (h35 : c ≠ 35) (he : errL (c :: r) = 0) :
    itemsOf (scanL (c :: r) a) = (⟨(wordL (c :: r)).2, (c :: r).take (wordL (c :: r)).1, valL (c :: r), a⟩, 0) :: itemsOf (scanL ((c :: r).drop (wordL (c :: r)).1) (a + (wordL (c :: r)).1)) := by
  rw [scan_word a h h35 he]; rfl
theorem items_err {c : Nat} {r : List Nat} (a : Nat) (h : blankB c = false) (h35 : c ≠ 35) (he : errL (c :: r) ≠ 0) :
    itemsOf (scanL (c :: r) a) = [(⟨0, [], 0, a⟩, errL (c :: r))] := by
  rw [scan_err a h h35 he, itemsOf]; simp [he]
theorem items_nil (a : Nat) : itemsOf (scanL [] a) = [] := by rw [scanL]; rfl
theorem items_gap (l : List Nat) (a : Nat) : itemsOf (scanL l a) = itemsOf (scanL (l.drop (gapL l)) (a + gapL l)) := by rw [← scan_gap]

/-- Whatever is told is told with no error, but for the last. -/
theorem scan_errs : ∀ (N : Nat) (l : List Nat), l.length ≤ N → ∀ a, (scanL l a).2.2 = 0 ∨ (scanL l a).2.2 = 3 ∨ (scanL l a).2.2 = 40
  | N, l, h, a => by
    cases l with
    | nil => rw [scanL]; exact .inl rfl
    | cons c r =>
      by_cases hb : blankB c = true
      · cases N with
        | zero => simp at h
        | succ N =>
          rw [scanL_blank r a hb]
          exact scan_errs N r (by simpa using h) _
      · have hb : blankB c = false := by simpa using hb
        by_cases h35 : c = 35
        · cases N with
          | zero => simp at h
          | succ N =>
            subst h35
            rw [scan_comment]
            exact scan_errs N _ (by have := dropWhile_lt r; rw [List.length_cons] at h this; omega) _
        · by_cases he : errL (c :: r) = 0
          · cases N with
            | zero => simp at h
            | succ N =>
              rw [scan_word a hb h35 he]
              exact scan_errs N _ (by have := drop_lt c r _ (errL_word he); rw [List.length_cons] at h this; omega) _
          · rw [scan_err a hb h35 he]
            exact errL_vals _
/-- There are no more words than bytes. -/
theorem scan_count : ∀ (N : Nat) (l : List Nat), l.length ≤ N → ∀ a, (scanL l a).1.length ≤ l.length
  | N, l, h, a => by
    cases l with
    | nil => rw [scanL]; exact Nat.le_refl _
    | cons c r =>
      by_cases hb : blankB c = true
      · cases N with
        | zero => simp at h
        | succ N =>
          rw [scanL_blank r a hb]
          have := scan_count N r (by simpa using h) (a + 1)
          rw [List.length_cons]; omega
      · have hb : blankB c = false := by simpa using hb
        by_cases h35 : c = 35
        · cases N with
          | zero => simp at h
          | succ N =>
            subst h35
            rw [scan_comment]
            have hl := dropWhile_lt r
            have := scan_count N ((35 :: r).dropWhile inC) (by rw [List.length_cons] at h hl; omega) (a + ((35 :: r).takeWhile inC).length)
            omega
        · by_cases he : errL (c :: r) = 0
          · cases N with
            | zero => simp at h
            | succ N =>
              rw [scan_word a hb h35 he]
              have hl := drop_lt c r _ (errL_word he)
              have := scan_count N ((c :: r).drop (wordL (c :: r)).1) (by rw [List.length_cons] at h hl; omega) (a + (wordL (c :: r)).1)
              show _ + 1 ≤ _
              omega
          · rw [scan_err a hb h35 he]; simp
end Go.Proofs.YtnmcjkabihihiaaGreatDoor

/- Contracts of run and gap of package lex: for every text and every memory. -/
namespace Go.Proofs.YtnmcjkabihihiaaGreatDoor
open Go Go.RowKit

/-- A text's bytes as numbers. -/
def bl (s : ByteArray) : List Nat := s.data.toList.map UInt8.toNat
theorem bl_length (s : ByteArray) : (bl s).length = s.size := by simp [bl]
theorem bl_get (s : ByteArray) (i : Nat) (h : i < s.size) : (bl s)[i]? = some (s[i]).toNat := by
  have h' : i < s.data.toList.length := by simpa using h
  rw [bl, List.getElem?_map, List.getElem?_eq_getElem h']; rfl
theorem bl_getD (s : ByteArray) (i : Nat) (h : i < s.size) : (bl s).getD i 0 = (s[i]).toNat := by
  rw [List.getD_eq_getElem?_getD, bl_get s i h]; rfl
theorem bl_extract (s : ByteArray) (a b : Nat) : bl (s.extract a b) = ((bl s).take b).drop a := by
  unfold bl
  rw [ByteArray.data_extract, Array.toList_extract, List.extract_eq_take_drop, List.map_take, List.map_drop, List.drop_take]
theorem bl_inj {s t : ByteArray} (h : bl s = bl t) : s = t := by
  unfold bl at h
  have : s.data.toList = t.data.toList := (List.map_inj_right (fun a b h => UInt8.toNat_inj.1 h)).1 h
  apply ByteArray.ext
  exact Array.ext' this
theorem bl_lt (s : ByteArray) : ∀ x ∈ bl s, x < 256 := by
  intro x hx
  obtain ⟨c, _, rfl⟩ := List.mem_map.1 hx
  exact c.toNat_lt

/-- How far a text's head keeps a sort. -/
theorem run_step {p : Nat → Bool} (l : List Nat) (k : Nat) (h : ∀ x ∈ l.take k, p x = true) (c : Nat) (hc : l[k]? = some c) (hp : p c = true) : ∀ x ∈ l.take (k + 1), p x = true := by
  rw [List.take_add_one, hc]
  intro x hx
  rcases List.mem_append.1 hx with h1 | h1
  · exact h x h1
  · obtain rfl : x = c := by simpa using h1
    exact hp
theorem run_stop {p : Nat → Bool} (l : List Nat) (k : Nat) (h : ∀ x ∈ l.take k, p x = true) (c : Nat) (hc : l[k]? = some c) (hp : p c = false) : (l.takeWhile p).length = k := by
  have hk : k < l.length := (List.getElem?_eq_some_iff.1 hc).1
  have h2 : l = l.take k ++ l.drop k := (List.take_append_drop k l).symm
  have hd : (l.drop k).head? = some c := by rw [List.head?_drop]; exact hc
  rw [h2, takeWhile_stop _ _ h (fun d hd' => by rw [hd] at hd'; obtain rfl : c = d := by simpa using hd'
                                                exact hp), List.length_take]
  omega
theorem run_end {p : Nat → Bool} (l : List Nat) (h : ∀ x ∈ l.take l.length, p x = true) : (l.takeWhile p).length = l.length := by
  rw [List.take_length] at h
  have := takeWhile_stop l [] h (by simp)
  rw [List.append_nil] at this
  rw [this]

set_option maxHeartbeats 400000 in
theorem run_name (s : ByteArray) (hs : s.size ≤ 9223372036854775806) (w : World) :
    Calls Tryz.prog 94 #[.string s, .func (.func 99) #[] #[]] w fun e w' => e = .returned (.int .i64 ((((bl s).takeWhile nameB).length : Nat) : Int)) ∧ w = w' := by
  go_enter Tryz.func94, Tryz.ntmps94
  go_wp2
  go_loop [8] (fun i => ∃ k : Nat, k ≤ s.size ∧ i = .int .i64 k ∧ Hid (∀ x ∈ (bl s).take k, nameB x = true)) (fun i => s.size - (intOf i).toNat)
  case atStart => exact ⟨0, Nat.zero_le _, rfl, Lib.hid (by simp)⟩
  case round =>
    obtain ⟨k, hk, rfl, H⟩ := hrel
    by_cases hlt : k < s.size
    · have hb := Lib.hid (bl_get s k hlt)
      cases hp : nameB (s[k]).toNat
      · have hcall := hp ▸ isOfName_any (s[k]).toNat w
        have HP := Lib.hid hp
        clear hp
        go_wp2_with (go_at_call 99; refine hcall.mono ?_; rintro e w' ⟨rfl, rfl⟩)
        go_ret
        exact ⟨ret_int (by rw [run_stop _ k H.out _ hb.out HP.out]), rfl⟩
      · have hcall := hp ▸ isOfName_any (s[k]).toNat w
        have HP := Lib.hid hp
        clear hp
        go_wp2_with (go_at_call 99; refine hcall.mono ?_; rintro e w' ⟨rfl, rfl⟩)
        go_round
        case rel => exact ⟨k + 1, by omega, by go_num, Lib.hid (run_step _ k H.out _ hb.out HP.out)⟩
        case measure => simp [intOf]; omega
    · have hk' : k = (bl s).length := by rw [bl_length]; omega
      have HK := Lib.hid hk'
      clear hk'
      go_wp2
      go_ret
      exact ⟨ret_int (by rw [run_end _ (HK.out ▸ H.out), bl_length]), rfl⟩
set_option maxHeartbeats 400000 in
theorem run_digit (s : ByteArray) (hs : s.size ≤ 9223372036854775806) (w : World) :
    Calls Tryz.prog 94 #[.string s, .func (.func 100) #[] #[]] w fun e w' => e = .returned (.int .i64 ((((bl s).takeWhile digitB).length : Nat) : Int)) ∧ w = w' := by
  go_enter Tryz.func94, Tryz.ntmps94
  go_wp2
  go_loop [8] (fun i => ∃ k : Nat, k ≤ s.size ∧ i = .int .i64 k ∧ Hid (∀ x ∈ (bl s).take k, digitB x = true)) (fun i => s.size - (intOf i).toNat)
  case atStart => exact ⟨0, Nat.zero_le _, rfl, Lib.hid (by simp)⟩
  case round =>
    obtain ⟨k, hk, rfl, H⟩ := hrel
    by_cases hlt : k < s.size
    · have hb := Lib.hid (bl_get s k hlt)
      cases hp : digitB (s[k]).toNat
      · have hcall := hp ▸ isDigit_any (s[k]).toNat w
        have HP := Lib.hid hp
        clear hp
        go_wp2_with (go_at_call 100; refine hcall.mono ?_; rintro e w' ⟨rfl, rfl⟩)
        go_ret
        exact ⟨ret_int (by rw [run_stop _ k H.out _ hb.out HP.out]), rfl⟩
      · have hcall := hp ▸ isDigit_any (s[k]).toNat w
        have HP := Lib.hid hp
        clear hp
        go_wp2_with (go_at_call 100; refine hcall.mono ?_; rintro e w' ⟨rfl, rfl⟩)
        go_round
        case rel => exact ⟨k + 1, by omega, by go_num, Lib.hid (run_step _ k H.out _ hb.out HP.out)⟩
        case measure => simp [intOf]; omega
    · have hk' : k = (bl s).length := by rw [bl_length]; omega
      have HK := Lib.hid hk'
      clear hk'
      go_wp2
      go_ret
      exact ⟨ret_int (by rw [run_end _ (HK.out ▸ H.out), bl_length]), rfl⟩
set_option maxHeartbeats 400000 in
theorem run_line (s : ByteArray) (hs : s.size ≤ 9223372036854775806) (w : World) :
    Calls Tryz.prog 94 #[.string s, .func (.func 95) #[] #[]] w fun e w' => e = .returned (.int .i64 ((((bl s).takeWhile inC).length : Nat) : Int)) ∧ w = w' := by
  go_enter Tryz.func94, Tryz.ntmps94
  go_wp2
  go_loop [8] (fun i => ∃ k : Nat, k ≤ s.size ∧ i = .int .i64 k ∧ Hid (∀ x ∈ (bl s).take k, inC x = true)) (fun i => s.size - (intOf i).toNat)
  case atStart => exact ⟨0, Nat.zero_le _, rfl, Lib.hid (by simp)⟩
  case round =>
    obtain ⟨k, hk, rfl, H⟩ := hrel
    by_cases hlt : k < s.size
    · have hb := Lib.hid (bl_get s k hlt)
      cases hp : inC (s[k]).toNat
      · have hcall := hp ▸ isInLine_any (s[k]).toNat w
        have HP := Lib.hid hp
        clear hp
        go_wp2_with (go_at_call 95; refine hcall.mono ?_; rintro e w' ⟨rfl, rfl⟩)
        go_ret
        exact ⟨ret_int (by rw [run_stop _ k H.out _ hb.out HP.out]), rfl⟩
      · have hcall := hp ▸ isInLine_any (s[k]).toNat w
        have HP := Lib.hid hp
        clear hp
        go_wp2_with (go_at_call 95; refine hcall.mono ?_; rintro e w' ⟨rfl, rfl⟩)
        go_round
        case rel => exact ⟨k + 1, by omega, by go_num, Lib.hid (run_step _ k H.out _ hb.out HP.out)⟩
        case measure => simp [intOf]; omega
    · have hk' : k = (bl s).length := by rw [bl_length]; omega
      have HK := Lib.hid hk'
      clear hk'
      go_wp2
      go_ret
      exact ⟨ret_int (by rw [run_end _ (HK.out ▸ H.out), bl_length]), rfl⟩
set_option maxHeartbeats 400000 in
theorem run_blank (s : ByteArray) (hs : s.size ≤ 9223372036854775806) (w : World) :
    Calls Tryz.prog 94 #[.string s, .func (.func 96) #[] #[]] w fun e w' => e = .returned (.int .i64 ((((bl s).takeWhile blankB).length : Nat) : Int)) ∧ w = w' := by
  go_enter Tryz.func94, Tryz.ntmps94
  go_wp2
  go_loop [8] (fun i => ∃ k : Nat, k ≤ s.size ∧ i = .int .i64 k ∧ Hid (∀ x ∈ (bl s).take k, blankB x = true)) (fun i => s.size - (intOf i).toNat)
  case atStart => exact ⟨0, Nat.zero_le _, rfl, Lib.hid (by simp)⟩
  case round =>
    obtain ⟨k, hk, rfl, H⟩ := hrel
    by_cases hlt : k < s.size
    · have hb := Lib.hid (bl_get s k hlt)
      cases hp : blankB (s[k]).toNat
      · have hcall := hp ▸ isBlank_any (s[k]).toNat w
        have HP := Lib.hid hp
        clear hp
        go_wp2_with (go_at_call 96; refine hcall.mono ?_; rintro e w' ⟨rfl, rfl⟩)
        go_ret
        exact ⟨ret_int (by rw [run_stop _ k H.out _ hb.out HP.out]), rfl⟩
      · have hcall := hp ▸ isBlank_any (s[k]).toNat w
        have HP := Lib.hid hp
        clear hp
        go_wp2_with (go_at_call 96; refine hcall.mono ?_; rintro e w' ⟨rfl, rfl⟩)
        go_round
        case rel => exact ⟨k + 1, by omega, by go_num, Lib.hid (run_step _ k H.out _ hb.out HP.out)⟩
        case measure => simp [intOf]; omega
    · have hk' : k = (bl s).length := by rw [bl_length]; omega
      have HK := Lib.hid hk'
      clear hk'
      go_wp2
      go_ret
      exact ⟨ret_int (by rw [run_end _ (HK.out ▸ H.out), bl_length]), rfl⟩
theorem gap_any (s : ByteArray) (h0 : 0 < s.size) (hs : s.size ≤ 9223372036854775806) (w : World) :
    Calls Tryz.prog 75 #[.string s] w fun e w' => e = .returned (.int .i64 ((gapL (bl s) : Nat) : Int)) ∧ w = w' := by
  have hg := bl_get s 0 h0
  rw [← List.head?_eq_getElem?] at hg
  have h1 := run_line s hs w
  have h2 := run_blank s hs w
  by_cases hc : (s[0]).toNat = 35
  · have hn : (((s[0]).toNat : Int) == 35) = true := by simp; omega
    have hgl : gapL (bl s) = ((bl s).takeWhile inC).length := by rw [gapL, hg, if_pos (by rw [hc])]
    have HG := Lib.hid hgl
    clear hgl hg hc
    go_enter Tryz.func75, Tryz.ntmps75
    go_wp2_with (go_at_call 94; refine h1.mono ?_; rintro e w' ⟨rfl, rfl⟩)
    go_ret
    exact ⟨ret_int (by rw [HG.out]), rfl⟩
  · have hn : (((s[0]).toNat : Int) == 35) = false := by simp; omega
    have hgl : gapL (bl s) = ((bl s).takeWhile blankB).length := by rw [gapL, hg, if_neg (by simpa using hc)]
    have HG := Lib.hid hgl
    clear hgl hg hc
    go_enter Tryz.func75, Tryz.ntmps75
    go_wp2_with (go_at_call 94; refine h2.mono ?_; rintro e w' ⟨rfl, rfl⟩)
    go_ret
    exact ⟨ret_int (by rw [HG.out]), rfl⟩
end Go.Proofs.YtnmcjkabihihiaaGreatDoor

/- Contracts of the tests of keywords and marks of package lex: for every text and every memory. -/
namespace Go.Proofs.YtnmcjkabihihiaaGreatDoor
open Go Go.RowKit

/-- All marks. -/
def marksL : List (List Nat) := mark1.map (fun c => [c]) ++ mark2
theorem ne_lit {s : ByteArray} {L : List (List Nat)} {u : List UInt8} (h : bl s ∉ L) (hu : u.map UInt8.toNat ∈ L) : (s.toList == u) = false := by
  rw [beq_eq_false_iff_ne]
  intro e
  rw [Lib.toList_data] at e
  exact h (by unfold bl; rw [e]; exact hu)
set_option maxRecDepth 100000 in
set_option maxHeartbeats 1000000 in
theorem isKeyword_no (s : ByteArray) (h : bl s ∉ keysL) (w : World) : Calls Tryz.prog 118 #[.string s] w fun e w' => e = .returned (.bool false) ∧ w = w' := by
  have e0 : (s.toList == [112, 114, 105, 110, 99, 105, 112, 97, 108]) = false := ne_lit h (by decide)
  have e1 : (s.toList == [103, 108, 111, 98, 97, 108]) = false := ne_lit h (by decide)
  have e2 : (s.toList == [97, 114, 114, 97, 121]) = false := ne_lit h (by decide)
  have e3 : (s.toList == [99, 104, 97, 110, 110, 101, 108]) = false := ne_lit h (by decide)
  have e4 : (s.toList == [102, 117, 110, 99]) = false := ne_lit h (by decide)
  have e5 : (s.toList == [118, 97, 114]) = false := ne_lit h (by decide)
  have e6 : (s.toList == [105, 102]) = false := ne_lit h (by decide)
  have e7 : (s.toList == [101, 108, 115, 101]) = false := ne_lit h (by decide)
  have e8 : (s.toList == [119, 104, 105, 108, 101]) = false := ne_lit h (by decide)
  have e9 : (s.toList == [115, 101, 110, 100]) = false := ne_lit h (by decide)
  have e10 : (s.toList == [114, 101, 116, 117, 114, 110]) = false := ne_lit h (by decide)
  clear h
  go_enter Tryz.func118, Tryz.ntmps118
  go_wp2
  go_ret
  exact ⟨rfl, rfl⟩
set_option maxRecDepth 100000 in
set_option maxHeartbeats 1000000 in
theorem isKeyword_yes (s : ByteArray) (h : bl s ∈ keysL) (w : World) : Calls Tryz.prog 118 #[.string s] w fun e w' => e = .returned (.bool true) ∧ w = w' := by
  simp only [keysL, List.mem_cons, List.not_mem_nil, or_false] at h
  rcases h with h | h | h | h | h | h | h | h | h | h | h
  · obtain rfl : s = ⟨#[112, 114, 105, 110, 99, 105, 112, 97, 108]⟩ := bl_inj (h.trans (by decide))
    clear h
    go_enter Tryz.func118, Tryz.ntmps118
    go_wp2
    go_ret
    exact ⟨rfl, rfl⟩
  · obtain rfl : s = ⟨#[103, 108, 111, 98, 97, 108]⟩ := bl_inj (h.trans (by decide))
    clear h
    go_enter Tryz.func118, Tryz.ntmps118
    go_wp2
    go_ret
    exact ⟨rfl, rfl⟩
  · obtain rfl : s = ⟨#[97, 114, 114, 97, 121]⟩ := bl_inj (h.trans (by decide))
    clear h
    go_enter Tryz.func118, Tryz.ntmps118
    go_wp2
    go_ret
    exact ⟨rfl, rfl⟩
  · obtain rfl : s = ⟨#[99, 104, 97, 110, 110, 101, 108]⟩ := bl_inj (h.trans (by decide))
    clear h
    go_enter Tryz.func118, Tryz.ntmps118
    go_wp2
    go_ret
    exact ⟨rfl, rfl⟩
  · obtain rfl : s = ⟨#[102, 117, 110, 99]⟩ := bl_inj (h.trans (by decide))
    clear h
    go_enter Tryz.func118, Tryz.ntmps118
    go_wp2
    go_ret
    exact ⟨rfl, rfl⟩
  · obtain rfl : s = ⟨#[118, 97, 114]⟩ := bl_inj (h.trans (by decide))
    clear h
    go_enter Tryz.func118, Tryz.ntmps118
    go_wp2
    go_ret
    exact ⟨rfl, rfl⟩
  · obtain rfl : s = ⟨#[105, 102]⟩ := bl_inj (h.trans (by decide))
    clear h
    go_enter Tryz.func118, Tryz.ntmps118
    go_wp2
    go_ret
    exact ⟨rfl, rfl⟩
  · obtain rfl : s = ⟨#[101, 108, 115, 101]⟩ := bl_inj (h.trans (by decide))
    clear h
    go_enter Tryz.func118, Tryz.ntmps118
    go_wp2
    go_ret
    exact ⟨rfl, rfl⟩
  · obtain rfl : s = ⟨#[119, 104, 105, 108, 101]⟩ := bl_inj (h.trans (by decide))
    clear h
    go_enter Tryz.func118, Tryz.ntmps118
    go_wp2
    go_ret
    exact ⟨rfl, rfl⟩
  · obtain rfl : s = ⟨#[115, 101, 110, 100]⟩ := bl_inj (h.trans (by decide))
    clear h
    go_enter Tryz.func118, Tryz.ntmps118
    go_wp2
    go_ret
    exact ⟨rfl, rfl⟩
  · obtain rfl : s = ⟨#[114, 101, 116, 117, 114, 110]⟩ := bl_inj (h.trans (by decide))
    clear h
    go_enter Tryz.func118, Tryz.ntmps118
    go_wp2
    go_ret
    exact ⟨rfl, rfl⟩
theorem isKeyword_any (s : ByteArray) (w : World) : Calls Tryz.prog 118 #[.string s] w fun e w' => e = .returned (.bool (decide (bl s ∈ keysL))) ∧ w = w' := by
  by_cases h : bl s ∈ keysL
  · simpa [h] using isKeyword_yes s h w
  · simpa [h] using isKeyword_no s h w
set_option maxRecDepth 100000 in
set_option maxHeartbeats 1000000 in
theorem isMark_no (s : ByteArray) (h : bl s ∉ marksL) (w : World) : Calls Tryz.prog 120 #[.string s] w fun e w' => e = .returned (.bool false) ∧ w = w' := by
  have e0 : (s.toList == [123]) = false := ne_lit h (by decide)
  have e1 : (s.toList == [125]) = false := ne_lit h (by decide)
  have e2 : (s.toList == [40]) = false := ne_lit h (by decide)
  have e3 : (s.toList == [41]) = false := ne_lit h (by decide)
  have e4 : (s.toList == [91]) = false := ne_lit h (by decide)
  have e5 : (s.toList == [93]) = false := ne_lit h (by decide)
  have e6 : (s.toList == [44]) = false := ne_lit h (by decide)
  have e7 : (s.toList == [59]) = false := ne_lit h (by decide)
  have e8 : (s.toList == [61]) = false := ne_lit h (by decide)
  have e9 : (s.toList == [61, 61]) = false := ne_lit h (by decide)
  have e10 : (s.toList == [33, 61]) = false := ne_lit h (by decide)
  have e11 : (s.toList == [60]) = false := ne_lit h (by decide)
  have e12 : (s.toList == [60, 61]) = false := ne_lit h (by decide)
  have e13 : (s.toList == [43]) = false := ne_lit h (by decide)
  have e14 : (s.toList == [45]) = false := ne_lit h (by decide)
  have e15 : (s.toList == [42]) = false := ne_lit h (by decide)
  have e16 : (s.toList == [47]) = false := ne_lit h (by decide)
  have e17 : (s.toList == [37]) = false := ne_lit h (by decide)
  have e18 : (s.toList == [38]) = false := ne_lit h (by decide)
  have e19 : (s.toList == [124]) = false := ne_lit h (by decide)
  have e20 : (s.toList == [94]) = false := ne_lit h (by decide)
  have e21 : (s.toList == [60, 60]) = false := ne_lit h (by decide)
  have e22 : (s.toList == [62, 62]) = false := ne_lit h (by decide)
  have e23 : (s.toList == [33]) = false := ne_lit h (by decide)
  have e24 : (s.toList == [126]) = false := ne_lit h (by decide)
  clear h
  go_enter Tryz.func120, Tryz.ntmps120
  go_wp2
  go_ret
  exact ⟨rfl, rfl⟩
set_option maxRecDepth 100000 in
set_option maxHeartbeats 1000000 in
theorem isMark_yes (s : ByteArray) (h : bl s ∈ marksL) (w : World) : Calls Tryz.prog 120 #[.string s] w fun e w' => e = .returned (.bool true) ∧ w = w' := by
  simp only [marksL, mark1, mark2, List.map_cons, List.map_nil, List.cons_append, List.nil_append, List.mem_cons, List.not_mem_nil, or_false] at h
  rcases h with h | h | h | h | h | h | h | h | h | h | h | h | h | h | h | h | h | h | h | h | h | h | h | h | h
  · obtain rfl : s = ⟨#[123]⟩ := bl_inj (h.trans (by decide))
    clear h
    go_enter Tryz.func120, Tryz.ntmps120
    go_wp2
    go_ret
    exact ⟨rfl, rfl⟩
  · obtain rfl : s = ⟨#[125]⟩ := bl_inj (h.trans (by decide))
    clear h
    go_enter Tryz.func120, Tryz.ntmps120
    go_wp2
    go_ret
    exact ⟨rfl, rfl⟩
  · obtain rfl : s = ⟨#[40]⟩ := bl_inj (h.trans (by decide))
    clear h
    go_enter Tryz.func120, Tryz.ntmps120
    go_wp2
    go_ret
    exact ⟨rfl, rfl⟩
  · obtain rfl : s = ⟨#[41]⟩ := bl_inj (h.trans (by decide))
    clear h
    go_enter Tryz.func120, Tryz.ntmps120
    go_wp2
    go_ret
    exact ⟨rfl, rfl⟩
  · obtain rfl : s = ⟨#[91]⟩ := bl_inj (h.trans (by decide))
    clear h
    go_enter Tryz.func120, Tryz.ntmps120
    go_wp2
    go_ret
    exact ⟨rfl, rfl⟩
  · obtain rfl : s = ⟨#[93]⟩ := bl_inj (h.trans (by decide))
    clear h
    go_enter Tryz.func120, Tryz.ntmps120
    go_wp2
    go_ret
    exact ⟨rfl, rfl⟩
  · obtain rfl : s = ⟨#[44]⟩ := bl_inj (h.trans (by decide))
    clear h
    go_enter Tryz.func120, Tryz.ntmps120
    go_wp2
    go_ret
    exact ⟨rfl, rfl⟩
  · obtain rfl : s = ⟨#[59]⟩ := bl_inj (h.trans (by decide))
    clear h
    go_enter Tryz.func120, Tryz.ntmps120
    go_wp2
    go_ret
    exact ⟨rfl, rfl⟩
  · obtain rfl : s = ⟨#[61]⟩ := bl_inj (h.trans (by decide))
    clear h
    go_enter Tryz.func120, Tryz.ntmps120
    go_wp2
    go_ret
    exact ⟨rfl, rfl⟩
  · obtain rfl : s = ⟨#[60]⟩ := bl_inj (h.trans (by decide))
    clear h
    go_enter Tryz.func120, Tryz.ntmps120
    go_wp2
    go_ret
    exact ⟨rfl, rfl⟩
  · obtain rfl : s = ⟨#[43]⟩ := bl_inj (h.trans (by decide))
    clear h
    go_enter Tryz.func120, Tryz.ntmps120
    go_wp2
    go_ret
    exact ⟨rfl, rfl⟩
  · obtain rfl : s = ⟨#[45]⟩ := bl_inj (h.trans (by decide))
    clear h
    go_enter Tryz.func120, Tryz.ntmps120
    go_wp2
    go_ret
    exact ⟨rfl, rfl⟩
  · obtain rfl : s = ⟨#[42]⟩ := bl_inj (h.trans (by decide))
    clear h
    go_enter Tryz.func120, Tryz.ntmps120
    go_wp2
    go_ret
    exact ⟨rfl, rfl⟩
  · obtain rfl : s = ⟨#[47]⟩ := bl_inj (h.trans (by decide))
    clear h
    go_enter Tryz.func120, Tryz.ntmps120
    go_wp2
    go_ret
    exact ⟨rfl, rfl⟩
  · obtain rfl : s = ⟨#[37]⟩ := bl_inj (h.trans (by decide))
    clear h
    go_enter Tryz.func120, Tryz.ntmps120
    go_wp2
    go_ret
    exact ⟨rfl, rfl⟩
  · obtain rfl : s = ⟨#[38]⟩ := bl_inj (h.trans (by decide))
    clear h
    go_enter Tryz.func120, Tryz.ntmps120
    go_wp2
    go_ret
    exact ⟨rfl, rfl⟩
  · obtain rfl : s = ⟨#[124]⟩ := bl_inj (h.trans (by decide))
    clear h
    go_enter Tryz.func120, Tryz.ntmps120
    go_wp2
    go_ret
    exact ⟨rfl, rfl⟩
  · obtain rfl : s = ⟨#[94]⟩ := bl_inj (h.trans (by decide))
    clear h
    go_enter Tryz.func120, Tryz.ntmps120
    go_wp2
    go_ret
    exact ⟨rfl, rfl⟩
  · obtain rfl : s = ⟨#[33]⟩ := bl_inj (h.trans (by decide))
    clear h
    go_enter Tryz.func120, Tryz.ntmps120
    go_wp2
    go_ret
    exact ⟨rfl, rfl⟩
  · obtain rfl : s = ⟨#[126]⟩ := bl_inj (h.trans (by decide))
    clear h
    go_enter Tryz.func120, Tryz.ntmps120
    go_wp2
    go_ret
    exact ⟨rfl, rfl⟩
  · obtain rfl : s = ⟨#[61, 61]⟩ := bl_inj (h.trans (by decide))
    clear h
    go_enter Tryz.func120, Tryz.ntmps120
    go_wp2
    go_ret
    exact ⟨rfl, rfl⟩
  · obtain rfl : s = ⟨#[33, 61]⟩ := bl_inj (h.trans (by decide))
    clear h
    go_enter Tryz.func120, Tryz.ntmps120
    go_wp2
    go_ret
    exact ⟨rfl, rfl⟩
  · obtain rfl : s = ⟨#[60, 61]⟩ := bl_inj (h.trans (by decide))
    clear h
    go_enter Tryz.func120, Tryz.ntmps120
    go_wp2
    go_ret
    exact ⟨rfl, rfl⟩
  · obtain rfl : s = ⟨#[60, 60]⟩ := bl_inj (h.trans (by decide))
    clear h
    go_enter Tryz.func120, Tryz.ntmps120
    go_wp2
    go_ret
    exact ⟨rfl, rfl⟩
  · obtain rfl : s = ⟨#[62, 62]⟩ := bl_inj (h.trans (by decide))
    clear h
    go_enter Tryz.func120, Tryz.ntmps120
    go_wp2
    go_ret
    exact ⟨rfl, rfl⟩
theorem isMark_any (s : ByteArray) (w : World) : Calls Tryz.prog 120 #[.string s] w fun e w' => e = .returned (.bool (decide (bl s ∈ marksL))) ∧ w = w' := by
  by_cases h : bl s ∈ marksL
  · simpa [h] using isMark_yes s h w
  · simpa [h] using isMark_no s h w
end Go.Proofs.YtnmcjkabihihiaaGreatDoor

/- Plain facts: what strconv.ParseInt's plain account says of a text of digits. -/
namespace Go.Proofs.YtnmcjkabihihiaaGreatDoor
open Go

theorem foldl_bl (l : List UInt8) (acc : Nat) : (l.map UInt8.toNat).foldl (fun n d => 10 * n + (d - 48)) acc = l.foldl (fun n c => 10 * n + (c.toNat - 48)) acc := by
  rw [List.foldl_map]
theorem foldl_ge8 (l : List UInt8) (n : Nat) : n ≤ l.foldl (fun n c => 10 * n + (c.toNat - 48)) n := by
  rw [← foldl_bl]; exact foldl_ge _ _

theorem parseM_digits : ∀ (l : List UInt8) (acc : Nat), (∀ c ∈ l, 48 ≤ c.toNat ∧ c.toNat ≤ 57) → acc ≤ 18446744073709551615 →
    Lib.parseUintM 18446744073709551615 acc l = if l.foldl (fun n c => 10 * n + (c.toNat - 48)) acc ≤ 18446744073709551615 then .ok (l.foldl (fun n c => 10 * n + (c.toNat - 48)) acc) else .range
  | [], acc, _, h => by rw [Lib.parseUintM, List.foldl_nil, if_pos h]
  | c :: r, acc, hd, h => by
    have hc := hd c (List.mem_cons_self ..)
    have hg := foldl_ge8 r (10 * acc + (c.toNat - 48))
    rw [Lib.parseUintM, if_pos hc, List.foldl_cons]
    by_cases h1 : 1844674407370955162 ≤ acc
    · rw [if_pos h1, if_neg (by omega)]
    · rw [if_neg h1]
      by_cases h2 : 18446744073709551615 < acc * 10 + (c.toNat - 48)
      · rw [if_pos h2, if_neg (by omega)]
      · rw [if_neg h2, Nat.mul_comm acc 10, parseM_digits r _ (fun x hx => hd x (List.mem_cons_of_mem _ hx)) (by omega)]

theorem parse_digits (l : List UInt8) (h0 : l ≠ []) (hd : ∀ x ∈ l.map UInt8.toNat, digitB x = true) :
    Lib.parseIntB 64 l = if valD (l.map UInt8.toNat) ≤ most then .ok (valD (l.map UInt8.toNat) : Nat) else .range := by
  have hd' : ∀ c ∈ l, 48 ≤ c.toNat ∧ c.toNat ≤ 57 := fun c hc => digit_range (hd _ (List.mem_map_of_mem hc))
  have hm := parseM_digits l 0 hd' (by omega)
  rw [← foldl_bl] at hm
  change _ = if valD (l.map UInt8.toNat) ≤ _ then Lib.NumEnd.ok (valD (l.map UInt8.toNat)) else _ at hm
  cases l with
  | nil => exact absurd rfl h0
  | cons c r =>
    have hc := hd' c (List.mem_cons_self ..)
    rw [Lib.parseIntB]
    simp only [show ¬ c.toNat = 43 by omega, show ¬ c.toNat = 45 by omega, or_false, if_false, not_false_eq_true, true_and, false_and]
    rw [Lib.parseUintB, if_neg (by simp), show (2 ^ 64 - 1 : Nat) = 18446744073709551615 by decide, hm]
    generalize valD ((c :: r).map UInt8.toNat) = V
    by_cases h1 : V ≤ 18446744073709551615
    · rw [if_pos h1]
      by_cases h2 : V ≤ most
      · simp only [if_pos h2, show ¬ 2 ^ (64 - 1) ≤ V by simp only [most] at h2; omega, if_false]
      · simp only [if_neg h2, show 2 ^ (64 - 1) ≤ V by simp only [most] at h2; omega, if_true]
    · rw [if_neg h1, if_neg (by simp only [most]; omega)]
end Go.Proofs.YtnmcjkabihihiaaGreatDoor

/-
  DERIVED: THE SHELF's CONTRACTS AT THIS DUMP, IN PLAIN WORDS (tools/lay-plain.mjs out of 'TryzShelf.lean', which tools/lay-shelf.mjs wrote): THE SAME DECLARATIONS UNDER THE SAME NAMES: 'import', 'namespace', 'open', 'def', 'theorem' AND NOTHING ELSE: no command of the shelf's: FOR A HAND-IN. Each laying: the table of numbers ('.._ren') and one theorem, a field a fact of the dump's own or the kernel's comparison; each contract: ONE APPLICATION.
-/
namespace Go.Proofs
open Go.Shelf
def Tryz.laysM316_ren : Go.Shelf.Ren := ⟨fun | 316 => 74 | n => n, fun | 9 => 9 | 3 => 3 | 4 => 4 | 37 => 53 | 0 => 0 | 127 => 153 | 5 => 5 | n => n, fun | n => n⟩
theorem Tryz.laysM316 : Go.Proofs.LaysM.n316 Tryz.prog Tryz.laysM316_ren := {
  mixed := by kernel_rfl
  f316 := Tryz.func74.trans (congrArg some (by kernel_rfl))
  t0 := Tryz.underlying0
  a0 := Tryz.isAgg0
  z0 := Tryz.sizeOf0
  v0 := Tryz.zeroValue0
  t3 := Tryz.underlying3
  a3 := Tryz.isAgg3
  z3 := Tryz.sizeOf3
  v3 := Tryz.zeroValue3
  t4 := Tryz.underlying4
  a4 := Tryz.isAgg4
  z4 := Tryz.sizeOf4
  v4 := Tryz.zeroValue4
  t9 := Tryz.underlying9
  a9 := Tryz.isAgg9
  z9 := Tryz.sizeOf9
  v9 := Tryz.zeroValue9
  t37 := Tryz.underlying53
  a37 := Tryz.isAgg53
  z37 := Tryz.sizeOf53
  v37 := Tryz.zeroValue53
  t127 := Tryz.underlying153
  a127 := Tryz.isAgg153
  z127 := Tryz.sizeOf153
  v127 := Tryz.zeroValue153
  t5 := Tryz.underlying5
  a5 := Tryz.isAgg5
  z5 := Tryz.sizeOf5
  v5 := Tryz.zeroValue5
  i0 := by kernel_rfl
  i3 := by kernel_rfl
  i4 := by kernel_rfl
  i5 := by kernel_rfl
  i9 := by kernel_rfl
  i37 := by kernel_rfl
  i127 := by kernel_rfl }
open Go.RowKit in
/-- internal/stringslite.Clone (what strings.Clone calls): "Clone returns a fresh copy of s.": THE SAME BYTES. Of what was there nothing has turned (a new row is laid, and frozen, where s is not empty). (LAID: no walk: one application.) -/
theorem Tryz.stringslite_Clone (s : ByteArray) (w : World) (hlim : s.size ≤ 281474976710656) :
    Calls Tryz.prog 74 #[.string s] w fun e w' => e = .returned (.string s) ∧ Below w.heap.size w w' := Any.stringslite_Clone Tryz.laysM316 s w hlim
def Tryz.laysC174_ren : Go.Shelf.Ren := ⟨fun | 174 => 119 | 247 => 125 | 245 => 126 | 287 => 127 | 279 => 128 | 280 => 129 | 281 => 130 | 282 => 131 | 321 => 132 | 322 => 133 | 316 => 74 | 171 => 135 | 205 => 134 | 243 => 136 | 246 => 137 | 283 => 138 | 284 => 139 | 285 => 140 | 286 => 141 | 129 => 143 | 317 => 142 | 318 => 144 | 319 => 145 | 320 => 146 | 337 => 147 | 338 => 148 | n => n, fun | 9 => 9 | 3 => 3 | 2 => 2 | 75 => 170 | 85 => 171 | 4 => 4 | 167 => 177 | 5 => 5 | 53 => 36 | 175 => 178 | 46 => 113 | 168 => 180 | 37 => 53 | 0 => 0 | 210 => 185 | 21 => 21 | 127 => 153 | 145 => 189 | 143 => 187 | 171 => 191 | 173 => 194 | 212 => 197 | 51 => 132 | 20 => 20 | 213 => 198 | 232 => 201 | 233 => 202 | 80 => 122 | n => n, fun | 15 => 0 | 16 => 1 | 17 => 2 | 18 => 3 | 19 => 4 | n => n⟩
theorem Tryz.laysC174 : Go.Proofs.LaysC.n174 Tryz.prog Tryz.laysC174_ren := {
  mixed := by kernel_rfl
  f129 := Tryz.func143.trans (congrArg some (by kernel_rfl))
  f171 := Tryz.func135.trans (congrArg some (by kernel_rfl))
  f174 := Tryz.func119.trans (congrArg some (by kernel_rfl))
  f205 := Tryz.func134.trans (congrArg some (by kernel_rfl))
  f243 := Tryz.func136.trans (congrArg some (by kernel_rfl))
  f245 := Tryz.func126.trans (congrArg some (by kernel_rfl))
  f246 := Tryz.func137.trans (congrArg some (by kernel_rfl))
  f247 := Tryz.func125.trans (congrArg some (by kernel_rfl))
  f279 := Tryz.func128.trans (congrArg some (by kernel_rfl))
  f280 := Tryz.func129.trans (congrArg some (by kernel_rfl))
  f281 := Tryz.func130.trans (congrArg some (by kernel_rfl))
  f282 := Tryz.func131.trans (congrArg some (by kernel_rfl))
  f283 := Tryz.func138.trans (congrArg some (by kernel_rfl))
  f284 := Tryz.func139.trans (congrArg some (by kernel_rfl))
  f285 := Tryz.func140.trans (congrArg some (by kernel_rfl))
  f286 := Tryz.func141.trans (congrArg some (by kernel_rfl))
  f287 := Tryz.func127.trans (congrArg some (by kernel_rfl))
  f316 := Tryz.func74.trans (congrArg some (by kernel_rfl))
  f317 := Tryz.func142.trans (congrArg some (by kernel_rfl))
  f318 := Tryz.func144.trans (congrArg some (by kernel_rfl))
  f319 := Tryz.func145.trans (congrArg some (by kernel_rfl))
  f320 := Tryz.func146.trans (congrArg some (by kernel_rfl))
  f321 := Tryz.func132.trans (congrArg some (by kernel_rfl))
  f322 := Tryz.func133.trans (congrArg some (by kernel_rfl))
  f337 := Tryz.func147.trans (congrArg some (by kernel_rfl))
  f338 := Tryz.func148.trans (congrArg some (by kernel_rfl))
  t0 := Tryz.underlying0
  a0 := Tryz.isAgg0
  z0 := Tryz.sizeOf0
  v0 := Tryz.zeroValue0
  t2 := Tryz.underlying2
  a2 := Tryz.isAgg2
  z2 := Tryz.sizeOf2
  v2 := Tryz.zeroValue2
  t3 := Tryz.underlying3
  a3 := Tryz.isAgg3
  z3 := Tryz.sizeOf3
  v3 := Tryz.zeroValue3
  t4 := Tryz.underlying4
  a4 := Tryz.isAgg4
  z4 := Tryz.sizeOf4
  v4 := Tryz.zeroValue4
  t5 := Tryz.underlying5
  a5 := Tryz.isAgg5
  z5 := Tryz.sizeOf5
  v5 := Tryz.zeroValue5
  t9 := Tryz.underlying9
  a9 := Tryz.isAgg9
  z9 := Tryz.sizeOf9
  v9 := Tryz.zeroValue9
  t20 := Tryz.underlying20
  a20 := Tryz.isAgg20
  z20 := Tryz.sizeOf20
  v20 := Tryz.zeroValue20
  t21 := Tryz.underlying21
  a21 := Tryz.isAgg21
  z21 := Tryz.sizeOf21
  v21 := Tryz.zeroValue21
  t37 := Tryz.underlying53
  a37 := Tryz.isAgg53
  z37 := Tryz.sizeOf53
  v37 := Tryz.zeroValue53
  t46 := Tryz.underlying113
  a46 := Tryz.isAgg113
  z46 := Tryz.sizeOf113
  v46 := Tryz.zeroValue113
  t51 := Tryz.underlying132
  a51 := Tryz.isAgg132
  z51 := Tryz.sizeOf132
  v51 := Tryz.zeroValue132
  t53 := Tryz.underlying36
  a53 := Tryz.isAgg36
  z53 := Tryz.sizeOf36
  v53 := Tryz.zeroValue36
  t75 := Tryz.underlying170
  a75 := Tryz.isAgg170
  z75 := Tryz.sizeOf170
  v75 := Tryz.zeroValue170
  t85 := Tryz.underlying171
  a85 := Tryz.isAgg171
  z85 := Tryz.sizeOf171
  v85 := Tryz.zeroValue171
  t127 := Tryz.underlying153
  a127 := Tryz.isAgg153
  z127 := Tryz.sizeOf153
  v127 := Tryz.zeroValue153
  t143 := Tryz.underlying187
  a143 := Tryz.isAgg187
  z143 := Tryz.sizeOf187
  v143 := Tryz.zeroValue187
  t145 := Tryz.underlying189
  a145 := Tryz.isAgg189
  z145 := Tryz.sizeOf189
  v145 := Tryz.zeroValue189
  t167 := Tryz.underlying177
  a167 := Tryz.isAgg177
  z167 := Tryz.sizeOf177
  v167 := Tryz.zeroValue177
  t168 := Tryz.underlying180
  a168 := Tryz.isAgg180
  z168 := Tryz.sizeOf180
  v168 := Tryz.zeroValue180
  t171 := Tryz.underlying191
  a171 := Tryz.isAgg191
  z171 := Tryz.sizeOf191
  v171 := Tryz.zeroValue191
  t173 := Tryz.underlying194
  a173 := Tryz.isAgg194
  z173 := Tryz.sizeOf194
  v173 := Tryz.zeroValue194
  t175 := Tryz.underlying178
  a175 := Tryz.isAgg178
  z175 := Tryz.sizeOf178
  v175 := Tryz.zeroValue178
  t210 := Tryz.underlying185
  a210 := Tryz.isAgg185
  z210 := Tryz.sizeOf185
  v210 := Tryz.zeroValue185
  t212 := Tryz.underlying197
  a212 := Tryz.isAgg197
  z212 := Tryz.sizeOf197
  v212 := Tryz.zeroValue197
  t213 := Tryz.underlying198
  a213 := Tryz.isAgg198
  z213 := Tryz.sizeOf198
  t232 := Tryz.underlying201
  a232 := Tryz.isAgg201
  z232 := Tryz.sizeOf201
  v232 := Tryz.zeroValue201
  t233 := Tryz.underlying202
  a233 := Tryz.isAgg202
  z233 := Tryz.sizeOf202
  v233 := Tryz.zeroValue202
  g15 := by kernel_rfl
  g16 := by kernel_rfl
  g17 := by kernel_rfl
  g18 := by kernel_rfl
  g19 := by kernel_rfl
  t80 := Tryz.underlying122
  a80 := Tryz.isAgg122
  z80 := Tryz.sizeOf122
  v80 := Tryz.zeroValue122
  i0 := by kernel_rfl
  i2 := by kernel_rfl
  i3 := by kernel_rfl
  i4 := by kernel_rfl
  i5 := by kernel_rfl
  i9 := by kernel_rfl
  i20 := by kernel_rfl
  i21 := by kernel_rfl
  i37 := by kernel_rfl
  i46 := by kernel_rfl
  i51 := by kernel_rfl
  i53 := by kernel_rfl
  i75 := by kernel_rfl
  i80 := by kernel_rfl
  i85 := by kernel_rfl
  i127 := by kernel_rfl
  i143 := by kernel_rfl
  i145 := by kernel_rfl
  i167 := by kernel_rfl
  i168 := by kernel_rfl
  i171 := by kernel_rfl
  i173 := by kernel_rfl
  i175 := by kernel_rfl
  i210 := by kernel_rfl
  i212 := by kernel_rfl
  i232 := by kernel_rfl
  i233 := by kernel_rfl
  m15 := by kernel_rfl
  m16 := by kernel_rfl
  m17 := by kernel_rfl
  m18 := by kernel_rfl
  m19 := by kernel_rfl
  c0 := by kernel_rfl
  c2 := by kernel_rfl
  c3 := by kernel_rfl
  c4 := by kernel_rfl
  c5 := by kernel_rfl
  c9 := by kernel_rfl
  c20 := by kernel_rfl
  c21 := by kernel_rfl
  c37 := by kernel_rfl
  c46 := by kernel_rfl
  c51 := by kernel_rfl
  c53 := by kernel_rfl
  c75 := by kernel_rfl
  c80 := by kernel_rfl
  c85 := by kernel_rfl
  c127 := by kernel_rfl
  c143 := by kernel_rfl
  c145 := by kernel_rfl
  c167 := by kernel_rfl
  c168 := by kernel_rfl
  c171 := by kernel_rfl
  c173 := by kernel_rfl
  c175 := by kernel_rfl
  c210 := by kernel_rfl
  c212 := by kernel_rfl
  c213 := by kernel_rfl
  c232 := by kernel_rfl
  c233 := by kernel_rfl }
open Go.RowKit in
/-- strconv.ParseInt(s, 10, 64), AT EVERY STRING THAT SPELLS AN int64 ('Lib.parseIntB 64 s.data.toList = .ok v'): v, AND NO ERROR. (LAID: no walk: one application.) -/
theorem Tryz.strconv_ParseInt_10_at64_ok (s : ByteArray) (hmax : s.size ≤ 9223372036854775806) (v : Int) (h : Lib.parseIntB 64 s.data.toList = .ok v) (w : World) :
    Calls Tryz.prog 119 #[.string s, .int .i64 10, .int .i64 64] w fun e w' => e = .returned (.tuple #[.int .i64 v, .nilIface]) ∧ (w' = w ∨ ∃ t, w' = Lib.bytesWorld w 5 t) := Any.strconv_ParseInt_10_at64_ok Tryz.laysC174 s hmax v h w
open Go.RowKit in
/-- strconv.ParseInt(s, 10, 64), AT EVERY NUMERAL THAT NO int64 HOLDS: THE GREATEST OR THE LEAST int64, BY THE SIGN ('Lib.intSat 64'), AND AN ERROR THAT IS NOT nil: a *NumError in a new block N: {Func: "ParseInt", Num: s's bytes, Err: what the variable ErrRange holds}. Of what was there nothing has turned. (LAID: no walk: one application.) -/
theorem Tryz.strconv_ParseInt_10_at64_range (s : ByteArray) (hlim : s.size ≤ 281474976710656) (h : Lib.parseIntB 64 s.data.toList = .range) (ev : Value) (w : World) (hv : w.cell? ⟨1, 0, none⟩ = some ev) (hev : ev = .nilIface ∨ ∃ te pe, ev = .iface te pe) :
    Calls Tryz.prog 119 #[.string s, .int .i64 10, .int .i64 64] w fun e w' => ∃ N, e = .returned (.tuple #[.int .i64 (Lib.intSat 64 s.data.toList), .iface 180 (.pointer (some ⟨N, 0, none⟩))]) ∧ w.heap.size ≤ N ∧ w'.heap[N]? = some (.cells #[.string ⟨#[80, 97, 114, 115, 101, 73, 110, 116]⟩, .string s, ev] 185 (0, 0)) ∧ Below w.heap.size w w' := Any.strconv_ParseInt_10_at64_range Tryz.laysC174 s hlim h ev w hv hev
end Go.Proofs

/- Contracts of name, number and mark of package lex: for every text and every memory in which the library's error lies. -/
namespace Go.Proofs.YtnmcjkabihihiaaGreatDoor
open Go Go.RowKit

/-- The library's ErrRange. -/
def Env (w : World) : Prop := ∃ te pe, w.cell? ⟨1, 0, none⟩ = some (.iface te pe)
theorem Env.lt {w : World} (h : Env w) : 1 < w.heap.size := by
  obtain ⟨te, pe, h⟩ := h
  exact World.block_lt_of_cell? _ _ h
theorem Env.below {B : Nat} {w w' : World} (h : Env w) (hb : Below B w w') (hB : 1 < B) : Env w' := by
  obtain ⟨te, pe, h⟩ := h
  exact ⟨te, pe, (hb.cell (p := ⟨1, 0, none⟩) hB).trans h⟩

/-- A token as a value. -/
abbrev tokV (k : Int) (t : ByteArray) (v a : Int) : Value := .agg #[.int .i64 k, .string t, .int .i64 v, .int .i64 a]

set_option maxRecDepth 100000 in
theorem name_key (s : ByteArray) (h : bl s ∈ keysL) (w : World) : Calls Tryz.prog 98 #[.string s] w fun e w' => e = .returned (.tuple #[tokV 2 s 0 0, .int .i64 0]) ∧ Below w.heap.size w w' := by
  go_enter Tryz.func98, Tryz.ntmps98
  go_wp2_with (go_at_call 118; refine (isKeyword_yes s h _).mono ?_; rintro e w' ⟨rfl, rfl⟩)
  exact bodyPost_ret (v := .tuple #[tokV 2 s 0 0, .int .i64 0]) (by simp [results, Tryz.results98, go_sem]) rfl ⟨rfl, by first | exact ((Below.refl _ _).alloc (Nat.le_refl _) _)⟩
set_option maxRecDepth 100000 in
theorem name_long (s : ByteArray) (h : bl s ∉ keysL) (hl : 32 < s.size) (w : World) : Calls Tryz.prog 98 #[.string s] w fun e w' => e = .returned (.tuple #[tokV 0 ⟨#[]⟩ 0 0, .int .i64 3]) ∧ Below w.heap.size w w' := by
  go_enter Tryz.func98, Tryz.ntmps98
  go_wp2_with (go_at_call 118; refine (isKeyword_no s h _).mono ?_; rintro e w' ⟨rfl, rfl⟩)
  exact bodyPost_ret (v := .tuple #[tokV 0 ⟨#[]⟩ 0 0, .int .i64 3]) (by simp [results, Tryz.results98, go_sem]) rfl ⟨rfl, (Below.refl _ _).alloc (Nat.le_refl _) _⟩

set_option maxRecDepth 100000 in
theorem name_ok (s : ByteArray) (h : bl s ∉ keysL) (hl : s.size ≤ 32) (w : World) : Calls Tryz.prog 98 #[.string s] w fun e w' => e = .returned (.tuple #[tokV 1 s 0 0, .int .i64 0]) ∧ Below w.heap.size w w' := by
  go_enter Tryz.func98, Tryz.ntmps98
  go_wp2_with (go_at_call 118; refine (isKeyword_no s h _).mono ?_; rintro e w' ⟨rfl, rfl⟩)
  exact bodyPost_ret (v := .tuple #[tokV 1 s 0 0, .int .i64 0]) (by simp [results, Tryz.results98, go_sem]) rfl ⟨rfl, (Below.refl _ _).alloc (Nat.le_refl _) _⟩

theorem parse_ok (s : ByteArray) (h0 : 0 < s.size) (hd : ∀ x ∈ bl s, digitB x = true) (hs : s.size ≤ 281474976710656) (hv : valD (bl s) ≤ most) (w : World) :
    Calls Tryz.prog 119 #[.string s, .int .i64 10, .int .i64 64] w fun e w' => e = .returned (.tuple #[.int .i64 ((valD (bl s) : Nat) : Int), .nilIface]) ∧ Below w.heap.size w w' := by
  have hne : s.data.toList ≠ [] := by
    intro e
    rw [← bl_length, bl, e] at h0
    exact absurd h0 (by simp)
  have hp := parse_digits s.data.toList hne hd
  change _ = if valD (bl s) ≤ most then Lib.NumEnd.ok ((valD (bl s) : Nat) : Int) else _ at hp
  rw [if_pos hv] at hp
  refine (Tryz.strconv_ParseInt_10_at64_ok s (by omega) _ hp w).mono ?_
  rintro e w' ⟨rfl, rfl | ⟨t, rfl⟩⟩
  · exact ⟨rfl, Below.refl _ _⟩
  · exact ⟨rfl, Lib.bytesWorld_below _ _ _⟩
theorem parse_big (s : ByteArray) (h0 : 0 < s.size) (hd : ∀ x ∈ bl s, digitB x = true) (hs : s.size ≤ 281474976710656) (hv : most < valD (bl s)) (w : World) (hE : Env w) :
    Calls Tryz.prog 119 #[.string s, .int .i64 10, .int .i64 64] w fun e w' => ∃ z N, e = .returned (.tuple #[.int .i64 z, .iface 180 (.pointer (some ⟨N, 0, none⟩))]) ∧ Below w.heap.size w w' := by
  have hne : s.data.toList ≠ [] := by
    intro e
    rw [← bl_length, bl, e] at h0
    exact absurd h0 (by simp)
  have hp := parse_digits s.data.toList hne hd
  change _ = if valD (bl s) ≤ most then Lib.NumEnd.ok ((valD (bl s) : Nat) : Int) else _ at hp
  rw [if_neg (by omega)] at hp
  obtain ⟨te, pe, hE⟩ := hE
  refine (Tryz.strconv_ParseInt_10_at64_range s hs hp _ w hE (.inr ⟨te, pe, rfl⟩)).mono ?_
  rintro e w' ⟨N, rfl, _, _, hb⟩
  exact ⟨_, N, rfl, hb⟩

/-- A block of one token's four cells, none frozen. -/
structure TokAt (w : World) (g : Nat) (k : Int) (t : ByteArray) (v a : Int) : Prop where
  c0 : w.cell? ⟨g, 0, none⟩ = some (.int .i64 k)
  c1 : w.cell? ⟨g, 1, none⟩ = some (.string t)
  c2 : w.cell? ⟨g, 2, none⟩ = some (.int .i64 v)
  c3 : w.cell? ⟨g, 3, none⟩ = some (.int .i64 a)
  f0 : w.frozen? ⟨g, 0, none⟩ = false
  f1 : w.frozen? ⟨g, 1, none⟩ = false
  f2 : w.frozen? ⟨g, 2, none⟩ = false
  f3 : w.frozen? ⟨g, 3, none⟩ = false
theorem TokAt.new (w : World) (k : Int) (t : ByteArray) (v a : Int) (T : TypeId) : TokAt (w.alloc (.cells #[.int .i64 k, .string t, .int .i64 v, .int .i64 a] T)) w.heap.size k t v a :=
  ⟨by simp [go_sem], by simp [go_sem], by simp [go_sem], by simp [go_sem], by simp [go_sem], by simp [go_sem], by simp [go_sem], by simp [go_sem]⟩
theorem TokAt.below {w w' : World} {B g : Nat} {k : Int} {t : ByteArray} {v a : Int} (h : TokAt w g k t v a) (hb : Below B w w') (hg : g < B) : TokAt w' g k t v a :=
  ⟨(hb.cell (p := ⟨g, 0, none⟩) hg).trans h.c0, (hb.cell (p := ⟨g, 1, none⟩) hg).trans h.c1, (hb.cell (p := ⟨g, 2, none⟩) hg).trans h.c2, (hb.cell (p := ⟨g, 3, none⟩) hg).trans h.c3,
   (hb.frozen (p := ⟨g, 0, none⟩) hg).trans h.f0, (hb.frozen (p := ⟨g, 1, none⟩) hg).trans h.f1, (hb.frozen (p := ⟨g, 2, none⟩) hg).trans h.f2, (hb.frozen (p := ⟨g, 3, none⟩) hg).trans h.f3⟩
theorem TokAt.lt {w : World} {g : Nat} {k : Int} {t : ByteArray} {v a : Int} (h : TokAt w g k t v a) : g < w.heap.size := World.block_lt_of_cell? _ _ h.c0
theorem set4 {w w1 : World} (hB : Below w.heap.size w w1) {g : Nat} (hg : w.heap.size ≤ g) (x0 x1 x2 x3 : Value) :
    Below w.heap.size w ((((w1.setCell ⟨g, 0, none⟩ x0).setCell ⟨g, 1, none⟩ x1).setCell ⟨g, 2, none⟩ x2).setCell ⟨g, 3, none⟩ x3) :=
  (((hB.setCell (p := ⟨g, 0, none⟩) hg _).setCell (p := ⟨g, 1, none⟩) hg _).setCell (p := ⟨g, 2, none⟩) hg _).setCell (p := ⟨g, 3, none⟩) hg _

set_option maxRecDepth 100000 in
theorem number_ok (s : ByteArray) (h0 : 0 < s.size) (hd : ∀ x ∈ bl s, digitB x = true) (hs : s.size ≤ 281474976710656) (hv : valD (bl s) ≤ most) (w : World) :
    Calls Tryz.prog 101 #[.string s] w fun e w' => e = .returned (.tuple #[tokV 3 s ((valD (bl s) : Nat) : Int) 0, .int .i64 0]) ∧ Below w.heap.size w w' := by
  have hcall := Lib.hid (fun W => parse_ok s h0 hd hs hv W)
  clear h0 hd hs hv
  generalize valD (bl s) = V at *
  go_enter Tryz.func101, Tryz.ntmps101
  go_wp2_with (go_at_call 119; refine (hcall.out _).mono ?_)
  rintro e w1 ⟨rfl, hb⟩
  have s1 := hb.size
  simp only [World.size_alloc] at s1
  obtain ⟨k0, k1, k2, k3, f0, f1, f2, f3⟩ := (TokAt.new w 0 ⟨#[]⟩ 0 0 55).below hb (by simp)
  have hB : Below w.heap.size w w1 := ((Below.refl _ w).alloc (Nat.le_refl _) _).trans (hb.mono (by simp))
  go_wp2
  exact bodyPost_ret (v := .tuple #[tokV 3 s (V : Int) 0, .int .i64 0]) (by simp [results, Tryz.results101, go_sem, k0, k1, k2, k3]) rfl ⟨rfl, set4 hB (Nat.le_refl _) _ _ _ _⟩

set_option maxRecDepth 100000 in
theorem number_big (s : ByteArray) (h0 : 0 < s.size) (hd : ∀ x ∈ bl s, digitB x = true) (hs : s.size ≤ 281474976710656) (hv : most < valD (bl s)) (w : World) (hE : Env w) :
    Calls Tryz.prog 101 #[.string s] w fun e w' => e = .returned (.tuple #[tokV 0 ⟨#[]⟩ 0 0, .int .i64 3]) ∧ Below w.heap.size w w' := by
  have hlt := hE.lt
  have hcall := Lib.hid (parse_big s h0 hd hs hv _ (hE.below ((Below.refl _ w).alloc (Nat.le_refl _) (.cells #[.int .i64 0, .string ⟨#[]⟩, .int .i64 0, .int .i64 0] 55)) hlt))
  clear h0 hd hs hv
  go_enter Tryz.func101, Tryz.ntmps101
  go_wp2_with (go_at_call 119; refine (hcall.out).mono ?_)
  rintro e w1 ⟨z, N, rfl, hb⟩
  have s1 := hb.size
  simp only [World.size_alloc] at s1
  obtain ⟨k0, k1, k2, k3, f0, f1, f2, f3⟩ := (TokAt.new w 0 ⟨#[]⟩ 0 0 55).below hb (by simp)
  have hB : Below w.heap.size w w1 := ((Below.refl _ w).alloc (Nat.le_refl _) _).trans (hb.mono (by simp))
  go_wp2
  exact bodyPost_ret (v := .tuple #[tokV 0 ⟨#[]⟩ 0 0, .int .i64 3]) (by simp [results, Tryz.results101, go_sem, k0, k1, k2, k3]) rfl ⟨rfl, set4 hB (Nat.le_refl _) _ _ _ _⟩

set_option maxRecDepth 100000 in
theorem mark_two (s : ByteArray) (h2 : 2 ≤ s.size) (hs : s.size ≤ 9223372036854775806) (h : bl (s.extract 0 2) ∈ marksL) (w : World) :
    Calls Tryz.prog 102 #[.string s] w fun e w' => e = .returned (.tuple #[tokV 4 (s.extract 0 2) 0 0, .int .i64 0]) ∧ Below w.heap.size w w' := by
  have hcall := Lib.hid (fun W => isMark_yes (s.extract 0 2) h W)
  have hm : min (2 : Int) (s.size : Int) = 2 := by omega
  clear h
  go_enter Tryz.func102, Tryz.ntmps102
  go_wp2
  go_loop [4] (fun i => i = .int .i64 2) (fun i => (intOf i).toNat)
  case atStart => rfl
  case round =>
    obtain rfl := hrel
    go_wp2_with (go_at_call 120; refine (hcall.out _).mono ?_; rintro e w' ⟨rfl, rfl⟩)
    exact bodyPost_ret (v := .tuple #[tokV 4 (s.extract 0 2) 0 0, .int .i64 0]) (by simp [results, Tryz.results102, go_sem]) rfl ⟨rfl, (Below.refl _ _).alloc (Nat.le_refl _) _⟩

set_option maxRecDepth 100000 in
theorem mark_one (s : ByteArray) (h1 : 1 ≤ s.size) (hs : s.size ≤ 9223372036854775806) (h : bl (s.extract 0 1) ∈ marksL) (hn : 2 ≤ s.size → bl (s.extract 0 2) ∉ marksL) (w : World) :
    Calls Tryz.prog 102 #[.string s] w fun e w' => e = .returned (.tuple #[tokV 4 (s.extract 0 1) 0 0, .int .i64 0]) ∧ Below w.heap.size w w' := by
  have hcall := Lib.hid (fun W => isMark_yes (s.extract 0 1) h W)
  have hcall2 := Lib.hid (fun (h2 : 2 ≤ s.size) W => isMark_no (s.extract 0 2) (hn h2) W)
  have hm : (∃ k : Nat, 1 ≤ k ∧ k ≤ 2 ∧ k ≤ s.size ∧ min (2 : Int) (s.size : Int) = k) := by
    by_cases h2 : 2 ≤ s.size
    · exact ⟨2, by omega, by omega, by omega, by omega⟩
    · exact ⟨1, by omega, by omega, by omega, by omega⟩
  obtain ⟨k0, hk1, hk2, hk3, hm⟩ := hm
  clear h hn
  go_enter Tryz.func102, Tryz.ntmps102
  go_wp2
  go_loop [4] (fun i => ∃ k : Nat, 1 ≤ k ∧ k ≤ 2 ∧ k ≤ s.size ∧ i = .int .i64 k) (fun i => (intOf i).toNat)
  case atStart => exact ⟨k0, hk1, hk2, hk3, rfl⟩
  case round =>
    clear hm hk1 hk2 hk3
    obtain ⟨k, hk1, hk2, hk3, rfl⟩ := hrel
    by_cases h2 : k = 2
    · subst h2
      have hc := hcall2.out hk3
      go_wp2_with (go_at_call 120; refine (hc _).mono ?_; rintro e w' ⟨rfl, rfl⟩)
      go_round
      case rel => exact ⟨1, by omega, by omega, by omega, by go_num⟩
      case measure => simp [intOf]
    · obtain rfl : k = 1 := by omega
      go_wp2_with (go_at_call 120; refine (hcall.out _).mono ?_; rintro e w' ⟨rfl, rfl⟩)
      exact bodyPost_ret (v := .tuple #[tokV 4 (s.extract 0 1) 0 0, .int .i64 0]) (by simp [results, Tryz.results102, go_sem]) rfl ⟨rfl, (Below.refl _ _).alloc (Nat.le_refl _) _⟩

set_option maxRecDepth 100000 in
theorem mark_no (s : ByteArray) (h1 : 1 ≤ s.size) (hs : s.size ≤ 9223372036854775806) (h : bl (s.extract 0 1) ∉ marksL) (hn : 2 ≤ s.size → bl (s.extract 0 2) ∉ marksL) (w : World) :
    Calls Tryz.prog 102 #[.string s] w fun e w' => e = .returned (.tuple #[tokV 0 ⟨#[]⟩ 0 0, .int .i64 40]) ∧ Below w.heap.size w w' := by
  have hcall := Lib.hid (fun W => isMark_no (s.extract 0 1) h W)
  have hcall2 := Lib.hid (fun (h2 : 2 ≤ s.size) W => isMark_no (s.extract 0 2) (hn h2) W)
  have hm : (∃ k : Nat, k ≤ 2 ∧ k ≤ s.size ∧ min (2 : Int) (s.size : Int) = k) := by
    by_cases h2 : 2 ≤ s.size
    · exact ⟨2, by omega, by omega, by omega⟩
    · exact ⟨1, by omega, by omega, by omega⟩
  obtain ⟨k0, hk2, hk3, hm⟩ := hm
  clear h hn
  go_enter Tryz.func102, Tryz.ntmps102
  go_wp2
  go_loop [4] (fun i => ∃ k : Nat, k ≤ 2 ∧ k ≤ s.size ∧ i = .int .i64 k) (fun i => (intOf i).toNat)
  case atStart => exact ⟨k0, hk2, hk3, rfl⟩
  case round =>
    clear hm hk2 hk3
    obtain ⟨k, hk2, hk3, rfl⟩ := hrel
    by_cases h2 : k = 2
    · subst h2
      have hc := hcall2.out hk3
      go_wp2_with (go_at_call 120; refine (hc _).mono ?_; rintro e w' ⟨rfl, rfl⟩)
      go_round
      case rel => exact ⟨1, by omega, by omega, by go_num⟩
      case measure => simp [intOf]
    by_cases h1' : k = 1
    · subst h1'
      go_wp2_with (go_at_call 120; refine (hcall.out _).mono ?_; rintro e w' ⟨rfl, rfl⟩)
      go_round
      case rel => exact ⟨0, by omega, by omega, by go_num⟩
      case measure => simp [intOf]
    · obtain rfl : k = 0 := by omega
      go_wp2
      exact bodyPost_ret (v := .tuple #[tokV 0 ⟨#[]⟩ 0 0, .int .i64 40]) (by simp [results, Tryz.results102, go_sem]) rfl ⟨rfl, (Below.refl _ _).alloc (Nat.le_refl _) _⟩
end Go.Proofs.YtnmcjkabihihiaaGreatDoor

/- The contract of first of package lex: for every text that is not empty and every memory in which the library's error lies. -/
namespace Go.Proofs.YtnmcjkabihihiaaGreatDoor
open Go Go.RowKit

/-- What a call that answers a token and an error comes to. -/
def TokRes (W : World) (k : Int) (t : ByteArray) (v er : Int) (e : Ending) (W' : World) : Prop := e = .returned (.tuple #[tokV k t v 0, .int .i64 er]) ∧ Below W.heap.size W W'

theorem below_box {w w1 : World} {o : Obj} (hb : Below (w.alloc o).heap.size (w.alloc o) w1) : Below w.heap.size w w1 :=
  ((Below.refl _ w).alloc (Nat.le_refl _) o).trans (hb.mono (by simp))

set_option maxRecDepth 100000 in
theorem first_letter (s : ByteArray) (h0 : 0 < s.size) (hs : s.size ≤ 9223372036854775806) (hl : letterB (s[0]).toNat = true) (k : Int) (t : ByteArray) (v er : Int) (n : Nat) (hn : ((bl s).takeWhile nameB).length = n)
    (hcall : ∀ W, Env W → Calls Tryz.prog 98 #[.string (s.extract 0 n)] W (TokRes W k t v er)) (w : World) (hE : Env w) : Calls Tryz.prog 76 #[.string s] w (TokRes w k t v er) := by
  have hlt := hE.lt
  have hn2 : n ≤ s.size := by rw [← hn, ← bl_length]; exact (List.takeWhile_sublist _).length_le
  have hl1 := Lib.hid (fun W => hl ▸ isLetter_any (s[0]).toNat W)
  have hr := Lib.hid (fun W => hn ▸ run_name s hs W)
  have hc := Lib.hid (hcall _ (hE.below ((Below.refl _ w).alloc (Nat.le_refl _) (.cells #[.int .i64 0, .string ⟨#[]⟩, .int .i64 0, .int .i64 0] 55)) hlt))
  clear hl hcall hn
  go_enter Tryz.func76, Tryz.ntmps76
  go_wp2_with (first | (go_at_call 97; refine (hl1.out _).mono ?_; rintro e w' ⟨rfl, rfl⟩) | (go_at_call 94; refine (hr.out _).mono ?_; rintro e w' ⟨rfl, rfl⟩) | (go_at_call 98; refine hc.out.mono ?_))
  rintro e w1 ⟨rfl, hb⟩
  have s1 := hb.size
  simp only [World.size_alloc] at s1
  obtain ⟨k0, k1, k2, k3, f0, f1, f2, f3⟩ := (TokAt.new w 0 ⟨#[]⟩ 0 0 55).below hb (by simp)
  have hB := below_box hb
  clear hb
  go_wp2
  exact bodyPost_ret (v := .tuple #[tokV k t v 0, .int .i64 er]) (by simp [results, Tryz.results76, go_sem, k0, k1, k2, k3]) rfl ⟨rfl, set4 hB (Nat.le_refl _) _ _ _ _⟩

set_option maxRecDepth 100000 in
theorem first_digit (s : ByteArray) (h0 : 0 < s.size) (hs : s.size ≤ 9223372036854775806) (hl : letterB (s[0]).toNat = false) (hd : digitB (s[0]).toNat = true) (k : Int) (t : ByteArray) (v er : Int) (n : Nat) (hn : ((bl s).takeWhile digitB).length = n)
    (hcall : ∀ W, Env W → Calls Tryz.prog 101 #[.string (s.extract 0 n)] W (TokRes W k t v er)) (w : World) (hE : Env w) : Calls Tryz.prog 76 #[.string s] w (TokRes w k t v er) := by
  have hlt := hE.lt
  have hn2 : n ≤ s.size := by rw [← hn, ← bl_length]; exact (List.takeWhile_sublist _).length_le
  have hl1 := Lib.hid (fun W => hl ▸ isLetter_any (s[0]).toNat W)
  have hd1 := Lib.hid (fun W => hd ▸ isDigit_any (s[0]).toNat W)
  have hr := Lib.hid (fun W => hn ▸ run_digit s hs W)
  have hc := Lib.hid (hcall _ (hE.below ((Below.refl _ w).alloc (Nat.le_refl _) (.cells #[.int .i64 0, .string ⟨#[]⟩, .int .i64 0, .int .i64 0] 55)) hlt))
  clear hl hd hcall hn
  go_enter Tryz.func76, Tryz.ntmps76
  go_wp2_with (first | (go_at_call 97; refine (hl1.out _).mono ?_; rintro e w' ⟨rfl, rfl⟩) | (go_at_call 100; refine (hd1.out _).mono ?_; rintro e w' ⟨rfl, rfl⟩) | (go_at_call 94; refine (hr.out _).mono ?_; rintro e w' ⟨rfl, rfl⟩) | (go_at_call 101; refine hc.out.mono ?_))
  rintro e w1 ⟨rfl, hb⟩
  have s1 := hb.size
  simp only [World.size_alloc] at s1
  obtain ⟨k0, k1, k2, k3, f0, f1, f2, f3⟩ := (TokAt.new w 0 ⟨#[]⟩ 0 0 55).below hb (by simp)
  have hB := below_box hb
  clear hb
  go_wp2
  exact bodyPost_ret (v := .tuple #[tokV k t v 0, .int .i64 er]) (by simp [results, Tryz.results76, go_sem, k0, k1, k2, k3]) rfl ⟨rfl, set4 hB (Nat.le_refl _) _ _ _ _⟩

set_option maxRecDepth 100000 in
theorem first_mark (s : ByteArray) (h0 : 0 < s.size) (hl : letterB (s[0]).toNat = false) (hd : digitB (s[0]).toNat = false) (k : Int) (t : ByteArray) (v er : Int)
    (hcall : ∀ W, Calls Tryz.prog 102 #[.string s] W (TokRes W k t v er)) (w : World) : Calls Tryz.prog 76 #[.string s] w (TokRes w k t v er) := by
  have hl1 := Lib.hid (fun W => hl ▸ isLetter_any (s[0]).toNat W)
  have hd1 := Lib.hid (fun W => hd ▸ isDigit_any (s[0]).toNat W)
  have hc := Lib.hid (hcall)
  clear hl hd hcall
  go_enter Tryz.func76, Tryz.ntmps76
  go_wp2_with (first | (go_at_call 97; refine (hl1.out _).mono ?_; rintro e w' ⟨rfl, rfl⟩) | (go_at_call 100; refine (hd1.out _).mono ?_; rintro e w' ⟨rfl, rfl⟩) | (go_at_call 102; refine (hc.out _).mono ?_))
  rintro e w1 ⟨rfl, hb⟩
  have s1 := hb.size
  simp only [World.size_alloc] at s1
  obtain ⟨k0, k1, k2, k3, f0, f1, f2, f3⟩ := (TokAt.new w 0 ⟨#[]⟩ 0 0 55).below hb (by simp)
  have hB := below_box hb
  clear hb
  go_wp2
  exact bodyPost_ret (v := .tuple #[tokV k t v 0, .int .i64 er]) (by simp [results, Tryz.results76, go_sem, k0, k1, k2, k3]) rfl ⟨rfl, set4 hB (Nat.le_refl _) _ _ _ _⟩

theorem bl_take (s : ByteArray) (n : Nat) : bl (s.extract 0 n) = (bl s).take n := by rw [bl_extract, List.drop_zero]
theorem size_take (s : ByteArray) (n : Nat) (h : n ≤ s.size) : (s.extract 0 n).size = n := by rw [← bl_length, bl_take, List.length_take, bl_length]; omega

theorem wordL_letter {c : Nat} {r : List Nat} (h : letterB c = true) : wordL (c :: r) = (((c :: r).takeWhile nameB).length, if (c :: r).take ((c :: r).takeWhile nameB).length ∈ keysL then 2 else 1) := by rw [wordL, if_pos h]
theorem wordL_digit {c : Nat} {r : List Nat} (hl : letterB c = false) (h : digitB c = true) : wordL (c :: r) = (((c :: r).takeWhile digitB).length, 3) := by rw [wordL, if_neg (by rw [hl]; simp), if_pos h]
theorem wordL_mark {c : Nat} {r : List Nat} (hl : letterB c = false) (h : digitB c = false) : wordL (c :: r) = if (c :: r).take 2 ∈ mark2 then (2, 4) else if c ∈ mark1 then (1, 4) else (0, 0) := by rw [wordL, if_neg (by rw [hl]; simp), if_neg (by rw [h]; simp)]
theorem take2_mark {l : List Nat} (h : 2 ≤ l.length) : l.take 2 ∈ marksL ↔ l.take 2 ∈ mark2 := by
  match l, h with
  | a :: b :: r, _ =>
    simp only [marksL, List.mem_append, List.take_succ_cons, List.take_zero]
    constructor
    · rintro (h | h)
      · simp [mark1] at h
      · exact h
    · exact .inr
theorem take1_mark (c : Nat) : [c] ∈ marksL ↔ c ∈ mark1 := by
  simp [marksL, mark1, mark2]
theorem not_mark2 {l : List Nat} (h : l.length < 2) : l.take 2 ∉ mark2 := by
  intro hm
  have : (l.take 2).length = 2 := (show ∀ m ∈ mark2, m.length = 2 by decide) _ hm
  rw [List.length_take] at this
  omega

theorem first_ok (s : ByteArray) (h0 : 0 < s.size) (hs : s.size ≤ 281474976710656) (h : errL (bl s) = 0) (w : World) (hE : Env w) :
    Calls Tryz.prog 76 #[.string s] w (TokRes w ((wordL (bl s)).2 : Nat) (s.extract 0 (wordL (bl s)).1) ((valL (bl s) : Nat) : Int) 0) := by
  have hg := bl_get s 0 h0
  have hle := wordL_le (bl s)
  rw [bl_length] at hle
  have hbt := bl_take s (wordL (bl s)).1
  have hst := size_take s (wordL (bl s)).1 hle
  have h1 := bl_take s 1
  have h2 := bl_take s 2
  have hlen := bl_length s
  obtain ⟨c, hc⟩ : ∃ c, (s[0]).toNat = c := ⟨_, rfl⟩
  rw [hc] at hg
  obtain ⟨r, hr⟩ : ∃ r, bl s = c :: r := by
    cases hb : bl s with
    | nil => rw [hb] at hg; simp at hg
    | cons d r => rw [hb] at hg; simp at hg; exact ⟨r, by rw [hg]⟩
  have hw0 : (wordL (bl s)).1 ≠ 0 := by
    intro e; rw [errL, if_pos e] at h; exact absurd h (by decide)
  rw [errL, if_neg hw0] at h
  have hn1 : ¬ ((wordL (bl s)).2 = 1 ∧ 32 < (wordL (bl s)).1) := by
    intro e; rw [if_pos e] at h; exact absurd h (by decide)
  rw [if_neg hn1] at h
  have hn2 : ¬ ((wordL (bl s)).2 = 3 ∧ most < valD ((bl s).take (wordL (bl s)).1)) := by
    intro e; rw [if_pos e] at h; exact absurd h (by decide)
  clear h
  by_cases hl : letterB c = true
  · have hw : wordL (bl s) = (((bl s).takeWhile nameB).length, if (bl s).take ((bl s).takeWhile nameB).length ∈ keysL then 2 else 1) := by rw [hr]; exact wordL_letter hl
    have hn : ((bl s).takeWhile nameB).length = (wordL (bl s)).1 := by rw [hw]
    refine first_letter s h0 (by omega) (by rw [hc]; exact hl) _ _ _ _ (wordL (bl s)).1 hn (fun W _ => ?_) w hE
    by_cases hk : (bl s).take ((bl s).takeWhile nameB).length ∈ keysL
    · have e2 : (wordL (bl s)).2 = 2 := by rw [hw]; exact if_pos hk
      have hv : valL (bl s) = 0 := by rw [valL, e2]; rfl
      rw [e2, hv]
      exact name_key _ (by rw [hbt, ← hn]; exact hk) W
    · have e2 : (wordL (bl s)).2 = 1 := by rw [hw]; exact if_neg hk
      have hv : valL (bl s) = 0 := by rw [valL, e2]; rfl
      rw [e2, hv]
      exact name_ok _ (by rw [hbt, ← hn]; exact hk) (by rw [hst]; rw [e2] at hn1; omega) W
  · have hl : letterB c = false := by simpa using hl
    by_cases hd : digitB c = true
    · have hw : wordL (bl s) = (((bl s).takeWhile digitB).length, 3) := by rw [hr]; exact wordL_digit hl hd
      have hn : ((bl s).takeWhile digitB).length = (wordL (bl s)).1 := by rw [hw]
      have e2 : (wordL (bl s)).2 = 3 := by rw [hw]
      have hv : valL (bl s) = valD (bl (s.extract 0 (wordL (bl s)).1)) := by rw [valL, e2, hbt]; rfl
      refine first_digit s h0 (by omega) (by rw [hc]; exact hl) (by rw [hc]; exact hd) _ _ _ _ (wordL (bl s)).1 hn (fun W _ => ?_) w hE
      rw [e2, hv]
      refine number_ok _ (by rw [hst]; omega) (fun x hx => ?_) (by rw [hst]; omega) ?_ W
      · rw [hbt, ← hn, takeWhile_is_take] at hx
        exact mem_takeWhile _ x hx
      · rw [hbt]; rw [e2] at hn2; omega
    · have hd : digitB c = false := by simpa using hd
      have hw : wordL (bl s) = if (bl s).take 2 ∈ mark2 then (2, 4) else if c ∈ mark1 then (1, 4) else (0, 0) := by
        have := wordL_mark (r := r) hl hd
        rw [← hr] at this; exact this
      refine first_mark s h0 (by rw [hc]; exact hl) (by rw [hc]; exact hd) _ _ _ _ (fun W => ?_) w
      have ht1 : (bl s).take 1 = [c] := by rw [hr]; rfl
      by_cases hm2 : (bl s).take 2 ∈ mark2
      · have hsz : 2 ≤ s.size := by
          rw [← hlen]
          rcases Nat.lt_or_ge (bl s).length 2 with hh | hh
          · exact absurd hm2 (not_mark2 hh)
          · exact hh
        rw [if_pos hm2] at hw
        have hv : valL (bl s) = 0 := by rw [valL, hw]; rfl
        rw [hv, hw]
        exact mark_two s hsz (by omega) (by rw [h2]; exact (take2_mark (by rw [hlen]; exact hsz)).2 hm2) W
      · rw [if_neg hm2] at hw
        by_cases hm1 : c ∈ mark1
        · rw [if_pos hm1] at hw
          have hv : valL (bl s) = 0 := by rw [valL, hw]; rfl
          rw [hv, hw]
          exact mark_one s h0 (by omega) (by rw [h1, ht1]; exact (take1_mark c).2 hm1) (fun hsz => by rw [h2]; exact fun hh => hm2 ((take2_mark (by rw [hlen]; exact hsz)).1 hh)) W
        · rw [if_neg hm1] at hw
          exact absurd (by rw [hw]) hw0

theorem first_bad (s : ByteArray) (h0 : 0 < s.size) (hs : s.size ≤ 281474976710656) (h : errL (bl s) ≠ 0) (w : World) (hE : Env w) :
    Calls Tryz.prog 76 #[.string s] w (TokRes w 0 ⟨#[]⟩ 0 ((errL (bl s) : Nat) : Int)) := by
  have hg := bl_get s 0 h0
  have hle := wordL_le (bl s)
  rw [bl_length] at hle
  have hbt := bl_take s (wordL (bl s)).1
  have hst := size_take s (wordL (bl s)).1 hle
  have h1 := bl_take s 1
  have h2 := bl_take s 2
  have hlen := bl_length s
  obtain ⟨c, hc⟩ : ∃ c, (s[0]).toNat = c := ⟨_, rfl⟩
  rw [hc] at hg
  obtain ⟨r, hr⟩ : ∃ r, bl s = c :: r := by
    cases hb : bl s with
    | nil => rw [hb] at hg; simp at hg
    | cons d r => rw [hb] at hg; simp at hg; exact ⟨r, by rw [hg]⟩
  by_cases hl : letterB c = true
  · have hw : wordL (bl s) = (((bl s).takeWhile nameB).length, if (bl s).take ((bl s).takeWhile nameB).length ∈ keysL then 2 else 1) := by rw [hr]; exact wordL_letter hl
    have hn : ((bl s).takeWhile nameB).length = (wordL (bl s)).1 := by rw [hw]
    have hnm : nameB c = true := by unfold nameB; rw [hl]; rfl
    have hn0 : (wordL (bl s)).1 ≠ 0 := by rw [← hn, hr, List.takeWhile_cons, if_pos hnm]; simp
    refine first_letter s h0 (by omega) (by rw [hc]; exact hl) _ _ _ _ (wordL (bl s)).1 hn (fun W _ => ?_) w hE
    by_cases hk : (bl s).take ((bl s).takeWhile nameB).length ∈ keysL
    · have e2 : (wordL (bl s)).2 = 2 := by rw [hw]; exact if_pos hk
      exact absurd (by rw [errL, if_neg hn0, e2]; simp) h
    · have e2 : (wordL (bl s)).2 = 1 := by rw [hw]; exact if_neg hk
      by_cases h32 : 32 < (wordL (bl s)).1
      · have he : errL (bl s) = 3 := by rw [errL, if_neg hn0, if_pos ⟨e2, h32⟩]
        rw [he]
        exact name_long _ (by rw [hbt, ← hn]; exact hk) (by rw [hst]; exact h32) W
      · exact absurd (by rw [errL, if_neg hn0, e2, if_neg (by omega), if_neg (by simp)]) h
  · have hl : letterB c = false := by simpa using hl
    by_cases hd : digitB c = true
    · have hw : wordL (bl s) = (((bl s).takeWhile digitB).length, 3) := by rw [hr]; exact wordL_digit hl hd
      have hn : ((bl s).takeWhile digitB).length = (wordL (bl s)).1 := by rw [hw]
      have e2 : (wordL (bl s)).2 = 3 := by rw [hw]
      have hn0 : (wordL (bl s)).1 ≠ 0 := by rw [← hn, hr, List.takeWhile_cons, if_pos hd]; simp
      refine first_digit s h0 (by omega) (by rw [hc]; exact hl) (by rw [hc]; exact hd) _ _ _ _ (wordL (bl s)).1 hn (fun W hEW => ?_) w hE
      by_cases hm : most < valD ((bl s).take (wordL (bl s)).1)
      · have he : errL (bl s) = 3 := by rw [errL, if_neg hn0, if_neg (by rw [e2]; omega), if_pos ⟨e2, hm⟩]
        rw [he]
        refine number_big _ (by rw [hst]; omega) (fun x hx => ?_) (by rw [hst]; omega) (by rw [hbt]; exact hm) W hEW
        rw [hbt, ← hn, takeWhile_is_take] at hx
        exact mem_takeWhile _ x hx
      · exact absurd (by rw [errL, if_neg hn0, if_neg (by rw [e2]; omega), if_neg (fun x => hm x.2)]) h
    · have hd : digitB c = false := by simpa using hd
      have hw : wordL (bl s) = if (bl s).take 2 ∈ mark2 then (2, 4) else if c ∈ mark1 then (1, 4) else (0, 0) := by
        have := wordL_mark (r := r) hl hd
        rw [← hr] at this; exact this
      refine first_mark s h0 (by rw [hc]; exact hl) (by rw [hc]; exact hd) _ _ _ _ (fun W => ?_) w
      have ht1 : (bl s).take 1 = [c] := by rw [hr]; rfl
      by_cases hm2 : (bl s).take 2 ∈ mark2
      · rw [if_pos hm2] at hw
        exact absurd (by rw [errL, hw]; simp) h
      · rw [if_neg hm2] at hw
        by_cases hm1 : c ∈ mark1
        · rw [if_pos hm1] at hw
          exact absurd (by rw [errL, hw]; simp) h
        · rw [if_neg hm1] at hw
          have he : errL (bl s) = 40 := by rw [errL, hw, if_pos rfl]
          rw [he]
          exact mark_no s h0 (by omega) (by rw [h1, ht1]; exact fun hh => hm1 ((take1_mark c).1 hh)) (fun hsz => by rw [h2]; exact fun hh => hm2 ((take2_mark (by rw [hlen]; exact hsz)).1 hh)) W
end Go.Proofs.YtnmcjkabihihiaaGreatDoor

/- A sequence of words: what it tells, what its rounds keep; package lex's walk. -/
namespace Go.Proofs.YtnmcjkabihihiaaGreatDoor
open Go Go.RowKit

/-- What is told in one round: a token and an error. -/
structure It where
  k : Nat
  t : ByteArray
  v : Nat
  a : Nat
  e : Nat
def It.key (x : It) : Tok × Nat := (⟨x.k, bl x.t, x.v, x.a⟩, x.e)
def It.enc (x : It) : Array Value := #[tokV x.k x.t x.v x.a, .int .i64 (x.e : Int)]

/-- The block to which the slice in a variable's cell leads. -/
def pt (B5 : Nat) (W : World) : Option Nat := match W.cell? ⟨B5, 0, none⟩ with
  | some (.slice (some a) _ _) => some a.block
  | _ => none

/-- What a round that goes on keeps: all below n₀; each block of cells from n₁ on but that to which the variable's slice leads; the slice leads where it led, or to a new block. -/
structure Keep (n₀ n₁ B5 : Nat) (W W' : World) : Prop where
  below : Below n₀ W W'
  kept : ∀ k o, W.heap[k]? = some o → o.isCells = true → n₁ ≤ k → pt B5 W ≠ some k → W'.heap[k]? = some o
  leads : pt B5 W' = pt B5 W ∨ ∃ g, pt B5 W' = some g ∧ W.heap.size ≤ g ∧ g < W'.heap.size

theorem heap_lt {w : World} {b : Nat} {o : Obj} (h : w.heap[b]? = some o) : b < w.heap.size := (Array.getElem?_eq_some_iff.1 h).1

theorem Keep.trans {n₀ n₁ B5 : Nat} {A B C : World} (h : Keep n₀ n₁ B5 A B) (k : Keep n₀ n₁ B5 B C) : Keep n₀ n₁ B5 A C := by
  refine ⟨h.below.trans k.below, fun j o ho hc hj hp => ?_, ?_⟩
  · have h1 := h.kept j o ho hc hj hp
    refine k.kept j o h1 hc hj ?_
    rcases h.leads with e | ⟨g, e, hg, _⟩
    · rw [e]; exact hp
    · rw [e]
      intro e'
      obtain rfl : g = j := by injection e'
      exact absurd (heap_lt ho) (by omega)
  · rcases k.leads with e | ⟨g, e, hg, hl⟩
    · rcases h.leads with e1 | ⟨g, e1, hg, hl⟩
      · exact .inl (e.trans e1)
      · exact .inr ⟨g, e.trans e1, hg, Nat.lt_of_lt_of_le hl k.below.size⟩
    · exact .inr ⟨g, e, Nat.le_trans h.below.size hg, hl⟩
theorem pt_of_cell {B5 : Nat} {W W' : World} (h : W'.cell? ⟨B5, 0, none⟩ = W.cell? ⟨B5, 0, none⟩) : pt B5 W' = pt B5 W := by
  unfold pt; rw [h]
theorem keep_b {n₀ n₁ B5 : Nat} {w : World} (hn : n₀ ≤ w.heap.size) (hB : B5 < w.heap.size) (W : World) (l : Nat) (o o' : Obj) (hl : w.heap.size ≤ l) (h : W.heap[l]? = some o) (hc : o.isCells = false) (hw : o.isWalk = false) : Keep n₀ n₁ B5 W (W.putObj l o') := by
  refine ⟨belowK_b hn W l o o' hl h hc hw, fun k o2 hk hc2 _ _ => ?_, .inl (pt_of_cell ?_)⟩
  · rw [World.putObj_heap_other (by intro e; subst e; rw [h] at hk; cases hk; rw [hc] at hc2; cases hc2)]
    exact hk
  · exact World.cell?_of_block (a := ⟨B5, 0, none⟩) (World.putObj_heap_other (by show B5 ≠ l; omega))

/-- The variable's slice leads to a block that is there. -/
def PtOk (B5 : Nat) (W : World) : Prop := ∀ g, pt B5 W = some g → g < W.heap.size
theorem PtOk.keep {n₀ n₁ B5 : Nat} {W W' : World} (h : PtOk B5 W) (hk : Keep n₀ n₁ B5 W W') : PtOk B5 W' := by
  intro g hg
  rcases hk.leads with e | ⟨g', e, _, hl⟩
  · rw [e] at hg; exact Nat.lt_of_lt_of_le (h g hg) hk.below.size
  · rw [e] at hg; obtain rfl : g' = g := by injection hg
    exact hl
theorem pt_grow {B5 : Nat} {W W' : World} (hB : B5 < W.heap.size) (hb : Below W.heap.size W W') : pt B5 W' = pt B5 W := pt_of_cell (hb.cell (p := ⟨B5, 0, none⟩) hB)
theorem PtOk.grow {B5 : Nat} {W W' : World} (h : PtOk B5 W) (hB : B5 < W.heap.size) (hb : Below W.heap.size W W') : PtOk B5 W' := by
  intro g hg
  rw [pt_grow hB hb] at hg
  exact Nat.lt_of_lt_of_le (h g hg) hb.size
theorem grown_of_below {W W' : World} (hb : Below W.heap.size W W') : W.grownBy W' none := by
  obtain ⟨h1, h2, h3, h4, h5⟩ := hb
  exact ⟨h1, h2, h3, h4, fun k hk _ => h5 k hk⟩

/-- Where the walk stands at a place of the text: what has been told and what is still to be told make all. -/
structure WSt (S0 n₀ n₁ B5 : Nat) (s : ByteArray) (J : List It → World → Prop) (a : Nat) (pre : List It) (W : World) : Prop where
  items : pre.map It.key ++ itemsOf (scanL ((bl s).drop a) a) = itemsOf (scanL (bl s) 0)
  at_ : a ≤ s.size
  inv : J pre W
  env : Env W
  ptok : PtOk B5 W
  b5 : B5 < W.heap.size
  n0 : n₀ ≤ W.heap.size
  n1 : n₁ ≤ W.heap.size
  s0 : S0 ≤ W.heap.size
theorem WSt.grow {S0 n₀ n₁ B5 : Nat} {s : ByteArray} {J : List It → World → Prop} {a : Nat} {pre : List It} {W W' : World} (h : WSt S0 n₀ n₁ B5 s J a pre W) (hJ : AbidesFrom S0 J) (hb : Below W.heap.size W W') : WSt S0 n₀ n₁ B5 s J a pre W' :=
  ⟨h.items, h.at_, hJ pre W W' none h.inv (grown_of_below hb) (fun r e => by cases e), h.env.below hb h.env.lt, h.ptok.grow h.b5 hb, Nat.lt_of_lt_of_le h.b5 hb.size, Nat.le_trans h.n0 hb.size, Nat.le_trans h.n1 hb.size, Nat.le_trans h.s0 hb.size⟩
theorem WSt.keep {S0 n₀ n₁ B5 : Nat} {s : ByteArray} {J : List It → World → Prop} {a a' : Nat} {pre : List It} {x : It} {W W' : World} (h : WSt S0 n₀ n₁ B5 s J a pre W) (hn : 1 < n₀) (hk : Keep n₀ n₁ B5 W W') (hJ : J (pre ++ [x]) W')
    (hi : itemsOf (scanL ((bl s).drop a) a) = x.key :: itemsOf (scanL ((bl s).drop a') a')) (ha : a' ≤ s.size) : WSt S0 n₀ n₁ B5 s J a' (pre ++ [x]) W' :=
  ⟨by rw [← h.items, hi, List.map_append, List.append_assoc]; rfl, ha, hJ, h.env.below hk.below hn, h.ptok.keep hk, Nat.lt_of_lt_of_le h.b5 hk.below.size, Nat.le_trans h.n0 hk.below.size, Nat.le_trans h.n1 hk.below.size, Nat.le_trans h.s0 hk.below.size⟩
/-- A token that the walk has laid lies on through a round. -/
theorem tok_kept {n₀ n₁ B5 : Nat} {W W3 : World} {k : Int} {t : ByteArray} {v a : Int} (hp : PtOk B5 W) (hB : B5 < W.heap.size) (h1 : n₁ ≤ W.heap.size)
    (hk : Keep n₀ n₁ B5 (W.alloc (.cells #[.int .i64 k, .string t, .int .i64 v, .int .i64 a] 55)) W3) : TokAt W3 W.heap.size k t v a := by
  have hb : Below W.heap.size W (W.alloc (.cells #[.int .i64 k, .string t, .int .i64 v, .int .i64 a] 55)) := (Below.refl _ _).alloc (Nat.le_refl _) _
  have h3 := hk.kept W.heap.size _ (World.alloc_heap_new W _) rfl h1 (by
    rw [pt_grow hB hb]
    intro e
    exact absurd (hp _ e) (Nat.lt_irrefl _))
  have hn := TokAt.new W k t v a 55
  have hh := World.alloc_heap_new W (.cells #[.int .i64 k, .string t, .int .i64 v, .int .i64 a] 55)
  have hc : ∀ j, W3.cell? ⟨W.heap.size, j, none⟩ = (W.alloc (.cells #[.int .i64 k, .string t, .int .i64 v, .int .i64 a] 55)).cell? ⟨W.heap.size, j, none⟩ := fun j => World.cell?_of_block (h3.trans hh.symm)
  have hf : ∀ j, W3.frozen? ⟨W.heap.size, j, none⟩ = (W.alloc (.cells #[.int .i64 k, .string t, .int .i64 v, .int .i64 a] 55)).frozen? ⟨W.heap.size, j, none⟩ := fun j => World.frozen?_of_block (h3.trans hh.symm)
  exact ⟨(hc 0).trans hn.c0, (hc 1).trans hn.c1, (hc 2).trans hn.c2, (hc 3).trans hn.c3, (hf 0).trans hn.f0, (hf 1).trans hn.f1, (hf 2).trans hn.f2, (hf 3).trans hn.f3⟩
theorem bl_rest (s : ByteArray) (k : Nat) : bl (s.extract k s.size) = (bl s).drop k := by
  rw [bl_extract, List.take_of_length_le (by rw [bl_length]; exact Nat.le_refl _)]
theorem gap_le (l : List Nat) : gapL l ≤ l.length := by
  unfold gapL
  split
  · exact (List.takeWhile_sublist _).length_le
  · exact (List.takeWhile_sublist _).length_le
theorem WSt.gap {S0 n₀ n₁ B5 : Nat} {s : ByteArray} {J : List It → World → Prop} {k : Nat} {pre : List It} {W : World} (h : WSt S0 n₀ n₁ B5 s J k pre W) : WSt S0 n₀ n₁ B5 s J (k + gapL ((bl s).drop k)) pre W := by
  have hg := gap_le ((bl s).drop k)
  rw [List.length_drop, bl_length] at hg
  refine ⟨?_, by have := h.at_; omega, h.inv, h.env, h.ptok, h.b5, h.n0, h.n1, h.s0⟩
  have := h.items
  rw [items_gap, List.drop_drop] at this
  exact this
/-- The token at a place. -/
def itAt (s : ByteArray) (k : Nat) : It := ⟨(wordL ((bl s).drop k)).2, (s.extract k s.size).extract 0 (wordL ((bl s).drop k)).1, valL ((bl s).drop k), k, 0⟩
theorem at_word {s : ByteArray} {k : Nat} (hk : k < s.size) (hg : gapL ((bl s).drop k) = 0) (he : errL ((bl s).drop k) = 0) :
    itemsOf (scanL ((bl s).drop k) k) = (itAt s k).key :: itemsOf (scanL ((bl s).drop (k + (wordL ((bl s).drop k)).1)) (k + (wordL ((bl s).drop k)).1)) ∧ k + (wordL ((bl s).drop k)).1 ≤ s.size ∧ 0 < (wordL ((bl s).drop k)).1 ∧ (itAt s k).t.size = (wordL ((bl s).drop k)).1 := by
  have hw := errL_word he
  have hle := wordL_le ((bl s).drop k)
  rw [List.length_drop, bl_length] at hle
  have hst : (itAt s k).t.size = (wordL ((bl s).drop k)).1 := size_take _ _ (by simp; omega)
  refine ⟨?_, by omega, by omega, hst⟩
  have hbt : bl (itAt s k).t = ((bl s).drop k).take (wordL ((bl s).drop k)).1 := by
    show bl ((s.extract k s.size).extract 0 _) = _
    rw [bl_take, bl_rest]
  have hkey : (itAt s k).key = (⟨(wordL ((bl s).drop k)).2, ((bl s).drop k).take (wordL ((bl s).drop k)).1, valL ((bl s).drop k), k⟩, 0) := by
    unfold It.key; rw [hbt]; rfl
  rw [hkey, ← List.drop_drop]
  clear hkey hbt hst hle hw
  cases hd : (bl s).drop k with
  | nil =>
    have := congrArg List.length hd
    rw [List.length_drop, bl_length] at this
    simp at this; omega
  | cons c r =>
    rw [hd] at hg he
    obtain ⟨h1, h2⟩ := no_gap hg
    exact items_word k h1 h2 he
theorem at_err {s : ByteArray} {k : Nat} (hk : k < s.size) (hg : gapL ((bl s).drop k) = 0) (he : errL ((bl s).drop k) ≠ 0) :
    itemsOf (scanL ((bl s).drop k) k) = [(⟨0, ⟨#[]⟩, 0, k, errL ((bl s).drop k)⟩ : It).key] := by
  cases hd : (bl s).drop k with
  | nil =>
    have := congrArg List.length hd
    rw [List.length_drop, bl_length] at this
    simp at this; omega
  | cons c r =>
    rw [hd] at hg he
    obtain ⟨h1, h2⟩ := no_gap hg
    exact items_err k h1 h2 he
theorem at_end {s : ByteArray} {k : Nat} (hk : s.size ≤ k) : itemsOf (scanL ((bl s).drop k) k) = [] := by
  rw [List.drop_of_length_le (by rw [bl_length]; exact hk)]
  exact items_nil k
theorem len_lt {pre : List It} {x : It} {l r : List (Tok × Nat)} (h : pre.map It.key ++ l = r) (hl : ∃ q, l = x.key :: q) : pre.length < r.length := by
  obtain ⟨q, rfl⟩ := hl
  have := congrArg List.length h
  rw [List.length_append, List.length_map, List.length_cons] at this
  omega
theorem pre_of {pre : List It} {x : It} {l r : List (Tok × Nat)} (h : pre.map It.key ++ l = r) (hl : ∃ q, l = x.key :: q) : (pre ++ [x]).map It.key <+: r := by
  obtain ⟨q, rfl⟩ := hl
  exact ⟨q, by rw [← h, List.map_append, List.append_assoc]; rfl⟩
theorem yield_any {P : Program} {l : Nat} {args : Array Value} {W : World} {R : Ending → World → Prop} {m : Nat} (m' : Nat) (h : YieldAt Fence.wide m P l args W R) : YieldAt Fence.wide m' P l args W R := by
  obtain ⟨fn, tmps, assign, body, hy, h1, h2⟩ := h
  exact ⟨fn, tmps, assign, body, hy, h1, fun c cs _ => h2 c cs (room_wide _)⟩
end Go.Proofs.YtnmcjkabihihiaaGreatDoor
