/- Plain facts on a text's words: all of them, ahead of the first fault; each is good by itself; their texts with blanks between have the same words. (No seat's own names: to be renamed to the seat that needs it.) -/
import Derived.Test.YtnmcjkabihihiaaDoorM
namespace Go.Proofs.YtnmcjkabihihiaaDoor

structure Tok where
  kind : Nat
  text : List Nat
  value : Nat
  at_ : Nat
deriving DecidableEq

/-- What digits come to. -/
def valD (l : List Nat) : Nat := l.foldl (fun n d => 10 * n + (d - 48)) 0
abbrev most : Nat := 9223372036854775807

/-- Not of a comment any more. -/
def inC (c : Nat) : Bool := c != 10

theorem drop_lt (c : Nat) (r : List Nat) (n : Nat) (h : n ≠ 0) : ((c :: r).drop n).length < (c :: r).length := by
  rw [List.length_drop, List.length_cons]; omega
theorem dropWhile_lt (r : List Nat) : ((35 :: r).dropWhile inC).length < (35 :: r).length := by
  rw [List.dropWhile_cons, if_pos (by decide)]
  have := (List.dropWhile_sublist inC (l := r)).length_le
  rw [List.length_cons]; omega

/-- The words ahead of the first fault, the place of the fault or the end, the error. -/
def scanL (l : List Nat) (a : Nat) : List Tok × Nat × Nat :=
  match l with
  | [] => ([], a, 0)
  | c :: r =>
    if blankB c then scanL r (a + 1)
    else if _h35 : c = 35 then scanL ((c :: r).dropWhile inC) (a + ((c :: r).takeWhile inC).length)
    else if _h0 : (wordL (c :: r)).1 = 0 then ([], a, 40)
    else if (wordL (c :: r)).2 = 1 ∧ 32 < (wordL (c :: r)).1 then ([], a, 3)
    else if (wordL (c :: r)).2 = 3 ∧ most < valD ((c :: r).take (wordL (c :: r)).1) then ([], a, 3)
    else
      (⟨(wordL (c :: r)).2, (c :: r).take (wordL (c :: r)).1, if (wordL (c :: r)).2 = 3 then valD ((c :: r).take (wordL (c :: r)).1) else 0, a⟩ :: (scanL ((c :: r).drop (wordL (c :: r)).1) (a + (wordL (c :: r)).1)).1,
        (scanL ((c :: r).drop (wordL (c :: r)).1) (a + (wordL (c :: r)).1)).2)
termination_by l.length
decreasing_by
  · simp
  · subst _h35; exact dropWhile_lt r
  · exact drop_lt c r _ _h0

theorem scanL_blank {c : Nat} (r : List Nat) (a : Nat) (h : blankB c = true) : scanL (c :: r) a = scanL r (a + 1) := by rw [scanL, if_pos h]

/-- A word that is one by itself. -/
structure Good (k : Nat) (t : List Nat) (v : Nat) : Prop where
  word : wordL t = (t.length, k)
  ne : t ≠ []
  head : ∀ c, t.head? = some c → blankB c = false ∧ c ≠ 35
  name : ¬ (k = 1 ∧ 32 < t.length)
  num : ¬ (k = 3 ∧ most < valD t)
  val : v = if k = 3 then valD t else 0

/-- A good word at a text's head, a blank or nothing behind it. -/
theorem scanL_good {k v : Nat} {t : List Nat} (h : Good k t v) (r : List Nat) (hr : r = [] ∨ ∃ r', r = 32 :: r') (a : Nat) :
    scanL (t ++ r) a = (⟨k, t, v, a⟩ :: (scanL r (a + t.length)).1, (scanL r (a + t.length)).2) := by
  obtain ⟨hw, hs, hh, hn, hu, hv⟩ := h
  have hag : wordL (t ++ r) = (t.length, k) := by
    have := wordL_again t (by rw [hw]; exact fun e => hs (List.eq_nil_of_length_eq_zero e)) r hr
    rw [hw] at this
    simpa using this
  cases t with
  | nil => exact absurd rfl hs
  | cons c t =>
    obtain ⟨h1, h2⟩ := hh c rfl
    have htk : ((c :: t) ++ r).take (c :: t).length = c :: t := List.take_left
    have hdr : ((c :: t) ++ r).drop (c :: t).length = r := List.drop_left
    rw [List.cons_append] at hag htk hdr ⊢
    rw [scanL, if_neg (by rw [h1]; simp), dif_neg h2, hag, dif_neg (by simp), if_neg hn]
    simp only
    rw [htk, if_neg hu, hdr, hv]

theorem good_of {s : List Nat} (hs : (wordL s).1 ≠ 0) (hh : ∀ c, s.head? = some c → blankB c = false ∧ c ≠ 35) (hn : ¬ ((wordL s).2 = 1 ∧ 32 < (wordL s).1)) (hu : ¬ ((wordL s).2 = 3 ∧ most < valD (s.take (wordL s).1))) :
    Good (wordL s).2 (s.take (wordL s).1) (if (wordL s).2 = 3 then valD (s.take (wordL s).1) else 0) := by
  have hle := wordL_le s
  have hlen : (s.take (wordL s).1).length = (wordL s).1 := by rw [List.length_take]; omega
  have hag := wordL_again s hs [] (.inl rfl)
  rw [List.append_nil] at hag
  refine ⟨by rw [hag, hlen], fun e => hs (by rw [← hlen, e]; rfl), fun c hc => ?_, by rw [hlen]; exact hn, hu, rfl⟩
  cases s with
  | nil => simp at hc
  | cons d s =>
    obtain ⟨n, hn'⟩ : ∃ n, (wordL (d :: s)).1 = n + 1 := ⟨(wordL (d :: s)).1 - 1, by omega⟩
    rw [hn', List.take_succ_cons] at hc
    obtain rfl : d = c := by simpa using hc
    exact hh d rfl

/-- All words of a text are good. -/
theorem scanL_all : ∀ (N : Nat) (l : List Nat), l.length ≤ N → ∀ a, ∀ t ∈ (scanL l a).1, Good t.kind t.text t.value
  | _, [], _, a, t, ht => by rw [scanL] at ht; exact absurd ht (by simp)
  | 0, c :: r, h, _, _, _ => absurd h (by simp)
  | N + 1, c :: r, h, a, t, ht => by
    have hr : r.length ≤ N := by simpa using h
    rw [scanL] at ht
    split at ht
    · exact scanL_all N r hr _ t ht
    · rename_i hb
      split at ht
      · rename_i h35
        subst h35
        exact scanL_all N _ (by have := dropWhile_lt r; rw [List.length_cons] at this; omega) _ t ht
      · rename_i h35
        split at ht
        · exact absurd ht (by simp)
        · rename_i h0
          split at ht
          · exact absurd ht (by simp)
          · rename_i hn
            split at ht
            · exact absurd ht (by simp)
            · rename_i hu
              rcases List.mem_cons.1 ht with rfl | ht
              · refine good_of h0 (fun d hd => ?_) hn hu
                obtain rfl : c = d := by simpa using hd
                exact ⟨by simpa using hb, h35⟩
              · exact scanL_all N _ (by have := drop_lt c r _ h0; rw [List.length_cons] at this; omega) _ t ht

/-- Texts with one blank between each two. -/
def joinL : List (List Nat) → List Nat
  | [] => []
  | [t] => t
  | t :: u :: l => t ++ 32 :: joinL (u :: l)

/-- The joined texts of good words have the same words, at other places, and no fault. -/
theorem scanL_join : ∀ (l : List Tok), (∀ t ∈ l, Good t.kind t.text t.value) → ∀ a, (scanL (joinL (l.map Tok.text)) a).2.2 = 0 ∧ (scanL (joinL (l.map Tok.text)) a).1.map (fun t => (t.kind, t.text, t.value)) = l.map (fun t => (t.kind, t.text, t.value))
  | [], _, a => by simp [joinL, scanL]
  | [t], h, a => by
    have hg := h t (List.mem_cons_self ..)
    have := scanL_good hg [] (.inl rfl) a
    rw [List.append_nil] at this
    show (scanL t.text a).2.2 = 0 ∧ _
    rw [this]
    constructor
    · rw [scanL]
    · show ((scanL t.text a).1).map _ = _
      rw [this]
      simp [scanL]
  | t :: u :: l, h, a => by
    have hg := h t (List.mem_cons_self ..)
    obtain ⟨i1, i2⟩ := scanL_join (u :: l) (fun x hx => h x (List.mem_cons_of_mem _ hx)) (a + t.text.length + 1)
    have := scanL_good hg (32 :: joinL ((u :: l).map Tok.text)) (.inr ⟨_, rfl⟩) a
    rw [scanL_blank _ _ (by decide)] at this
    show (scanL (t.text ++ 32 :: joinL ((u :: l).map Tok.text)) a).2.2 = 0 ∧ ((scanL (t.text ++ 32 :: joinL ((u :: l).map Tok.text)) a).1).map _ = _
    rw [this]
    exact ⟨i1, by rw [List.map_cons, i2]; rfl⟩

/-- A good word is the only word of itself. -/
theorem scanL_one {k v : Nat} {t : List Nat} (h : Good k t v) (a : Nat) : scanL t a = ([⟨k, t, v, a⟩], a + t.length, 0) := by
  have := scanL_good h [] (.inl rfl) a
  rw [List.append_nil] at this
  rw [this, scanL]
end Go.Proofs.YtnmcjkabihihiaaDoor
