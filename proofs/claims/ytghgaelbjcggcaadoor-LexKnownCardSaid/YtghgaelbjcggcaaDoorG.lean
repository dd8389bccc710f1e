/- Plain facts on a text's words: where they stand, and that blanks and comments stand between them. (No seat's own names: to be renamed to the seat that needs it.) -/
import Derived.Test.YtghgaelbjcggcaaDoorS
namespace Go.Proofs.YtghgaelbjcggcaaDoor

/-- Within a comment behind this byte? -/
def inB (i : Bool) (c : Nat) : Bool := if c = 10 then false else if c = 35 then true else i
/-- Blanks and comments alone, from the beginning or from within a comment. -/
def betweenB : Bool → List Nat → Bool
  | _, [] => true
  | i, c :: l => (inB i c || blankB c) && betweenB (inB i c) l
def endB : Bool → List Nat → Bool
  | i, [] => i
  | i, c :: l => endB (inB i c) l

theorem betweenB_append : ∀ (i : Bool) (p q : List Nat), betweenB i (p ++ q) = (betweenB i p && betweenB (endB i p) q)
  | _, [], q => by simp [betweenB, endB]
  | i, c :: p, q => by
    rw [List.cons_append, betweenB, betweenB_append (inB i c) p q, betweenB, endB, Bool.and_assoc]
theorem endB_append : ∀ (i : Bool) (p q : List Nat), endB i (p ++ q) = endB (endB i p) q
  | _, [], q => rfl
  | i, c :: p, q => by rw [List.cons_append, endB, endB_append (inB i c) p q, endB]

theorem blank_not35 {c : Nat} (h : blankB c = true) : c ≠ 35 := by
  intro e; subst e; exact absurd h (by decide)
theorem blank_in {c : Nat} (h : blankB c = true) : inB false c = false := by
  unfold inB
  split
  · rfl
  · rw [if_neg (blank_not35 h)]
theorem comment_in : ∀ p : List Nat, (∀ x ∈ p, inC x = true) → betweenB true p = true ∧ endB true p = true
  | [], _ => ⟨rfl, rfl⟩
  | c :: p, h => by
    have hc : c ≠ 10 := by
      have := h c (List.mem_cons_self ..)
      unfold inC at this
      simpa using this
    have hi : inB true c = true := by
      unfold inB
      rw [if_neg hc]
      split <;> rfl
    obtain ⟨h1, h2⟩ := comment_in p (fun x hx => h x (List.mem_cons_of_mem _ hx))
    rw [betweenB, endB, hi]
    exact ⟨by rw [h1]; rfl, h2⟩

/-- Words stand in a text at their places, blanks and comments between them. -/
def Stands (l : List Nat) (a : Nat) : List Tok → Prop
  | [] => betweenB false l = true
  | t :: ts => ∃ g, t.at_ = a + g ∧ betweenB false (l.take g) = true ∧ (l.drop g).take t.text.length = t.text ∧ g + t.text.length ≤ l.length ∧ Stands (l.drop (g + t.text.length)) (a + g + t.text.length) ts

theorem Stands.shift {p q : List Nat} {a : Nat} {ts : List Tok} (hp : betweenB false p = true) (he : endB false p = false) (h : Stands q (a + p.length) ts) : Stands (p ++ q) a ts := by
  cases ts with
  | nil =>
    show betweenB false (p ++ q) = true
    rw [betweenB_append, hp, he]
    exact h
  | cons t ts =>
    obtain ⟨g, h1, h2, h3, h4, h5⟩ := h
    refine ⟨p.length + g, by omega, ?_, ?_, by rw [List.length_append]; omega, ?_⟩
    · rw [List.take_length_add_append, betweenB_append, hp, he, h2]; rfl
    · rw [List.drop_length_add_append]; exact h3
    · rw [Nat.add_assoc, List.drop_length_add_append, show a + (p.length + g) + t.text.length = a + p.length + g + t.text.length from by omega]
      exact h5

theorem dropWhile_head {p : Nat → Bool} : ∀ (l : List Nat) (c : Nat) (r : List Nat), l.dropWhile p = c :: r → p c = false
  | [], c, r, h => by simp at h
  | x :: l, c, r, h => by
    rw [List.dropWhile_cons] at h
    split at h
    · exact dropWhile_head l c r h
    · rename_i hx
      injection h with h1 h2
      subst h1
      simpa using hx

/-- If a text has no fault its words stand where they are told. -/
theorem scanL_stands : ∀ (N : Nat) (l : List Nat), l.length ≤ N → ∀ a, (scanL l a).2.2 = 0 → Stands l a (scanL l a).1
  | _, [], _, a, _ => by rw [scanL]; rfl
  | 0, c :: r, h, _, _ => absurd h (by simp)
  | N + 1, c :: r, h, a, he => by
    have hr : r.length ≤ N := by simpa using h
    rw [scanL] at he ⊢
    split at he
    · rename_i hb
      rw [if_pos hb]
      exact Stands.shift (p := [c]) (by rw [betweenB, blank_in hb, hb]; rfl) (by rw [endB, blank_in hb]; rfl) (scanL_stands N r hr _ he)
    · rename_i hb
      rw [if_neg hb]
      split at he
      · rename_i h35
        rw [dif_pos h35]
        subst h35
        have hsplit : (35 :: r).takeWhile inC ++ (35 :: r).dropWhile inC = 35 :: r := List.takeWhile_append_dropWhile
        have htw : (35 :: r).takeWhile inC = 35 :: r.takeWhile inC := by rw [List.takeWhile_cons, if_pos (by decide)]
        obtain ⟨c1, c2⟩ := comment_in (r.takeWhile inC) (fun x hx => mem_takeWhile _ x hx)
        have b1 : betweenB false ((35 :: r).takeWhile inC) = true := by rw [htw, betweenB, show inB false 35 = true from by decide, c1]; rfl
        have b2 : endB false ((35 :: r).takeWhile inC) = true := by rw [htw, endB, show inB false 35 = true from by decide, c2]
        have hlt := dropWhile_lt r
        rw [List.length_cons] at hlt
        generalize (35 :: r).takeWhile inC = p at *
        cases hq : (35 :: r).dropWhile inC with
        | nil =>
          rw [hq] at hsplit
          rw [scanL]
          show betweenB false (35 :: r) = true
          rw [← hsplit, List.append_nil]
          exact b1
        | cons d q =>
          have hd : d = 10 := by
            have := dropWhile_head _ _ _ hq
            unfold inC at this
            simpa using this
          subst hd
          rw [hq] at hsplit he hlt
          rw [scanL_blank q _ (by decide)] at he ⊢
          have ih := scanL_stands N q (by rw [List.length_cons] at hlt; omega) _ he
          rw [← hsplit, show p ++ 10 :: q = (p ++ [10]) ++ q from by simp]
          refine Stands.shift ?_ ?_ (by rw [List.length_append, List.length_singleton, ← Nat.add_assoc]; exact ih)
          · rw [betweenB_append, b1, b2]; decide
          · rw [endB_append, b2]; decide
      · rename_i h35
        rw [dif_neg h35]
        split at he
        · exact absurd he (by simp)
        · rename_i h0
          rw [dif_neg h0]
          split at he
          · exact absurd he (by simp)
          · rename_i hn
            rw [if_neg hn]
            split at he
            · exact absurd he (by simp)
            · rename_i hu
              rw [if_neg hu]
              have hle := wordL_le (c :: r)
              have hlen : ((c :: r).take (wordL (c :: r)).1).length = (wordL (c :: r)).1 := by rw [List.length_take]; omega
              have ih := scanL_stands N _ (by have := drop_lt c r _ h0; rw [List.length_cons] at this; omega) _ he
              refine ⟨0, rfl, rfl, ?_, ?_, ?_⟩
              · show ((c :: r).drop 0).take ((c :: r).take (wordL (c :: r)).1).length = (c :: r).take (wordL (c :: r)).1
                rw [hlen]; rfl
              · show 0 + ((c :: r).take (wordL (c :: r)).1).length ≤ _
                rw [hlen]; omega
              · show Stands ((c :: r).drop (0 + ((c :: r).take (wordL (c :: r)).1).length)) (a + 0 + ((c :: r).take (wordL (c :: r)).1).length) _
                rw [hlen, Nat.zero_add, Nat.add_zero]
                exact ih
end Go.Proofs.YtghgaelbjcggcaaDoor
