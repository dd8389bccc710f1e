/- Plain facts: which entries of a list of names are good, place by place, and that goodNames finds the same. -/
import Derived.Test.YthmcckdoneiglaaDoorBackM
namespace Go.Proofs.YthmcckdoneiglaaDoor
open Go

/-- Is the entry at place k a good name? -/
def goodB (ns : List ByteArray) (k : Nat) : Bool :=
  decide (k < ns.length) && (wfB (ns.getD k ByteArray.empty).data.toList && (List.range k).all fun i => !decide (ns.getD i ByteArray.empty = ns.getD k ByteArray.empty))

theorem wf_ne {l : List UInt8} (h : wfB l = true) : l ≠ [] := by
  intro e; subst e; cases h

theorem goodB_iff (ns : List ByteArray) (k : Nat) : goodB ns k = true ↔ k < ns.length ∧ wfB (ns.getD k ByteArray.empty).data.toList = true ∧ ∀ i, i < k → ns.getD i ByteArray.empty ≠ ns.getD k ByteArray.empty := by
  unfold goodB
  simp only [Bool.and_eq_true, decide_eq_true_eq, List.all_eq_true, List.mem_range, Bool.not_eq_true', decide_eq_false_iff_not]

/-- Where a well-formed name stands, the first place of that name has a good one. -/
theorem first_good (ns : List ByteArray) : ∀ (n k : Nat), k < n → k < ns.length → wfB (ns.getD k ByteArray.empty).data.toList = true → ∃ j, j ≤ k ∧ goodB ns j = true ∧ ns.getD j ByteArray.empty = ns.getD k ByteArray.empty
  | 0, _, h, _, _ => absurd h (Nat.not_lt_zero _)
  | n + 1, k, hk, hl, hw => by
    by_cases h : ∃ i, i < k ∧ ns.getD i ByteArray.empty = ns.getD k ByteArray.empty
    · obtain ⟨i, hi, he⟩ := h
      obtain ⟨j, hj, hg, hje⟩ := first_good ns n i (by omega) (by omega) (by rw [he]; exact hw)
      exact ⟨j, by omega, hg, hje.trans he⟩
    · exact ⟨k, Nat.le_refl _, (goodB_iff ns k).2 ⟨hl, hw, fun i hi he => h ⟨i, hi, he⟩⟩, rfl⟩

theorem gl_at (ns : List ByteArray) : ∀ n, n ≤ 64 → n ≤ ns.length → ∀ k, k < n → (gl ns n).getD k ByteArray.empty = if goodB ns k then ns.getD k ByteArray.empty else ByteArray.empty
  | 0, _, _, k, hk => absurd hk (Nat.not_lt_zero _)
  | n + 1, hn, hl, k, hk => by
    have ih := gl_at ns n (by omega) (by omega)
    have hG := goods_gl ns n (by omega)
    have hlen := hG.len
    by_cases hw : wfB (ns.getD n ByteArray.empty).data.toList = true
    · cases hc : Lib.containsS ((gl ns n).take n) (ns.getD n ByteArray.empty) with
      | true =>
        rw [gl_dup hc]
        by_cases e : k = n
        · subst e
          rw [hG.behind k (Nat.le_refl _)]
          have hm := (Lib.containsS_iff _ _).1 hc
          obtain ⟨j, hj, he⟩ := List.mem_take_iff_getElem.1 hm
          have hjk : j < k := by omega
          have hg : (gl ns k).getD j ByteArray.empty = ns.getD k ByteArray.empty := by rw [← he, List.getD_eq_getElem?_getD, List.getElem?_eq_getElem (by omega)]; rfl
          rw [ih j hjk] at hg
          have hng : goodB ns k = false := by
            cases h : goodB ns k with
            | false => rfl
            | true =>
              have h3 := ((goodB_iff ns k).1 h).2.2 j hjk
              by_cases hgj : goodB ns j = true
              · rw [if_pos hgj] at hg; exact absurd hg h3
              · rw [if_neg hgj] at hg
                exact absurd (by rw [← hg]; rfl) (wf_ne hw)
          rw [hng]; rfl
        · exact ih k (by omega)
      | false =>
        rw [gl_set hw hc]
        have hset : ((gl ns n).set n (ns.getD n ByteArray.empty)).getD k ByteArray.empty = if k = n then ns.getD n ByteArray.empty else (gl ns n).getD k ByteArray.empty := by
          rw [List.getD_eq_getElem?_getD, List.getElem?_set]
          by_cases e : n = k
          · subst e
            have hlt : n < (gl ns n).length := by omega
            simp [hlt]
          · rw [if_neg e, if_neg (fun h => e h.symm), ← List.getD_eq_getElem?_getD]
        rw [hset]
        by_cases e : k = n
        · subst e
          rw [if_pos rfl]
          have hg : goodB ns k = true := by
            refine (goodB_iff ns k).2 ⟨by omega, hw, fun i hi he => ?_⟩
            obtain ⟨j, hj, hgj, hje⟩ := first_good ns (i + 1) i (by omega) (by omega) (by rw [he]; exact hw)
            have hjk : j < k := by omega
            have h1 := ih j hjk
            rw [if_pos hgj, hje, he] at h1
            have : Lib.containsS ((gl ns k).take k) (ns.getD k ByteArray.empty) = true := by
              rw [Lib.containsS_iff, List.mem_take_iff_getElem]
              refine ⟨j, by omega, ?_⟩
              rw [List.getD_eq_getElem?_getD, List.getElem?_eq_getElem (by omega)] at h1
              exact h1
            rw [this] at hc; cases hc
          rw [if_pos hg]
        · rw [if_neg e]; exact ih k (by omega)
    · rw [gl_keep (by simpa using hw)]
      by_cases e : k = n
      · subst e
        rw [hG.behind k (Nat.le_refl _)]
        have hng : goodB ns k = false := by
          cases h : goodB ns k with
          | false => rfl
          | true => exact absurd ((goodB_iff ns k).1 h).2.1 hw
        rw [hng]; rfl
      · exact ih k (by omega)

/-- **goodNames finds just the good entries.** -/
theorem good_names (ns : List ByteArray) (k : Nat) (hk : k < 64) : (gl ns (min ns.length 64)).getD k ByteArray.empty = if goodB ns k then ns.getD k ByteArray.empty else ByteArray.empty := by
  by_cases h : k < min ns.length 64
  · exact gl_at ns _ (by omega) (by omega) k h
  · rw [(goods_gl ns (min ns.length 64) (by omega)).behind k (by omega)]
    have hng : goodB ns k = false := by
      cases hg : goodB ns k with
      | false => rfl
      | true => have := ((goodB_iff ns k).1 hg).1; omega
    rw [hng]; rfl

/-- An item, by the document's answer. -/
theorem item_ref (ns : List ByteArray) (k : Nat) (hk : k < 64) : itemB (gl ns (min ns.length 64)) k = if goodB ns k then (ns.getD k ByteArray.empty).data.toList else numB k := by
  unfold itemB
  rw [good_names ns k hk]
  cases hg : goodB ns k with
  | false => simp only [Bool.false_eq_true, if_false, empty_list, if_true]
  | true =>
    rw [if_pos rfl, if_pos rfl, if_neg (wf_ne ((goodB_iff ns k).1 hg).2.1)]
end Go.Proofs.YthmcckdoneiglaaDoor
