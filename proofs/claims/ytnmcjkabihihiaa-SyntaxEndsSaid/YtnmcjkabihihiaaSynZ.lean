/- Plain: where blocks end, in the document's own way: two rows that are filled as one goes, and ifs led to their elses' ends behind. -/
import Derived.Test.YtnmcjkabihihiaaSynX
namespace Go.Proofs.Syn

/-- A row of which the first i are filled. -/
def pad (i : Nat) (E : List Int) : List Int := E.take i ++ List.replicate (E.length - i) (-1)
theorem pad_0 (E : List Int) : pad 0 E = List.replicate E.length (-1) := by simp [pad]
theorem pad_all (E : List Int) : pad E.length E = E := by simp [pad]
theorem pad_len (i : Nat) (E : List Int) (h : i ≤ E.length) : (pad i E).length = E.length := by simp [pad]; omega
theorem pad_get (i : Nat) (E : List Int) (j : Nat) (h : i ≤ E.length) : (pad i E)[j]? = if j < i then E[j]? else if j < E.length then some (-1) else none := by
  unfold pad
  have hl : (E.take i).length = i := by rw [List.length_take]; omega
  by_cases hj : j < i
  · rw [List.getElem?_append_left (by omega), List.getElem?_take, if_pos hj, if_pos hj]
  · rw [List.getElem?_append_right (by omega), hl, List.getElem?_replicate, if_neg hj]
    by_cases hk : j < E.length
    · rw [if_pos (by omega), if_pos hk]
    · rw [if_neg (by omega), if_neg hk]
theorem pad_next (i : Nat) (E : List Int) (h : i < E.length) : pad (i + 1) (E.set i (-1)) = pad i E := by
  apply List.ext_getElem?
  intro j
  rw [pad_get _ _ _ (by rw [List.length_set]; omega), pad_get _ _ _ (by omega), List.length_set, List.getElem?_set]
  by_cases h1 : j < i
  · rw [if_pos (by omega), if_neg (by omega), if_pos h1]
  · by_cases h2 : i = j
    · subst h2
      rw [if_pos (by omega), if_pos rfl, if_pos h, if_neg h1]
    · rw [if_neg (by omega), if_neg h1]
theorem pad_set (i : Nat) (E : List Int) (t : Nat) (v : Int) (h : t < i) (hi : i ≤ E.length) : pad i (E.set t v) = (pad i E).set t v := by
  apply List.ext_getElem?
  intro j
  rw [pad_get _ _ _ (by rw [List.length_set]; omega), List.getElem?_set, List.getElem?_set, pad_len _ _ hi, pad_get _ _ _ hi, List.length_set]
  by_cases h1 : t = j
  · subst h1
    rw [if_pos h, if_pos rfl, if_pos rfl]
  · rw [if_neg h1, if_neg h1]
/-- What is known of the rows on the way. -/
structure EJ (n i : Nat) (op : List Nat) (E L : List Int) : Prop where
  le : E.length = n
  ll : L.length = n
  hi : i ≤ n
  lt : ∀ t ∈ op, t < i
  len : op.length ≤ i
  els : ∀ s, s < i → 0 ≤ gI L s → (s : Int) < gI L s ∧ gI L s < i
theorem EJ.start (n : Nat) (E L : List Int) (h1 : E.length = n) (h2 : L.length = n) : EJ n 0 [] E L := ⟨h1, h2, Nat.zero_le _, by simp, Nat.zero_le _, fun s hs => by omega⟩
theorem EJ.fill {n i : Nat} {op : List Nat} {E L : List Int} (h : EJ n i op E L) (hi : i < n) : EJ n (i + 1) op (E.set i (-1)) (L.set i (-1)) := by
  refine ⟨by rw [List.length_set]; exact h.le, by rw [List.length_set]; exact h.ll, by omega, fun t ht => by have := h.lt t ht; omega, by have := h.len; omega, fun s hs h0 => ?_⟩
  rw [gI_set _ _ _ _ (by rw [h.ll]; omega)] at h0 ⊢
  by_cases he : s = i
  · rw [if_pos he] at h0; omega
  · rw [if_neg he] at h0 ⊢
    have := h.els s (by omega) h0
    omega
theorem EJ.push {n i : Nat} {op : List Nat} {E L : List Int} (h : EJ n i op E L) (hi : i < n) : EJ n (i + 1) (i :: op) (E.set i (-1)) (L.set i (-1)) :=
  have h' := h.fill hi
  ⟨h'.le, h'.ll, h'.hi, fun t ht => by rcases List.mem_cons.1 ht with rfl | ht; omega; exact h'.lt t ht, by have := h.len; simp; omega, h'.els⟩
theorem EJ.put {n i t : Nat} {op : List Nat} {E L : List Int} (h : EJ n i (t :: op) E L) (hi : i < n) : EJ n (i + 1) (i :: op) (E.set i (-1)) ((L.set i (-1)).set t i) := by
  have h' := h.fill hi
  have ht := h.lt t (by simp)
  refine ⟨h'.le, by rw [List.length_set]; exact h'.ll, h'.hi, fun u hu => ?_, by have := h.len; simp at this ⊢; omega, fun s hs h0 => ?_⟩
  · rcases List.mem_cons.1 hu with rfl | hu
    · omega
    · have := h.lt u (by simp [hu]); omega
  · rw [gI_set _ _ _ _ (by rw [h'.ll]; omega)] at h0 ⊢
    by_cases he : s = t
    · rw [if_pos he] at h0 ⊢; omega
    · rw [if_neg he] at h0 ⊢
      exact h'.els s hs h0
theorem EJ.pop {n i t : Nat} {op : List Nat} {E L : List Int} (v : Int) (h : EJ n i (t :: op) E L) : EJ n i op (E.set t v) L :=
  ⟨by rw [List.length_set]; exact h.le, h.ll, h.hi, fun u hu => h.lt u (by simp [hu]), by have := h.len; simp at this; omega, h.els⟩
/-- The last loop: the first j ifs are led to their elses' ends. -/
def viaN (j : Nat) (E L : List Int) : List Int := (viaElse E L).take j ++ E.drop j
theorem viaN_len (j : Nat) (E L : List Int) (h : E.length = L.length) (hj : j ≤ E.length) : (viaN j E L).length = E.length := by
  have : (viaElse E L).length = E.length := by simp [viaElse, h]
  simp [viaN, this]; omega
theorem viaN_0 (E L : List Int) : viaN 0 E L = E := by simp [viaN]
theorem viaN_all (E L : List Int) (h : E.length = L.length) : viaN E.length E L = viaElse E L := by
  have : (viaElse E L).length = E.length := by simp [viaElse, h]
  unfold viaN
  rw [List.drop_length, List.append_nil, List.take_of_length_le (by omega)]
theorem viaN_gI (j : Nat) (E L : List Int) (h : E.length = L.length) (hj : j ≤ E.length) (s : Nat) (hs : j ≤ s) : gI (viaN j E L) s = gI E s := by
  have hl : (viaElse E L).length = E.length := by simp [viaElse, h]
  have hl2 : ((viaElse E L).take j).length = j := by rw [List.length_take]; omega
  unfold gI viaN
  rw [List.getElem?_append_right (by omega), hl2, List.getElem?_drop]
  congr 3
  omega
theorem viaN_step (j : Nat) (E L : List Int) (h : E.length = L.length) (hj : j < E.length) (hl : 0 ≤ gI L j → (j : Int) < gI L j) :
    viaN (j + 1) E L = if 0 ≤ gI L j then (viaN j E L).set j (gI (viaN j E L) (gI L j).toNat) else viaN j E L := by
  have hv : (viaElse E L).length = E.length := by simp [viaElse, h]
  have hg := gI_via E L h j (by omega)
  have hl2 : ((viaElse E L).take j).length = j := by rw [List.length_take]; omega
  have hs : viaN (j + 1) E L = (viaN j E L).set j (if 0 ≤ gI L j then gI E (gI L j).toNat else gI E j) := by
    obtain ⟨h1, h2⟩ := List.getElem?_eq_some_iff.1 hg
    unfold viaN
    rw [List.take_succ_eq_append_getElem (by omega), h2, List.append_assoc, List.set_append_right _ _ (by omega), hl2, Nat.sub_self, List.drop_eq_getElem_cons hj]
    rfl
  rw [hs]
  by_cases h0 : 0 ≤ gI L j
  · rw [if_pos h0, if_pos h0, viaN_gI j E L h (by omega) _ (by have := hl h0; omega)]
  · rw [if_neg h0, if_neg h0]
    have : gI E j = gI (viaN j E L) j := (viaN_gI j E L h (by omega) j (Nat.le_refl _)).symm
    rw [this]
    apply List.ext_getElem?
    intro k
    rw [List.getElem?_set]
    by_cases hk : j = k
    · subst hk
      rw [if_pos rfl, if_pos (by rw [viaN_len _ _ _ h (by omega)]; exact hj), gI_at (by rw [viaN_len _ _ _ h (by omega)]; exact hj)]
    · rw [if_neg hk]
theorem goE_at {ks : List Nat} {i k : Nat} {op : List Nat} {E L : List Int} (hk : ks[i]? = some k) : goE ks (ks.drop i) i op E L = goE ks (k :: ks.drop (i + 1)) i op E L := by
  obtain ⟨h, e⟩ := List.getElem?_eq_some_iff.1 hk
  rw [List.drop_eq_getElem_cons h, e]
theorem goE_push {ks : List Nat} {i k : Nat} {op : List Nat} {E L : List Int} {r : Option (List Int × List Int)} (hk : ks[i]? = some k) (h57 : k = 5 ∨ k = 7) (h : goE ks (ks.drop i) i op E L = r) : goE ks (ks.drop (i + 1)) (i + 1) (i :: op) E L = r := by
  rw [goE_at hk, goE_cons, if_pos h57] at h; exact h
theorem goE_else {ks : List Nat} {i t : Nat} {op : List Nat} {E L : List Int} {r : Option (List Int × List Int)} (hk : ks[i]? = some 6) (ht : ks[t]? = some 5) (h : goE ks (ks.drop i) i (t :: op) E L = r) : goE ks (ks.drop (i + 1)) (i + 1) (i :: op) E (L.set t i) = r := by
  rw [goE_at hk, goE_cons, if_neg (by omega), if_pos rfl] at h
  simp only [if_pos ht] at h
  exact h
theorem goE_else_bad {ks : List Nat} {i : Nat} {op : List Nat} {E L : List Int} {r : Option (List Int × List Int)} (hk : ks[i]? = some 6) (hb : ∀ t op', op = t :: op' → ¬ ks[t]? = some 5) (h : goE ks (ks.drop i) i op E L = r) : r = none := by
  rw [goE_at hk, goE_cons, if_neg (by omega), if_pos rfl] at h
  cases op with
  | nil => exact h.symm
  | cons t op =>
    simp only [if_neg (hb t op rfl)] at h
    exact h.symm
theorem goE_end {ks : List Nat} {i t : Nat} {op : List Nat} {E L : List Int} {r : Option (List Int × List Int)} (hk : ks[i]? = some 8) (h : goE ks (ks.drop i) i (t :: op) E L = r) : goE ks (ks.drop (i + 1)) (i + 1) op (E.set t i) L = r := by
  rw [goE_at hk, goE_cons, if_neg (by omega), if_neg (by omega), if_pos rfl] at h
  exact h
theorem goE_end_bad {ks : List Nat} {i : Nat} {E L : List Int} {r : Option (List Int × List Int)} (hk : ks[i]? = some 8) (h : goE ks (ks.drop i) i [] E L = r) : r = none := by
  rw [goE_at hk, goE_cons, if_neg (by omega), if_neg (by omega), if_pos rfl] at h
  exact h.symm
theorem goE_skip {ks : List Nat} {i k : Nat} {op : List Nat} {E L : List Int} {r : Option (List Int × List Int)} (hk : ks[i]? = some k) (h5 : k ≠ 5) (h6 : k ≠ 6) (h7 : k ≠ 7) (h8 : k ≠ 8) (h : goE ks (ks.drop i) i op E L = r) : goE ks (ks.drop (i + 1)) (i + 1) op E L = r := by
  rw [goE_at hk, goE_cons, if_neg (by omega), if_neg h6, if_neg h8] at h
  exact h
theorem goE_done {ks : List Nat} {op : List Nat} {E L : List Int} {r : Option (List Int × List Int)} (h : goE ks (ks.drop ks.length) ks.length op E L = r) : r = if op = [] then some (E, L) else none := by
  rw [List.drop_length, goE_nil] at h
  exact h.symm
end Go.Proofs.Syn
