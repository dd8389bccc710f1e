/- Plain: where blocks end, as a row of the open ones alone keeps it (an if stays open behind its else), comes to the same. -/
import Derived.Test.YtlpdjfimefjmcaaGreatNtPR1
import Derived.Test.YtlpdjfimefjmcaaGreatProg
import Derived.WalkKit
import Derived.WalkLawsBesides
import Derived.Outline
import Derived.Lib.Hide
import Derived.LoopTactic
import Derived.Lib.Strings
import Derived.Maps.AppendAt
import Derived.Deep.OwnRows
import Derived.Laws.OwnMore
import Derived.Laws.AppendOwnNone
namespace Go.Proofs.Syn

def gI (l : List Int) (t : Nat) : Int := (l[t]?).getD (-1)
theorem gI_set (l : List Int) (t : Nat) (v : Int) (s : Nat) (ht : t < l.length) : gI (l.set t v) s = if s = t then v else gI l s := by
  unfold gI
  rw [List.getElem?_set]
  by_cases h : t = s
  · subst h; simp [ht]
  · rw [if_neg h, if_neg (Ne.symm h)]
theorem gI_neg (n t : Nat) : gI (List.replicate n (-1)) t = -1 := by
  unfold gI
  rw [List.getElem?_replicate]
  split <;> rfl
theorem gI_out {l : List Int} {t : Nat} (h : l.length ≤ t) : gI l t = -1 := by unfold gI; rw [List.getElem?_eq_none h]; rfl
theorem gI_at {l : List Int} {t : Nat} (h : t < l.length) : l[t]? = some (gI l t) := by unfold gI; rw [List.getElem?_eq_getElem h]; rfl
theorem gI_via (es ls : List Int) (h : es.length = ls.length) (s : Nat) (hs : s < ls.length) : (viaElse es ls)[s]? = some (if 0 ≤ gI ls s then gI es (gI ls s).toNat else gI es s) := by
  unfold viaElse
  rw [List.getElem?_map, (List.getElem?_zip_eq_some (z := (gI es s, gI ls s))).2 ⟨gI_at (h ▸ hs), gI_at hs⟩]
  rfl
/-- What the SEnd at i sets. -/
def closeP (E L : List Int) (t i : Nat) : List Int := if 0 ≤ gI L t then (E.set t i).set (gI L t).toNat i else E.set t i
def goP (ks : List Nat) : List Nat → Nat → List Nat → List Int → List Int → Option (List Int × List Int)
  | [], _, op, E, L => if op = [] then some (E, L) else none
  | k :: r, i, op, E, L =>
    if k = 5 ∨ k = 7 then goP ks r (i + 1) (i :: op) E L
    else if k = 6 then
      match op with
      | t :: op' => if ks[t]? = some 5 ∧ gI L t < 0 then goP ks r (i + 1) (t :: op') E (L.set t i) else none
      | [] => none
    else if k = 8 then
      match op with
      | t :: op' => goP ks r (i + 1) op' (closeP E L t i) L
      | [] => none
    else goP ks r (i + 1) op E L
theorem goP_nil (ks : List Nat) (i : Nat) (op : List Nat) (E L : List Int) : goP ks [] i op E L = if op = [] then some (E, L) else none := by rw [goP.eq_def]
theorem goP_cons (ks : List Nat) (k : Nat) (r : List Nat) (i : Nat) (op : List Nat) (E L : List Int) : goP ks (k :: r) i op E L =
    if k = 5 ∨ k = 7 then goP ks r (i + 1) (i :: op) E L
    else if k = 6 then
      match op with
      | t :: op' => if ks[t]? = some 5 ∧ gI L t < 0 then goP ks r (i + 1) (t :: op') E (L.set t i) else none
      | [] => none
    else if k = 8 then
      match op with
      | t :: op' => goP ks r (i + 1) op' (closeP E L t i) L
      | [] => none
    else goP ks r (i + 1) op E L := by rw [goP.eq_def]

structure EI (ks : List Nat) (i : Nat) (op : List Nat) (E L es : List Int) : Prop where
  le : E.length = ks.length
  ll : L.length = ks.length
  ls : es.length = ks.length
  hi : i ≤ ks.length
  via : ∀ s, gI E s = if 0 ≤ gI L s then gI es (gI L s).toNat else gI es s
  lt : ∀ t ∈ op, t < i ∧ gI es t = -1 ∧ (ks[t]? = some 5 ∨ ks[t]? = some 7)
  ord : op.Pairwise (fun a b => b < a)
  new : ∀ j, i ≤ j → gI es j = -1
  els : ∀ s, 0 ≤ gI L s → (gI L s).toNat < i ∧ ks[(gI L s).toNat]? = some 6 ∧ ks[s]? = some 5 ∧ s < i
  one : ∀ s s', 0 ≤ gI L s → gI L s = gI L s' → s = s'
def opE (L : List Int) (t : Nat) : Nat := if 0 ≤ gI L t then (gI L t).toNat else t

theorem EI.start (ks : List Nat) : EI ks 0 [] (List.replicate ks.length (-1)) (List.replicate ks.length (-1)) (List.replicate ks.length (-1)) :=
  ⟨by simp, by simp, by simp, Nat.zero_le _, fun s => by simp [gI_neg], by simp, .nil, fun j _ => gI_neg _ _, fun s h => by rw [gI_neg] at h; omega, fun s s' h => by rw [gI_neg] at h; omega⟩
theorem EI.skip {ks : List Nat} {i : Nat} {op : List Nat} {E L es : List Int} (h : EI ks i op E L es) (hi : i < ks.length) : EI ks (i + 1) op E L es :=
  ⟨h.le, h.ll, h.ls, hi, h.via, fun t ht => ⟨by have := (h.lt t ht).1; omega, (h.lt t ht).2⟩, h.ord, fun j hj => h.new j (by omega), fun s hs => by obtain ⟨a, b, c, d⟩ := h.els s hs; exact ⟨by omega, b, c, by omega⟩, h.one⟩
theorem EI.push {ks : List Nat} {i : Nat} {op : List Nat} {E L es : List Int} (h : EI ks i op E L es) (hi : i < ks.length) (hk : ks[i]? = some 5 ∨ ks[i]? = some 7) : EI ks (i + 1) (i :: op) E L es :=
  have h' := h.skip hi
  ⟨h.le, h.ll, h.ls, hi, h.via, fun t ht => by
    rcases List.mem_cons.1 ht with rfl | ht
    · exact ⟨by omega, h.new _ (Nat.le_refl _), hk⟩
    · exact h'.lt t ht, List.pairwise_cons.2 ⟨fun b hb => (h.lt b hb).1, h.ord⟩, h'.new, h'.els, h.one⟩
theorem EI.put {ks : List Nat} {i t : Nat} {op : List Nat} {E L es : List Int} (h : EI ks i (t :: op) E L es) (hi : i < ks.length) (hk : ks[i]? = some 6) (ht : ks[t]? = some 5) (hn : gI L t < 0) : EI ks (i + 1) (t :: op) E (L.set t i) es := by
  obtain ⟨a1, a2, a3⟩ := h.lt t (by simp)
  have hti : t < L.length := by rw [h.ll]; omega
  have hg : ∀ s, gI (L.set t i) s = if s = t then (i : Int) else gI L s := fun s => gI_set L t i s hti
  refine ⟨h.le, by rw [List.length_set]; exact h.ll, h.ls, hi, ?_, (h.skip hi).lt, h.ord, (h.skip hi).new, ?_, ?_⟩
  · intro s
    rw [hg]
    by_cases hs : s = t
    · subst hs
      rw [if_pos rfl, if_pos (by omega), h.via s, if_neg (by omega), a2]
      rw [show ((i : Int)).toNat = i from by omega, h.new i (Nat.le_refl _)]
    · rw [if_neg hs]; exact h.via s
  · intro s hs
    rw [hg] at hs ⊢
    by_cases he : s = t
    · subst he
      rw [if_pos rfl]
      rw [show ((i : Int)).toNat = i from by omega]
      exact ⟨by omega, hk, ht, by omega⟩
    · rw [if_neg he] at hs ⊢
      exact (h.skip hi).els s hs
  · intro s s' hs he
    rw [hg] at hs
    rw [hg, hg] at he
    by_cases h1 : s = t
    · by_cases h2 : s' = t
      · omega
      · rw [if_pos h1, if_neg h2] at he
        have := (h.els s' (by omega)).1
        omega
    · rw [if_neg h1] at hs he
      by_cases h2 : s' = t
      · rw [if_pos h2] at he
        have := (h.els s hs).1
        omega
      · rw [if_neg h2] at he
        exact h.one s s' hs he
theorem closeP_len (E L : List Int) (t i : Nat) : (closeP E L t i).length = E.length := by unfold closeP; split <;> simp
theorem EI.pop {ks : List Nat} {i t : Nat} {op : List Nat} {E L es : List Int} (h : EI ks i (t :: op) E L es) (hi : i < ks.length) : EI ks (i + 1) op (closeP E L t i) L (es.set (opE L t) i) := by
  obtain ⟨a1, a2, a3⟩ := h.lt t (by simp)
  have hto : opE L t < i := by
    unfold opE
    split
    · exact (h.els t (by assumption)).1
    · exact a1
  have hg : ∀ s, gI (es.set (opE L t) i) s = if s = opE L t then (i : Int) else gI es s := fun s => gI_set es _ i s (by rw [h.ls]; omega)
  have h6 : ∀ s, 0 ≤ gI L s → ∀ t', (ks[t']? = some 5 ∨ ks[t']? = some 7) → (gI L s).toNat ≠ t' := by
    intro s hs t' ht' e
    have := (h.els s hs).2.1
    rw [e] at this
    rcases ht' with h | h <;> (rw [this] at h; cases h)
  refine ⟨by rw [closeP_len]; exact h.le, h.ll, by rw [List.length_set]; exact h.ls, hi, ?_, ?_, (List.pairwise_cons.1 h.ord).2, ?_, (h.skip hi).els, h.one⟩
  · intro s
    rw [hg, hg]
    unfold closeP opE
    by_cases hu : 0 ≤ gI L t
    · simp only [if_pos hu]
      obtain ⟨b1, b2, b3, b4⟩ := h.els t hu
      rw [gI_set _ _ _ _ (by rw [List.length_set, h.le]; omega), gI_set _ _ _ _ (by rw [h.le]; omega)]
      have hun : gI L (gI L t).toNat < 0 := by
        refine Int.not_le.1 fun hc => ?_
        have := (h.els _ hc).2.2.1
        rw [b2] at this; cases this
      by_cases hs1 : s = (gI L t).toNat
      · subst hs1
        rw [if_pos rfl, if_neg (by omega), if_pos rfl]
      · rw [if_neg hs1, if_neg hs1]
        by_cases hs2 : s = t
        · subst hs2
          rw [if_pos rfl, if_pos hu, if_pos rfl]
        · rw [if_neg hs2, h.via s]
          split
          · rename_i hs
            rw [if_neg]
            intro e
            exact hs2 (h.one s t hs (by omega))
          · rfl
    · simp only [if_neg hu]
      rw [gI_set _ _ _ _ (by rw [h.le]; omega)]
      by_cases hs2 : s = t
      · subst hs2
        rw [if_pos rfl, if_neg hu, if_pos rfl]
      · rw [if_neg hs2, if_neg hs2, h.via s]
        split
        · rename_i hs
          rw [if_neg (h6 s hs t a3)]
        · rfl
  · intro t' ht'
    obtain ⟨c1, c2, c3⟩ := h.lt t' (by simp [ht'])
    refine ⟨by omega, ?_, c3⟩
    rw [hg, if_neg, c2]
    unfold opE
    split
    · rename_i hu
      exact fun e => h6 t hu t' c3 e.symm
    · have := (List.pairwise_cons.1 h.ord).1 t' ht'
      omega
  · intro j hj
    rw [hg, if_neg (by omega)]
    exact h.new j (by omega)

theorem dec_len : ∀ (op : List Nat) (i : Nat), op.Pairwise (fun a b => b < a) → (∀ t ∈ op, t < i) → op.length ≤ i
  | [], _, _, _ => Nat.zero_le _
  | t :: op, i, h, hl => by
    have h1 := dec_len op t (List.pairwise_cons.1 h).2 (List.pairwise_cons.1 h).1
    have h2 := hl t (by simp)
    simp only [List.length_cons]
    omega
theorem EI.len {ks : List Nat} {i : Nat} {op : List Nat} {E L es : List Int} (h : EI ks i op E L es) : op.length ≤ i := dec_len op i h.ord (fun t ht => (h.lt t ht).1)

theorem map_opE_put {L : List Int} {t i : Nat} {op : List Nat} (hlt : t < L.length) (ho : ∀ b ∈ op, b < t) : op.map (opE (L.set t i)) = op.map (opE L) := by
  refine List.map_congr_left fun b hb => ?_
  have e : gI (L.set t i) b = gI L b := by rw [gI_set L t i b hlt, if_neg (by have := ho b hb; omega)]
  unfold opE
  rw [e]

theorem goP_goE (ks : List Nat) : ∀ (r : List Nat) (i : Nat) (op : List Nat) (E L es : List Int), ks.drop i = r → EI ks i op E L es →
    goP ks r i op E L = (goE ks r i (op.map (opE L)) es L).map fun p => (viaElse p.1 p.2, p.2)
  | [], i, op, E, L, es, _, h => by
    rw [goP_nil, goE_nil]
    cases op with
    | nil =>
      simp only [List.map_nil, if_pos, Option.map_some]
      congr 2
      refine List.ext_getElem? fun s => ?_
      by_cases hs : s < ks.length
      · rw [gI_via es L (by rw [h.ls, h.ll]) s (by rw [h.ll]; exact hs), ← h.via s]
        exact gI_at (by rw [h.le]; exact hs)
      · rw [List.getElem?_eq_none (by rw [h.le]; omega), List.getElem?_eq_none (by unfold viaElse; rw [List.length_map, List.length_zip, h.ls, h.ll]; omega)]
    | cons t op => simp
  | k :: r, i, op, E, L, es, hr, h => by
    have hk : ks[i]? = some k := by
      have := congrArg (fun l => l[0]?) hr
      simpa using this
    have hil : i < ks.length := (List.getElem?_eq_some_iff.1 hk).1
    have hr' : ks.drop (i + 1) = r := by
      rw [← List.drop_drop, hr]; rfl
    rw [goP_cons, goE_cons]
    by_cases h57 : k = 5 ∨ k = 7
    · rw [if_pos h57, if_pos h57]
      have hp := h.push hil (by rcases h57 with e | e <;> rw [hk, e] <;> simp)
      rw [goP_goE ks r (i + 1) (i :: op) E L es hr' hp]
      have : opE L i = i := by
        unfold opE
        rw [if_neg]
        intro hc
        have := (h.els i hc).2.2.2
        omega
      rw [List.map_cons, this]
    rw [if_neg h57, if_neg h57]
    by_cases h6 : k = 6
    · rw [if_pos h6, if_pos h6]
      cases op with
      | nil => rfl
      | cons t op =>
        obtain ⟨a1, a2, a3⟩ := h.lt t (by simp)
        simp only [List.map_cons]
        by_cases hu : 0 ≤ gI L t
        · have e1 : opE L t = (gI L t).toNat := by unfold opE; rw [if_pos hu]
          rw [if_neg (by omega), e1, if_neg (by rw [(h.els t hu).2.1]; simp)]
          rfl
        · have e1 : opE L t = t := by unfold opE; rw [if_neg hu]
          rw [e1]
          by_cases ht : ks[t]? = some 5
          · rw [if_pos ⟨ht, by omega⟩, if_pos ht]
            have hp := h.put hil (by rw [hk, h6]) ht (by omega)
            rw [goP_goE ks r (i + 1) (t :: op) E (L.set t i) es hr' hp]
            have hti : t < L.length := by rw [h.ll]; omega
            have e2 : opE (L.set t i) t = i := by unfold opE; rw [gI_set L t i t hti, if_pos rfl, if_pos (by omega)]; omega
            rw [List.map_cons, e2, map_opE_put hti (List.pairwise_cons.1 h.ord).1]
          · rw [if_neg (fun c => ht c.1), if_neg ht]
            rfl
    rw [if_neg h6, if_neg h6]
    by_cases h8 : k = 8
    · rw [if_pos h8, if_pos h8]
      cases op with
      | nil => rfl
      | cons t op =>
        simp only [List.map_cons]
        exact goP_goE ks r (i + 1) op _ L _ hr' (h.pop hil)
    · rw [if_neg h8, if_neg h8]
      exact goP_goE ks r (i + 1) op E L es hr' (h.skip hil)
theorem goP_ends (ks : List Nat) : goP ks ks 0 [] (List.replicate ks.length (-1)) (List.replicate ks.length (-1)) = endsM ks := by
  rw [goP_goE ks ks 0 [] _ _ _ rfl (EI.start ks)]
  rfl
end Go.Proofs.Syn

/- Plain: where blocks end, in the document's own way: two rows that are filled as one goes, and ifs led to their elses' ends behind. -/
namespace Go.Proofs.Syn

/-- A row of which the first i are filled. -/
def pad (i : Nat) (E : List Int) : List Int := E.take i ++ List.replicate (E.length - i) (-1)
theorem pad_0 (E : List Int) : pad 0 E = List.replicate E.length (-1) := by simp [pad]
theorem pad_all (E : List Int) : pad E.length E = E := by simp [pad]
theorem pad_len (i : Nat) (E : List Int) (h : i ≤ E.length) : (pad i E).length = E.length := by simp [pad]; omega
theorem pad_get (i : Nat) (E : List Int) (j : Nat) (h : i ≤ E.length) : (pad i E)[j]? = if j < i then E[j]? else if j < E.length then some (-1) else none := by
  unfold pad
  have hl : (E.take i).length = i := by rw [List.length_take]; omega
  by_cases hj : j < i
  · rw [List.getElem?_append_left (by omega), List.getElem?_take, if_pos hj, if_pos hj]
  · rw [List.getElem?_append_right (by omega), hl, List.getElem?_replicate, if_neg hj]
    by_cases hk : j < E.length
    · rw [if_pos (by omega), if_pos hk]
    · rw [if_neg (by omega), if_neg hk]
theorem pad_next (i : Nat) (E : List Int) (h : i < E.length) : pad (i + 1) (E.set i (-1)) = pad i E := by
  apply List.ext_getElem?
  intro j
  rw [pad_get _ _ _ (by rw [List.length_set]; omega), pad_get _ _ _ (by omega), List.length_set, List.getElem?_set]
  by_cases h1 : j < i
  · rw [if_pos (by omega), if_neg (by omega), if_pos h1]
  · by_cases h2 : i = j
    · subst h2
      rw [if_pos (by omega), if_pos rfl, if_pos h, if_neg h1]
    · rw [if_neg (by omega), if_neg h1]
theorem pad_set (i : Nat) (E : List Int) (t : Nat) (v : Int) (h : t < i) (hi : i ≤ E.length) : pad i (E.set t v) = (pad i E).set t v := by
  apply List.ext_getElem?
  intro j
  rw [pad_get _ _ _ (by rw [List.length_set]; omega), List.getElem?_set, List.getElem?_set, pad_len _ _ hi, pad_get _ _ _ hi, List.length_set]
  by_cases h1 : t = j
  · subst h1
    rw [if_pos h, if_pos rfl, if_pos rfl]
  · rw [if_neg h1, if_neg h1]
/-- What is known of the rows on the way. -/
structure EJ (n i : Nat) (op : List Nat) (E L : List Int) : Prop where
  le : E.length = n
  ll : L.length = n
  hi : i ≤ n
  lt : ∀ t ∈ op, t < i
  len : op.length ≤ i
  els : ∀ s, s < i → 0 ≤ gI L s → (s : Int) < gI L s ∧ gI L s < i
theorem EJ.start (n : Nat) (E L : List Int) (h1 : E.length = n) (h2 : L.length = n) : EJ n 0 [] E L := ⟨h1, h2, Nat.zero_le _, by simp, Nat.zero_le _, fun s hs => by omega⟩
theorem EJ.fill {n i : Nat} {op : List Nat} {E L : List Int} (h : EJ n i op E L) (hi : i < n) : EJ n (i + 1) op (E.set i (-1)) (L.set i (-1)) := by
  refine ⟨by rw [List.length_set]; exact h.le, by rw [List.length_set]; exact h.ll, by omega, fun t ht => by have := h.lt t ht; omega, by have := h.len; omega, fun s hs h0 => ?_⟩
  rw [gI_set _ _ _ _ (by rw [h.ll]; omega)] at h0 ⊢
  by_cases he : s = i
  · rw [if_pos he] at h0; omega
  · rw [if_neg he] at h0 ⊢
    have := h.els s (by omega) h0
    omega
theorem EJ.push {n i : Nat} {op : List Nat} {E L : List Int} (h : EJ n i op E L) (hi : i < n) : EJ n (i + 1) (i :: op) (E.set i (-1)) (L.set i (-1)) :=
  have h' := h.fill hi
  ⟨h'.le, h'.ll, h'.hi, fun t ht => by rcases List.mem_cons.1 ht with rfl | ht; omega; exact h'.lt t ht, by have := h.len; simp; omega, h'.els⟩
theorem EJ.put {n i t : Nat} {op : List Nat} {E L : List Int} (h : EJ n i (t :: op) E L) (hi : i < n) : EJ n (i + 1) (i :: op) (E.set i (-1)) ((L.set i (-1)).set t i) := by
  have h' := h.fill hi
  have ht := h.lt t (by simp)
  refine ⟨h'.le, by rw [List.length_set]; exact h'.ll, h'.hi, fun u hu => ?_, by have := h.len; simp at this ⊢; omega, fun s hs h0 => ?_⟩
  · rcases List.mem_cons.1 hu with rfl | hu
    · omega
    · have := h.lt u (by simp [hu]); omega
  · rw [gI_set _ _ _ _ (by rw [h'.ll]; omega)] at h0 ⊢
    by_cases he : s = t
    · rw [if_pos he] at h0 ⊢; omega
    · rw [if_neg he] at h0 ⊢
      exact h'.els s hs h0
theorem EJ.pop {n i t : Nat} {op : List Nat} {E L : List Int} (v : Int) (h : EJ n i (t :: op) E L) : EJ n i op (E.set t v) L :=
  ⟨by rw [List.length_set]; exact h.le, h.ll, h.hi, fun u hu => h.lt u (by simp [hu]), by have := h.len; simp at this; omega, h.els⟩
/-- The last loop: the first j ifs are led to their elses' ends. -/
def viaN (j : Nat) (E L : List Int) : List Int := (viaElse E L).take j ++ E.drop j
theorem viaN_len (j : Nat) (E L : List Int) (h : E.length = L.length) (hj : j ≤ E.length) : (viaN j E L).length = E.length := by
  have : (viaElse E L).length = E.length := by simp [viaElse, h]
  simp [viaN, this]; omega
theorem viaN_0 (E L : List Int) : viaN 0 E L = E := by simp [viaN]
theorem viaN_all (E L : List Int) (h : E.length = L.length) : viaN E.length E L = viaElse E L := by
  have : (viaElse E L).length = E.length := by simp [viaElse, h]
  unfold viaN
  rw [List.drop_length, List.append_nil, List.take_of_length_le (by omega)]
theorem viaN_gI (j : Nat) (E L : List Int) (h : E.length = L.length) (hj : j ≤ E.length) (s : Nat) (hs : j ≤ s) : gI (viaN j E L) s = gI E s := by
  have hl : (viaElse E L).length = E.length := by simp [viaElse, h]
  have hl2 : ((viaElse E L).take j).length = j := by rw [List.length_take]; omega
  unfold gI viaN
  rw [List.getElem?_append_right (by omega), hl2, List.getElem?_drop]
  congr 3
  omega
theorem viaN_step (j : Nat) (E L : List Int) (h : E.length = L.length) (hj : j < E.length) (hl : 0 ≤ gI L j → (j : Int) < gI L j) :
    viaN (j + 1) E L = if 0 ≤ gI L j then (viaN j E L).set j (gI (viaN j E L) (gI L j).toNat) else viaN j E L := by
  have hv : (viaElse E L).length = E.length := by simp [viaElse, h]
  have hg := gI_via E L h j (by omega)
  have hl2 : ((viaElse E L).take j).length = j := by rw [List.length_take]; omega
  have hs : viaN (j + 1) E L = (viaN j E L).set j (if 0 ≤ gI L j then gI E (gI L j).toNat else gI E j) := by
    obtain ⟨h1, h2⟩ := List.getElem?_eq_some_iff.1 hg
    unfold viaN
    rw [List.take_succ_eq_append_getElem (by omega), h2, List.append_assoc, List.set_append_right _ _ (by omega), hl2, Nat.sub_self, List.drop_eq_getElem_cons hj]
    rfl
  rw [hs]
  by_cases h0 : 0 ≤ gI L j
  · rw [if_pos h0, if_pos h0, viaN_gI j E L h (by omega) _ (by have := hl h0; omega)]
  · rw [if_neg h0, if_neg h0]
    have : gI E j = gI (viaN j E L) j := (viaN_gI j E L h (by omega) j (Nat.le_refl _)).symm
    rw [this]
    apply List.ext_getElem?
    intro k
    rw [List.getElem?_set]
    by_cases hk : j = k
    · subst hk
      rw [if_pos rfl, if_pos (by rw [viaN_len _ _ _ h (by omega)]; exact hj), gI_at (by rw [viaN_len _ _ _ h (by omega)]; exact hj)]
    · rw [if_neg hk]
theorem goE_at {ks : List Nat} {i k : Nat} {op : List Nat} {E L : List Int} (hk : ks[i]? = some k) : goE ks (ks.drop i) i op E L = goE ks (k :: ks.drop (i + 1)) i op E L := by
  obtain ⟨h, e⟩ := List.getElem?_eq_some_iff.1 hk
  rw [List.drop_eq_getElem_cons h, e]
theorem goE_push {ks : List Nat} {i k : Nat} {op : List Nat} {E L : List Int} {r : Option (List Int × List Int)} (hk : ks[i]? = some k) (h57 : k = 5 ∨ k = 7) (h : goE ks (ks.drop i) i op E L = r) : goE ks (ks.drop (i + 1)) (i + 1) (i :: op) E L = r := by
  rw [goE_at hk, goE_cons, if_pos h57] at h; exact h
theorem goE_else {ks : List Nat} {i t : Nat} {op : List Nat} {E L : List Int} {r : Option (List Int × List Int)} (hk : ks[i]? = some 6) (ht : ks[t]? = some 5) (h : goE ks (ks.drop i) i (t :: op) E L = r) : goE ks (ks.drop (i + 1)) (i + 1) (i :: op) E (L.set t i) = r := by
  rw [goE_at hk, goE_cons, if_neg (by omega), if_pos rfl] at h
  simp only [if_pos ht] at h
  exact h
theorem goE_else_bad {ks : List Nat} {i : Nat} {op : List Nat} {E L : List Int} {r : Option (List Int × List Int)} (hk : ks[i]? = some 6) (hb : ∀ t op', op = t :: op' → ¬ ks[t]? = some 5) (h : goE ks (ks.drop i) i op E L = r) : r = none := by
  rw [goE_at hk, goE_cons, if_neg (by omega), if_pos rfl] at h
  cases op with
  | nil => exact h.symm
  | cons t op =>
    simp only [if_neg (hb t op rfl)] at h
    exact h.symm
theorem goE_end {ks : List Nat} {i t : Nat} {op : List Nat} {E L : List Int} {r : Option (List Int × List Int)} (hk : ks[i]? = some 8) (h : goE ks (ks.drop i) i (t :: op) E L = r) : goE ks (ks.drop (i + 1)) (i + 1) op (E.set t i) L = r := by
  rw [goE_at hk, goE_cons, if_neg (by omega), if_neg (by omega), if_pos rfl] at h
  exact h
theorem goE_end_bad {ks : List Nat} {i : Nat} {E L : List Int} {r : Option (List Int × List Int)} (hk : ks[i]? = some 8) (h : goE ks (ks.drop i) i [] E L = r) : r = none := by
  rw [goE_at hk, goE_cons, if_neg (by omega), if_neg (by omega), if_pos rfl] at h
  exact h.symm
theorem goE_skip {ks : List Nat} {i k : Nat} {op : List Nat} {E L : List Int} {r : Option (List Int × List Int)} (hk : ks[i]? = some k) (h5 : k ≠ 5) (h6 : k ≠ 6) (h7 : k ≠ 7) (h8 : k ≠ 8) (h : goE ks (ks.drop i) i op E L = r) : goE ks (ks.drop (i + 1)) (i + 1) op E L = r := by
  rw [goE_at hk, goE_cons, if_neg (by omega), if_neg h6, if_neg h8] at h
  exact h
theorem goE_done {ks : List Nat} {op : List Nat} {E L : List Int} {r : Option (List Int × List Int)} (h : goE ks (ks.drop ks.length) ks.length op E L = r) : r = if op = [] then some (E, L) else none := by
  rw [List.drop_length, goE_nil] at h
  exact h.symm
end Go.Proofs.Syn

/- Rows of a call's own, and lists in them; over any program. (For a seat without the parser's texts.) -/
namespace Go.Proofs.YtlpdjfimefjmcaaGreat
open Go Go.RowKit Go.Proofs.Mm

theorem cell_of {w : World} {b j : Nat} {arr : Array Value} {T : TypeId} {v : Value} (h : w.heap[b]? = some (.cells arr T (0, 0))) (hv : arr[j]? = some v) : w.cell? ⟨b, j, none⟩ = some v := by
  rw [cell_of_row w b j arr T (0, 0) h]; exact hv
theorem free_of {w : World} {b j : Nat} {arr : Array Value} {T : TypeId} (h : w.heap[b]? = some (.cells arr T (0, 0))) : w.frozen? ⟨b, j, none⟩ = false := by
  simp [World.frozen?, h]
theorem heap_new (w : World) (o : Obj) {k : Nat} {x : Obj} (h : w.heap[k]? = some x) : (w.alloc o).heap[k]? = some x := by
  rw [Below.heap_alloc _ _ _ (heap_lt h)]; exact h
theorem heap_set {w : World} {b : Nat} {arr : Array Value} {T : TypeId} (h : w.heap[b]? = some (.cells arr T (0, 0))) (j : Nat) (v : Value) : (w.setCell ⟨b, j, none⟩ v).heap[b]? = some (.cells (arr.setIfInBounds j v) T (0, 0)) := by
  simp only [World.setCell, Array.getElem?_modify, h, Option.map_some, if_true]
  rfl
theorem heap_other {w : World} {b j k : Nat} {v : Value} {x : Obj} (h : w.heap[k]? = some x) (hn : k ≠ b) : (w.setCell ⟨b, j, none⟩ v).heap[k]? = some x := by
  rw [Below.heap_setCell _ _ _ _ hn]; exact h
theorem row_new (W : World) (L : List Value) (T : TypeId) : ∀ (j : Nat) (u : Value), L[j]? = some u → (W.alloc (.cells L.toArray T)).cell? ((⟨W.heap.size, 0, none⟩ : Addr).add j) = some u := by
  intro j u h
  rw [show ((⟨W.heap.size, 0, none⟩ : Addr).add j) = ⟨W.heap.size, j, none⟩ from by unfold Addr.add; split <;> simp_all, World.cell?_alloc_new]
  simpa using h
theorem grown_below {B : Nat} {a w w' : World} {row : Option Nat} (h : Below B a w) (hB : B ≤ w.heap.size) (hg : w.grownBy w' row) (hr : ∀ k, row = some k → B ≤ k) : Below B a w' :=
  h.trans ⟨hg.os, hg.tape, hg.output, hg.size, fun k hk => hg.block k (Nat.lt_of_lt_of_le hk hB) (fun e => absurd (hr k e.symm) (by omega))⟩
theorem own_type {w : World} {B n size : Nat} {E : TypeId} {v : Value} {xs : List Value} (h : w.ownsRow B E size v n xs) {k : Nat} (hk : v.ownBlock = some k) : ∃ cur, w.heap[k]? = some (.cells cur E (0, 0)) := by
  rcases h.2 with ⟨rfl, _⟩ | ⟨g, cap, cur, rfl, _, hg, _⟩
  · cases hk
  · obtain rfl : g = k := by simpa [Value.ownBlock] using hk
    exact ⟨cur, hg⟩
theorem own_chg {w w' : World} {B n size : Nat} {E : TypeId} {v : Value} {xs : List Value} (h : w.ownsRow B E size v n xs) {S : Nat → Prop} (hc : Chg S w w') (hn : ∀ k, v.ownBlock = some k → ¬ S k) : w'.ownsRow B E size v n xs := by
  refine ⟨h.1, ?_⟩
  rcases h.2 with h0 | ⟨g, cap, cur, rfl, hb, hg, rest⟩
  · exact .inl h0
  · exact .inr ⟨g, cap, cur, rfl, hb, hc.heap hg (hn g rfl), rest⟩
theorem own_shape {w : World} {B n size : Nat} {E : TypeId} {v : Value} {xs : List Value} (h : w.ownsRow B E size v n xs) : ∃ q c, v = .slice q n c := by
  rcases h.2 with ⟨rfl, rfl⟩ | ⟨g, cap, cur, rfl, _⟩
  · exact ⟨_, _, rfl⟩
  · exact ⟨_, _, rfl⟩
theorem rowM_shape {m : Mem} {E : TypeId} {size n : Nat} {v : Value} {xs : List Value} (h : RowM m E size v n xs) : ∃ q c, v = .slice q n c := by
  obtain ⟨_, ⟨rfl, rfl⟩ | ⟨g, cap, cur, rfl, _⟩⟩ := h
  · exact ⟨_, _, rfl⟩
  · exact ⟨_, _, rfl⟩
/-- A row of cells, item by item. -/
def Enc {α : Type} (R : List Value → α → Prop) : List Value → List α → Prop
  | cs, [] => cs = []
  | cs, x :: xs => ∃ c r, cs = c ++ r ∧ R c x ∧ Enc R r xs
theorem Enc.app {α : Type} {R : List Value → α → Prop} : ∀ {xs ys : List α} {cs ds : List Value}, Enc R cs xs → Enc R ds ys → Enc R (cs ++ ds) (xs ++ ys)
  | [], ys, cs, ds, h, h' => by
    obtain rfl : cs = [] := h
    exact h'
  | x :: xs, ys, cs, ds, h, h' => by
    obtain ⟨c, r, rfl, h1, h2⟩ := h
    exact ⟨c, r ++ ds, by rw [List.append_assoc], h1, h2.app h'⟩
theorem Enc.one {α : Type} {R : List Value → α → Prop} {c : List Value} {x : α} (h : R c x) : Enc R c [x] := ⟨c, [], by simp, h, rfl⟩
theorem Enc.nil {α : Type} {R : List Value → α → Prop} : Enc R [] ([] : List α) := rfl
theorem Enc.mono {α : Type} {R R' : List Value → α → Prop} (hR : ∀ c x, R c x → R' c x) : ∀ {xs : List α} {cs : List Value}, Enc R cs xs → Enc R' cs xs
  | [], _, h => h
  | _ :: _, _, ⟨c, r, e, h1, h2⟩ => ⟨c, r, e, hR _ _ h1, h2.mono hR⟩
end Go.Proofs.YtlpdjfimefjmcaaGreat

/- Sources that are handed in: rows of statements and expressions, of whatever kinds and names, as they read in memory, with a mark behind each row or without. -/
namespace Go.Proofs.YtlpdjfimefjmcaaGreat
open Go Go.RowKit Go.Proofs.Mm

/-- A term, a statement, of whatever kind. -/
structure TmZ where
  kind : Int
  value : Int
  name : ByteArray
structure StZ where
  kind : Int
  name : ByteArray
  targets : List ByteArray
  exprs : List (List TmZ)
instance : Inhabited TmZ := ⟨⟨0, 0, ⟨#[]⟩⟩⟩
instance : Inhabited StZ := ⟨⟨0, ⟨#[]⟩, [], []⟩⟩
/-- What cells can be read. -/
abbrev Cl := Addr → Option Value
def CLe (C D : Cl) : Prop := ∀ a v, C a = some v → D a = some v
theorem CLe.refl (C : Cl) : CLe C C := fun _ _ h => h
theorem CLe.trans {A B C : Cl} (h : CLe A B) (k : CLe B C) : CLe A C := fun a v e => k a v (h a v e)
def wC (w : World) : Cl := fun a => w.cell? a
/-- The cells of the blocks that are known. -/
def mC (m : Mem) : Cl := fun a => match m a.block with
  | some (.cells cur _ r) => if a.spot = none ∧ r = (0, 0) then cur[a.off]? else none
  | _ => none
theorem below_cle {w w' : World} (h : Below w.heap.size w w') : CLe (wC w) (wC w') := fun _ _ e => (h.cell (World.block_lt_of_cell? _ _ e)).trans e
theorem mle_cle {m m' : Mem} (h : m.le m') : CLe (mC m) (mC m') := by
  intro a v e
  unfold mC at e ⊢
  cases hm : m a.block with
  | none => rw [hm] at e; cases e
  | some o => rw [hm] at e; rw [h _ _ hm]; exact e
theorem has_cle {w : World} {m : Mem} (h : Has w m) : CLe (mC m) (wC w) := by
  intro a v e
  obtain ⟨b, o, s⟩ := a
  unfold mC at e
  simp only at e
  cases hm : m b with
  | none => rw [hm] at e; cases e
  | some ob =>
    rw [hm] at e
    cases ob with
    | cells cur T r =>
      simp only at e
      split at e
      · rename_i hs
        obtain ⟨hs, _⟩ := hs
        subst hs
        unfold wC
        rw [cell_of_row w b o cur T r (h _ _ hm)]
        exact e
      · cases e
    | _ => cases e
theorem has_free {w : World} {m : Mem} (h : Has w m) {a : Addr} {v : Value} (e : mC m a = some v) : w.frozen? a = false := by
  unfold mC at e
  cases hm : m a.block with
  | none => rw [hm] at e; cases e
  | some ob =>
    rw [hm] at e
    cases ob with
    | cells cur T r =>
      simp only at e
      split at e
      · rename_i hs
        have := h _ _ hm
        rw [hs.2] at this
        simp [World.frozen?, this]
      · cases e
    | _ => cases e
/-- A row of cells behind a slice. -/
def RdO (C : Cl) (q : Option Addr) (cs : List Value) : Prop := cs = [] ∨ ∃ g o, q = some ⟨g, o, none⟩ ∧ ∀ j u, cs[j]? = some u → C ⟨g, o + j, none⟩ = some u
theorem RdO.le {C D : Cl} {q : Option Addr} {cs : List Value} (h : RdO C q cs) (hc : CLe C D) : RdO D q cs := by
  rcases h with h | ⟨g, o, h1, h2⟩
  · exact .inl h
  · exact .inr ⟨g, o, h1, fun j u hu => hc _ _ (h2 j u hu)⟩
theorem RdO.left {C : Cl} {q : Option Addr} {cs ds : List Value} (h : RdO C q (cs ++ ds)) : RdO C q cs := by
  rcases h with h | ⟨g, o, h1, h2⟩
  · exact .inl (List.append_eq_nil_iff.1 h).1
  · exact .inr ⟨g, o, h1, fun j u hu => h2 j u (by rw [List.getElem?_append_left (by have := (List.getElem?_eq_some_iff.1 hu).1; exact this)]; exact hu)⟩
theorem RowM.rdO {m : Mem} {E : TypeId} {size n c : Nat} {q : Option Addr} {xs : List Value} (h : RowM m E size (.slice q n c) n xs) : RdO (mC m) q xs := by
  obtain ⟨h1, ⟨h2, rfl⟩ | ⟨g, cap, cur, h2, h3, h4, h5, h6, h7⟩⟩ := h
  · exact .inl (List.eq_nil_of_length_eq_zero (by simpa using h1))
  · injection h2 with h2 _ _
    refine .inr ⟨g, 0, h2, fun j u hu => ?_⟩
    rw [← h7, List.getElem?_take] at hu
    split at hu
    · unfold mC
      simp only [h3, Nat.zero_add]
      simpa using hu
    · cases hu
/-- A slice that reads as a list, with the cells mk behind. -/
def SlX {α : Type} (mk : List Value) (bs : Nat) (C : Cl) (R : List Value → α → Prop) (v : Value) (l : List α) : Prop :=
  ∃ q c cs, v = .slice q l.length c ∧ (mk = [] ∨ l.length + 1 ≤ c) ∧ RdO C q (cs ++ mk) ∧ Enc R cs l ∧ l.length * bs ≤ 140737488351232 ∧ c ≤ maxLen ∧ (q = none → c = 0) ∧ l.length ≤ c
theorem SlX.mono {α : Type} {mk : List Value} {bs : Nat} {C D : Cl} {R R' : List Value → α → Prop} {v : Value} {l : List α} (h : SlX mk bs C R v l) (hc : CLe C D) (hR : ∀ c x, R c x → R' c x) : SlX mk bs D R' v l := by
  obtain ⟨q, c, cs, h1, h2, h3, h4, h5, h6⟩ := h
  exact ⟨q, c, cs, h1, h2, h3.le hc, h4.mono hR, h5, h6⟩
def tmZ (t : TmZ) : List Value := [.int .i64 t.kind, .int .i64 t.value, .string t.name]
def mkS (lt : Bool) : List Value := if lt then [.string ⟨#[109, 97, 114, 107]⟩] else []
def mkT (lt : Bool) : List Value := if lt then [.int .i64 (-71), .int .i64 0, .string ⟨#[]⟩] else []
def mkE (lt : Bool) : List Value := if lt then [.slice none 0 0] else []
def mkB (lt : Bool) : List Value := if lt then [.int .i64 (-71), .string ⟨#[]⟩, .slice none 0 0, .slice none 0 0] else []
def StrR (lt : Bool) (C : Cl) (v : Value) (l : List ByteArray) : Prop := SlX (mkS lt) 16 C (fun c s => c = [Value.string s]) v l
def TmsR (lt : Bool) (C : Cl) (v : Value) (l : List TmZ) : Prop := SlX (mkT lt) 32 C (fun c t => c = tmZ t) v l
def ExR1 (lt : Bool) (C : Cl) (c : List Value) (t : List TmZ) : Prop := ∃ u, c = [u] ∧ TmsR lt C u t
def ExsR (lt : Bool) (C : Cl) (v : Value) (l : List (List TmZ)) : Prop := SlX (mkE lt) 24 C (ExR1 lt C) v l
def StR1 (lt : Bool) (C : Cl) (c : List Value) (s : StZ) : Prop := ∃ vt ve, c = [.int .i64 s.kind, .string s.name, vt, ve] ∧ StrR lt C vt s.targets ∧ ExsR lt C ve s.exprs
def BdR (lt : Bool) (C : Cl) (v : Value) (l : List StZ) : Prop := SlX (mkB lt) 72 C (StR1 lt C) v l
section
variable {lt : Bool} {C D : Cl}
theorem StrR.le {v : Value} {l : List ByteArray} (h : StrR lt C v l) (hc : CLe C D) : StrR lt D v l := SlX.mono h hc fun _ _ e => e
theorem TmsR.le {v : Value} {l : List TmZ} (h : TmsR lt C v l) (hc : CLe C D) : TmsR lt D v l := SlX.mono h hc fun _ _ e => e
theorem ExR1.le {c : List Value} {l : List TmZ} (h : ExR1 lt C c l) (hc : CLe C D) : ExR1 lt D c l := let ⟨u, e, k⟩ := h; ⟨u, e, k.le hc⟩
theorem ExsR.le {v : Value} {l : List (List TmZ)} (h : ExsR lt C v l) (hc : CLe C D) : ExsR lt D v l := SlX.mono h hc fun _ _ e => e.le hc
theorem StR1.le {c : List Value} {s : StZ} (h : StR1 lt C c s) (hc : CLe C D) : StR1 lt D c s := let ⟨vt, ve, e, a, b⟩ := h; ⟨vt, ve, e, a.le hc, b.le hc⟩
theorem BdR.le {v : Value} {l : List StZ} (h : BdR lt C v l) (hc : CLe C D) : BdR lt D v l := SlX.mono h hc fun _ _ e => e.le hc
end
theorem encZ_at {α : Type} {R : List Value → α → Prop} {size : Nat} (hR : ∀ c x, R c x → c.length = size) : ∀ {l : List α} {cs : List Value}, Enc R cs l → cs.length = l.length * size ∧ ∀ j (h : j < l.length), ∃ c, R c l[j] ∧ ∀ r, r < size → cs[j * size + r]? = c[r]?
  | [], cs, he => by obtain rfl : cs = [] := he; exact ⟨by simp, fun j h => absurd h (by simp)⟩
  | x :: l, cs, he => by
    obtain ⟨c, d, rfl, h1, h2⟩ := he
    have hc := hR _ _ h1
    obtain ⟨h5, h6⟩ := encZ_at hR h2
    refine ⟨by rw [List.length_append, hc, h5, List.length_cons, Nat.succ_mul]; omega, fun j h => ?_⟩
    cases j with
    | zero => exact ⟨c, h1, fun r hr => by rw [Nat.zero_mul, Nat.zero_add, List.getElem?_append_left (by omega)]⟩
    | succ j =>
      obtain ⟨c', h3, h4⟩ := h6 j (by simpa using h)
      refine ⟨c', h3, fun r hr => ?_⟩
      rw [show (j + 1) * size + r = c.length + (j * size + r) by rw [hc, Nat.succ_mul]; omega, List.getElem?_append_right (by omega), Nat.add_sub_cancel_left]
      exact h4 r hr
/-- What an element reads as. -/
theorem SlX.at {α : Type} {mk : List Value} {bs : Nat} {C : Cl} {R : List Value → α → Prop} {v : Value} {l : List α} {size : Nat} (h : SlX mk (bs + 1) C R v l) (hs : 0 < size) (hR : ∀ c x, R c x → c.length = size) :
    ∃ q c, v = .slice q l.length c ∧ (mk = [] ∨ l.length + 1 ≤ c) ∧ l.length ≤ 140737488351232 ∧ c ≤ maxLen ∧
      (∀ j (hj : j < l.length), ∃ g o e, q = some ⟨g, o, none⟩ ∧ R e l[j] ∧ ∀ r u, r < size → e[r]? = some u → C ⟨g, o + (j * size + r), none⟩ = some u) ∧
      (mk = [] ∨ ∃ g o, q = some ⟨g, o, none⟩ ∧ ∀ r u, mk[r]? = some u → C ⟨g, o + (l.length * size + r), none⟩ = some u) := by
  obtain ⟨q, c, cs, h1, h2, h3, h4, h5, h6, _⟩ := h
  obtain ⟨hl, ha⟩ := encZ_at hR h4
  refine ⟨q, c, h1, h2, Nat.le_trans (Nat.le_mul_of_pos_right _ (Nat.succ_pos _)) h5, h6, fun j hj => ?_, ?_⟩
  · obtain ⟨e, e1, e2⟩ := ha j hj
    have hle : j * size + size ≤ l.length * size := by rw [← Nat.succ_mul]; exact Nat.mul_le_mul_right _ hj
    rcases h3 with h3 | ⟨g, o, h3, h7⟩
    · have := (List.append_eq_nil_iff.1 h3).1
      rw [this] at hl
      simp only [List.length_nil] at hl
      omega
    · refine ⟨g, o, e, h3, e1, fun r u hr hu => h7 _ _ ?_⟩
      rw [List.getElem?_append_left (by omega), e2 r hr]
      exact hu
  · by_cases hm : mk = []
    · exact .inl hm
    · refine .inr ?_
      rcases h3 with h3 | ⟨g, o, h3, h7⟩
      · exact absurd (List.append_eq_nil_iff.1 h3).2 hm
      · refine ⟨g, o, h3, fun r u hu => h7 _ _ ?_⟩
        rw [List.getElem?_append_right (by omega), hl, Nat.add_sub_cancel_left]
        exact hu
end Go.Proofs.YtlpdjfimefjmcaaGreat

/- Plain facts on words: what a text's words are, one by one from the left on; a word by itself, or with a blank behind it, is the same word. (No seat's own names: to be renamed to the seat that needs it.) -/
namespace Go.Proofs.YtlpdjfimefjmcaaGreat

def letterB (c : Nat) : Bool := (97 ≤ c && c ≤ 122) || c == 95
def digitB (c : Nat) : Bool := 48 ≤ c && c ≤ 57
def blankB (c : Nat) : Bool := c == 9 || c == 10 || c == 13 || c == 32
def nameB (c : Nat) : Bool := letterB c || digitB c

/-- principal, global, array, channel, func, var, if, else, while, send, return. -/
def keysL : List (List Nat) := [[112, 114, 105, 110, 99, 105, 112, 97, 108], [103, 108, 111, 98, 97, 108], [97, 114, 114, 97, 121], [99, 104, 97, 110, 110, 101, 108], [102, 117, 110, 99], [118, 97, 114], [105, 102], [101, 108, 115, 101], [119, 104, 105, 108, 101], [115, 101, 110, 100], [114, 101, 116, 117, 114, 110]]
/-- The marks of one byte, and of two. -/
def mark1 : List Nat := [123, 125, 40, 41, 91, 93, 44, 59, 61, 60, 43, 45, 42, 47, 37, 38, 124, 94, 33, 126]
def mark2 : List (List Nat) := [[61, 61], [33, 61], [60, 61], [60, 60], [62, 62]]

/-- How long the word at a text's head is (0: none), and its kind. -/
def wordL : List Nat → Nat × Nat
  | [] => (0, 0)
  | c :: l =>
    if letterB c then
      let n := ((c :: l).takeWhile nameB).length
      (n, if (c :: l).take n ∈ keysL then 2 else 1)
    else if digitB c then (((c :: l).takeWhile digitB).length, 3)
    else if (c :: l).take 2 ∈ mark2 then (2, 4)
    else if c ∈ mark1 then (1, 4)
    else (0, 0)

theorem wordL_le (l : List Nat) : (wordL l).1 ≤ l.length := by
  cases l with
  | nil => simp [wordL]
  | cons c l =>
    rw [wordL]
    split
    · exact (List.takeWhile_sublist _).length_le
    · split
      · exact (List.takeWhile_sublist _).length_le
      · split
        · rename_i h
          have : ((c :: l).take 2).length = 2 := by
            have : ∀ m ∈ mark2, m.length = 2 := by decide
            exact this _ h
          rw [List.length_take] at this
          show 2 ≤ _
          omega
        · split
          · simp
          · simp

theorem takeWhile_stop {p : Nat → Bool} : ∀ (t r : List Nat), (∀ x ∈ t, p x = true) → (∀ c, r.head? = some c → p c = false) → (t ++ r).takeWhile p = t
  | [], r, _, hr => by
    cases r with
    | nil => rfl
    | cons c r => simp [hr c rfl]
  | x :: t, r, ht, hr => by
    rw [List.cons_append, List.takeWhile_cons, if_pos (ht x (List.mem_cons_self ..)), takeWhile_stop t r (fun y hy => ht y (List.mem_cons_of_mem _ hy)) hr]

theorem mem_takeWhile {p : Nat → Bool} : ∀ (l : List Nat) (x : Nat), x ∈ l.takeWhile p → p x = true
  | [], x, h => absurd h (by simp)
  | c :: l, x, h => by
    rw [List.takeWhile_cons] at h
    split at h
    · rename_i hc
      rcases List.mem_cons.1 h with rfl | h
      · exact hc
      · exact mem_takeWhile l x h
    · simp at h

theorem takeWhile_is_take {p : Nat → Bool} : ∀ l : List Nat, l.take (l.takeWhile p).length = l.takeWhile p
  | [] => rfl
  | c :: l => by
    rw [List.takeWhile_cons]
    split
    · rw [List.length_cons, List.take_succ_cons, takeWhile_is_take l]
    · rfl

/-- A word by itself, or with a blank behind it, is the same word. -/
theorem wordL_again (s : List Nat) (h : (wordL s).1 ≠ 0) (r : List Nat) (hr : r = [] ∨ ∃ r', r = 32 :: r') : wordL (s.take (wordL s).1 ++ r) = wordL s := by
  cases s with
  | nil => exact absurd rfl h
  | cons c l =>
    have hb : ∀ x, r.head? = some x → nameB x = false ∧ digitB x = false := by
      intro x hx
      rcases hr with rfl | ⟨r', rfl⟩
      · simp at hx
      · obtain rfl : 32 = x := by simpa using hx
        decide
    by_cases hl : letterB c = true
    · have hw : wordL (c :: l) = (((c :: l).takeWhile nameB).length, if (c :: l).take ((c :: l).takeWhile nameB).length ∈ keysL then 2 else 1) := by
        rw [wordL, if_pos hl]
      rw [hw]
      simp only
      rw [takeWhile_is_take]
      have hn : nameB c = true := by unfold nameB; rw [hl]; rfl
      have hc : (c :: l).takeWhile nameB = c :: l.takeWhile nameB := by rw [List.takeWhile_cons, if_pos hn]
      have hst : ((c :: l).takeWhile nameB ++ r).takeWhile nameB = (c :: l).takeWhile nameB := takeWhile_stop _ _ (fun x hx => mem_takeWhile _ x hx) (fun x hx => (hb x hx).1)
      rw [hc] at hst ⊢
      rw [List.cons_append] at hst ⊢
      rw [wordL, if_pos hl]
      simp only
      rw [hst, ← List.cons_append, List.take_left]
    · by_cases hd : digitB c = true
      · have hw : wordL (c :: l) = (((c :: l).takeWhile digitB).length, 3) := by rw [wordL, if_neg hl, if_pos hd]
        rw [hw]
        simp only
        rw [takeWhile_is_take]
        have hc : (c :: l).takeWhile digitB = c :: l.takeWhile digitB := by rw [List.takeWhile_cons, if_pos hd]
        have hst : ((c :: l).takeWhile digitB ++ r).takeWhile digitB = (c :: l).takeWhile digitB := takeWhile_stop _ _ (fun x hx => mem_takeWhile _ x hx) (fun x hx => (hb x hx).2)
        rw [hc] at hst ⊢
        rw [List.cons_append] at hst ⊢
        rw [wordL, if_neg hl, if_pos hd, hst]
      · by_cases h2 : (c :: l).take 2 ∈ mark2
        · have hw : wordL (c :: l) = (2, 4) := by rw [wordL, if_neg hl, if_neg hd, if_pos h2]
          rw [hw]
          simp only
          obtain ⟨d, l', rfl⟩ : ∃ d l', l = d :: l' := by
            cases l with
            | nil => exact absurd h2 (by simp [mark2])
            | cons d l' => exact ⟨d, l', rfl⟩
          show wordL (c :: d :: r) = (2, 4)
          rw [wordL, if_neg hl, if_neg hd, if_pos (by exact h2)]
        · by_cases h1 : c ∈ mark1
          · have hw : wordL (c :: l) = (1, 4) := by rw [wordL, if_neg hl, if_neg hd, if_neg h2, if_pos h1]
            rw [hw]
            show wordL (c :: r) = (1, 4)
            rw [wordL, if_neg hl, if_neg hd, if_neg ?_, if_pos h1]
            rcases hr with rfl | ⟨r', rfl⟩
            · simp [mark2]
            · simp [mark2]
          · exact absurd (by rw [wordL, if_neg hl, if_neg hd, if_neg h2, if_neg h1]) h
end Go.Proofs.YtlpdjfimefjmcaaGreat

/- A text's bytes as numbers. -/
namespace Go.Proofs.YtlpdjfimefjmcaaGreat
open Go

def bl (s : ByteArray) : List Nat := s.data.toList.map UInt8.toNat
theorem bl_length (s : ByteArray) : (bl s).length = s.size := by simp [bl]
theorem bl_get (s : ByteArray) (i : Nat) (h : i < s.size) : (bl s)[i]? = some (s[i]).toNat := by
  unfold bl
  rw [List.getElem?_map, Array.getElem?_toList, Array.getElem?_eq_getElem (by simpa using h)]
  rfl
theorem bl_inj {s t : ByteArray} (h : bl s = bl t) : s = t := by
  unfold bl at h
  have := (List.map_inj_right (fun a b e => UInt8.toNat_inj.1 e)).1 h
  exact ByteArray.ext (Array.toList_inj.1 this)
end Go.Proofs.YtlpdjfimefjmcaaGreat

/- Sources that are handed in, of whatever names, labels and statements, as they read in memory, with a mark behind each row or without. -/
namespace Go.Proofs.YtlpdjfimefjmcaaGreat
open Go Go.RowKit Go.Proofs.Mm

structure DeZ where
  name : ByteArray
  label : Nat
structure ArZ where
  name : ByteArray
  len : Int
  label : Nat
structure FnZ where
  name : ByteArray
  level : Nat
  params : List DeZ
  results : List Nat
  vars : List DeZ
  body : List StZ
structure SoZ where
  principals : List ByteArray
  globals : List DeZ
  arrays : List ArZ
  channels : List DeZ
  funcs : List FnZ
instance : Inhabited DeZ := ⟨⟨⟨#[]⟩, 0⟩⟩
instance : Inhabited ArZ := ⟨⟨⟨#[]⟩, 0, 0⟩⟩
instance : Inhabited FnZ := ⟨⟨⟨#[]⟩, 0, [], [], [], []⟩⟩
instance : Inhabited SoZ := ⟨⟨[], [], [], [], []⟩⟩
def deZ (d : DeZ) : List Value := [.string d.name, .int .u64 (d.label : Nat)]
def laZ (l : Nat) : List Value := [.int .u64 (l : Nat)]
def arZv (a : ArZ) : List Value := [.string a.name, .int .i64 a.len, .int .u64 (a.label : Nat)]
def mkD (lt : Bool) : List Value := if lt then [.string ⟨#[109, 97, 114, 107]⟩, .int .u64 0] else []
def mkL (lt : Bool) : List Value := if lt then [.int .u64 7171] else []
def mkA (lt : Bool) : List Value := if lt then [.string ⟨#[109, 97, 114, 107]⟩, .int .i64 0, .int .u64 0] else []
def mkF (lt : Bool) : List Value := if lt then [.string ⟨#[109, 97, 114, 107]⟩, .int .u64 0, .slice none 0 0, .slice none 0 0, .slice none 0 0, .slice none 0 0] else []
def u64B : Nat := 18446744073709551616
def DesR (lt : Bool) (C : Cl) (v : Value) (l : List DeZ) : Prop := SlX (mkD lt) 24 C (fun c d => c = deZ d ∧ d.label < u64B) v l
def LasR (lt : Bool) (C : Cl) (v : Value) (l : List Nat) : Prop := SlX (mkL lt) 8 C (fun c x => c = laZ x ∧ x < u64B) v l
def ArsR (lt : Bool) (C : Cl) (v : Value) (l : List ArZ) : Prop := SlX (mkA lt) 32 C (fun c a => c = arZv a ∧ a.label < u64B) v l
def FnR1 (lt : Bool) (C : Cl) (c : List Value) (f : FnZ) : Prop :=
  ∃ vp vr vv vb, c = [.string f.name, .int .u64 (f.level : Nat), vp, vr, vv, vb] ∧ f.level < u64B ∧ DesR lt C vp f.params ∧ LasR lt C vr f.results ∧ DesR lt C vv f.vars ∧ BdR lt C vb f.body
def FnsR (lt : Bool) (C : Cl) (v : Value) (l : List FnZ) : Prop := SlX (mkF lt) 120 C (FnR1 lt C) v l
def SrcR (lt : Bool) (C : Cl) (v : Value) (s : SoZ) : Prop :=
  ∃ v1 v2 v3 v4 v5, v = .agg #[v1, v2, v3, v4, v5] ∧ StrR lt C v1 s.principals ∧ DesR lt C v2 s.globals ∧ ArsR lt C v3 s.arrays ∧ DesR lt C v4 s.channels ∧ FnsR lt C v5 s.funcs
theorem de_lenZ (c : List Value) (d : DeZ) (h : c = deZ d ∧ d.label < u64B) : c.length = 2 := by rw [h.1]; rfl
theorem la_lenZ (c : List Value) (d : Nat) (h : c = laZ d ∧ d < u64B) : c.length = 1 := by rw [h.1]; rfl
theorem ar_lenZ (c : List Value) (d : ArZ) (h : c = arZv d ∧ d.label < u64B) : c.length = 3 := by rw [h.1]; rfl
theorem str_lenZ (c : List Value) (d : ByteArray) (h : c = [Value.string d]) : c.length = 1 := by rw [h]; rfl
theorem tm_lenZ (c : List Value) (d : TmZ) (h : c = tmZ d) : c.length = 3 := by rw [h]; rfl
section
variable {lt : Bool} {C D : Cl}
theorem ex_lenZ (c : List Value) (d : List TmZ) (h : ExR1 lt C c d) : c.length = 1 := by obtain ⟨u, rfl, _⟩ := h; rfl
theorem st_lenZ (c : List Value) (d : StZ) (h : StR1 lt C c d) : c.length = 4 := by obtain ⟨vt, ve, rfl, _⟩ := h; rfl
theorem fn_lenZ (c : List Value) (d : FnZ) (h : FnR1 lt C c d) : c.length = 6 := by obtain ⟨a, b, e, f, rfl, _⟩ := h; rfl
theorem DesR.le {v : Value} {l : List DeZ} (h : DesR lt C v l) (hc : CLe C D) : DesR lt D v l := SlX.mono h hc fun _ _ e => e
theorem LasR.le {v : Value} {l : List Nat} (h : LasR lt C v l) (hc : CLe C D) : LasR lt D v l := SlX.mono h hc fun _ _ e => e
theorem ArsR.le {v : Value} {l : List ArZ} (h : ArsR lt C v l) (hc : CLe C D) : ArsR lt D v l := SlX.mono h hc fun _ _ e => e
theorem FnR1.le {c : List Value} {f : FnZ} (h : FnR1 lt C c f) (hc : CLe C D) : FnR1 lt D c f := by
  obtain ⟨vp, vr, vv, vb, e, h0, h1, h2, h3, h4⟩ := h
  exact ⟨vp, vr, vv, vb, e, h0, h1.le hc, h2.le hc, h3.le hc, h4.le hc⟩
theorem FnsR.le {v : Value} {l : List FnZ} (h : FnsR lt C v l) (hc : CLe C D) : FnsR lt D v l := SlX.mono h hc fun _ _ e => e.le hc
theorem SrcR.le {v : Value} {s : SoZ} (h : SrcR lt C v s) (hc : CLe C D) : SrcR lt D v s := by
  obtain ⟨v1, v2, v3, v4, v5, e, h1, h2, h3, h4, h5⟩ := h
  exact ⟨v1, v2, v3, v4, v5, e, h1.le hc, h2.le hc, h3.le hc, h4.le hc, h5.le hc⟩
end
/-! ## Rows, item by item -/
def StrAt (C : Cl) (q : Option Addr) (l : List ByteArray) : Prop := ∀ j (hj : j < l.length), ∃ g o, q = some ⟨g, o, none⟩ ∧ C ⟨g, o + j, none⟩ = some (.string l[j])
def DeAt (C : Cl) (q : Option Addr) (l : List DeZ) : Prop := ∀ j (hj : j < l.length), ∃ g o, q = some ⟨g, o, none⟩ ∧ C ⟨g, o + j * 2, none⟩ = some (.string l[j].name) ∧ C ⟨g, o + j * 2 + 1, none⟩ = some (.int .u64 (l[j].label : Nat)) ∧ l[j].label < u64B
def LaAt (C : Cl) (q : Option Addr) (l : List Nat) : Prop := ∀ j (hj : j < l.length), ∃ g o, q = some ⟨g, o, none⟩ ∧ C ⟨g, o + j, none⟩ = some (.int .u64 (l[j] : Nat)) ∧ l[j] < u64B
def ArAt (C : Cl) (q : Option Addr) (l : List ArZ) : Prop := ∀ j (hj : j < l.length), ∃ g o, q = some ⟨g, o, none⟩ ∧ C ⟨g, o + j * 3, none⟩ = some (.string l[j].name) ∧ C ⟨g, o + j * 3 + 1, none⟩ = some (.int .i64 l[j].len) ∧ C ⟨g, o + j * 3 + 2, none⟩ = some (.int .u64 (l[j].label : Nat)) ∧ l[j].label < u64B
def TmAt (C : Cl) (q : Option Addr) (l : List TmZ) : Prop := ∀ j (hj : j < l.length), ∃ g o, q = some ⟨g, o, none⟩ ∧ C ⟨g, o + j * 3, none⟩ = some (.int .i64 l[j].kind) ∧ C ⟨g, o + j * 3 + 1, none⟩ = some (.int .i64 l[j].value) ∧ C ⟨g, o + j * 3 + 2, none⟩ = some (.string l[j].name)
def ExAt (lt : Bool) (C : Cl) (q : Option Addr) (l : List (List TmZ)) : Prop := ∀ j (hj : j < l.length), ∃ g o qe ce, q = some ⟨g, o, none⟩ ∧ C ⟨g, o + j, none⟩ = some (.slice qe l[j].length ce) ∧ TmsR lt C (.slice qe l[j].length ce) l[j]
def StAt (lt : Bool) (C : Cl) (q : Option Addr) (l : List StZ) : Prop := ∀ j (hj : j < l.length), ∃ g o qt ct qe ce, q = some ⟨g, o, none⟩ ∧ C ⟨g, o + j * 4, none⟩ = some (.int .i64 l[j].kind) ∧ C ⟨g, o + j * 4 + 1, none⟩ = some (.string l[j].name) ∧ C ⟨g, o + j * 4 + 2, none⟩ = some (.slice qt l[j].targets.length ct) ∧ C ⟨g, o + j * 4 + 3, none⟩ = some (.slice qe l[j].exprs.length ce) ∧ StrR lt C (.slice qt l[j].targets.length ct) l[j].targets ∧ ExsR lt C (.slice qe l[j].exprs.length ce) l[j].exprs
/-- A function as it lies. -/
def FnLies (lt : Bool) (C : Cl) (f : FnZ) (qp : Option Addr) (cp : Nat) (qr : Option Addr) (cr : Nat) (qv : Option Addr) (cv : Nat) (qb : Option Addr) (cb : Nat) : Prop :=
  f.level < u64B ∧ DesR lt C (.slice qp f.params.length cp) f.params ∧ LasR lt C (.slice qr f.results.length cr) f.results ∧ DesR lt C (.slice qv f.vars.length cv) f.vars ∧ BdR lt C (.slice qb f.body.length cb) f.body
def FnAt (lt : Bool) (C : Cl) (q : Option Addr) (l : List FnZ) : Prop := ∀ j (hj : j < l.length), ∃ g o qp cp qr cr qv cv qb cb, q = some ⟨g, o, none⟩ ∧ C ⟨g, o + j * 6, none⟩ = some (.string l[j].name) ∧ C ⟨g, o + j * 6 + 1, none⟩ = some (.int .u64 (l[j].level : Nat)) ∧
  C ⟨g, o + j * 6 + 2, none⟩ = some (.slice qp l[j].params.length cp) ∧ C ⟨g, o + j * 6 + 3, none⟩ = some (.slice qr l[j].results.length cr) ∧ C ⟨g, o + j * 6 + 4, none⟩ = some (.slice qv l[j].vars.length cv) ∧ C ⟨g, o + j * 6 + 5, none⟩ = some (.slice qb l[j].body.length cb) ∧ FnLies lt C l[j] qp cp qr cr qv cv qb cb
theorem slx_shape {α : Type} {mk : List Value} {bs : Nat} {C : Cl} {R : List Value → α → Prop} {v : Value} {l : List α} (h : SlX mk bs C R v l) : ∃ q c, v = .slice q l.length c := let ⟨q, c, _, e, _⟩ := h; ⟨q, c, e⟩
theorem slx_len {α : Type} {mk : List Value} {bs : Nat} {C : Cl} {R : List Value → α → Prop} {v : Value} {l : List α} (h : SlX mk bs C R v l) : l.length * bs ≤ 140737488351232 := by
  obtain ⟨_, _, _, _, _, _, _, h5, _⟩ := h; exact h5
section
variable {lt : Bool} {C : Cl} {q : Option Addr} {n c : Nat}
theorem slx_at {α : Type} {mk : List Value} {bs : Nat} {R : List Value → α → Prop} {l : List α} {size : Nat} (h : SlX mk (bs + 1) C R (.slice q n c) l) (hs : 0 < size) (hR : ∀ c x, R c x → c.length = size) :
    ∀ j (hj : j < l.length), ∃ g o e, q = some ⟨g, o, none⟩ ∧ R e l[j] ∧ ∀ r u, r < size → e[r]? = some u → C ⟨g, o + j * size + r, none⟩ = some u := by
  intro j hj
  obtain ⟨q', c', e1, _, _, _, ha, _⟩ := h.at hs hR
  obtain ⟨rfl, _, _⟩ : q = q' ∧ n = l.length ∧ c = c' := by injection e1 with a b c; exact ⟨a, b, c⟩
  obtain ⟨g, o, e, h1, h2, h3⟩ := ha j hj
  exact ⟨g, o, e, h1, h2, fun r u hr hu => by rw [Nat.add_assoc]; exact h3 r u hr hu⟩
theorem StrR.cells {l : List ByteArray} (h : StrR lt C (.slice q n c) l) : StrAt C q l := by
  intro j hj
  obtain ⟨g, o, e, h1, rfl, h3⟩ := slx_at (size := 1) h (by decide) str_lenZ j hj
  refine ⟨g, o, h1, ?_⟩
  have := h3 0 _ (by decide) rfl
  simpa using this
theorem DesR.cells {l : List DeZ} (h : DesR lt C (.slice q n c) l) : DeAt C q l := by
  intro j hj
  obtain ⟨g, o, e, h1, ⟨rfl, hb⟩, h3⟩ := slx_at (size := 2) h (by decide) de_lenZ j hj
  exact ⟨g, o, h1, h3 0 _ (by decide) rfl, h3 1 _ (by decide) rfl, hb⟩
theorem LasR.cells {l : List Nat} (h : LasR lt C (.slice q n c) l) : LaAt C q l := by
  intro j hj
  obtain ⟨g, o, e, h1, ⟨rfl, hb⟩, h3⟩ := slx_at (size := 1) h (by decide) la_lenZ j hj
  refine ⟨g, o, h1, ?_, hb⟩
  have := h3 0 _ (by decide) rfl
  simpa using this
theorem ArsR.cells {l : List ArZ} (h : ArsR lt C (.slice q n c) l) : ArAt C q l := by
  intro j hj
  obtain ⟨g, o, e, h1, ⟨rfl, hb⟩, h3⟩ := slx_at (size := 3) h (by decide) ar_lenZ j hj
  exact ⟨g, o, h1, h3 0 _ (by decide) rfl, h3 1 _ (by decide) rfl, h3 2 _ (by decide) rfl, hb⟩
theorem TmsR.cells {l : List TmZ} (h : TmsR lt C (.slice q n c) l) : TmAt C q l := by
  intro j hj
  obtain ⟨g, o, e, h1, rfl, h3⟩ := slx_at (size := 3) h (by decide) tm_lenZ j hj
  exact ⟨g, o, h1, h3 0 _ (by decide) rfl, h3 1 _ (by decide) rfl, h3 2 _ (by decide) rfl⟩
theorem ExsR.cells {l : List (List TmZ)} (h : ExsR lt C (.slice q n c) l) : ExAt lt C q l := by
  intro j hj
  obtain ⟨g, o, e, h1, ⟨u, rfl, hu⟩, h3⟩ := slx_at (size := 1) h (by decide) ex_lenZ j hj
  obtain ⟨qe, ce, rfl⟩ := slx_shape hu
  refine ⟨g, o, qe, ce, h1, ?_, hu⟩
  have := h3 0 _ (by decide) rfl
  simpa using this
theorem BdR.cells {l : List StZ} (h : BdR lt C (.slice q n c) l) : StAt lt C q l := by
  intro j hj
  obtain ⟨g, o, e, h1, ⟨vt, ve, rfl, ht, he⟩, h3⟩ := slx_at (size := 4) h (by decide) st_lenZ j hj
  obtain ⟨qt, ct, rfl⟩ := slx_shape ht
  obtain ⟨qe, ce, rfl⟩ := slx_shape he
  exact ⟨g, o, qt, ct, qe, ce, h1, h3 0 _ (by decide) rfl, h3 1 _ (by decide) rfl, h3 2 _ (by decide) rfl, h3 3 _ (by decide) rfl, ht, he⟩
theorem FnsR.cells {l : List FnZ} (h : FnsR lt C (.slice q n c) l) : FnAt lt C q l := by
  intro j hj
  obtain ⟨g, o, e, h1, ⟨vp, vr, vv, vb, rfl, hl, hp, hr, hv, hb⟩, h3⟩ := slx_at (size := 6) h (by decide) fn_lenZ j hj
  obtain ⟨qp, cp, rfl⟩ := slx_shape hp
  obtain ⟨qr, cr, rfl⟩ := slx_shape hr
  obtain ⟨qv, cv, rfl⟩ := slx_shape hv
  obtain ⟨qb, cb, rfl⟩ := slx_shape hb
  exact ⟨g, o, qp, cp, qr, cr, qv, cv, qb, cb, h1, h3 0 _ (by decide) rfl, h3 1 _ (by decide) rfl, h3 2 _ (by decide) rfl, h3 3 _ (by decide) rfl, h3 4 _ (by decide) rfl, h3 5 _ (by decide) rfl, hl, hp, hr, hv, hb⟩
end
end Go.Proofs.YtlpdjfimefjmcaaGreat

/- The kit's lent rows: strings, terms; they read as what came in, with a mark behind, in memory of their own. -/
namespace Go.Proofs.YtlpdjfimefjmcaaGreat
open Go Go.RowKit Go.Proofs.Mm

theorem str_len (c : List Value) (d : ByteArray) (h : c = [Value.string d]) : c.length = 1 := str_lenZ c d h
theorem tm_len (c : List Value) (d : TmZ) (h : c = tmZ d) : c.length = 3 := tm_lenZ c d h
theorem ex_len {lt : Bool} {C : Cl} (c : List Value) (d : List TmZ) (h : ExR1 lt C c d) : c.length = 1 := ex_lenZ c d h
theorem st_len {lt : Bool} {C : Cl} (c : List Value) (d : StZ) (h : StR1 lt C c d) : c.length = 4 := st_lenZ c d h

theorem und_strs : Tryz.prog.underlying 22 = some (.slice 9) := by kernel_rfl
theorem und_tms : Tryz.prog.underlying 60 = some (.slice 62) := by kernel_rfl
theorem und_exs : Tryz.prog.underlying 45 = some (.slice 60) := by kernel_rfl
theorem und_sts : Tryz.prog.underlying 41 = some (.slice 47) := by kernel_rfl
theorem infoOf {P : Program} {t : TypeId} {z : Value} {size bytes : Nat} (h : (P.info? t).map (fun i => (i.zero, i.size, i.bytes)) = some (some z, size, bytes)) : ∃ i, P.info? t = some i ∧ i.zero = some z ∧ i.size = size ∧ i.bytes = bytes := by
  cases hi : P.info? t with
  | none => rw [hi] at h; cases h
  | some i =>
    rw [hi] at h
    simp only [Option.map_some, Option.some.injEq, Prod.mk.injEq] at h
    exact ⟨i, rfl, h.1, h.2.1, h.2.2⟩
theorem infoSr : ∃ i, Tryz.prog.info? 9 = some i ∧ i.zero = some (.string ⟨#[]⟩) ∧ i.size = 1 ∧ i.bytes = 16 := infoOf (by kernel_rfl)
theorem infoTz : ∃ i, Tryz.prog.info? 62 = some i ∧ i.zero = some (.agg #[.int .i64 0, .int .i64 0, .string ⟨#[]⟩]) ∧ i.size = 3 ∧ i.bytes = 32 := infoOf (by kernel_rfl)
theorem infoEz : ∃ i, Tryz.prog.info? 60 = some i ∧ i.zero = some (.slice none 0 0) ∧ i.size = 1 ∧ i.bytes = 24 := infoOf (by kernel_rfl)
theorem infoSz : ∃ i, Tryz.prog.info? 47 = some i ∧ i.zero = some (.agg #[.int .i64 0, .string ⟨#[]⟩, .slice none 0 0, .slice none 0 0]) ∧ i.size = 4 ∧ i.bytes = 72 := infoOf (by kernel_rfl)

/-- A row that has been gone through, with its mark, is known from now on. -/
theorem lent_done {α : Type} {w w' : World} {m : Mem} {E : TypeId} {size bs n c : Nat} {q : Option Addr} {cs mk : List Value} {R : Mem → List Value → α → Prop} {l : List α} (hm : Has w' m) (hv : ∀ k, (Value.slice q (n + 1) c).ownBlock = some k → m k = none)
    (hrow : w'.ownsRow w.heap.size E size (.slice q (n + 1) c) (n + 1) (cs ++ mk)) (hl : l.length = n) (he : Enc (R m) cs l) (hR : ∀ m m' : Mem, m.le m' → ∀ c x, R m c x → R m' c x) (hb : n * bs ≤ 140737488351232) :
    ∃ m', m.More w m' ∧ Has w' m' ∧ SlX mk bs (mC m') (R m') (.slice q n c) l := by
  have hcap : n + 1 ≤ c ∧ c ≤ maxLen ∧ q ≠ none := by
    rcases hrow.2 with ⟨_, h0⟩ | ⟨g', cap', cur, h0, _, _, h1, h2, _⟩
    · omega
    · injection h0 with h3 _ h4
      subst h4
      exact ⟨h1, h2, by rw [h3]; simp⟩
  obtain ⟨m', h1, h2, h3, h4⟩ := RowM.done hrow hm hv
  refine ⟨m', ⟨h1, fun k hk hlt => ?_⟩, h3, q, c, cs, by rw [hl], .inr (by omega), RowM.rdO h4, he.mono (hR _ _ h1), by rw [hl]; exact hb, hcap.2.1, fun h => absurd h hcap.2.2, by omega⟩
  cases hx : m' k with
  | none => rfl
  | some o =>
    rcases h2 k (by rw [hx]; simp) with h | h
    · exact absurd hk h
    · have := (hrow.lt k h).1
      omega
theorem has_grown {w w' : World} {m : Mem} (h : Has w m) (hb : Below w.heap.size w w') : Has w' m := fun k o e => by
  have := h k o e
  rw [hb.block k (heap_lt this)]; exact this
theorem enc_cells {α : Type} {C : Cl} {R : List Value → α → Prop} {l : List α} {cs : List Value} {g o : Nat} (_h : Enc R cs l) (hr : ∀ j u, cs[j]? = some u → C ⟨g, o + j, none⟩ = some u) : ∀ j u, cs[j]? = some u → C ((⟨g, o, none⟩ : Addr).add j) = some u := by
  intro j u hu
  rw [show ((⟨g, o, none⟩ : Addr).add j) = ⟨g, o + j, none⟩ from by unfold Addr.add; split <;> simp_all]
  exact hr j u hu
theorem str_one {l : List ByteArray} {cs : List Value} (h : Enc (fun c s => c = [Value.string s]) cs l) : ∀ u ∈ cs, u.oneCell' = true := by
  induction l generalizing cs with
  | nil => obtain rfl : cs = [] := h; intro u hu; cases hu
  | cons x l ih =>
    obtain ⟨c, r, rfl, rfl, h2⟩ := h
    intro u hu
    rcases List.mem_append.1 hu with hu | hu
    · rw [List.mem_singleton.1 hu]; rfl
    · exact ih h2 u hu
theorem tms_one {l : List TmZ} {cs : List Value} (h : Enc (fun c s => c = tmZ s) cs l) : ∀ u ∈ cs, u.oneCell' = true := by
  induction l generalizing cs with
  | nil => obtain rfl : cs = [] := h; intro u hu; cases hu
  | cons x l ih =>
    obtain ⟨c, r, rfl, rfl, h2⟩ := h
    intro u hu
    rcases List.mem_append.1 hu with hu | hu
    · simp only [tmZ, List.mem_cons, List.not_mem_nil, or_false] at hu
      rcases hu with rfl | rfl | rfl <;> rfl
    · exact ih h2 u hu
set_option maxRecDepth 100000 in
set_option maxHeartbeats 2000000 in
theorem lentStrings_any {w : World} {v : Value} {l : List ByteArray} (h : StrR false (wC w) v l) {m : Mem} (hm : Has w m) :
    Calls Tryz.prog 17 #[v] w fun e w' => ∃ v' m', e = .returned v' ∧ Below w.heap.size w w' ∧ m.More w m' ∧ Has w' m' ∧ StrR true (mC m') v' l := by
  obtain ⟨q, c, cs, rfl, _, hr, he, hb, hmax, hqn, hlc⟩ := h
  obtain ⟨n, hn⟩ : ∃ n, l.length = n := ⟨_, rfl⟩
  obtain ⟨hcl, _⟩ := encZ_at str_len he
  have hon := str_one he
  have HE := Lib.hid he
  have HN := Lib.hid hn
  have HM := Lib.hid hm
  rw [hn] at hb hcl hlc ⊢
  clear he hn hm
  obtain ⟨i2, h2, h3, h4, h5⟩ := infoSr
  have hnil := World.ownsRow_nil w w.heap.size 9 1
  have HF := Lib.hid (show ∀ k, w.heap.size ≤ k → m k = none from fun k hk => HM.out.lt hk)
  have hone : ∀ u ∈ mkS true, u.oneCell' = true := by intro u hu; simp only [mkS, if_true, List.mem_cons, List.not_mem_nil, or_false] at hu; (subst hu; rfl)
  rcases q with _ | ad
  · obtain rfl : c = 0 := hqn rfl
    obtain rfl : n = 0 := by omega
    have hc0 : cs = [] := List.eq_nil_of_length_eq_zero (by simpa using hcl)
    subst hc0
    have hR1 := hnil.alloc (.cells (mkS true).toArray 9)
    have hnew := row_new w (mkS true) 9
    go_enter Tryz.func17, Tryz.ntmps17
    go_wp2_with (first | (at_builtin; refine wpList_append_own_none rfl _ _ 22 rfl w.heap.size 9 i2 1 und_strs h2 _ 0 [] rfl hnil rfl ?_) | (at_builtin; refine wpList_append_own _ rfl _ _ 22 rfl w.heap.size 9 i2 _ 1 16 und_strs h2 h3 h4 h5 rfl (by decide) _ 0 [] rfl hR1 ⟨w.heap.size, 0, none⟩ 1 1 (mkS true) rfl rfl hnew hone (by unfold maxLen; omega) (by omega) (by simp) ?_))
    intro v2 w2 hR2 hg2 _
    obtain ⟨q2, c2, rfl⟩ := own_shape hR2
    have hB2 : Below w.heap.size w w2 := grown_below ((Below.refl _ w).alloc (Nat.le_refl _) _) (by simp) hg2 (fun j hj => (hR1.lt j hj).1)
    have HD := Lib.hid (lent_done (w := w) (bs := 16) (R := fun _ => (fun c s => c = [Value.string s])) (has_grown HM.out hB2) (fun k hk => HF.out k (hR2.lt k hk).1) (by simpa using hR2) HN.out HE.out (fun _ _ _ _ _ h => h) (by omega))
    have HB := Lib.hid hB2
    have hcap : 1 ≤ c2 := by
      rcases hR2.2 with ⟨_, h0⟩ | ⟨g', cap', cur, h0, _, _, h1, _, _⟩
      · omega
      · injection h0 with _ _ h4
        omega
    clear hg2 hR1 hnil hB2 hR2
    go_wp2
    go_ret
    obtain ⟨m', d1, d2, d3⟩ := HD.out
    exact ⟨_, m', rfl, HB.out, d1, d2, d3⟩
  · have hcl2 : ∀ j u, cs[j]? = some u → w.cell? (ad.add j) = some u := by
      rcases hr with hr | ⟨g, o, hq, hr⟩
      · have := (List.append_eq_nil_iff.1 hr).1
        subst this
        intro j u hu
        simp at hu
      · injection hq with hq
        subst hq
        exact enc_cells HE.out (fun j u hu => hr j u (by rw [List.getElem?_append_left ((List.getElem?_eq_some_iff.1 hu).1)]; exact hu))
    clear hr
    go_enter Tryz.func17, Tryz.ntmps17
    go_wp2_with (at_builtin; refine wpList_append_own _ rfl _ _ 22 rfl w.heap.size 9 i2 _ 1 16 und_strs h2 h3 h4 h5 rfl (by decide) _ 0 [] rfl hnil ad n c cs rfl hcl hcl2 hon (by unfold maxLen; omega) (by omega) (Nat.le_refl _) ?_)
    intro v1 w1 hR1 hg1 _
    obtain ⟨q1, c1, rfl⟩ := own_shape hR1
    have hB1 : Below w.heap.size w w1 := grown_below (Below.refl _ w) (Nat.le_refl _) hg1 (fun j hj => by cases hj)
    have hw1 := hB1.size
    have hR1' := hR1.alloc (.cells (mkS true).toArray 9)
    have hnew := row_new w1 (mkS true) 9
    try simp only [Nat.zero_add, List.nil_append] at hR1 hR1'
    clear hg1 hnil hcl2 hon hR1
    go_wp2_with (at_builtin; refine wpList_append_own _ rfl _ _ 22 rfl w.heap.size 9 i2 _ 1 16 und_strs h2 h3 h4 h5 rfl (by decide) _ n cs rfl hR1' ⟨w1.heap.size, 0, none⟩ 1 1 (mkS true) rfl rfl hnew hone (by unfold maxLen; omega) (by omega) (by simp <;> omega) ?_)
    intro v2 w2 hR2 hg2 _
    obtain ⟨q2, c2, rfl⟩ := own_shape hR2
    have hB2 : Below w.heap.size w w2 := grown_below (hB1.alloc hw1 _) (by simp; omega) hg2 (fun j hj => (hR1'.lt j hj).1)
    have HD := Lib.hid (lent_done (w := w) (bs := 16) (R := fun _ => (fun c s => c = [Value.string s])) (has_grown HM.out hB2) (fun k hk => HF.out k (hR2.lt k hk).1) hR2 HN.out HE.out (fun _ _ _ _ _ h => h) (by omega))
    have HB := Lib.hid hB2
    have hcap : n + 1 ≤ c2 := by
      rcases hR2.2 with ⟨_, h0⟩ | ⟨g', cap', cur, h0, _, _, h1, _, _⟩
      · omega
      · injection h0 with _ _ h4
        omega
    clear hg2 hR1' hB2 hR2 hB1
    go_wp2
    go_ret
    obtain ⟨m', d1, d2, d3⟩ := HD.out
    exact ⟨_, m', rfl, HB.out, d1, d2, d3⟩
set_option maxRecDepth 100000 in
set_option maxHeartbeats 2000000 in
theorem lentTerms_any {w : World} {v : Value} {l : List TmZ} (h : TmsR false (wC w) v l) {m : Mem} (hm : Has w m) :
    Calls Tryz.prog 40 #[v] w fun e w' => ∃ v' m', e = .returned v' ∧ Below w.heap.size w w' ∧ m.More w m' ∧ Has w' m' ∧ TmsR true (mC m') v' l := by
  obtain ⟨q, c, cs, rfl, _, hr, he, hb, hmax, hqn, hlc⟩ := h
  obtain ⟨n, hn⟩ : ∃ n, l.length = n := ⟨_, rfl⟩
  obtain ⟨hcl, _⟩ := encZ_at tm_len he
  have hon := tms_one he
  have HE := Lib.hid he
  have HN := Lib.hid hn
  have HM := Lib.hid hm
  rw [hn] at hb hcl hlc ⊢
  clear he hn hm
  obtain ⟨i2, h2, h3, h4, h5⟩ := infoTz
  have hnil := World.ownsRow_nil w w.heap.size 62 3
  have HF := Lib.hid (show ∀ k, w.heap.size ≤ k → m k = none from fun k hk => HM.out.lt hk)
  have hone : ∀ u ∈ mkT true, u.oneCell' = true := by intro u hu; simp only [mkT, if_true, List.mem_cons, List.not_mem_nil, or_false] at hu; (rcases hu with rfl | rfl | rfl <;> rfl)
  rcases q with _ | ad
  · obtain rfl : c = 0 := hqn rfl
    obtain rfl : n = 0 := by omega
    have hc0 : cs = [] := List.eq_nil_of_length_eq_zero (by simpa using hcl)
    subst hc0
    have hR1 := hnil.alloc (.cells (mkT true).toArray 62)
    have hnew := row_new w (mkT true) 62
    go_enter Tryz.func40, Tryz.ntmps40
    go_wp2_with (first | (at_builtin; refine wpList_append_own_none rfl _ _ 60 rfl w.heap.size 62 i2 3 und_tms h2 _ 0 [] rfl hnil rfl ?_) | (at_builtin; refine wpList_append_own _ rfl _ _ 60 rfl w.heap.size 62 i2 _ 3 32 und_tms h2 h3 h4 h5 rfl (by decide) _ 0 [] rfl hR1 ⟨w.heap.size, 0, none⟩ 1 1 (mkT true) rfl rfl hnew hone (by unfold maxLen; omega) (by omega) (by simp) ?_))
    intro v2 w2 hR2 hg2 _
    obtain ⟨q2, c2, rfl⟩ := own_shape hR2
    have hB2 : Below w.heap.size w w2 := grown_below ((Below.refl _ w).alloc (Nat.le_refl _) _) (by simp) hg2 (fun j hj => (hR1.lt j hj).1)
    have HD := Lib.hid (lent_done (w := w) (bs := 32) (R := fun _ => (fun c s => c = tmZ s)) (has_grown HM.out hB2) (fun k hk => HF.out k (hR2.lt k hk).1) (by simpa using hR2) HN.out HE.out (fun _ _ _ _ _ h => h) (by omega))
    have HB := Lib.hid hB2
    have hcap : 1 ≤ c2 := by
      rcases hR2.2 with ⟨_, h0⟩ | ⟨g', cap', cur, h0, _, _, h1, _, _⟩
      · omega
      · injection h0 with _ _ h4
        omega
    clear hg2 hR1 hnil hB2 hR2
    go_wp2
    go_ret
    obtain ⟨m', d1, d2, d3⟩ := HD.out
    exact ⟨_, m', rfl, HB.out, d1, d2, d3⟩
  · have hcl2 : ∀ j u, cs[j]? = some u → w.cell? (ad.add j) = some u := by
      rcases hr with hr | ⟨g, o, hq, hr⟩
      · have := (List.append_eq_nil_iff.1 hr).1
        subst this
        intro j u hu
        simp at hu
      · injection hq with hq
        subst hq
        exact enc_cells HE.out (fun j u hu => hr j u (by rw [List.getElem?_append_left ((List.getElem?_eq_some_iff.1 hu).1)]; exact hu))
    clear hr
    go_enter Tryz.func40, Tryz.ntmps40
    go_wp2_with (at_builtin; refine wpList_append_own _ rfl _ _ 60 rfl w.heap.size 62 i2 _ 3 32 und_tms h2 h3 h4 h5 rfl (by decide) _ 0 [] rfl hnil ad n c cs rfl hcl hcl2 hon (by unfold maxLen; omega) (by omega) (Nat.le_refl _) ?_)
    intro v1 w1 hR1 hg1 _
    obtain ⟨q1, c1, rfl⟩ := own_shape hR1
    have hB1 : Below w.heap.size w w1 := grown_below (Below.refl _ w) (Nat.le_refl _) hg1 (fun j hj => by cases hj)
    have hw1 := hB1.size
    have hR1' := hR1.alloc (.cells (mkT true).toArray 62)
    have hnew := row_new w1 (mkT true) 62
    try simp only [Nat.zero_add, List.nil_append] at hR1 hR1'
    clear hg1 hnil hcl2 hon hR1
    go_wp2_with (at_builtin; refine wpList_append_own _ rfl _ _ 60 rfl w.heap.size 62 i2 _ 3 32 und_tms h2 h3 h4 h5 rfl (by decide) _ n cs rfl hR1' ⟨w1.heap.size, 0, none⟩ 1 1 (mkT true) rfl rfl hnew hone (by unfold maxLen; omega) (by omega) (by simp <;> omega) ?_)
    intro v2 w2 hR2 hg2 _
    obtain ⟨q2, c2, rfl⟩ := own_shape hR2
    have hB2 : Below w.heap.size w w2 := grown_below (hB1.alloc hw1 _) (by simp; omega) hg2 (fun j hj => (hR1'.lt j hj).1)
    have HD := Lib.hid (lent_done (w := w) (bs := 32) (R := fun _ => (fun c s => c = tmZ s)) (has_grown HM.out hB2) (fun k hk => HF.out k (hR2.lt k hk).1) hR2 HN.out HE.out (fun _ _ _ _ _ h => h) (by omega))
    have HB := Lib.hid hB2
    have hcap : n + 1 ≤ c2 := by
      rcases hR2.2 with ⟨_, h0⟩ | ⟨g', cap', cur, h0, _, _, h1, _, _⟩
      · omega
      · injection h0 with _ _ h4
        omega
    clear hg2 hR1' hB2 hR2 hB1
    go_wp2
    go_ret
    obtain ⟨m', d1, d2, d3⟩ := HD.out
    exact ⟨_, m', rfl, HB.out, d1, d2, d3⟩
end Go.Proofs.YtlpdjfimefjmcaaGreat

/- The kit's lent declarations and labels: they read as what came in, with a mark behind, in memory of their own. (Written by a program.) -/
namespace Go.Proofs.YtlpdjfimefjmcaaGreat
open Go Go.RowKit Go.Proofs.Mm

theorem und_des : Tryz.prog.underlying 23 = some (.slice 37) := by kernel_rfl
theorem und_las : Tryz.prog.underlying 40 = some (.slice 35) := by kernel_rfl
theorem infoDz : ∃ i, Tryz.prog.info? 37 = some i ∧ i.zero = some (.agg #[.string ⟨#[]⟩, .int .u64 0]) ∧ i.size = 2 ∧ i.bytes = 24 := infoOf (by kernel_rfl)
theorem infoLz : ∃ i, Tryz.prog.info? 35 = some i ∧ i.zero = some (.int .u64 0) ∧ i.size = 1 ∧ i.bytes = 8 := infoOf (by kernel_rfl)
theorem one_De {l : List DeZ} {cs : List Value} (h : Enc (fun c s => c = deZ s ∧ s.label < u64B) cs l) : ∀ u ∈ cs, u.oneCell' = true := by
  induction l generalizing cs with
  | nil => obtain rfl : cs = [] := h; intro u hu; cases hu
  | cons x l ih =>
    obtain ⟨c, r, rfl, ⟨rfl, _⟩, h2⟩ := h
    intro u hu
    rcases List.mem_append.1 hu with hu | hu
    · simp only [deZ, List.mem_cons, List.not_mem_nil, or_false] at hu
      rcases hu with rfl | rfl <;> rfl
    · exact ih h2 u hu
set_option maxRecDepth 100000 in
set_option maxHeartbeats 2000000 in
theorem lentDecls_any {w : World} {v : Value} {l : List DeZ} (h : DesR false (wC w) v l) {m : Mem} (hm : Has w m) :
    Calls Tryz.prog 18 #[v] w fun e w' => ∃ v' m', e = .returned v' ∧ Below w.heap.size w w' ∧ m.More w m' ∧ Has w' m' ∧ DesR true (mC m') v' l := by
  obtain ⟨q, c, cs, rfl, _, hr, he, hb, hmax, hqn, hlc⟩ := h
  obtain ⟨n, hn⟩ : ∃ n, l.length = n := ⟨_, rfl⟩
  obtain ⟨hcl, _⟩ := encZ_at de_lenZ he
  have hon := one_De he
  have HE := Lib.hid he
  have HN := Lib.hid hn
  have HM := Lib.hid hm
  rw [hn] at hb hcl hlc ⊢
  clear he hn hm
  obtain ⟨i2, h2, h3, h4, h5⟩ := infoDz
  have hnil := World.ownsRow_nil w w.heap.size 37 2
  have HF := Lib.hid (show ∀ k, w.heap.size ≤ k → m k = none from fun k hk => HM.out.lt hk)
  have hone : ∀ u ∈ mkD true, u.oneCell' = true := by intro u hu; simp only [mkD, if_true, List.mem_cons, List.not_mem_nil, or_false] at hu; (rcases hu with rfl | rfl <;> rfl)
  rcases q with _ | ad
  · obtain rfl : c = 0 := hqn rfl
    obtain rfl : n = 0 := by omega
    have hc0 : cs = [] := List.eq_nil_of_length_eq_zero (by simpa using hcl)
    subst hc0
    have hR1 := hnil.alloc (.cells (mkD true).toArray 37)
    have hnew := row_new w (mkD true) 37
    go_enter Tryz.func18, Tryz.ntmps18
    go_wp2_with (first | (at_builtin; refine wpList_append_own_none rfl _ _ 23 rfl w.heap.size 37 i2 2 und_des h2 _ 0 [] rfl hnil rfl ?_) | (at_builtin; refine wpList_append_own _ rfl _ _ 23 rfl w.heap.size 37 i2 _ 2 24 und_des h2 h3 h4 h5 rfl (by decide) _ 0 [] rfl hR1 ⟨w.heap.size, 0, none⟩ 1 1 (mkD true) rfl rfl hnew hone (by unfold maxLen; omega) (by omega) (by simp) ?_))
    intro v2 w2 hR2 hg2 _
    obtain ⟨q2, c2, rfl⟩ := own_shape hR2
    have hB2 : Below w.heap.size w w2 := grown_below ((Below.refl _ w).alloc (Nat.le_refl _) _) (by simp) hg2 (fun j hj => (hR1.lt j hj).1)
    have HD := Lib.hid (lent_done (w := w) (bs := 24) (R := fun _ => (fun c s => c = deZ s ∧ s.label < u64B)) (has_grown HM.out hB2) (fun k hk => HF.out k (hR2.lt k hk).1) (by simpa using hR2) HN.out HE.out (fun _ _ _ _ _ h => h) (by omega))
    have HB := Lib.hid hB2
    have hcap : 1 ≤ c2 := by
      rcases hR2.2 with ⟨_, h0⟩ | ⟨g', cap', cur, h0, _, _, h1, _, _⟩
      · omega
      · injection h0 with _ _ h4
        omega
    clear hg2 hR1 hnil hB2 hR2
    go_wp2
    go_ret
    obtain ⟨m', d1, d2, d3⟩ := HD.out
    exact ⟨_, m', rfl, HB.out, d1, d2, d3⟩
  · have hcl2 : ∀ j u, cs[j]? = some u → w.cell? (ad.add j) = some u := by
      rcases hr with hr | ⟨g, o, hq, hr⟩
      · have := (List.append_eq_nil_iff.1 hr).1
        subst this
        intro j u hu
        simp at hu
      · injection hq with hq
        subst hq
        exact enc_cells HE.out (fun j u hu => hr j u (by rw [List.getElem?_append_left ((List.getElem?_eq_some_iff.1 hu).1)]; exact hu))
    clear hr
    go_enter Tryz.func18, Tryz.ntmps18
    go_wp2_with (at_builtin; refine wpList_append_own _ rfl _ _ 23 rfl w.heap.size 37 i2 _ 2 24 und_des h2 h3 h4 h5 rfl (by decide) _ 0 [] rfl hnil ad n c cs rfl hcl hcl2 hon (by unfold maxLen; omega) (by omega) (Nat.le_refl _) ?_)
    intro v1 w1 hR1 hg1 _
    obtain ⟨q1, c1, rfl⟩ := own_shape hR1
    have hB1 : Below w.heap.size w w1 := grown_below (Below.refl _ w) (Nat.le_refl _) hg1 (fun j hj => by cases hj)
    have hw1 := hB1.size
    have hR1' := hR1.alloc (.cells (mkD true).toArray 37)
    have hnew := row_new w1 (mkD true) 37
    try simp only [Nat.zero_add, List.nil_append] at hR1 hR1'
    clear hg1 hnil hcl2 hon hR1
    go_wp2_with (at_builtin; refine wpList_append_own _ rfl _ _ 23 rfl w.heap.size 37 i2 _ 2 24 und_des h2 h3 h4 h5 rfl (by decide) _ n cs rfl hR1' ⟨w1.heap.size, 0, none⟩ 1 1 (mkD true) rfl rfl hnew hone (by unfold maxLen; omega) (by omega) (by simp <;> omega) ?_)
    intro v2 w2 hR2 hg2 _
    obtain ⟨q2, c2, rfl⟩ := own_shape hR2
    have hB2 : Below w.heap.size w w2 := grown_below (hB1.alloc hw1 _) (by simp; omega) hg2 (fun j hj => (hR1'.lt j hj).1)
    have HD := Lib.hid (lent_done (w := w) (bs := 24) (R := fun _ => (fun c s => c = deZ s ∧ s.label < u64B)) (has_grown HM.out hB2) (fun k hk => HF.out k (hR2.lt k hk).1) hR2 HN.out HE.out (fun _ _ _ _ _ h => h) (by omega))
    have HB := Lib.hid hB2
    have hcap : n + 1 ≤ c2 := by
      rcases hR2.2 with ⟨_, h0⟩ | ⟨g', cap', cur, h0, _, _, h1, _, _⟩
      · omega
      · injection h0 with _ _ h4
        omega
    clear hg2 hR1' hB2 hR2 hB1
    go_wp2
    go_ret
    obtain ⟨m', d1, d2, d3⟩ := HD.out
    exact ⟨_, m', rfl, HB.out, d1, d2, d3⟩
theorem one_La {l : List Nat} {cs : List Value} (h : Enc (fun c s => c = laZ s ∧ s < u64B) cs l) : ∀ u ∈ cs, u.oneCell' = true := by
  induction l generalizing cs with
  | nil => obtain rfl : cs = [] := h; intro u hu; cases hu
  | cons x l ih =>
    obtain ⟨c, r, rfl, ⟨rfl, _⟩, h2⟩ := h
    intro u hu
    rcases List.mem_append.1 hu with hu | hu
    · simp only [laZ, List.mem_cons, List.not_mem_nil, or_false] at hu
      (subst hu; rfl)
    · exact ih h2 u hu
set_option maxRecDepth 100000 in
set_option maxHeartbeats 2000000 in
theorem lentLabels_any {w : World} {v : Value} {l : List Nat} (h : LasR false (wC w) v l) {m : Mem} (hm : Has w m) :
    Calls Tryz.prog 19 #[v] w fun e w' => ∃ v' m', e = .returned v' ∧ Below w.heap.size w w' ∧ m.More w m' ∧ Has w' m' ∧ LasR true (mC m') v' l := by
  obtain ⟨q, c, cs, rfl, _, hr, he, hb, hmax, hqn, hlc⟩ := h
  obtain ⟨n, hn⟩ : ∃ n, l.length = n := ⟨_, rfl⟩
  obtain ⟨hcl, _⟩ := encZ_at la_lenZ he
  have hon := one_La he
  have HE := Lib.hid he
  have HN := Lib.hid hn
  have HM := Lib.hid hm
  rw [hn] at hb hcl hlc ⊢
  clear he hn hm
  obtain ⟨i2, h2, h3, h4, h5⟩ := infoLz
  have hnil := World.ownsRow_nil w w.heap.size 35 1
  have HF := Lib.hid (show ∀ k, w.heap.size ≤ k → m k = none from fun k hk => HM.out.lt hk)
  have hone : ∀ u ∈ mkL true, u.oneCell' = true := by intro u hu; simp only [mkL, if_true, List.mem_cons, List.not_mem_nil, or_false] at hu; (subst hu; rfl)
  rcases q with _ | ad
  · obtain rfl : c = 0 := hqn rfl
    obtain rfl : n = 0 := by omega
    have hc0 : cs = [] := List.eq_nil_of_length_eq_zero (by simpa using hcl)
    subst hc0
    have hR1 := hnil.alloc (.cells (mkL true).toArray 35)
    have hnew := row_new w (mkL true) 35
    go_enter Tryz.func19, Tryz.ntmps19
    go_wp2_with (first | (at_builtin; refine wpList_append_own_none rfl _ _ 40 rfl w.heap.size 35 i2 1 und_las h2 _ 0 [] rfl hnil rfl ?_) | (at_builtin; refine wpList_append_own _ rfl _ _ 40 rfl w.heap.size 35 i2 _ 1 8 und_las h2 h3 h4 h5 rfl (by decide) _ 0 [] rfl hR1 ⟨w.heap.size, 0, none⟩ 1 1 (mkL true) rfl rfl hnew hone (by unfold maxLen; omega) (by omega) (by simp) ?_))
    intro v2 w2 hR2 hg2 _
    obtain ⟨q2, c2, rfl⟩ := own_shape hR2
    have hB2 : Below w.heap.size w w2 := grown_below ((Below.refl _ w).alloc (Nat.le_refl _) _) (by simp) hg2 (fun j hj => (hR1.lt j hj).1)
    have HD := Lib.hid (lent_done (w := w) (bs := 8) (R := fun _ => (fun c s => c = laZ s ∧ s < u64B)) (has_grown HM.out hB2) (fun k hk => HF.out k (hR2.lt k hk).1) (by simpa using hR2) HN.out HE.out (fun _ _ _ _ _ h => h) (by omega))
    have HB := Lib.hid hB2
    have hcap : 1 ≤ c2 := by
      rcases hR2.2 with ⟨_, h0⟩ | ⟨g', cap', cur, h0, _, _, h1, _, _⟩
      · omega
      · injection h0 with _ _ h4
        omega
    clear hg2 hR1 hnil hB2 hR2
    go_wp2
    go_ret
    obtain ⟨m', d1, d2, d3⟩ := HD.out
    exact ⟨_, m', rfl, HB.out, d1, d2, d3⟩
  · have hcl2 : ∀ j u, cs[j]? = some u → w.cell? (ad.add j) = some u := by
      rcases hr with hr | ⟨g, o, hq, hr⟩
      · have := (List.append_eq_nil_iff.1 hr).1
        subst this
        intro j u hu
        simp at hu
      · injection hq with hq
        subst hq
        exact enc_cells HE.out (fun j u hu => hr j u (by rw [List.getElem?_append_left ((List.getElem?_eq_some_iff.1 hu).1)]; exact hu))
    clear hr
    go_enter Tryz.func19, Tryz.ntmps19
    go_wp2_with (at_builtin; refine wpList_append_own _ rfl _ _ 40 rfl w.heap.size 35 i2 _ 1 8 und_las h2 h3 h4 h5 rfl (by decide) _ 0 [] rfl hnil ad n c cs rfl hcl hcl2 hon (by unfold maxLen; omega) (by omega) (Nat.le_refl _) ?_)
    intro v1 w1 hR1 hg1 _
    obtain ⟨q1, c1, rfl⟩ := own_shape hR1
    have hB1 : Below w.heap.size w w1 := grown_below (Below.refl _ w) (Nat.le_refl _) hg1 (fun j hj => by cases hj)
    have hw1 := hB1.size
    have hR1' := hR1.alloc (.cells (mkL true).toArray 35)
    have hnew := row_new w1 (mkL true) 35
    try simp only [Nat.zero_add, List.nil_append] at hR1 hR1'
    clear hg1 hnil hcl2 hon hR1
    go_wp2_with (at_builtin; refine wpList_append_own _ rfl _ _ 40 rfl w.heap.size 35 i2 _ 1 8 und_las h2 h3 h4 h5 rfl (by decide) _ n cs rfl hR1' ⟨w1.heap.size, 0, none⟩ 1 1 (mkL true) rfl rfl hnew hone (by unfold maxLen; omega) (by omega) (by simp <;> omega) ?_)
    intro v2 w2 hR2 hg2 _
    obtain ⟨q2, c2, rfl⟩ := own_shape hR2
    have hB2 : Below w.heap.size w w2 := grown_below (hB1.alloc hw1 _) (by simp; omega) hg2 (fun j hj => (hR1'.lt j hj).1)
    have HD := Lib.hid (lent_done (w := w) (bs := 8) (R := fun _ => (fun c s => c = laZ s ∧ s < u64B)) (has_grown HM.out hB2) (fun k hk => HF.out k (hR2.lt k hk).1) hR2 HN.out HE.out (fun _ _ _ _ _ h => h) (by omega))
    have HB := Lib.hid hB2
    have hcap : n + 1 ≤ c2 := by
      rcases hR2.2 with ⟨_, h0⟩ | ⟨g', cap', cur, h0, _, _, h1, _, _⟩
      · omega
      · injection h0 with _ _ h4
        omega
    clear hg2 hR1' hB2 hR2 hB1
    go_wp2
    go_ret
    obtain ⟨m', d1, d2, d3⟩ := HD.out
    exact ⟨_, m', rfl, HB.out, d1, d2, d3⟩
end Go.Proofs.YtlpdjfimefjmcaaGreat
