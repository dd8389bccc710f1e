/- Plain: where blocks end, as a row of the open ones alone keeps it (an if stays open behind its else), comes to the same. -/
import Derived.Test.YtnmcjkabihihiaaSynE
namespace Go.Proofs.Syn

def gI (l : List Int) (t : Nat) : Int := (l[t]?).getD (-1)
theorem gI_set (l : List Int) (t : Nat) (v : Int) (s : Nat) (ht : t < l.length) : gI (l.set t v) s = if s = t then v else gI l s := by
  unfold gI
  rw [List.getElem?_set]
  by_cases h : t = s
  · subst h; simp [ht]
  · rw [if_neg h, if_neg (Ne.symm h)]
theorem gI_neg (n t : Nat) : gI (List.replicate n (-1)) t = -1 := by
  unfold gI
  rw [List.getElem?_replicate]
  split <;> rfl
theorem gI_out {l : List Int} {t : Nat} (h : l.length ≤ t) : gI l t = -1 := by unfold gI; rw [List.getElem?_eq_none h]; rfl
theorem gI_at {l : List Int} {t : Nat} (h : t < l.length) : l[t]? = some (gI l t) := by unfold gI; rw [List.getElem?_eq_getElem h]; rfl
theorem gI_via (es ls : List Int) (h : es.length = ls.length) (s : Nat) (hs : s < ls.length) : (viaElse es ls)[s]? = some (if 0 ≤ gI ls s then gI es (gI ls s).toNat else gI es s) := by
  unfold viaElse
  rw [List.getElem?_map, (List.getElem?_zip_eq_some (z := (gI es s, gI ls s))).2 ⟨gI_at (h ▸ hs), gI_at hs⟩]
  rfl
/-- What the SEnd at i sets. -/
def closeP (E L : List Int) (t i : Nat) : List Int := if 0 ≤ gI L t then (E.set t i).set (gI L t).toNat i else E.set t i
def goP (ks : List Nat) : List Nat → Nat → List Nat → List Int → List Int → Option (List Int × List Int)
  | [], _, op, E, L => if op = [] then some (E, L) else none
  | k :: r, i, op, E, L =>
    if k = 5 ∨ k = 7 then goP ks r (i + 1) (i :: op) E L
    else if k = 6 then
      match op with
      | t :: op' => if ks[t]? = some 5 ∧ gI L t < 0 then goP ks r (i + 1) (t :: op') E (L.set t i) else none
      | [] => none
    else if k = 8 then
      match op with
      | t :: op' => goP ks r (i + 1) op' (closeP E L t i) L
      | [] => none
    else goP ks r (i + 1) op E L
theorem goP_nil (ks : List Nat) (i : Nat) (op : List Nat) (E L : List Int) : goP ks [] i op E L = if op = [] then some (E, L) else none := by rw [goP.eq_def]
theorem goP_cons (ks : List Nat) (k : Nat) (r : List Nat) (i : Nat) (op : List Nat) (E L : List Int) : goP ks (k :: r) i op E L =
    if k = 5 ∨ k = 7 then goP ks r (i + 1) (i :: op) E L
    else if k = 6 then
      match op with
      | t :: op' => if ks[t]? = some 5 ∧ gI L t < 0 then goP ks r (i + 1) (t :: op') E (L.set t i) else none
      | [] => none
    else if k = 8 then
      match op with
      | t :: op' => goP ks r (i + 1) op' (closeP E L t i) L
      | [] => none
    else goP ks r (i + 1) op E L := by rw [goP.eq_def]

structure EI (ks : List Nat) (i : Nat) (op : List Nat) (E L es : List Int) : Prop where
  le : E.length = ks.length
  ll : L.length = ks.length
  ls : es.length = ks.length
  hi : i ≤ ks.length
  via : ∀ s, gI E s = if 0 ≤ gI L s then gI es (gI L s).toNat else gI es s
  lt : ∀ t ∈ op, t < i ∧ gI es t = -1 ∧ (ks[t]? = some 5 ∨ ks[t]? = some 7)
  ord : op.Pairwise (fun a b => b < a)
  new : ∀ j, i ≤ j → gI es j = -1
  els : ∀ s, 0 ≤ gI L s → (gI L s).toNat < i ∧ ks[(gI L s).toNat]? = some 6 ∧ ks[s]? = some 5 ∧ s < i
  one : ∀ s s', 0 ≤ gI L s → gI L s = gI L s' → s = s'
def opE (L : List Int) (t : Nat) : Nat := if 0 ≤ gI L t then (gI L t).toNat else t

theorem EI.start (ks : List Nat) : EI ks 0 [] (List.replicate ks.length (-1)) (List.replicate ks.length (-1)) (List.replicate ks.length (-1)) :=
  ⟨by simp, by simp, by simp, Nat.zero_le _, fun s => by simp [gI_neg], by simp, .nil, fun j _ => gI_neg _ _, fun s h => by rw [gI_neg] at h; omega, fun s s' h => by rw [gI_neg] at h; omega⟩
theorem EI.skip {ks : List Nat} {i : Nat} {op : List Nat} {E L es : List Int} (h : EI ks i op E L es) (hi : i < ks.length) : EI ks (i + 1) op E L es :=
  ⟨h.le, h.ll, h.ls, hi, h.via, fun t ht => ⟨by have := (h.lt t ht).1; omega, (h.lt t ht).2⟩, h.ord, fun j hj => h.new j (by omega), fun s hs => by obtain ⟨a, b, c, d⟩ := h.els s hs; exact ⟨by omega, b, c, by omega⟩, h.one⟩
theorem EI.push {ks : List Nat} {i : Nat} {op : List Nat} {E L es : List Int} (h : EI ks i op E L es) (hi : i < ks.length) (hk : ks[i]? = some 5 ∨ ks[i]? = some 7) : EI ks (i + 1) (i :: op) E L es :=
  have h' := h.skip hi
  ⟨h.le, h.ll, h.ls, hi, h.via, fun t ht => by
    rcases List.mem_cons.1 ht with rfl | ht
    · exact ⟨by omega, h.new _ (Nat.le_refl _), hk⟩
    · exact h'.lt t ht, List.pairwise_cons.2 ⟨fun b hb => (h.lt b hb).1, h.ord⟩, h'.new, h'.els, h.one⟩
theorem EI.put {ks : List Nat} {i t : Nat} {op : List Nat} {E L es : List Int} (h : EI ks i (t :: op) E L es) (hi : i < ks.length) (hk : ks[i]? = some 6) (ht : ks[t]? = some 5) (hn : gI L t < 0) : EI ks (i + 1) (t :: op) E (L.set t i) es := by
  obtain ⟨a1, a2, a3⟩ := h.lt t (by simp)
  have hti : t < L.length := by rw [h.ll]; omega
  have hg : ∀ s, gI (L.set t i) s = if s = t then (i : Int) else gI L s := fun s => gI_set L t i s hti
  refine ⟨h.le, by rw [List.length_set]; exact h.ll, h.ls, hi, ?_, (h.skip hi).lt, h.ord, (h.skip hi).new, ?_, ?_⟩
  · intro s
    rw [hg]
    by_cases hs : s = t
    · subst hs
      rw [if_pos rfl, if_pos (by omega), h.via s, if_neg (by omega), a2]
      rw [show ((i : Int)).toNat = i from by omega, h.new i (Nat.le_refl _)]
    · rw [if_neg hs]; exact h.via s
  · intro s hs
    rw [hg] at hs ⊢
    by_cases he : s = t
    · subst he
      rw [if_pos rfl]
      rw [show ((i : Int)).toNat = i from by omega]
      exact ⟨by omega, hk, ht, by omega⟩
    · rw [if_neg he] at hs ⊢
      exact (h.skip hi).els s hs
  · intro s s' hs he
    rw [hg] at hs
    rw [hg, hg] at he
    by_cases h1 : s = t
    · by_cases h2 : s' = t
      · omega
      · rw [if_pos h1, if_neg h2] at he
        have := (h.els s' (by omega)).1
        omega
    · rw [if_neg h1] at hs he
      by_cases h2 : s' = t
      · rw [if_pos h2] at he
        have := (h.els s hs).1
        omega
      · rw [if_neg h2] at he
        exact h.one s s' hs he
theorem closeP_len (E L : List Int) (t i : Nat) : (closeP E L t i).length = E.length := by unfold closeP; split <;> simp
theorem EI.pop {ks : List Nat} {i t : Nat} {op : List Nat} {E L es : List Int} (h : EI ks i (t :: op) E L es) (hi : i < ks.length) : EI ks (i + 1) op (closeP E L t i) L (es.set (opE L t) i) := by
  obtain ⟨a1, a2, a3⟩ := h.lt t (by simp)
  have hto : opE L t < i := by
    unfold opE
    split
    · exact (h.els t (by assumption)).1
    · exact a1
  have hg : ∀ s, gI (es.set (opE L t) i) s = if s = opE L t then (i : Int) else gI es s := fun s => gI_set es _ i s (by rw [h.ls]; omega)
  have h6 : ∀ s, 0 ≤ gI L s → ∀ t', (ks[t']? = some 5 ∨ ks[t']? = some 7) → (gI L s).toNat ≠ t' := by
    intro s hs t' ht' e
    have := (h.els s hs).2.1
    rw [e] at this
    rcases ht' with h | h <;> (rw [this] at h; cases h)
  refine ⟨by rw [closeP_len]; exact h.le, h.ll, by rw [List.length_set]; exact h.ls, hi, ?_, ?_, (List.pairwise_cons.1 h.ord).2, ?_, (h.skip hi).els, h.one⟩
  · intro s
    rw [hg, hg]
    unfold closeP opE
    by_cases hu : 0 ≤ gI L t
    · simp only [if_pos hu]
      obtain ⟨b1, b2, b3, b4⟩ := h.els t hu
      rw [gI_set _ _ _ _ (by rw [List.length_set, h.le]; omega), gI_set _ _ _ _ (by rw [h.le]; omega)]
      have hun : gI L (gI L t).toNat < 0 := by
        refine Int.not_le.1 fun hc => ?_
        have := (h.els _ hc).2.2.1
        rw [b2] at this; cases this
      by_cases hs1 : s = (gI L t).toNat
      · subst hs1
        rw [if_pos rfl, if_neg (by omega), if_pos rfl]
      · rw [if_neg hs1, if_neg hs1]
        by_cases hs2 : s = t
        · subst hs2
          rw [if_pos rfl, if_pos hu, if_pos rfl]
        · rw [if_neg hs2, h.via s]
          split
          · rename_i hs
            rw [if_neg]
            intro e
            exact hs2 (h.one s t hs (by omega))
          · rfl
    · simp only [if_neg hu]
      rw [gI_set _ _ _ _ (by rw [h.le]; omega)]
      by_cases hs2 : s = t
      · subst hs2
        rw [if_pos rfl, if_neg hu, if_pos rfl]
      · rw [if_neg hs2, if_neg hs2, h.via s]
        split
        · rename_i hs
          rw [if_neg (h6 s hs t a3)]
        · rfl
  · intro t' ht'
    obtain ⟨c1, c2, c3⟩ := h.lt t' (by simp [ht'])
    refine ⟨by omega, ?_, c3⟩
    rw [hg, if_neg, c2]
    unfold opE
    split
    · rename_i hu
      exact fun e => h6 t hu t' c3 e.symm
    · have := (List.pairwise_cons.1 h.ord).1 t' ht'
      omega
  · intro j hj
    rw [hg, if_neg (by omega)]
    exact h.new j (by omega)

theorem dec_len : ∀ (op : List Nat) (i : Nat), op.Pairwise (fun a b => b < a) → (∀ t ∈ op, t < i) → op.length ≤ i
  | [], _, _, _ => Nat.zero_le _
  | t :: op, i, h, hl => by
    have h1 := dec_len op t (List.pairwise_cons.1 h).2 (List.pairwise_cons.1 h).1
    have h2 := hl t (by simp)
    simp only [List.length_cons]
    omega
theorem EI.len {ks : List Nat} {i : Nat} {op : List Nat} {E L es : List Int} (h : EI ks i op E L es) : op.length ≤ i := dec_len op i h.ord (fun t ht => (h.lt t ht).1)

theorem map_opE_put {L : List Int} {t i : Nat} {op : List Nat} (hlt : t < L.length) (ho : ∀ b ∈ op, b < t) : op.map (opE (L.set t i)) = op.map (opE L) := by
  refine List.map_congr_left fun b hb => ?_
  have e : gI (L.set t i) b = gI L b := by rw [gI_set L t i b hlt, if_neg (by have := ho b hb; omega)]
  unfold opE
  rw [e]

theorem goP_goE (ks : List Nat) : ∀ (r : List Nat) (i : Nat) (op : List Nat) (E L es : List Int), ks.drop i = r → EI ks i op E L es →
    goP ks r i op E L = (goE ks r i (op.map (opE L)) es L).map fun p => (viaElse p.1 p.2, p.2)
  | [], i, op, E, L, es, _, h => by
    rw [goP_nil, goE_nil]
    cases op with
    | nil =>
      simp only [List.map_nil, if_pos, Option.map_some]
      congr 2
      refine List.ext_getElem? fun s => ?_
      by_cases hs : s < ks.length
      · rw [gI_via es L (by rw [h.ls, h.ll]) s (by rw [h.ll]; exact hs), ← h.via s]
        exact gI_at (by rw [h.le]; exact hs)
      · rw [List.getElem?_eq_none (by rw [h.le]; omega), List.getElem?_eq_none (by unfold viaElse; rw [List.length_map, List.length_zip, h.ls, h.ll]; omega)]
    | cons t op => simp
  | k :: r, i, op, E, L, es, hr, h => by
    have hk : ks[i]? = some k := by
      have := congrArg (fun l => l[0]?) hr
      simpa using this
    have hil : i < ks.length := (List.getElem?_eq_some_iff.1 hk).1
    have hr' : ks.drop (i + 1) = r := by
      rw [← List.drop_drop, hr]; rfl
    rw [goP_cons, goE_cons]
    by_cases h57 : k = 5 ∨ k = 7
    · rw [if_pos h57, if_pos h57]
      have hp := h.push hil (by rcases h57 with e | e <;> rw [hk, e] <;> simp)
      rw [goP_goE ks r (i + 1) (i :: op) E L es hr' hp]
      have : opE L i = i := by
        unfold opE
        rw [if_neg]
        intro hc
        have := (h.els i hc).2.2.2
        omega
      rw [List.map_cons, this]
    rw [if_neg h57, if_neg h57]
    by_cases h6 : k = 6
    · rw [if_pos h6, if_pos h6]
      cases op with
      | nil => rfl
      | cons t op =>
        obtain ⟨a1, a2, a3⟩ := h.lt t (by simp)
        simp only [List.map_cons]
        by_cases hu : 0 ≤ gI L t
        · have e1 : opE L t = (gI L t).toNat := by unfold opE; rw [if_pos hu]
          rw [if_neg (by omega), e1, if_neg (by rw [(h.els t hu).2.1]; simp)]
          rfl
        · have e1 : opE L t = t := by unfold opE; rw [if_neg hu]
          rw [e1]
          by_cases ht : ks[t]? = some 5
          · rw [if_pos ⟨ht, by omega⟩, if_pos ht]
            have hp := h.put hil (by rw [hk, h6]) ht (by omega)
            rw [goP_goE ks r (i + 1) (t :: op) E (L.set t i) es hr' hp]
            have hti : t < L.length := by rw [h.ll]; omega
            have e2 : opE (L.set t i) t = i := by unfold opE; rw [gI_set L t i t hti, if_pos rfl, if_pos (by omega)]; omega
            rw [List.map_cons, e2, map_opE_put hti (List.pairwise_cons.1 h.ord).1]
          · rw [if_neg (fun c => ht c.1), if_neg ht]
            rfl
    rw [if_neg h6, if_neg h6]
    by_cases h8 : k = 8
    · rw [if_pos h8, if_pos h8]
      cases op with
      | nil => rfl
      | cons t op =>
        simp only [List.map_cons]
        exact goP_goE ks r (i + 1) op _ L _ hr' (h.pop hil)
    · rw [if_neg h8, if_neg h8]
      exact goP_goE ks r (i + 1) op E L es hr' (h.skip hil)
theorem goP_ends (ks : List Nat) : goP ks ks 0 [] (List.replicate ks.length (-1)) (List.replicate ks.length (-1)) = endsM ks := by
  rw [goP_goE ks ks 0 [] _ _ _ rfl (EI.start ks)]
  rfl
end Go.Proofs.Syn
