/- Plain facts: reading a text of a label place by place, as the document's answer does, comes to what Parse makes of it. -/
import Derived.Test.YthmcckdoneiglaaDoorGoodM
namespace Go.Proofs.YthmcckdoneiglaaDoor
open Go

theorem blank_cs (b : UInt8) : ([9, 32] : List UInt8).contains b = blankB b := by
  unfold blankB
  have h1 : (b = 9) ↔ b.toNat = 9 := ⟨fun e => by rw [e]; rfl, fun e => UInt8.toNat_inj.1 (by rw [e]; rfl)⟩
  have h2 : (b = 32) ↔ b.toNat = 32 := ⟨fun e => by rw [e]; rfl, fun e => UInt8.toNat_inj.1 (by rw [e]; rfl)⟩
  rw [Bool.eq_iff_iff]
  simp [h1, h2]

theorem drop_blanks : ∀ (a r : List UInt8), (∀ x ∈ a, blankB x = true) → (∀ c, r.head? = some c → blankB c = false) → (a ++ r).dropWhile (fun x => List.contains [9, 32] x) = r
  | [], r, _, hr => by
    cases r with
    | nil => rfl
    | cons c r => rw [List.nil_append, List.dropWhile_cons, if_neg (by rw [blank_cs, hr c rfl]; simp)]
  | x :: a, r, ha, hr => by
    rw [List.cons_append, List.dropWhile_cons, if_pos (by rw [blank_cs]; exact ha x (by simp))]
    exact drop_blanks a r (fun y hy => ha y (by simp [hy])) hr

theorem trim_gen (a m b : List UInt8) (ha : ∀ x ∈ a, blankB x = true) (hb : ∀ x ∈ b, blankB x = true) (hh : ∀ c, m.head? = some c → blankB c = false) (ht : ∀ d, m.getLast? = some d → blankB d = false) : Lib.trimS (a ++ m ++ b) [9, 32] = m := by
  unfold Lib.trimS Lib.trimRightS Lib.trimLeftS
  by_cases hm : m = []
  · subst hm
    have hall : ∀ x ∈ (a ++ [] ++ b).reverse, blankB x = true := by
      intro x hx
      simp at hx
      rcases hx with hx | hx
      · exact hb x hx
      · exact ha x hx
    have h1 := drop_blanks (a ++ [] ++ b).reverse [] hall (by simp)
    rw [List.append_nil] at h1
    rw [h1]; rfl
  · have e : (a ++ m ++ b).reverse = b.reverse ++ (a ++ m).reverse := by simp
    have hl : ∀ c, (a ++ m).reverse.head? = some c → blankB c = false := by
      intro c hc
      rw [List.head?_reverse, List.getLast?_append] at hc
      cases hmm : m.getLast? with
      | none => exact absurd (List.getLast?_eq_none_iff.1 hmm) hm
      | some d =>
        rw [hmm] at hc
        exact ht c (by rw [hmm]; simpa using hc)
    rw [e, drop_blanks b.reverse _ (fun x hx => hb x (List.mem_reverse.1 hx)) hl, List.reverse_reverse]
    exact drop_blanks a m ha hh

theorem take_drop_split (l : List UInt8) (i n : Nat) (h : i ≤ n) : l = l.take i ++ (l.take n).drop i ++ l.drop n := by
  have h1 : (l.take n).take i = l.take i := by rw [List.take_take, Nat.min_eq_left h]
  rw [← h1, List.take_append_drop, List.take_append_drop]

/-- The text between the blanks. -/
theorem trim_at (l : List UInt8) (i n : Nat) (hin : i ≤ n) (hn : n ≤ l.length) (ha : ∀ j (hj : j < l.length), j < i → blankB l[j] = true) (hb : ∀ j (hj : j < l.length), n ≤ j → blankB l[j] = true)
    (hi : ∀ hj : i < l.length, blankB l[i] = false) (hl : i < n → ∀ hj : n - 1 < l.length, blankB l[n - 1] = false) : Lib.trimS l [9, 32] = (l.take n).drop i := by
  conv => lhs; rw [take_drop_split l i n hin]
  refine trim_gen _ _ _ ?_ ?_ ?_ ?_
  · intro x hx
    obtain ⟨j, hj, rfl⟩ := List.mem_take_iff_getElem.1 hx
    exact ha j (by omega) (by omega)
  · intro x hx
    obtain ⟨j, hj, rfl⟩ := List.mem_drop_iff_getElem.1 hx
    exact hb _ _ (by omega)
  · intro c hc
    rw [List.head?_drop, List.getElem?_take] at hc
    split at hc
    · obtain ⟨hj, rfl⟩ := List.getElem?_eq_some_iff.1 hc
      exact hi hj
    · cases hc
  · intro d hd
    rw [List.getLast?_drop] at hd
    split at hd
    · cases hd
    · rename_i hlen
      rw [List.length_take, Nat.min_eq_left hn] at hlen
      rw [List.getLast?_eq_getElem?, List.length_take, Nat.min_eq_left hn, List.getElem?_take] at hd
      split at hd
      · obtain ⟨hj, rfl⟩ := List.getElem?_eq_some_iff.1 hd
        exact hl (by omega) hj
      · cases hd

theorem parse_none {zs : List ByteArray} {l m : List UInt8} (hm : Lib.trimS l [9, 32] = m) (h : ∀ inner, m ≠ 123 :: inner ++ [125]) : parseB zs l = none := by
  unfold parseB
  rw [hm]
  refine if_neg fun ⟨h1, h2⟩ => ?_
  unfold Lib.trimPrefix at h2
  rw [if_pos h1] at h2
  unfold Lib.hasPrefix at h1
  unfold Lib.hasSuffix at h2
  obtain ⟨r, hr⟩ := List.isPrefixOf_iff_prefix.1 h1
  subst hr
  obtain ⟨t, ht⟩ := List.isSuffixOf_iff_suffix.1 h2
  have e : t ++ [125] = r := by simpa using ht
  exact h t (by rw [← e]; rfl)

theorem parse_some {zs : List ByteArray} {l inner : List UInt8} (hm : Lib.trimS l [9, 32] = 123 :: inner ++ [125]) : parseB zs l = pfold zs (fieldsB inner) 0 := by
  unfold parseB
  rw [hm]
  have p1 : Lib.hasPrefix (123 :: inner ++ [125]) [123] = true := by simp [Lib.hasPrefix]
  have p2 : Lib.trimPrefix (123 :: inner ++ [125]) [123] = inner ++ [125] := by unfold Lib.trimPrefix; rw [if_pos p1]; simp
  have p3 : Lib.hasSuffix (inner ++ [125]) [125] = true := by simp [Lib.hasSuffix]
  have p4 : Lib.trimSuffix (inner ++ [125]) [125] = inner := by unfold Lib.trimSuffix; rw [if_pos p3]; simp
  rw [p1, p2, p3, p4, if_pos ⟨rfl, rfl⟩]

theorem seg_eq {l : List UInt8} {k q : Nat} (hkq : k < q) (hq : q < l.length) : (l.take (q + 1)).drop k = l[k] :: (l.take q).drop (k + 1) ++ [l[q]] := by
  rw [List.take_succ_eq_append_getElem hq, List.drop_append_of_le_length (by rw [List.length_take]; omega)]
  congr 1
  rw [List.drop_eq_getElem_cons (by rw [List.length_take]; omega), List.getElem_take]

theorem seg_not {l : List UInt8} {k q : Nat} (hkq : k < q) (hq : q < l.length) (h : l[k].toNat ≠ 123 ∨ l[q].toNat ≠ 125) (inner : List UInt8) : (l.take (q + 1)).drop k ≠ 123 :: inner ++ [125] := by
  rw [seg_eq hkq hq]
  intro e
  have e1 := congrArg List.head? e
  have e2 := congrArg List.getLast? e
  simp only [List.cons_append, List.head?_cons, Option.some.injEq] at e1
  rw [List.getLast?_append, List.getLast?_append] at e2
  simp only [List.getLast?_singleton, Option.some_or, Option.some.injEq] at e2
  rcases h with h | h
  · exact h (by rw [e1]; rfl)
  · exact h (by rw [e2]; rfl)

theorem seg_is {l : List UInt8} {k q : Nat} (hkq : k < q) (hq : q < l.length) (h1 : l[k].toNat = 123) (h2 : l[q].toNat = 125) : (l.take (q + 1)).drop k = 123 :: (l.take q).drop (k + 1) ++ [125] := by
  rw [seg_eq hkq hq, show l[k] = 123 from UInt8.toNat_inj.1 (by rw [h1]; rfl), show l[q] = 125 from UInt8.toNat_inj.1 (by rw [h2]; rfl)]

/-- A blank is passed over. -/
theorem fields_skip {r : List UInt8} {i : Nat} (hi : i < r.length) (hb : blankB r[i] = true) : fieldsB (r.drop i) = fieldsB (r.drop (i + 1)) := by
  rw [List.drop_eq_getElem_cons hi]
  exact flds_blank_none hb

/-- An item, and what stands behind it. -/
theorem fields_item (item r : List UInt8) (h0 : item ≠ []) (h : ∀ b ∈ item, blankB b = false) (hr : ∀ c, r.head? = some c → blankB c = true) : fieldsB (item ++ r) = item :: fieldsB r := by
  unfold fieldsB
  rw [flds_run_none _ _ h0 h]
  cases r with
  | nil => rfl
  | cons c r => rw [flds_blank_some (hr c rfl), flds_blank_none (hr c rfl)]

theorem idx_gen (x : ByteArray) : ∀ (zs : List ByteArray) (i : Nat), 0 ≤ Lib.idxFromS zs x i → ∃ k, Lib.idxFromS zs x i = ((i + k : Nat) : Int) ∧ k < zs.length ∧ zs.getD k ByteArray.empty = x
  | [], i, h => by
    have h2 : (0 : Int) ≤ -1 := h
    omega
  | z :: zs, i, h => by
    simp only [Lib.idxFromS] at h ⊢
    by_cases e : z = x
    · rw [if_pos e]
      exact ⟨0, by simp, by simp, by simpa using e⟩
    · rw [if_neg e] at h ⊢
      obtain ⟨k, h1, h2, h3⟩ := idx_gen x zs (i + 1) h
      exact ⟨k + 1, by rw [h1]; congr 1; omega, by simp; omega, by simpa using h3⟩
theorem idx_at {zs : List ByteArray} {x : ByteArray} (h : 0 ≤ Lib.idxOfS zs x) : (Lib.idxOfS zs x).toNat < zs.length ∧ zs.getD (Lib.idxOfS zs x).toNat ByteArray.empty = x := by
  obtain ⟨k, h1, h2, h3⟩ := idx_gen x zs 0 h
  unfold Lib.idxOfS
  rw [h1, Nat.zero_add, Int.toNat_natCast]
  exact ⟨h2, h3⟩

/-- Is an item a principal's number, or its name? -/
def hitB (ns : List ByteArray) (item : List UInt8) (k : Nat) : Bool := (numB k == item) || (goodB ns k && ((ns.getD k ByteArray.empty).data.toList == item))

theorem hit_iff (ns : List ByteArray) (item : List UInt8) (h0 : item ≠ []) (k : Nat) (hk : k < 64) : hitB ns item k = true ↔ plc (gl ns (min ns.length 64)) ⟨item.toArray⟩ = some k := by
  have hG := goods_gl ns (min ns.length 64) (by omega)
  constructor
  · intro h
    unfold hitB at h
    rw [Bool.or_eq_true, Bool.and_eq_true, beq_iff_eq, beq_iff_eq] at h
    by_cases hnum : numB k = item
    · have hno : ¬ 0 ≤ Lib.idxOfS (gl ns (min ns.length 64)) ⟨item.toArray⟩ := by
        rw [Lib.idxOfS_nonneg_iff]
        intro hm
        obtain ⟨j, hj, he⟩ := List.getElem_of_mem hm
        have hg : (gl ns (min ns.length 64)).getD j ByteArray.empty = ⟨item.toArray⟩ := by rw [List.getD_eq_getElem?_getD, List.getElem?_eq_getElem hj, he]; rfl
        have hw := hG.wf j (by rw [hg]; simpa using h0)
        rw [hg, ← hnum] at hw
        simp only [numB, wfB, Bool.and_eq_true, List.all_cons] at hw
        have := hw.2.2.1
        revert this
        decide
      unfold plc
      rw [if_neg hno]
      cases hf : (List.range 64).find? (fun m => numB m == (⟨item.toArray⟩ : ByteArray).data.toList) with
      | none =>
        rw [List.find?_eq_none] at hf
        exact absurd (by simpa using hnum) (hf k (List.mem_range.2 hk))
      | some m =>
        have h1 := List.find?_some hf
        have h2 := List.mem_range.1 (List.mem_of_find?_eq_some hf)
        have h3 : numB m = numB k := by rw [hnum]; simpa using h1
        have := numB_inj ⟨m, h2⟩ ⟨k, hk⟩ h3
        simp only [Fin.mk.injEq] at this
        rw [this]
    · obtain ⟨hg, he⟩ := h.resolve_left hnum
      have hi := item_ref ns k hk
      rw [if_pos hg, he] at hi
      have := plc_item hG k hk
      rw [hi] at this
      exact this
  · intro h
    unfold hitB
    rw [Bool.or_eq_true, Bool.and_eq_true, beq_iff_eq, beq_iff_eq]
    unfold plc at h
    split at h
    · rename_i h1
      obtain rfl := Option.some.inj h
      obtain ⟨hlt, hat⟩ := idx_at h1
      rw [good_names ns _ hk] at hat
      split at hat
      · rename_i hg
        exact .inr ⟨hg, by rw [hat]⟩
      · exfalso
        apply h0
        have := congrArg (fun b => b.data.toList) hat
        simpa [empty_list] using this.symm
    · have h1 := List.find?_some h
      exact .inl (by simpa using h1)
end Go.Proofs.YthmcckdoneiglaaDoor
