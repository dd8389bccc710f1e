/- Plain facts: what Parse makes of what Text makes of a label is the label, with whatever names; Of of the numbers of a label is the label. -/
import Derived.Test.YthmcckdoneiglaaDoorM
namespace Go.Proofs.YthmcckdoneiglaaDoor
open Go

/-! ### a label out of its places -/
def orBits (l : List Nat) (a : Nat) : Nat := l.foldl (fun a k => a ||| 2 ^ k) a

theorem orBits_testBit : ∀ (l : List Nat) (a i : Nat), (orBits l a).testBit i = (a.testBit i || decide (i ∈ l))
  | [], a, i => by simp [orBits]
  | k :: l, a, i => by
    have ih := orBits_testBit l (a ||| 2 ^ k) i
    unfold orBits at ih ⊢
    rw [List.foldl_cons, ih, Nat.testBit_or, Nat.testBit_two_pow, Bool.or_assoc]
    congr 1
    by_cases h1 : k = i <;> by_cases h2 : i ∈ l <;> simp [h1, h2, eq_comm]
    all_goals (intro h; exact absurd h.symm h1)

theorem bits_again (x : Nat) (hx : x < 18446744073709551616) : orBits (bitsOf x) 0 = x := by
  apply Nat.eq_of_testBit_eq
  intro i
  rw [orBits_testBit, Nat.zero_testBit, Bool.false_or]
  by_cases h : i < 64
  · cases ht : x.testBit i with
    | true => rw [decide_eq_true ((mem_bitsOf x i).2 ⟨h, ht⟩)]
    | false => rw [decide_eq_false]; intro hm; rw [((mem_bitsOf x i).1 hm).2] at ht; cases ht
  · have h1 : x.testBit i = false := Nat.testBit_lt_two_pow (Nat.lt_of_lt_of_le hx (show 2 ^ 64 ≤ 2 ^ i from Nat.pow_le_pow_right (by omega) (by omega)))
    rw [h1, decide_eq_false]
    intro hm
    exact h ((mem_bitsOf x i).1 hm).1

theorem ofInts_bits (l : List Nat) (hl : ∀ k ∈ l, k < 64) : ofInts (l.map Int.ofNat) = orBits l 0 := by
  have key : ∀ (l : List Nat) (a : Nat), (∀ k ∈ l, k < 64) → (l.map Int.ofNat).foldl ofStep a = orBits l a := by
    intro l
    induction l with
    | nil => intro a _; rfl
    | cons k l ih =>
      intro a h
      have hk := h k (by simp)
      have e : ofStep a (Int.ofNat k) = a ||| 2 ^ k := by
        unfold ofStep
        rw [if_pos ⟨by simp, by simp; omega⟩]
        rfl
      rw [List.map_cons, List.foldl_cons, e, ih _ (fun j hj => h j (by simp [hj]))]
      rfl
  exact key l 0 hl

/-! ### rows of good names -/
structure Goods (zs : List ByteArray) (n : Nat) : Prop where
  len : zs.length = 64
  wf : ∀ k, (zs.getD k ByteArray.empty).data.toList ≠ [] → wfB (zs.getD k ByteArray.empty).data.toList = true
  two : ∀ j k, j < k → (zs.getD k ByteArray.empty).data.toList ≠ [] → zs.getD j ByteArray.empty ≠ zs.getD k ByteArray.empty
  behind : ∀ k, n ≤ k → zs.getD k ByteArray.empty = ByteArray.empty

theorem empty_list : (ByteArray.empty).data.toList = [] := rfl

theorem goods_gl (ns : List ByteArray) : ∀ n, n ≤ 64 → Goods (gl ns n) n
  | 0, _ => by
    have h : ∀ k, (gl ns 0).getD k ByteArray.empty = ByteArray.empty := by
      intro k
      simp only [gl, List.getD_eq_getElem?_getD, List.getElem?_replicate]
      split <;> rfl
    exact ⟨gl_length ns 0, fun k hk => absurd (by rw [h]; rfl) hk, fun j k _ hk => absurd (by rw [h]; rfl) hk, fun k _ => h k⟩
  | n + 1, hn => by
    have ih := goods_gl ns n (by omega)
    by_cases hw : wfB (ns.getD n ByteArray.empty).data.toList = true
    · cases hc : Lib.containsS ((gl ns n).take n) (ns.getD n ByteArray.empty) with
      | true =>
        rw [gl_dup hc]
        exact ⟨ih.len, ih.wf, ih.two, fun k hk => ih.behind k (by omega)⟩
      | false =>
        rw [gl_set hw hc]
        have hnot : ns.getD n ByteArray.empty ∉ (gl ns n).take n := by
          intro h
          rw [(Lib.containsS_iff _ _).2 h] at hc
          cases hc
        generalize ns.getD n ByteArray.empty = x at hw hnot
        have hl := ih.len
        have hset : ∀ k, ((gl ns n).set n x).getD k ByteArray.empty = if k = n then x else (gl ns n).getD k ByteArray.empty := by
          intro k
          rw [List.getD_eq_getElem?_getD, List.getElem?_set]
          by_cases e : n = k
          · subst e
            have hlt : n < (gl ns n).length := by omega
            simp [hlt]
          · rw [if_neg e, if_neg (fun h => e h.symm), ← List.getD_eq_getElem?_getD]
        have hout : ∀ j, j < n → (gl ns n).getD j ByteArray.empty ≠ x := by
          intro j hj he
          apply hnot
          rw [← he, List.getD_eq_getElem?_getD, List.getElem?_eq_getElem (by omega)]
          simp only [Option.getD_some]
          rw [List.mem_take_iff_getElem]
          exact ⟨j, by omega, rfl⟩
        refine ⟨by simpa using hl, fun k hk => ?_, fun j k hjk hk => ?_, fun k hk => ?_⟩
        · rw [hset] at hk ⊢
          split at hk
          · rename_i e; rw [if_pos e]; exact hw
          · rename_i e; rw [if_neg e]; exact ih.wf k hk
        · rw [hset] at hk
          rw [hset, hset]
          by_cases e : k = n
          · subst e
            rw [if_pos rfl, if_neg (by omega)]
            exact hout j hjk
          · rw [if_neg e] at hk ⊢
            by_cases e' : j = n
            · subst e'
              rw [ih.behind k (by omega)] at hk
              exact absurd rfl hk
            · rw [if_neg e']; exact ih.two j k hjk hk
        · rw [hset, if_neg (by omega)]; exact ih.behind k (by omega)
    · rw [gl_keep (by simpa using hw)]
      exact ⟨ih.len, ih.wf, ih.two, fun k hk => ih.behind k (by omega)⟩

theorem plc_item {zs : List ByteArray} {n : Nat} (h : Goods zs n) (k : Nat) (hk : k < 64) : plc zs ⟨(itemB zs k).toArray⟩ = some k := by
  unfold itemB
  split
  · rename_i h0
    have hno : ¬ 0 ≤ Lib.idxOfS zs ⟨(numB k).toArray⟩ := by
      rw [Lib.idxOfS_nonneg_iff]
      intro hm
      obtain ⟨j, hj, he⟩ := List.getElem_of_mem hm
      have hg : zs.getD j ByteArray.empty = ⟨(numB k).toArray⟩ := by rw [List.getD_eq_getElem?_getD, List.getElem?_eq_getElem hj, he]; rfl
      have hw := h.wf j (by rw [hg]; simp [numB])
      rw [hg] at hw
      simp only [numB, wfB, Bool.and_eq_true, List.all_cons] at hw
      have := hw.2.2.1
      revert this
      decide
    unfold plc
    rw [if_neg hno]
    cases hf : (List.range 64).find? (fun m => numB m == (numB k).toArray.toList) with
    | none =>
      rw [List.find?_eq_none] at hf
      exact absurd (by simp) (hf k (List.mem_range.2 hk))
    | some m =>
      have h1 := List.find?_some hf
      have h2 := List.mem_range.1 (List.mem_of_find?_eq_some hf)
      have h3 : numB m = numB k := by simpa using h1
      have := numB_inj ⟨m, h2⟩ ⟨k, hk⟩ h3
      simp only [Fin.mk.injEq] at this
      rw [this]
  · rename_i h0
    have hhit : Lib.idxOfS zs (zs.getD k ByteArray.empty) = (k : Int) := by
      have := Lib.idxFromS_hit (zs.getD k ByteArray.empty) zs k 0 (by rw [h.len]; exact hk) rfl (fun j hj => h.two j k hj h0)
      unfold Lib.idxOfS
      rw [this]; simp
    unfold plc
    rw [ba_eta, hhit, if_pos (by omega)]
    simp

theorem item_ne {zs : List ByteArray} (k : Nat) : itemB zs k ≠ [] := by
  unfold itemB
  split
  · simp [numB]
  · assumption

theorem dec_plain : ∀ k : Fin 64, ((Lib.decDigits k.val).all fun c => !blankB c) = true := by decide +kernel
theorem ok_plain (c : UInt8) (h : okB c = true) : blankB c = false := by
  unfold okB letB digB at h
  unfold blankB
  simp only [Bool.or_eq_true, Bool.and_eq_true, decide_eq_true_eq] at h
  simp only [Bool.or_eq_false_iff, decide_eq_false_iff_not]
  omega

theorem item_plain {zs : List ByteArray} {n : Nat} (h : Goods zs n) (k : Nat) (hk : k < 64) : ∀ b ∈ itemB zs k, blankB b = false := by
  unfold itemB
  split
  · intro b hb
    simp only [numB, List.mem_cons] at hb
    rcases hb with rfl | hb
    · decide
    · have := List.all_eq_true.1 (dec_plain ⟨k, hk⟩) b hb
      simpa using this
  · rename_i h0
    intro b hb
    have hw := h.wf k h0
    generalize (zs.getD k ByteArray.empty).data.toList = l at hb hw
    cases l with
    | nil => cases hb
    | cons c l =>
      simp only [wfB, Bool.and_eq_true] at hw
      exact ok_plain b (List.all_eq_true.1 hw.2.2 b hb)

/-! ### the text -/
/-- The items with a blank between each two. -/
def body (zs : List ByteArray) : List Nat → List UInt8
  | [] => []
  | k :: l => itemB zs k ++ (l.flatMap fun j => 32 :: itemB zs j)

theorem textAcc_body (zs : List ByteArray) (l : List Nat) : textAcc zs l = 123 :: body zs l := by
  cases l with
  | nil => rfl
  | cons k l =>
    have key : ∀ (l : List Nat) (acc : List UInt8), 1 < acc.length → l.foldl (textStep zs) acc = acc ++ (l.flatMap fun j => 32 :: itemB zs j) := by
      intro l
      induction l with
      | nil => intro acc _; simp
      | cons j l ih =>
        intro acc h
        rw [List.foldl_cons, ih _ (by simp only [textStep, List.length_append]; omega)]
        simp [textStep, h]
    have hne := item_ne (zs := zs) k
    have hpos : 0 < (itemB zs k).length := List.length_pos_iff.2 hne
    unfold textAcc body
    rw [List.foldl_cons, key _ _ (by simp [textStep]; omega)]
    simp [textStep]

theorem fields_behind {zs : List ByteArray} {n : Nat} (h : Goods zs n) : ∀ (l : List Nat) (c : List UInt8), (∀ k ∈ l, k < 64) → flds (some c) (l.flatMap fun j => 32 :: itemB zs j) = c :: l.map (itemB zs)
  | [], c, _ => by simp [flds]
  | k :: l, c, hl => by
    have hk := hl k (by simp)
    rw [List.flatMap_cons, List.cons_append, flds_blank_some (by decide), flds_run_none _ _ (item_ne k) (item_plain h k hk), fields_behind h l _ (fun j hj => hl j (by simp [hj]))]
    rfl

theorem fields_body {zs : List ByteArray} {n : Nat} (h : Goods zs n) (l : List Nat) (hl : ∀ k ∈ l, k < 64) : fieldsB (body zs l) = l.map (itemB zs) := by
  cases l with
  | nil => rfl
  | cons k l =>
    have hk := hl k (by simp)
    unfold fieldsB body
    rw [flds_run_none _ _ (item_ne k) (item_plain h k hk), fields_behind h l _ (fun j hj => hl j (by simp [hj]))]
    rfl

theorem pfold_items {zs : List ByteArray} {n : Nat} (h : Goods zs n) : ∀ (l : List Nat) (a : Nat), (∀ k ∈ l, k < 64) → pfold zs (l.map (itemB zs)) a = some (orBits l a)
  | [], a, _ => rfl
  | k :: l, a, hl => by
    rw [List.map_cons]
    unfold pfold
    rw [plc_item h k (hl k (by simp))]
    exact pfold_items h l _ (fun j hj => hl j (by simp [hj]))

/-- A text that begins and ends with no blank, between blanks. -/
theorem trim_mid (a b m : List UInt8) (c d : UInt8) (ha : ∀ x ∈ a, [9, 32].contains x = true) (hb : ∀ x ∈ b, [9, 32].contains x = true) (hc : [9, 32].contains c = false) (hd : [9, 32].contains d = false) :
    Lib.trimS (a ++ (c :: m ++ [d]) ++ b) [9, 32] = c :: m ++ [d] := by
  have drop : ∀ (a r : List UInt8) (c : UInt8), (∀ x ∈ a, [9, 32].contains x = true) → [9, 32].contains c = false → (a ++ c :: r).dropWhile (fun x => List.contains [9, 32] x) = c :: r := by
    intro a
    induction a with
    | nil => intro r c _ hc; simp only [List.nil_append]; rw [List.dropWhile_cons, if_neg (by rw [hc]; simp)]
    | cons x a ih =>
      intro r c ha hc
      rw [List.cons_append, List.dropWhile_cons, if_pos (ha x (by simp))]
      exact ih r c (fun y hy => ha y (by simp [hy])) hc
  unfold Lib.trimS Lib.trimRightS Lib.trimLeftS
  have e : (a ++ (c :: m ++ [d]) ++ b).reverse = b.reverse ++ d :: (a ++ c :: m).reverse := by simp
  rw [e, drop b.reverse _ d (fun x hx => hb x (List.mem_reverse.1 hx)) hd]
  have e2 : (d :: (a ++ c :: m).reverse).reverse = a ++ c :: (m ++ [d]) := by simp
  rw [e2, drop a _ c ha hc]
  rfl

/-- **Parse of Text.** -/
theorem parse_text {zs : List ByteArray} {n : Nat} (h : Goods zs n) (x : Nat) (hx : x < 18446744073709551616) (a b : List UInt8) (ha : ∀ y ∈ a, [9, 32].contains y = true) (hb : ∀ y ∈ b, [9, 32].contains y = true) :
    parseB zs (a ++ textB zs x ++ b) = some x := by
  have et : textB zs x = 123 :: body zs (bitsOf x) ++ [125] := by unfold textB; rw [textAcc_body]
  unfold parseB
  rw [et, trim_mid a b _ 123 125 ha hb (by decide) (by decide)]
  have p1 : Lib.hasPrefix (123 :: body zs (bitsOf x) ++ [125]) [123] = true := by simp [Lib.hasPrefix]
  have p2 : Lib.trimPrefix (123 :: body zs (bitsOf x) ++ [125]) [123] = body zs (bitsOf x) ++ [125] := by unfold Lib.trimPrefix; rw [if_pos p1]; simp
  have p3 : Lib.hasSuffix (body zs (bitsOf x) ++ [125]) [125] = true := by simp [Lib.hasSuffix]
  have p4 : Lib.trimSuffix (body zs (bitsOf x) ++ [125]) [125] = body zs (bitsOf x) := by unfold Lib.trimSuffix; rw [if_pos p3]; simp
  rw [p1, p2, p3, p4, if_pos ⟨rfl, rfl⟩, fields_body h _ (bitsOf_lt x), pfold_items h _ _ (bitsOf_lt x), bits_again x hx]
end Go.Proofs.YthmcckdoneiglaaDoor
