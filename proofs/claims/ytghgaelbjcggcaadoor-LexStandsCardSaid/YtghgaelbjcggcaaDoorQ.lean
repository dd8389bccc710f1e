/- Plain facts for LexStands: what stands in a text where its words are told; their Text's words. -/
import Derived.Test.YtghgaelbjcggcaaDoorI
import Derived.Test.YtghgaelbjcggcaaDoorK
namespace Go.Proofs.YtghgaelbjcggcaaDoor
open Go Go.RowKit

theorem stands_len : ∀ (ts : List Tok) (l : List Nat) (a : Nat), Stands l a ts → ∀ t ∈ ts, t.text.length ≤ l.length
  | [], _, _, _, t, ht => absurd ht (by simp)
  | u :: ts, l, a, h, t, ht => by
    obtain ⟨g, h1, h2, h3, h4, h5⟩ := h
    rcases List.mem_cons.1 ht with rfl | ht
    · omega
    · have := stands_len ts _ _ h5 t ht
      rw [List.length_drop] at this; omega

/-- A text without a fault: its words as a row. -/
theorem clean_row {s : ByteArray} {ys : List It} (hy : ys.map It.key = allItems s) (h0 : ∀ x ∈ ys, x.e = 0) :
    s.size ≤ 65536 ∧ (scanL (bl s) 0).2.2 = 0 ∧ (scanL (bl s) 0).1 = ys.map (fun x => x.key.1) := by
  have hs : s.size ≤ 65536 := by
    rcases Nat.lt_or_ge 65536 s.size with hh | hh
    · exfalso
      have hm : ((⟨0, [], 0, 0⟩, 3) : Tok × Nat) ∈ ys.map It.key := by rw [hy, allItems, if_pos hh]; simp
      obtain ⟨x, hx, he⟩ := List.mem_map.1 hm
      have h1 := h0 x hx
      have h2 := congrArg Prod.snd he
      rw [show x.key.2 = x.e from rfl, h1] at h2
      exact absurd h2 (by decide)
    · exact hh
  rw [allItems, if_neg (by omega), itemsOf] at hy
  have he : (scanL (bl s) 0).2.2 = 0 := by
    rcases Nat.eq_zero_or_pos (scanL (bl s) 0).2.2 with hh | hh
    · exact hh
    · exfalso
      rw [if_neg (by omega)] at hy
      have hm : ((⟨0, [], 0, (scanL (bl s) 0).2.1⟩, (scanL (bl s) 0).2.2) : Tok × Nat) ∈ ys.map It.key := by rw [hy]; simp
      obtain ⟨x, hx, he⟩ := List.mem_map.1 hm
      have h1 := h0 x hx
      have h2 := congrArg Prod.snd he
      rw [show x.key.2 = x.e from rfl, h1] at h2
      simp only at h2
      omega
  refine ⟨hs, he, ?_⟩
  rw [if_pos he, List.append_nil] at hy
  have := congrArg (List.map Prod.fst) hy
  rw [List.map_map, List.map_map] at this
  have h2 : (scanL (bl s) 0).1.map (Prod.fst ∘ fun t => (t, 0)) = (scanL (bl s) 0).1 := by
    rw [show (Prod.fst ∘ fun (t : Tok) => (t, 0)) = id from rfl, List.map_id]
  rw [h2] at this
  exact this.symm

/-- One step of a row of words that stand in a text. -/
theorem stand_step {s : ByteArray} {a : Nat} {x : It} {ts : List Tok} (ha : a ≤ s.size) (h : Stands ((bl s).drop a) a (x.key.1 :: ts)) :
    a ≤ x.a ∧ x.a + x.t.size ≤ s.size ∧ s.extract x.a (x.a + x.t.size) = x.t ∧ betweenB false (bl (s.extract a x.a)) = true ∧ Stands ((bl s).drop (x.a + x.t.size)) (x.a + x.t.size) ts := by
  obtain ⟨g, h1, h2, h3, h4, h5⟩ := h
  have e1 : x.a = a + g := h1
  have e2 : (x.key.1).text.length = x.t.size := bl_length x.t
  rw [e2] at h3 h4 h5
  rw [List.length_drop, bl_length] at h4
  rw [List.drop_drop] at h3 h5
  refine ⟨by omega, by omega, ?_, ?_, ?_⟩
  · apply bl_inj
    rw [bl_extract, List.drop_take, e1]
    rw [show a + g + x.t.size - (a + g) = x.t.size by omega]
    exact h3
  · rw [bl_extract, List.drop_take, e1, show a + g - a = g by omega]
    exact h2
  · rw [e1]
    rw [show a + g + x.t.size = a + (g + x.t.size) by omega]
    rw [show a + g + x.t.size = a + (g + x.t.size) by omega] at h5
    exact h5
theorem stand_end {s : ByteArray} {a : Nat} (h : Stands ((bl s).drop a) a []) : betweenB false (bl (s.extract a s.size)) = true := by
  rw [bl_rest]; exact h
theorem good_err {x : It} (h : Good x.k (bl x.t) x.v) : errL (bl x.t) = 0 := by
  have hw := h.word
  unfold errL
  have hl : (bl x.t).length ≠ 0 := fun e => h.ne (List.eq_nil_of_length_eq_zero e)
  have hn := h.name
  have hu := h.num
  rw [hw]
  simp only
  rw [if_neg hl, if_neg hn, List.take_length, if_neg hu]
theorem good_is {x : It} (h : Good x.k (bl x.t) x.v) : isL (bl x.t) = x.k := by
  unfold isL
  rw [if_pos ⟨h.ne, good_err h, by rw [h.word]⟩, h.word]

/-- The Text of a text's words has the same words. -/
theorem text_again {s : ByteArray} {ys zs : List It} (hy : ys.map It.key = allItems s) (h0 : ∀ x ∈ ys, x.e = 0) (hz : zs.map It.key = allItems ⟨(txt ys).toArray⟩) (hz0 : ∀ x ∈ zs, x.e = 0) :
    zs.length = ys.length ∧ ∀ i (h1 : i < zs.length) (h2 : i < ys.length), zs[i].k = ys[i].k ∧ zs[i].t = ys[i].t ∧ zs[i].v = ys[i].v := by
  obtain ⟨_, he, hr⟩ := clean_row hy h0
  obtain ⟨_, he2, hr2⟩ := clean_row hz hz0
  have hall := scanL_all _ (bl s) (Nat.le_refl _) 0
  rw [hr] at hall
  have hj := scanL_join (ys.map fun x => x.key.1) hall 0
  have hb : bl ⟨(txt ys).toArray⟩ = joinL ((ys.map fun x => x.key.1).map Tok.text) := by
    rw [txt_bl, List.map_map]; rfl
  rw [← hb] at hj
  have hm := hj.2
  rw [hr2, List.map_map, List.map_map] at hm
  have hlen := congrArg List.length hm
  rw [List.length_map, List.length_map] at hlen
  refine ⟨hlen, fun i h1 h2 => ?_⟩
  have hi := congrArg (fun l => l[i]?) hm
  simp only [List.getElem?_map, List.getElem?_eq_getElem h1, List.getElem?_eq_getElem h2, Option.map_some, Function.comp, It.key, Option.some.injEq, Prod.mk.injEq] at hi
  exact ⟨hi.1, bl_inj hi.2.1, hi.2.2⟩
theorem text_clean {s : ByteArray} {ys : List It} (hy : ys.map It.key = allItems s) (h0 : ∀ x ∈ ys, x.e = 0) (hs : (⟨(txt ys).toArray⟩ : ByteArray).size ≤ 65536) : ∀ x ∈ allItems ⟨(txt ys).toArray⟩, x.2 = 0 := by
  obtain ⟨_, he, hr⟩ := clean_row hy h0
  have hall := scanL_all _ (bl s) (Nat.le_refl _) 0
  rw [hr] at hall
  have hj := scanL_join (ys.map fun x => x.key.1) hall 0
  have hb : bl ⟨(txt ys).toArray⟩ = joinL ((ys.map fun x => x.key.1).map Tok.text) := by
    rw [txt_bl, List.map_map]; rfl
  rw [← hb] at hj
  rw [allItems, if_neg (by omega), itemsOf, if_pos hj.1, List.append_nil]
  intro x hx
  obtain ⟨t, _, rfl⟩ := List.mem_map.1 hx
  rfl
end Go.Proofs.YtghgaelbjcggcaaDoor
