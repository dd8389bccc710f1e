/- Plain facts for LexEach: what comes next in a sequence of words. -/
import Derived.Test.YtghgaelbjcggcaaDoorU
namespace Go.Proofs.YtghgaelbjcggcaaDoor
open Go Go.RowKit

theorem prefix_snoc {α : Type} {l A : List α} {y : α} (h : l <+: A) : (l ++ [y] <+: A) ↔ A[l.length]? = some y := by
  obtain ⟨r, rfl⟩ := h
  rw [List.getElem?_append_right (Nat.le_refl _), Nat.sub_self]
  constructor
  · rintro ⟨q, hq⟩
    rw [List.append_assoc] at hq
    have := List.append_cancel_left hq
    rw [← this]; rfl
  · intro hr
    cases r with
    | nil => simp at hr
    | cons z r =>
      obtain rfl : z = y := by simpa using hr
      exact ⟨r, by simp⟩
/-- What the law's two answers hang on: the words and the fault. -/
structure Ans (s : ByteArray) (ys : List It) (n pl er : Nat) : Prop where
  len : ys.length = n
  all : allItems s = ys.map (fun x => (x.key.1, 0)) ++ if er = 0 then [] else [(⟨0, [], 0, pl⟩, er)]
theorem ans_of {s : ByteArray} {ys : List It} {n pl er : Nat} (h : ys.map (fun x => x.key.1) = (wordsR s).1) (hn : ys.length = n) (hp : (wordsR s).2.1 = pl) (he : (wordsR s).2.2 = er) : Ans s ys n pl er := by
  refine ⟨hn, ?_⟩
  rw [allItems_R, itemsOf, ← h, hp, he, List.map_map]; rfl
theorem Ans.count {s : ByteArray} {ys : List It} {n pl er : Nat} (h : Ans s ys n pl er) : (allItems s).length = n + if er = 0 then 0 else 1 := by
  rw [h.all, List.length_append, List.length_map, h.len]
  split <;> rfl
theorem Ans.at_ {s : ByteArray} {ys : List It} {n pl er : Nat} (h : Ans s ys n pl er) (i : Nat) (hi : i < ys.length) : (allItems s)[i]? = some (ys[i].key.1, 0) := by
  rw [h.all, List.getElem?_append_left (by rw [List.length_map]; exact hi), List.getElem?_map, List.getElem?_eq_getElem hi]; rfl
theorem Ans.last {s : ByteArray} {ys : List It} {n pl er : Nat} (h : Ans s ys n pl er) (he : er ≠ 0) : (allItems s)[n]? = some (⟨0, [], 0, pl⟩, er) := by
  rw [h.all, List.getElem?_append_right (by rw [List.length_map, h.len]; exact Nat.le_refl _), List.length_map, h.len, Nat.sub_self, if_neg he]; rfl
theorem key_same {x y : It} : x.key = (y.key.1, 0) ↔ x.e = 0 ∧ sameB x y = true := by
  unfold sameB
  rw [decide_eq_true_iff]
  constructor
  · intro h
    have h1 := congrArg Prod.snd h
    have h2 := congrArg Prod.fst h
    simp only [It.key, Tok.mk.injEq] at h1 h2
    exact ⟨h1, h2.1, bl_inj h2.2.1, h2.2.2.1, h2.2.2.2⟩
  · rintro ⟨h0, h1, h2, h3, h4⟩
    unfold It.key
    rw [h0, h1, h2, h3, h4]
theorem key_err {x : It} {pl er : Nat} : x.key = (⟨0, [], 0, pl⟩, er) ↔ x.e = er ∧ x.k = 0 ∧ x.t = ⟨#[]⟩ ∧ x.v = 0 ∧ x.a = pl := by
  constructor
  · intro h
    have h1 := congrArg Prod.snd h
    have h2 := congrArg Prod.fst h
    simp only [It.key, Tok.mk.injEq] at h1 h2
    exact ⟨h1, h2.1, bl_inj (h2.2.1.trans rfl), h2.2.2.1, h2.2.2.2⟩
  · rintro ⟨h0, h1, h2, h3, h4⟩
    unfold It.key
    rw [h0, h1, h2, h3, h4]; rfl

section
variable {s : ByteArray} {ys : List It} {n pl er : Nat} {pre : List It} {x : It}
theorem next_iff (hp : pre.map It.key <+: allItems s) : ((pre ++ [x]).map It.key <+: allItems s) ↔ (allItems s)[pre.length]? = some x.key := by
  rw [List.map_append, List.map_cons, List.map_nil, prefix_snoc hp, List.length_map]
theorem next_word (h : Ans s ys n pl er) (hp : pre.map It.key <+: allItems s) (hl2 : pre.length < ys.length) :
    ((pre ++ [x]).map It.key <+: allItems s) ↔ x.e = 0 ∧ sameB x ys[pre.length] = true := by
  rw [next_iff hp, h.at_ _ hl2, ← key_same]
  constructor
  · intro hh; exact (Option.some.inj hh).symm
  · intro hh; rw [hh]
theorem next_err (h : Ans s ys n pl er) (hp : pre.map It.key <+: allItems s) (hl : pre.length = n) (he : er ≠ 0) :
    ((pre ++ [x]).map It.key <+: allItems s) ↔ x.e = er ∧ x.k = 0 ∧ x.t = ⟨#[]⟩ ∧ x.v = 0 ∧ x.a = pl := by
  rw [next_iff hp, hl, h.last he, ← key_err]
  constructor
  · intro hh; exact (Option.some.inj hh).symm
  · intro hh; rw [hh]
theorem next_none (h : Ans s ys n pl er) (hl : n + (if er = 0 then 0 else 1) ≤ pre.length) : ¬ (pre ++ [x]).map It.key <+: allItems s := by
  intro hh
  have := hh.length_le
  rw [h.count, List.length_map, List.length_append, List.length_singleton] at this
  omega
theorem pre_len (h : Ans s ys n pl er) (hp : pre.map It.key <+: allItems s) : pre.length ≤ n + if er = 0 then 0 else 1 := by
  have := hp.length_le
  rwa [h.count, List.length_map] at this
end
theorem nil_of_toList {t : ByteArray} (h : t.toList = []) : t = ⟨#[]⟩ := ByteArray.ext (Array.ext' (by rw [← Lib.toList_data]; exact h))
theorem toList_nil {t : ByteArray} (h : t = ⟨#[]⟩) : t.toList = [] := by rw [h, Lib.toList_data]
theorem results3 (tmps : Array Value) (w : World) (b4 : Nat) (v : Bool) (h4 : tmps[4]?.getD undef = .pointer (some ⟨b4, 0, none⟩)) (c4 : w.cell? ⟨b4, 0, none⟩ = some (.bool v)) :
    (results Tryd.f3 tmps).run Tryd.prog w = .ok (.bool v) w := by
  simp [results, Tryd.results3, go_sem, h4, c4]
theorem ptOk_int {B5 : Nat} {W : World} {z : Int} (h : Boxed W B5 3 (.int .i64 z)) : PtOk B5 W := by
  intro g hg
  unfold pt at hg
  rw [h.cell] at hg
  cases hg
theorem box_below {W W' : World} {B N : Nat} {t : TypeId} {v : Value} (h : Boxed W B t v) (hb : Below N W W') (hB : B < N) : Boxed W' B t v := (hb.block B hB).trans h
theorem keeps_of_below {W W' : World} (hb : Below W.heap.size W W') : KeepsOthers W W' := ⟨hb.size, fun k _ hk _ => (hb.block k (heap_lt hk)).trans hk⟩
theorem below_of_drew {B : Nat} {w w' : World} (h : Below B w.drew w') : Below B w w' := by
  obtain ⟨h1, h2, h3, h4, h5⟩ := h
  exact ⟨h1, h2, h3, h4, h5⟩
theorem toks_set {w : World} {q : Option Addr} {ys : List It} {B : Nat} (h : ToksIn w q ys) (hB : ∀ b, q = some ⟨b, 0, none⟩ → 0 < ys.length → b ≠ B) (v : Value) : ToksIn (w.setCell ⟨B, 0, none⟩ v) q ys := by
  intro i hi
  obtain ⟨b, h1, h2, h3, h4, h5, h6⟩ := h i hi
  have hne := hB b h1 (by omega)
  have hc : ∀ j, (w.setCell ⟨B, 0, none⟩ v).cell? ⟨b, j, none⟩ = w.cell? ⟨b, j, none⟩ := fun j => World.cell?_of_block (a := ⟨b, j, none⟩) (Below.heap_setCell w ⟨B, 0, none⟩ v b hne)
  exact ⟨b, h1, by simpa using h2, (hc _).trans h3, (hc _).trans h4, (hc _).trans h5, (hc _).trans h6⟩
theorem toks_row2 {W : World} {b n c : Nat} {q : Option Addr} {ys : List It} (hn : ys.length = n) (h : W.ownsRow b 32 4 (.slice q n c) n (tokCells ys)) : ToksIn W q ys ∧ ∀ b', q = some ⟨b', 0, none⟩ → 0 < ys.length → b ≤ b' := by
  refine ⟨fun i hi => ?_, fun b' hq h0 => ?_⟩
  · rcases h.2 with ⟨_, h0⟩ | ⟨g, cap, cur, h0, _, _, _⟩
    · omega
    · simp only [Value.slice.injEq, true_and] at h0
      obtain ⟨rfl, rfl⟩ := h0
      obtain ⟨e1, e2, e3, e4⟩ := tokCells_get ys i hi
      have hl := tokCells_len ys
      have hg := (h.lt g rfl).2
      exact ⟨g, rfl, hg, (h.cellAt _ (by omega)).trans e1, (h.cellAt _ (by omega)).trans e2, (h.cellAt _ (by omega)).trans e3, (h.cellAt _ (by omega)).trans e4⟩
  · subst hq
    exact (h.lt b' rfl).1
end Go.Proofs.YtghgaelbjcggcaaDoor
