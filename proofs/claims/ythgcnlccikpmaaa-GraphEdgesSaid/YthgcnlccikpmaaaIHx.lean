/- Rows that come in, opened. -/
import Derived.Test.YthgcnlccikpmaaaIA
import Derived.Deep.Slices
import Derived.SizedLaws
import Derived.ChangeArms
import Derived.Lib.LaidU8
namespace Go.Proofs.Ythgcnlccikpmaaa
open Go Go.RowKit Go.Proofs.Mm Go.ChangeShapes Go.WideShapes

/-- What is weighed is not too large. -/
def Wt {H : Type} (t : TypeId) (d : DataW H) : Prop := ∀ x ∈ d.weights Try.prog t, x ≤ reachBytes
theorem all_mem {H : Type} {P : Program} {e : TypeId} : ∀ {l : List (DataW H)} {d : DataW H}, d ∈ l → ∀ x ∈ d.weights P e, x ∈ DataW.weightsAll P e l
  | y :: l, d, hd, x, hx => by
    simp only [DataW.weightsAll, List.mem_append]
    rcases List.mem_cons.1 hd with rfl | hd
    · exact .inl hx
    · exact .inr (all_mem hd x hx)
theorem enc_range {α : Type} {R : List Value → α → Prop} (f : Nat → α) (g : Nat → List Value) : ∀ n, (∀ i, i < n → R (g i) (f i)) → Enc R ((List.range n).flatMap g) ((List.range n).map f)
  | 0, _ => rfl
  | n + 1, h => by
    rw [List.range_succ, List.flatMap_append, List.map_append]
    refine (enc_range f g n fun i hi => h i (by omega)).app ?_
    simp only [List.flatMap_cons, List.flatMap_nil, List.append_nil, List.map_cons, List.map_nil]
    exact Enc.one (h n (by omega))
theorem open_sl {H : Type} {enc : TypeId × Value → H} {w : World} {α : Type} [Inhabited α] {t e : TypeId} {size bs fuel : Nat} {cs : List Value} {d : DataW H} {p : List MemPlace} (ht : Try.prog.underlying t = some (.slice e)) (hc : Try.prog.cellsOf e = size) (hs : 0 < size) (hbs : Try.prog.bytesOf e = bs)
    {R : List Value → α → Prop} (hR : ∀ c x, R c x → c.length = size)
    (hopen : ∀ n cs' d p, cs'.length = size → DataW.trod enc Try.prog w 0 (fun _ => true) true n e cs' = some (d, p) → Wt e d → ∃ a, R cs' a)
    (h : DataW.trod enc Try.prog w 0 (fun _ => true) true fuel t cs = some (d, p)) (hw : Wt t d) : ∃ v l, cs = [v] ∧ SlX [] bs (wC w) R v l := by
  rcases Go.Deep.open_slice ht h with ⟨rfl, hx⟩ | ⟨a, len, cap, m, n, D, Pl, rfl, hb, hl, hm, hmm, hx, hel⟩
  · exact ⟨_, [], rfl, none, 0, [], rfl, .inl rfl, .inl rfl, Enc.nil, by simp, by unfold maxLen; omega, fun _ => rfl, by simp⟩
  · rw [if_pos rfl] at hmm
    subst hmm
    rw [hc] at hel
    injection hx with hx1 hx2
    subst hx1
    have hwl : m * bs ≤ reachBytes := by
      have := hw (((List.range len).map D).length + ((List.range (m - len)).map fun j => D (len + j)).length |>.mul (Try.prog.bytesOf e)) (by simp only [DataW.weights, ht]; exact List.mem_cons_self ..)
      simp only [List.length_map, List.length_range, hbs] at this
      rw [show len + (m - len) = m by omega] at this
      exact this
    have hDm : ∀ i, i < len → D i ∈ ((List.range len).map D) := fun i hi => List.mem_map.2 ⟨i, List.mem_range.2 hi, rfl⟩
    have hch : ∀ i, i < len → ∃ y : List Value × α, w.cells? 0 (a.add (i * size)) size = some y.1 ∧ R y.1 y.2 := fun i hi => by
      obtain ⟨cs', h1, h2⟩ := hel i (by omega)
      obtain ⟨_, hlen, _⟩ := World.cells?_some h1
      obtain ⟨x, hx⟩ := hopen n cs' (D i) (Pl i) hlen h2 (fun x hx => hw x (by
        simp only [DataW.weights, ht]
        exact List.mem_cons_of_mem _ (List.mem_append_left _ (all_mem (hDm i hi) x hx))))
      exact ⟨(cs', x), h1, hx⟩
    obtain ⟨f, hf⟩ := Go.Deep.choose_lt hch
    have hE : Enc R ((List.range len).flatMap fun i => (f i).1) ((List.range len).map fun i => (f i).2) := enc_range _ _ len fun i hi => (hf i hi).2
    refine ⟨_, (List.range len).map fun i => (f i).2, rfl, some a, m, (List.range len).flatMap fun i => (f i).1, by simp, .inl rfl, ?_, hE, by simp only [List.length_map, List.length_range]; have hrb : reachBytes = 140737488351232 := rfl; have := Nat.mul_le_mul_right bs hl; omega, hm, by simp, by simpa using hl⟩
    rw [List.append_nil]
    by_cases h0 : len = 0
    · subst h0; exact .inl rfl
    · refine .inr ?_
      obtain ⟨b, off, sp⟩ := a
      have hE' : Enc (fun c i => c = (f i).1 ∧ i < len) ((List.range len).flatMap fun i => (f i).1) ((List.range len).map fun i => i) := enc_range _ _ len fun i hi => ⟨rfl, hi⟩
      have hlen : ∀ c i, (c = (f i).1 ∧ i < len) → c.length = size := fun c i ⟨e, hi⟩ => by rw [e]; exact hR _ _ (hf i hi).2
      obtain ⟨hL, hA⟩ := encZ_at hlen hE'
      have hsp : sp = none := by
        obtain ⟨_, h2, h3⟩ := World.cells?_some (hf 0 (by omega)).1
        have h4 := h3 0 hs
        rw [List.getElem?_eq_getElem (by omega)] at h4
        rw [Nat.zero_mul] at h4
        have h5 : (((⟨b, off, sp⟩ : Addr).add 0).add 0) = ⟨b, off, sp⟩ := by simp [Addr.add]
        rw [h5] at h4
        exact cell_spot h4
      subst hsp
      refine ⟨b, off, rfl, fun j u hu => ?_⟩
      have hj : j < len * size := by
        have := (List.getElem?_eq_some_iff.1 hu).1
        rw [hL] at this
        simpa using this
      have hq : j / size < len := (Nat.div_lt_iff_lt_mul hs).2 hj
      obtain ⟨c, ⟨e1, _⟩, e2⟩ := hA (j / size) (by simpa using hq)
      have hr : j % size < size := Nat.mod_lt _ hs
      have e3 := e2 (j % size) hr
      have hjj : j / size * size + j % size = j := by rw [Nat.mul_comm]; exact Nat.div_add_mod j size
      rw [hjj, hu] at e3
      simp only [List.getElem_map, List.getElem_range] at e1
      obtain ⟨_, _, h3⟩ := World.cells?_some (hf (j / size) hq).1
      have h4 := h3 (j % size) hr
      rw [← e1, ← e3] at h4
      have h5 : (((⟨b, off, none⟩ : Addr).add (j / size * size)).add (j % size)) = ⟨b, off + j, none⟩ := by
        rw [Go.Deep.add_add, hjj]
        unfold Addr.add
        split <;> simp_all
      rw [h5] at h4
      exact h4
end Go.Proofs.Ythgcnlccikpmaaa
