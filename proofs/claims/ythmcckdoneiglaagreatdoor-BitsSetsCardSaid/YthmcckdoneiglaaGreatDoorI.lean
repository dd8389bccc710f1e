/- strings.FieldsFuncSeq over isBlank: for every text, every loop body that keeps the library's tables and the iterator's own boxes: it hands out the pieces between blanks, in their order. -/
import Derived.Test.YthmcckdoneiglaaGreatDoorH
import Derived.Test.YthmcckdoneiglaaGreatDoorFields
namespace Go.Proofs.YthmcckdoneiglaaGreatDoor
open Go Go.RowKit Go.Shelf

theorem decode_at (s : ByteArray) (i : Nat) (hi : i < s.size) : ∃ a : List UInt8, a ≠ [] ∧ a.length = (Lib.decodeGo (s.extract i s.size)).2 ∧ s.data.toList.drop i = a ++ s.data.toList.drop (i + a.length) ∧ i + a.length ≤ s.size ∧
    (blankN (Lib.decodeGo (s.extract i s.size)).1 = true → ∃ b, a = [b] ∧ blankB b = true) ∧ (blankN (Lib.decodeGo (s.extract i s.size)).1 = false → ∀ b ∈ a, blankB b = false) := by
  have hl := Lib.size_eq s
  have ht := Lib.extract_to_end s i
  have hts := Lib.size_eq (s.extract i s.size)
  rw [ht, List.length_drop] at hts
  generalize s.extract i s.size = t at ht hts
  have h0 : 0 < t.size := by omega
  have hd : Lib.decodeGo t = Utf8.decode t 0 := by unfold Lib.decodeGo; rw [if_neg (by omega)]
  rw [hd]
  have hg : ∀ j (hj : j < t.size), t.get! j = t.data.toList[j]'(by rw [← Lib.size_eq]; exact hj) := fun j hj => by
    rw [Utf8W.get!_of_lt t j hj]; rfl
  rw [← ht]
  have hspan : ∀ j, 128 ≤ (t.get! 0).toNat → j < (Utf8.decode t 0).2 → j < t.size ∧ 128 ≤ (t.get! j).toNat := fun j ha hj => decode_span t h0 ha j hj
  have hdrop : ∀ K, s.data.toList.drop (i + K) = t.data.toList.drop K := fun K => by rw [ht, List.drop_drop]
  have hlt := Lib.size_eq t
  by_cases ha : (t[0]'h0).toNat < 128
  · have hda := decode_ascii t 0 h0 ha
    rw [hda]
    refine ⟨[t[0]'h0], by simp, rfl, ?_, by show i + 1 ≤ s.size; omega, ?_, ?_⟩
    · simp only [List.length_cons, List.length_nil, Nat.zero_add]
      rw [hdrop 1]
      cases hc : t.data.toList with
      | nil => rw [hc] at hlt; have h00 : t.size = 0 := hlt; omega
      | cons b l =>
        have : t[0]'h0 = b := by
          show t.data.toList[0]'(by rw [← Lib.size_eq]; exact h0) = b
          simp [hc]
        rw [this]; rfl
    · intro h
      refine ⟨_, rfl, ?_⟩
      unfold blankN at h
      unfold blankB
      exact h
    · intro h b hb
      simp only [List.mem_singleton] at hb
      subst hb
      unfold blankN at h
      unfold blankB
      exact h
  · obtain ⟨hr, hk⟩ := decode_high t 0 h0 (by omega)
    have ha' : 128 ≤ (t.get! 0).toNat := by rw [Utf8W.get!_of_lt t 0 h0]; omega
    have hsp := fun j => hspan j ha'
    generalize Utf8.decode t 0 = RK at hr hk hsp
    obtain ⟨R, K⟩ := RK
    simp only at hr hk hsp ⊢
    have hKt : K ≤ t.size := by
      have := (hsp (K - 1) (by omega)).1
      omega
    have hlen : (t.data.toList.take K).length = K := by rw [List.length_take]; omega
    refine ⟨t.data.toList.take K, ?_, hlen, ?_, by rw [hlen]; omega, ?_, ?_⟩
    · intro h
      rw [h] at hlen
      simp at hlen; omega
    · rw [hlen, hdrop K, List.take_append_drop]
    · intro h
      unfold blankN at h
      simp at h; omega
    · intro _ b hb
      obtain ⟨j, hj, rfl⟩ := List.getElem_of_mem hb
      rw [hlen] at hj
      have h2 := hsp j hj
      have h3 := hg j h2.1
      rw [List.getElem_take, ← h3]
      unfold blankB
      simp; omega
end Go.Proofs.YthmcckdoneiglaaGreatDoor
