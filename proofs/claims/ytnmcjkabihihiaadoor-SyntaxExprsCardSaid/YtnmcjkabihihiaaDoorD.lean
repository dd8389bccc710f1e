/- Contracts of the document's own tests of keywords and marks: for every text and every memory. -/
import Derived.Test.YtnmcjkabihihiaaDoorC
import Derived.Below
import Derived.Laws.OwnMore
import Derived.RegionTactic
namespace Go.Proofs.YtnmcjkabihihiaaDoor
open Go Go.RowKit

theorem cells_new (w : World) (A : Array Value) (T : TypeId) (k : Nat) : (w.alloc (.cells A T)).cell? ⟨w.heap.size, k, none⟩ = A[k]? := by
  rw [World.cell?_alloc_new]
theorem list_eq {x y : ByteArray} (h : (x.toList == y.toList) = true) : x = y := by
  have := beq_iff_eq.1 h
  rw [Lib.toList_data, Lib.toList_data] at this
  apply ByteArray.ext
  exact Array.ext' this
theorem list_ne {x y : ByteArray} (h : (x.toList == y.toList) = false) : x ≠ y := by
  intro e
  subst e
  simp at h
theorem none_yet {L : List ByteArray} {s : ByteArray} {k : Nat} (h : ∀ i, i < k → L.getD i ByteArray.empty ≠ s) (hk : L.getD k ByteArray.empty ≠ s) : ∀ i, i < k + 1 → L.getD i ByteArray.empty ≠ s := by
  intro i hi
  rcases Nat.lt_or_ge i k with h1 | h1
  · exact h i h1
  · obtain rfl : i = k := by omega
    exact hk
theorem found {L : List ByteArray} {M : List (List Nat)} {s : ByteArray} {k : Nat} (hk : k < L.length) (hM : L.map bl = M) (h : L.getD k ByteArray.empty = s) : bl s ∈ M := by
  subst hM; subst h
  rw [List.getD_eq_getElem?_getD, List.getElem?_eq_getElem hk]
  exact List.mem_map_of_mem (List.getElem_mem hk)
theorem not_found {L : List ByteArray} {M : List (List Nat)} {s : ByteArray} (hM : L.map bl = M) (h : ∀ i, i < L.length → L.getD i ByteArray.empty ≠ s) : bl s ∉ M := by
  subst hM
  intro hm
  obtain ⟨x, hx, he⟩ := List.mem_map.1 hm
  obtain ⟨i, hi, rfl⟩ := List.getElem_of_mem hx
  refine h i hi ?_
  rw [List.getD_eq_getElem?_getD, List.getElem?_eq_getElem hi]
  exact bl_inj he
def keywords : List ByteArray := [⟨#[112, 114, 105, 110, 99, 105, 112, 97, 108]⟩, ⟨#[103, 108, 111, 98, 97, 108]⟩, ⟨#[97, 114, 114, 97, 121]⟩, ⟨#[99, 104, 97, 110, 110, 101, 108]⟩, ⟨#[102, 117, 110, 99]⟩, ⟨#[118, 97, 114]⟩, ⟨#[105, 102]⟩, ⟨#[101, 108, 115, 101]⟩, ⟨#[119, 104, 105, 108, 101]⟩, ⟨#[115, 101, 110, 100]⟩, ⟨#[114, 101, 116, 117, 114, 110]⟩]
theorem keywords_bl : keywords.map bl = keysL := by decide
theorem keywords_cell (w : World) (T : TypeId) : ∀ k, k < 11 → (w.alloc (.cells #[.string ⟨#[112, 114, 105, 110, 99, 105, 112, 97, 108]⟩, .string ⟨#[103, 108, 111, 98, 97, 108]⟩, .string ⟨#[97, 114, 114, 97, 121]⟩, .string ⟨#[99, 104, 97, 110, 110, 101, 108]⟩, .string ⟨#[102, 117, 110, 99]⟩, .string ⟨#[118, 97, 114]⟩, .string ⟨#[105, 102]⟩, .string ⟨#[101, 108, 115, 101]⟩, .string ⟨#[119, 104, 105, 108, 101]⟩, .string ⟨#[115, 101, 110, 100]⟩, .string ⟨#[114, 101, 116, 117, 114, 110]⟩] T)).cell? ⟨w.heap.size, k, none⟩ = some (.string (keywords.getD k ByteArray.empty)) := by
  intro k hk
  rw [cells_new]
  match k, hk with
  | 0, _ => rfl
  | 1, _ => rfl
  | 2, _ => rfl
  | 3, _ => rfl
  | 4, _ => rfl
  | 5, _ => rfl
  | 6, _ => rfl
  | 7, _ => rfl
  | 8, _ => rfl
  | 9, _ => rfl
  | 10, _ => rfl
  | j + 11, h => exact absurd h (by omega)
set_option maxRecDepth 100000 in
set_option maxHeartbeats 1000000 in
theorem keyword_any (s : ByteArray) (w : World) : Calls Tryd.prog 55 #[.string s] w fun e w' => e = .returned (.bool (decide (bl s ∈ keysL))) ∧ Below w.heap.size w w' := by
  have hc := keywords_cell w 9
  have hB : Below w.heap.size w (w.alloc (.cells #[.string ⟨#[112, 114, 105, 110, 99, 105, 112, 97, 108]⟩, .string ⟨#[103, 108, 111, 98, 97, 108]⟩, .string ⟨#[97, 114, 114, 97, 121]⟩, .string ⟨#[99, 104, 97, 110, 110, 101, 108]⟩, .string ⟨#[102, 117, 110, 99]⟩, .string ⟨#[118, 97, 114]⟩, .string ⟨#[105, 102]⟩, .string ⟨#[101, 108, 115, 101]⟩, .string ⟨#[119, 104, 105, 108, 101]⟩, .string ⟨#[115, 101, 110, 100]⟩, .string ⟨#[114, 101, 116, 117, 114, 110]⟩] 9)) := (Below.refl _ w).alloc (Nat.le_refl _) _
  go_enter Tryd.func55, Tryd.ntmps55
  go_wp2
  generalize (w.alloc (.cells #[.string ⟨#[112, 114, 105, 110, 99, 105, 112, 97, 108]⟩, .string ⟨#[103, 108, 111, 98, 97, 108]⟩, .string ⟨#[97, 114, 114, 97, 121]⟩, .string ⟨#[99, 104, 97, 110, 110, 101, 108]⟩, .string ⟨#[102, 117, 110, 99]⟩, .string ⟨#[118, 97, 114]⟩, .string ⟨#[105, 102]⟩, .string ⟨#[101, 108, 115, 101]⟩, .string ⟨#[119, 104, 105, 108, 101]⟩, .string ⟨#[115, 101, 110, 100]⟩, .string ⟨#[114, 101, 116, 117, 114, 110]⟩] 9)) = W at *
  have HC := Lib.hid hc
  have HB := Lib.hid hB
  clear hc hB
  go_loop [4] (fun i => ∃ k : Nat, k ≤ 11 ∧ i = .int .i64 k ∧ Hid (∀ i, i < k → keywords.getD i ByteArray.empty ≠ s)) (fun i => 11 - (intOf i).toNat)
  case atStart => exact ⟨0, Nat.zero_le _, rfl, Lib.hid (fun i hi => absurd hi (Nat.not_lt_zero _))⟩
  case round =>
    obtain ⟨k, hk, rfl, H⟩ := hrel
    by_cases hlt : k < 11
    · have hcell := HC.out k hlt
      obtain ⟨x, hx⟩ : ∃ x, keywords.getD k ByteArray.empty = x := ⟨_, rfl⟩
      rw [hx] at hcell
      have HX := Lib.hid hx
      clear hx
      cases he : (x.toList == s.toList)
      · have HN := Lib.hid (none_yet H.out (by rw [HX.out]; exact list_ne he))
        go_wp2
        go_round
        case rel => exact ⟨k + 1, by omega, by go_num, HN⟩
        case measure => simp [intOf]; omega
      · have HF := Lib.hid (found (L := keywords) hlt keywords_bl (HX.out.trans (list_eq he)))
        go_wp2
        go_ret
        exact ⟨ret_bool (by rw [decide_eq_true HF.out]), HB.out⟩
    · have hk' : k = keywords.length := by
        have : keywords.length = 11 := rfl
        omega
      have HK := Lib.hid (not_found keywords_bl (fun i hi => H.out i (by omega)))
      clear hk'
      go_wp2
      go_ret
      exact ⟨ret_bool (by rw [decide_eq_false HK.out]), HB.out⟩
def marksR : List (List Nat) := [[123], [125], [40], [41], [91], [93], [44], [59], [61], [61, 61], [33, 61], [60], [60, 61], [43], [45], [42], [47], [37], [38], [124], [94], [60, 60], [62, 62], [33], [126]]
theorem marksR_mem (l : List Nat) : l ∈ marksR ↔ l ∈ marksL := ⟨fun h => (show ∀ x ∈ marksR, x ∈ marksL from by decide) l h, fun h => (show ∀ x ∈ marksL, x ∈ marksR from by decide) l h⟩
def marks : List ByteArray := [⟨#[123]⟩, ⟨#[125]⟩, ⟨#[40]⟩, ⟨#[41]⟩, ⟨#[91]⟩, ⟨#[93]⟩, ⟨#[44]⟩, ⟨#[59]⟩, ⟨#[61]⟩, ⟨#[61, 61]⟩, ⟨#[33, 61]⟩, ⟨#[60]⟩, ⟨#[60, 61]⟩, ⟨#[43]⟩, ⟨#[45]⟩, ⟨#[42]⟩, ⟨#[47]⟩, ⟨#[37]⟩, ⟨#[38]⟩, ⟨#[124]⟩, ⟨#[94]⟩, ⟨#[60, 60]⟩, ⟨#[62, 62]⟩, ⟨#[33]⟩, ⟨#[126]⟩]
theorem marks_bl : marks.map bl = marksR := by decide
theorem marks_cell (w : World) (T : TypeId) : ∀ k, k < 25 → (w.alloc (.cells #[.string ⟨#[123]⟩, .string ⟨#[125]⟩, .string ⟨#[40]⟩, .string ⟨#[41]⟩, .string ⟨#[91]⟩, .string ⟨#[93]⟩, .string ⟨#[44]⟩, .string ⟨#[59]⟩, .string ⟨#[61]⟩, .string ⟨#[61, 61]⟩, .string ⟨#[33, 61]⟩, .string ⟨#[60]⟩, .string ⟨#[60, 61]⟩, .string ⟨#[43]⟩, .string ⟨#[45]⟩, .string ⟨#[42]⟩, .string ⟨#[47]⟩, .string ⟨#[37]⟩, .string ⟨#[38]⟩, .string ⟨#[124]⟩, .string ⟨#[94]⟩, .string ⟨#[60, 60]⟩, .string ⟨#[62, 62]⟩, .string ⟨#[33]⟩, .string ⟨#[126]⟩] T)).cell? ⟨w.heap.size, k, none⟩ = some (.string (marks.getD k ByteArray.empty)) := by
  intro k hk
  rw [cells_new]
  match k, hk with
  | 0, _ => rfl
  | 1, _ => rfl
  | 2, _ => rfl
  | 3, _ => rfl
  | 4, _ => rfl
  | 5, _ => rfl
  | 6, _ => rfl
  | 7, _ => rfl
  | 8, _ => rfl
  | 9, _ => rfl
  | 10, _ => rfl
  | 11, _ => rfl
  | 12, _ => rfl
  | 13, _ => rfl
  | 14, _ => rfl
  | 15, _ => rfl
  | 16, _ => rfl
  | 17, _ => rfl
  | 18, _ => rfl
  | 19, _ => rfl
  | 20, _ => rfl
  | 21, _ => rfl
  | 22, _ => rfl
  | 23, _ => rfl
  | 24, _ => rfl
  | j + 25, h => exact absurd h (by omega)
set_option maxRecDepth 100000 in
set_option maxHeartbeats 1000000 in
theorem mark_any (s : ByteArray) (w : World) : Calls Tryd.prog 56 #[.string s] w fun e w' => e = .returned (.bool (decide (bl s ∈ marksR))) ∧ Below w.heap.size w w' := by
  have hc := marks_cell w 9
  have hB : Below w.heap.size w (w.alloc (.cells #[.string ⟨#[123]⟩, .string ⟨#[125]⟩, .string ⟨#[40]⟩, .string ⟨#[41]⟩, .string ⟨#[91]⟩, .string ⟨#[93]⟩, .string ⟨#[44]⟩, .string ⟨#[59]⟩, .string ⟨#[61]⟩, .string ⟨#[61, 61]⟩, .string ⟨#[33, 61]⟩, .string ⟨#[60]⟩, .string ⟨#[60, 61]⟩, .string ⟨#[43]⟩, .string ⟨#[45]⟩, .string ⟨#[42]⟩, .string ⟨#[47]⟩, .string ⟨#[37]⟩, .string ⟨#[38]⟩, .string ⟨#[124]⟩, .string ⟨#[94]⟩, .string ⟨#[60, 60]⟩, .string ⟨#[62, 62]⟩, .string ⟨#[33]⟩, .string ⟨#[126]⟩] 9)) := (Below.refl _ w).alloc (Nat.le_refl _) _
  go_enter Tryd.func56, Tryd.ntmps56
  go_wp2
  generalize (w.alloc (.cells #[.string ⟨#[123]⟩, .string ⟨#[125]⟩, .string ⟨#[40]⟩, .string ⟨#[41]⟩, .string ⟨#[91]⟩, .string ⟨#[93]⟩, .string ⟨#[44]⟩, .string ⟨#[59]⟩, .string ⟨#[61]⟩, .string ⟨#[61, 61]⟩, .string ⟨#[33, 61]⟩, .string ⟨#[60]⟩, .string ⟨#[60, 61]⟩, .string ⟨#[43]⟩, .string ⟨#[45]⟩, .string ⟨#[42]⟩, .string ⟨#[47]⟩, .string ⟨#[37]⟩, .string ⟨#[38]⟩, .string ⟨#[124]⟩, .string ⟨#[94]⟩, .string ⟨#[60, 60]⟩, .string ⟨#[62, 62]⟩, .string ⟨#[33]⟩, .string ⟨#[126]⟩] 9)) = W at *
  have HC := Lib.hid hc
  have HB := Lib.hid hB
  clear hc hB
  go_loop [4] (fun i => ∃ k : Nat, k ≤ 25 ∧ i = .int .i64 k ∧ Hid (∀ i, i < k → marks.getD i ByteArray.empty ≠ s)) (fun i => 25 - (intOf i).toNat)
  case atStart => exact ⟨0, Nat.zero_le _, rfl, Lib.hid (fun i hi => absurd hi (Nat.not_lt_zero _))⟩
  case round =>
    obtain ⟨k, hk, rfl, H⟩ := hrel
    by_cases hlt : k < 25
    · have hcell := HC.out k hlt
      obtain ⟨x, hx⟩ : ∃ x, marks.getD k ByteArray.empty = x := ⟨_, rfl⟩
      rw [hx] at hcell
      have HX := Lib.hid hx
      clear hx
      cases he : (x.toList == s.toList)
      · have HN := Lib.hid (none_yet H.out (by rw [HX.out]; exact list_ne he))
        go_wp2
        go_round
        case rel => exact ⟨k + 1, by omega, by go_num, HN⟩
        case measure => simp [intOf]; omega
      · have HF := Lib.hid (found (L := marks) hlt marks_bl (HX.out.trans (list_eq he)))
        go_wp2
        go_ret
        exact ⟨ret_bool (by rw [decide_eq_true HF.out]), HB.out⟩
    · have hk' : k = marks.length := by
        have : marks.length = 25 := rfl
        omega
      have HK := Lib.hid (not_found marks_bl (fun i hi => H.out i (by omega)))
      clear hk'
      go_wp2
      go_ret
      exact ⟨ret_bool (by rw [decide_eq_false HK.out]), HB.out⟩
theorem mark_any' (s : ByteArray) (w : World) : Calls Tryd.prog 56 #[.string s] w fun e w' => e = .returned (.bool (decide (bl s ∈ marksL))) ∧ Below w.heap.size w w' := by
  have := mark_any s w
  simpa only [marksR_mem] using this
end Go.Proofs.YtnmcjkabihihiaaDoor
