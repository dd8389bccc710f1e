/- LexKnown: 65537 noughts as a text; "007 .."'s two words. -/
import Derived.Test.YtghgaelbjcggcaaDoorKA
import Derived.Laws.MakeOwn
import Derived.Laws.OwnMore
import Derived.Laws.IdiomStrings
import Derived.Test.YtghgaelbjcggcaaDoorBld
namespace Go.Proofs.YtghgaelbjcggcaaDoor
open Go Go.RowKit

theorem noughts (w : World) : ∃ (w' : World) (Z : ByteArray), 65536 < Z.size ∧ Below w.heap.size w w' ∧
    Sem.run Tryd.prog (Instr.makeSlice 42 (.int .i64 65537) (.int .i64 65537)) w = .ok (.slice (some ⟨w.heap.size, 0, none⟩) 65537 65537) w' ∧
    Sem.run Tryd.prog (convert 42 9 (.slice (some ⟨w.heap.size, 0, none⟩) 65537 65537)) w' = .ok (.string Z) w' := by
  obtain ⟨i0, hi, hz0, hz1, hz2⟩ := info_parts infoByte
  have h1 := run_makeSlice (P := Tryd.prog) w 42 5 i0 (.int .u8 0) Tryd.underlying42 hi hz0 .i64 .i64 65537 65537 (by decide) (Int.le_refl _) (by rw [hz1]; decide) (by rw [hz2]; decide) (by decide)
  refine ⟨_, ⟨(List.replicate 65537 (0 : UInt8)).toArray⟩, ?_, (Below.refl _ w).alloc (Nat.le_refl _) _, h1, ?_⟩
  · show 65536 < (List.replicate 65537 (0 : UInt8)).toArray.size
    rw [List.size_toArray, List.length_replicate]; decide
  · have h2 := run_convert_bytes_back (P := Tryd.prog) (w.alloc (.cells (madeCells (Value.int .u8 0).cells ((65537 : Int).toNat * i0.size)) 5)) 42 9 5 ⟨w.heap.size, 0, none⟩ 65537 (List.replicate 65537 (0 : UInt8)) Tryd.underlying42 Tryd.underlying5 Tryd.underlying9 ?_
    · rw [List.length_replicate] at h2
      exact h2
    · intro j hj
      rw [List.length_replicate] at hj
      have hm : (madeCells (Value.int .u8 0).cells ((65537 : Int).toNat * i0.size)).toList = List.replicate 65537 (.int .u8 0) := by
        rw [hz1]; exact toList_madeCells_one _ _
      have := row_new w (madeCells (Value.int .u8 0).cells ((65537 : Int).toNat * i0.size)).toList 5 j (.int .u8 0) (by rw [hm, List.getElem?_replicate, if_pos hj])
      rw [Array.toArray_toList] at this
      rw [this, List.getElem_replicate]; rfl
theorem two_of {ys : List It} (h : ys.map It.key = allItems two) : ∃ x y : It, ys = [x, y] ∧ x.t = ⟨#[48, 48, 55]⟩ ∧ x.v = 7 ∧ y.t = ⟨#[57, 50, 50, 51, 51, 55, 50, 48, 51, 54, 56, 53, 52, 55, 55, 53, 56, 48, 55]⟩ ∧ y.v = 9223372036854775807 ∧ y.a = 4 := by
  rw [two_items] at h
  have hl : ys.length = 2 := by simpa using congrArg List.length h
  match ys, hl with
  | [x, y], _ =>
    simp only [List.map_cons, List.map_nil, List.cons.injEq, and_true, It.key, Prod.mk.injEq, Tok.mk.injEq] at h
    obtain ⟨⟨⟨_, h1, h2, _⟩, _⟩, ⟨_, h3, h4, h5⟩, _⟩ := h
    exact ⟨x, y, rfl, bl_inj (h1.trans rfl), h2, bl_inj (h3.trans rfl), h4, h5⟩
def TwoRes (w : World) (e : Ending) (w' : World) : Prop :=
  Below w.heap.size w w' ∧ ∃ (g c : Nat) (ys : List It), e = .returned (.tuple #[.slice (some ⟨g, 0, none⟩) 2 c, .int .i64 0, .int .i64 0]) ∧ g < w'.heap.size ∧ ys.length = 2 ∧ ToksIn w' (some ⟨g, 0, none⟩) ys ∧ (⟨(txt ys).toArray⟩ : ByteArray) = two ∧ (∀ x ∈ ys, x.t.size ≤ 65536) ∧
    w'.cell? ⟨g, 1, none⟩ = some (.string ⟨#[48, 48, 55]⟩) ∧ w'.cell? ⟨g, 2, none⟩ = some (.int .i64 7) ∧ w'.cell? ⟨g, 6, none⟩ = some (.int .i64 9223372036854775807) ∧ w'.cell? ⟨g, 7, none⟩ = some (.int .i64 4)
theorem two_scan (w : World) (hE : Env w) : Calls Tryd.prog 16 #[.string two] w (TwoRes w) := by
  refine (scan_any two w hE).mono ?_
  rintro e w1 ⟨hb1, ⟨ys, q, c, hy, hx0, rfl, hrow⟩ | ⟨pr, x, hp, hx, rfl⟩⟩
  · obtain ⟨x, y, rfl, h1, h2, h3, h4, h5⟩ := two_of hy
    have hT := toks_row rfl hrow
    obtain ⟨g, rfl, hg, _, e1, e2, _⟩ := hT 0 (by simp)
    obtain ⟨g', hq, hg', _, _, f2, f3⟩ := hT 1 (by simp)
    obtain rfl : g = g' := by injection hq with hq; injection hq
    refine ⟨hb1, g, c, _, rfl, hg, rfl, hT, ?_, ?_, ?_, ?_, ?_, ?_⟩
    · simp only [txt, List.map_cons, List.map_nil, h1, h3]
      decide +kernel
    · intro z hz
      rcases (show z = x ∨ z = y by simpa using hz) with rfl | rfl
      · rw [h1]; decide
      · rw [h3]; decide
    · rw [← h1]; exact e1
    · rw [show (7 : Int) = ((7 : Nat) : Int) from rfl, ← h2]; exact e2
    · rw [show (9223372036854775807 : Int) = ((9223372036854775807 : Nat) : Int) from rfl, ← h4]; exact f2
    · rw [show (4 : Int) = ((4 : Nat) : Int) from rfl, ← h5]; exact f3
  · refine (hx ?_).elim
    have := congrArg (fun l => l.map Prod.snd) (List.prefix_iff_eq_take.1 hp)
    simp only [List.map_take, two_items] at this
    have hm : x.e ∈ ((pr ++ [x]).map It.key).map Prod.snd := by simp [It.key]
    rw [this] at hm
    have := List.mem_of_mem_take hm
    simpa using this
theorem text_none (w : World) : Calls Tryd.prog 17 #[.slice none 0 0] w fun e w' => e = .returned (.string ⟨#[]⟩) ∧ Below w.heap.size w w' :=
  text_any none 0 [] (fun _ h => by cases h) (by decide) w (fun i hi => by cases hi)
end Go.Proofs.YtghgaelbjcggcaaDoor
