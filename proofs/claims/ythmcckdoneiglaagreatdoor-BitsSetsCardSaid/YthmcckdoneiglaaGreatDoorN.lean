/- The law's small calls: the chapter's names, a parsed text, and that the program is awake, in every memory in which the library's tables and errors lie. -/
import Derived.Test.YthmcckdoneiglaaGreatDoorM
namespace Go.Proofs.YthmcckdoneiglaaGreatDoor
open Go Go.RowKit Go.Shelf

/-- All that the calls of package bits read of the library. -/
def Env (w : World) : Prop := LibIn w ∧ TabAt 0 Lib.deBruijn64tab w

theorem Env.below {n : Nat} {A B : World} (hn : 8 ≤ n) (h : Below n A B) (hE : Env A) : Env B := ⟨hE.1.below hn h, tab_below (by omega) h hE.2⟩

def nm : List ByteArray := [⟨#[97]⟩, ⟨#[98]⟩, ⟨#[97]⟩, ⟨#[57, 120]⟩]

theorem names_any (w : World) : Calls Tryz.prog 30 #[] w fun e w' => e = .returned (.slice (some ⟨w.heap.size, 0, none⟩) 4 4) ∧ w' = w.alloc (.cells #[.string ⟨#[97]⟩, .string ⟨#[98]⟩, .string ⟨#[97]⟩, .string ⟨#[57, 120]⟩] 9) := by
  go_enter Tryz.func30, Tryz.ntmps30
  go_wp2
  go_ret
  exact ⟨rfl, rfl⟩

theorem nm_in (w : World) : StrIn (w.heap.size + 1) (w.alloc (.cells #[.string ⟨#[97]⟩, .string ⟨#[98]⟩, .string ⟨#[97]⟩, .string ⟨#[57, 120]⟩] 9)) (some ⟨w.heap.size, 0, none⟩) nm := by
  intro i hi
  refine ⟨w.heap.size, 0, rfl, by omega, ?_⟩
  rw [World.cell?_alloc_new]
  have : i < 4 := hi
  rcases (show i = 0 ∨ i = 1 ∨ i = 2 ∨ i = 3 by omega) with rfl | rfl | rfl | rfl <;> rfl

theorem nm_size (i : Nat) : (nm.getD i ByteArray.empty).size ≤ maxLen := by
  by_cases h : i < 4
  · rcases (show i = 0 ∨ i = 1 ∨ i = 2 ∨ i = 3 by omega) with rfl | rfl | rfl | rfl <;> decide
  · rw [List.getD_eq_getElem?_getD, List.getElem?_eq_none (by show 4 ≤ i; omega)]; decide

/-- No good name is longer than 32 bytes. -/
theorem gl_short (ns : List ByteArray) : ∀ (n k : Nat), ((gl ns n).getD k ByteArray.empty).size ≤ 32
  | 0, k => by
    have : (gl ns 0).getD k ByteArray.empty = ByteArray.empty := by
      simp only [gl, List.getD_eq_getElem?_getD, List.getElem?_replicate]
      split <;> rfl
    rw [this]; decide
  | n + 1, k => by
    have ih := gl_short ns n
    unfold gl
    split
    · rename_i h
      by_cases e : n = k
      · subst e
        by_cases hn : n < (gl ns n).length
        · rw [List.getD_eq_getElem?_getD, List.getElem?_set_self hn]
          simp only [Option.getD_some]
          rw [Lib.size_eq]
          have hw := (Bool.and_eq_true _ _ ▸ h).1
          generalize (ns.getD n ByteArray.empty).data.toList = l at hw
          cases l with
          | nil => simp
          | cons c l =>
            simp only [wfB, Bool.and_eq_true, decide_eq_true_eq] at hw
            exact hw.1
        · rw [List.set_eq_of_length_le (by omega)]; exact ih n
      · rw [List.getD_eq_getElem?_getD, List.getElem?_set_ne e, ← List.getD_eq_getElem?_getD]; exact ih k
    · exact ih k

theorem parsed_any (s : ByteArray) (hs : s.size ≤ 140737488355328) (w : World) (hE : Env w) (o : Option Nat) (ho : parseB (gl nm 4) s.data.toList = o) :
    Calls Tryz.prog 28 #[.string s] w fun e w' => e = .returned (parsedV o) ∧ Below w.heap.size w w' := by
  have hB1 : Below w.heap.size w (w.alloc (.cells #[.string ⟨#[97]⟩, .string ⟨#[98]⟩, .string ⟨#[97]⟩, .string ⟨#[57, 120]⟩] 9)) := (Below.refl _ w).alloc (Nat.le_refl _) _
  have hp := parse_any s hs (some ⟨w.heap.size, 0, none⟩) 4 nm _ (by decide) nm_size (by rw [World.size_alloc]; exact nm_in w) (hE.1.below (hE.1.2.2) hB1)
  have h4 : min nm.length 64 = 4 := by decide
  rw [h4, ho] at hp
  rw [World.size_alloc] at hp
  have hl4 : nm.length = 4 := rfl
  rw [hl4] at hp
  clear ho h4 hl4
  cases o with
  | none =>
    simp only [parsedV] at hp ⊢
    go_enter Tryz.func28, Tryz.ntmps28
    go_wp2_with (first | (go_at_call 30; refine (names_any _).mono ?_; rintro e w' ⟨rfl, rfl⟩) | (go_at_call 33; refine hp.mono ?_; rintro e w2 ⟨rfl, hb⟩))
    go_ret2
    exact ⟨rfl, hB1.trans (hb.mono (by omega))⟩
  | some a =>
    simp only [parsedV] at hp ⊢
    go_enter Tryz.func28, Tryz.ntmps28
    go_wp2_with (first | (go_at_call 30; refine (names_any _).mono ?_; rintro e w' ⟨rfl, rfl⟩) | (go_at_call 33; refine hp.mono ?_; rintro e w2 ⟨rfl, hb⟩))
    go_ret2
    exact ⟨rfl, hB1.trans (hb.mono (by omega))⟩

theorem text_nm (x : Nat) (hx : x < 18446744073709551616) (w : World) (hE : Env w) :
    Calls Tryz.prog 29 #[.int .u64 (x : Int), .slice (some ⟨w.heap.size, 0, none⟩) 4 4] (w.alloc (.cells #[.string ⟨#[97]⟩, .string ⟨#[98]⟩, .string ⟨#[97]⟩, .string ⟨#[57, 120]⟩] 9)) fun e w' => e = .returned (.string ⟨(textB (gl nm 4) x).toArray⟩) ∧ Below w.heap.size w w' := by
  have hB1 : Below w.heap.size w (w.alloc (.cells #[.string ⟨#[97]⟩, .string ⟨#[98]⟩, .string ⟨#[97]⟩, .string ⟨#[57, 120]⟩] 9)) := (Below.refl _ w).alloc (Nat.le_refl _) _
  have hE1 := hE.below hE.1.2.2 hB1
  have h4 : min nm.length 64 = 4 := by decide
  have hp := text_any x hx (some ⟨w.heap.size, 0, none⟩) 4 nm _ (by decide) nm_size (by rw [World.size_alloc]; exact nm_in w) hE1.2 hE1.1.2.2 (gl_short _ _)
  rw [h4, World.size_alloc] at hp
  exact hp.mono fun _ _ ⟨he, hb⟩ => ⟨he, hB1.trans (hb.mono (by omega))⟩

def awakeS : ByteArray := ⟨#[123, 97, 32, 98, 32, 35, 50, 125]⟩
theorem awake_parse : parseB (gl nm 4) awakeS.data.toList = some 7 := by decide +kernel
theorem awake_text : textB (gl nm 4) 15 = [123, 97, 32, 98, 32, 35, 50, 32, 35, 51, 125] := by decide +kernel

theorem awake_of (w : World) : Calls Tryz.prog 7 #[.slice (some ⟨w.heap.size, 0, none⟩) 5 5] (w.alloc (.cells #[.int .i64 1, .int .i64 0, .int .i64 1, .int .i64 64, .int .i64 (-1)] 3)) fun e w' => e = .returned (.int .u64 3) ∧ w.alloc (.cells #[.int .i64 1, .int .i64 0, .int .i64 1, .int .i64 64, .int .i64 (-1)] 3) = w' :=
  of_any w.heap.size 0 5 [1, 0, 1, 64, -1] (by decide) _ (fun i hi => by
    rw [World.cell?_alloc_new]
    have : i < 5 := hi
    rcases (show i = 0 ∨ i = 1 ∨ i = 2 ∨ i = 3 ∨ i = 4 by omega) with rfl | rfl | rfl | rfl | rfl <;> rfl)

theorem awake_join (w : World) : Calls Tryz.prog 6 #[.slice (some ⟨w.heap.size, 0, none⟩) 2 2] (w.alloc (.cells #[.int .u64 1, .int .u64 4] 27)) fun e w' => e = .returned (.int .u64 5) ∧ w.alloc (.cells #[.int .u64 1, .int .u64 4] 27) = w' :=
  join_two 1 4 (by omega) (by omega) w.heap.size _ (by rw [World.cell?_alloc_new]; rfl) (by rw [World.cell?_alloc_new]; rfl)

set_option maxRecDepth 100000 in
set_option maxHeartbeats 1000000 in
theorem awake_any (w : World) (hE : Env w) : Calls Tryz.prog 23 #[] w fun e w' => e = .returned (.bool true) ∧ Below w.heap.size w w' := by
  have h8 := hE.1.2.2
  have hp := parsed_any awakeS (by decide) w hE (some 7) awake_parse
  simp only [parsedV, awakeS] at hp
  go_enter Tryz.func23, Tryz.ntmps23
  go_wp2_with fail
  refine hp.mono ?_
  rintro e w1 ⟨rfl, hb1⟩
  have hE1 := hE.below h8 hb1
  go_wp2_with fail
  refine (awake_of w1).mono ?_
  rintro e w2 ⟨rfl, hw2⟩
  have hb2 : Below w.heap.size w w2 := by rw [← hw2]; exact hb1.alloc hb1.size _
  clear hw2 hb1 hE1
  go_wp2_with fail
  refine (awake_join w2).mono ?_
  rintro e w3 ⟨rfl, hw3⟩
  have hb3 : Below w.heap.size w w3 := by rw [← hw3]; exact hb2.alloc hb2.size _
  clear hw3 hb2
  have hE3 := hE.below h8 hb3
  have ht := text_nm 15 (by omega) w3 hE3
  rw [awake_text] at ht
  clear hE3 hp
  go_wp2_with (first | (go_at_call 30; refine (names_any _).mono ?_; rintro e w' ⟨rfl, rfl⟩) | (go_at_call 29; refine ht.mono ?_; rintro e w4 ⟨rfl, hb4⟩))
  go_ret
  exact ⟨rfl, hb3.trans (hb4.mono hb3.size)⟩
end Go.Proofs.YthmcckdoneiglaaGreatDoor
