/- BitsTexts: the law's walk, in every memory in which the library's tables and errors lie. -/
import Derived.Test.YthmcckdoneiglaaDoorParseR
import Derived.Test.YthmcckdoneiglaaDoorLent
namespace Go.Proofs.YthmcckdoneiglaaDoor
open Go Go.RowKit

theorem lent_cell {w : World} {b g cap : Nat} {xs : List ByteArray} (h : w.ownsRow b 9 1 (.slice (some ⟨g, 0, none⟩) (xs.length + 1) cap) (xs.length + 1) (strVals (xs ++ [markS]))) (i : Nat) (hi : i < xs.length + 1) :
    w.cell? ⟨g, i, none⟩ = some (.string ((xs ++ [markS]).getD i ByteArray.empty)) := by
  have h2 := h.2
  rcases h2 with ⟨_, h0⟩ | ⟨gq, cap', cur, h0, _, _, _⟩
  · omega
  · simp only [Value.slice.injEq, true_and] at h0
    obtain ⟨h0, rfl⟩ := h0
    obtain rfl : g = gq := by cases h0; rfl
    have hc := h.cellAt i (by omega)
    refine hc.trans ?_
    simp only [strVals, List.getElem?_map, List.getD_eq_getElem?_getD]
    rw [List.getElem?_eq_getElem (by simp; omega)]; rfl

theorem lent_in {w : World} {b g cap : Nat} {xs : List ByteArray} (h : w.ownsRow b 9 1 (.slice (some ⟨g, 0, none⟩) (xs.length + 1) cap) (xs.length + 1) (strVals (xs ++ [markS]))) : StrIn w.heap.size w (some ⟨g, 0, none⟩) xs := by
  intro i hi
  have hc := lent_cell h i (by omega)
  rw [show (xs ++ [markS]).getD i ByteArray.empty = xs.getD i ByteArray.empty from by simp [List.getD_eq_getElem?_getD, List.getElem?_append_left hi]] at hc
  refine ⟨g, 0, rfl, World.block_lt_of_cell? _ _ hc, ?_⟩
  rw [Nat.zero_add]
  exact hc

theorem lent_mark {w : World} {b g cap : Nat} {xs : List ByteArray} (h : w.ownsRow b 9 1 (.slice (some ⟨g, 0, none⟩) (xs.length + 1) cap) (xs.length + 1) (strVals (xs ++ [markS]))) : w.cell? ⟨g, xs.length, none⟩ = some (.string markS) := by
  have hc := lent_cell h xs.length (by omega)
  rw [show (xs ++ [markS]).getD xs.length ByteArray.empty = markS from by simp] at hc
  exact hc

theorem parsedV_pair (o : Option Nat) : ∃ x y : Int, parsedV o = .tuple #[.int .u64 x, .int .i64 y] := by
  cases o <;> exact ⟨_, _, rfl⟩

set_option maxRecDepth 100000 in
set_option maxHeartbeats 2000000 in
theorem texts_any (x : Nat) (hx : x < 18446744073709551616) (p : Option Addr) (c : Nat) (ns : List ByteArray) (s : ByteArray) (hss : s.size ≤ 140737488355328) (hp : (p = none ∧ ns = [] ∧ c = 0) ∨ ∃ ad, p = some ad) (hn : ns.length ≤ maxLen)
    (hz : ∀ i, (ns.getD i ByteArray.empty).size ≤ maxLen) (hb : (ns.length + 1) * 16 ≤ 140737488355328) (w : World) (hs : StrIn w.heap.size w p ns) (hE : Env w) :
    Calls Tryd.prog 4 #[.int .u64 (x : Int), .slice p ns.length c, .string s] w fun e w' => e = .returned (.bool true) ∧ Below w.heap.size w w' := by
  have h8 := hE.1.2.2
  have h1 := lent_any p c ns hp hb w hs
  have h2 : ∀ (q cap : Nat) (w1 : World), ns.length + 1 ≤ cap → w1.ownsRow w.heap.size 9 1 (.slice (some ⟨q, 0, none⟩) (ns.length + 1) cap) (ns.length + 1) (strVals (ns ++ [markS])) → Below w.heap.size w w1 →
      ∀ w2, Below w1.heap.size w1 w2 →
      Calls Tryd.prog 13 #[.int .u64 (x : Int), .slice (some ⟨q, 0, none⟩) ns.length cap] w2 (fun e w' => e = .returned (.string ⟨(textB (gl ns (min ns.length 64)) x).toArray⟩) ∧ Below w2.heap.size w2 w') ∧
      Calls Tryd.prog 14 #[.string s, .slice (some ⟨q, 0, none⟩) ns.length cap] w2 (fun e w' => e = .returned (parsedV (parseB (gl ns (min ns.length 64)) s.data.toList)) ∧ Below w2.heap.size w2 w') ∧
      Calls Tryd.prog 15 #[.string s, .slice p ns.length c] w2 (fun e w' => e = .returned (parsedV (parseB (gl ns (min ns.length 64)) s.data.toList)) ∧ Below w2.heap.size w2 w') ∧
      Calls Tryd.prog 16 #[.int .u64 (x : Int), .slice p ns.length c] w2 (fun e w' => e = .returned (.string ⟨(textB (gl ns (min ns.length 64)) x).toArray⟩) ∧ Below w2.heap.size w2 w') ∧
      Calls Tryd.prog 17 #[.slice (some ⟨q, 0, none⟩) ns.length cap, .slice p ns.length c] w2 (fun e w' => e = .returned (.bool true) ∧ Below w2.heap.size w2 w') ∧ Env w2 := by
    intro q cap w1 hcap hrow hbl w2 hbl2
    have hin := (lent_in hrow).below hbl2 (Nat.le_refl _) (B' := w2.heap.size) hbl2.size
    have hbw := hbl.trans (hbl2.mono hbl.size)
    have hs2 := hs.below hbw (Nat.le_refl _) (B' := w2.heap.size) hbw.size
    have hm := lent_mark hrow
    have hqlt := World.block_lt_of_cell? _ _ hm
    have hq1 : q < w1.heap.size := hqlt
    have hm2 := (hbl2.cell (p := ⟨q, ns.length, none⟩) hqlt).trans hm
    have hE2 := hE.below h8 hbw
    exact ⟨text_any x hx _ cap ns w2 hn hz hin hE2.2 hE2.1.2.2 (gl_short _ _), parse_any s hss _ cap ns w2 hn hz hin hE2.1, refparse_any s hss p c ns hz w2 hs2, reftext_any x hx p c ns hz w2 hs2, kept_any q p cap c ns hcap (row_cap hrow).2 w2 hin hs2 (Nat.lt_of_lt_of_le hq1 hbl2.size) hm2, hE2⟩
  clear hs hz hb hp hn hE
  generalize (⟨(textB (gl ns (min ns.length 64)) x).toArray⟩ : ByteArray) = T at h2
  generalize parseB (gl ns (min ns.length 64)) s.data.toList = R at h2
  obtain ⟨v, y, hvy⟩ := parsedV_pair R
  rw [hvy] at h2
  clear hvy
  go_enter Tryd.func4, Tryd.ntmps4
  go_wp2_with fail
  refine h1.mono ?_
  rintro e w1 ⟨q, cap, rfl, _, hcap, hrow, hbl⟩
  have H := h2 q cap w1 hcap hrow hbl
  clear h1 h2 hrow hcap
  go_wp2_with fail
  refine (H w1 (Below.refl _ _)).1.mono ?_
  rintro e w2 ⟨rfl, hb2⟩
  go_wp2_with fail
  refine (H w2 hb2).2.1.mono ?_
  rintro e w3 ⟨rfl, hb3'⟩
  have hb3 := hb2.trans (hb3'.mono hb2.size)
  clear hb3'
  go_wp2_with fail
  refine (H w3 hb3).2.2.1.mono ?_
  rintro e w4 ⟨rfl, hb4'⟩
  have hb4 := hb3.trans (hb4'.mono hb3.size)
  clear hb4'
  go_wp2_with fail
  refine (H w4 hb4).2.2.2.1.mono ?_
  rintro e w5 ⟨rfl, hb5'⟩
  have hb5 := hb4.trans (hb5'.mono hb4.size)
  clear hb5'
  go_wp2_with fail
  refine (H w5 hb5).2.2.2.2.1.mono ?_
  rintro e w6 ⟨rfl, hb6'⟩
  have hb6 := hb5.trans (hb6'.mono hb5.size)
  clear hb6'
  go_wp2_with fail
  refine (awake_any w6 (H w6 hb6).2.2.2.2.2).mono ?_
  rintro e w7 ⟨rfl, hb7'⟩
  have hb7 := hb6.trans (hb7'.mono hb6.size)
  go_wp2_with fail
  go_ret
  exact ⟨rfl, hbl.trans (hb7.mono hbl.size)⟩
end Go.Proofs.YthmcckdoneiglaaDoor
