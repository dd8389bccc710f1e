/- Contracts of the tests of keywords and marks of package lex: for every text and every memory. -/
import Derived.Test.YtnmcjkabihihiaaDoorB
import Derived.Lib.Strings
namespace Go.Proofs.YtnmcjkabihihiaaDoor
open Go Go.RowKit

/-- All marks. -/
def marksL : List (List Nat) := mark1.map (fun c => [c]) ++ mark2
theorem ne_lit {s : ByteArray} {L : List (List Nat)} {u : List UInt8} (h : bl s ∉ L) (hu : u.map UInt8.toNat ∈ L) : (s.toList == u) = false := by
  rw [beq_eq_false_iff_ne]
  intro e
  rw [Lib.toList_data] at e
  exact h (by unfold bl; rw [e]; exact hu)
set_option maxRecDepth 100000 in
set_option maxHeartbeats 1000000 in
theorem isKeyword_no (s : ByteArray) (h : bl s ∉ keysL) (w : World) : Calls Tryd.prog 68 #[.string s] w fun e w' => e = .returned (.bool false) ∧ w = w' := by
  have e0 : (s.toList == [112, 114, 105, 110, 99, 105, 112, 97, 108]) = false := ne_lit h (by decide)
  have e1 : (s.toList == [103, 108, 111, 98, 97, 108]) = false := ne_lit h (by decide)
  have e2 : (s.toList == [97, 114, 114, 97, 121]) = false := ne_lit h (by decide)
  have e3 : (s.toList == [99, 104, 97, 110, 110, 101, 108]) = false := ne_lit h (by decide)
  have e4 : (s.toList == [102, 117, 110, 99]) = false := ne_lit h (by decide)
  have e5 : (s.toList == [118, 97, 114]) = false := ne_lit h (by decide)
  have e6 : (s.toList == [105, 102]) = false := ne_lit h (by decide)
  have e7 : (s.toList == [101, 108, 115, 101]) = false := ne_lit h (by decide)
  have e8 : (s.toList == [119, 104, 105, 108, 101]) = false := ne_lit h (by decide)
  have e9 : (s.toList == [115, 101, 110, 100]) = false := ne_lit h (by decide)
  have e10 : (s.toList == [114, 101, 116, 117, 114, 110]) = false := ne_lit h (by decide)
  clear h
  go_enter Tryd.func68, Tryd.ntmps68
  go_wp2
  go_ret
  exact ⟨rfl, rfl⟩
set_option maxRecDepth 100000 in
set_option maxHeartbeats 1000000 in
theorem isKeyword_yes (s : ByteArray) (h : bl s ∈ keysL) (w : World) : Calls Tryd.prog 68 #[.string s] w fun e w' => e = .returned (.bool true) ∧ w = w' := by
  simp only [keysL, List.mem_cons, List.not_mem_nil, or_false] at h
  rcases h with h | h | h | h | h | h | h | h | h | h | h
  · obtain rfl : s = ⟨#[112, 114, 105, 110, 99, 105, 112, 97, 108]⟩ := bl_inj (h.trans (by decide))
    clear h
    go_enter Tryd.func68, Tryd.ntmps68
    go_wp2
    go_ret
    exact ⟨rfl, rfl⟩
  · obtain rfl : s = ⟨#[103, 108, 111, 98, 97, 108]⟩ := bl_inj (h.trans (by decide))
    clear h
    go_enter Tryd.func68, Tryd.ntmps68
    go_wp2
    go_ret
    exact ⟨rfl, rfl⟩
  · obtain rfl : s = ⟨#[97, 114, 114, 97, 121]⟩ := bl_inj (h.trans (by decide))
    clear h
    go_enter Tryd.func68, Tryd.ntmps68
    go_wp2
    go_ret
    exact ⟨rfl, rfl⟩
  · obtain rfl : s = ⟨#[99, 104, 97, 110, 110, 101, 108]⟩ := bl_inj (h.trans (by decide))
    clear h
    go_enter Tryd.func68, Tryd.ntmps68
    go_wp2
    go_ret
    exact ⟨rfl, rfl⟩
  · obtain rfl : s = ⟨#[102, 117, 110, 99]⟩ := bl_inj (h.trans (by decide))
    clear h
    go_enter Tryd.func68, Tryd.ntmps68
    go_wp2
    go_ret
    exact ⟨rfl, rfl⟩
  · obtain rfl : s = ⟨#[118, 97, 114]⟩ := bl_inj (h.trans (by decide))
    clear h
    go_enter Tryd.func68, Tryd.ntmps68
    go_wp2
    go_ret
    exact ⟨rfl, rfl⟩
  · obtain rfl : s = ⟨#[105, 102]⟩ := bl_inj (h.trans (by decide))
    clear h
    go_enter Tryd.func68, Tryd.ntmps68
    go_wp2
    go_ret
    exact ⟨rfl, rfl⟩
  · obtain rfl : s = ⟨#[101, 108, 115, 101]⟩ := bl_inj (h.trans (by decide))
    clear h
    go_enter Tryd.func68, Tryd.ntmps68
    go_wp2
    go_ret
    exact ⟨rfl, rfl⟩
  · obtain rfl : s = ⟨#[119, 104, 105, 108, 101]⟩ := bl_inj (h.trans (by decide))
    clear h
    go_enter Tryd.func68, Tryd.ntmps68
    go_wp2
    go_ret
    exact ⟨rfl, rfl⟩
  · obtain rfl : s = ⟨#[115, 101, 110, 100]⟩ := bl_inj (h.trans (by decide))
    clear h
    go_enter Tryd.func68, Tryd.ntmps68
    go_wp2
    go_ret
    exact ⟨rfl, rfl⟩
  · obtain rfl : s = ⟨#[114, 101, 116, 117, 114, 110]⟩ := bl_inj (h.trans (by decide))
    clear h
    go_enter Tryd.func68, Tryd.ntmps68
    go_wp2
    go_ret
    exact ⟨rfl, rfl⟩
theorem isKeyword_any (s : ByteArray) (w : World) : Calls Tryd.prog 68 #[.string s] w fun e w' => e = .returned (.bool (decide (bl s ∈ keysL))) ∧ w = w' := by
  by_cases h : bl s ∈ keysL
  · simpa [h] using isKeyword_yes s h w
  · simpa [h] using isKeyword_no s h w
set_option maxRecDepth 100000 in
set_option maxHeartbeats 1000000 in
theorem isMark_no (s : ByteArray) (h : bl s ∉ marksL) (w : World) : Calls Tryd.prog 70 #[.string s] w fun e w' => e = .returned (.bool false) ∧ w = w' := by
  have e0 : (s.toList == [123]) = false := ne_lit h (by decide)
  have e1 : (s.toList == [125]) = false := ne_lit h (by decide)
  have e2 : (s.toList == [40]) = false := ne_lit h (by decide)
  have e3 : (s.toList == [41]) = false := ne_lit h (by decide)
  have e4 : (s.toList == [91]) = false := ne_lit h (by decide)
  have e5 : (s.toList == [93]) = false := ne_lit h (by decide)
  have e6 : (s.toList == [44]) = false := ne_lit h (by decide)
  have e7 : (s.toList == [59]) = false := ne_lit h (by decide)
  have e8 : (s.toList == [61]) = false := ne_lit h (by decide)
  have e9 : (s.toList == [61, 61]) = false := ne_lit h (by decide)
  have e10 : (s.toList == [33, 61]) = false := ne_lit h (by decide)
  have e11 : (s.toList == [60]) = false := ne_lit h (by decide)
  have e12 : (s.toList == [60, 61]) = false := ne_lit h (by decide)
  have e13 : (s.toList == [43]) = false := ne_lit h (by decide)
  have e14 : (s.toList == [45]) = false := ne_lit h (by decide)
  have e15 : (s.toList == [42]) = false := ne_lit h (by decide)
  have e16 : (s.toList == [47]) = false := ne_lit h (by decide)
  have e17 : (s.toList == [37]) = false := ne_lit h (by decide)
  have e18 : (s.toList == [38]) = false := ne_lit h (by decide)
  have e19 : (s.toList == [124]) = false := ne_lit h (by decide)
  have e20 : (s.toList == [94]) = false := ne_lit h (by decide)
  have e21 : (s.toList == [60, 60]) = false := ne_lit h (by decide)
  have e22 : (s.toList == [62, 62]) = false := ne_lit h (by decide)
  have e23 : (s.toList == [33]) = false := ne_lit h (by decide)
  have e24 : (s.toList == [126]) = false := ne_lit h (by decide)
  clear h
  go_enter Tryd.func70, Tryd.ntmps70
  go_wp2
  go_ret
  exact ⟨rfl, rfl⟩
set_option maxRecDepth 100000 in
set_option maxHeartbeats 1000000 in
theorem isMark_yes (s : ByteArray) (h : bl s ∈ marksL) (w : World) : Calls Tryd.prog 70 #[.string s] w fun e w' => e = .returned (.bool true) ∧ w = w' := by
  simp only [marksL, mark1, mark2, List.map_cons, List.map_nil, List.cons_append, List.nil_append, List.mem_cons, List.not_mem_nil, or_false] at h
  rcases h with h | h | h | h | h | h | h | h | h | h | h | h | h | h | h | h | h | h | h | h | h | h | h | h | h
  · obtain rfl : s = ⟨#[123]⟩ := bl_inj (h.trans (by decide))
    clear h
    go_enter Tryd.func70, Tryd.ntmps70
    go_wp2
    go_ret
    exact ⟨rfl, rfl⟩
  · obtain rfl : s = ⟨#[125]⟩ := bl_inj (h.trans (by decide))
    clear h
    go_enter Tryd.func70, Tryd.ntmps70
    go_wp2
    go_ret
    exact ⟨rfl, rfl⟩
  · obtain rfl : s = ⟨#[40]⟩ := bl_inj (h.trans (by decide))
    clear h
    go_enter Tryd.func70, Tryd.ntmps70
    go_wp2
    go_ret
    exact ⟨rfl, rfl⟩
  · obtain rfl : s = ⟨#[41]⟩ := bl_inj (h.trans (by decide))
    clear h
    go_enter Tryd.func70, Tryd.ntmps70
    go_wp2
    go_ret
    exact ⟨rfl, rfl⟩
  · obtain rfl : s = ⟨#[91]⟩ := bl_inj (h.trans (by decide))
    clear h
    go_enter Tryd.func70, Tryd.ntmps70
    go_wp2
    go_ret
    exact ⟨rfl, rfl⟩
  · obtain rfl : s = ⟨#[93]⟩ := bl_inj (h.trans (by decide))
    clear h
    go_enter Tryd.func70, Tryd.ntmps70
    go_wp2
    go_ret
    exact ⟨rfl, rfl⟩
  · obtain rfl : s = ⟨#[44]⟩ := bl_inj (h.trans (by decide))
    clear h
    go_enter Tryd.func70, Tryd.ntmps70
    go_wp2
    go_ret
    exact ⟨rfl, rfl⟩
  · obtain rfl : s = ⟨#[59]⟩ := bl_inj (h.trans (by decide))
    clear h
    go_enter Tryd.func70, Tryd.ntmps70
    go_wp2
    go_ret
    exact ⟨rfl, rfl⟩
  · obtain rfl : s = ⟨#[61]⟩ := bl_inj (h.trans (by decide))
    clear h
    go_enter Tryd.func70, Tryd.ntmps70
    go_wp2
    go_ret
    exact ⟨rfl, rfl⟩
  · obtain rfl : s = ⟨#[60]⟩ := bl_inj (h.trans (by decide))
    clear h
    go_enter Tryd.func70, Tryd.ntmps70
    go_wp2
    go_ret
    exact ⟨rfl, rfl⟩
  · obtain rfl : s = ⟨#[43]⟩ := bl_inj (h.trans (by decide))
    clear h
    go_enter Tryd.func70, Tryd.ntmps70
    go_wp2
    go_ret
    exact ⟨rfl, rfl⟩
  · obtain rfl : s = ⟨#[45]⟩ := bl_inj (h.trans (by decide))
    clear h
    go_enter Tryd.func70, Tryd.ntmps70
    go_wp2
    go_ret
    exact ⟨rfl, rfl⟩
  · obtain rfl : s = ⟨#[42]⟩ := bl_inj (h.trans (by decide))
    clear h
    go_enter Tryd.func70, Tryd.ntmps70
    go_wp2
    go_ret
    exact ⟨rfl, rfl⟩
  · obtain rfl : s = ⟨#[47]⟩ := bl_inj (h.trans (by decide))
    clear h
    go_enter Tryd.func70, Tryd.ntmps70
    go_wp2
    go_ret
    exact ⟨rfl, rfl⟩
  · obtain rfl : s = ⟨#[37]⟩ := bl_inj (h.trans (by decide))
    clear h
    go_enter Tryd.func70, Tryd.ntmps70
    go_wp2
    go_ret
    exact ⟨rfl, rfl⟩
  · obtain rfl : s = ⟨#[38]⟩ := bl_inj (h.trans (by decide))
    clear h
    go_enter Tryd.func70, Tryd.ntmps70
    go_wp2
    go_ret
    exact ⟨rfl, rfl⟩
  · obtain rfl : s = ⟨#[124]⟩ := bl_inj (h.trans (by decide))
    clear h
    go_enter Tryd.func70, Tryd.ntmps70
    go_wp2
    go_ret
    exact ⟨rfl, rfl⟩
  · obtain rfl : s = ⟨#[94]⟩ := bl_inj (h.trans (by decide))
    clear h
    go_enter Tryd.func70, Tryd.ntmps70
    go_wp2
    go_ret
    exact ⟨rfl, rfl⟩
  · obtain rfl : s = ⟨#[33]⟩ := bl_inj (h.trans (by decide))
    clear h
    go_enter Tryd.func70, Tryd.ntmps70
    go_wp2
    go_ret
    exact ⟨rfl, rfl⟩
  · obtain rfl : s = ⟨#[126]⟩ := bl_inj (h.trans (by decide))
    clear h
    go_enter Tryd.func70, Tryd.ntmps70
    go_wp2
    go_ret
    exact ⟨rfl, rfl⟩
  · obtain rfl : s = ⟨#[61, 61]⟩ := bl_inj (h.trans (by decide))
    clear h
    go_enter Tryd.func70, Tryd.ntmps70
    go_wp2
    go_ret
    exact ⟨rfl, rfl⟩
  · obtain rfl : s = ⟨#[33, 61]⟩ := bl_inj (h.trans (by decide))
    clear h
    go_enter Tryd.func70, Tryd.ntmps70
    go_wp2
    go_ret
    exact ⟨rfl, rfl⟩
  · obtain rfl : s = ⟨#[60, 61]⟩ := bl_inj (h.trans (by decide))
    clear h
    go_enter Tryd.func70, Tryd.ntmps70
    go_wp2
    go_ret
    exact ⟨rfl, rfl⟩
  · obtain rfl : s = ⟨#[60, 60]⟩ := bl_inj (h.trans (by decide))
    clear h
    go_enter Tryd.func70, Tryd.ntmps70
    go_wp2
    go_ret
    exact ⟨rfl, rfl⟩
  · obtain rfl : s = ⟨#[62, 62]⟩ := bl_inj (h.trans (by decide))
    clear h
    go_enter Tryd.func70, Tryd.ntmps70
    go_wp2
    go_ret
    exact ⟨rfl, rfl⟩
theorem isMark_any (s : ByteArray) (w : World) : Calls Tryd.prog 70 #[.string s] w fun e w' => e = .returned (.bool (decide (bl s ∈ marksL))) ∧ w = w' := by
  by_cases h : bl s ∈ marksL
  · simpa [h] using isMark_yes s h w
  · simpa [h] using isMark_no s h w
end Go.Proofs.YtnmcjkabihihiaaDoor
