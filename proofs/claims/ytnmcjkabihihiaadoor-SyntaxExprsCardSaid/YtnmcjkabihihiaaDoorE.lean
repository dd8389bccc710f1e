/- Contracts of name, number and mark of package lex: for every text and every memory in which the library's error lies. -/
import Derived.Test.YtnmcjkabihihiaaDoorC
import Derived.Test.YtnmcjkabihihiaaDoorP
import Derived.Test.YtnmcjkabihihiaaDoorShelf
import Derived.Below
import Derived.Laws.OwnMore
import Derived.RegionTactic
import Derived.Deep.Draws
namespace Go.Proofs.YtnmcjkabihihiaaDoor
open Go Go.RowKit

/-- The library's ErrRange. -/
def Env (w : World) : Prop := ∃ te pe, w.cell? ⟨1, 0, none⟩ = some (.iface te pe)
theorem Env.lt {w : World} (h : Env w) : 1 < w.heap.size := by
  obtain ⟨te, pe, h⟩ := h
  exact World.block_lt_of_cell? _ _ h
theorem Env.below {B : Nat} {w w' : World} (h : Env w) (hb : Below B w w') (hB : 1 < B) : Env w' := by
  obtain ⟨te, pe, h⟩ := h
  exact ⟨te, pe, (hb.cell (p := ⟨1, 0, none⟩) hB).trans h⟩

/-- A token as a value. -/
abbrev tokV (k : Int) (t : ByteArray) (v a : Int) : Value := .agg #[.int .i64 k, .string t, .int .i64 v, .int .i64 a]

set_option maxRecDepth 100000 in
theorem name_key (s : ByteArray) (h : bl s ∈ keysL) (w : World) : Calls Tryd.prog 61 #[.string s] w fun e w' => e = .returned (.tuple #[tokV 2 s 0 0, .int .i64 0]) ∧ Below w.heap.size w w' := by
  go_enter Tryd.func61, Tryd.ntmps61
  go_wp2_with (go_at_call 68; refine (isKeyword_yes s h _).mono ?_; rintro e w' ⟨rfl, rfl⟩)
  exact bodyPost_ret (v := .tuple #[tokV 2 s 0 0, .int .i64 0]) (by simp [results, Tryd.results61, go_sem]) rfl ⟨rfl, by first | exact ((Below.refl _ _).alloc (Nat.le_refl _) _)⟩
set_option maxRecDepth 100000 in
theorem name_long (s : ByteArray) (h : bl s ∉ keysL) (hl : 32 < s.size) (w : World) : Calls Tryd.prog 61 #[.string s] w fun e w' => e = .returned (.tuple #[tokV 0 ⟨#[]⟩ 0 0, .int .i64 3]) ∧ Below w.heap.size w w' := by
  go_enter Tryd.func61, Tryd.ntmps61
  go_wp2_with (go_at_call 68; refine (isKeyword_no s h _).mono ?_; rintro e w' ⟨rfl, rfl⟩)
  exact bodyPost_ret (v := .tuple #[tokV 0 ⟨#[]⟩ 0 0, .int .i64 3]) (by simp [results, Tryd.results61, go_sem]) rfl ⟨rfl, (Below.refl _ _).alloc (Nat.le_refl _) _⟩

set_option maxRecDepth 100000 in
theorem name_ok (s : ByteArray) (h : bl s ∉ keysL) (hl : s.size ≤ 32) (w : World) : Calls Tryd.prog 61 #[.string s] w fun e w' => e = .returned (.tuple #[tokV 1 s 0 0, .int .i64 0]) ∧ Below w.heap.size w w' := by
  go_enter Tryd.func61, Tryd.ntmps61
  go_wp2_with (go_at_call 68; refine (isKeyword_no s h _).mono ?_; rintro e w' ⟨rfl, rfl⟩)
  exact bodyPost_ret (v := .tuple #[tokV 1 s 0 0, .int .i64 0]) (by simp [results, Tryd.results61, go_sem]) rfl ⟨rfl, (Below.refl _ _).alloc (Nat.le_refl _) _⟩

theorem parse_ok (s : ByteArray) (h0 : 0 < s.size) (hd : ∀ x ∈ bl s, digitB x = true) (hs : s.size ≤ 281474976710656) (hv : valD (bl s) ≤ most) (w : World) :
    Calls Tryd.prog 69 #[.string s, .int .i64 10, .int .i64 64] w fun e w' => e = .returned (.tuple #[.int .i64 ((valD (bl s) : Nat) : Int), .nilIface]) ∧ Below w.heap.size w w' := by
  have hne : s.data.toList ≠ [] := by
    intro e
    rw [← bl_length, bl, e] at h0
    exact absurd h0 (by simp)
  have hp := parse_digits s.data.toList hne hd
  change _ = if valD (bl s) ≤ most then Lib.NumEnd.ok ((valD (bl s) : Nat) : Int) else _ at hp
  rw [if_pos hv] at hp
  refine (Tryd.strconv_ParseInt_10_at64_ok s (by omega) _ hp w).mono ?_
  rintro e w' ⟨rfl, rfl | ⟨t, rfl⟩⟩
  · exact ⟨rfl, Below.refl _ _⟩
  · exact ⟨rfl, Lib.bytesWorld_below _ _ _⟩
theorem parse_big (s : ByteArray) (h0 : 0 < s.size) (hd : ∀ x ∈ bl s, digitB x = true) (hs : s.size ≤ 281474976710656) (hv : most < valD (bl s)) (w : World) (hE : Env w) :
    Calls Tryd.prog 69 #[.string s, .int .i64 10, .int .i64 64] w fun e w' => ∃ z N, e = .returned (.tuple #[.int .i64 z, .iface 115 (.pointer (some ⟨N, 0, none⟩))]) ∧ Below w.heap.size w w' := by
  have hne : s.data.toList ≠ [] := by
    intro e
    rw [← bl_length, bl, e] at h0
    exact absurd h0 (by simp)
  have hp := parse_digits s.data.toList hne hd
  change _ = if valD (bl s) ≤ most then Lib.NumEnd.ok ((valD (bl s) : Nat) : Int) else _ at hp
  rw [if_neg (by omega)] at hp
  obtain ⟨te, pe, hE⟩ := hE
  refine (Tryd.strconv_ParseInt_10_at64_range s hs hp _ w hE (.inr ⟨te, pe, rfl⟩)).mono ?_
  rintro e w' ⟨N, rfl, _, _, hb⟩
  exact ⟨_, N, rfl, hb⟩

/-- A block of one token's four cells, none frozen. -/
structure TokAt (w : World) (g : Nat) (k : Int) (t : ByteArray) (v a : Int) : Prop where
  c0 : w.cell? ⟨g, 0, none⟩ = some (.int .i64 k)
  c1 : w.cell? ⟨g, 1, none⟩ = some (.string t)
  c2 : w.cell? ⟨g, 2, none⟩ = some (.int .i64 v)
  c3 : w.cell? ⟨g, 3, none⟩ = some (.int .i64 a)
  f0 : w.frozen? ⟨g, 0, none⟩ = false
  f1 : w.frozen? ⟨g, 1, none⟩ = false
  f2 : w.frozen? ⟨g, 2, none⟩ = false
  f3 : w.frozen? ⟨g, 3, none⟩ = false
theorem TokAt.new (w : World) (k : Int) (t : ByteArray) (v a : Int) (T : TypeId) : TokAt (w.alloc (.cells #[.int .i64 k, .string t, .int .i64 v, .int .i64 a] T)) w.heap.size k t v a :=
  ⟨by simp [go_sem], by simp [go_sem], by simp [go_sem], by simp [go_sem], by simp [go_sem], by simp [go_sem], by simp [go_sem], by simp [go_sem]⟩
theorem TokAt.below {w w' : World} {B g : Nat} {k : Int} {t : ByteArray} {v a : Int} (h : TokAt w g k t v a) (hb : Below B w w') (hg : g < B) : TokAt w' g k t v a :=
  ⟨(hb.cell (p := ⟨g, 0, none⟩) hg).trans h.c0, (hb.cell (p := ⟨g, 1, none⟩) hg).trans h.c1, (hb.cell (p := ⟨g, 2, none⟩) hg).trans h.c2, (hb.cell (p := ⟨g, 3, none⟩) hg).trans h.c3,
   (hb.frozen (p := ⟨g, 0, none⟩) hg).trans h.f0, (hb.frozen (p := ⟨g, 1, none⟩) hg).trans h.f1, (hb.frozen (p := ⟨g, 2, none⟩) hg).trans h.f2, (hb.frozen (p := ⟨g, 3, none⟩) hg).trans h.f3⟩
theorem TokAt.lt {w : World} {g : Nat} {k : Int} {t : ByteArray} {v a : Int} (h : TokAt w g k t v a) : g < w.heap.size := World.block_lt_of_cell? _ _ h.c0
theorem set4 {w w1 : World} (hB : Below w.heap.size w w1) {g : Nat} (hg : w.heap.size ≤ g) (x0 x1 x2 x3 : Value) :
    Below w.heap.size w ((((w1.setCell ⟨g, 0, none⟩ x0).setCell ⟨g, 1, none⟩ x1).setCell ⟨g, 2, none⟩ x2).setCell ⟨g, 3, none⟩ x3) :=
  (((hB.setCell (p := ⟨g, 0, none⟩) hg _).setCell (p := ⟨g, 1, none⟩) hg _).setCell (p := ⟨g, 2, none⟩) hg _).setCell (p := ⟨g, 3, none⟩) hg _

set_option maxRecDepth 100000 in
theorem number_ok (s : ByteArray) (h0 : 0 < s.size) (hd : ∀ x ∈ bl s, digitB x = true) (hs : s.size ≤ 281474976710656) (hv : valD (bl s) ≤ most) (w : World) :
    Calls Tryd.prog 64 #[.string s] w fun e w' => e = .returned (.tuple #[tokV 3 s ((valD (bl s) : Nat) : Int) 0, .int .i64 0]) ∧ Below w.heap.size w w' := by
  have hcall := Lib.hid (fun W => parse_ok s h0 hd hs hv W)
  clear h0 hd hs hv
  generalize valD (bl s) = V at *
  go_enter Tryd.func64, Tryd.ntmps64
  go_wp2_with (go_at_call 69; refine (hcall.out _).mono ?_)
  rintro e w1 ⟨rfl, hb⟩
  have s1 := hb.size
  simp only [World.size_alloc] at s1
  obtain ⟨k0, k1, k2, k3, f0, f1, f2, f3⟩ := (TokAt.new w 0 ⟨#[]⟩ 0 0 54).below hb (by simp)
  have hB : Below w.heap.size w w1 := ((Below.refl _ w).alloc (Nat.le_refl _) _).trans (hb.mono (by simp))
  go_wp2
  exact bodyPost_ret (v := .tuple #[tokV 3 s (V : Int) 0, .int .i64 0]) (by simp [results, Tryd.results64, go_sem, k0, k1, k2, k3]) rfl ⟨rfl, set4 hB (Nat.le_refl _) _ _ _ _⟩

set_option maxRecDepth 100000 in
theorem number_big (s : ByteArray) (h0 : 0 < s.size) (hd : ∀ x ∈ bl s, digitB x = true) (hs : s.size ≤ 281474976710656) (hv : most < valD (bl s)) (w : World) (hE : Env w) :
    Calls Tryd.prog 64 #[.string s] w fun e w' => e = .returned (.tuple #[tokV 0 ⟨#[]⟩ 0 0, .int .i64 3]) ∧ Below w.heap.size w w' := by
  have hlt := hE.lt
  have hcall := Lib.hid (parse_big s h0 hd hs hv _ (hE.below ((Below.refl _ w).alloc (Nat.le_refl _) (.cells #[.int .i64 0, .string ⟨#[]⟩, .int .i64 0, .int .i64 0] 54)) hlt))
  clear h0 hd hs hv
  go_enter Tryd.func64, Tryd.ntmps64
  go_wp2_with (go_at_call 69; refine (hcall.out).mono ?_)
  rintro e w1 ⟨z, N, rfl, hb⟩
  have s1 := hb.size
  simp only [World.size_alloc] at s1
  obtain ⟨k0, k1, k2, k3, f0, f1, f2, f3⟩ := (TokAt.new w 0 ⟨#[]⟩ 0 0 54).below hb (by simp)
  have hB : Below w.heap.size w w1 := ((Below.refl _ w).alloc (Nat.le_refl _) _).trans (hb.mono (by simp))
  go_wp2
  exact bodyPost_ret (v := .tuple #[tokV 0 ⟨#[]⟩ 0 0, .int .i64 3]) (by simp [results, Tryd.results64, go_sem, k0, k1, k2, k3]) rfl ⟨rfl, set4 hB (Nat.le_refl _) _ _ _ _⟩

set_option maxRecDepth 100000 in
theorem mark_two (s : ByteArray) (h2 : 2 ≤ s.size) (hs : s.size ≤ 9223372036854775806) (h : bl (s.extract 0 2) ∈ marksL) (w : World) :
    Calls Tryd.prog 65 #[.string s] w fun e w' => e = .returned (.tuple #[tokV 4 (s.extract 0 2) 0 0, .int .i64 0]) ∧ Below w.heap.size w w' := by
  have hcall := Lib.hid (fun W => isMark_yes (s.extract 0 2) h W)
  have hm : min (2 : Int) (s.size : Int) = 2 := by omega
  clear h
  go_enter Tryd.func65, Tryd.ntmps65
  go_wp2
  go_loop [4] (fun i => i = .int .i64 2) (fun i => (intOf i).toNat)
  case atStart => rfl
  case round =>
    obtain rfl := hrel
    go_wp2_with (go_at_call 70; refine (hcall.out _).mono ?_; rintro e w' ⟨rfl, rfl⟩)
    exact bodyPost_ret (v := .tuple #[tokV 4 (s.extract 0 2) 0 0, .int .i64 0]) (by simp [results, Tryd.results65, go_sem]) rfl ⟨rfl, (Below.refl _ _).alloc (Nat.le_refl _) _⟩

set_option maxRecDepth 100000 in
theorem mark_one (s : ByteArray) (h1 : 1 ≤ s.size) (hs : s.size ≤ 9223372036854775806) (h : bl (s.extract 0 1) ∈ marksL) (hn : 2 ≤ s.size → bl (s.extract 0 2) ∉ marksL) (w : World) :
    Calls Tryd.prog 65 #[.string s] w fun e w' => e = .returned (.tuple #[tokV 4 (s.extract 0 1) 0 0, .int .i64 0]) ∧ Below w.heap.size w w' := by
  have hcall := Lib.hid (fun W => isMark_yes (s.extract 0 1) h W)
  have hcall2 := Lib.hid (fun (h2 : 2 ≤ s.size) W => isMark_no (s.extract 0 2) (hn h2) W)
  have hm : (∃ k : Nat, 1 ≤ k ∧ k ≤ 2 ∧ k ≤ s.size ∧ min (2 : Int) (s.size : Int) = k) := by
    by_cases h2 : 2 ≤ s.size
    · exact ⟨2, by omega, by omega, by omega, by omega⟩
    · exact ⟨1, by omega, by omega, by omega, by omega⟩
  obtain ⟨k0, hk1, hk2, hk3, hm⟩ := hm
  clear h hn
  go_enter Tryd.func65, Tryd.ntmps65
  go_wp2
  go_loop [4] (fun i => ∃ k : Nat, 1 ≤ k ∧ k ≤ 2 ∧ k ≤ s.size ∧ i = .int .i64 k) (fun i => (intOf i).toNat)
  case atStart => exact ⟨k0, hk1, hk2, hk3, rfl⟩
  case round =>
    clear hm hk1 hk2 hk3
    obtain ⟨k, hk1, hk2, hk3, rfl⟩ := hrel
    by_cases h2 : k = 2
    · subst h2
      have hc := hcall2.out hk3
      go_wp2_with (go_at_call 70; refine (hc _).mono ?_; rintro e w' ⟨rfl, rfl⟩)
      go_round
      case rel => exact ⟨1, by omega, by omega, by omega, by go_num⟩
      case measure => simp [intOf]
    · obtain rfl : k = 1 := by omega
      go_wp2_with (go_at_call 70; refine (hcall.out _).mono ?_; rintro e w' ⟨rfl, rfl⟩)
      exact bodyPost_ret (v := .tuple #[tokV 4 (s.extract 0 1) 0 0, .int .i64 0]) (by simp [results, Tryd.results65, go_sem]) rfl ⟨rfl, (Below.refl _ _).alloc (Nat.le_refl _) _⟩

set_option maxRecDepth 100000 in
theorem mark_no (s : ByteArray) (h1 : 1 ≤ s.size) (hs : s.size ≤ 9223372036854775806) (h : bl (s.extract 0 1) ∉ marksL) (hn : 2 ≤ s.size → bl (s.extract 0 2) ∉ marksL) (w : World) :
    Calls Tryd.prog 65 #[.string s] w fun e w' => e = .returned (.tuple #[tokV 0 ⟨#[]⟩ 0 0, .int .i64 40]) ∧ Below w.heap.size w w' := by
  have hcall := Lib.hid (fun W => isMark_no (s.extract 0 1) h W)
  have hcall2 := Lib.hid (fun (h2 : 2 ≤ s.size) W => isMark_no (s.extract 0 2) (hn h2) W)
  have hm : (∃ k : Nat, k ≤ 2 ∧ k ≤ s.size ∧ min (2 : Int) (s.size : Int) = k) := by
    by_cases h2 : 2 ≤ s.size
    · exact ⟨2, by omega, by omega, by omega⟩
    · exact ⟨1, by omega, by omega, by omega⟩
  obtain ⟨k0, hk2, hk3, hm⟩ := hm
  clear h hn
  go_enter Tryd.func65, Tryd.ntmps65
  go_wp2
  go_loop [4] (fun i => ∃ k : Nat, k ≤ 2 ∧ k ≤ s.size ∧ i = .int .i64 k) (fun i => (intOf i).toNat)
  case atStart => exact ⟨k0, hk2, hk3, rfl⟩
  case round =>
    clear hm hk2 hk3
    obtain ⟨k, hk2, hk3, rfl⟩ := hrel
    by_cases h2 : k = 2
    · subst h2
      have hc := hcall2.out hk3
      go_wp2_with (go_at_call 70; refine (hc _).mono ?_; rintro e w' ⟨rfl, rfl⟩)
      go_round
      case rel => exact ⟨1, by omega, by omega, by go_num⟩
      case measure => simp [intOf]
    by_cases h1' : k = 1
    · subst h1'
      go_wp2_with (go_at_call 70; refine (hcall.out _).mono ?_; rintro e w' ⟨rfl, rfl⟩)
      go_round
      case rel => exact ⟨0, by omega, by omega, by go_num⟩
      case measure => simp [intOf]
    · obtain rfl : k = 0 := by omega
      go_wp2
      exact bodyPost_ret (v := .tuple #[tokV 0 ⟨#[]⟩ 0 0, .int .i64 40]) (by simp [results, Tryd.results65, go_sem]) rfl ⟨rfl, (Below.refl _ _).alloc (Nat.le_refl _) _⟩
end Go.Proofs.YtnmcjkabihihiaaDoor
