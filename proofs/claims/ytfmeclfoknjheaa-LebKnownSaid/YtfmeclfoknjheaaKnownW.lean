/- LebKnown: what the chapter's examples come to; a nil reader; the law's walk as far as its readers; in every memory. -/
import Derived.Test.YtfmeclfoknjheaaT
import Derived.Test.YtfmeclfoknjheaaKb
namespace Go.Proofs.Ytfmeclfoknjheaa
open Go Go.RowKit
theorem p0 : putU 0 = [0] := by rw [putU_small (by omega)]
theorem p127 : putU 127 = [127] := by rw [putU_small (by omega)]
theorem pmax : putU 18446744073709551615 = List.replicate 9 255 ++ [1] := by
  iterate 9 rw [putU_big (by omega)]
  rw [putU_small (by omega)]
  decide
theorem s0 : putS 0 = [0] := by rw [putS_small (by omega)]; rfl
theorem s63 : putS 63 = [63] := by rw [putS_small (by omega)]; rfl
theorem s64 : putS 64 = [192, 0] := by rw [putS_big (by omega), putS_small (by omega)]; rfl
theorem sm1 : putS (-1) = [127] := by rw [putS_small (by omega)]; rfl
theorem sm64 : putS (-64) = [64] := by rw [putS_small (by omega)]; rfl
theorem smin : putS (-9223372036854775808) = List.replicate 9 128 ++ [127] := by
  iterate 9 rw [putS_big (by omega)]
  rw [putS_small (by omega)]
  decide
theorem w1 : getU [128] = (0, 0, 30) := by decide
theorem w2 : getU [] = (0, 0, 30) := by decide
theorem w3 : getU [128, 0] = (0, 0, 31) := by
  unfold getU
  rw [if_neg (by decide), if_neg (by decide), show valU (([128, 0] : List Nat).take (lead [128, 0] + 1)) % W64 = 0 from by decide, p0, if_neg (by decide)]
theorem w4 : getU (List.replicate 10 255) = (0, 0, 31) := by decide
theorem w6 : getU (List.replicate 9 255) = (0, 0, 30) := by decide
theorem pbig : putU 9223372036854775807 = List.replicate 8 255 ++ [127] := by
  iterate 8 rw [putU_big (by omega)]
  rw [putU_small (by omega)]
  decide
theorem w5 : getU (List.replicate 9 255 ++ [2]) = (0, 0, 31) := by
  unfold getU
  rw [if_neg (by decide), if_neg (by decide), show valU ((List.replicate 9 255 ++ [2] : List Nat).take (lead (List.replicate 9 255 ++ [2] : List Nat) + 1)) % W64 = 9223372036854775807 from by decide, pbig, if_neg (by decide)]
theorem g1 : getS [127] = (-1, 1, 0) := by
  have := getS_put (-1) (by decide) (by decide) []
  rwa [sm1] at this
theorem g2 : getS [255, 127] = (0, 0, 31) := by
  unfold getS
  rw [if_neg (by decide), if_neg (by decide), show wrap64 (valS (([255, 127] : List Nat).take (lead [255, 127] + 1))) = -1 from by simp [lead, valS, wrap64], sm1, if_neg (by decide)]
theorem g3 : getS [128, 0] = (0, 0, 31) := by
  unfold getS
  rw [if_neg (by decide), if_neg (by decide), show wrap64 (valS (([128, 0] : List Nat).take (lead [128, 0] + 1))) = 0 from by simp [lead, valS, wrap64], s0, if_neg (by decide)]
theorem g4 : getS [192, 0] = (64, 2, 0) := by
  have := getS_put 64 (by decide) (by decide) []
  rwa [s64] at this
set_option maxRecDepth 100000 in
theorem nilU (w : World) : Calls Try.prog 24 #[.pointer none] w fun e w' => e = .returned (.int .u64 0) ∧ w' = w := by
  go_enter Try.func24, Try.ntmps24
  go_wp2
  go_ret
  exact ⟨rfl, rfl⟩
set_option maxRecDepth 100000 in
theorem nilS (w : World) : Calls Try.prog 26 #[.pointer none] w fun e w' => e = .returned (.int .i64 0) ∧ w' = w := by
  go_enter Try.func26, Try.ntmps26
  go_wp2
  go_ret
  exact ⟨rfl, rfl⟩
set_option maxRecDepth 100000 in
theorem nilB (w : World) : Calls Try.prog 28 #[.pointer none] w fun e w' => e = .returned (.int .u8 0) ∧ w' = w := by
  go_enter Try.func28, Try.ntmps28
  go_wp2
  go_ret
  exact ⟨rfl, rfl⟩
set_option maxRecDepth 100000 in
theorem nilL (w : World) : Calls Try.prog 30 #[.pointer none] w fun e w' => e = .returned (.int .i64 0) ∧ w' = w := by
  go_enter Try.func30, Try.ntmps30
  go_wp2
  go_ret
  exact ⟨rfl, rfl⟩
set_option maxRecDepth 100000 in
theorem nilA (w : World) : Calls Try.prog 31 #[.pointer none] w fun e w' => e = .returned (.int .i64 0) ∧ w' = w := by
  go_enter Try.func31, Try.ntmps31
  go_wp2
  go_ret
  exact ⟨rfl, rfl⟩
set_option maxRecDepth 100000 in
theorem nilE (w : World) : Calls Try.prog 32 #[.pointer none] w fun e w' => e = .returned (.int .i64 0) ∧ w' = w := by
  go_enter Try.func32, Try.ntmps32
  go_wp2
  go_ret
  exact ⟨rfl, rfl⟩

theorem own_cap {B n d : Nat} {w : World} {q : Option Addr} {l : List Nat} (h : OwnB B w (.slice q n d) l) : l.length ≤ d ∧ d ≤ maxLen := by
  rcases h.2 with ⟨h1, h2⟩ | ⟨g, cap, cur, h1, _, _, h3, h4, _⟩
  · simp only [Value.slice.injEq] at h1
    rw [h2, h1.2.2]
    exact ⟨Nat.le_refl _, Nat.zero_le _⟩
  · simp only [Value.slice.injEq] at h1
    rw [h1.2.2]
    exact ⟨h3, h4⟩
theorem times_lit (k x : Nat) (hk : k ≤ 100) (cs : Array Value) (ms : List Nat) (h : cs.toList = bv ms) (c : Nat) (hm : ms.length ≤ 100) (l : List Nat) (hl : List.replicate k x ++ ms = l) (n : Nat) (hn : l.length = n) (W : World) :
    Calls Try.prog 34 #[.int .i64 (k : Int), .int .u8 (x : Int), .slice (some ⟨W.heap.size, 0, none⟩) ms.length c] (W.alloc (.cells cs 5)) fun e w' => ∃ q d, e = .returned (.slice q n d) ∧ (ByIn w'.heap.size w' q l ∧ n ≤ d ∧ d ≤ maxLen) ∧ Below W.heap.size W w' := by
  subst hl hn
  refine (times_any k x hk _ c ms (.inr ⟨_, rfl⟩) hm _ (lit_in W cs ms h)).mono fun e w' ⟨v, h1, h2, h3⟩ => ?_
  obtain ⟨q, d, rfl⟩ := h2.slice
  exact ⟨q, d, h1, ⟨h2.in, own_cap h2⟩, below_lit W _ h3⟩
theorem times_nil (k x : Nat) (hk : k ≤ 100) (l : List Nat) (hl : List.replicate k x = l) (n : Nat) (hn : l.length = n) (W : World) :
    Calls Try.prog 34 #[.int .i64 (k : Int), .int .u8 (x : Int), .slice none 0 0] W fun e w' => ∃ q d, e = .returned (.slice q n d) ∧ (ByIn w'.heap.size w' q l ∧ n ≤ d ∧ d ≤ maxLen) ∧ Below W.heap.size W w' := by
  subst hl hn
  refine (times_any k x hk none 0 [] (.inl ⟨rfl, rfl, rfl⟩) (Nat.zero_le _) W (ByIn.nil _ _ _)).mono fun e w' ⟨v, h1, h2, h3⟩ => ?_
  rw [List.append_nil] at h2
  obtain ⟨q, d, rfl⟩ := h2.slice
  exact ⟨q, d, h1, ⟨h2.in, own_cap h2⟩, h3⟩
theorem lput_at (n : Nat) (hn : n < W64) (ws : List Nat) (m : Nat) (hm : ws.length = m) (hr : putU n = ws) (q : Option Addr) (d : Nat) (W : World) (h : ByIn W.heap.size W q ws) :
    Calls Try.prog 33 #[.int .u64 n, .slice q m d] W fun e w' => e = .returned (.bool true) ∧ Below W.heap.size W w' := by
  subst hm
  exact (lput_any n hn q d ws W h).mono fun e w' hh => ⟨by rw [hh.1, decide_eq_true hr], hh.2⟩
theorem lputSigned_at (n : Int) (hn1 : -9223372036854775808 ≤ n) (hn2 : n < 9223372036854775808) (ws : List Nat) (m : Nat) (hm : ws.length = m) (hr : putS n = ws) (q : Option Addr) (d : Nat) (W : World) (h : ByIn W.heap.size W q ws) :
    Calls Try.prog 35 #[.int .i64 n, .slice q m d] W fun e w' => e = .returned (.bool true) ∧ Below W.heap.size W w' := by
  subst hm
  exact (lputSigned_any n hn1 hn2 q d ws W h).mono fun e w' hh => ⟨by rw [hh.1, decide_eq_true hr], hh.2⟩
theorem wrong_at (ws : List Nat) (f : Nat) (hf : f = 30 ∨ f = 31) (hg : getU ws = (0, 0, f)) (hx : bytesL ws) (m : Nat) (hm : ws.length = m) (q : Option Addr) (d : Nat) (W : World) (h : ByIn W.heap.size W q ws ∧ m ≤ d ∧ d ≤ maxLen) :
    Calls Try.prog 36 #[.slice q m d] W fun e w' => e = .returned (.int .i64 (f : Int)) ∧ Below W.heap.size W w' := by
  subst hm
  exact wrong_any q d ws f hf hg hx h.2.1 h.2.2 W h.1
theorem wrong_lit (cs : Array Value) (ws : List Nat) (h : cs.toList = bv ws) (f : Nat) (hf : f = 30 ∨ f = 31) (hg : getU ws = (0, 0, f)) (hx : bytesL ws) (c : Nat) (hl : ws.length ≤ c) (hm : c ≤ maxLen) (W : World) :
    Calls Try.prog 36 #[.slice (some ⟨W.heap.size, 0, none⟩) ws.length c] (W.alloc (.cells cs 5)) fun e w' => e = .returned (.int .i64 (f : Int)) ∧ Below W.heap.size W w' :=
  (wrong_any _ c ws f hf hg hx hl hm _ (lit_in W cs ws h)).mono fun _ _ hh => ⟨hh.1, below_lit W _ hh.2⟩
end Go.Proofs.Ytfmeclfoknjheaa
