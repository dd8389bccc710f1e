/- The parser's small readers of operations: levelOf, unarySign; what a word's sign says. -/
import Derived.Test.YtnmcjkabihihiaaDoorU
import Derived.Test.YtnmcjkabihihiaaDoorSig
import Derived.Test.YtnmcjkabihihiaaDoorSynC
namespace Go.Proofs.YtnmcjkabihihiaaDoor
open Go Go.RowKit Go.Proofs.Mm

theorem bl_sign (n : Nat) (h1 : 1 ≤ n) (h2 : n ≤ 17) : bl (signV n) = Syn.sgn n := by
  have : ∀ n : Fin 18, 1 ≤ n.val → bl (signV n.val) = Syn.sgn n.val := by decide
  exact this ⟨n, by omega⟩ h1
theorem hitS_iff (t : ByteArray) (ar : Int) (n : Nat) (h1 : 1 ≤ n) (h2 : n ≤ 17) : hitS t ar n = true ↔ bl t = Syn.sgn n ∧ arV n = ar := by
  unfold hitS
  rw [eq_text, bl_sign n h1 h2, Bool.and_eq_true, beq_iff_eq, beq_iff_eq, eq_comm]
theorem bysign2 (t : ByteArray) : ∃ n, First t 2 n ∧ ((n = 18 ∧ ∀ l, Syn.opTx (Syn.marks l) (bl t) = 0) ∨ (1 ≤ n ∧ n ≤ 14 ∧ ∀ l, l ≤ 5 → Syn.opTx (Syn.marks l) (bl t) = if Syn.lvlOf n = l then n else 0)) := by
  obtain ⟨n, h1, h18, hno, hyes⟩ := first_any t 2
  refine ⟨n, ⟨h1, h18, hno, hyes⟩, ?_⟩
  by_cases hn : n = 18
  · refine .inl ⟨hn, fun l => Syn.opTx_none _ _ fun m hm e => ?_⟩
    obtain ⟨a, b, c⟩ := Syn.marks_sgn l m hm
    have := hno m.2 b (by omega)
    have h2 := (hitS_iff t 2 m.2 b (by omega)).2 ⟨by rw [e, a], by unfold arV; rw [if_pos (by omega)]⟩
    rw [this] at h2; cases h2
  · obtain ⟨a, b⟩ := (hitS_iff t 2 n h1 (by omega)).1 (hyes.resolve_left hn)
    have hn14 : n ≤ 14 := by
      unfold arV at b
      split at b
      · omega
      · split at b <;> omega
    exact .inr ⟨h1, hn14, fun l hl => by rw [a]; exact Syn.opTx_sgn n h1 hn14 l hl⟩
theorem bysign1 (t : ByteArray) : ∃ n, First t 1 n ∧ ((n = 18 ∧ Syn.opTx Syn.unL (bl t) = 0) ∨ (15 ≤ n ∧ n ≤ 17 ∧ Syn.opTx Syn.unL (bl t) = n)) := by
  obtain ⟨n, h1, h18, hno, hyes⟩ := first_any t 1
  refine ⟨n, ⟨h1, h18, hno, hyes⟩, ?_⟩
  by_cases hn : n = 18
  · refine .inl ⟨hn, Syn.opTx_none _ _ fun m hm e => ?_⟩
    have hm2 : Syn.sgn m.2 = m.1 ∧ 15 ≤ m.2 ∧ m.2 ≤ 17 := by
      have : Syn.unL.all (fun m => decide (Syn.sgn m.2 = m.1 ∧ 15 ≤ m.2 ∧ m.2 ≤ 17)) = true := by decide
      simpa using List.all_eq_true.1 this m hm
    obtain ⟨a, b, c⟩ := hm2
    have := hno m.2 (by omega) (by omega)
    have h2 := (hitS_iff t 1 m.2 (by omega) c).2 ⟨by rw [e, a], by unfold arV; rw [if_neg (by omega), if_pos (by omega)]⟩
    rw [this] at h2; cases h2
  · obtain ⟨a, b⟩ := (hitS_iff t 1 n h1 (by omega)).1 (hyes.resolve_left hn)
    have hn15 : 15 ≤ n := by
      unfold arV at b
      split at b
      · omega
      · split at b <;> omega
    exact .inr ⟨hn15, by omega, by rw [a]; exact Syn.opTx_un n hn15 (by omega)⟩
theorem opOf_text {ys : List It} (hw : Ws ys) (len i : Nat) {ms : List (List Nat × Nat)} (hm : ∀ m ∈ ms, Mk m.1 = true) : Syn.opOf (Tk ys) ms i = Syn.opTx ms (bl (tk ys len i).t) := by
  unfold Syn.opOf Syn.opTx
  rw [Syn.find_congr (q := fun m => bl (tk ys len i).t == m.1) (fun m hx => (is_text hw len i (hm m hx)).symm)]
  rfl
theorem mk_marks (l : Nat) : ∀ m ∈ Syn.marks l, Mk m.1 = true := by
  have : (Syn.marks l).all (fun m => Mk m.1) = true := by
    unfold Syn.marks
    split <;> decide
  exact List.all_eq_true.1 this
theorem mk_un : ∀ m ∈ Syn.unL, Mk m.1 = true := by decide

set_option maxRecDepth 100000 in
theorem levelOf_any (n : Nat) (h1 : 1 ≤ n) (h2 : n ≤ 14) (w : World) : Calls Tryd.prog 35 #[.int .i64 (n : Nat)] w fun e w' => e = .returned (.int .i64 ((Syn.lvlOf n : Nat) : Int)) ∧ w = w' := by
  rcases (show n = 1 ∨ n = 2 ∨ n = 3 ∨ n = 4 ∨ n = 5 ∨ n = 6 ∨ n = 7 ∨ n = 8 ∨ n = 9 ∨ n = 10 ∨ n = 11 ∨ n = 12 ∨ n = 13 ∨ n = 14 by omega) with rfl | rfl | rfl | rfl | rfl | rfl | rfl | rfl | rfl | rfl | rfl | rfl | rfl | rfl
  all_goals
    clear h1 h2
    go_enter Tryd.func35, Tryd.ntmps35
    go_wp2
    go_ret
    exact ⟨rfl, rfl⟩

section
variable {ys : List It} {len bp bw i : Nat} {vp : Value} {w : World}
set_option maxRecDepth 100000 in
theorem unarySign_no (hw : Ws ys) (h : PS ys len bp bw vp w i) (ho : Syn.opOf (Tk ys) Syn.unL i = 0) :
    Calls Tryd.prog 37 #[.pointer (some ⟨bp, 0, none⟩)] w fun e w' => e = .returned (.tuple #[.int .i64 0, .bool false]) ∧ w = w' := by
  obtain ⟨n, hn, hc⟩ := bysign1 (tk ys len i).t
  rw [opOf_text hw len i mk_un] at ho
  have hn18 : n = 18 := by rcases hc with hc | hc <;> omega
  subst hn18
  have hb := bysign_ops _ _ _ hn w
  rw [show bsV 18 = .tuple #[.int .i64 0, .bool false] from rfl] at hb
  obtain ⟨c, h0, hf, hcc, hc2, h1, h2, h3, h4⟩ := h.raw
  have hle := h.le
  have hm : 0 < ys.length + 1 - i := by omega
  clear h hf hcc hc2 h1 h3 h4 hc hn ho
  generalize ys.length + 1 - i = m at *
  generalize 4 * i = o at *
  go_enter Tryd.func37, Tryd.ntmps37
  go_wp2_with (go_at_call 34; refine hb.mono ?_; rintro e w' ⟨rfl, rfl⟩)
  go_ret2
  exact ⟨rfl, rfl⟩
set_option maxRecDepth 100000 in
theorem unarySign_yes (hw : Ws ys) (h : PS ys len bp bw vp w i) (n : Nat) (hn0 : n ≠ 0) (ho : Syn.opOf (Tk ys) Syn.unL i = n) (hi : i < ys.length) :
    Calls Tryd.prog 37 #[.pointer (some ⟨bp, 0, none⟩)] w fun e w' => e = .returned (.tuple #[.int .i64 (n : Nat), .bool true]) ∧ Chg (fun k => k = bp) w w' ∧ PS ys len bp bw vp w' (i + 1) := by
  obtain ⟨n', hn, hc⟩ := bysign1 (tk ys len i).t
  rw [opOf_text hw len i mk_un] at ho
  have hn18 : n' = n ∧ n ≤ 17 := by rcases hc with hc | hc <;> omega
  obtain ⟨rfl, hn17⟩ := hn18
  have hb := bysign_ops _ _ _ hn w
  rw [show bsV n' = .tuple #[.int .i64 (n' : Nat), .bool true] from if_neg (by omega)] at hb
  have ht := Lib.hid (take_ps h hi)
  obtain ⟨c, h0, hf, hcc, hc2, h1, h2, h3, h4⟩ := h.raw
  have hle := h.le
  have hm : 0 < ys.length + 1 - i := by omega
  clear h hf hcc hc2 h1 h3 h4 hc hn ho hn0
  generalize ys.length + 1 - i = m at *
  generalize 4 * i = o at *
  go_enter Tryd.func37, Tryd.ntmps37
  go_wp2_with (go_at_call 34; refine hb.mono ?_; rintro e w' ⟨rfl, rfl⟩)
  go_at_call 36
  refine ht.out.mono ?_
  rintro e w' ⟨rfl, hC, hP⟩
  go_wp2
  go_ret2
  exact ⟨rfl, hC, hP⟩
end
end Go.Proofs.YtnmcjkabihihiaaDoor
