/- Fold of package ops and of the document's answer, in every memory. -/
import Derived.Test.YtiddlnmpiaelmaaLst
import Derived.Test.YtiddlnmpiaelmaaDocB
import Derived.Test.YtiddlnmpiaelmaaSig
namespace Go.Proofs.Ytiddlnmpiaelmaa
open Go Go.RowKit

/-- What a fold answers. -/
def foldL (op : Int) : List Int → Int
  | [] => 0
  | z :: zs => zs.foldl (binV op) z

def wfI (x : Int) : Prop := -9223372036854775808 ≤ x ∧ x < 9223372036854775808

theorem tmod_range {a : Int} (b : Int) (h : wfI a) : wfI (a.tmod b) := by
  have hc := tmod_cases a b
  have hle : a.natAbs % b.natAbs ≤ a.natAbs := Nat.mod_le _ _
  unfold wfI at *
  split at hc <;> omega

theorem binV_range (op : Int) {a : Int} (b : Int) (h : wfI a) : wfI (binV op a b) := by
  have h0 : wfI 0 := ⟨by decide, by decide⟩
  have h1 : wfI 1 := ⟨by decide, by decide⟩
  unfold binV
  by_cases e1 : op = 1
  · rw [if_pos e1]; exact wrap_le _
  rw [if_neg e1]
  by_cases e2 : op = 2
  · rw [if_pos e2]; exact wrap_le _
  rw [if_neg e2]
  by_cases e3 : op = 3
  · rw [if_pos e3]; exact wrap_le _
  rw [if_neg e3]
  by_cases e4 : op = 4
  · rw [if_pos e4]; split
    · exact h0
    · exact wrap_le _
  rw [if_neg e4]
  by_cases e5 : op = 5
  · rw [if_pos e5]; split
    · exact h0
    · exact tmod_range b h
  rw [if_neg e5]
  by_cases e6 : op = 6
  · rw [if_pos e6]; exact wrap_le _
  rw [if_neg e6]
  by_cases e7 : op = 7
  · rw [if_pos e7]; exact wrap_le _
  rw [if_neg e7]
  by_cases e8 : op = 8
  · rw [if_pos e8]; exact wrap_le _
  rw [if_neg e8]
  by_cases e9 : op = 9
  · rw [if_pos e9]; exact wrap_le _
  rw [if_neg e9]
  by_cases e10 : op = 10
  · rw [if_pos e10]; exact wrap_le _
  rw [if_neg e10]
  by_cases e11 : op = 11
  · rw [if_pos e11]; split <;> assumption
  rw [if_neg e11]
  by_cases e12 : op = 12
  · rw [if_pos e12]; split <;> assumption
  rw [if_neg e12]
  by_cases e13 : op = 13
  · rw [if_pos e13]; split <;> assumption
  rw [if_neg e13]
  by_cases e14 : op = 14
  · rw [if_pos e14]; split <;> assumption
  rw [if_neg e14]; exact h0

theorem foldl_snoc (op z : Int) (zs : List Int) (k : Nat) (h : k < zs.length) : (zs.take (k + 1)).foldl (binV op) z = binV op ((zs.take k).foldl (binV op) z) (zs.getD k 0) := by
  rw [List.take_succ_eq_append_getElem h, List.foldl_append]
  simp [h]

theorem foldl_range (op : Int) : ∀ (zs : List Int) (z : Int), wfI z → wfI (zs.foldl (binV op) z)
  | [], _, h => h
  | x :: zs, _, h => foldl_range op zs _ (binV_range op x h)

set_option maxRecDepth 100000 in
theorem fold_nil (op : Int) (p : Option Addr) (c : Nat) (w : World) : Calls Try.prog 20 #[.int .i64 op, .slice p 0 c] w fun e w' => e = .returned (.tuple #[.int .i64 0, .bool false]) ∧ w = w' := by
  have h := arity_ops op w
  by_cases ha : arV op = 2
  · rw [ha] at h
    go_enter Try.func20, Try.ntmps20
    go_wp2_with (go_at_call 15; refine h.mono ?_; rintro e w' ⟨rfl, rfl⟩)
    go_ret2
    exact ⟨rfl, rfl⟩
  · have hn : (arV op != 2) = true := by simp [ha]
    generalize arV op = A at h hn
    clear ha
    go_enter Try.func20, Try.ntmps20
    go_wp2_with (go_at_call 15; refine h.mono ?_; rintro e w' ⟨rfl, rfl⟩)
    go_ret2
    exact ⟨rfl, rfl⟩

set_option maxRecDepth 100000 in
theorem fold_none (op : Int) (ha : ¬ arV op = 2) (p : Option Addr) (n c : Nat) (w : World) : Calls Try.prog 20 #[.int .i64 op, .slice p n c] w fun e w' => e = .returned (.tuple #[.int .i64 0, .bool false]) ∧ w = w' := by
  have h := arity_ops op w
  have hn : (arV op != 2) = true := by simp [ha]
  generalize arV op = A at h hn
  clear ha
  go_enter Try.func20, Try.ntmps20
  go_wp2_with (go_at_call 15; refine h.mono ?_; rintro e w' ⟨rfl, rfl⟩)
  go_ret2
  exact ⟨rfl, rfl⟩

set_option maxRecDepth 100000 in
set_option maxHeartbeats 1000000 in
theorem fold_some (op : Int) (ha : arV op = 2) (z : Int) (zs : List Int) (b off c : Nat) (hl : zs.length + 1 ≤ maxLen) (hcp : zs.length + 1 ≤ c) (w : World)
    (hc : ∀ i, i < zs.length + 1 → w.cell? ⟨b, off + i, none⟩ = some (.int .i64 ((z :: zs).getD i 0))) :
    Calls Try.prog 20 #[.int .i64 op, .slice (some ⟨b, off, none⟩) (zs.length + 1) c] w fun e w' => e = .returned (.tuple #[.int .i64 (zs.foldl (binV op) z), .bool true]) ∧ w = w' := by
  unfold maxLen at hl
  have h := arity_ops op w
  rw [ha] at h
  have hb := Lib.hid (fun x y => binary_ops op x y w)
  have h0 := hc 0 (by omega)
  rw [Nat.add_zero, show (z :: zs).getD 0 0 = z from rfl] at h0
  have hr : ∀ i, i < zs.length → w.cell? ⟨b, off + (i + 1), none⟩ = some (.int .i64 (zs.getD i 0)) := fun i hi => by
    have := hc (i + 1) (by omega)
    rw [show (z :: zs).getD (i + 1) 0 = zs.getD i 0 from by simp] at this
    exact this
  have HR := Lib.hid hr
  clear hc hr ha
  obtain ⟨n, hn⟩ : ∃ n, zs.length = n := ⟨_, rfl⟩
  have HN := Lib.hid hn
  rw [hn] at hl hcp ⊢
  clear hn
  by_cases hc1 : c = 1
  · obtain rfl : n = 0 := by omega
    obtain rfl : zs = [] := List.eq_nil_of_length_eq_zero HN.out
    subst hc1
    clear hb HR HN
    go_enter Try.func20, Try.ntmps20
    go_wp2_with (go_at_call 15; refine h.mono ?_; rintro e w' ⟨rfl, rfl⟩)
    refine wp_loop_rounds 1 ?_
    rw [rounds_succ]
    go_wp2
    go_ret2
    exact ⟨rfl, rfl⟩
  · have hz : ((n : Int) + 1 == 0) = false := by simp; omega
    go_enter Try.func20, Try.ntmps20
    go_wp2_with (go_at_call 15; refine h.mono ?_; rintro e w' ⟨rfl, rfl⟩)
    go_loop [6, 23] (fun x i => ∃ k : Nat, k ≤ n ∧ i = .int .i64 k ∧ x = .int .i64 ((zs.take k).foldl (binV op) z)) (fun _ i => n - (intOf i).toNat)
    case atStart => exact ⟨0, Nat.zero_le _, rfl, rfl⟩
    case round =>
      obtain ⟨k, hk, rfl, rfl⟩ := hrel
      by_cases hlt : k < n
      · have hs := foldl_snoc op z zs k (by rw [HN.out]; exact hlt)
        have hcell := HR.out k (by rw [HN.out]; exact hlt)
        have hbin := hb.out ((zs.take k).foldl (binV op) z) (zs.getD k 0)
        rw [← hs] at hbin
        rw [show off + (k + 1) = off + 1 + k from by omega] at hcell
        have hki : (k : Int) < (n : Int) := by omega
        clear hs
        obtain ⟨V, hV⟩ : ∃ V, (zs.take (k + 1)).foldl (binV op) z = V := ⟨_, rfl⟩
        rw [hV] at hbin
        have HV := Lib.hid hV
        clear hV
        generalize (zs.take k).foldl (binV op) z = A at hbin ⊢
        generalize zs.getD k 0 = x at hbin hcell
        go_wp2_with (go_at_call 8; refine hbin.mono ?_; rintro e w' ⟨rfl, rfl⟩)
        exact ⟨⟨k + 1, by omega, by go_num, by rw [HV.out]⟩, by simp [intOf]; omega⟩
      · obtain rfl : k = n := by omega
        have ht : zs.take k = zs := List.take_of_length_le (by rw [HN.out]; exact Nat.le_refl _)
        rw [ht]
        clear ht
        go_wp2
        go_ret2
        exact ⟨rfl, rfl⟩
set_option maxRecDepth 100000 in
theorem rfold_nil (op : Int) (p : Option Addr) (c : Nat) (w : World) : Calls Try.prog 21 #[.int .i64 op, .slice p 0 c] w fun e w' => e = .returned (.tuple #[.int .i64 0, .bool false]) ∧ w = w' := by
  have h := arity_ref op w
  by_cases ha : arV op = 2
  · rw [ha] at h
    go_enter Try.func21, Try.ntmps21
    go_wp2_with (go_at_call 16; refine h.mono ?_; rintro e w' ⟨rfl, rfl⟩)
    go_ret2
    exact ⟨rfl, rfl⟩
  · have hn : (arV op != 2) = true := by simp [ha]
    generalize arV op = A at h hn
    clear ha
    go_enter Try.func21, Try.ntmps21
    go_wp2_with (go_at_call 16; refine h.mono ?_; rintro e w' ⟨rfl, rfl⟩)
    go_ret2
    exact ⟨rfl, rfl⟩

set_option maxRecDepth 100000 in
theorem rfold_none (op : Int) (ha : ¬ arV op = 2) (p : Option Addr) (n c : Nat) (w : World) : Calls Try.prog 21 #[.int .i64 op, .slice p n c] w fun e w' => e = .returned (.tuple #[.int .i64 0, .bool false]) ∧ w = w' := by
  have h := arity_ref op w
  have hn : (arV op != 2) = true := by simp [ha]
  generalize arV op = A at h hn
  clear ha
  go_enter Try.func21, Try.ntmps21
  go_wp2_with (go_at_call 16; refine h.mono ?_; rintro e w' ⟨rfl, rfl⟩)
  go_ret2
  exact ⟨rfl, rfl⟩

set_option maxRecDepth 100000 in
set_option maxHeartbeats 1000000 in
theorem rfold_some (op : Int) (ha : arV op = 2) (z : Int) (zs : List Int) (b off c : Nat) (hl : zs.length + 1 ≤ maxLen) (hcp : zs.length + 1 ≤ c) (w : World) (hwz : wfI z) (hwf : ∀ i, i < zs.length → wfI (zs.getD i 0))
    (hc : ∀ i, i < zs.length + 1 → w.cell? ⟨b, off + i, none⟩ = some (.int .i64 ((z :: zs).getD i 0))) :
    Calls Try.prog 21 #[.int .i64 op, .slice (some ⟨b, off, none⟩) (zs.length + 1) c] w fun e w' => e = .returned (.tuple #[.int .i64 (zs.foldl (binV op) z), .bool true]) ∧ w = w' := by
  unfold maxLen at hl
  have h := arity_ref op w
  rw [ha] at h
  have hb := Lib.hid (fun x y (hx : wfI x) (hy : wfI y) => binary_ref op x y hx.1 hx.2 hy.1 hy.2 w)
  have h0 := hc 0 (by omega)
  rw [Nat.add_zero, show (z :: zs).getD 0 0 = z from rfl] at h0
  have hr : ∀ i, i < zs.length → w.cell? ⟨b, off + (i + 1), none⟩ = some (.int .i64 (zs.getD i 0)) := fun i hi => by
    have := hc (i + 1) (by omega)
    rw [show (z :: zs).getD (i + 1) 0 = zs.getD i 0 from by simp] at this
    exact this
  have HR := Lib.hid hr
  clear hc hr ha
  obtain ⟨n, hn⟩ : ∃ n, zs.length = n := ⟨_, rfl⟩
  have HN := Lib.hid hn
  rw [hn] at hl hcp ⊢
  clear hn
  have hz : ((n : Int) + 1 == 0) = false := by simp; omega
  go_enter Try.func21, Try.ntmps21
  go_wp2_with (go_at_call 16; refine h.mono ?_; rintro e w' ⟨rfl, rfl⟩)
  go_loop [6, 7] (fun x i => ∃ k : Nat, k ≤ n ∧ i = .int .i64 (k + 1) ∧ x = .int .i64 ((zs.take k).foldl (binV op) z)) (fun _ i => n + 1 - (intOf i).toNat)
  case atStart => exact ⟨0, Nat.zero_le _, rfl, rfl⟩
  case round =>
    obtain ⟨k, hk, rfl, rfl⟩ := hrel
    by_cases hlt : k < n
    · have hs := foldl_snoc op z zs k (by rw [HN.out]; exact hlt)
      have hcell := HR.out k (by rw [HN.out]; exact hlt)
      have hbin := hb.out ((zs.take k).foldl (binV op) z) (zs.getD k 0) (foldl_range op _ _ hwz) (hwf k (by rw [HN.out]; exact hlt))
      rw [← hs] at hbin
      have hki : (k : Int) + 1 < (n : Int) + 1 := by omega
      clear hs
      obtain ⟨V, hV⟩ : ∃ V, (zs.take (k + 1)).foldl (binV op) z = V := ⟨_, rfl⟩
      rw [hV] at hbin
      have HV := Lib.hid hV
      clear hV
      generalize (zs.take k).foldl (binV op) z = A at hbin ⊢
      generalize zs.getD k 0 = x at hbin hcell
      go_wp2_with (go_at_call 9; refine hbin.mono ?_; rintro e w' ⟨rfl, rfl⟩)
      exact ⟨⟨k + 1, by omega, by go_num, by rw [HV.out]⟩, by simp [intOf]; omega⟩
    · obtain rfl : k = n := by omega
      have ht : zs.take k = zs := List.take_of_length_le (by rw [HN.out]; exact Nat.le_refl _)
      rw [ht]
      clear ht
      go_wp2
      go_ret2
      exact ⟨rfl, rfl⟩


theorem fold_ops (op : Int) (p : Option Addr) (c : Nat) (zs : List Int) (hl : zs.length ≤ maxLen) (hc : zs.length ≤ c) (B : Nat) (w : World) (hi : IntIn B w p zs) :
    Calls Try.prog 20 #[.int .i64 op, .slice p zs.length c] w fun e w' => e = .returned (.tuple #[.int .i64 (if arV op = 2 then foldL op zs else 0), .bool (decide (arV op = 2 ∧ zs ≠ []))]) ∧ w = w' := by
  by_cases ha : arV op = 2
  · cases zs with
    | nil =>
      rw [if_pos ha, decide_eq_false (fun h => h.2 rfl)]
      exact fold_nil op p c w
    | cons z t =>
      obtain ⟨b, off, rfl, _, _⟩ := hi 0 (by simp)
      rw [if_pos ha, decide_eq_true ⟨ha, by simp⟩]
      exact fold_some op ha z t b off c hl hc w (fun i hit => by
        obtain ⟨b', off', he, _, h⟩ := hi i (by simpa using hit)
        cases he
        exact h)
  · rw [if_neg ha, decide_eq_false (fun h => ha h.1)]
    exact fold_none op ha p _ c w

theorem fold_ref (op : Int) (p : Option Addr) (c : Nat) (zs : List Int) (hl : zs.length ≤ maxLen) (hc : zs.length ≤ c) (B : Nat) (w : World) (hwf : ∀ i, i < zs.length → wfI (zs.getD i 0)) (hi : IntIn B w p zs) :
    Calls Try.prog 21 #[.int .i64 op, .slice p zs.length c] w fun e w' => e = .returned (.tuple #[.int .i64 (if arV op = 2 then foldL op zs else 0), .bool (decide (arV op = 2 ∧ zs ≠ []))]) ∧ w = w' := by
  by_cases ha : arV op = 2
  · cases zs with
    | nil =>
      rw [if_pos ha, decide_eq_false (fun h => h.2 rfl)]
      exact rfold_nil op p c w
    | cons z t =>
      obtain ⟨b, off, rfl, _, _⟩ := hi 0 (by simp)
      rw [if_pos ha, decide_eq_true ⟨ha, by simp⟩]
      exact rfold_some op ha z t b off c hl hc w (hwf 0 (by simp)) (fun i hit => by have := hwf (i + 1) (by simpa using hit); simpa using this) (fun i hit => by
        obtain ⟨b', off', he, _, h⟩ := hi i (by simpa using hit)
        cases he
        exact h)
  · rw [if_neg ha, decide_eq_false (fun h => ha h.1)]
    exact rfold_none op ha p _ c w
end Go.Proofs.Ytiddlnmpiaelmaa
