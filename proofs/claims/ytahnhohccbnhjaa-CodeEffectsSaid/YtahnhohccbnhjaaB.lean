/- Lists of bytes: lent out and looked at afterwards; copied; compared as texts; in every memory. -/
import Derived.Test.YtahnhohccbnhjaaA
import Derived.Laws.BytesString
import Derived.Laws.BytesArg
import Derived.Lib.Bytes
import Derived.Lib.Strings
import Derived.Lib.Slices
import Derived.Lib.Walk
namespace Go.Proofs.Ytahnhohccbnhjaa
open Go Go.RowKit

abbrev markB : Nat := 201

set_option maxRecDepth 100000 in
set_option maxHeartbeats 2000000 in
theorem lent_any (p : Option Addr) (c : Nat) (ns : List Nat) (hp : (p = none ∧ ns = [] ∧ c = 0) ∨ ∃ ad, p = some ad) (hb : ns.length + 1 ≤ 140737488355328) (w : World) (hs : ByIn w.heap.size w p ns) :
    Calls Try.prog 17 #[.slice p ns.length c] w fun e w' => ∃ q cap, e = .returned (.slice (some ⟨q, 0, none⟩) ns.length cap) ∧ w.heap.size ≤ q ∧ ns.length + 1 ≤ cap ∧ w'.ownsRow w.heap.size 5 1 (.slice (some ⟨q, 0, none⟩) (ns.length + 1) cap) (ns.length + 1) (bv (ns ++ [markB])) ∧ Below w.heap.size w w' := by
  obtain ⟨i2, h2, h3, h4, h5⟩ := info5
  have hnil := World.ownsRow_nil w w.heap.size 5 1
  rcases hp with ⟨rfl, rfl, rfl⟩ | ⟨ad, rfl⟩
  · have hR1 := hnil.alloc (.cells #[.int .u8 201] 5)
    go_enter Try.func17, Try.ntmps17
    go_wp2_with (first | (at_builtin; refine wpList_append_own_none rfl _ _ 35 rfl w.heap.size 5 i2 1 Try.underlying35 h2 _ 0 [] rfl hnil rfl ?_) | (at_builtin; refine wpList_append_own _ rfl _ _ 35 rfl w.heap.size 5 i2 (.int .u8 0) 1 1 Try.underlying35 h2 h3 h4 h5 rfl (by omega) _ 0 [] rfl hR1 ⟨_, 0, none⟩ 1 1 (bv [markB]) rfl (by simp [bv]) (one_cells _ 201) (bv_one _) (by unfold maxLen; omega) (by omega) (by simp <;> omega) ?_))
    intro v2 w2 hR2 hg2 _
    obtain ⟨g, cap, rfl, hbg⟩ := row_form hR2 (by omega)
    have hcap := row_cap hR2
    have hB2 : Below w.heap.size w w2 := ((Below.refl _ w).alloc (Nat.le_refl _) _).trans (below_own hg2 (by simp) (fun j hj => (hR1.lt j hj).1))
    clear hg2 hR1 hnil
    have HR := Lib.hid hR2
    clear hR2
    go_wp2
    go_ret
    exact ⟨g, cap, rfl, hbg, by omega, by simpa [bv] using HR.out, hB2⟩
  · have hcl := by_cells hs
    have hon := bv_one ns
    have hll : (bv ns).length = ns.length * 1 := by simp [bv]
    go_enter Try.func17, Try.ntmps17
    go_wp2_with (at_builtin; refine wpList_append_own _ rfl _ _ 35 rfl w.heap.size 5 i2 (.int .u8 0) 1 1 Try.underlying35 h2 h3 h4 h5 rfl (by omega) _ 0 [] rfl hnil ad ns.length c (bv ns) rfl hll hcl hon (by unfold maxLen; omega) (by omega) (Nat.le_refl _) ?_)
    intro v1 w1 hR1 hg1 _
    obtain ⟨q1, c1, rfl⟩ := row_slice hR1
    have hB1 : Below w.heap.size w w1 := below_own hg1 (Nat.le_refl _) (fun j hj => by cases hj)
    have hw1 := hB1.size
    have hR1' := hR1.alloc (.cells #[.int .u8 201] 5)
    clear hg1 hnil hcl hon hll hs hR1
    go_wp2_with (at_builtin; refine wpList_append_own _ rfl _ _ 35 rfl w.heap.size 5 i2 (.int .u8 0) 1 1 Try.underlying35 h2 h3 h4 h5 rfl (by omega) _ ns.length (bv ns) rfl hR1' ⟨_, 0, none⟩ 1 1 (bv [markB]) rfl (by simp [bv]) (one_cells _ 201) (bv_one _) (by unfold maxLen; omega) (by omega) (by simp <;> omega) ?_)
    intro v2 w2 hR2 hg2 _
    obtain ⟨g, cap, rfl, hbg⟩ := row_form hR2 (by omega)
    have hcap := row_cap hR2
    have hB2 : Below w.heap.size w w2 := hB1.trans (((Below.refl _ w1).alloc hw1 _).trans (below_own hg2 (by simp; omega) (fun j hj => (hR1'.lt j hj).1)))
    clear hg2 hR1' hB1
    have HR := Lib.hid hR2
    clear hR2
    go_wp2
    go_ret
    exact ⟨g, cap, rfl, hbg, by omega, by simpa [bv] using HR.out, hB2⟩

/-- What was lent out reads as it did, and so does the mark behind it. -/
theorem lent_row {w : World} {b g cap : Nat} {xs : List Nat} (h : w.ownsRow b 5 1 (.slice (some ⟨g, 0, none⟩) (xs.length + 1) cap) (xs.length + 1) (bv (xs ++ [markB]))) :
    ByIn w.heap.size w (some ⟨g, 0, none⟩) xs ∧ w.cell? ⟨g, xs.length, none⟩ = some (.int .u8 201) ∧ g < w.heap.size ∧ xs.length + 1 ≤ cap ∧ cap ≤ maxLen := by
  have h' : w.ownsRow b 5 1 (.slice (some ⟨g, 0, none⟩) (xs ++ [markB]).length cap) (xs ++ [markB]).length (bv (xs ++ [markB])) := by
    rw [show (xs ++ [markB]).length = xs.length + 1 from by simp]; exact h
  have hm := own_cell h' xs.length (by simp)
  rw [show (xs ++ [markB]).getD xs.length 0 = 201 from by simp] at hm
  refine ⟨fun i hi => ?_, hm, World.block_lt_of_cell? _ _ hm, (row_cap h).1, (row_cap h).2⟩
  have hc := own_cell h' i (by simp; omega)
  rw [show (xs ++ [markB]).getD i 0 = xs.getD i 0 from by simp [List.getD_eq_getElem?_getD, List.getElem?_append_left hi]] at hc
  refine ⟨g, 0, rfl, World.block_lt_of_cell? _ _ hc, ?_⟩
  rw [Nat.zero_add]
  exact hc

set_option maxRecDepth 100000 in
set_option maxHeartbeats 1000000 in
theorem kept_any (q : Nat) (p : Option Addr) (cap d : Nat) (ns : List Nat) (hl : ns.length + 1 ≤ cap) (hm : cap ≤ maxLen) (w : World) (hq : ByIn w.heap.size w (some ⟨q, 0, none⟩) ns) (hp : ByIn w.heap.size w p ns) (hlt : q < w.heap.size)
    (hk : w.cell? ⟨q, ns.length, none⟩ = some (.int .u8 201)) :
    Calls Try.prog 23 #[.slice (some ⟨q, 0, none⟩) ns.length cap, .slice p ns.length d] w fun e w' => e = .returned (.bool true) ∧ Below w.heap.size w w' := by
  have hs := bytes_any (some ⟨q, 0, none⟩) p cap d ns ns (by omega) w hq hp
  rw [decide_eq_true rfl] at hs
  unfold maxLen at hm
  obtain ⟨n, hn⟩ : ∃ n, ns.length = n := ⟨_, rfl⟩
  rw [hn] at hs hl hk ⊢
  clear hq hp hn
  go_enter Try.func23, Try.ntmps23
  go_wp2_with fail
  refine hs.mono ?_
  rintro e w1 ⟨rfl, hb⟩
  have hc := (hb.cell (p := ⟨q, n, none⟩) hlt).trans hk
  clear hs hk
  go_wp2_with fail
  go_ret
  exact ⟨rfl, hb⟩

theorem nil_nil (w : World) : (binOp .eql 35 (.slice none 0 0) (.slice none 0 0)).run Try.prog w = .ok (.bool true) w := by kernel_rfl
theorem nil_not (ad : Addr) (n c : Nat) (w : World) : (binOp .eql 35 (.slice (some ad) n c) (.slice none 0 0)).run Try.prog w = .ok (.bool false) w := by kernel_rfl

set_option maxRecDepth 100000 in
set_option maxHeartbeats 1000000 in
/-- slices.Clone of bytes. -/
theorem clone_any (p : Option Addr) (c : Nat) (ns : List Nat) (hp : (p = none ∧ ns = [] ∧ c = 0) ∨ ∃ ad, p = some ad) (hb : ns.length ≤ 140737488355328) (w : World) (hs : ByIn w.heap.size w p ns) :
    Calls Try.prog 50 #[.slice p ns.length c] w fun e w' => ∃ v, e = .returned v ∧ OwnB w.heap.size w' v ns ∧ Below w.heap.size w w' := by
  obtain ⟨i2, h2, h3, h4, h5⟩ := info5
  rcases hp with ⟨rfl, rfl, rfl⟩ | ⟨ad, rfl⟩
  · have hq := nil_nil w
    go_enter Try.func50, Try.ntmps50
    go_wp2
    go_ret
    exact ⟨_, rfl, World.ownsRow_nil _ _ _ _, Below.refl _ _⟩
  · have hq := nil_not ad ns.length c w
    have hcl := by_cells hs
    have hon := bv_one ns
    have hll : (bv ns).length = ns.length * 1 := by simp [bv]
    go_enter Try.func50, Try.ntmps50
    have hR0 := World.ownsRow_lit (base := w.heap.size) (e := 5) (size := 1) w #[] 0 (Nat.le_refl _) (by unfold maxLen; omega) rfl
    have hB0 : Below w.heap.size w (w.alloc (.cells #[] 5)) := (Below.refl _ w).alloc (Nat.le_refl _) _
    have hcl' : ∀ (j : Nat) (u : Value), (bv ns)[j]? = some u → (w.alloc (.cells #[] 5)).cell? (ad.add j) = some u := by
      intro j u h
      have hc := hcl j u h
      exact (hB0.cell (World.block_lt_of_cell? _ _ hc)).trans hc
    clear hcl hs
    go_wp2_with (at_builtin; refine wpList_append_own _ rfl _ _ 35 rfl w.heap.size 5 i2 (.int .u8 0) 1 1 Try.underlying35 h2 h3 h4 h5 rfl (by omega) _ 0 [] rfl hR0 ad ns.length c (bv ns) rfl hll hcl' hon (by unfold maxLen; omega) (by omega) (by simp) ?_)
    intro v2 w2 hR2 hg2 _
    obtain ⟨g, cap, rfl⟩ := row_slice hR2
    have hB2 : Below w.heap.size w w2 := hB0.trans (below_own hg2 (by simp) (fun j hj => (hR0.lt j hj).1))
    clear hg2 hR0 hB0
    have HR := Lib.hid hR2
    clear hR2
    go_wp2
    go_ret
    exact ⟨_, rfl, by simpa [OwnB] using HR.out, hB2⟩

theorem bytesOf_eq {xs ys : List Nat} (hx : bytesL xs) (hy : bytesL ys) : (Lib.bytesOf (xs.map Int.ofNat) == Lib.bytesOf (ys.map Int.ofNat)) = decide (xs = ys) := by
  rw [Bool.eq_iff_iff, beq_iff_eq, decide_eq_true_iff]
  constructor
  · intro h
    have h2 := congrArg (List.map UInt8.toNat) h
    have key : ∀ l : List Nat, bytesL l → (Lib.bytesOf (l.map Int.ofNat)).map UInt8.toNat = l := by
      intro l hl
      unfold Lib.bytesOf
      rw [List.map_map, List.map_map]
      conv => rhs; rw [← List.map_id l]
      apply List.map_congr_left
      intro x hxl
      have := hl x hxl
      simp
      omega
    rwa [key xs hx, key ys hy] at h2
  · rintro rfl; rfl

theorem conv_none (w : World) (p : Option Addr) (c : Nat) : (convert 35 9 (.slice p 0 c)).run Try.prog w = .ok (.string (strOfNums [])) w := by
  rw [run_convert_bytes_string w 35 9 5 _ 0 c Try.underlying35 Try.underlying5 Try.underlying9]
  cases p <;> simp [Conv.bytesToString, loadCells]
  all_goals rfl

theorem conv_run (w : World) (p : Option Addr) (c : Nat) (xs : List Nat) (B : Nat) (hp : ByIn B w p xs) : (convert 35 9 (.slice p xs.length c)).run Try.prog w = .ok (.string (strOfNums (xs.map Int.ofNat))) w := by
  cases xs with
  | nil => exact conv_none w p c
  | cons x l =>
    obtain ⟨b, off, rfl, _, _⟩ := hp 0 (by simp)
    refine run_convert_bytes_arg w 35 5 Try.underlying35 Try.underlying5 b off _ c _ (by simp) (fun i hi => ?_) 9 Try.underlying9
    obtain ⟨b', off', he, _, hc⟩ := hp i hi
    cases he
    rw [hc, List.getD_eq_getElem?_getD, List.getD_eq_getElem?_getD, List.getElem?_map, List.getElem?_eq_getElem hi]
    rfl

set_option maxRecDepth 100000 in
set_option maxHeartbeats 1000000 in
theorem equal_any (p q : Option Addr) (c d : Nat) (xs ys : List Nat) (hx : bytesL xs) (hy : bytesL ys) (B : Nat) (w : World) (hp : ByIn B w p xs) (hq : ByIn B w q ys) :
    Calls Try.prog 71 #[.slice p xs.length c, .slice q ys.length d] w fun e w' => e = .returned (.bool (decide (xs = ys))) ∧ w' = w := by
  have h1 := conv_run w p c xs B hp
  have h2 := conv_run w q d ys B hq
  rw [← bytesOf_eq hx hy, ← Lib.strOfNums_toList, ← Lib.strOfNums_toList]
  clear hx hy hp hq
  generalize xs.map Int.ofNat = X at h1 h2 ⊢
  generalize ys.map Int.ofNat = Y at h1 h2 ⊢
  generalize xs.length = n at h1 h2 ⊢
  generalize ys.length = m at h1 h2 ⊢
  go_enter Try.func71, Try.ntmps71
  go_wp2
  go_ret
  exact ⟨rfl, rfl⟩
end Go.Proofs.Ytahnhohccbnhjaa
