/- Lists of labels and of whole numbers: what the statements' kit lends out of them and looks at afterwards, in every memory. -/
import Derived.Test.YthmcckdoneiglaaGreatDoorSetJ
import Derived.OwnWalk
import Derived.Laws.AppendOwn
import Derived.Laws.AppendOwnNone
namespace Go.Proofs.YthmcckdoneiglaaGreatDoor
open Go Go.RowKit

theorem row_cap {W : World} {b : Nat} {e : TypeId} {size : Nat} {g n cap : Nat} {xs : List Value} (h : W.ownsRow b e size (.slice (some ⟨g, 0, none⟩) n cap) n xs) : n ≤ cap ∧ cap ≤ maxLen := by
  rcases h.2 with ⟨h0, _⟩ | ⟨g', cap', cur, h0, _, _, h1, h2, _⟩
  · simp at h0
  · simp only [Value.slice.injEq, true_and] at h0
    obtain ⟨_, rfl⟩ := h0
    exact ⟨h1, h2⟩

theorem row_form {W : World} {b : Nat} {e : TypeId} {size : Nat} {v : Value} {n : Nat} {xs : List Value} (h : W.ownsRow b e size v n xs) (hn : 0 < n) : ∃ g cap, v = .slice (some ⟨g, 0, none⟩) n cap ∧ b ≤ g := by
  rcases h.2 with ⟨_, h0⟩ | ⟨g, cap, cur, h0, hb, _⟩
  · omega
  · exact ⟨g, cap, h0, hb⟩

/-- A list of whole numbers lies below block B. -/
def NumInL (B : Nat) (w : World) (p : Option Addr) (ns : List Int) : Prop :=
  ∀ i, i < ns.length → ∃ b off, p = some ⟨b, off, none⟩ ∧ b < B ∧ w.cell? ⟨b, off + i, none⟩ = some (.int .u64 (ns.getD i 0))

theorem NumInL.below {B B' n : Nat} {w w' : World} {p : Option Addr} {ns : List Int} (h : NumInL B w p ns) (hb : Below n w w') (hn : B ≤ n) (hB : B ≤ B') : NumInL B' w' p ns := by
  intro i hi
  obtain ⟨b, off, hp, hlt, hc⟩ := h i hi
  exact ⟨b, off, hp, by omega, (hb.cell (p := ⟨b, off + i, none⟩) (by simp; omega)).trans hc⟩

theorem infoEL : ∃ i, Tryz.prog.info? 27 = some i ∧ i.zero = some (.int .u64 0) ∧ i.size = 1 ∧ i.bytes = 8 := by
  have h : (Tryz.prog.info? 27).map (fun i => (i.zero, i.size, i.bytes)) = some (some (.int .u64 0), 1, 8) := by kernel_rfl
  cases hi : Tryz.prog.info? 27 with
  | none => rw [hi] at h; cases h
  | some i =>
    rw [hi] at h
    simp only [Option.map_some, Option.some.injEq, Prod.mk.injEq] at h
    obtain ⟨e1, e2, e3⟩ := h
    exact ⟨i, rfl, e1, e2, e3⟩

def valsL (l : List Int) : List Value := l.map fun s => Value.int .u64 s
abbrev markL : Int := 7171

theorem num_cellsL {w : World} {B : Nat} {ad : Addr} {ns : List Int} (hs : NumInL B w (some ad) ns) : ∀ (j : Nat) (u : Value), (valsL ns)[j]? = some u → w.cell? (ad.add j) = some u := by
  intro j u h
  have hj : j < ns.length := by
    have := (List.getElem?_eq_some_iff.1 h).1
    simpa [valsL] using this
  obtain ⟨b, off, he, _, hc⟩ := hs j hj
  obtain rfl := Option.some.inj he
  rw [show (⟨b, off, none⟩ : Addr).add j = ⟨b, off + j, none⟩ from by unfold Addr.add; split <;> simp_all, hc, ← h]
  simp [valsL, List.getD_eq_getElem?_getD, hj]

theorem num_oneL (l : List Int) : ∀ u ∈ valsL l, u.oneCell' = true := by
  intro u h
  obtain ⟨s, _, rfl⟩ := List.mem_map.1 h
  rfl

theorem mark_cellsL (W : World) : ∀ (j : Nat) (u : Value), (valsL [markL])[j]? = some u → (W.alloc (.cells #[.int .u64 markL] 27)).cell? ((⟨W.heap.size, 0, none⟩ : Addr).add j) = some u := by
  intro j u h
  cases j with
  | zero =>
    obtain rfl : Value.int .u64 markL = u := by simpa [valsL] using h
    exact (cell_new_l W _ 27).1
  | succ j => simp [valsL] at h

set_option maxRecDepth 100000 in
set_option maxHeartbeats 2000000 in
theorem lent_anyL (p : Option Addr) (c : Nat) (ns : List Int) (hp : (p = none ∧ ns = [] ∧ c = 0) ∨ ∃ ad, p = some ad) (hb : (ns.length + 1) * 8 ≤ 140737488355328) (w : World) (hs : NumInL w.heap.size w p ns) :
    Calls Tryz.prog 4 #[.slice p ns.length c] w fun e w' => ∃ q cap, e = .returned (.slice (some ⟨q, 0, none⟩) ns.length cap) ∧ w.heap.size ≤ q ∧ ns.length + 1 ≤ cap ∧ w'.ownsRow w.heap.size 27 1 (.slice (some ⟨q, 0, none⟩) (ns.length + 1) cap) (ns.length + 1) (valsL (ns ++ [markL])) ∧ Below w.heap.size w w' := by
  obtain ⟨i2, h2, h3, h4, h5⟩ := infoEL
  have hnil := World.ownsRow_nil w w.heap.size 27 1
  rcases hp with ⟨rfl, rfl, rfl⟩ | ⟨ad, rfl⟩
  · have hR1 := hnil.alloc (.cells #[.int .u64 markL] 27)
    go_enter Tryz.func4, Tryz.ntmps4
    go_wp2_with (first | (at_builtin; refine wpList_append_own_none rfl _ _ 22 rfl w.heap.size 27 i2 1 Tryz.underlying22 h2 _ 0 [] rfl hnil rfl ?_) | (at_builtin; refine wpList_append_own _ rfl _ _ 22 rfl w.heap.size 27 i2 (.int .u64 0) 1 8 Tryz.underlying22 h2 h3 h4 h5 rfl (by omega) _ 0 [] rfl hR1 ⟨_, 0, none⟩ 1 1 (valsL [markL]) rfl (by simp [valsL]) (mark_cellsL _) (num_oneL _) (by unfold maxLen; omega) (by omega) (by simp <;> omega) ?_))
    intro v2 w2 hR2 hg2 _
    obtain ⟨g, cap, rfl, hbg⟩ := row_form hR2 (by omega)
    have hcap := row_cap hR2
    have hB2 : Below w.heap.size w w2 := ((Below.refl _ w).alloc (Nat.le_refl _) _).trans (below_own hg2 (by simp) (fun j hj => (hR1.lt j hj).1))
    clear hg2 hR1 hnil
    have HR := Lib.hid hR2
    clear hR2
    go_wp2
    go_ret
    exact ⟨g, cap, rfl, hbg, by omega, by simpa [valsL] using HR.out, hB2⟩
  · have hcl := num_cellsL hs
    have hon := num_oneL ns
    have hll : (valsL ns).length = ns.length * 1 := by simp [valsL]
    go_enter Tryz.func4, Tryz.ntmps4
    go_wp2_with (at_builtin; refine wpList_append_own _ rfl _ _ 22 rfl w.heap.size 27 i2 (.int .u64 0) 1 8 Tryz.underlying22 h2 h3 h4 h5 rfl (by omega) _ 0 [] rfl hnil ad ns.length c (valsL ns) rfl hll hcl hon (by unfold maxLen; omega) (by omega) (Nat.le_refl _) ?_)
    intro v1 w1 hR1 hg1 _
    obtain ⟨q1, c1, rfl⟩ := row_slice hR1
    have hB1 : Below w.heap.size w w1 := below_own hg1 (Nat.le_refl _) (fun j hj => by cases hj)
    have hw1 := hB1.size
    have hR1' := hR1.alloc (.cells #[.int .u64 markL] 27)
    clear hg1 hnil hcl hon hll hs hR1
    go_wp2_with (at_builtin; refine wpList_append_own _ rfl _ _ 22 rfl w.heap.size 27 i2 (.int .u64 0) 1 8 Tryz.underlying22 h2 h3 h4 h5 rfl (by omega) _ ns.length (valsL ns) rfl hR1' ⟨_, 0, none⟩ 1 1 (valsL [markL]) rfl (by simp [valsL]) (mark_cellsL _) (num_oneL _) (by unfold maxLen; omega) (by omega) (by simp <;> omega) ?_)
    intro v2 w2 hR2 hg2 _
    obtain ⟨g, cap, rfl, hbg⟩ := row_form hR2 (by omega)
    have hcap := row_cap hR2
    have hB2 : Below w.heap.size w w2 := hB1.trans (((Below.refl _ w1).alloc hw1 _).trans (below_own hg2 (by simp; omega) (fun j hj => (hR1'.lt j hj).1)))
    clear hg2 hR1' hB1
    have HR := Lib.hid hR2
    clear hR2
    go_wp2
    go_ret
    exact ⟨g, cap, rfl, hbg, by omega, by simpa [valsL] using HR.out, hB2⟩

set_option maxRecDepth 100000 in
set_option maxHeartbeats 1000000 in
theorem nums_sameL (p q : Option Addr) (c d : Nat) (xs : List Int) (hl : xs.length ≤ maxLen) (w : World) (hp : NumInL w.heap.size w p xs) (hq : NumInL w.heap.size w q xs) :
    Calls Tryz.prog 25 #[.slice p xs.length c, .slice q xs.length d] w fun e w' => e = .returned (.bool true) ∧ Below w.heap.size w w' := by
  unfold maxLen at hl
  obtain ⟨n, hn⟩ : ∃ n, xs.length = n := ⟨_, rfl⟩
  have hn' : ((n : Int) != (n : Int)) = false := by simp
  rw [hn] at hl ⊢
  have HN := Lib.hid hn
  clear hn
  go_enter Tryz.func25, Tryz.ntmps25
  go_wp2
  go_loopw [5] (fun i wr => ∃ k : Nat, k ≤ n ∧ i = .int .i64 k ∧ Below w.heap.size w wr) (fun i _ => n - (intOf i).toNat)
  case atStart => exact ⟨0, Nat.zero_le _, rfl, Below.refl _ _⟩
  case round =>
    obtain ⟨k, hk, rfl, hB⟩ := hrel
    by_cases hlt : k < n
    · obtain ⟨b, off, rfl, hb, hc⟩ := hp k (by rw [HN.out]; exact hlt)
      obtain ⟨b2, off2, rfl, hb2, hc2⟩ := hq k (by rw [HN.out]; exact hlt)
      have h1 := (hB.cell (p := ⟨b, off + k, none⟩) hb).trans hc
      have h2 := (hB.cell (p := ⟨b2, off2 + k, none⟩) hb2).trans hc2
      clear hc hc2 hp hq
      generalize xs.getD k 0 = y at h1 h2
      have hki : (k : Int) < (n : Int) := by omega
      go_wp2
      go_region
      go_wp2
      exact ⟨⟨k + 1, by omega, by go_num, hB.drew⟩, by simp [intOf]; omega⟩
    · go_wp2
      go_ret
      exact ⟨rfl, hB⟩

set_option maxRecDepth 100000 in
set_option maxHeartbeats 1000000 in
theorem kept_anyL (q : Nat) (p : Option Addr) (cap d : Nat) (ns : List Int) (hl : ns.length + 1 ≤ cap) (hm : cap ≤ maxLen) (w : World) (hq : NumInL w.heap.size w (some ⟨q, 0, none⟩) ns) (hp : NumInL w.heap.size w p ns) (hlt : q < w.heap.size)
    (hk : w.cell? ⟨q, ns.length, none⟩ = some (.int .u64 markL)) :
    Calls Tryz.prog 10 #[.slice (some ⟨q, 0, none⟩) ns.length cap, .slice p ns.length d] w fun e w' => e = .returned (.bool true) ∧ Below w.heap.size w w' := by
  have hs := nums_sameL (some ⟨q, 0, none⟩) p cap d ns (by omega) w hq hp
  unfold maxLen at hm
  obtain ⟨n, hn⟩ : ∃ n, ns.length = n := ⟨_, rfl⟩
  rw [hn] at hs hl hk ⊢
  clear hq hp hn
  go_enter Tryz.func10, Tryz.ntmps10
  go_wp2_with fail
  refine hs.mono ?_
  rintro e w1 ⟨rfl, hb⟩
  have hc := (hb.cell (p := ⟨q, n, none⟩) hlt).trans hk
  clear hs hk
  go_wp2_with fail
  go_ret
  exact ⟨rfl, hb⟩
/-- A list of whole numbers lies below block B. -/
def NumInN (B : Nat) (w : World) (p : Option Addr) (ns : List Int) : Prop :=
  ∀ i, i < ns.length → ∃ b off, p = some ⟨b, off, none⟩ ∧ b < B ∧ w.cell? ⟨b, off + i, none⟩ = some (.int .i64 (ns.getD i 0))

theorem NumInN.below {B B' n : Nat} {w w' : World} {p : Option Addr} {ns : List Int} (h : NumInN B w p ns) (hb : Below n w w') (hn : B ≤ n) (hB : B ≤ B') : NumInN B' w' p ns := by
  intro i hi
  obtain ⟨b, off, hp, hlt, hc⟩ := h i hi
  exact ⟨b, off, hp, by omega, (hb.cell (p := ⟨b, off + i, none⟩) (by simp; omega)).trans hc⟩

theorem infoEN : ∃ i, Tryz.prog.info? 3 = some i ∧ i.zero = some (.int .i64 0) ∧ i.size = 1 ∧ i.bytes = 8 := by
  have h : (Tryz.prog.info? 3).map (fun i => (i.zero, i.size, i.bytes)) = some (some (.int .i64 0), 1, 8) := by kernel_rfl
  cases hi : Tryz.prog.info? 3 with
  | none => rw [hi] at h; cases h
  | some i =>
    rw [hi] at h
    simp only [Option.map_some, Option.some.injEq, Prod.mk.injEq] at h
    obtain ⟨e1, e2, e3⟩ := h
    exact ⟨i, rfl, e1, e2, e3⟩

def valsN (l : List Int) : List Value := l.map fun s => Value.int .i64 s
abbrev markN : Int := -7171

theorem num_cellsN {w : World} {B : Nat} {ad : Addr} {ns : List Int} (hs : NumInN B w (some ad) ns) : ∀ (j : Nat) (u : Value), (valsN ns)[j]? = some u → w.cell? (ad.add j) = some u := by
  intro j u h
  have hj : j < ns.length := by
    have := (List.getElem?_eq_some_iff.1 h).1
    simpa [valsN] using this
  obtain ⟨b, off, he, _, hc⟩ := hs j hj
  obtain rfl := Option.some.inj he
  rw [show (⟨b, off, none⟩ : Addr).add j = ⟨b, off + j, none⟩ from by unfold Addr.add; split <;> simp_all, hc, ← h]
  simp [valsN, List.getD_eq_getElem?_getD, hj]

theorem num_oneN (l : List Int) : ∀ u ∈ valsN l, u.oneCell' = true := by
  intro u h
  obtain ⟨s, _, rfl⟩ := List.mem_map.1 h
  rfl

theorem mark_cellsN (W : World) : ∀ (j : Nat) (u : Value), (valsN [markN])[j]? = some u → (W.alloc (.cells #[.int .i64 markN] 3)).cell? ((⟨W.heap.size, 0, none⟩ : Addr).add j) = some u := by
  intro j u h
  cases j with
  | zero =>
    obtain rfl : Value.int .i64 markN = u := by simpa [valsN] using h
    exact (cell_new_l W _ 3).1
  | succ j => simp [valsN] at h

set_option maxRecDepth 100000 in
set_option maxHeartbeats 2000000 in
theorem lent_anyN (p : Option Addr) (c : Nat) (ns : List Int) (hp : (p = none ∧ ns = [] ∧ c = 0) ∨ ∃ ad, p = some ad) (hb : (ns.length + 1) * 8 ≤ 140737488355328) (w : World) (hs : NumInN w.heap.size w p ns) :
    Calls Tryz.prog 5 #[.slice p ns.length c] w fun e w' => ∃ q cap, e = .returned (.slice (some ⟨q, 0, none⟩) ns.length cap) ∧ w.heap.size ≤ q ∧ ns.length + 1 ≤ cap ∧ w'.ownsRow w.heap.size 3 1 (.slice (some ⟨q, 0, none⟩) (ns.length + 1) cap) (ns.length + 1) (valsN (ns ++ [markN])) ∧ Below w.heap.size w w' := by
  obtain ⟨i2, h2, h3, h4, h5⟩ := infoEN
  have hnil := World.ownsRow_nil w w.heap.size 3 1
  rcases hp with ⟨rfl, rfl, rfl⟩ | ⟨ad, rfl⟩
  · have hR1 := hnil.alloc (.cells #[.int .i64 markN] 3)
    go_enter Tryz.func5, Tryz.ntmps5
    go_wp2_with (first | (at_builtin; refine wpList_append_own_none rfl _ _ 23 rfl w.heap.size 3 i2 1 Tryz.underlying23 h2 _ 0 [] rfl hnil rfl ?_) | (at_builtin; refine wpList_append_own _ rfl _ _ 23 rfl w.heap.size 3 i2 (.int .i64 0) 1 8 Tryz.underlying23 h2 h3 h4 h5 rfl (by omega) _ 0 [] rfl hR1 ⟨_, 0, none⟩ 1 1 (valsN [markN]) rfl (by simp [valsN]) (mark_cellsN _) (num_oneN _) (by unfold maxLen; omega) (by omega) (by simp <;> omega) ?_))
    intro v2 w2 hR2 hg2 _
    obtain ⟨g, cap, rfl, hbg⟩ := row_form hR2 (by omega)
    have hcap := row_cap hR2
    have hB2 : Below w.heap.size w w2 := ((Below.refl _ w).alloc (Nat.le_refl _) _).trans (below_own hg2 (by simp) (fun j hj => (hR1.lt j hj).1))
    clear hg2 hR1 hnil
    have HR := Lib.hid hR2
    clear hR2
    go_wp2
    go_ret
    exact ⟨g, cap, rfl, hbg, by omega, by simpa [valsN] using HR.out, hB2⟩
  · have hcl := num_cellsN hs
    have hon := num_oneN ns
    have hll : (valsN ns).length = ns.length * 1 := by simp [valsN]
    go_enter Tryz.func5, Tryz.ntmps5
    go_wp2_with (at_builtin; refine wpList_append_own _ rfl _ _ 23 rfl w.heap.size 3 i2 (.int .i64 0) 1 8 Tryz.underlying23 h2 h3 h4 h5 rfl (by omega) _ 0 [] rfl hnil ad ns.length c (valsN ns) rfl hll hcl hon (by unfold maxLen; omega) (by omega) (Nat.le_refl _) ?_)
    intro v1 w1 hR1 hg1 _
    obtain ⟨q1, c1, rfl⟩ := row_slice hR1
    have hB1 : Below w.heap.size w w1 := below_own hg1 (Nat.le_refl _) (fun j hj => by cases hj)
    have hw1 := hB1.size
    have hR1' := hR1.alloc (.cells #[.int .i64 markN] 3)
    clear hg1 hnil hcl hon hll hs hR1
    go_wp2_with (at_builtin; refine wpList_append_own _ rfl _ _ 23 rfl w.heap.size 3 i2 (.int .i64 0) 1 8 Tryz.underlying23 h2 h3 h4 h5 rfl (by omega) _ ns.length (valsN ns) rfl hR1' ⟨_, 0, none⟩ 1 1 (valsN [markN]) rfl (by simp [valsN]) (mark_cellsN _) (num_oneN _) (by unfold maxLen; omega) (by omega) (by simp <;> omega) ?_)
    intro v2 w2 hR2 hg2 _
    obtain ⟨g, cap, rfl, hbg⟩ := row_form hR2 (by omega)
    have hcap := row_cap hR2
    have hB2 : Below w.heap.size w w2 := hB1.trans (((Below.refl _ w1).alloc hw1 _).trans (below_own hg2 (by simp; omega) (fun j hj => (hR1'.lt j hj).1)))
    clear hg2 hR1' hB1
    have HR := Lib.hid hR2
    clear hR2
    go_wp2
    go_ret
    exact ⟨g, cap, rfl, hbg, by omega, by simpa [valsN] using HR.out, hB2⟩

set_option maxRecDepth 100000 in
set_option maxHeartbeats 1000000 in
theorem nums_sameN (p q : Option Addr) (c d : Nat) (xs : List Int) (hl : xs.length ≤ maxLen) (w : World) (hp : NumInN w.heap.size w p xs) (hq : NumInN w.heap.size w q xs) :
    Calls Tryz.prog 21 #[.slice p xs.length c, .slice q xs.length d] w fun e w' => e = .returned (.bool true) ∧ Below w.heap.size w w' := by
  unfold maxLen at hl
  obtain ⟨n, hn⟩ : ∃ n, xs.length = n := ⟨_, rfl⟩
  have hn' : ((n : Int) != (n : Int)) = false := by simp
  rw [hn] at hl ⊢
  have HN := Lib.hid hn
  clear hn
  go_enter Tryz.func21, Tryz.ntmps21
  go_wp2
  go_loopw [5] (fun i wr => ∃ k : Nat, k ≤ n ∧ i = .int .i64 k ∧ Below w.heap.size w wr) (fun i _ => n - (intOf i).toNat)
  case atStart => exact ⟨0, Nat.zero_le _, rfl, Below.refl _ _⟩
  case round =>
    obtain ⟨k, hk, rfl, hB⟩ := hrel
    by_cases hlt : k < n
    · obtain ⟨b, off, rfl, hb, hc⟩ := hp k (by rw [HN.out]; exact hlt)
      obtain ⟨b2, off2, rfl, hb2, hc2⟩ := hq k (by rw [HN.out]; exact hlt)
      have h1 := (hB.cell (p := ⟨b, off + k, none⟩) hb).trans hc
      have h2 := (hB.cell (p := ⟨b2, off2 + k, none⟩) hb2).trans hc2
      clear hc hc2 hp hq
      generalize xs.getD k 0 = y at h1 h2
      have hki : (k : Int) < (n : Int) := by omega
      go_wp2
      go_region
      go_wp2
      exact ⟨⟨k + 1, by omega, by go_num, hB.drew⟩, by simp [intOf]; omega⟩
    · go_wp2
      go_ret
      exact ⟨rfl, hB⟩

set_option maxRecDepth 100000 in
set_option maxHeartbeats 1000000 in
theorem kept_anyN (q : Nat) (p : Option Addr) (cap d : Nat) (ns : List Int) (hl : ns.length + 1 ≤ cap) (hm : cap ≤ maxLen) (w : World) (hq : NumInN w.heap.size w (some ⟨q, 0, none⟩) ns) (hp : NumInN w.heap.size w p ns) (hlt : q < w.heap.size)
    (hk : w.cell? ⟨q, ns.length, none⟩ = some (.int .i64 markN)) :
    Calls Tryz.prog 11 #[.slice (some ⟨q, 0, none⟩) ns.length cap, .slice p ns.length d] w fun e w' => e = .returned (.bool true) ∧ Below w.heap.size w w' := by
  have hs := nums_sameN (some ⟨q, 0, none⟩) p cap d ns (by omega) w hq hp
  unfold maxLen at hm
  obtain ⟨n, hn⟩ : ∃ n, ns.length = n := ⟨_, rfl⟩
  rw [hn] at hs hl hk ⊢
  clear hq hp hn
  go_enter Tryz.func11, Tryz.ntmps11
  go_wp2_with fail
  refine hs.mono ?_
  rintro e w1 ⟨rfl, hb⟩
  have hc := (hb.cell (p := ⟨q, n, none⟩) hlt).trans hk
  clear hs hk
  go_wp2_with fail
  go_ret
  exact ⟨rfl, hb⟩
end Go.Proofs.YthmcckdoneiglaaGreatDoor
