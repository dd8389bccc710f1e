/- LentStrings, Strings and KeptStrings of the statements' kit, in every memory. -/
import Derived.Test.YthmcckdoneiglaaDoorRefT
import Derived.Laws.AppendOwnNone
namespace Go.Proofs.YthmcckdoneiglaaDoor
open Go Go.RowKit

theorem info9 : ∃ i, Tryd.prog.info? 9 = some i ∧ i.zero = some (.string ByteArray.empty) ∧ i.size = 1 ∧ i.bytes = 16 := by
  have h : (Tryd.prog.info? 9).map (fun i => (i.zero, i.size, i.bytes)) = some (some (.string ByteArray.empty), 1, 16) := by kernel_rfl
  cases hi : Tryd.prog.info? 9 with
  | none => rw [hi] at h; cases h
  | some i =>
    rw [hi] at h
    simp only [Option.map_some, Option.some.injEq, Prod.mk.injEq] at h
    obtain ⟨e1, e2, e3⟩ := h
    exact ⟨i, rfl, e1, e2, e3⟩

def strVals (l : List ByteArray) : List Value := l.map fun s => Value.string s
abbrev markS : ByteArray := ⟨#[109, 97, 114, 107]⟩

theorem row_cap {W : World} {b : Nat} {e : TypeId} {size : Nat} {g n cap : Nat} {xs : List Value} (h : W.ownsRow b e size (.slice (some ⟨g, 0, none⟩) n cap) n xs) : n ≤ cap ∧ cap ≤ maxLen := by
  rcases h.2 with ⟨h0, _⟩ | ⟨g', cap', cur, h0, _, _, h1, h2, _⟩
  · simp at h0
  · simp only [Value.slice.injEq, true_and] at h0
    obtain ⟨_, rfl⟩ := h0
    exact ⟨h1, h2⟩

theorem row_form {W : World} {b : Nat} {e : TypeId} {size : Nat} {v : Value} {n : Nat} {xs : List Value} (h : W.ownsRow b e size v n xs) (hn : 0 < n) : ∃ g cap, v = .slice (some ⟨g, 0, none⟩) n cap ∧ b ≤ g := by
  rcases h.2 with ⟨_, h0⟩ | ⟨g, cap, cur, h0, hb, _⟩
  · omega
  · exact ⟨g, cap, h0, hb⟩

theorem str_cells {w : World} {B : Nat} {ad : Addr} {ns : List ByteArray} (hs : StrIn B w (some ad) ns) : ∀ (j : Nat) (u : Value), (strVals ns)[j]? = some u → w.cell? (ad.add j) = some u := by
  intro j u h
  have hj : j < ns.length := by
    have := (List.getElem?_eq_some_iff.1 h).1
    simpa [strVals] using this
  obtain ⟨b, off, he, _, hc⟩ := hs j hj
  obtain rfl := Option.some.inj he
  rw [show (⟨b, off, none⟩ : Addr).add j = ⟨b, off + j, none⟩ from by unfold Addr.add; split <;> simp_all, hc, ← h]
  simp [strVals, List.getD_eq_getElem?_getD, hj]

theorem str_one (l : List ByteArray) : ∀ u ∈ strVals l, u.oneCell' = true := by
  intro u h
  obtain ⟨s, _, rfl⟩ := List.mem_map.1 h
  rfl

theorem mark_cells (W : World) : ∀ (j : Nat) (u : Value), (strVals [markS])[j]? = some u → (W.alloc (.cells #[.string markS] 9)).cell? ((⟨W.heap.size, 0, none⟩ : Addr).add j) = some u := by
  intro j u h
  cases j with
  | zero =>
    obtain rfl : Value.string markS = u := by simpa [strVals] using h
    exact (cell_new_l W _ 9).1
  | succ j => simp [strVals] at h

set_option maxRecDepth 100000 in
set_option maxHeartbeats 2000000 in
theorem lent_any (p : Option Addr) (c : Nat) (ns : List ByteArray) (hp : (p = none ∧ ns = [] ∧ c = 0) ∨ ∃ ad, p = some ad) (hb : (ns.length + 1) * 16 ≤ 140737488355328) (w : World) (hs : StrIn w.heap.size w p ns) :
    Calls Tryd.prog 12 #[.slice p ns.length c] w fun e w' => ∃ q cap, e = .returned (.slice (some ⟨q, 0, none⟩) ns.length cap) ∧ w.heap.size ≤ q ∧ ns.length + 1 ≤ cap ∧ w'.ownsRow w.heap.size 9 1 (.slice (some ⟨q, 0, none⟩) (ns.length + 1) cap) (ns.length + 1) (strVals (ns ++ [markS])) ∧ Below w.heap.size w w' := by
  obtain ⟨i9, h2, h3, h4, h5⟩ := info9
  have hnil := World.ownsRow_nil w w.heap.size 9 1
  rcases hp with ⟨rfl, rfl, rfl⟩ | ⟨ad, rfl⟩
  · have hR1 := hnil.alloc (.cells #[.string markS] 9)
    go_enter Tryd.func12, Tryd.ntmps12
    go_wp2_with (first | (at_builtin; refine wpList_append_own_none rfl _ _ 32 rfl w.heap.size 9 i9 1 Tryd.underlying32 h2 _ 0 [] rfl hnil rfl ?_) | (at_builtin; refine wpList_append_own _ rfl _ _ 32 rfl w.heap.size 9 i9 (.string ByteArray.empty) 1 16 Tryd.underlying32 h2 h3 h4 h5 rfl (by omega) _ 0 [] rfl hR1 ⟨_, 0, none⟩ 1 1 (strVals [markS]) rfl (by simp [strVals]) (mark_cells _) (str_one _) (by unfold maxLen; omega) (by omega) (by simp <;> omega) ?_))
    intro v2 w2 hR2 hg2 _
    obtain ⟨g, cap, rfl, hbg⟩ := row_form hR2 (by omega)
    have hcap := row_cap hR2
    have hB2 : Below w.heap.size w w2 := ((Below.refl _ w).alloc (Nat.le_refl _) _).trans (below_own hg2 (by simp) (fun j hj => (hR1.lt j hj).1))
    clear hg2 hR1 hnil
    have HR := Lib.hid hR2
    clear hR2
    go_wp2
    go_ret
    exact ⟨g, cap, rfl, hbg, by omega, by simpa [strVals] using HR.out, hB2⟩
  · have hcl := str_cells hs
    have hon := str_one ns
    have hll : (strVals ns).length = ns.length * 1 := by simp [strVals]
    go_enter Tryd.func12, Tryd.ntmps12
    go_wp2_with (at_builtin; refine wpList_append_own _ rfl _ _ 32 rfl w.heap.size 9 i9 (.string ByteArray.empty) 1 16 Tryd.underlying32 h2 h3 h4 h5 rfl (by omega) _ 0 [] rfl hnil ad ns.length c (strVals ns) rfl hll hcl hon (by unfold maxLen; omega) (by omega) (Nat.le_refl _) ?_)
    intro v1 w1 hR1 hg1 _
    obtain ⟨q1, c1, rfl⟩ := row_slice hR1
    have hB1 : Below w.heap.size w w1 := below_own hg1 (Nat.le_refl _) (fun j hj => by cases hj)
    have hw1 := hB1.size
    have hR1' := hR1.alloc (.cells #[.string markS] 9)
    clear hg1 hnil hcl hon hll hs hR1
    go_wp2_with (at_builtin; refine wpList_append_own _ rfl _ _ 32 rfl w.heap.size 9 i9 (.string ByteArray.empty) 1 16 Tryd.underlying32 h2 h3 h4 h5 rfl (by omega) _ ns.length (strVals ns) rfl hR1' ⟨_, 0, none⟩ 1 1 (strVals [markS]) rfl (by simp [strVals]) (mark_cells _) (str_one _) (by unfold maxLen; omega) (by omega) (by simp <;> omega) ?_)
    intro v2 w2 hR2 hg2 _
    obtain ⟨g, cap, rfl, hbg⟩ := row_form hR2 (by omega)
    have hcap := row_cap hR2
    have hB2 : Below w.heap.size w w2 := hB1.trans (((Below.refl _ w1).alloc hw1 _).trans (below_own hg2 (by simp; omega) (fun j hj => (hR1'.lt j hj).1)))
    clear hg2 hR1' hB1
    have HR := Lib.hid hR2
    clear hR2
    go_wp2
    go_ret
    exact ⟨g, cap, rfl, hbg, by omega, by simpa [strVals] using HR.out, hB2⟩

set_option maxRecDepth 100000 in
set_option maxHeartbeats 1000000 in
theorem strings_same (p q : Option Addr) (c d : Nat) (xs : List ByteArray) (hl : xs.length ≤ maxLen) (w : World) (hp : StrIn w.heap.size w p xs) (hq : StrIn w.heap.size w q xs) :
    Calls Tryd.prog 45 #[.slice p xs.length c, .slice q xs.length d] w fun e w' => e = .returned (.bool true) ∧ Below w.heap.size w w' := by
  unfold maxLen at hl
  obtain ⟨n, hn⟩ : ∃ n, xs.length = n := ⟨_, rfl⟩
  have hn' : ((n : Int) != (n : Int)) = false := by simp
  rw [hn] at hl ⊢
  have HN := Lib.hid hn
  clear hn
  go_enter Tryd.func45, Tryd.ntmps45
  go_wp2
  go_loopw [5] (fun i wr => ∃ k : Nat, k ≤ n ∧ i = .int .i64 k ∧ Below w.heap.size w wr) (fun i _ => n - (intOf i).toNat)
  case atStart => exact ⟨0, Nat.zero_le _, rfl, Below.refl _ _⟩
  case round =>
    obtain ⟨k, hk, rfl, hB⟩ := hrel
    by_cases hlt : k < n
    · obtain ⟨b, off, rfl, hb, hc⟩ := hp k (by rw [HN.out]; exact hlt)
      obtain ⟨b2, off2, rfl, hb2, hc2⟩ := hq k (by rw [HN.out]; exact hlt)
      have h1 := (hB.cell (p := ⟨b, off + k, none⟩) hb).trans hc
      have h2 := (hB.cell (p := ⟨b2, off2 + k, none⟩) hb2).trans hc2
      clear hc hc2 hp hq
      generalize xs.getD k ByteArray.empty = y at h1 h2
      have hki : (k : Int) < (n : Int) := by omega
      go_wp2
      go_region
      go_wp2
      exact ⟨⟨k + 1, by omega, by go_num, hB.drew⟩, by simp [intOf]; omega⟩
    · go_wp2
      go_ret
      exact ⟨rfl, hB⟩

set_option maxRecDepth 100000 in
set_option maxHeartbeats 1000000 in
theorem kept_any (q : Nat) (p : Option Addr) (cap d : Nat) (ns : List ByteArray) (hl : ns.length + 1 ≤ cap) (hm : cap ≤ maxLen) (w : World) (hq : StrIn w.heap.size w (some ⟨q, 0, none⟩) ns) (hp : StrIn w.heap.size w p ns) (hlt : q < w.heap.size)
    (hk : w.cell? ⟨q, ns.length, none⟩ = some (.string markS)) :
    Calls Tryd.prog 17 #[.slice (some ⟨q, 0, none⟩) ns.length cap, .slice p ns.length d] w fun e w' => e = .returned (.bool true) ∧ Below w.heap.size w w' := by
  have hs := strings_same (some ⟨q, 0, none⟩) p cap d ns (by omega) w hq hp
  unfold maxLen at hm
  obtain ⟨n, hn⟩ : ∃ n, ns.length = n := ⟨_, rfl⟩
  rw [hn] at hs hl hk ⊢
  clear hq hp hn
  go_enter Tryd.func17, Tryd.ntmps17
  go_wp2_with fail
  refine hs.mono ?_
  rintro e w1 ⟨rfl, hb⟩
  have hc := (hb.cell (p := ⟨q, n, none⟩) hlt).trans hk
  clear hs hk
  go_wp2_with fail
  go_ret
  exact ⟨rfl, hb⟩
end Go.Proofs.YthmcckdoneiglaaDoor
