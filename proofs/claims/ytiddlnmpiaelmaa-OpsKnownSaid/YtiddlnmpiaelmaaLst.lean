/- Lists of whole numbers: LentInt64s, Int64s and KeptInt64s of the statements' kit, in every memory. -/
import Derived.Test.YtiddlnmpiaelmaaLawW
import Derived.OwnWalk
import Derived.Laws.AppendOwn
import Derived.Laws.AppendOwnNone
import Derived.Below
import Derived.Lib.Hide
namespace Go.Proofs.Ytiddlnmpiaelmaa
open Go Go.RowKit

/-- A list of whole numbers lies below block B. -/
def IntIn (B : Nat) (w : World) (p : Option Addr) (ns : List Int) : Prop :=
  ∀ i, i < ns.length → ∃ b off, p = some ⟨b, off, none⟩ ∧ b < B ∧ w.cell? ⟨b, off + i, none⟩ = some (.int .i64 (ns.getD i 0))

theorem IntIn.below {B B' n : Nat} {w w' : World} {p : Option Addr} {ns : List Int} (h : IntIn B w p ns) (hb : Below n w w') (hn : B ≤ n) (hB : B ≤ B') : IntIn B' w' p ns := by
  intro i hi
  obtain ⟨b, off, hp, hlt, hc⟩ := h i hi
  exact ⟨b, off, hp, by omega, (hb.cell (p := ⟨b, off + i, none⟩) (by simp; omega)).trans hc⟩

theorem info2 : ∃ i, Try.prog.info? 2 = some i ∧ i.zero = some (.int .i64 0) ∧ i.size = 1 ∧ i.bytes = 8 := by
  have h : (Try.prog.info? 2).map (fun i => (i.zero, i.size, i.bytes)) = some (some (.int .i64 0), 1, 8) := by kernel_rfl
  cases hi : Try.prog.info? 2 with
  | none => rw [hi] at h; cases h
  | some i =>
    rw [hi] at h
    simp only [Option.map_some, Option.some.injEq, Prod.mk.injEq] at h
    obtain ⟨e1, e2, e3⟩ := h
    exact ⟨i, rfl, e1, e2, e3⟩

theorem below_own {n : Nat} {A B : World} {r : Option Nat} (hg : A.grownBy B r) (hn : n ≤ A.heap.size) (hr : ∀ k, r = some k → n ≤ k) : Below n A B :=
  ⟨hg.os, hg.tape, hg.output, hg.size, fun k hk => hg.block k (by omega) (fun e => by have := hr k e.symm; omega)⟩

theorem row_slice {w : World} {b : Nat} {e : TypeId} {size : Nat} {v : Value} {n : Nat} {xs : List Value} (h : w.ownsRow b e size v n xs) : ∃ q c, v = .slice q n c := by
  rcases h.2 with ⟨rfl, rfl⟩ | ⟨g, cap, _, rfl, _⟩
  · exact ⟨_, _, rfl⟩
  · exact ⟨_, _, rfl⟩

theorem cell_new_l (W : World) (v : Value) (t : TypeId) : (W.alloc (.cells #[v] t)).cell? ⟨W.heap.size, 0, none⟩ = some v ∧ (W.alloc (.cells #[v] t)).frozen? ⟨W.heap.size, 0, none⟩ = false :=
  ⟨by rw [World.cell?_alloc_new]; rfl, by rw [World.frozen?_alloc_new]⟩

def numVals (l : List Int) : List Value := l.map fun s => Value.int .i64 s
abbrev markI : Int := -7171

theorem row_cap {W : World} {b : Nat} {e : TypeId} {size : Nat} {g n cap : Nat} {xs : List Value} (h : W.ownsRow b e size (.slice (some ⟨g, 0, none⟩) n cap) n xs) : n ≤ cap ∧ cap ≤ maxLen := by
  rcases h.2 with ⟨h0, _⟩ | ⟨g', cap', cur, h0, _, _, h1, h2, _⟩
  · simp at h0
  · simp only [Value.slice.injEq, true_and] at h0
    obtain ⟨_, rfl⟩ := h0
    exact ⟨h1, h2⟩

theorem row_form {W : World} {b : Nat} {e : TypeId} {size : Nat} {v : Value} {n : Nat} {xs : List Value} (h : W.ownsRow b e size v n xs) (hn : 0 < n) : ∃ g cap, v = .slice (some ⟨g, 0, none⟩) n cap ∧ b ≤ g := by
  rcases h.2 with ⟨_, h0⟩ | ⟨g, cap, cur, h0, hb, _⟩
  · omega
  · exact ⟨g, cap, h0, hb⟩

theorem num_cells {w : World} {B : Nat} {ad : Addr} {ns : List Int} (hs : IntIn B w (some ad) ns) : ∀ (j : Nat) (u : Value), (numVals ns)[j]? = some u → w.cell? (ad.add j) = some u := by
  intro j u h
  have hj : j < ns.length := by
    have := (List.getElem?_eq_some_iff.1 h).1
    simpa [numVals] using this
  obtain ⟨b, off, he, _, hc⟩ := hs j hj
  obtain rfl := Option.some.inj he
  rw [show (⟨b, off, none⟩ : Addr).add j = ⟨b, off + j, none⟩ from by unfold Addr.add; split <;> simp_all, hc, ← h]
  simp [numVals, List.getD_eq_getElem?_getD, hj]

theorem num_one (l : List Int) : ∀ u ∈ numVals l, u.oneCell' = true := by
  intro u h
  obtain ⟨s, _, rfl⟩ := List.mem_map.1 h
  rfl

theorem mark_cells (W : World) : ∀ (j : Nat) (u : Value), (numVals [markI])[j]? = some u → (W.alloc (.cells #[.int .i64 markI] 2)).cell? ((⟨W.heap.size, 0, none⟩ : Addr).add j) = some u := by
  intro j u h
  cases j with
  | zero =>
    obtain rfl : Value.int .i64 markI = u := by simpa [numVals] using h
    exact (cell_new_l W _ 2).1
  | succ j => simp [numVals] at h

set_option maxRecDepth 100000 in
set_option maxHeartbeats 2000000 in
theorem lent_any (p : Option Addr) (c : Nat) (ns : List Int) (hp : (p = none ∧ ns = [] ∧ c = 0) ∨ ∃ ad, p = some ad) (hb : (ns.length + 1) * 8 ≤ 140737488355328) (w : World) (hs : IntIn w.heap.size w p ns) :
    Calls Try.prog 19 #[.slice p ns.length c] w fun e w' => ∃ q cap, e = .returned (.slice (some ⟨q, 0, none⟩) ns.length cap) ∧ w.heap.size ≤ q ∧ ns.length + 1 ≤ cap ∧ w'.ownsRow w.heap.size 2 1 (.slice (some ⟨q, 0, none⟩) (ns.length + 1) cap) (ns.length + 1) (numVals (ns ++ [markI])) ∧ Below w.heap.size w w' := by
  obtain ⟨i2, h2, h3, h4, h5⟩ := info2
  have hnil := World.ownsRow_nil w w.heap.size 2 1
  rcases hp with ⟨rfl, rfl, rfl⟩ | ⟨ad, rfl⟩
  · have hR1 := hnil.alloc (.cells #[.int .i64 markI] 2)
    go_enter Try.func19, Try.ntmps19
    go_wp2_with (first | (at_builtin; refine wpList_append_own_none rfl _ _ 32 rfl w.heap.size 2 i2 1 Try.underlying32 h2 _ 0 [] rfl hnil rfl ?_) | (at_builtin; refine wpList_append_own _ rfl _ _ 32 rfl w.heap.size 2 i2 (.int .i64 0) 1 8 Try.underlying32 h2 h3 h4 h5 rfl (by omega) _ 0 [] rfl hR1 ⟨_, 0, none⟩ 1 1 (numVals [markI]) rfl (by simp [numVals]) (mark_cells _) (num_one _) (by unfold maxLen; omega) (by omega) (by simp <;> omega) ?_))
    intro v2 w2 hR2 hg2 _
    obtain ⟨g, cap, rfl, hbg⟩ := row_form hR2 (by omega)
    have hcap := row_cap hR2
    have hB2 : Below w.heap.size w w2 := ((Below.refl _ w).alloc (Nat.le_refl _) _).trans (below_own hg2 (by simp) (fun j hj => (hR1.lt j hj).1))
    clear hg2 hR1 hnil
    have HR := Lib.hid hR2
    clear hR2
    go_wp2
    go_ret
    exact ⟨g, cap, rfl, hbg, by omega, by simpa [numVals] using HR.out, hB2⟩
  · have hcl := num_cells hs
    have hon := num_one ns
    have hll : (numVals ns).length = ns.length * 1 := by simp [numVals]
    go_enter Try.func19, Try.ntmps19
    go_wp2_with (at_builtin; refine wpList_append_own _ rfl _ _ 32 rfl w.heap.size 2 i2 (.int .i64 0) 1 8 Try.underlying32 h2 h3 h4 h5 rfl (by omega) _ 0 [] rfl hnil ad ns.length c (numVals ns) rfl hll hcl hon (by unfold maxLen; omega) (by omega) (Nat.le_refl _) ?_)
    intro v1 w1 hR1 hg1 _
    obtain ⟨q1, c1, rfl⟩ := row_slice hR1
    have hB1 : Below w.heap.size w w1 := below_own hg1 (Nat.le_refl _) (fun j hj => by cases hj)
    have hw1 := hB1.size
    have hR1' := hR1.alloc (.cells #[.int .i64 markI] 2)
    clear hg1 hnil hcl hon hll hs hR1
    go_wp2_with (at_builtin; refine wpList_append_own _ rfl _ _ 32 rfl w.heap.size 2 i2 (.int .i64 0) 1 8 Try.underlying32 h2 h3 h4 h5 rfl (by omega) _ ns.length (numVals ns) rfl hR1' ⟨_, 0, none⟩ 1 1 (numVals [markI]) rfl (by simp [numVals]) (mark_cells _) (num_one _) (by unfold maxLen; omega) (by omega) (by simp <;> omega) ?_)
    intro v2 w2 hR2 hg2 _
    obtain ⟨g, cap, rfl, hbg⟩ := row_form hR2 (by omega)
    have hcap := row_cap hR2
    have hB2 : Below w.heap.size w w2 := hB1.trans (((Below.refl _ w1).alloc hw1 _).trans (below_own hg2 (by simp; omega) (fun j hj => (hR1'.lt j hj).1)))
    clear hg2 hR1' hB1
    have HR := Lib.hid hR2
    clear hR2
    go_wp2
    go_ret
    exact ⟨g, cap, rfl, hbg, by omega, by simpa [numVals] using HR.out, hB2⟩

set_option maxRecDepth 100000 in
set_option maxHeartbeats 1000000 in
theorem nums_same (p q : Option Addr) (c d : Nat) (xs : List Int) (hl : xs.length ≤ maxLen) (w : World) (hp : IntIn w.heap.size w p xs) (hq : IntIn w.heap.size w q xs) :
    Calls Try.prog 32 #[.slice p xs.length c, .slice q xs.length d] w fun e w' => e = .returned (.bool true) ∧ Below w.heap.size w w' := by
  unfold maxLen at hl
  obtain ⟨n, hn⟩ : ∃ n, xs.length = n := ⟨_, rfl⟩
  have hn' : ((n : Int) != (n : Int)) = false := by simp
  rw [hn] at hl ⊢
  have HN := Lib.hid hn
  clear hn
  go_enter Try.func32, Try.ntmps32
  go_wp2
  go_loopw [5] (fun i wr => ∃ k : Nat, k ≤ n ∧ i = .int .i64 k ∧ Below w.heap.size w wr) (fun i _ => n - (intOf i).toNat)
  case atStart => exact ⟨0, Nat.zero_le _, rfl, Below.refl _ _⟩
  case round =>
    obtain ⟨k, hk, rfl, hB⟩ := hrel
    by_cases hlt : k < n
    · obtain ⟨b, off, rfl, hb, hc⟩ := hp k (by rw [HN.out]; exact hlt)
      obtain ⟨b2, off2, rfl, hb2, hc2⟩ := hq k (by rw [HN.out]; exact hlt)
      have h1 := (hB.cell (p := ⟨b, off + k, none⟩) hb).trans hc
      have h2 := (hB.cell (p := ⟨b2, off2 + k, none⟩) hb2).trans hc2
      clear hc hc2 hp hq
      generalize xs.getD k 0 = y at h1 h2
      have hki : (k : Int) < (n : Int) := by omega
      go_wp2
      go_region
      go_wp2
      exact ⟨⟨k + 1, by omega, by go_num, hB.drew⟩, by simp [intOf]; omega⟩
    · go_wp2
      go_ret
      exact ⟨rfl, hB⟩

set_option maxRecDepth 100000 in
set_option maxHeartbeats 1000000 in
theorem kept_any (q : Nat) (p : Option Addr) (cap d : Nat) (ns : List Int) (hl : ns.length + 1 ≤ cap) (hm : cap ≤ maxLen) (w : World) (hq : IntIn w.heap.size w (some ⟨q, 0, none⟩) ns) (hp : IntIn w.heap.size w p ns) (hlt : q < w.heap.size)
    (hk : w.cell? ⟨q, ns.length, none⟩ = some (.int .i64 markI)) :
    Calls Try.prog 22 #[.slice (some ⟨q, 0, none⟩) ns.length cap, .slice p ns.length d] w fun e w' => e = .returned (.bool true) ∧ Below w.heap.size w w' := by
  have hs := nums_same (some ⟨q, 0, none⟩) p cap d ns (by omega) w hq hp
  unfold maxLen at hm
  obtain ⟨n, hn⟩ : ∃ n, ns.length = n := ⟨_, rfl⟩
  rw [hn] at hs hl hk ⊢
  clear hq hp hn
  go_enter Try.func22, Try.ntmps22
  go_wp2_with fail
  refine hs.mono ?_
  rintro e w1 ⟨rfl, hb⟩
  have hc := (hb.cell (p := ⟨q, n, none⟩) hlt).trans hk
  clear hs hk
  go_wp2_with fail
  go_ret
  exact ⟨rfl, hb⟩
end Go.Proofs.Ytiddlnmpiaelmaa
