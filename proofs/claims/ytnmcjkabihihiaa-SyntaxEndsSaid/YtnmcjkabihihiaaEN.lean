/- slices.Clone of numbers. -/
import Derived.Test.YtnmcjkabihihiaaEA
import Derived.Test.YtnmcjkabihihiaaSynX
namespace Go.Proofs.Ytnmcjkabihihiaa
open Go Go.RowKit Go.Proofs.Mm

theorem infoInt : ∃ i, Try.prog.info? 3 = some i ∧ i.zero = some (.int .i64 0) ∧ i.size = 1 ∧ i.bytes = 8 := by
  have h : (Try.prog.info? 3).map (fun i => (i.zero, i.size, i.bytes)) = some (some (.int .i64 0), 1, 8) := by kernel_rfl
  cases hi : Try.prog.info? 3 with
  | none => rw [hi] at h; cases h
  | some i =>
    rw [hi] at h
    simp only [Option.map_some, Option.some.injEq, Prod.mk.injEq] at h
    exact ⟨i, rfl, h.1, h.2.1, h.2.2⟩
theorem und_ints : Try.prog.underlying 24 = some (.slice 3) := by kernel_rfl
theorem ints_not_nil (ad : Addr) (n c : Nat) (w : World) : (binOp .eql 24 (.slice (some ad) n c) (.slice none 0 0)).run Try.prog w = .ok (.bool false) w := by kernel_rfl
theorem negs_all (n : Nat) : negs n n = List.replicate n (.int .i64 (-1)) := by simp [negs]
set_option maxRecDepth 100000 in
set_option maxHeartbeats 1000000 in
theorem clone_ints (g n : Nat) (hn : n ≤ 2199023255552) (w : World) (hg : w.heap[g]? = some (.cells (negs n n).toArray 3 (0, 0))) :
    Calls Try.prog 12 #[.slice (some ⟨g, 0, none⟩) n n] w fun e w' => ∃ q c, e = .returned (.slice q n c) ∧ w'.ownsRow w.heap.size 3 1 (.slice q n c) n (negs n n) ∧ Below w.heap.size w w' := by
  obtain ⟨i2, h2, h3, h4, h5⟩ := infoInt
  have hq := ints_not_nil ⟨g, 0, none⟩ n n w
  have hon : ∀ v ∈ negs n n, v.oneCell' = true := by intro v hv; rw [negs_all] at hv; rw [List.eq_of_mem_replicate hv]; rfl
  have hll : (negs n n).length = n * 1 := by rw [negs_len (Nat.le_refl _), Nat.mul_one]
  have hR0 := World.ownsRow_lit (base := w.heap.size) (e := 3) (size := 1) w #[] 0 (Nat.le_refl _) (by unfold maxLen; omega) rfl
  have hB0 : Below w.heap.size w (w.alloc (.cells #[] 3)) := (Below.refl _ w).alloc (Nat.le_refl _) _
  have hcl' : ∀ (j : Nat) (u : Value), (negs n n)[j]? = some u → (w.alloc (.cells #[] 3)).cell? ((⟨g, 0, none⟩ : Addr).add j) = some u := by
    intro j u h
    rw [show ((⟨g, 0, none⟩ : Addr).add j) = ⟨g, j, none⟩ from by simp [Addr.add]; intro h; exact h.symm]
    have hc : w.cell? ⟨g, j, none⟩ = some u := cell_of hg (by rw [List.getElem?_toArray]; exact h)
    exact (hB0.cell (World.block_lt_of_cell? _ _ hc)).trans hc
  clear hg
  go_enter Try.func12, Try.ntmps12
  go_wp2_with (at_builtin; refine wpList_append_own _ rfl _ _ 24 rfl w.heap.size 3 i2 (.int .i64 0) 1 8 und_ints h2 h3 h4 h5 rfl (by omega) _ 0 [] rfl hR0 ⟨g, 0, none⟩ n n (negs n n) rfl hll hcl' hon (by unfold maxLen; omega) (by omega) (by simp) ?_)
  intro v2 w2 hR2 hg2 _
  obtain ⟨q, c, rfl⟩ := own_shape hR2
  have hB2 : Below w.heap.size w w2 := grown_below hB0 (by simp) hg2 (fun j hj => (hR0.lt j hj).1)
  have HB2 := Lib.hid hB2
  clear hg2 hR0 hB0 hB2
  have HR := Lib.hid hR2
  clear hR2
  go_wp2
  go_ret
  exact ⟨_, _, rfl, by simpa using HR.out, HB2.out⟩
end Go.Proofs.Ytnmcjkabihihiaa
