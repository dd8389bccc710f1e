/- Rows that can be read; the kit's compare of terms. -/
import Derived.Test.YtnmcjkabihihiaaDoorLQd
import Derived.Deep.QuietTactic
import Derived.BigQuiet
namespace Go.Proofs.YtnmcjkabihihiaaDoor
open Go Go.RowKit Go.Proofs.Mm

/-! ## Rows that can be read -/
/-- A row of cells behind a slice. -/
def RdR (w : World) (q : Option Addr) (cs : List Value) : Prop := cs = [] ∨ ∃ g, q = some ⟨g, 0, none⟩ ∧ ∀ j u, cs[j]? = some u → w.cell? ⟨g, j, none⟩ = some u
theorem RowM.rd {w : World} {m : Mem} {E : TypeId} {size n c : Nat} {q : Option Addr} {xs : List Value} (h : RowM m E size (.slice q n c) n xs) (hm : Has w m) : RdR w q xs := by
  cases xs with
  | nil => exact .inl rfl
  | cons x l =>
    obtain ⟨g, c', h1, h2, h3⟩ := h.cells hm 0 x rfl
    injection h1 with h1 _ _
    refine .inr ⟨g, h1, fun j u hu => ?_⟩
    obtain ⟨g', c'', h1', h2', _⟩ := h.cells hm j u hu
    injection h1' with h1' _ _
    rw [h1] at h1'
    injection h1' with h1'
    injection h1' with h1' _ _
    rw [h1']; exact h2'
theorem RdR.same {w w' : World} {q : Option Addr} {xs : List Value} (h : RdR w q xs) (hw : ∀ a v, w.cell? a = some v → w'.cell? a = some v) : RdR w' q xs := by
  rcases h with h | ⟨g, h1, h2⟩
  · exact .inl h
  · exact .inr ⟨g, h1, fun j u hu => hw _ _ (h2 j u hu)⟩
theorem tmCells_cons (x : Syn.Tm) (l : List Syn.Tm) : tmCells (x :: l) = .int .i64 (x.kind : Int) :: .int .i64 (x.value : Int) :: .string (sb x.name) :: tmCells l := by simp [tmCells, tmC]
theorem tmCells_at : ∀ (l : List Syn.Tm) (j : Nat) (h : j < l.length), (tmCells l)[3 * j]? = some (.int .i64 (l[j].kind : Int)) ∧ (tmCells l)[3 * j + 1]? = some (.int .i64 (l[j].value : Int)) ∧ (tmCells l)[3 * j + 2]? = some (.string (sb l[j].name))
  | [], j, h => absurd h (by simp)
  | x :: l, 0, _ => by rw [tmCells_cons]; exact ⟨rfl, rfl, rfl⟩
  | x :: l, j + 1, h => by
    have := tmCells_at l j (by simpa using h)
    rw [tmCells_cons]
    simp only [show 3 * (j + 1) = 3 * j + 1 + 1 + 1 by omega, show 3 * j + 1 + 1 + 1 + 1 = (3 * j + 1) + 1 + 1 + 1 by omega, show 3 * j + 1 + 1 + 1 + 2 = (3 * j + 2) + 1 + 1 + 1 by omega, List.getElem?_cons_succ, List.getElem_cons_succ]
    exact this
theorem rd_tm {w : World} {q : Option Addr} {l : List Syn.Tm} (h : RdR w q (tmCells l)) (j : Nat) (hj : j < l.length) : ∃ g, q = some ⟨g, 0, none⟩ ∧ w.cell? ⟨g, j * 3, none⟩ = some (.int .i64 (l[j].kind : Int)) ∧ w.cell? ⟨g, j * 3 + 1, none⟩ = some (.int .i64 (l[j].value : Int)) ∧ w.cell? ⟨g, j * 3 + 2, none⟩ = some (.string (sb l[j].name)) := by
  rw [Nat.mul_comm j 3]
  obtain ⟨a1, a2, a3⟩ := tmCells_at l j hj
  rcases h with h | ⟨g, h1, h2⟩
  · rw [h] at a1; simp at a1
  · exact ⟨g, h1, h2 _ _ a1, h2 _ _ a2, h2 _ _ a3⟩
set_option maxRecDepth 100000 in
set_option maxHeartbeats 1000000 in
/-- The same terms are the same. -/
theorem terms_same {w : World} {q q' : Option Addr} {n c c' : Nat} (l : List Syn.Tm) (hn : l.length = n) (h : RdR w q (tmCells l)) (h' : RdR w q' (tmCells l)) (hmax : n ≤ 9223372036854775807) :
    Calls Tryd.prog 6 #[.slice q n c, .slice q' n c'] w fun e w' => e = .returned (.bool true) ∧ ∃ k, w' = w.drewN k := by
  have HN := Lib.hid hn
  have HA := Lib.hid h
  have HB := Lib.hid h'
  have hneq : ((n : Int) != (n : Int)) = false := by simp
  clear h h' hn
  go_enter Tryd.func6, Tryd.ntmps6
  go_wp2
  go_loopw [5] (fun i wr => ∃ k nq : Nat, k ≤ n ∧ i = .int .i64 k ∧ wr = w.drewN nq) (fun i _ => n - (intOf i).toNat)
  case atStart => exact ⟨0, 0, Nat.zero_le _, rfl, rfl⟩
  case round =>
    obtain ⟨k, nq, hk, rfl, rfl⟩ := hrel
    by_cases hlt : k < n
    · have hk' : k < l.length := by rw [HN.out]; exact hlt
      obtain ⟨g, rfl, a1, a2, a3⟩ := rd_tm HA.out k hk'
      obtain ⟨g', rfl, b1, b2, b3⟩ := rd_tm HB.out k hk'
      generalize sb l[k].name = nm at *
      generalize l[k].kind = kd at *
      generalize l[k].value = vl at *
      have hki : (k : Int) < (n : Int) := by omega
      have e1 : (nm.toList == nm.toList) = true := by simp
      have e2 : ((kd : Int) == (kd : Int)) = true := by simp
      have e3 : ((vl : Int) == (vl : Int)) = true := by simp
      go_wp2
      go_quiet (fail)
      go_wp2
      exact ⟨⟨k + 1, _, by omega, by go_num, rfl⟩, by simp [intOf]; omega⟩
    · go_wp2
      go_ret
      exact ⟨rfl, _, rfl⟩
end Go.Proofs.YtnmcjkabihihiaaDoor
