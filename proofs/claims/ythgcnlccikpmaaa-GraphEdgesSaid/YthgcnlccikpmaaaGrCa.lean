/- slices.Sort and slices.Compact of at most two numbers. -/
import Derived.Test.YthgcnlccikpmaaaGrC
import Derived.Lib.SliceRun
namespace Go.Proofs.Ythgcnlccikpmaaa
open Go Go.RowKit Go.Proofs.Mm
set_option maxRecDepth 100000 in
set_option maxHeartbeats 1000000 in
theorem sort_any {B : Nat} {w : World} {v : Value} {l : List Nat} (h : OwnI B w v l) (hl : l.length ≤ 2) : Calls Try.prog 38 #[v] w
    fun e w' => (∃ r, e = .returned r) ∧ OwnI B w' v (srt l) ∧ Chg (fun k => v.ownBlock = some k) w w' := by
  have hP := Lib.hid (fun k W (hk : ∃ j, W = w.drewN j) => show Calls Try.prog 44 #[v, .int .i64 0, .int .i64 (l.length : Nat), .int .i64 k] W (fun e w' => (∃ r, e = .returned r) ∧ OwnI B w' v (srt l) ∧ Chg (fun k => v.ownBlock = some k) w w') from by
    obtain ⟨j, rfl⟩ := hk
    refine (pdq_any (w := w.drewN j) (show OwnI B (w.drewN j) v l from h) hl k).mono ?_
    rintro e w' ⟨h1, h2, h3⟩
    exact ⟨h1, h2, ((Chg.refl _ w).drewN j).then h3⟩)
  have hB := Lib.hid (fun W => bitlen_any l.length hl W)
  obtain ⟨q, c, rfl⟩ := own_shape h
  obtain ⟨n, hn⟩ : ∃ n, l.length = n := ⟨_, rfl⟩
  rw [hn] at hP hB hl ⊢
  clear h hn
  go_enter Try.func38, Try.ntmps38
  go_wp2_with (first | (go_at_call 45; refine (hB.out _).mono ?_; rintro e w' ⟨⟨k, rfl⟩, j, rfl⟩) | (go_at_call 44; refine (hP.out _ _ ⟨_, rfl⟩).mono ?_; rintro e w' ⟨⟨r, rfl⟩, h1, h2⟩))
  go_end0
  exact ⟨⟨_, rfl⟩, h1, h2⟩
set_option maxRecDepth 100000 in
set_option maxHeartbeats 1000000 in
theorem compact_few {w : World} {q : Option Addr} {n c : Nat} (hn : n < 2) : Calls Try.prog 39 #[.slice q n c] w fun e w' => e = .returned (.slice q n c) ∧ w' = w := by
  have hi : (n : Int) < 2 := by omega
  go_enter Try.func39, Try.ntmps39
  go_wp2
  go_ret
  exact ⟨rfl, rfl⟩
set_option maxRecDepth 100000 in
set_option maxHeartbeats 1000000 in
theorem compact_two {B : Nat} {w : World} {g c x y : Nat} (h : OwnI B w (.slice (some ⟨g, 0, none⟩) 2 c) [x, y]) : Calls Try.prog 39 #[.slice (some ⟨g, 0, none⟩) 2 c] w
    fun e w' => ∃ n, e = .returned (.slice (some ⟨g, 0, none⟩) n c) ∧ OwnI B w' (.slice (some ⟨g, 0, none⟩) n c) (uni [x, y]) ∧ n = (uni [x, y]).length ∧ Chg (fun k => k = g) w w' := by
  obtain ⟨_, g', hg, hc, hcm, c0, c1, f0, f1⟩ := own_two h
  obtain rfl : g = g' := by injection hg with hg; injection hg with hg
  have HH := Lib.hid h
  clear h hg
  have hcc : (2 : Int) ≤ (c : Int) := by omega
  have hc1 : (1 : Int) ≤ (c : Int) := by omega
  by_cases hxy : x = y
  · subst hxy
    rw [show uni [x, x] = [x] by simp [uni]]
    have hd : ((x : Int) == (x : Int)) = true := by simp
    go_enter Try.func39, Try.ntmps39
    go_wp2
    go_loopw [3] (fun i wr => i = .int .i64 1 ∧ wr = w) (fun _ _ => 0)
    case atStart => exact ⟨rfl, rfl⟩
    case round =>
      obtain ⟨rfl, rfl⟩ := hrel
      go_wp2
      go_quiet (fail)
      go_wp2
      go_loopw [3, 5] (fun z i wj => z = .int .i64 1 ∧ i = .int .i64 1 ∧ ∃ k, wj = wr.drewN k) (fun _ _ _ => 0)
      case atStart => exact ⟨rfl, rfl, _, rfl⟩
      case round =>
        obtain ⟨rfl, rfl, k, rfl⟩ := hrel
        have hz : ∀ W : World, (zeroValue 3).run Try.prog W = .ok (.int .i64 0) W := fun W => by kernel_rfl
        have p1 : ∀ j, j < 1 → ((wr.drewN k).cell? ⟨g, 1 + j, none⟩).isSome = true := by
          intro j hj
          match j, hj with
          | 0, _ => exact (congrArg Option.isSome (show (wr.drewN k).cell? ⟨g, 1, none⟩ = _ from c1)).trans rfl
        have p2 : ∀ j, j < 1 → (wr.drewN k).frozen? ⟨g, 1 + j, none⟩ = false := by
          intro j hj
          match j, hj with
          | 0, _ => exact f1
        have hcl : ∀ ty, (Builtin.clear_ #[31] ty #[.slice (some ⟨g, 1, none⟩) 1 (c - 1)]).run Try.prog (wr.drewN k) = .ok (.tuple #[]) ((wr.drewN k).setCell ⟨g, 1, none⟩ (.int .i64 ((0 : Nat) : Int))) := fun ty =>
          Lib.run_clear_slice (wr.drewN k) 31 3 ty (.int .i64 0) Try.underlying31 hz rfl rfl g 1 1 (c - 1) (by omega) p1 p2
        clear p1 p2
        clear hz
        go_wp2_with (simp only [hcl])
        go_ret
        refine ⟨1, rfl, ?_, rfl, ((Chg.refl (fun k => k = g) wr).drewN k).setCell (.inl rfl) _⟩
        have h9 : OwnI B ((wr.drewN k).setCell ⟨g, 1, none⟩ (.int .i64 ((0 : Nat) : Int))) (.slice (some ⟨g, 0, none⟩) 2 c) [x, 0] := (show OwnI B (wr.drewN k) _ [x, x] from HH.out).set rfl 1 0
        obtain ⟨h1, ⟨h2, h3⟩ | ⟨g', cap, cur, h2, h3, h4, h5, h6, h7, h8⟩⟩ := h9
        · cases h3
        · injection h2 with e1 e2 e3
          injection e1 with e1; injection e1 with e1 _ _
          subst e1 e3
          refine ⟨rfl, .inr ⟨_, _, cur, rfl, h3, h4, by simp; omega, h6, h7, ?_⟩⟩
          have h8' : cur.toList.take 2 = [.int .i64 (x : Nat), .int .i64 (0 : Nat)] := h8
          have := congrArg (List.take 1) h8'
          rw [List.take_take] at this
          exact this
  · have hd : ((y : Int) == (x : Int)) = false := by simp; omega
    rw [show uni [x, y] = [x, y] by simp [uni, hxy]]
    go_enter Try.func39, Try.ntmps39
    go_wp2
    go_loopw [3] (fun i wr => (i = .int .i64 1 ∧ wr = w) ∨ (i = .int .i64 2 ∧ ∃ k, wr = w.drewN k)) (fun i _ => 2 - (intOf i).toNat)
    case atStart => exact .inl ⟨rfl, rfl⟩
    case round =>
      rcases hrel with ⟨rfl, rfl⟩ | ⟨rfl, k, rfl⟩
      · go_wp2
        go_quiet (fail)
        go_wp2
        exact ⟨.inr ⟨rfl, _, rfl⟩, by simp [intOf]⟩
      · go_wp2
        go_ret
        exact ⟨_, rfl, HH.out, rfl, (Chg.refl _ w).drewN k⟩
theorem uni_len (l : List Nat) : (uni l).length ≤ l.length := by
  unfold uni
  split
  · split <;> simp
  · exact Nat.le_refl _
theorem compact_any {B : Nat} {w : World} {v : Value} {l : List Nat} (h : OwnI B w v l) (hl : l.length ≤ 2) : Calls Try.prog 39 #[v] w
    fun e w' => ∃ v', e = .returned v' ∧ OwnI B w' v' (uni l) ∧ v'.ownBlock = v.ownBlock ∧ Chg (fun k => v.ownBlock = some k) w w' := by
  obtain ⟨q, c, rfl⟩ := own_shape h
  match l, hl with
  | [], _ =>
    refine (compact_few (w := w) (q := q) (n := 0) (c := c) (by omega)).mono ?_
    rintro e w' ⟨rfl, rfl⟩
    exact ⟨_, rfl, h, rfl, Chg.refl _ _⟩
  | [x], _ =>
    refine (compact_few (w := w) (q := q) (n := 1) (c := c) (by omega)).mono ?_
    rintro e w' ⟨rfl, rfl⟩
    exact ⟨_, rfl, h, rfl, Chg.refl _ _⟩
  | [x, y], _ =>
    obtain ⟨_, g, rfl, _⟩ := own_two h
    refine (compact_two h).mono ?_
    rintro e w' ⟨n, rfl, h1, h2, h3⟩
    exact ⟨_, rfl, h1, rfl, h3.mono fun i e => .inl (by subst e; rfl)⟩
end Go.Proofs.Ythgcnlccikpmaaa
