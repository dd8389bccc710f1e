/- slices.Sort and slices.Compact of at most two numbers: the walks. -/
import Derived.Test.YthgcnlccikpmaaaGrB
import Derived.Deep.RegionHeld3
namespace Go.Proofs.Ythgcnlccikpmaaa
open Go Go.RowKit Go.Proofs.Mm
def Blk (q : Option Addr) (k : Nat) : Prop := q.map Addr.block = some k
theorem own_two {B : Nat} {w : World} {q : Option Addr} {n c : Nat} {x y : Nat} (h : OwnI B w (.slice q n c) [x, y]) : n = 2 ∧ ∃ g, q = some ⟨g, 0, none⟩ ∧ 2 ≤ c ∧ c ≤ maxLen ∧ w.cell? ⟨g, 0, none⟩ = some (.int .i64 (x : Nat)) ∧ w.cell? ⟨g, 1, none⟩ = some (.int .i64 (y : Nat)) ∧ w.frozen? ⟨g, 0, none⟩ = false ∧ w.frozen? ⟨g, 1, none⟩ = false := by
  obtain ⟨q', c', e, h1, h2, h3⟩ := own_read h
  injection e with e1 e2 e3
  subst e1 e2 e3
  rcases h.2 with ⟨_, h0⟩ | ⟨g, cap, cur, hv, hb, hg, h4⟩
  · simp at h0
  · injection hv with e1 e2 e3
    subst e1
    refine ⟨rfl, g, rfl, h1, h2, ?_, ?_, free_of hg, free_of hg⟩
    · rcases h3 with h3 | ⟨g', o, e, h3⟩
      · cases h3
      · injection e with e; injection e with e1 e2 _; subst e1 e2
        have := h3 0 _ rfl
        simpa [wC] using this
    · rcases h3 with h3 | ⟨g', o, e, h3⟩
      · cases h3
      · injection e with e; injection e with e1 e2 _; subst e1 e2
        have := h3 1 _ rfl
        simpa [wC] using this
theorem OwnI.set {B g n c : Nat} {w : World} {l : List Nat} (h : OwnI B w (.slice (some ⟨g, 0, none⟩) n c) l) (hn : n = l.length) (k x : Nat) : OwnI B (w.setCell ⟨g, k, none⟩ (.int .i64 (x : Nat))) (.slice (some ⟨g, 0, none⟩) n c) (l.set k x) := by
  subst hn
  have := (World.ownsRow.stored h k (.int .i64 (x : Nat))).1
  unfold OwnI
  rw [List.length_set, show cI (l.set k x) = (cI l).set k (.int .i64 (x : Nat)) from by unfold cI; rw [List.map_set]]
  exact this
set_option maxRecDepth 100000 in
set_option maxHeartbeats 1000000 in
theorem ins_two {B : Nat} {w : World} {g c : Nat} {x y : Nat} (h : OwnI B w (.slice (some ⟨g, 0, none⟩) 2 c) [x, y]) : Calls Try.prog 46 #[.slice (some ⟨g, 0, none⟩) 2 c, .int .i64 0, .int .i64 2] w
    fun e w' => (∃ v, e = .returned v) ∧ OwnI B w' (.slice (some ⟨g, 0, none⟩) 2 c) (if y < x then [y, x] else [x, y]) ∧ Chg (fun k => k = g) w w' := by
  obtain ⟨_, g', hg, hc, hcm, c0, c1, f0, f1⟩ := own_two h
  obtain rfl : g = g' := by injection hg with hg; injection hg with hg
  have HH := Lib.hid h
  have hL := Lib.hid (fun W => less_any y x W)
  unfold iV at hL
  clear h hg
  have hcc : (2 : Int) ≤ (c : Int) := by omega
  by_cases hlt : y < x
  · rw [if_pos hlt]
    have hd : decide ((y : Int) < (x : Int)) = true := by simp; omega
    rw [hd] at hL
    have HS := Lib.hid (show ∀ i j, OwnI B ((w.drewN i).drewN j) (.slice (some ⟨g, 0, none⟩) 2 c) [x, y] from fun i j => HH.out)
    clear hd hlt
    go_enter Try.func46, Try.ntmps46
    go_wp2
    go_loopw [6] (fun i wr => (i = .int .i64 1 ∧ wr = w) ∨ (i = .int .i64 2 ∧ OwnI B wr (.slice (some ⟨g, 0, none⟩) 2 c) [y, x] ∧ Chg (fun k => k = g) w wr)) (fun i _ => 2 - (intOf i).toNat)
    case atStart => exact .inl ⟨rfl, rfl⟩
    case round =>
      rcases hrel with ⟨rfl, rfl⟩ | ⟨rfl, hO, hC⟩
      · go_wp2
        go_loopw [7] (fun j wj => (j = .int .i64 1 ∧ wj = wr) ∨ (j = .int .i64 0 ∧ OwnI B wj (.slice (some ⟨g, 0, none⟩) 2 c) [y, x] ∧ Chg (fun k => k = g) wr wj)) (fun j _ => (intOf j).toNat)
        case atStart => exact .inl ⟨rfl, rfl⟩
        case round =>
          rcases hrel with ⟨rfl, rfl⟩ | ⟨rfl, hO, hC⟩
          · go_wp2
            go_quiet (exact Calls.quiet_of_same (hL.out _))
            go_wp2
            go_region
            all_goals go_wp2
            exact ⟨.inr ⟨rfl, ((show OwnI B (wr.drewN (nq + 1)) _ [x, y] from HH.out).set rfl 1 x).set rfl 0 y, (((Chg.refl (fun k => k = g) wr).drewN _).setCell (.inl rfl) _).setCell (.inl rfl) _⟩, by simp [intOf]⟩
          · go_wp2
            go_quiet (fail)
            go_wp2
            exact ⟨.inr ⟨rfl, hO, hC.drewN _⟩, by simp [intOf]⟩
      · go_wp2
        go_end0
        exact ⟨⟨_, rfl⟩, hO, hC⟩
  · rw [if_neg hlt]
    have hd : decide ((y : Int) < (x : Int)) = false := by simp; omega
    rw [hd] at hL
    clear hd hlt
    go_enter Try.func46, Try.ntmps46
    go_wp2
    go_loopw [6] (fun i wr => (i = .int .i64 1 ∧ wr = w) ∨ (i = .int .i64 2 ∧ ∃ k, wr = w.drewN k)) (fun i _ => 2 - (intOf i).toNat)
    case atStart => exact .inl ⟨rfl, rfl⟩
    case round =>
      rcases hrel with ⟨rfl, rfl⟩ | ⟨rfl, k, rfl⟩
      · go_wp2
        go_loopw [7] (fun j wj => j = .int .i64 1 ∧ wj = wr) (fun j _ => (intOf j).toNat)
        case atStart => exact ⟨rfl, rfl⟩
        case round =>
          obtain ⟨rfl, rfl⟩ := hrel
          go_wp2
          go_quiet (exact Calls.quiet_of_same (hL.out _))
          go_wp2
          exact ⟨.inr ⟨rfl, _, rfl⟩, by simp [intOf]⟩
      · go_wp2
        go_end0
        exact ⟨⟨_, rfl⟩, HH.out, (Chg.refl _ w).drewN k⟩
set_option maxRecDepth 100000 in
theorem ins_few {w : World} {v : Value} {n : Nat} (hn : n ≤ 1) : Calls Try.prog 46 #[v, .int .i64 0, .int .i64 n] w fun e w' => (∃ v, e = .returned v) ∧ w' = w := by
  have hi : ¬ (1 : Int) < (n : Int) := by omega
  go_enter Try.func46, Try.ntmps46
  go_wp2
  go_loopw [6] (fun i wr => i = .int .i64 1 ∧ wr = w) (fun i _ => 0)
  case atStart => exact ⟨rfl, rfl⟩
  case round =>
    obtain ⟨rfl, rfl⟩ := hrel
    go_wp2
    go_end0
    exact ⟨⟨_, rfl⟩, rfl⟩
/-- Sorted, of at most two. -/
def srt : List Nat → List Nat
  | [x, y] => if y < x then [y, x] else [x, y]
  | l => l
def uni : List Nat → List Nat
  | [x, y] => if x = y then [x] else [x, y]
  | l => l
set_option maxRecDepth 100000 in
set_option maxHeartbeats 1000000 in
theorem pdq_any {B : Nat} {w : World} {v : Value} {l : List Nat} (h : OwnI B w v l) (hl : l.length ≤ 2) (k : Int) : Calls Try.prog 44 #[v, .int .i64 0, .int .i64 (l.length : Nat), .int .i64 k] w
    fun e w' => (∃ r, e = .returned r) ∧ OwnI B w' v (srt l) ∧ Chg (fun k => v.ownBlock = some k) w w' := by
  have hI := Lib.hid (show ∀ W, W = w → Calls Try.prog 46 #[v, .int .i64 0, .int .i64 (l.length : Nat)] W fun e w' => (∃ r, e = .returned r) ∧ OwnI B w' v (srt l) ∧ Chg (fun k => v.ownBlock = some k) w w' from by
    rintro W rfl
    match l, hl with
    | [], _ =>
      refine (ins_few (w := W) (v := v) (n := 0) (by omega)).mono ?_
      rintro e w' ⟨h1, rfl⟩
      exact ⟨h1, h, Chg.refl _ _⟩
    | [x], _ =>
      refine (ins_few (w := W) (v := v) (n := 1) (by omega)).mono ?_
      rintro e w' ⟨h1, rfl⟩
      exact ⟨h1, h, Chg.refl _ _⟩
    | [x, y], _ =>
      obtain ⟨q, c, rfl⟩ := own_shape h
      obtain ⟨_, g, rfl, _⟩ := own_two h
      refine (ins_two h).mono ?_
      rintro e w' ⟨h1, h2, h3⟩
      exact ⟨h1, h2, h3.mono fun i e => .inl (by subst e; rfl)⟩)
  obtain ⟨n, hn⟩ : ∃ n, l.length = n := ⟨_, rfl⟩
  rw [hn] at hI hl ⊢
  clear h hn
  have h12 : (n : Int) ≤ 12 := by omega
  go_enter Try.func44, Try.ntmps44
  go_wp2
  go_loopw [1, 2] (fun a b wr => a = .int .i64 0 ∧ b = .int .i64 (n : Nat) ∧ wr = w) (fun _ _ _ => 0)
  case atStart => exact ⟨rfl, rfl, rfl⟩
  case round =>
    obtain ⟨rfl, rfl, rfl⟩ := hrel
    go_wp2_with (go_at_call 46; refine (hI.out _ rfl).mono ?_; rintro e w' ⟨⟨r, rfl⟩, h1, h2⟩)
    refine bodyPost_ret (results_none rfl _ _ _) rfl ?_
    exact ⟨⟨_, rfl⟩, h1, h2⟩
end Go.Proofs.Ythgcnlccikpmaaa
