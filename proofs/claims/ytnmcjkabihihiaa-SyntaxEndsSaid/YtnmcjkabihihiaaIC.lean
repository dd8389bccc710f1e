/- The kit's compare of statements. -/
import Derived.Test.YtnmcjkabihihiaaIB
namespace Go.Proofs.Ytnmcjkabihihiaa
open Go Go.RowKit Go.Proofs.Mm

section
variable {la lb : Bool} {w : World} {v v' : Value}
set_option maxRecDepth 100000 in
set_option maxHeartbeats 4000000 in
theorem stmts_dec {l l' : List StZ} (ha : BdR la (wC w) v l) (hb : BdR lb (wC w) v' l') : Calls Try.prog 13 #[v, v'] w (Says (l = l') w) := by
  obtain ⟨q, c, rfl, _, hmax, _, ha, _⟩ := ha.at (by decide) st_len
  obtain ⟨q', c', rfl, _, hmax', _, hb, _⟩ := hb.at (by decide) st_len
  obtain ⟨n, hnn⟩ : ∃ n, l.length = n := ⟨_, rfl⟩
  obtain ⟨n', hnn'⟩ : ∃ n, l'.length = n := ⟨_, rfl⟩
  have HA := Lib.hid ha
  have HB := Lib.hid hb
  have HN := Lib.hid hnn
  have HN' := Lib.hid hnn'
  rw [hnn] at hmax ⊢
  rw [hnn'] at hmax' ⊢
  clear ha hb hnn hnn'
  by_cases hnm : n = n'
  · subst hnm
    have hneq : ((n : Int) != (n : Int)) = false := by simp
    go_enter Try.func13, Try.ntmps13
    go_wp2
    go_loopw [5] (fun i wr => ∃ k nq : Nat, k ≤ n ∧ i = .int .i64 k ∧ wr = w.drewN nq ∧ Hid (l.take k = l'.take k)) (fun i _ => n - (intOf i).toNat)
    case atStart => exact ⟨0, 0, Nat.zero_le _, rfl, rfl, Lib.hid rfl⟩
    case round =>
      obtain ⟨k, nq, hk, rfl, rfl, hT⟩ := hrel
      by_cases hlt : k < n
      · have hk1 : k < l.length := by rw [HN.out]; exact hlt
        have hk2 : k < l'.length := by rw [HN'.out]; exact hlt
        obtain ⟨g, o, e, rfl, ⟨vt, ve, rfl, ht, he⟩, a1⟩ := HA.out k hk1
        obtain ⟨g', o', e', rfl, ⟨vt', ve', rfl, ht', he'⟩, b1⟩ := HB.out k hk2
        obtain ⟨W, hW⟩ : ∃ W, w.drewN nq = W := ⟨_, rfl⟩
        have x0 : W.cell? ⟨g, o + k * 4, none⟩ = some (.int .i64 l[k].kind) := by rw [← hW]; exact a1 0 _ (by decide) rfl
        have x1 : W.cell? ⟨g, o + k * 4 + 1, none⟩ = some (.string l[k].name) := by rw [← hW]; have := a1 1 _ (by decide) rfl; rwa [← Nat.add_assoc] at this
        have x2 : W.cell? ⟨g, o + k * 4 + 2, none⟩ = some vt := by rw [← hW]; have := a1 2 _ (by decide) rfl; rwa [← Nat.add_assoc] at this
        have x3 : W.cell? ⟨g, o + k * 4 + 3, none⟩ = some ve := by rw [← hW]; have := a1 3 _ (by decide) rfl; rwa [← Nat.add_assoc] at this
        have y0 : W.cell? ⟨g', o' + k * 4, none⟩ = some (.int .i64 l'[k].kind) := by rw [← hW]; exact b1 0 _ (by decide) rfl
        have y1 : W.cell? ⟨g', o' + k * 4 + 1, none⟩ = some (.string l'[k].name) := by rw [← hW]; have := b1 1 _ (by decide) rfl; rwa [← Nat.add_assoc] at this
        have y2 : W.cell? ⟨g', o' + k * 4 + 2, none⟩ = some vt' := by rw [← hW]; have := b1 2 _ (by decide) rfl; rwa [← Nat.add_assoc] at this
        have y3 : W.cell? ⟨g', o' + k * 4 + 3, none⟩ = some ve' := by rw [← hW]; have := b1 3 _ (by decide) rfl; rwa [← Nat.add_assoc] at this
        have HT := Lib.hid (fun j => strings_dec (w := W.drewN j) (v := vt) (v' := vt') (l := l[k].targets) (l' := l'[k].targets) (by rw [← hW]; exact ht) (by rw [← hW]; exact ht'))
        have HX := Lib.hid (fun j => exprs_dec (w := W.drewN j) (v := ve) (v' := ve') (l := l[k].exprs) (l' := l'[k].exprs) (by rw [← hW]; exact he) (by rw [← hW]; exact he'))
        rw [hW]
        have HWW := Lib.hid hW
        have hki : (k : Int) < (n : Int) := by omega
        clear hW ht ht' he he' a1 b1
        obtain ⟨t3, HT3⟩ : ∃ tb : Bool, Hid (tb = true ↔ l[k].targets = l'[k].targets) := ⟨decide (tb' l[k].targets l'[k].targets), Lib.hid (by rw [decide_eq_true_iff]; exact Iff.rfl)⟩
        obtain ⟨t4, HT4⟩ : ∃ tb : Bool, Hid (tb = true ↔ l[k].exprs = l'[k].exprs) := ⟨decide (tb' l[k].exprs l'[k].exprs), Lib.hid (by rw [decide_eq_true_iff]; exact Iff.rfl)⟩
        have HT5 := Lib.hid (fun j => (HT.out j).mono (fun e w' (h : Says (l[k].targets = l'[k].targets) (W.drewN j) e w') => says_dec HT3.out h))
        have HX5 := Lib.hid (fun j => (HX.out j).mono (fun e w' (h : Says (l[k].exprs = l'[k].exprs) (W.drewN j) e w') => says_dec HT4.out h))
        obtain ⟨t1, e1⟩ : ∃ b, (l[k].kind == l'[k].kind) = b := ⟨_, rfl⟩
        obtain ⟨t2, e2⟩ : ∃ b, (l[k].name.toList == l'[k].name.toList) = b := ⟨_, rfl⟩
        have HALL := Lib.hid (show (t1 = true ∧ t2 = true ∧ t3 = true ∧ t4 = true) ↔ l[k] = l'[k] from by
          constructor
          · rintro ⟨c1, c2, c3, c4⟩
            have d3 := HT3.out.1 c3
            have d4 := HT4.out.1 c4
            have d1 := beq_iff_eq.1 (e1.trans c1)
            have d2 := nm_eq.1 (e2.trans c2)
            generalize l[k] = x at d1 d2 d3 d4 ⊢
            generalize l'[k] = y at d1 d2 d3 d4 ⊢
            cases x; cases y; simp_all
          · intro h
            refine ⟨by rw [← e1, h]; simp, by rw [← e2, h]; simp, HT3.out.2 (by rw [h]), HT4.out.2 (by rw [h])⟩)
        generalize l[k].kind = kd at *
        generalize l[k].name = nm at *
        generalize l'[k].kind = kd' at *
        generalize l'[k].name = nm' at *
        have e3 : (kd != kd') = !t1 := by rw [← e1]; rfl
        have e4 : (nm.toList != nm'.toList) = !t2 := by rw [← e2]; rfl
        cases t1
        · have HNE := Lib.hid (ne_at hk1 hk2 (fun e => by have := HALL.out.2 e; exact absurd this.1 (by decide)))
          simp only [Bool.not_false] at e3
          go_wp2
          go_quiet (first | (go_at_call 17; exact Calls.quiet_of (HT5.out _)) | (go_at_call 18; exact Calls.quiet_of (HX5.out _)))
          go_wp2
          go_ret
          rw [← HWW.out]
          exact says_no2 HNE.out
        cases t2
        · have HNE := Lib.hid (ne_at hk1 hk2 (fun e => by have := HALL.out.2 e; exact absurd this.2.1 (by decide)))
          simp only [Bool.not_true] at e3
          simp only [Bool.not_false] at e4
          go_wp2
          go_quiet (first | (go_at_call 17; exact Calls.quiet_of (HT5.out _)) | (go_at_call 18; exact Calls.quiet_of (HX5.out _)))
          go_wp2
          go_ret
          rw [← HWW.out]
          exact says_no2 HNE.out
        simp only [Bool.not_true] at e3 e4
        cases t3
        · have HNE := Lib.hid (ne_at hk1 hk2 (fun e => by have := HALL.out.2 e; exact absurd this.2.2.1 (by decide)))
          go_wp2
          go_quiet (first | (go_at_call 17; exact Calls.quiet_of (HT5.out _)) | (go_at_call 18; exact Calls.quiet_of (HX5.out _)))
          go_wp2
          go_ret
          rw [← HWW.out]
          exact says_no2 HNE.out
        cases t4
        · have HNE := Lib.hid (ne_at hk1 hk2 (fun e => by have := HALL.out.2 e; exact absurd this.2.2.2 (by decide)))
          go_wp2
          go_quiet (first | (go_at_call 17; exact Calls.quiet_of (HT5.out _)) | (go_at_call 18; exact Calls.quiet_of (HX5.out _)))
          go_wp2
          go_ret
          rw [← HWW.out]
          exact says_no2 HNE.out
        · have HT2 := Lib.hid (take_next hk1 hk2 hT.out (HALL.out.1 ⟨rfl, rfl, rfl, rfl⟩))
          go_wp2
          go_quiet (first | (go_at_call 17; exact Calls.quiet_of (HT5.out _)) | (go_at_call 18; exact Calls.quiet_of (HX5.out _)))
          go_wp2
          exact ⟨⟨k + 1, _, by omega, by go_num, by rw [← HWW.out, World.drewN_drewN], HT2⟩, by simp [intOf]; omega⟩
      · obtain rfl : k = n := by omega
        have HT2 := Lib.hid (take_all HN.out HN'.out hT.out)
        go_wp2
        go_ret
        exact says_yes HT2.out
  · have HNE := Lib.hid (show ¬ l = l' from fun e => hnm (by rw [← HN.out, ← HN'.out, e]))
    have hneq : ((n : Int) != (n' : Int)) = true := by simp; omega
    go_enter Try.func13, Try.ntmps13
    go_wp2
    go_ret
    exact says_no (k := 0) HNE.out
end
end Go.Proofs.Ytnmcjkabihihiaa
