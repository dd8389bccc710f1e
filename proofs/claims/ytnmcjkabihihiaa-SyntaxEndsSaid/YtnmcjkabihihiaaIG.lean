/- The kit's kept statements. -/
import Derived.Test.YtnmcjkabihihiaaIF
namespace Go.Proofs.Ytnmcjkabihihiaa
open Go Go.RowKit Go.Proofs.Mm

section
variable {w : World} {v v' : Value}
set_option maxRecDepth 100000 in
set_option maxHeartbeats 4000000 in
theorem keptStmts_true {l : List StZ} (ha : BdR true (wC w) v l) (hb : BdR false (wC w) v' l) : Calls Try.prog 8 #[v, v'] w (Yes w) := by
  have HD := Lib.hid ((stmts_dec ha hb).mono (fun e w' h => says_true rfl h))
  obtain ⟨g, o, c, rfl, hc, hm, hmk⟩ := SlX.mark (size := 4) ha (by decide) st_len (by decide)
  obtain ⟨q1, c1, hq1, _, _, _, ha', _⟩ := ha.at (by decide) st_len
  have hq2 : some (⟨g, o, none⟩ : Addr) = q1 := by injection hq1
  clear hq1
  subst hq2
  obtain ⟨q', c', rfl, _, _, _, hb', _⟩ := hb.at (by decide) st_len
  obtain ⟨n, hn⟩ : ∃ n, l.length = n := ⟨_, rfl⟩
  have HA := Lib.hid ha'
  have HB := Lib.hid hb'
  have HN := Lib.hid hn
  rw [hn] at hc hmk HD ⊢
  unfold maxLen at hm
  have hx : w.cell? ⟨g, o + n * 4, none⟩ = some (.int .i64 (-71)) := by have := hmk 0 _ rfl; simpa [wC] using this
  have hi : (n : Int) < (n : Int) + 1 := by omega
  have hcc : (n : Int) + 1 ≤ (c : Int) := by omega
  clear ha hb hn hmk ha' hb'
  go_enter Try.func8, Try.ntmps8
  go_wp2_with (go_at_call 13; refine HD.out.mono ?_; rintro e w2 ⟨rfl, k0, rfl⟩)
  go_loopw [5] (fun i wr => ∃ k nq : Nat, k ≤ n ∧ i = .int .i64 k ∧ wr = w.drewN nq) (fun i _ => n - (intOf i).toNat)
  case atStart => exact ⟨0, k0, Nat.zero_le _, rfl, rfl⟩
  case round =>
    obtain ⟨k, nq, hk, rfl, rfl⟩ := hrel
    by_cases hlt : k < n
    · have hk1 : k < l.length := by rw [HN.out]; exact hlt
      obtain ⟨g1, o1, e1, hg1, ⟨vt, ve, rfl, ht, he⟩, a1⟩ := HA.out k hk1
      obtain ⟨g2, o2, e2, rfl, ⟨vt', ve', rfl, ht', he'⟩, b1⟩ := HB.out k hk1
      have hgo : g1 = g ∧ o1 = o := by injection hg1 with h; injection h with h1 h2; exact ⟨h1.symm, h2.symm⟩
      obtain ⟨rfl, rfl⟩ := hgo
      obtain ⟨W, hW⟩ : ∃ W, w.drewN nq = W := ⟨_, rfl⟩
      have x2 : W.cell? ⟨g1, o1 + k * 4 + 2, none⟩ = some vt := by rw [← hW]; have := a1 2 _ (by decide) rfl; rwa [← Nat.add_assoc] at this
      have x3 : W.cell? ⟨g1, o1 + k * 4 + 3, none⟩ = some ve := by rw [← hW]; have := a1 3 _ (by decide) rfl; rwa [← Nat.add_assoc] at this
      have y2 : W.cell? ⟨g2, o2 + k * 4 + 2, none⟩ = some vt' := by rw [← hW]; have := b1 2 _ (by decide) rfl; rwa [← Nat.add_assoc] at this
      have y3 : W.cell? ⟨g2, o2 + k * 4 + 3, none⟩ = some ve' := by rw [← hW]; have := b1 3 _ (by decide) rfl; rwa [← Nat.add_assoc] at this
      have HKS := Lib.hid (show ∀ j, Calls Try.prog 14 #[vt, vt'] (W.drewN j) (fun e w' => e = .returned (.bool true) ∧ ∃ k, w' = (W.drewN j).drewN k) from fun j => keptStrings_true (w := W.drewN j) (l := l[k].targets) (by rw [← hW]; exact ht) (by rw [← hW]; exact ht'))
      obtain ⟨ge, oe, ce, rfl, hce, hme, hmke⟩ := SlX.mark (size := 1) he (by decide) ex_len (by decide)
      obtain ⟨q3, c3, hq3, _, hmax3, _, hae, _⟩ := he.at (by decide) ex_len
      have hq4 : some (⟨ge, oe, none⟩ : Addr) = q3 := by injection hq3
      clear hq3
      subst hq4
      obtain ⟨q5, c5, rfl, _, _, _, hbe, _⟩ := he'.at (by decide) ex_len
      obtain ⟨ne, hne⟩ : ∃ ne, l[k].exprs.length = ne := ⟨_, rfl⟩
      have HNE := Lib.hid hne
      have HAE := Lib.hid hae
      have HBE := Lib.hid hbe
      rw [hne] at x3 y3 hce hmke hmax3
      unfold maxLen at hme
      have xm : W.cell? ⟨ge, oe + ne, none⟩ = some (.slice none 0 0) := by rw [← hW]; have := hmke 0 _ rfl; simpa [wC] using this
      have hie : (ne : Int) < (ne : Int) + 1 := by omega
      have hcce : (ne : Int) + 1 ≤ (ce : Int) := by omega
      have hwr : IntKind.i64.wrap ((ne : Int) + 1) = (ne : Int) + 1 := by rw [IntKind.wrap_i64]; omega
      rw [hW]
      have HWW := Lib.hid hW
      have hki : (k : Int) < (n : Int) := by omega
      clear hW ht ht' he he' a1 b1 hae hbe hne hmke hg1 hx
      go_wp2
      go_quiet ((go_at_call 14; exact Calls.quiet_of (HKS.out _)))
      go_wp2
      go_loopw [7] (fun i wr => ∃ j nq : Nat, j ≤ ne ∧ i = .int .i64 j ∧ wr = W.drewN nq) (fun i _ => ne - (intOf i).toNat)
      case atStart => exact ⟨0, _, Nat.zero_le _, rfl, rfl⟩
      case round =>
        obtain ⟨j, nq3, hj, rfl, rfl⟩ := hrel
        by_cases hjl : j < ne
        · have hje : j < l[k].exprs.length := by rw [HNE.out]; exact hjl
          obtain ⟨g6, o6, e6, hg6, ⟨u, rfl, hu⟩, a2⟩ := HAE.out j hje
          obtain ⟨g7, o7, e7, rfl, ⟨u', rfl, hu'⟩, b2⟩ := HBE.out j hje
          have hgo : g6 = ge ∧ o6 = oe := by injection hg6 with h; injection h with h1 h2; exact ⟨h1.symm, h2.symm⟩
          obtain ⟨rfl, rfl⟩ := hgo
          obtain ⟨V, hV⟩ : ∃ V, W.drewN nq3 = V := ⟨_, rfl⟩
          have a2 : V.cell? ⟨g6, o6 + j, none⟩ = some u := by rw [← hV, ← HWW.out]; have := a2 0 _ (by decide) rfl; rw [Nat.mul_one, Nat.add_zero] at this; exact this
          have b2 : V.cell? ⟨g7, o7 + j, none⟩ = some u' := by rw [← hV, ← HWW.out]; have := b2 0 _ (by decide) rfl; rw [Nat.mul_one, Nat.add_zero] at this; exact this
          have HKT := Lib.hid (show ∀ i, Calls Try.prog 15 #[u, u'] (V.drewN i) (fun e w' => e = .returned (.bool true) ∧ ∃ k, w' = (V.drewN i).drewN k) from fun i => keptTerms_true (w := V.drewN i) (l := l[k].exprs[j]) (by rw [← hV, ← HWW.out]; exact hu) (by rw [← hV, ← HWW.out]; exact hu'))
          have x3' : V.cell? ⟨g1, o1 + k * 4 + 3, none⟩ = some (.slice (some ⟨g6, o6, none⟩) ne ce) := by rw [← hV]; exact x3
          have y3' : V.cell? ⟨g2, o2 + k * 4 + 3, none⟩ = some (.slice (some ⟨g7, o7, none⟩) ne c5) := by rw [← hV]; exact y3
          have hji : (j : Int) < (ne : Int) := by omega
          rw [hV]
          have HVV := Lib.hid hV
          clear hV hu hu' hg6 x2 x3 y2 y3 xm
          go_wp2
          go_quiet ((go_at_call 15; exact Calls.quiet_of (HKT.out _)))
          go_wp2
          exact ⟨⟨j + 1, _, by omega, by go_num, by rw [← HVV.out, World.drewN_drewN]⟩, by simp [intOf]; omega⟩
        · obtain rfl : j = ne := by omega
          go_wp2
          exact ⟨⟨k + 1, _, by omega, by go_num, by rw [← HWW.out, World.drewN_drewN]⟩, by simp [intOf]; omega⟩
    · obtain rfl : k = n := by omega
      go_wp2
      go_ret
      exact yes_1
end
end Go.Proofs.Ytnmcjkabihihiaa
