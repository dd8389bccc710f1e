/- The document's Next. -/
import Derived.Test.YthgcnlccikpmaaaGrE
namespace Go.Proofs.Ythgcnlccikpmaaa
open Go Go.RowKit Go.Proofs.Mm
theorem news_one {W : World} {b x : Nat} {z : Int} {T : TypeId} (hb : W.heap.size = b) (hz : z = (x : Int)) : ∀ j u, (cI [x])[j]? = some u → (W.alloc (.cells #[.int .i64 z] T)).cell? ((⟨b, 0, none⟩ : Addr).add j) = some u := by
  subst hb hz
  exact row_new W [.int .i64 (x : Nat)] T
theorem inN_in {n : Nat} {x : Int} {k : Nat} (h : x = (k : Int)) (hk : k < n) : inN n x = [k] := by unfold inN; rw [if_pos (by omega)]; simp [h]
theorem inN_out {n : Nat} {x : Int} (h : ¬ (0 ≤ x ∧ x < n)) : inN n x = [] := by unfold inN; rw [if_neg h]
theorem twoN_l {n j : Nat} {A : Int} (h : j + 1 < n) (hA : ¬ (0 ≤ A ∧ A < n)) : twoN n ((j : Int) + 1) A = [j + 1] := by
  unfold twoN
  rw [if_neg (by omega), inN_in (x := (j : Int) + 1) (k := j + 1) (by omega) h, inN_out hA]
  split <;> rfl
theorem twoN_n {n : Nat} {x A : Int} (h : ¬ (0 ≤ x ∧ x < n)) (hA : ¬ (0 ≤ A ∧ A < n)) : twoN n x A = [] := by
  unfold twoN
  rw [inN_out h, inN_out hA]
  split
  · rfl
  · split <;> rfl
section
variable (lv : Int) (qp : Option Addr) (np cp : Nat) (qr : Option Addr) (nr cr : Nat) (lo stk : Int) (qc : Option Addr) (nc cc : Nat)
set_option maxRecDepth 100000 in
set_option maxHeartbeats 2000000 in
theorem refNext_any {w : World} {code : Cd} (hI : InAt (wC w) qc code) (hn : code.length = nc) (hm : nc ≤ cc) (hm2 : cc ≤ maxLen) (a : Int) :
    Calls Try.prog 12 #[fnV lv qp np cp qr nr cr lo stk qc nc cc, .int .i64 a] w fun e w' => ∃ v, e = .returned v ∧ OwnI w.heap.size w' v (nxt code a) ∧ Below w.heap.size w w' := by
  unfold maxLen at hm2
  by_cases h0 : 0 ≤ a
  · by_cases h1 : a < (nc : Int)
    · obtain ⟨j, rfl⟩ : ∃ j : Nat, a = (j : Int) := ⟨a.toNat, by omega⟩
      obtain ⟨g, o, rfl, x1, x2⟩ := hI.at (j := j) (by omega)
      rw [nxt_nat (by omega)]
      generalize (code.getD j (0, 0)).1 = op at x1 ⊢
      generalize (code.getD j (0, 0)).2 = A at x2 ⊢
      rw [hn]
      have y1 : w.cell? ⟨g, o + j * 2, none⟩ = some (.int .i64 op) := x1
      have y2 : w.cell? ⟨g, o + j * 2 + 1, none⟩ = some (.int .i64 A) := x2
      have hgl : g < w.heap.size := World.block_lt_of_cell? _ _ y1
      clear hI x1 x2 hn
      by_cases k1 : op = 43
      · subst k1
        by_cases hA0 : 0 ≤ A
        · by_cases hA1 : A < (nc : Int)
          · obtain ⟨k, rfl⟩ : ∃ k : Nat, A = (k : Int) := ⟨A.toNat, by omega⟩
            have hk : k < nc := by omega
            have hne : ((k : Int) != (k : Int)) = false := by simp
            rw [if_pos rfl, inN_in rfl hk]
            go_enter Try.func12, Try.ntmps12
            go_wp2_with (at_builtin; refine wpList_mst rfl _ _ rfl w.heap.size _ [] rfl (World.ownsRow_nil _ _ _ _) ⟨_, 0, none⟩ 1 [k] rfl (news_one (by simp) (rfl)) (by simp) (by simp; omega) ?_)
            intro v2 w2 hO2 hM
            obtain ⟨g2, c2, rfl, -⟩ := row_form hO2 (by simp)
            simp only [List.length_cons, List.length_nil, Nat.zero_add] at hO2 ⊢
            have HB := Lib.hid (hM.below (bl_al (bl_al (Below.refl _ w) _) _) (by simp; omega) (fun k e => by cases e))
            have HO := Lib.hid hO2
            have hsz := hM.size
            clear hO2 hM
            clear hsz
            go_wp2
            go_ret
            exact ⟨_, rfl, HO.out, HB.out⟩
          · rw [if_pos rfl, inN_out (by omega)]
            go_enter Try.func12, Try.ntmps12
            go_wp2
            go_ret
            exact ⟨_, rfl, World.ownsRow_nil _ _ _ _, bl_al (Below.refl _ w) _⟩
        · rw [if_pos rfl, inN_out (by omega)]
          go_enter Try.func12, Try.ntmps12
          go_wp2
          go_ret
          exact ⟨_, rfl, World.ownsRow_nil _ _ _ _, bl_al (Below.refl _ w) _⟩
      · have b1 : (op == 43) = false := by simpa using k1
        by_cases k2 : op = 44
        · subst k2
          by_cases hA0 : 0 ≤ A
          · by_cases hA1 : A < (nc : Int)
            · obtain ⟨k, rfl⟩ : ∃ k : Nat, A = (k : Int) := ⟨A.toNat, by omega⟩
              have hk : k < nc := by omega
              by_cases hlt : (j : Int) + 1 < (k : Int)
              · have h12 : j + 1 < nc := by omega
                have hne : ((k : Int) != (j : Int) + 1) = true := by simp; omega
                rw [if_neg (by decide), if_pos rfl, show twoN nc ((j : Int) + 1) (k : Int) = [j + 1] ++ [k] from by unfold twoN; rw [if_neg (by omega), if_pos (by omega), inN_in (x := (j : Int) + 1) (k := j + 1) (by omega) h12, inN_in rfl hk]]
                go_enter Try.func12, Try.ntmps12
                go_wp2_with (at_builtin; refine wpList_mst rfl _ _ rfl w.heap.size _ [] rfl (World.ownsRow_nil _ _ _ _) ⟨_, 0, none⟩ 1 [(j + 1)] rfl (news_one (by simp) (show ((j : Int) + 1) = ((j + 1 : Nat) : Int) from by omega)) (by simp) (by simp; omega) ?_)
                intro v2 w2 hO2 hM
                obtain ⟨g2, c2, rfl, -⟩ := row_form hO2 (by simp)
                simp only [List.length_cons, List.length_nil, Nat.zero_add] at hO2 ⊢
                have HB := Lib.hid (hM.below (bl_al (bl_al (Below.refl _ w) _) _) (by simp; omega) (fun k e => by cases e))
                have HO := Lib.hid hO2
                have hsz := hM.size
                clear hO2 hM
                have hsz2 : w.heap.size ≤ w2.heap.size := HB.out.size
                clear hsz
                go_wp2_with (at_builtin; refine wpList_mst rfl _ _ rfl w.heap.size _ [(j + 1)] rfl (World.ownsRow.alloc HO.out _) ⟨_, 0, none⟩ 1 [k] rfl (news_one rfl (rfl)) (by simp) (by simp; omega) ?_)
                intro v3 w3 hO3 hM3
                obtain ⟨q3, c3, rfl⟩ := own_shape hO3
                have HB3 := Lib.hid (hM3.below (HB.out.alloc hsz2 _) (by simp; omega) (fun k e => (World.ownsRow.lt HO.out k e).1))
                have HO3 := Lib.hid hO3
                clear hO3 hM3
                go_wp2
                go_ret
                exact ⟨_, rfl, HO3.out, HB3.out⟩
              · by_cases heq : (j : Int) + 1 = (k : Int)
                · obtain rfl : k = j + 1 := by omega
                  have hne : ((j : Int) + 1 != (j : Int) + 1) = false := by simp
                  rw [show ((j + 1 : Nat) : Int) = (j : Int) + 1 from by omega] at y2
                  clear heq hlt hA0 hA1
                  rw [if_neg (by decide), if_pos rfl, show twoN nc ((j : Int) + 1) ((j + 1 : Nat) : Int) = [j + 1] from by unfold twoN; rw [if_pos (by omega), inN_in (x := (j : Int) + 1) (k := j + 1) (by omega) hk]]
                  go_enter Try.func12, Try.ntmps12
                  go_wp2_with (at_builtin; refine wpList_mst rfl _ _ rfl w.heap.size _ [] rfl (World.ownsRow_nil _ _ _ _) ⟨_, 0, none⟩ 1 [(j + 1)] rfl (news_one (by simp) (show ((j : Int) + 1) = ((j + 1 : Nat) : Int) from by omega)) (by simp) (by simp; omega) ?_)
                  intro v2 w2 hO2 hM
                  obtain ⟨g2, c2, rfl, -⟩ := row_form hO2 (by simp)
                  simp only [List.length_cons, List.length_nil, Nat.zero_add] at hO2 ⊢
                  have HB := Lib.hid (hM.below (bl_al (bl_al (Below.refl _ w) _) _) (by simp; omega) (fun k e => by cases e))
                  have HO := Lib.hid hO2
                  have hsz := hM.size
                  clear hO2 hM
                  clear hsz
                  go_wp2
                  go_ret
                  exact ⟨_, rfl, HO.out, HB.out⟩
                · have hgt : (k : Int) < (j : Int) + 1 := by omega
                  by_cases h12 : j + 1 < nc
                  · have hne : ((j : Int) + 1 != (k : Int)) = true := by simp; omega
                    rw [if_neg (by decide), if_pos rfl, show twoN nc ((j : Int) + 1) (k : Int) = [k] ++ [j + 1] from by unfold twoN; rw [if_neg (by omega), if_neg (by omega), inN_in (x := (j : Int) + 1) (k := j + 1) (by omega) h12, inN_in rfl hk]]
                    go_enter Try.func12, Try.ntmps12
                    go_wp2_with (at_builtin; refine wpList_mst rfl _ _ rfl w.heap.size _ [] rfl (World.ownsRow_nil _ _ _ _) ⟨_, 0, none⟩ 1 [k] rfl (news_one (by simp) (rfl)) (by simp) (by simp; omega) ?_)
                    intro v2 w2 hO2 hM
                    obtain ⟨g2, c2, rfl, -⟩ := row_form hO2 (by simp)
                    simp only [List.length_cons, List.length_nil, Nat.zero_add] at hO2 ⊢
                    have HB := Lib.hid (hM.below (bl_al (bl_al (Below.refl _ w) _) _) (by simp; omega) (fun k e => by cases e))
                    have HO := Lib.hid hO2
                    have hsz := hM.size
                    clear hO2 hM
                    have hsz2 : w.heap.size ≤ w2.heap.size := HB.out.size
                    clear hsz
                    go_wp2_with (at_builtin; refine wpList_mst rfl _ _ rfl w.heap.size _ [k] rfl (World.ownsRow.alloc HO.out _) ⟨_, 0, none⟩ 1 [(j + 1)] rfl (news_one rfl (show ((j : Int) + 1) = ((j + 1 : Nat) : Int) from by omega)) (by simp) (by simp; omega) ?_)
                    intro v3 w3 hO3 hM3
                    obtain ⟨q3, c3, rfl⟩ := own_shape hO3
                    have HB3 := Lib.hid (hM3.below (HB.out.alloc hsz2 _) (by simp; omega) (fun k e => (World.ownsRow.lt HO.out k e).1))
                    have HO3 := Lib.hid hO3
                    clear hO3 hM3
                    go_wp2
                    go_ret
                    exact ⟨_, rfl, HO3.out, HB3.out⟩
                  · rw [if_neg (by decide), if_pos rfl, show twoN nc ((j : Int) + 1) (k : Int) = [k] from by unfold twoN; rw [if_neg (by omega), if_neg (by omega), inN_out (x := (j : Int) + 1) (by omega), inN_in rfl hk, List.append_nil]]
                    go_enter Try.func12, Try.ntmps12
                    go_wp2_with (at_builtin; refine wpList_mst rfl _ _ rfl w.heap.size _ [] rfl (World.ownsRow_nil _ _ _ _) ⟨_, 0, none⟩ 1 [k] rfl (news_one (by simp) (rfl)) (by simp) (by simp; omega) ?_)
                    intro v2 w2 hO2 hM
                    obtain ⟨g2, c2, rfl, -⟩ := row_form hO2 (by simp)
                    simp only [List.length_cons, List.length_nil, Nat.zero_add] at hO2 ⊢
                    have HB := Lib.hid (hM.below (bl_al (bl_al (Below.refl _ w) _) _) (by simp; omega) (fun k e => by cases e))
                    have HO := Lib.hid hO2
                    have hsz := hM.size
                    clear hO2 hM
                    clear hsz
                    go_wp2
                    go_ret
                    exact ⟨_, rfl, HO.out, HB.out⟩
            · by_cases h12 : j + 1 < nc
              · have hne : ((nc : Int) != (j : Int) + 1) = true := by simp; omega
                rw [if_neg (by decide), if_pos rfl, show twoN nc ((j : Int) + 1) A = [j + 1] from twoN_l h12 (by omega)]
                go_enter Try.func12, Try.ntmps12
                go_wp2_with (at_builtin; refine wpList_mst rfl _ _ rfl w.heap.size _ [] rfl (World.ownsRow_nil _ _ _ _) ⟨_, 0, none⟩ 1 [(j + 1)] rfl (news_one (by simp) (show ((j : Int) + 1) = ((j + 1 : Nat) : Int) from by omega)) (by simp) (by simp; omega) ?_)
                intro v2 w2 hO2 hM
                obtain ⟨g2, c2, rfl, -⟩ := row_form hO2 (by simp)
                simp only [List.length_cons, List.length_nil, Nat.zero_add] at hO2 ⊢
                have HB := Lib.hid (hM.below (bl_al (bl_al (Below.refl _ w) _) _) (by simp; omega) (fun k e => by cases e))
                have HO := Lib.hid hO2
                have hsz := hM.size
                clear hO2 hM
                clear hsz
                go_wp2
                go_ret
                exact ⟨_, rfl, HO.out, HB.out⟩
              · rw [if_neg (by decide), if_pos rfl, show twoN nc ((j : Int) + 1) A = [] from twoN_n (by omega) (by omega)]
                go_enter Try.func12, Try.ntmps12
                go_wp2
                go_ret
                exact ⟨_, rfl, World.ownsRow_nil _ _ _ _, bl_al (Below.refl _ w) _⟩
          · by_cases h12 : j + 1 < nc
            · have hne : ((nc : Int) != (j : Int) + 1) = true := by simp; omega
              rw [if_neg (by decide), if_pos rfl, show twoN nc ((j : Int) + 1) A = [j + 1] from twoN_l h12 (by omega)]
              go_enter Try.func12, Try.ntmps12
              go_wp2_with (at_builtin; refine wpList_mst rfl _ _ rfl w.heap.size _ [] rfl (World.ownsRow_nil _ _ _ _) ⟨_, 0, none⟩ 1 [(j + 1)] rfl (news_one (by simp) (show ((j : Int) + 1) = ((j + 1 : Nat) : Int) from by omega)) (by simp) (by simp; omega) ?_)
              intro v2 w2 hO2 hM
              obtain ⟨g2, c2, rfl, -⟩ := row_form hO2 (by simp)
              simp only [List.length_cons, List.length_nil, Nat.zero_add] at hO2 ⊢
              have HB := Lib.hid (hM.below (bl_al (bl_al (Below.refl _ w) _) _) (by simp; omega) (fun k e => by cases e))
              have HO := Lib.hid hO2
              have hsz := hM.size
              clear hO2 hM
              clear hsz
              go_wp2
              go_ret
              exact ⟨_, rfl, HO.out, HB.out⟩
            · rw [if_neg (by decide), if_pos rfl, show twoN nc ((j : Int) + 1) A = [] from twoN_n (by omega) (by omega)]
              go_enter Try.func12, Try.ntmps12
              go_wp2
              go_ret
              exact ⟨_, rfl, World.ownsRow_nil _ _ _ _, bl_al (Below.refl _ w) _⟩
        · have b2 : (op == 44) = false := by simpa using k2
          by_cases k3 : op = 46
          · subst k3
            rw [if_neg (by decide), if_neg (by decide), if_pos rfl]
            go_enter Try.func12, Try.ntmps12
            go_wp2
            go_ret
            exact ⟨_, rfl, ownI_new' nc (by simp) (by omega), bl_al (bl_al (Below.refl _ w) _) _⟩
          · have b3 : (op == 46) = false := by simpa using k3
            by_cases h12 : j + 1 < nc
            · have hne : ((j : Int) + 1 != (j : Int) + 1) = false := by simp
              rw [if_neg k1, if_neg k2, if_neg k3, inN_in (x := (j : Int) + 1) (k := j + 1) (by omega) h12]
              go_enter Try.func12, Try.ntmps12
              go_wp2_with (at_builtin; refine wpList_mst rfl _ _ rfl w.heap.size _ [] rfl (World.ownsRow_nil _ _ _ _) ⟨_, 0, none⟩ 1 [(j + 1)] rfl (news_one (by simp) (show ((j : Int) + 1) = ((j + 1 : Nat) : Int) from by omega)) (by simp) (by simp; omega) ?_)
              intro v2 w2 hO2 hM
              obtain ⟨g2, c2, rfl, -⟩ := row_form hO2 (by simp)
              simp only [List.length_cons, List.length_nil, Nat.zero_add] at hO2 ⊢
              have HB := Lib.hid (hM.below (bl_al (bl_al (Below.refl _ w) _) _) (by simp; omega) (fun k e => by cases e))
              have HO := Lib.hid hO2
              have hsz := hM.size
              clear hO2 hM
              clear hsz
              go_wp2
              go_ret
              exact ⟨_, rfl, HO.out, HB.out⟩
            · rw [if_neg k1, if_neg k2, if_neg k3, inN_out (by omega)]
              go_enter Try.func12, Try.ntmps12
              go_wp2
              go_ret
              exact ⟨_, rfl, World.ownsRow_nil _ _ _ _, bl_al (Below.refl _ w) _⟩
    · have hnx : nxt code a = [] := nxt_none (by omega)
      rw [hnx]
      go_enter Try.func12, Try.ntmps12
      go_wp2
      go_ret
      exact ⟨_, rfl, World.ownsRow_nil _ _ _ _, bl_al (Below.refl _ w) _⟩
  · have hnx : nxt code a = [] := nxt_none (by omega)
    rw [hnx]
    go_enter Try.func12, Try.ntmps12
    go_wp2
    go_ret
    exact ⟨_, rfl, World.ownsRow_nil _ _ _ _, bl_al (Below.refl _ w) _⟩
end
end Go.Proofs.Ythgcnlccikpmaaa
