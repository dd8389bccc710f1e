/- Next, the document's too. -/
import Derived.Test.YthgcnlccikpmaaaGrD
namespace Go.Proofs.Ythgcnlccikpmaaa
open Go Go.RowKit Go.Proofs.Mm
theorem InAt.at {C : Cl} {q : Option Addr} {l : Cd} (h : InAt C q l) {j : Nat} (hj : j < l.length) : ∃ g o, q = some ⟨g, o, none⟩ ∧ C ⟨g, o + j * 2, none⟩ = some (.int .i64 (l.getD j (0, 0)).1) ∧ C ⟨g, o + j * 2 + 1, none⟩ = some (.int .i64 (l.getD j (0, 0)).2) := by
  obtain ⟨g, o, h1, h2, h3⟩ := h j hj
  have e : l.getD j (0, 0) = l[j] := by simp [hj]
  rw [e]
  exact ⟨g, o, h1, h2, h3⟩
theorem nxt_nat {c : Cd} {j : Nat} (h : j < c.length) : nxt c (j : Int) = if (c.getD j (0, 0)).1 = 43 then inN c.length (c.getD j (0, 0)).2
    else if (c.getD j (0, 0)).1 = 44 then twoN c.length (j + 1) (c.getD j (0, 0)).2
    else if (c.getD j (0, 0)).1 = 46 then [c.length]
    else inN c.length (j + 1) := by
  unfold nxt
  rw [if_pos ⟨by omega, by omega⟩]
  simp
theorem numsAt_new (W : World) (l : List Int) : NumsAt (W.alloc (.cells (l.map fun x => Value.int .i64 x).toArray 2)) (some ⟨W.heap.size, 0, none⟩) l := by
  intro j hj
  refine ⟨_, 0, rfl, ?_⟩
  rw [Nat.zero_add, World.cell?_alloc_new]
  simp [hj]
theorem numsAt_one {W : World} {b : Nat} (x : Int) (hb : W.heap.size = b) : NumsAt (W.alloc (.cells #[.int .i64 x] 2)) (some ⟨b, 0, none⟩) [x] := by subst hb; exact numsAt_new W [x]
theorem numsAt_two {W : World} {b : Nat} (x y : Int) (hb : W.heap.size = b) : NumsAt (W.alloc (.cells #[.int .i64 x, .int .i64 y] 2)) (some ⟨b, 0, none⟩) [x, y] := by subst hb; exact numsAt_new W [x, y]
theorem ownI_new {B : Nat} {W : World} (x : Nat) (hB : B ≤ W.heap.size) : OwnI B (W.alloc (.cells #[.int .i64 (x : Nat)] 3)) (.slice (some ⟨W.heap.size, 0, none⟩) 1 1) [x] :=
  ⟨by rfl, .inr ⟨_, 1, #[.int .i64 (x : Nat)], rfl, hB, InB.new _ _ _, Nat.le_refl _, by unfold maxLen; omega, rfl, rfl⟩⟩
theorem ownI_new' {B b : Nat} {W : World} (x : Nat) (hb : W.heap.size = b) (hB : B ≤ b) : OwnI B (W.alloc (.cells #[.int .i64 (x : Nat)] 3)) (.slice (some ⟨b, 0, none⟩) 1 1) [x] := by subst hb; exact ownI_new x hB
theorem own_base {B B' n size : Nat} {E : TypeId} {w : World} {v : Value} {xs : List Value} (h : w.ownsRow B' E size v n xs) (hb : B ≤ B') : w.ownsRow B E size v n xs := by
  refine ⟨h.1, ?_⟩
  rcases h.2 with h0 | ⟨g, cap, cur, rfl, hg, rest⟩
  · exact .inl h0
  · exact .inr ⟨g, cap, cur, rfl, Nat.le_trans hb hg, rest⟩
section
variable (lv : Int) (qp : Option Addr) (np cp : Nat) (qr : Option Addr) (nr cr : Nat) (lo stk : Int) (qc : Option Addr) (nc cc : Nat)
set_option maxRecDepth 100000 in
set_option maxHeartbeats 1000000 in
theorem next_any {w : World} {code : Cd} (hI : InAt (wC w) qc code) (hn : code.length = nc) (hm : nc ≤ cc) (hm2 : cc ≤ maxLen) (a : Int) :
    Calls Try.prog 9 #[fnV lv qp np cp qr nr cr lo stk qc nc cc, .int .i64 a] w fun e w' => ∃ v, e = .returned v ∧ OwnI w.heap.size w' v (nxt code a) ∧ Below w.heap.size w w' := by
  unfold maxLen at hm2
  by_cases h0 : 0 ≤ a
  · by_cases h1 : a < (nc : Int)
    · obtain ⟨j, rfl⟩ : ∃ j : Nat, a = (j : Int) := ⟨a.toNat, by omega⟩
      obtain ⟨g, o, rfl, x1, x2⟩ := hI.at (j := j) (by omega)
      rw [nxt_nat (by omega)]
      generalize (code.getD j (0, 0)).1 = op at x1 ⊢
      generalize (code.getD j (0, 0)).2 = A at x2 ⊢
      rw [hn]
      have y1 : w.cell? ⟨g, o + j * 2, none⟩ = some (.int .i64 op) := x1
      have y2 : w.cell? ⟨g, o + j * 2 + 1, none⟩ = some (.int .i64 A) := x2
      have hA : ∀ W (q : Option Addr) (c : Nat) (xs : List Int), xs.length ≤ 2 → NumsAt W q xs → Calls Try.prog 27 #[fnV lv qp np cp qr nr cr lo stk (some ⟨g, o, none⟩) nc cc, .slice q xs.length c] W fun e w' => ∃ v, e = .returned v ∧ OwnI W.heap.size w' v (uni (srt (flt nc xs))) ∧ Below W.heap.size W w' :=
        fun W q c xs h1 h2 => addresses_any lv qp np cp qr nr cr lo stk (some ⟨g, o, none⟩) nc cc h1 h2
      have hgl : g < w.heap.size := World.block_lt_of_cell? _ _ y1
      have HA := Lib.hid hA
      clear hA hI x1 x2 hn
      by_cases k1 : op = 43
      · subst k1
        rw [if_pos rfl]
        go_enter Try.func9, Try.ntmps9
        go_wp2_with fail
        go_at_call 27
        refine (HA.out _ _ _ [A] (by simp) (numsAt_one A (by simp))).mono ?_
        rintro e w' ⟨v, rfl, hO, hB⟩
        have hB' : Below w.heap.size w w' := bl_tr (bl_al (bl_al (bl_al (Below.refl _ w) _) _) _) hB
        have hO' := own_base (B := w.heap.size) hO (by simp; omega)
        rw [uni_one] at hO'
        clear hO hB
        go_wp2
        go_ret
        exact ⟨_, rfl, hO', hB'⟩
      · rw [if_neg k1]
        have b1 : (op == 43) = false := by simpa using k1
        by_cases k2 : op = 44
        · subst k2
          rw [if_pos rfl]
          go_enter Try.func9, Try.ntmps9
          go_wp2_with fail
          go_at_call 27
          refine (HA.out _ _ _ [(j : Int) + 1, A] (by simp) (numsAt_two ((j : Int) + 1) A (by simp))).mono ?_
          rintro e w' ⟨v, rfl, hO, hB⟩
          have hB' : Below w.heap.size w w' := bl_tr (bl_al (bl_al (bl_al (Below.refl _ w) _) _) _) hB
          have hO' := own_base (B := w.heap.size) hO (by simp; omega)
          rw [uni_two] at hO'
          clear hO hB
          go_wp2
          go_ret
          exact ⟨_, rfl, hO', hB'⟩
        · rw [if_neg k2]
          have b2 : (op == 44) = false := by simpa using k2
          by_cases k3 : op = 46
          · subst k3
            rw [if_pos rfl]
            go_enter Try.func9, Try.ntmps9
            go_wp2
            go_ret
            exact ⟨_, rfl, ownI_new' nc (by simp) (by omega), bl_al (bl_al (bl_al (Below.refl _ w) _) _) _⟩
          · rw [if_neg k3]
            have b3 : (op == 46) = false := by simpa using k3
            go_enter Try.func9, Try.ntmps9
            go_wp2_with fail
            go_at_call 27
            refine (HA.out _ _ _ [(j : Int) + 1] (by simp) (numsAt_one ((j : Int) + 1) (by simp))).mono ?_
            rintro e w' ⟨v, rfl, hO, hB⟩
            have hB' : Below w.heap.size w w' := bl_tr (bl_al (bl_al (bl_al (Below.refl _ w) _) _) _) hB
            have hO' := own_base (B := w.heap.size) hO (by simp; omega)
            rw [uni_one] at hO'
            clear hO hB
            go_wp2
            go_ret
            exact ⟨_, rfl, hO', hB'⟩
    · have hnx : nxt code a = [] := nxt_none (by omega)
      rw [hnx]
      go_enter Try.func9, Try.ntmps9
      go_wp2
      go_ret
      exact ⟨_, rfl, World.ownsRow_nil _ _ _ _, bl_al (Below.refl _ w) _⟩
  · have hnx : nxt code a = [] := nxt_none (by omega)
    rw [hnx]
    go_enter Try.func9, Try.ntmps9
    go_wp2
    go_ret
    exact ⟨_, rfl, World.ownsRow_nil _ _ _ _, bl_al (Below.refl _ w) _⟩
end
end Go.Proofs.Ythgcnlccikpmaaa
