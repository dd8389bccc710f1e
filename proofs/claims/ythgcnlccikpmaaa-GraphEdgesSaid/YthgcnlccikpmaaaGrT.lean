/- The law's given code, and awake. -/
import Derived.Test.YthgcnlccikpmaaaGrR
import Derived.Test.YthgcnlccikpmaaaGrQ
import Derived.Test.YthgcnlccikpmaaaGrP
namespace Go.Proofs.Ythgcnlccikpmaaa
open Go Go.RowKit Go.Proofs.Mm
theorem own_code {w : World} {B n c : Nat} {q : Option Addr} {l : Cd} (h : w.ownsRow B 46 2 (.slice q n c) n (cC l)) (hn : n = l.length) : InAt (wC w) q l ∧ n ≤ c ∧ c ≤ maxLen := by
  obtain ⟨h1, ⟨h2, h0⟩ | ⟨g, cap, cur, h2, h3, h4, h5, h6, h7, h8⟩⟩ := h
  · injection h2 with e1 e2 e3
    subst e1 e3 h0
    refine ⟨fun j hj => by omega, Nat.le_refl _, by unfold maxLen; omega⟩
  · injection h2 with e1 e2 e3
    subst e1 e3
    refine ⟨fun j hj => ?_, h5, h6⟩
    have hat : ∀ j u, (cC l)[j]? = some u → w.cell? ⟨g, j, none⟩ = some u := fun j u hu => by
      rw [cell_of_row w g j cur 46 (0, 0) h4]
      rw [← h8, List.getElem?_take] at hu
      split at hu
      · simpa using hu
      · cases hu
    have hE : Enc inR (cC l) l := by
      clear hat h1 h8 hj hn
      induction l with
      | nil => rfl
      | cons x l ih => exact ⟨[.int .i64 x.1, .int .i64 x.2], cC l, rfl, rfl, ih⟩
    obtain ⟨_, ha⟩ := encZ_at in_len hE
    obtain ⟨c', hc', he⟩ := ha j hj
    have hc2 : c' = [.int .i64 l[j].1, .int .i64 l[j].2] := hc'
    subst hc2
    refine ⟨g, 0, rfl, ?_, ?_⟩
    · have := hat (j * 2 + 0) _ ((he 0 (by decide)).trans rfl)
      simpa [wC] using this
    · have := hat (j * 2 + 1) _ ((he 1 (by decide)).trans rfl)
      simpa [wC] using this
theorem nmC_at : ∀ (l : Cd) (j : Nat), j < l.length → ((nmC l).map (fun x => Value.int .i64 x))[2 * j]? = some (.int .i64 (l.getD j (0, 0)).1) ∧ ((nmC l).map (fun x => Value.int .i64 x))[2 * j + 1]? = some (.int .i64 (l.getD j (0, 0)).2)
  | [], j, hj => by simp at hj
  | x :: l, 0, _ => ⟨rfl, rfl⟩
  | x :: l, j + 1, hj => by
    have := nmC_at l j (by simpa using hj)
    rw [show 2 * (j + 1) = 2 * j + 1 + 1 by omega]
    exact this
/-- The numbers of a code in a new row. -/
theorem code_lit {W : World} {b : Nat} {l : Cd} {cs : Array Value} (hcs : cs.toList = (nmC l).map (fun x => Value.int .i64 x)) (hb : W.heap.size = b) : ∀ j, j < l.length → ∃ g o, (some ⟨b, 0, none⟩ : Option Addr) = some ⟨g, o, none⟩ ∧ (W.alloc (.cells cs 3)).cell? ⟨g, o + 2 * j, none⟩ = some (.int .i64 (l.getD j (0, 0)).1) ∧ (W.alloc (.cells cs 3)).cell? ⟨g, o + (2 * j + 1), none⟩ = some (.int .i64 (l.getD j (0, 0)).2) := by
  subst hb
  intro j hj
  obtain ⟨h1, h2⟩ := nmC_at l j hj
  refine ⟨_, 0, rfl, ?_, ?_⟩
  · rw [Nat.zero_add, World.cell?_alloc_new, ← Array.getElem?_toList, hcs, h1]
  · rw [Nat.zero_add, World.cell?_alloc_new, ← Array.getElem?_toList, hcs, h2]
def gC : Cd := [(32, 1), (44, 4), (42, 0), (43, 1), (46, 0)]
set_option maxRecDepth 100000 in
set_option maxHeartbeats 1000000 in
theorem given_any (w : World) : Calls Try.prog 22 #[] w fun e w' => ∃ q c, e = .returned (.agg (fZ (.slice q 5 c))) ∧ InAt (wC w') q gC ∧ 5 ≤ c ∧ c ≤ maxLen ∧ Below w.heap.size w w' := by
  go_enter Try.func22, Try.ntmps22
  go_wp2_with fail
  go_at_call 23
  refine (code_any gC (by decide) (code_lit (l := gC) rfl (by simp))).mono ?_
  rintro e w' ⟨v, rfl, hO, hB⟩
  obtain ⟨q, c, rfl⟩ := own_shape hO
  have hI := own_code hO rfl
  have hB0 : Below w.heap.size w w' := bl_tr (bl_al (bl_al (Below.refl _ w) _) _) hB
  have h0 : InB w' w.heap.size (fZ (.slice none 0 0)) 27 := InB.le (heap_new _ _ (InB.new w _ _)) hB
  have l0 := h0.free 0
  have l1 := h0.free 1
  have l2 := h0.free 2
  have l3 := h0.free 3
  have l4 := h0.free 4
  have l5 := h0.free 5
  have k0 := h0.cell (j := 0) rfl
  have k1 := h0.cell (j := 1) rfl
  have k2 := h0.cell (j := 2) rfl
  have k3 := h0.cell (j := 3) rfl
  have k4 := h0.cell (j := 4) rfl
  have k5 := h0.cell (j := 5) rfl
  have HO := Lib.hid hO
  have HB0 := Lib.hid hB0
  clear hO hB hI hB0
  go_wp2
  (try simp only [Exit.inBlock, Exit.then])
  obtain ⟨d9, u1, u2⟩ := undFn
  have hx3 := heap_set (heap_set (heap_set (heap_set (heap_set (heap_set h0 0 (.int .u64 0)) 1 (.slice none 0 0)) 2 (.slice none 0 0)) 3 (.int .i64 0)) 4 (.int .i64 0)) 5 (.slice q gC.length c)
  refine bodyPost_ret (v := .agg (fZ (.slice q gC.length c))) ?_ rfl ?_
  · exact results_cell_row rfl _ _ w.heap.size 27 (fZ (.slice q gC.length c)) (0,0) d9 rfl hx3 u1 (by cases d9 <;> first | rfl | cases u2) sizeFn
  have hC : ∀ (W : World) i v, Chg (fun j => j = w.heap.size) W (W.setCell ⟨w.heap.size, i, none⟩ v) := fun W i v => (Chg.refl (fun j => j = w.heap.size) W).setCell (.inl rfl) _
  have hne : ∀ j, (Value.slice q gC.length c).ownBlock = some j → ¬ j = w.heap.size := fun j hj e => own_neT HO.out h0 (by decide) (by rw [hj, e])
  have hI := own_code (own_chg (own_chg (own_chg (own_chg (own_chg (own_chg HO.out (hC _ 0 (.int .u64 0)) hne) (hC _ 1 (.slice none 0 0)) hne) (hC _ 2 (.slice none 0 0)) hne) (hC _ 3 (.int .i64 0)) hne) (hC _ 4 (.int .i64 0)) hne) (hC _ 5 (.slice q gC.length c)) hne) rfl
  exact ⟨q, c, rfl, hI.1, hI.2.1, hI.2.2, (((((HB0.out.setCell (Nat.le_refl _) _).setCell (Nat.le_refl _) _).setCell (Nat.le_refl _) _).setCell (Nat.le_refl _) _).setCell (Nat.le_refl _) _).setCell (Nat.le_refl _) _⟩
theorem lit_ReI {W : World} {b : Nat} {l : List Nat} {cs : Array Value} (hcs : cs.toList = cI l) (hb : W.heap.size = b) (hl : l.length ≤ 1000) : ReI (wC (W.alloc (.cells cs 3))) (.slice (some ⟨b, 0, none⟩) l.length l.length) l := by
  subst hb
  refine ⟨_, _, rfl, Nat.le_refl _, by unfold maxLen; omega, .inr ⟨_, 0, rfl, fun j u hu => ?_⟩⟩
  unfold wC
  rw [Nat.zero_add, World.cell?_alloc_new, ← Array.getElem?_toList, hcs]
  exact hu
theorem lit_ReT {W : World} {b : Nat} {l : List Bool} {cs : Array Value} (hcs : cs.toList = cB l) (hb : W.heap.size = b) (hl : l.length ≤ 1000) : ReT (wC (W.alloc (.cells cs 4))) (.slice (some ⟨b, 0, none⟩) l.length l.length) l := by
  subst hb
  refine ⟨_, _, rfl, Nat.le_refl _, by unfold maxLen; omega, .inr ⟨_, 0, rfl, fun j u hu => ?_⟩⟩
  unfold wC
  rw [Nat.zero_add, World.cell?_alloc_new, ← Array.getElem?_toList, hcs]
  exact hu
theorem below_al {W : World} (o : Obj) : Below W.heap.size W (W.alloc o) := bl_al (Below.refl _ W) o
theorem below_drN {n : Nat} {A W : World} (h : Below n A W) (k : Nat) : Below n A (W.drewN k) := ⟨h.os, h.tape, h.output, h.size, h.block⟩
theorem gC_next1 : nxt gC 1 = [2, 4] := by decide
theorem gC_next4 : nxt gC 4 = [5] := by decide
theorem gC_ahead1 : ahd gC 1 = [0, 3] := by decide
theorem gC_reach4 : rch (fun x => nxt gC x) 6 4 = [false, false, false, false, true, true] := by
  symm
  refine rch_of rfl rfl (fun a ha b hb => ?_) (fun b hb hx => ?_)
  · match a with
    | 0 => cases ha
    | 1 => cases ha
    | 2 => cases ha
    | 3 => cases ha
    | 4 =>
      have : b ∈ [5] := hb
      rw [List.mem_singleton.1 this]; rfl
    | 5 => cases (show b ∈ [] from hb)
    | a + 6 => simp at ha
  · match b, hb with
    | 0, _ => cases hx
    | 1, _ => cases hx
    | 2, _ => cases hx
    | 3, _ => cases hx
    | 4, _ => exact .here
    | 5, _ => exact Way.here.on (show 5 ∈ nxt gC 4 from by decide)
set_option maxRecDepth 100000 in
set_option maxHeartbeats 2000000 in
theorem awake_true (w : World) : Calls Try.prog 7 #[] w fun e w' => e = .returned (.bool true) ∧ Below w.heap.size w w' := by
  have HG := Lib.hid (given_any w)
  go_enter Try.func7, Try.ntmps7
  go_wp2_with fail
  go_at_call 22
  refine HG.out.mono ?_
  rintro e w1 ⟨q, c, rfl, hI, hc1, hc2, hB1⟩
  have HN := Lib.hid (fun (W : World) (h : Below w1.heap.size w1 W) (a : Int) => next_any 0 none 0 0 none 0 0 0 0 q 5 c (inAt_le q hI h) rfl hc1 hc2 a)
  have HA := Lib.hid (fun (W : World) (h : Below w1.heap.size w1 W) (a : Int) => ahead_any 0 none 0 0 none 0 0 0 0 q 5 c (inAt_le q hI h) rfl hc1 hc2 (by decide) a)
  have HR := Lib.hid (fun (W : World) (h : Below w1.heap.size w1 W) (a : Int) => reach_any 0 none 0 0 none 0 0 0 0 q 5 c (inAt_le q hI h) rfl hc1 hc2 (by decide) a)
  have HB1 := Lib.hid hB1
  clear HG hI hc1 hc2 hB1
  go_wp2_with fail
  obtain ⟨W2, hW⟩ : ∃ W, w1.alloc (.cells (fZ (.slice q 5 c)) 27) = W := ⟨_, rfl⟩
  have HB2 := Lib.hid (show Below w1.heap.size w1 W2 by rw [← hW]; exact below_al _)
  have HF2 := Lib.hid (show InB W2 w1.heap.size (fZ (.slice q 5 c)) 27 by rw [← hW]; exact InB.new _ _ _)
  rw [hW]
  clear hW
  go_at_call 9
  refine (HN.out W2 HB2.out 1).mono ?_
  rintro e V2 ⟨v2, rfl, hO, hb⟩
  rw [show nxt gC 1 = [2, 4] from gC_next1] at hO
  obtain ⟨q2, c2, rfl⟩ := own_shape hO
  have HR2 := Lib.hid hO.re
  have HBv2 := Lib.hid (HB2.out.trans (hb.mono HB2.out.size))
  have HFv2 := Lib.hid (HF2.out.le hb)
  have hlt2 := HFv2.out.lt
  have g0 := HFv2.out.cell (j := 0) rfl
  have g1 := HFv2.out.cell (j := 1) rfl
  have g2 := HFv2.out.cell (j := 2) rfl
  have g3 := HFv2.out.cell (j := 3) rfl
  have g4 := HFv2.out.cell (j := 4) rfl
  have g5 := HFv2.out.cell (j := 5) rfl
  clear hO hb
  go_wp2_with fail
  clear g0 g1 g2 g3 g4 g5
  go_at_call 11
  refine (ints_true (l := [2, 4]) (HR2.out.le (below_cle (below_al _))) (lit_ReI (l := [2, 4]) (cs := #[.int .i64 2, .int .i64 4]) rfl rfl (by decide))).mono ?_
  rintro e z2 ⟨rfl, j2, rfl⟩
  obtain ⟨W3, hW⟩ : ∃ W, (V2.alloc (.cells #[.int .i64 2, .int .i64 4] 3)).drewN j2 = W := ⟨_, rfl⟩
  have HB3 := Lib.hid (show Below w1.heap.size w1 W3 by rw [← hW]; exact below_drN (HBv2.out.alloc HBv2.out.size _) _)
  have HF3 := Lib.hid (show InB W3 w1.heap.size (fZ (.slice q 5 c)) 27 by rw [← hW]; exact heap_new _ _ HFv2.out)
  rw [hW]
  have g0 := HF3.out.cell (j := 0) rfl
  have g1 := HF3.out.cell (j := 1) rfl
  have g2 := HF3.out.cell (j := 2) rfl
  have g3 := HF3.out.cell (j := 3) rfl
  have g4 := HF3.out.cell (j := 4) rfl
  have g5 := HF3.out.cell (j := 5) rfl
  clear hW HR2 HBv2 HFv2 hlt2 HB2 HF2
  go_wp2_with fail
  clear g0 g1 g2 g3 g4 g5
  go_at_call 9
  refine (HN.out W3 HB3.out 4).mono ?_
  rintro e V3 ⟨v3, rfl, hO, hb⟩
  rw [show nxt gC 4 = [5] from gC_next4] at hO
  obtain ⟨q3, c3, rfl⟩ := own_shape hO
  have HR3 := Lib.hid hO.re
  have HBv3 := Lib.hid (HB3.out.trans (hb.mono HB3.out.size))
  have HFv3 := Lib.hid (HF3.out.le hb)
  have hlt3 := HFv3.out.lt
  have g0 := HFv3.out.cell (j := 0) rfl
  have g1 := HFv3.out.cell (j := 1) rfl
  have g2 := HFv3.out.cell (j := 2) rfl
  have g3 := HFv3.out.cell (j := 3) rfl
  have g4 := HFv3.out.cell (j := 4) rfl
  have g5 := HFv3.out.cell (j := 5) rfl
  clear hO hb
  go_wp2_with fail
  clear g0 g1 g2 g3 g4 g5
  go_at_call 11
  refine (ints_true (l := [5]) (HR3.out.le (below_cle (below_al _))) (lit_ReI (l := [5]) (cs := #[.int .i64 5]) rfl rfl (by decide))).mono ?_
  rintro e z3 ⟨rfl, j3, rfl⟩
  obtain ⟨W4, hW⟩ : ∃ W, (V3.alloc (.cells #[.int .i64 5] 3)).drewN j3 = W := ⟨_, rfl⟩
  have HB4 := Lib.hid (show Below w1.heap.size w1 W4 by rw [← hW]; exact below_drN (HBv3.out.alloc HBv3.out.size _) _)
  have HF4 := Lib.hid (show InB W4 w1.heap.size (fZ (.slice q 5 c)) 27 by rw [← hW]; exact heap_new _ _ HFv3.out)
  rw [hW]
  have g0 := HF4.out.cell (j := 0) rfl
  have g1 := HF4.out.cell (j := 1) rfl
  have g2 := HF4.out.cell (j := 2) rfl
  have g3 := HF4.out.cell (j := 3) rfl
  have g4 := HF4.out.cell (j := 4) rfl
  have g5 := HF4.out.cell (j := 5) rfl
  clear hW HR3 HBv3 HFv3 hlt3 HB3 HF3
  go_wp2_with fail
  clear g0 g1 g2 g3 g4 g5
  go_at_call 10
  refine (HA.out W4 HB4.out 1).mono ?_
  rintro e V4 ⟨v4, rfl, hO, hb⟩
  rw [show ahd gC 1 = [0, 3] from gC_ahead1] at hO
  obtain ⟨q4, c4, rfl⟩ := own_shape hO
  have HR4 := Lib.hid hO.re
  have HBv4 := Lib.hid (HB4.out.trans (hb.mono HB4.out.size))
  have HFv4 := Lib.hid (HF4.out.le hb)
  have hlt4 := HFv4.out.lt
  have g0 := HFv4.out.cell (j := 0) rfl
  have g1 := HFv4.out.cell (j := 1) rfl
  have g2 := HFv4.out.cell (j := 2) rfl
  have g3 := HFv4.out.cell (j := 3) rfl
  have g4 := HFv4.out.cell (j := 4) rfl
  have g5 := HFv4.out.cell (j := 5) rfl
  clear hO hb
  go_wp2_with fail
  clear g0 g1 g2 g3 g4 g5
  go_at_call 11
  refine (ints_true (l := [0, 3]) (HR4.out.le (below_cle (below_al _))) (lit_ReI (l := [0, 3]) (cs := #[.int .i64 0, .int .i64 3]) rfl rfl (by decide))).mono ?_
  rintro e z4 ⟨rfl, j4, rfl⟩
  obtain ⟨W5, hW⟩ : ∃ W, (V4.alloc (.cells #[.int .i64 0, .int .i64 3] 3)).drewN j4 = W := ⟨_, rfl⟩
  have HB5 := Lib.hid (show Below w1.heap.size w1 W5 by rw [← hW]; exact below_drN (HBv4.out.alloc HBv4.out.size _) _)
  have HF5 := Lib.hid (show InB W5 w1.heap.size (fZ (.slice q 5 c)) 27 by rw [← hW]; exact heap_new _ _ HFv4.out)
  rw [hW]
  have g0 := HF5.out.cell (j := 0) rfl
  have g1 := HF5.out.cell (j := 1) rfl
  have g2 := HF5.out.cell (j := 2) rfl
  have g3 := HF5.out.cell (j := 3) rfl
  have g4 := HF5.out.cell (j := 4) rfl
  have g5 := HF5.out.cell (j := 5) rfl
  clear hW HR4 HBv4 HFv4 hlt4 HB4 HF4
  go_wp2_with fail
  clear g0 g1 g2 g3 g4 g5
  go_at_call 15
  refine (HR.out W5 HB5.out 4).mono ?_
  rintro e V5 ⟨v5, rfl, hO, hb⟩
  rw [if_pos (by decide)] at hO
  rw [show rch (fun x : Nat => nxt gC (x : Int)) (5 + 1) (Int.toNat 4) = [false, false, false, false, true, true] from gC_reach4] at hO
  obtain ⟨q5, c5, rfl⟩ := own_shape hO
  have HR5 := Lib.hid hO.re
  have HBv5 := Lib.hid (HB5.out.trans (hb.mono HB5.out.size))
  have HFv5 := Lib.hid (HF5.out.le hb)
  have hlt5 := HFv5.out.lt
  have g0 := HFv5.out.cell (j := 0) rfl
  have g1 := HFv5.out.cell (j := 1) rfl
  have g2 := HFv5.out.cell (j := 2) rfl
  have g3 := HFv5.out.cell (j := 3) rfl
  have g4 := HFv5.out.cell (j := 4) rfl
  have g5 := HFv5.out.cell (j := 5) rfl
  clear hO hb
  go_wp2_with fail
  clear g0 g1 g2 g3 g4 g5
  go_at_call 14
  refine (bools_true (l := [false, false, false, false, true, true]) (HR5.out.le (below_cle (below_al _))) (lit_ReT (l := [false, false, false, false, true, true]) (cs := #[.bool false, .bool false, .bool false, .bool false, .bool true, .bool true]) rfl rfl (by decide))).mono ?_
  rintro e z5 ⟨rfl, j5, rfl⟩
  obtain ⟨W6, hW⟩ : ∃ W, (V5.alloc (.cells #[.bool false, .bool false, .bool false, .bool false, .bool true, .bool true] 4)).drewN j5 = W := ⟨_, rfl⟩
  have HB6 := Lib.hid (show Below w1.heap.size w1 W6 by rw [← hW]; exact below_drN (HBv5.out.alloc HBv5.out.size _) _)
  have HF6 := Lib.hid (show InB W6 w1.heap.size (fZ (.slice q 5 c)) 27 by rw [← hW]; exact heap_new _ _ HFv5.out)
  rw [hW]
  have g0 := HF6.out.cell (j := 0) rfl
  have g1 := HF6.out.cell (j := 1) rfl
  have g2 := HF6.out.cell (j := 2) rfl
  have g3 := HF6.out.cell (j := 3) rfl
  have g4 := HF6.out.cell (j := 4) rfl
  have g5 := HF6.out.cell (j := 5) rfl
  clear hW HR5 HBv5 HFv5 hlt5 HB5 HF5
  clear g0 g1 g2 g3 g4 g5
  go_wp2
  go_ret
  exact ⟨rfl, bl_tr HB1.out HB6.out⟩
end Go.Proofs.Ythgcnlccikpmaaa
