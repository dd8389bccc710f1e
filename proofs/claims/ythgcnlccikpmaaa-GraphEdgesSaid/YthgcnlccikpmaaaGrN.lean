/- Reach. -/
import Derived.Test.YthgcnlccikpmaaaGrKc
import Derived.Test.YthgcnlccikpmaaaGrE
import Derived.Test.YthgcnlccikpmaaaCoLd
namespace Go.Proofs.Ythgcnlccikpmaaa
open Go Go.RowKit Go.Proofs.Mm
theorem nxt_lt {c : Cd} {a : Int} {b : Nat} (h : b ∈ nxt c a) : b < c.length + 1 := by have := nxt_le h; omega
/-- A row of the call's own is known from now on. -/
theorem own_known {w w' : World} {B : Nat} {m : Mem} {v : Value} {l : List Nat} (h : OwnI B w' v l) (hm : Has w' m) (hB : w.heap.size ≤ B) (hf : ∀ k, w.heap.size ≤ k → m k = none) : ∃ m', m.More w m' ∧ Has w' m' ∧ ReI (mC m') v l := by
  obtain ⟨m', h1, h2, h3, h4⟩ := RowM.done h hm (fun k hk => hf k (by have := (h.lt k hk).1; omega))
  obtain ⟨q, c, rfl⟩ := own_shape h
  have hc : l.length ≤ c ∧ c ≤ maxLen := by
    rcases h.2 with ⟨e, h0⟩ | ⟨g, cap, cur, e, _, _, e1, e2, _⟩
    · injection e with _ _ e; subst e; unfold maxLen; omega
    · injection e with _ _ e; subst e; exact ⟨e1, e2⟩
  refine ⟨m', ⟨h1, fun k hk hlt => ?_⟩, h3, q, c, rfl, hc.1, hc.2, RowM.rdO h4⟩
  cases hx : m' k with
  | none => rfl
  | some o =>
    rcases h2 k (by rw [hx]; simp) with h5 | h5
    · exact absurd hk h5
    · have := (h.lt k h5).1
      omega
theorem ownT_new' {B b n : Nat} {W : World} (L : List Bool) (hl : L.length = n) (hb : W.heap.size = b) (hB : B ≤ b) (hn : n ≤ maxLen := by unfold maxLen; omega) : OwnT B (W.alloc (.cells (cB L).toArray 4)) (.slice (some ⟨b, 0, none⟩) n n) L := by
  subst hb hl
  exact ⟨by rw [cB_len]; simp, .inr ⟨_, L.length, _, rfl, hB, InB.new _ _ _, Nat.le_refl _, hn, by simp [cB_len], by simp [List.take_of_length_le, cB_len]⟩⟩
section
variable (lv : Int) (qp : Option Addr) (np cp : Nat) (qr : Option Addr) (nr cr : Nat) (lo stk : Int) (qc : Option Addr) (nc cc : Nat)
set_option maxRecDepth 100000 in
set_option maxHeartbeats 1000000 in
theorem reach1_any {w : World} {code : Cd} (hI : InAt (wC w) qc code) (hn : code.length = nc) (hm : nc ≤ cc) (hm2 : cc ≤ maxLen) {b : Nat} (hb : InB w b (fnC lv qp np cp qr nr cr lo stk qc nc cc) 27) (a : Int) :
    Calls Try.prog 31 #[.int .i64 a, .pointer (some ⟨b, 0, none⟩)] w fun e w' => ∃ v, e = .returned v ∧ OwnI w.heap.size w' v (nxt code a) ∧ Below w.heap.size w w' := by
  have HN := Lib.hid (next_any lv qp np cp qr nr cr lo stk qc nc cc hI hn hm hm2 a)
  have c0 := hb.cell (j := 0) rfl
  have c1 := hb.cell (j := 1) rfl
  have c2 := hb.cell (j := 2) rfl
  have c3 := hb.cell (j := 3) rfl
  have c4 := hb.cell (j := 4) rfl
  have c5 := hb.cell (j := 5) rfl
  clear hI
  go_enter Try.func31, Try.ntmps31
  go_wp2_with (go_at_call 9; refine HN.out.mono ?_; rintro e w' ⟨v, rfl, hO, hB⟩)
  go_ret
  exact ⟨_, rfl, hO, hB⟩
set_option maxRecDepth 100000 in
set_option maxHeartbeats 1000000 in
theorem reach_any {w : World} {code : Cd} (hI : InAt (wC w) qc code) (hn : code.length = nc) (hm : nc ≤ cc) (hm2 : cc ≤ maxLen) (hnc : nc ≤ 1000) (a : Int) :
    Calls Try.prog 15 #[fnV lv qp np cp qr nr cr lo stk qc nc cc, .int .i64 a] w fun e w' => ∃ v, e = .returned v ∧ OwnT w.heap.size w' v (if 0 ≤ a ∧ a ≤ nc then rch (fun x => nxt code x) (nc + 1) a.toNat else List.replicate (nc + 1) false) ∧ Below w.heap.size w w' := by
  have HI := Lib.hid hI
  clear hI
  by_cases h0 : 0 ≤ a
  · by_cases h1 : a ≤ (nc : Int)
    · obtain ⟨j, rfl⟩ : ∃ j : Nat, a = (j : Int) := ⟨a.toNat, by omega⟩
      rw [if_pos ⟨h0, h1⟩, Int.toNat_natCast]
      obtain ⟨W1, hW1⟩ : ∃ W1, w.alloc (.cells (fnC lv qp np cp qr nr cr lo stk qc nc cc) 27) = W1 := ⟨_, rfl⟩
      have hF : InB W1 w.heap.size (fnC lv qp np cp qr nr cr lo stk qc nc cc) 27 := by rw [← hW1]; exact InB.new _ _ _
      have hB1 : Below w.heap.size w W1 := by rw [← hW1]; exact (Below.refl _ _).alloc (Nat.le_refl _) _
      have HV := Lib.hid (visited_any (w := W1) (m0 := fun _ => none) (N := nc + 1) (s := j) (nx := fun x => nxt code x) (K := 31) (ca := #[.pointer (some ⟨w.heap.size, 0, none⟩)]) (fun _ _ e => by cases e) (by omega) (by omega) (fun a b hb => by have := nxt_lt hb; omega) (enters_of Try.func31 (by kernel_rfl) rfl) (by
        intro W m x hB hH _ hx
        have hI2 : InAt (wC W) qc code := fun i hi => by
          obtain ⟨g, o, e, h1, h2⟩ := HI.out i hi
          have hW : Below w.heap.size w W := hB1.trans (hB.mono hB1.size)
          exact ⟨g, o, e, below_cle hW _ _ h1, below_cle hW _ _ h2⟩
        refine (reach1_any lv qp np cp qr nr cr lo stk qc nc cc hI2 hn hm hm2 (hF.le hB) (x : Nat)).mono ?_
        rintro e W' ⟨v, rfl, hO, hBW⟩
        obtain ⟨m', k1, k2, k3⟩ := own_known (w := W) hO (has_grown hH hBW) (Nat.le_refl _) (fun k hk => hH.lt hk)
        exact ⟨v, m', rfl, hBW, k1, k2, k3⟩))
      have HB := Lib.hid hB1
      have c5 := hF.cell (j := 5) (v := .slice qc nc cc) rfl
      clear hF hB1
      unfold maxLen at hm2
      go_enter Try.func15, Try.ntmps15
      go_upto_region 1 with (fail)
      try rw [hW1]
      clear hW1
      go_wp2_with (go_at_call 30; refine HV.out.mono ?_; rintro e w' ⟨v, rfl, hO, hBW⟩)
      go_ret
      exact ⟨_, rfl, own_base hO HB.out.size, HB.out.trans (hBW.mono HB.out.size)⟩
    · rw [if_neg (by omega)]
      have hmk := fun W => mk_bools (nc + 1) (by omega) W
      rw [show ((nc + 1 : Nat) : Int) = (nc : Int) + 1 from by omega] at hmk
      unfold maxLen at hm2
      have hge : (nc : Int) + 1 ≤ a := by omega
      go_enter Try.func15, Try.ntmps15
      go_wp2
      go_ret
      exact ⟨_, rfl, ownT_new' _ (by simp) (by simp) (by omega), bl_al (bl_al (Below.refl _ w) _) _⟩
  · rw [if_neg (by omega)]
    have hmk := fun W => mk_bools (nc + 1) (by omega) W
    rw [show ((nc + 1 : Nat) : Int) = (nc : Int) + 1 from by omega] at hmk
    unfold maxLen at hm2
    go_enter Try.func15, Try.ntmps15
    go_wp2
    go_ret
    exact ⟨_, rfl, ownT_new' _ (by simp) (by simp) (by omega), bl_al (bl_al (Below.refl _ w) _) _⟩
end
end Go.Proofs.Ythgcnlccikpmaaa
