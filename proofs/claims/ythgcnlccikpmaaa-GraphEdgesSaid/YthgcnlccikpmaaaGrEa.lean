/- Edges: a copy of the code, and its sequence. -/
import Derived.Test.YthgcnlccikpmaaaGrT
import Derived.Test.YthgcnlccikpmaaaGrOb
namespace Go.Proofs.Ythgcnlccikpmaaa
open Go Go.RowKit Go.Proofs.Mm
theorem enc_cC : ∀ {l : Cd} {cs : List Value}, Enc inR cs l → cs = cC l
  | [], _, h => h
  | x :: l, cs, ⟨c, r, e, h1, h2⟩ => by
    have h3 : c = [.int .i64 x.1, .int .i64 x.2] := h1
    rw [e, h3, enc_cC h2]
    simp [cC]
theorem code_not_nil (ad : Addr) (n c : Nat) (w : World) : (binOp .eql 25 (.slice (some ad) n c) (.slice none 0 0)).run Try.prog w = .ok (.bool false) w := by kernel_rfl
theorem func_nil (l : Array Value) (W : World) : (binOp .eql 43 (.func (.func 40) #[] l) .nilFunc).run Try.prog W = .ok (.bool false) W := by kernel_rfl
set_option maxRecDepth 100000 in
set_option maxHeartbeats 1000000 in
theorem cloneCode_any {w : World} {q : Option Addr} {n c : Nat} {l : Cd} (h : CdR true (wC w) (.slice q n c) l) :
    Calls Try.prog 37 #[.slice q n c] w fun e w' => ∃ q' c', e = .returned (.slice q' n c') ∧ w'.ownsRow w.heap.size 46 2 (.slice q' n c') n (cC l) ∧ Below w.heap.size w w' := by
  obtain ⟨q0, c0, cs, e0, hcap, hr, he, hb, hmax, hqn, hlc⟩ := h
  injection e0 with e1 e2 e3
  subst e1 e2 e3
  obtain ⟨n, hn⟩ : ∃ n, l.length = n := ⟨_, rfl⟩
  obtain ⟨hcl, _⟩ := encZ_at in_len he
  have hon := one_enc in_one he
  obtain rfl := enc_cC he
  rw [hn] at hcl hb hlc hcap ⊢
  have hc1 : n + 1 ≤ c := by
    rcases hcap with h | h
    · simp [mkI] at h
    · exact h
  rcases hr with hr | ⟨g, o, rfl, hr⟩
  · have := (List.append_eq_nil_iff.1 hr).2
    simp [mkI] at this
  obtain ⟨i2, h2, h3, h4, h5⟩ := infoI
  have hq := code_not_nil ⟨g, o, none⟩ n c w
  have hR0 := World.ownsRow_lit (base := w.heap.size) (e := 46) (size := 2) w #[] 0 (Nat.le_refl _) (by unfold maxLen; omega) rfl
  have hB0 : Below w.heap.size w (w.alloc (.cells #[] 46)) := (Below.refl _ w).alloc (Nat.le_refl _) _
  have hcl' : ∀ (j : Nat) (u : Value), (cC l)[j]? = some u → (w.alloc (.cells #[] 46)).cell? ((⟨g, o, none⟩ : Addr).add j) = some u := by
    intro j u h
    rw [show ((⟨g, o, none⟩ : Addr).add j) = ⟨g, o + j, none⟩ from by unfold Addr.add; split <;> simp_all]
    have hc : w.cell? ⟨g, o + j, none⟩ = some u := hr j u (by rw [List.getElem?_append_left ((List.getElem?_eq_some_iff.1 h).1)]; exact h)
    exact (hB0.cell (World.block_lt_of_cell? _ _ hc)).trans hc
  clear hr he hcap
  go_enter Try.func37, Try.ntmps37
  go_wp2_with (at_builtin; refine wpList_append_own _ rfl _ _ 25 rfl w.heap.size 46 i2 (.agg #[.int .i64 0, .int .i64 0]) 2 16 und_I h2 h3 h4 h5 rfl (by omega) _ 0 [] rfl hR0 ⟨g, o, none⟩ n c (cC l) rfl hcl hcl' hon (by unfold maxLen; omega) (by omega) (by simp) ?_)
  intro v2 w2 hR2 hg2 _
  obtain ⟨q, c', rfl⟩ := own_shape hR2
  have hB2 : Below w.heap.size w w2 := grown_below hB0 (by simp) hg2 (fun j hj => (hR0.lt j hj).1)
  have HB2 := Lib.hid hB2
  clear hg2 hR0 hB0 hB2
  have HR := Lib.hid hR2
  clear hR2
  go_wp2
  go_ret
  exact ⟨_, _, rfl, by simpa using HR.out, HB2.out⟩
section
variable (lv : Int) (qp : Option Addr) (np cp : Nat) (qr : Option Addr) (nr cr : Nat) (lo stk : Int) (qc : Option Addr) (nc cc : Nat)
set_option maxRecDepth 100000 in
set_option maxHeartbeats 1000000 in
theorem edgesFn_any {w : World} {l : Cd} (h : CdR true (wC w) (.slice qc nc cc) l) :
    Calls Try.prog 21 #[fnV lv qp np cp qr nr cr lo stk qc nc cc] w fun e w' => ∃ b q' c', e = .returned (.func (.func 40) #[] #[.pointer (some ⟨b, 0, none⟩)]) ∧ w.heap.size ≤ b ∧ InB w' b (fZ (.slice q' nc c')) 27 ∧ w'.ownsRow w.heap.size 46 2 (.slice q' nc c') nc (cC l) ∧ Below w.heap.size w w' := by
  have HC := Lib.hid (fun (W : World) (hb : Below w.heap.size w W) => cloneCode_any (w := W) (h.le (below_cle hb)))
  have HE := Lib.hid (fun (q' : Option Addr) (c' : Nat) (W : World) => edgesOf_any 0 none 0 0 none 0 0 0 0 q' nc c' W)
  clear h
  go_enter Try.func21, Try.ntmps21
  go_wp2_with fail
  go_at_call 37
  refine (HC.out _ (below_al _)).mono ?_
  rintro e w2 ⟨q', c', rfl, hO, hb⟩
  have HO := Lib.hid (own_base (B := w.heap.size) hO (by simp))
  have HB := Lib.hid (bl_tr (below_al _) hb)
  clear hO hb
  go_wp2_with fail
  go_at_call 28
  refine (HE.out q' c' w2).mono ?_
  rintro e w3 ⟨rfl, rfl⟩
  go_wp2
  go_ret
  exact ⟨_, q', c', rfl, HB.out.size, InB.new _ _ _, own_chg HO.out (Below.chg (below_al _) (Nat.le_refl _) (fun _ => False)) (fun _ _ e => e), bl_al HB.out _⟩
end
end Go.Proofs.Ythgcnlccikpmaaa
