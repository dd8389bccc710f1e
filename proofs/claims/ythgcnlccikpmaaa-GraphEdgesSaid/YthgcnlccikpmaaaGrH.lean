/- The document's Ahead. -/
import Derived.Test.YthgcnlccikpmaaaGrG
namespace Go.Proofs.Ythgcnlccikpmaaa
open Go Go.RowKit Go.Proofs.Mm
def ahK (c : Cd) (a : Int) (k : Nat) : List Nat := (List.range k).filter fun b : Nat => edB c (b : Int) a
theorem ahK_succ (c : Cd) (a : Int) (k : Nat) : ahK c a (k + 1) = ahK c a k ++ if edB c (k : Int) a then [k] else [] := by
  unfold ahK
  rw [List.range_succ, List.filter_append]
  congr 1
  simp only [List.filter_cons, List.filter_nil]
theorem ahK_len (c : Cd) (a : Int) (k : Nat) : (ahK c a k).length ≤ k := by
  have := List.length_filter_le (fun b : Nat => edB c (b : Int) a) (List.range k)
  rwa [List.length_range] at this
theorem ahK_end (c : Cd) (a : Int) : ahK c a (c.length + 1) = ahd c a := by
  rw [ahK_succ]
  have : edB c (c.length : Int) a = false := by
    unfold edB
    rw [nxt_none (by omega)]
    rfl
  rw [this]
  simp [ahK, ahd, edB]
section
variable (lv : Int) (qp : Option Addr) (np cp : Nat) (qr : Option Addr) (nr cr : Nat) (lo stk : Int) (qc : Option Addr) (nc cc : Nat)
theorem inAt_le {w W : World} {code : Cd} (hI : InAt (wC w) qc code) (hB : Below w.heap.size w W) : InAt (wC W) qc code := fun i hi => by
  obtain ⟨g, o, e, h1, h2⟩ := hI i hi
  exact ⟨g, o, e, below_cle hB _ _ h1, below_cle hB _ _ h2⟩
set_option maxRecDepth 100000 in
set_option maxHeartbeats 1000000 in
theorem refAhead_any {w : World} {code : Cd} (hI : InAt (wC w) qc code) (hn : code.length = nc) (hm : nc ≤ cc) (hm2 : cc ≤ maxLen) (hnc : nc ≤ 1000) (a : Int) :
    Calls Try.prog 13 #[fnV lv qp np cp qr nr cr lo stk qc nc cc, .int .i64 a] w fun e w' => ∃ v, e = .returned v ∧ OwnI w.heap.size w' v (ahd code a) ∧ Below w.heap.size w w' := by
  have HE := Lib.hid (fun (W : World) (h : Below w.heap.size w W) (k : Int) => edge_any lv qp np cp qr nr cr lo stk qc nc cc (inAt_le qc hI h) hn hm hm2 k a)
  have HN := Lib.hid hn
  clear hI hn hm hm2
  go_enter Try.func13, Try.ntmps13
  go_wp2
  go_loopw [5, 6] (fun v i wr => ∃ k : Nat, k ≤ nc + 1 ∧ i = .int .i64 k ∧ OwnI w.heap.size wr v (ahK code a k) ∧ Below w.heap.size w wr ∧ InB wr w.heap.size (fnC lv qp np cp qr nr cr lo stk qc nc cc) 27) (fun _ i _ => nc + 1 - (intOf i).toNat)
  case atStart => exact ⟨0, by omega, rfl, World.ownsRow_nil _ _ _ _, (Below.refl _ w).alloc (Nat.le_refl _) _, InB.new _ _ _⟩
  case round =>
    obtain ⟨k, hk, rfl, hO, hB, hF⟩ := hrel
    have g0 := hF.cell (j := 0) rfl
    have g1 := hF.cell (j := 1) rfl
    have g2 := hF.cell (j := 2) rfl
    have g3 := hF.cell (j := 3) rfl
    have g4 := hF.cell (j := 4) rfl
    have g5 := hF.cell (j := 5) rfl
    obtain ⟨q, c, rfl⟩ := own_shape hO
    by_cases hlt : k < nc + 1
    · have hki : (k : Int) ≤ (nc : Int) := by omega
      have HED := Lib.hid (HE.out wr hB k)
      have HS := Lib.hid (ahK_succ code a k)
      have hln := ahK_len code a k
      have HO := Lib.hid hO
      have HB := Lib.hid hB
      have HF := Lib.hid hF
      clear hO hB hF
      cases hed : edB code (k : Int) a with
      | true =>
        rw [hed] at HED HS
        clear hed
        go_wp2_with fail
        go_at_call 29
        refine HED.out.mono ?_
        rintro e w2 ⟨rfl, hb2⟩
        have HO2 := Lib.hid (show OwnI w.heap.size w2 _ _ from own_chg HO.out (Below.chg hb2 (Nat.le_refl _) (fun _ => False)) (fun _ _ e => e))
        have HB2 := Lib.hid (HB.out.trans (hb2.mono HB.out.size))
        have HF2 := Lib.hid (HF.out.le hb2)
        have hsz := HB2.out.size
        clear hb2 HED g0 g1 g2 g3 g4 g5
        go_wp2_with (at_builtin; refine wpList_mst rfl _ _ rfl w.heap.size _ (ahK code a k) rfl (World.ownsRow.alloc HO2.out _) ⟨_, 0, none⟩ 1 [k] rfl (news_one rfl rfl) (by simp; omega) (by simp; omega) ?_)
        intro v3 w3 hO3 hM
        obtain ⟨q3, c3, rfl⟩ := own_shape hO3
        have hnb := own_neB HO2.out HF2.out (by decide)
        have HFIN := Lib.hid (show OwnI w.heap.size w3 (.slice q3 (ahK code a k ++ [k]).length c3) (ahK code a (k + 1)) ∧ Below w.heap.size w w3 ∧ InB w3 w.heap.size (fnC lv qp np cp qr nr cr lo stk qc nc cc) 27 from
          ⟨by rw [HS.out]; exact hO3, hM.below (HB2.out.alloc hsz _) (by simp; omega) (fun j e => (HO2.out.lt j e).1), hM.inB (heap_new _ _ HF2.out) hnb⟩)
        clear hM hO3 hnb
        go_wp2
        exact ⟨⟨k + 1, by omega, by go_num, HFIN.out⟩, by simp [intOf]; omega⟩
      | false =>
        rw [hed] at HED HS
        clear hed
        go_wp2_with fail
        go_at_call 29
        refine HED.out.mono ?_
        rintro e w2 ⟨rfl, hb2⟩
        have HO2 := Lib.hid (show OwnI w.heap.size w2 (.slice q (ahK code a k).length c) (ahK code a (k + 1)) from by rw [HS.out]; simpa using (show OwnI w.heap.size w2 _ _ from own_chg HO.out (Below.chg hb2 (Nat.le_refl _) (fun _ => False)) (fun _ _ e => e)))
        have HB2 := Lib.hid (HB.out.trans (hb2.mono HB.out.size))
        have HF2 := Lib.hid (HF.out.le hb2)
        clear hb2 HED g0 g1 g2 g3 g4 g5
        go_wp2
        exact ⟨⟨k + 1, by omega, by go_num, HO2.out, HB2.out, HF2.out⟩, by simp [intOf]; omega⟩
    · obtain rfl : k = nc + 1 := by omega
      have hall : ahK code a (nc + 1) = ahd code a := by rw [← HN.out, ahK_end]
      have HO := Lib.hid hO
      have hlt2 : ¬ ((nc + 1 : Nat) : Int) ≤ (nc : Int) := by omega
      clear hO
      go_wp2
      go_ret
      exact ⟨_, rfl, hall ▸ HO.out, hB⟩
end
end Go.Proofs.Ythgcnlccikpmaaa
