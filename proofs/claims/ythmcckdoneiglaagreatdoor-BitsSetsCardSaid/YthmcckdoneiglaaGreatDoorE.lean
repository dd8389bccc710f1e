/- goodNames of package bits: for every list of names and every memory in which it lies. -/
import Derived.Test.YthmcckdoneiglaaGreatDoorD
import Derived.WalkLawsBesides
import Derived.Laws.NewBlocks
namespace Go.Proofs.YthmcckdoneiglaaGreatDoor
open Go Go.RowKit

def blank64 : Array Value := Array.replicate 64 (.string ByteArray.empty)
theorem mk64 (w : World) : (Instr.makeSlice 51 (.int .i64 64) (.int .i64 64)).run Tryz.prog w = .ok (.slice (some ⟨w.heap.size, 0, none⟩) 64 64) (w.alloc (.cells blank64 9)) := by kernel_rfl

/-- A list of strings as a slice at p has it, in blocks below B. -/
def StrIn (B : Nat) (w : World) (p : Option Addr) (ns : List ByteArray) : Prop :=
  ∀ i, i < ns.length → ∃ b off, p = some ⟨b, off, none⟩ ∧ b < B ∧ w.cell? ⟨b, off + i, none⟩ = some (.string (ns.getD i ByteArray.empty))

/-- The good names of a list, after k of its entries: 64 places, an empty string where no good name stands. -/
def gl (ns : List ByteArray) : Nat → List ByteArray
  | 0 => List.replicate 64 ByteArray.empty
  | k + 1 => if wfB (ns.getD k ByteArray.empty).data.toList && !(Lib.containsS ((gl ns k).take k) (ns.getD k ByteArray.empty)) then (gl ns k).set k (ns.getD k ByteArray.empty) else gl ns k
theorem gl_length (ns : List ByteArray) : ∀ k, (gl ns k).length = 64
  | 0 => by simp [gl]
  | k + 1 => by
    have := gl_length ns k
    unfold gl
    split
    · simpa using this
    · exact this
theorem gl_keep {ns : List ByteArray} {k : Nat} (h : wfB (ns.getD k ByteArray.empty).data.toList = false) : gl ns (k + 1) = gl ns k := by
  simp only [gl, h, Bool.false_and, Bool.false_eq_true, if_false]
theorem gl_dup {ns : List ByteArray} {k : Nat} (h : Lib.containsS ((gl ns k).take k) (ns.getD k ByteArray.empty) = true) : gl ns (k + 1) = gl ns k := by
  simp only [gl, h, Bool.not_true, Bool.and_false, Bool.false_eq_true, if_false]
theorem gl_set {ns : List ByteArray} {k : Nat} (h : wfB (ns.getD k ByteArray.empty).data.toList = true) (h2 : Lib.containsS ((gl ns k).take k) (ns.getD k ByteArray.empty) = false) : gl ns (k + 1) = (gl ns k).set k (ns.getD k ByteArray.empty) := by
  rw [gl, h, h2]; rfl

/-- 64 strings lie in block B, which may be written. -/
def GoodAt (W : World) (B : Nat) (zs : List ByteArray) : Prop :=
  ∀ j, j < 64 → W.cell? ⟨B, j, none⟩ = some (.string (zs.getD j ByteArray.empty)) ∧ W.frozen? ⟨B, j, none⟩ = false

theorem good_start (w : World) : GoodAt (w.alloc (.cells blank64 9)) w.heap.size (List.replicate 64 ByteArray.empty) := by
  intro j hj
  constructor
  · rw [World.cell?_alloc_new]
    unfold blank64
    rw [Array.getElem?_replicate, if_pos hj, List.getD_eq_getElem?_getD, List.getElem?_replicate, if_pos hj]
    rfl
  · rw [World.frozen?_alloc_new]

theorem good_store {W : World} {B : Nat} {zs : List ByteArray} (h : GoodAt W B zs) (hl : zs.length = 64) {k : Nat} (hk : k < 64) (x : ByteArray) :
    GoodAt (W.setCell ⟨B, k, none⟩ (.string x)) B (zs.set k x) := by
  intro j hj
  rw [World.frozen?_setCell]
  refine ⟨?_, (h j hj).2⟩
  by_cases e : k = j
  · subst e
    rw [World.cell?_setCell_same _ _ _ (h k hk).1]
    simp [List.getD, hl, hk]
  · rw [World.cell?_setCell_other _ _ _ _ (by intro h; exact e (by injection h)), (h j hj).1]
    simp [List.getD, List.getElem?_set_ne e]

theorem GoodAt.below {W W' : World} {B : Nat} {zs : List ByteArray} (h : GoodAt W B zs) {n : Nat} (hb : Below n W W') (hB : B < n) : GoodAt W' B zs := fun j hj =>
  ⟨(hb.cell (p := ⟨B, j, none⟩) hB).trans (h j hj).1, (hb.frozen (p := ⟨B, j, none⟩) hB).trans (h j hj).2⟩

set_option maxRecDepth 100000 in
set_option maxHeartbeats 1000000 in
theorem good_any (p : Option Addr) (c : Nat) (ns : List ByteArray) (w : World) (hn : ns.length ≤ maxLen) (hz : ∀ i, (ns.getD i ByteArray.empty).size ≤ maxLen) (hs : StrIn w.heap.size w p ns) :
    Calls Tryz.prog 34 #[.slice p ns.length c] w fun e w' => e = .returned (.slice (some ⟨w.heap.size, 0, none⟩) 64 64) ∧ GoodAt w' w.heap.size (gl ns (min ns.length 64)) ∧ Below w.heap.size w w' ∧ w.heap.size < w'.heap.size := by
  unfold maxLen at hn
  have hmk := mk64
  obtain ⟨m, hm⟩ : ∃ m, min ns.length 64 = m := ⟨_, rfl⟩
  have hm1 : m ≤ ns.length := by omega
  have hm2 : m ≤ 64 := by omega
  have hmin : min (ns.length : Int) 64 = (m : Int) := by omega
  rw [hm]
  clear hm
  go_enter Tryz.func34, Tryz.ntmps34
  go_wp2
  go_loopw [11] (fun i wr => ∃ k : Nat, k ≤ m ∧ i = .int .i64 k ∧ Hid (GoodAt wr w.heap.size (gl ns k)) ∧ Below w.heap.size w wr ∧ w.heap.size < wr.heap.size)
    (fun i _ => m - (intOf i).toNat)
  case atStart => exact ⟨0, Nat.zero_le _, rfl, Lib.hid (good_start w), (Below.refl _ _).alloc (Nat.le_refl _) _, by simp⟩
  case round =>
    obtain ⟨k, hk, rfl, HG, hB, hsz⟩ := hrel
    by_cases hlt : k < m
    · obtain ⟨b, off, rfl, hb, hc⟩ := hs k (by omega)
      have hc' := (hB.cell (p := ⟨b, off + k, none⟩) hb).trans hc
      obtain ⟨x, hx⟩ : ∃ x, ns.getD k ByteArray.empty = x := ⟨_, rfl⟩
      have hxs := hz k
      rw [hx] at hc' hxs
      have HX := Lib.hid hx
      clear hx hc hs hz hmk
      have hki : (k : Int) < ns.length := by omega
      have hwf : ∀ q, Calls Tryz.prog 46 #[.string x] (wr.drewN q) fun e w' => e = .returned (.bool (wfB x.data.toList)) ∧ w' = wr.drewN q := fun q => (wf_any x hxs _).mono fun _ _ ⟨a, b⟩ => ⟨a, b.symm⟩
      cases hw : wfB x.data.toList with
      | false =>
        rw [hw] at hwf
        have HN := Lib.hid (gl_keep (ns := ns) (k := k) (by rw [HX.out]; exact hw))
        have HWF := Lib.hid hwf
        clear hw hwf
        go_wp2
        go_quiet ((go_at_call 46; exact Calls.quiet_of_same (HWF.out _)))
        go_wp2
        exact ⟨⟨k + 1, by omega, by go_num, Lib.hid (by rw [HN.out]; exact HG.out), below_drewN hB _, hsz⟩, by simp [intOf]; omega⟩
      | true =>
        rw [hw] at hwf
        have hct : ∀ q, Calls Tryz.prog 47 #[.slice (some ⟨w.heap.size, 0, none⟩) k 64, .string x] (wr.drewN q) fun e w' => e = .returned (.bool (Lib.containsS ((gl ns k).take k) x)) ∧ w' = wr.drewN q := fun q =>
          Tryz.slices_Contains_string w.heap.size 0 k 64 (gl ns k) x _ (by rw [gl_length]; omega) (by omega) (fun j hj => by rw [Nat.zero_add]; exact (HG.out j (by rw [gl_length] at hj; exact hj)).1)
        cases hct1 : Lib.containsS ((gl ns k).take k) x with
        | true =>
          rw [hct1] at hct
          have HN := Lib.hid (gl_dup (ns := ns) (k := k) (by rw [HX.out]; exact hct1))
          have HWF := Lib.hid hwf
          have HCT := Lib.hid hct
          clear hw hwf hct hct1
          go_wp2
          go_quiet ((first | (go_at_call 46; exact Calls.quiet_of_same (HWF.out _)) | (go_at_call 47; exact Calls.quiet_of_same (HCT.out _))))
          go_wp2
          exact ⟨⟨k + 1, by omega, by go_num, Lib.hid (by rw [HN.out]; exact HG.out), below_drewN hB _, hsz⟩, by simp [intOf]; omega⟩
        | false =>
          rw [hct1] at hct
          have HN := Lib.hid (gl_set (ns := ns) (k := k) (by rw [HX.out]; exact hw) (by rw [HX.out]; exact hct1))
          have HWF := Lib.hid hwf
          have HCT := Lib.hid hct
          obtain ⟨hold, hfz⟩ := HG.out k (by omega)
          clear hw hwf hct hct1
          go_wp2
          go_quiet ((first | (go_at_call 46; exact Calls.quiet_of_same (HWF.out _)) | (go_at_call 47; exact Calls.quiet_of_same (HCT.out _))))
          go_wp2
          exact ⟨⟨k + 1, by omega, by go_num, Lib.hid (by rw [HN.out, HX.out]; exact good_store (W := wr.drewN nq) HG.out (gl_length ns k) (by omega) x), (below_drewN hB _).setCell (Nat.le_refl _) _, by rw [World.size_setCell]; exact hsz⟩, by simp [intOf]; omega⟩
    · have hkm : k = m := by omega
      have HK := Lib.hid hkm
      clear hkm
      go_wp2
      go_ret
      refine ⟨rfl, ?_, hB, hsz⟩
      rw [← HK.out]
      exact HG.out
end Go.Proofs.YthmcckdoneiglaaGreatDoor
