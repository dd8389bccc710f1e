/- isBlank of package bits: for every rune. -/
import Derived.Test.YthmcckdoneiglaaGreatDoorG
import Derived.Deep.DeepCutAuto
namespace Go.Proofs.YthmcckdoneiglaaGreatDoor
open Go Go.RowKit

theorem conv_rune (r : Int) : ∀ W, (convert 21 9 (.int .i32 r)).run Tryz.prog W = .ok (.string (Utf8.encode r)) W := fun _ => by kernel_rfl

set_option maxRecDepth 100000 in
set_option maxHeartbeats 1000000 in
theorem index_inv (r : Nat) (h1 : 128 ≤ r) (hne : r ≠ 65533) (hb : Lib.validRune (r : Int) = false) (w : World) :
    Calls Tryz.prog 73 #[.string ⟨#[9, 32]⟩, .int .i32 (r : Int)] w fun e w' => e = .returned (.int .i64 (-1)) ∧ Below w.heap.size w w' := by
  have hn : ((r : Int) == 65533) = false := by simp; omega
  clear hne
  have hv := same_flip (Tryz.utf8_ValidRune (r : Int) w)
  rw [hb] at hv
  clear hb
  go_enter Tryz.func73, Tryz.ntmps73
  go_wp2_with (go_at_call 79; refine hv.mono ?_; rintro e w' ⟨rfl, rfl⟩)
  go_ret
  exact ⟨rfl, Below.refl _ _⟩

set_option maxRecDepth 100000 in
set_option maxHeartbeats 1000000 in
theorem index_long (r : Nat) (h1 : 128 ≤ r) (hne : r ≠ 65533) (hb : Lib.validRune (r : Int) = true) (E : ByteArray) (hE : Utf8.encode (r : Int) = E) (h3 : 3 ≤ E.size) (h4 : E.size ≤ 4) (w : World) :
    Calls Tryz.prog 73 #[.string ⟨#[9, 32]⟩, .int .i32 (r : Int)] w fun e w' => e = .returned (.int .i64 (-1)) ∧ Below w.heap.size w w' := by
  have hn : ((r : Int) == 65533) = false := by simp; omega
  clear hne
  have hv := same_flip (Tryz.utf8_ValidRune (r : Int) w)
  have hcv := conv_rune (r : Int)
  rw [hE] at hcv
  rw [hb] at hv
  clear hb hE
  go_enter Tryz.func73, Tryz.ntmps73
  go_upto_region 1 with (go_at_call 79; refine hv.mono ?_; rintro e w' ⟨rfl, rfl⟩)
  go_step3
  go_upto_region 5 with (fail)
  refine wp_loop_rounds 1 ?_
  rw [rounds_succ]
  go_wp2
  rw [Exit.noGoto_ret]
  go_ret
  exact ⟨rfl, Below.refl _ _⟩

theorem empty_index (x : Int) (w : World) : Calls Tryz.prog 78 #[.string ByteArray.empty, .int .u8 x] w fun e w' => e = .returned (.int .i64 (-1)) ∧ w' = w :=
  Tryz.strings_IndexByte ByteArray.empty x w

set_option maxRecDepth 100000 in
set_option maxHeartbeats 1000000 in
theorem index_two (r : Nat) (h1 : 128 ≤ r) (hne : r ≠ 65533) (hb : Lib.validRune (r : Int) = true) (c d : UInt8) (hE : Utf8.encode (r : Int) = ⟨#[c, d]⟩) (h3 : 128 ≤ d.toNat) (w : World) :
    Calls Tryz.prog 73 #[.string ⟨#[9, 32]⟩, .int .i32 (r : Int)] w fun e w' => e = .returned (.int .i64 (-1)) ∧ Below w.heap.size w w' := by
  have hn : ((r : Int) == 65533) = false := by simp; omega
  clear hne
  have hv := same_flip (Tryz.utf8_ValidRune (r : Int) w)
  have hcv := conv_rune (r : Int)
  rw [hE] at hcv
  rw [hb] at hv
  clear hb hE
  go_enter Tryz.func73, Tryz.ntmps73
  go_upto_region 1 with (go_at_call 79; refine hv.mono ?_; rintro e w' ⟨rfl, rfl⟩)
  go_step3
  go_upto_region 5 with (fail)
  refine wp_loop_rounds 1 ?_
  rw [rounds_succ]
  go_upto_region 6 with (fail)
  go_step3
  have hd : (((⟨#[9, 32]⟩ : ByteArray)[1]'(by decide)).toNat : Int) != (((⟨#[c, d]⟩ : ByteArray)[1]'(by simp [ByteArray.size])).toNat : Int) := by
    show ((32 : Int) != (d.toNat : Int)) = true
    simp; omega
  go_wp2
  go_quiet (fail)
  have hB1 := below_drewN (Below.refl w.heap.size w) nq
  generalize w.drewN nq = w1 at hB1
  go_wp2
  go_quiet ((go_at_call 78; exact Calls.quiet_of_same (empty_index _ _)))
  go_wp2
  rw [Exit.noGoto_ret]
  go_wp2
  rw [Exit.noGoto_ret]
  go_ret
  exact ⟨rfl, below_drewN hB1 _⟩

set_option maxRecDepth 100000 in
set_option maxHeartbeats 1000000 in
theorem index_err (w : World) :
    Calls Tryz.prog 73 #[.string ⟨#[9, 32]⟩, .int .i32 65533] w fun e w' => e = .returned (.int .i64 (-1)) ∧ Below w.heap.size w w' := by
  go_enter Tryz.func73, Tryz.ntmps73
  go_wp2
  go_loopw [] (fun wr => ∃ pos : Nat, pos ≤ 2 ∧ wr.heap[w.heap.size]? = some (.stringIter ⟨#[9, 32]⟩ pos) ∧ Below w.heap.size w wr) (fun wr => 2 - wr.iterPos w.heap.size)
  case atStart =>
    refine ⟨0, by omega, ?_, (Below.refl w.heap.size w).alloc (Nat.le_refl _) _⟩
    exact World.iter_heap w ⟨#[9, 32]⟩ 0
  case round =>
    obtain ⟨pos, hp, hit, hB⟩ := hrel
    by_cases hlt : pos < 2
    · have hnx : ∀ ty, (Instr.next (.pointer (some ⟨w.heap.size, 0, none⟩)) true ty).run Tryz.prog wr = _ := fun ty => Lib.run_next_any_at wr w.heap.size ⟨#[9, 32]⟩ pos ty hit hlt
      have hit2 := Lib.iterAt_heap wr w.heap.size ⟨#[9, 32]⟩ pos (pos + 1) hit
      have hB2 := Lib.below_iterAt hB (k := w.heap.size) (Nat.le_refl _) ⟨#[9, 32]⟩ (pos + 1)
      have hd : Utf8.decode ⟨#[9, 32]⟩ pos = (9, 1) ∨ Utf8.decode ⟨#[9, 32]⟩ pos = (32, 1) := by
        rcases (show pos = 0 ∨ pos = 1 by omega) with rfl | rfl
        · left; decide
        · right; decide
      rcases hd with hd | hd
      · rw [hd] at hnx
        clear hd
        go_wp2
        go_roundw
        case rel => exact ⟨pos + 1, by omega, hit2, hB2⟩
        case measure => simp only [World.iterPos, hit2, hit]; omega
      · rw [hd] at hnx
        clear hd
        go_wp2
        go_roundw
        case rel => exact ⟨pos + 1, by omega, hit2, hB2⟩
        case measure => simp only [World.iterPos, hit2, hit]; omega
    · have hnx : ∀ ty, (Instr.next (.pointer (some ⟨w.heap.size, 0, none⟩)) true ty).run Tryz.prog wr = _ := fun ty => Lib.run_next_end_at wr w.heap.size ⟨#[9, 32]⟩ pos ty hit hlt
      go_wp2
      go_ret
      exact ⟨rfl, hB⟩

theorem encode_shape (r : Nat) (h1 : 128 ≤ r) (hb : Lib.validRune (r : Int) = true) :
    (∃ c d : UInt8, Utf8.encode (r : Int) = ⟨#[c, d]⟩ ∧ 128 ≤ d.toNat) ∨ (3 ≤ (Utf8.encode (r : Int)).size ∧ (Utf8.encode (r : Int)).size ≤ 4) := by
  have hv : Utf8.valid (r : Int) = true := by
    unfold Lib.validRune at hb
    unfold Utf8.valid
    simp only [decide_eq_true_eq] at hb
    simp; omega
  unfold Utf8.encode
  simp only [hv, if_true, Int.toNat_natCast]
  by_cases h2 : r < 2048
  · left
    refine ⟨_, _, by rw [if_neg (by omega), if_pos (by omega)], ?_⟩
    simp; omega
  · right
    rw [if_neg (by omega), if_neg (by omega)]
    by_cases h3 : r < 65536
    · rw [if_pos (by omega)]; simp [ByteArray.size]
    · rw [if_neg (by omega)]; simp [ByteArray.size]

theorem index_any (r : Nat) (h1 : 128 ≤ r) (w : World) :
    Calls Tryz.prog 73 #[.string ⟨#[9, 32]⟩, .int .i32 (r : Int)] w fun e w' => e = .returned (.int .i64 (-1)) ∧ Below w.heap.size w w' := by
  by_cases hne : r = 65533
  · subst hne; exact index_err w
  cases hb : Lib.validRune (r : Int) with
  | false => exact index_inv r h1 hne hb w
  | true =>
    rcases encode_shape r h1 hb with ⟨c, d, hE, hd⟩ | ⟨h3, h4⟩
    · exact index_two r h1 hne hb c d hE hd w
    · exact index_long r h1 hne hb _ rfl h3 h4 w

theorem contains_high (r : Nat) (h1 : 128 ≤ r) (w : World) :
    Calls Tryz.prog 61 #[.string ⟨#[9, 32]⟩, .int .i32 (r : Int)] w fun e w' => e = .returned (.bool false) ∧ Below w.heap.size w w' := by
  go_enter Tryz.func61, Tryz.ntmps61
  go_wp2_with (go_at_call 73; refine (index_any r h1 _).mono ?_; rintro e w' ⟨rfl, hb⟩)
  go_ret
  exact ⟨rfl, hb⟩

def blankN (r : Nat) : Bool := decide (r = 9) || decide (r = 32)

theorem ascii_blank : ∀ r : Fin 128, decide (0 ≤ Lib.indexByte [9, 32] (r.val : Int).toNat.toUInt8) = blankN r.val := by decide +kernel

theorem isBlank_any (r : Nat) (w : World) :
    Calls Tryz.prog 44 #[.int .i32 (r : Int)] w fun e w' => e = .returned (.bool (blankN r)) ∧ Below w.heap.size w w' := by
  by_cases h : r < 128
  · have hc := same_flip (Tryz.strings_ContainsRune_ascii ⟨#[9, 32]⟩ (r : Int) w (by omega) (by omega))
    have he := ascii_blank ⟨r, h⟩
    simp only at he
    simp only [he] at hc
    clear he
    go_enter Tryz.func44, Tryz.ntmps44
    go_wp2_with (go_at_call 61; refine hc.mono ?_; rintro e w' ⟨rfl, rfl⟩)
    go_ret
    exact ⟨rfl, Below.refl _ _⟩
  · have he : blankN r = false := by unfold blankN; simp; omega
    rw [he]
    go_enter Tryz.func44, Tryz.ntmps44
    go_wp2_with (go_at_call 61; refine (contains_high r (by omega) _).mono ?_; rintro e w' ⟨rfl, hb⟩)
    go_ret
    exact ⟨rfl, hb⟩
end Go.Proofs.YthmcckdoneiglaaGreatDoor
