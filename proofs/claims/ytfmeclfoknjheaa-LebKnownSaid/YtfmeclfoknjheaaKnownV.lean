/- LebKnown: the law's walk, in every memory. -/
import Derived.Test.YtfmeclfoknjheaaKnownW
namespace Go.Proofs.Ytfmeclfoknjheaa
open Go Go.RowKit

theorem new_lit (cs : Array Value) (ws : List Nat) (h : cs.toList = bv ws) (c : Nat) (hb : ws.length ≤ 100) (W : World) :
    Calls Try.prog 23 #[.slice (some ⟨W.heap.size, 0, none⟩) ws.length c] (W.alloc (.cells cs 5)) fun e w' => ∃ R q cap, e = .returned (.pointer (some ⟨R, 0, none⟩)) ∧ (Rd R R q cap ws 0 0 w' ∧ W.heap.size ≤ R) ∧ Below W.heap.size W w' :=
  (new_any _ c ws (.inr ⟨_, rfl⟩) (by omega) _ (lit_in W cs ws h)).mono fun _ _ ⟨R, q, cap, h1, h2, h3, _, h5⟩ => ⟨R, q, cap, h1, ⟨h2, Nat.le_trans (by simp) h3⟩, below_lit W _ h5⟩

theorem u1 : rdU [5, 127, 128] 0 0 = (5, 1, 0) := by
  have := getU_put 5 (by decide) [127, 128]
  rw [putU_small (by omega)] at this
  unfold rdU
  rw [if_pos rfl, List.drop_zero, show ([5, 127, 128] : List Nat) = [5] ++ [127, 128] from rfl, this]; rfl
theorem u2 : rdS [5, 127, 128] 1 0 = (-1, 2, 0) := by
  have := getS_put (-1) (by decide) (by decide) [128]
  rw [sm1] at this
  unfold rdS
  rw [if_pos rfl, show ([5, 127, 128] : List Nat).drop 1 = [127] ++ [128] from rfl, this]; rfl
theorem u3 : rdU [5, 127, 128] 2 0 = (0, 2, 30) := by
  unfold rdU
  rw [if_pos rfl, show ([5, 127, 128] : List Nat).drop 2 = [128] from rfl, w1]; rfl
theorem u4 : rdB [5, 127, 128] 2 30 = (0, 2, 30) := rfl

set_option maxRecDepth 100000 in
set_option maxHeartbeats 8000000 in
theorem known_any (w : World) : Calls Try.prog 6 #[] w fun e w' => e = .returned (.bool true) ∧ Below w.heap.size w w' := by
  have hB := Below.refl w.heap.size w
  go_enter Try.func6, Try.ntmps6
  go_wp2_with fail
  refine (awake_any _).mono ?_
  rintro e v1 ⟨rfl, hb⟩
  replace hB := hB.trans (hb.mono hB.size)
  clear hb
  go_wp2_with fail
  refine (lput_lit 0 (by decide) #[.int .u8 0] [0] rfl 1 true (decide_eq_true p0) _).mono ?_
  rintro e v2 ⟨rfl, hb⟩
  replace hB := hB.trans (hb.mono hB.size)
  clear hb
  go_wp2_with fail
  refine (lput_lit 127 (by decide) #[.int .u8 127] [127] rfl 1 true (decide_eq_true p127) _).mono ?_
  rintro e v3 ⟨rfl, hb⟩
  replace hB := hB.trans (hb.mono hB.size)
  clear hb
  go_wp2_with fail
  refine (times_lit 9 255 (by decide) #[.int .u8 1] [1] rfl 1 (by decide) (List.replicate 9 255 ++ [1]) rfl 10 rfl _).mono ?_
  rintro e v4 ⟨q, d, rfl, hin, hb⟩
  replace hB := hB.trans (hb.mono hB.size)
  clear hb
  go_wp2_with fail
  refine (lput_at 18446744073709551615 (by decide) (List.replicate 9 255 ++ [1]) 10 rfl pmax q d _ hin.1).mono ?_
  rintro e v5 ⟨rfl, hb⟩
  replace hB := hB.trans (hb.mono hB.size)
  clear hb
  clear hin
  go_wp2_with fail
  refine (lputSigned_lit (0) (by decide) (by decide) #[.int .u8 0] [0] rfl 1 true (decide_eq_true s0) _).mono ?_
  rintro e v6 ⟨rfl, hb⟩
  replace hB := hB.trans (hb.mono hB.size)
  clear hb
  go_wp2_with fail
  refine (lputSigned_lit (63) (by decide) (by decide) #[.int .u8 63] [63] rfl 1 true (decide_eq_true s63) _).mono ?_
  rintro e v7 ⟨rfl, hb⟩
  replace hB := hB.trans (hb.mono hB.size)
  clear hb
  go_wp2_with fail
  refine (lputSigned_lit (64) (by decide) (by decide) #[.int .u8 192, .int .u8 0] [192, 0] rfl 2 true (decide_eq_true s64) _).mono ?_
  rintro e v8 ⟨rfl, hb⟩
  replace hB := hB.trans (hb.mono hB.size)
  clear hb
  go_wp2_with fail
  refine (lputSigned_lit (-1) (by decide) (by decide) #[.int .u8 127] [127] rfl 1 true (decide_eq_true sm1) _).mono ?_
  rintro e v9 ⟨rfl, hb⟩
  replace hB := hB.trans (hb.mono hB.size)
  clear hb
  go_wp2_with fail
  refine (lputSigned_lit (-64) (by decide) (by decide) #[.int .u8 64] [64] rfl 1 true (decide_eq_true sm64) _).mono ?_
  rintro e v10 ⟨rfl, hb⟩
  replace hB := hB.trans (hb.mono hB.size)
  clear hb
  go_wp2_with fail
  refine (times_lit 9 128 (by decide) #[.int .u8 127] [127] rfl 1 (by decide) (List.replicate 9 128 ++ [127]) rfl 10 rfl _).mono ?_
  rintro e v11 ⟨q, d, rfl, hin, hb⟩
  replace hB := hB.trans (hb.mono hB.size)
  clear hb
  go_wp2_with fail
  refine (lputSigned_at (-9223372036854775808) (by decide) (by decide) (List.replicate 9 128 ++ [127]) 10 rfl smin q d _ hin.1).mono ?_
  rintro e v12 ⟨rfl, hb⟩
  replace hB := hB.trans (hb.mono hB.size)
  clear hb
  clear hin
  go_wp2_with fail
  refine (wrong_lit #[.int .u8 128] [128] rfl 30 (by decide) w1 (bytes_small rfl) 1 (Nat.le_refl _) (by unfold maxLen; decide) _).mono ?_
  rintro e v13 ⟨rfl, hb⟩
  replace hB := hB.trans (hb.mono hB.size)
  clear hb
  go_wp2_with fail
  refine (wrong_at [] 30 (by decide) w2 (bytes_small rfl) 0 rfl none 0 _ ⟨ByIn.nil _ _ _, Nat.le_refl _, Nat.zero_le _⟩).mono ?_
  rintro e v14 ⟨rfl, hb⟩
  replace hB := hB.trans (hb.mono hB.size)
  clear hb
  go_wp2_with fail
  refine (wrong_lit #[.int .u8 128, .int .u8 0] [128, 0] rfl 31 (by decide) w3 (bytes_small rfl) 2 (Nat.le_refl _) (by unfold maxLen; decide) _).mono ?_
  rintro e v15 ⟨rfl, hb⟩
  replace hB := hB.trans (hb.mono hB.size)
  clear hb
  go_wp2_with fail
  refine (times_nil 10 255 (by decide) (List.replicate 10 255) rfl 10 rfl _).mono ?_
  rintro e v16 ⟨q, d, rfl, hin, hb⟩
  replace hB := hB.trans (hb.mono hB.size)
  clear hb
  go_wp2_with fail
  refine (wrong_at (List.replicate 10 255) 31 (by decide) w4 (bytes_small rfl) 10 rfl q d _ hin).mono ?_
  rintro e v17 ⟨rfl, hb⟩
  replace hB := hB.trans (hb.mono hB.size)
  clear hb
  clear hin
  go_wp2_with fail
  refine (times_lit 9 255 (by decide) #[.int .u8 2] [2] rfl 1 (by decide) (List.replicate 9 255 ++ [2]) rfl 10 rfl _).mono ?_
  rintro e v18 ⟨q, d, rfl, hin, hb⟩
  replace hB := hB.trans (hb.mono hB.size)
  clear hb
  go_wp2_with fail
  refine (wrong_at (List.replicate 9 255 ++ [2]) 31 (by decide) w5 (bytes_small rfl) 10 rfl q d _ hin).mono ?_
  rintro e v19 ⟨rfl, hb⟩
  replace hB := hB.trans (hb.mono hB.size)
  clear hb
  clear hin
  go_wp2_with fail
  refine (times_nil 9 255 (by decide) (List.replicate 9 255) rfl 9 rfl _).mono ?_
  rintro e v20 ⟨q, d, rfl, hin, hb⟩
  replace hB := hB.trans (hb.mono hB.size)
  clear hb
  go_wp2_with fail
  refine (wrong_at (List.replicate 9 255) 30 (by decide) w6 (bytes_small rfl) 9 rfl q d _ hin).mono ?_
  rintro e v21 ⟨rfl, hb⟩
  replace hB := hB.trans (hb.mono hB.size)
  clear hb
  clear hin
  go_wp2_with fail
  refine (GetSigned_lit #[.int .u8 127] [127] rfl (bytes_small rfl) 1 (Nat.le_refl _) (by unfold maxLen; decide) _ g1 _).mono ?_
  rintro e v22 ⟨rfl, hb⟩
  replace hB := hB.trans (hb.mono hB.size)
  clear hb
  go_wp2_with fail
  refine (GetSigned_lit #[.int .u8 255, .int .u8 127] [255, 127] rfl (bytes_small rfl) 2 (Nat.le_refl _) (by unfold maxLen; decide) _ g2 _).mono ?_
  rintro e v23 ⟨rfl, hb⟩
  replace hB := hB.trans (hb.mono hB.size)
  clear hb
  go_wp2_with fail
  refine (GetSigned_lit #[.int .u8 128, .int .u8 0] [128, 0] rfl (bytes_small rfl) 2 (Nat.le_refl _) (by unfold maxLen; decide) _ g3 _).mono ?_
  rintro e v24 ⟨rfl, hb⟩
  replace hB := hB.trans (hb.mono hB.size)
  clear hb
  go_wp2_with fail
  refine (GetSigned_lit #[.int .u8 192, .int .u8 0] [192, 0] rfl (bytes_small rfl) 2 (Nat.le_refl _) (by unfold maxLen; decide) _ g4 _).mono ?_
  rintro e v25 ⟨rfl, hb⟩
  replace hB := hB.trans (hb.mono hB.size)
  clear hb
  go_wp2_with fail
  refine (new_lit #[.int .u8 5, .int .u8 127, .int .u8 128] [5, 127, 128] rfl 3 (by decide) _).mono ?_
  rintro e wa ⟨R, q, cap, rfl, ⟨hR, hRs⟩, hb⟩
  have hRw : w.heap.size ≤ R := Nat.le_trans hB.size hRs
  replace hB := hB.trans (hb.mono hB.size)
  have HB := Lib.hid (And.intro hR (And.intro hB hRw))
  clear hb hR hB hRs hRw
  have c1 := Unsigned_any HB.out.1 (bytes_small rfl)
  rw [u1] at c1
  have C1 := Lib.hid c1
  clear c1
  go_wp2_with fail
  refine C1.out.mono ?_
  rintro e wb ⟨rfl, hR1, hb1⟩
  have c2 := Signed_any hR1 (bytes_small rfl)
  rw [u2] at c2
  have C2 := Lib.hid c2
  have HB1 := Lib.hid hb1
  clear C1 c2 hR1 hb1
  go_wp2_with fail
  refine C2.out.mono ?_
  rintro e wc ⟨rfl, hR1, hb1⟩
  have c3 := Unsigned_any hR1 (bytes_small rfl)
  rw [u3] at c3
  have C3 := Lib.hid c3
  have HB2 := Lib.hid (HB1.out.trans hb1)
  clear C2 c3 hR1 hb1 HB1
  go_wp2_with fail
  refine C3.out.mono ?_
  rintro e wd ⟨rfl, hR1, hb1⟩
  have c4 := Byte_any hR1
  rw [u4] at c4
  have C4 := Lib.hid c4
  have HB3 := Lib.hid (HB2.out.trans hb1)
  clear C3 c4 hR1 hb1 HB2
  go_wp2_with fail
  refine C4.out.mono ?_
  rintro e we ⟨rfl, hR1, hb1⟩
  have hbut := HB3.out.trans hb1
  have hlow : Below w.heap.size w we := HB.out.2.1.trans (hbut.low (Nat.le_trans HB.out.2.1.size (Nat.le_refl _)) HB.out.2.2)
  have HE := Lib.hid (And.intro hR1 hlow)
  clear C4 hR1 hb1 HB3 hbut hlow HB
  go_wp2_with fail
  refine (Err_any HE.out.1).mono ?_
  rintro e wf ⟨rfl, rfl⟩
  go_wp2_with fail
  refine (Left_any HE.out.1).mono ?_
  rintro e wg ⟨rfl, hbl⟩
  have HG := Lib.hid (And.intro (HE.out.1.below hbl) (HE.out.2.trans (hbl.mono HE.out.2.size)))
  clear HE hbl
  go_wp2_with fail
  refine (At_any HG.out.1).mono ?_
  rintro e wh ⟨rfl, rfl⟩
  go_wp2_with fail
  refine (nilU _).mono ?_
  rintro e wi ⟨rfl, rfl⟩
  go_wp2_with fail
  refine (nilS _).mono ?_
  rintro e wj ⟨rfl, rfl⟩
  go_wp2_with fail
  refine (nilB _).mono ?_
  rintro e wk ⟨rfl, rfl⟩
  go_wp2_with fail
  refine (nilL _).mono ?_
  rintro e wl ⟨rfl, rfl⟩
  go_wp2_with fail
  refine (nilA _).mono ?_
  rintro e wm ⟨rfl, rfl⟩
  go_wp2_with fail
  refine (nilE _).mono ?_
  rintro e wn ⟨rfl, rfl⟩
  go_wp2
  go_ret
  exact ⟨rfl, HG.out.2⟩
end Go.Proofs.Ytfmeclfoknjheaa
