/- LexKnown: the walk. -/
import Derived.Test.YtghgaelbjcggcaaDoorKZ
namespace Go.Proofs.YtghgaelbjcggcaaDoor
open Go Go.RowKit

attribute [local go_sem] Oper.semAt_some
theorem eq39_0 (W : World) : Sem.run Tryd.prog (Op.equalIn 10000 39 (.agg #[.int .i64 2, .int .i64 40]) (.agg #[.int .i64 2, .int .i64 40])) W = .ok true W := by kernel_rfl
theorem eq39_1 (W : World) : Sem.run Tryd.prog (Op.equalIn 10000 39 (.agg #[.int .i64 0, .int .i64 40]) (.agg #[.int .i64 0, .int .i64 40])) W = .ok true W := by kernel_rfl
theorem eq39_2 (W : World) : Sem.run Tryd.prog (Op.equalIn 10000 39 (.agg #[.int .i64 1, .int .i64 40]) (.agg #[.int .i64 1, .int .i64 40])) W = .ok true W := by kernel_rfl
theorem eq39_3 (W : World) : Sem.run Tryd.prog (Op.equalIn 10000 39 (.agg #[.int .i64 1, .int .i64 3]) (.agg #[.int .i64 1, .int .i64 3])) W = .ok true W := by kernel_rfl
theorem eq39_4 (W : World) : Sem.run Tryd.prog (Op.equalIn 10000 39 (.agg #[.int .i64 (-1), .int .i64 (-1)]) (.agg #[.int .i64 (-1), .int .i64 (-1)])) W = .ok true W := by kernel_rfl
theorem eq39_5 (W : World) : Sem.run Tryd.prog (Op.equalIn 10000 39 (.agg #[.int .i64 0, .int .i64 3]) (.agg #[.int .i64 0, .int .i64 3])) W = .ok true W := by kernel_rfl
attribute [local go_sem] eq39_0 eq39_1 eq39_2 eq39_3 eq39_4 eq39_5

set_option maxRecDepth 100000 in
set_option maxHeartbeats 4000000 in
theorem known_any (w : World) (hE : Env w) : Calls Tryd.prog 5 #[] w fun e w' => e = .returned (.bool true) ∧ Below w.heap.size w w' := by
  have haw := Lib.hid (awake_any w hE)
  have k1 := Lib.hid (fun W (hE : Env W) => scanned_lit _ _ _ known_1 (by decide) W hE 4 4 rfl rfl)
  have k2 := Lib.hid (fun W (hE : Env W) => scanned_lit _ _ _ known_2 (by decide) W hE 2 2 rfl rfl)
  have k3 := Lib.hid (fun W (hE : Env W) => scanned_lit _ _ _ known_3 (by decide) W hE 2 2 rfl rfl)
  have k4 := Lib.hid (fun W (hE : Env W) => scanned_true _ _ _ known_4 none none 0 0 (by decide) W hE (fun i hi => by cases hi) (fun i hi => by cases hi))
  have k5 := Lib.hid (fun W (hE : Env W) => scanned_lit _ _ _ known_5 (by decide) W hE 1 1 rfl rfl)
  have HE := Lib.hid hE
  clear hE
  go_enter Tryd.func5, Tryd.ntmps5
  go_wp2_with (go_at_call 10; refine haw.out.mono ?_)
  rintro e w1 ⟨rfl, hb1⟩
  have HE1 := Lib.hid (HE.out.below hb1 HE.out.lt)
  have HB1 := Lib.hid hb1
  clear hb1 haw HE
  go_wp2_with (go_at_call 13; refine (k1.out w1 HE1.out).mono ?_)
  rintro e w2 ⟨rfl, hb⟩
  have HE2 := Lib.hid (HE1.out.below hb HE1.out.lt)
  have HB2 := Lib.hid (HB1.out.trans (hb.mono HB1.out.size))
  clear hb HE1 HB1
  go_wp2_with (go_at_call 13; refine (k2.out w2 HE2.out).mono ?_)
  rintro e w3 ⟨rfl, hb⟩
  have HE3 := Lib.hid (HE2.out.below hb HE2.out.lt)
  have HB3 := Lib.hid (HB2.out.trans (hb.mono HB2.out.size))
  clear hb HE2 HB2
  go_wp2_with (go_at_call 13; refine (k3.out w3 HE3.out).mono ?_)
  rintro e w4 ⟨rfl, hb⟩
  have HE4 := Lib.hid (HE3.out.below hb HE3.out.lt)
  have HB4 := Lib.hid (HB3.out.trans (hb.mono HB3.out.size))
  clear hb HE3 HB3
  go_wp2_with (go_at_call 13; refine (k4.out w4 HE4.out).mono ?_)
  rintro e w5 ⟨rfl, hb⟩
  have HE5 := Lib.hid (HE4.out.below hb HE4.out.lt)
  have HB5 := Lib.hid (HB4.out.trans (hb.mono HB4.out.size))
  clear hb HE4 HB4
  go_wp2_with (go_at_call 13; refine (k5.out w5 HE5.out).mono ?_)
  rintro e w6 ⟨rfl, hb⟩
  have HE6 := Lib.hid (HE5.out.below hb HE5.out.lt)
  have HB6 := Lib.hid (HB5.out.trans (hb.mono HB5.out.size))
  clear hb HE5 HB5
  clear k1 k2 k3 k4 k5
  have g := Lib.hid (wrong_err _ _ _ wrong_1 w6 HE6.out)
  go_wp2_with (go_at_call 14; refine (g.out).mono ?_)
  rintro e w7 ⟨rfl, hb⟩
  have HE7 := Lib.hid (HE6.out.below hb HE6.out.lt)
  have HB7 := Lib.hid (HB6.out.trans (hb.mono HB6.out.size))
  clear hb HE6 HB6
  clear g
  have g := Lib.hid (wrong_err _ _ _ wrong_2 w7 HE7.out)
  go_wp2_with (go_at_call 14; refine (g.out).mono ?_)
  rintro e w8 ⟨rfl, hb⟩
  have HE8 := Lib.hid (HE7.out.below hb HE7.out.lt)
  have HB8 := Lib.hid (HB7.out.trans (hb.mono HB7.out.size))
  clear hb HE7 HB7
  clear g
  have g := Lib.hid (wrong_err _ _ _ wrong_3 w8 HE8.out)
  go_wp2_with (go_at_call 14; refine (g.out).mono ?_)
  rintro e w9 ⟨rfl, hb⟩
  have HE9 := Lib.hid (HE8.out.below hb HE8.out.lt)
  have HB9 := Lib.hid (HB8.out.trans (hb.mono HB8.out.size))
  clear hb HE8 HB8
  clear g
  have g := Lib.hid (wrong_err _ _ _ wrong_4 w9 HE9.out)
  go_wp2_with (go_at_call 14; refine (g.out).mono ?_)
  rintro e w10 ⟨rfl, hb⟩
  have HE10 := Lib.hid (HE9.out.below hb HE9.out.lt)
  have HB10 := Lib.hid (HB9.out.trans (hb.mono HB9.out.size))
  clear hb HE9 HB9
  clear g
  have g := Lib.hid (letters_any 33 (by decide) w10)
  go_wp2_with (go_at_call 15; refine (g.out).mono ?_)
  rintro e w11 ⟨rfl, hb⟩
  have HE11 := Lib.hid (HE10.out.below hb HE10.out.lt)
  have HB11 := Lib.hid (HB10.out.trans (hb.mono HB10.out.size))
  clear hb HE10 HB10
  clear g
  have g := Lib.hid (wrong_err _ _ _ wrong_5 w11 HE11.out)
  go_wp2_with (go_at_call 14; refine (g.out).mono ?_)
  rintro e w12 ⟨rfl, hb⟩
  have HE12 := Lib.hid (HE11.out.below hb HE11.out.lt)
  have HB12 := Lib.hid (HB11.out.trans (hb.mono HB11.out.size))
  clear hb HE11 HB11
  clear g
  have g := Lib.hid (letters_any 32 (by decide) w12)
  go_wp2_with (go_at_call 15; refine (g.out).mono ?_)
  rintro e w13 ⟨rfl, hb⟩
  have HE13 := Lib.hid (HE12.out.below hb HE12.out.lt)
  have HB13 := Lib.hid (HB12.out.trans (hb.mono HB12.out.size))
  clear hb HE12 HB12
  clear g
  have g := Lib.hid (wrong_ok _ wrong_6 w13 HE13.out)
  go_wp2_with (go_at_call 14; refine (g.out).mono ?_)
  rintro e w14 ⟨rfl, hb⟩
  have HE14 := Lib.hid (HE13.out.below hb HE13.out.lt)
  have HB14 := Lib.hid (HB13.out.trans (hb.mono HB13.out.size))
  clear hb HE13 HB13
  clear g
  have g := Lib.hid (wrong_err _ _ _ wrong_7 w14 HE14.out)
  go_wp2_with (go_at_call 14; refine (g.out).mono ?_)
  rintro e w15 ⟨rfl, hb⟩
  have HE15 := Lib.hid (HE14.out.below hb HE14.out.lt)
  have HB15 := Lib.hid (HB14.out.trans (hb.mono HB14.out.size))
  clear hb HE14 HB14
  clear g
  obtain ⟨wz, Z, hZ, hbz, hmk, hcv⟩ := noughts w15
  have HZ := Lib.hid hZ
  have HEz := Lib.hid (HE15.out.below hbz HE15.out.lt)
  have HBz := Lib.hid (HB15.out.trans (hbz.mono HB15.out.size))
  clear hZ hbz HE15 HB15
  have g := Lib.hid (wrong_err Z 0 3 (wrong_8 Z HZ.out) wz HEz.out)
  go_wp2_with (go_at_call 14; refine g.out.mono ?_)
  rintro e wa ⟨rfl, hb⟩
  have HE0 := Lib.hid (HEz.out.below hb HEz.out.lt)
  have HB0 := Lib.hid (HBz.out.trans (hb.mono HBz.out.size))
  clear hb HEz HBz g hmk hcv HZ
  have g := Lib.hid (two_scan wa HE0.out)
  go_wp2_with (go_at_call 16; refine g.out.mono ?_)
  rintro e x0 ⟨hb, gg, cc, ys, rfl, hgg, hyl, hT, htx, hts, c1, c2, c6, c7⟩
  have HA0 := Lib.hid (HE0.out.below hb HE0.out.lt)
  have HC0 := Lib.hid (HB0.out.trans (hb.mono HB0.out.size))
  have HT0 := Lib.hid hT
  have HTX := Lib.hid htx
  have HTS := Lib.hid hts
  have HYL := Lib.hid hyl
  clear hb HE0 HB0 g hT htx hts hyl
  have g := Lib.hid (is_any ⟨#[119, 104, 105, 108, 101]⟩ (by decide) x0 HA0.out)
  rw [is_1] at g
  go_wp2_with (go_at_call 11; refine g.out.mono ?_)
  rintro e x1 ⟨rfl, hb⟩
  have HA1 := Lib.hid (HA0.out.below hb HA0.out.lt)
  have HC1 := Lib.hid (HC0.out.trans (hb.mono HC0.out.size))
  have HT1 := Lib.hid (HT0.out.below hb (Nat.le_refl _))
  clear hb HA0 HC0 HT0 g
  have g := Lib.hid (is_any ⟨#[119, 104, 105, 108, 101, 120]⟩ (by decide) x1 HA1.out)
  rw [is_2] at g
  go_wp2_with (go_at_call 11; refine g.out.mono ?_)
  rintro e x2 ⟨rfl, hb⟩
  have HA2 := Lib.hid (HA1.out.below hb HA1.out.lt)
  have HC2 := Lib.hid (HC1.out.trans (hb.mono HC1.out.size))
  have HT2 := Lib.hid (HT1.out.below hb (Nat.le_refl _))
  clear hb HA1 HC1 HT1 g
  have g := Lib.hid (is_any ⟨#[61]⟩ (by decide) x2 HA2.out)
  rw [is_3] at g
  go_wp2_with (go_at_call 11; refine g.out.mono ?_)
  rintro e x3 ⟨rfl, hb⟩
  have HA3 := Lib.hid (HA2.out.below hb HA2.out.lt)
  have HC3 := Lib.hid (HC2.out.trans (hb.mono HC2.out.size))
  have HT3 := Lib.hid (HT2.out.below hb (Nat.le_refl _))
  clear hb HA2 HC2 HT2 g
  have g := Lib.hid (is_any ⟨#[61, 61, 61]⟩ (by decide) x3 HA3.out)
  rw [is_4] at g
  go_wp2_with (go_at_call 11; refine g.out.mono ?_)
  rintro e x4 ⟨rfl, hb⟩
  have HA4 := Lib.hid (HA3.out.below hb HA3.out.lt)
  have HC4 := Lib.hid (HC3.out.trans (hb.mono HC3.out.size))
  have HT4 := Lib.hid (HT3.out.below hb (Nat.le_refl _))
  clear hb HA3 HC3 HT3 g
  have g := Lib.hid (is_any ⟨#[55]⟩ (by decide) x4 HA4.out)
  rw [is_5] at g
  go_wp2_with (go_at_call 11; refine g.out.mono ?_)
  rintro e x5 ⟨rfl, hb⟩
  have HA5 := Lib.hid (HA4.out.below hb HA4.out.lt)
  have HC5 := Lib.hid (HC4.out.trans (hb.mono HC4.out.size))
  have HT5 := Lib.hid (HT4.out.below hb (Nat.le_refl _))
  clear hb HA4 HC4 HT4 g
  have g := Lib.hid (is_any ⟨#[55, 32]⟩ (by decide) x5 HA5.out)
  rw [is_6] at g
  go_wp2_with (go_at_call 11; refine g.out.mono ?_)
  rintro e x6 ⟨rfl, hb⟩
  have HA6 := Lib.hid (HA5.out.below hb HA5.out.lt)
  have HC6 := Lib.hid (HC5.out.trans (hb.mono HC5.out.size))
  have HT6 := Lib.hid (HT5.out.below hb (Nat.le_refl _))
  clear hb HA5 HC5 HT5 g
  have g := Lib.hid (is_any ⟨#[]⟩ (by decide) x6 HA6.out)
  rw [is_7] at g
  go_wp2_with (go_at_call 11; refine g.out.mono ?_)
  rintro e x7 ⟨rfl, hb⟩
  have HA7 := Lib.hid (HA6.out.below hb HA6.out.lt)
  have HC7 := Lib.hid (HC6.out.trans (hb.mono HC6.out.size))
  have HT7 := Lib.hid (HT6.out.below hb (Nat.le_refl _))
  clear hb HA6 HC6 HT6 g
  have g := Lib.hid (text_none x7)
  go_wp2_with (go_at_call 17; refine g.out.mono ?_)
  rintro e x8 ⟨rfl, hb⟩
  have HC8 := Lib.hid (HC7.out.trans (hb.mono HC7.out.size))
  have HT8 := Lib.hid (HT7.out.below hb (Nat.le_refl _))
  clear hb HA7 HC7 HT7 g
  have g := Lib.hid (text_any (some ⟨gg, 0, none⟩) cc ys HTS.out (by rw [HYL.out]; decide) x8 HT8.out)
  rw [HYL.out, HTX.out] at g
  go_wp2_with (go_at_call 17; refine g.out.mono ?_)
  rintro e x9 ⟨rfl, hb⟩
  have HC9 := Lib.hid (HC8.out.trans (hb.mono HC8.out.size))
  clear hb HC8 HT8 g
  unfold two
  go_wp2
  go_ret
  exact ⟨rfl, HC9.out⟩
end Go.Proofs.YtghgaelbjcggcaaDoor
