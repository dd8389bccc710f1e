/- Get and GetSigned of package leb and of the document's answer, in every memory. -/
import Derived.Test.YtahnhohccbnhjaaG
import Derived.Deep.RegionHeld3
import Derived.Deep.DeepCutAuto
import Derived.Deep.CutBlock
namespace Go.Proofs.Ytahnhohccbnhjaa
open Go Go.RowKit

set_option maxRecDepth 100000 in
theorem Get_any (p : Option Addr) (c : Nat) (xs : List Nat) (hx : bytesL xs) (hl : xs.length ≤ c) (hm : c ≤ maxLen) (w : World) (hp : ByIn w.heap.size w p xs) :
    Calls Try.prog 56 #[.slice p xs.length c] w fun e w' => e = .returned (.tuple #[.int .u64 ((getU xs).1 : Nat), .int .i64 ((getU xs).2.1 : Nat), .int .i64 ((getU xs).2.2 : Nat)]) ∧ Below w.heap.size w w' := by
  have h2 := Lib.hid (fun (w1 : World) (g : Nat) (hlay : laysU g w1) (hlt : g + 1 < w1.heap.size) (hB : Below w.heap.size w w1) =>
    getU_any p c xs hx hl hm g w1 (hp.below hB (Nat.le_refl _) hB.size) hlay hlt)
  clear hp hx hl hm
  generalize getU xs = r at h2 ⊢
  generalize xs.length = n at h2 ⊢
  go_enter Try.func56, Try.ntmps56
  go_wp2_with fail
  refine (unsignedEnd_any w).mono ?_
  rintro e w1 ⟨g, rfl, hlay, hge, hlt, hB⟩
  have h3 := Lib.hid (h2.out w1 g hlay hlt hB)
  clear h2 hlay hge hlt
  go_wp2_with fail
  refine h3.out.mono ?_
  rintro e w2 ⟨rfl, hB2⟩
  clear h3
  go_wp2_with fail
  go_ret3
  exact ⟨rfl, hB.trans (hB2.mono hB.size)⟩

set_option maxRecDepth 100000 in
theorem GetSigned_any (p : Option Addr) (c : Nat) (xs : List Nat) (hx : bytesL xs) (hl : xs.length ≤ c) (hm : c ≤ maxLen) (w : World) (hp : ByIn w.heap.size w p xs) :
    Calls Try.prog 55 #[.slice p xs.length c] w fun e w' => e = .returned (.tuple #[.int .i64 (getS xs).1, .int .i64 ((getS xs).2.1 : Nat), .int .i64 ((getS xs).2.2 : Nat)]) ∧ Below w.heap.size w w' := by
  have h2 := Lib.hid (fun (w1 : World) (g : Nat) (hlay : laysS g w1) (hlt : g + 1 < w1.heap.size) (hB : Below w.heap.size w w1) =>
    getS_any p c xs hx hl hm g w1 (hp.below hB (Nat.le_refl _) hB.size) hlay hlt)
  clear hp hx hl hm
  generalize getS xs = r at h2 ⊢
  generalize xs.length = n at h2 ⊢
  go_enter Try.func55, Try.ntmps55
  go_wp2_with fail
  refine (signedEnd_any w).mono ?_
  rintro e w1 ⟨g, rfl, hlay, hge, hlt, hB⟩
  have h3 := Lib.hid (h2.out w1 g hlay hlt hB)
  clear h2 hlay hge hlt
  go_wp2_with fail
  refine h3.out.mono ?_
  rintro e w2 ⟨rfl, hB2⟩
  clear h3
  go_wp2_with fail
  go_ret3
  exact ⟨rfl, hB.trans (hB2.mono hB.size)⟩

set_option maxRecDepth 100000 in
set_option maxHeartbeats 1000000 in
theorem refGet_any (p : Option Addr) (c : Nat) (xs : List Nat) (hx : bytesL xs) (hl : xs.length ≤ c) (hm : c ≤ maxLen) (w : World) (hp : ByIn w.heap.size w p xs) :
    Calls Try.prog 40 #[.slice p xs.length c] w fun e w' => e = .returned (.tuple #[.int .u64 ((getU xs).1 : Nat), .int .i64 ((getU xs).2.1 : Nat), .int .i64 ((getU xs).2.2 : Nat)]) ∧ Below w.heap.size w w' := by
  have hmax := hm
  unfold maxLen at hmax
  have hspan := size_any p c xs (Nat.le_trans hl hm) _ w hp
  have hll := lead_le xs
  by_cases h10 : 10 ≤ lead xs
  · have hk : spanV xs = (0, 31) := by unfold spanV; rw [if_pos h10]
    have hg : getU xs = (0, 0, 31) := by unfold getU; rw [if_pos h10]
    rw [hk] at hspan
    rw [hg]
    have HS := Lib.hid hspan
    clear hspan hk hg hp hx
    generalize xs.length = n at HS ⊢
    go_enter Try.func40, Try.ntmps40
    go_wp2_with fail
    refine HS.out.mono ?_
    rintro e w' ⟨rfl, rfl⟩
    go_wp2
    go_ret3
    exact ⟨rfl, Below.refl _ _⟩
  · by_cases hend : lead xs = xs.length
    · have hk : spanV xs = (0, 30) := by unfold spanV; rw [if_neg h10, if_pos hend]
      have hg : getU xs = (0, 0, 30) := by unfold getU; rw [if_neg h10, if_pos hend]
      rw [hk] at hspan
      rw [hg]
      have HS := Lib.hid hspan
      clear hspan hk hg hp hx
      generalize xs.length = n at HS ⊢
      go_enter Try.func40, Try.ntmps40
      go_wp2_with fail
      refine HS.out.mono ?_
      rintro e w' ⟨rfl, rfl⟩
      go_wp2
      go_ret3
      exact ⟨rfl, Below.refl _ _⟩
    · have hk : spanV xs = (((lead xs + 1 : Nat) : Int), 0) := by unfold spanV; rw [if_neg h10, if_neg hend]
      rw [hk] at hspan
      have hz : lead xs + 1 ≤ xs.length := by omega
      have hk10 : lead xs + 1 ≤ 10 := by omega
      have hk0 : 0 < lead xs + 1 := by omega
      have hget : getU xs = if putU (valU (xs.take (lead xs + 1)) % W64) = xs.take (lead xs + 1) then (valU (xs.take (lead xs + 1)) % W64, lead xs + 1, 0) else (0, 0, 31) := by
        unfold getU; rw [if_neg h10, if_neg hend]
      clear hll h10 hend hk
      generalize lead xs + 1 = k at hspan hz hk10 hk0 hget
      obtain ⟨row, hrow⟩ : ∃ row, xs.take k = row := ⟨_, rfl⟩
      rw [hrow] at hget
      have HS := Lib.hid hspan
      have hki : (k : Int) ≤ 10 := by omega
      obtain ⟨r, hr⟩ : ∃ r, getU xs = r := ⟨_, rfl⟩
      rw [hr]
      rw [hr] at hget
      have HR := Lib.hid hget
      clear hget hspan hr hm
      have HG := Lib.hid (And.intro hrow (And.intro (show row.length = k from by rw [← hrow, List.length_take]; omega) (And.intro (show ∀ j, j < k → row.getD j 0 = xs.getD j 0 from fun j hj => by
        rw [← hrow, List.getD_eq_getElem?_getD, List.getElem?_take_of_lt hj, ← List.getD_eq_getElem?_getD]) (show bytesL row from by rw [← hrow]; exact bytesL_take hx k))))
      clear hrow
      go_enter Try.func40, Try.ntmps40
      go_wp2_with fail
      refine HS.out.mono ?_
      rintro e w' ⟨rfl, rfl⟩
      clear HS
      go_wp2
      go_loop [7, 8] (fun n i => ∃ (j : Nat) (t : Int), j ≤ k ∧ n = .int .u64 ((valU (row.drop j) % W64 : Nat) : Int) ∧ t = (j : Int) - 1 ∧ i = .int .i64 t) (fun _ i => (intOf i + 1).toNat)
      case atStart => exact ⟨k, (k : Int) - 1, by omega, by rw [List.drop_eq_nil_of_le (by rw [HG.out.2.1]; omega)]; rfl, rfl, rfl⟩
      case round =>
        obtain ⟨j, t, hj, rfl, ht, rfl⟩ := hrel
        cases j with
        | succ j =>
          obtain rfl : t = (j : Int) := by omega
          clear ht
          obtain ⟨b, off, rfl, hb, hc⟩ := hp j (by omega)
          have hd := valU_drop row j (by rw [HG.out.2.1]; omega)
          rw [HG.out.2.2.1 j (by omega)] at hd
          have hst := lowU' (valU (row.drop (j + 1))) (xs.getD j 0 % 128) (Nat.mod_lt _ (by decide))
          rw [← hd] at hst
          clear hd hp
          obtain ⟨M, hM⟩ : ∃ M, valU (row.drop j) % W64 = M := ⟨_, rfl⟩
          rw [hM] at hst
          have HM := Lib.hid hM
          clear hM
          have hc1 : ((xs.getD j 0 : Nat) : Int).tmod 128 = ((xs.getD j 0 % 128 : Nat) : Int) := by rw [Int.tmod_eq_emod_of_nonneg (by omega)]; omega
          have hz1 : IntKind.u64.wrap ((xs.getD j 0 % 128 : Nat) : Int) = ((xs.getD j 0 % 128 : Nat) : Int) := by rw [IntKind.wrap_u64]; omega
          have hz2 := Nat.mod_lt (xs.getD j 0) (show 0 < 128 by decide)
          have hy := bytesL_at hx j
          generalize valU (row.drop (j + 1)) % W64 = m at hst ⊢
          generalize xs.getD j 0 = y at hc hst hc1 hz1 hz2 hy
          generalize y % 128 = z at hst hc1 hz1 hz2
          go_wp2
          exact ⟨⟨j, (j : Int) - 1, by omega, by rw [HM.out], rfl, by go_num⟩, by simp [intOf]⟩
        | zero =>
          obtain rfl : t = -1 := by omega
          have hd0 : row.drop 0 = row := rfl
          rw [hd0]
          have HM2 := Lib.hid (Nat.mod_lt (valU row) (show 0 < W64 by decide))
          clear hd0 ht
          generalize valU row % W64 = m at HR HM2 ⊢
          have H1 := Lib.hid (fun (wx : World) (hB : Below w.heap.size w wx) => (refPut_any m HM2.out wx).mono (fun e w' (h : ∃ v, e = .returned v ∧ OwnB wx.heap.size w' v (putU m) ∧ Below wx.heap.size wx w') =>
            show ∃ q d, e = .returned (.slice q (putU m).length d) ∧ ByIn w'.heap.size w' q (putU m) ∧ Below w.heap.size w w' from
            let ⟨v, a, b, c⟩ := h
            let ⟨q, d, f⟩ := b.slice
            ⟨q, d, by rw [a, f], OwnB.in (by rw [f] at b; exact b), hB.trans (c.mono hB.size)⟩))
          have H2 := Lib.hid (fun (wx : World) (q : Option Addr) (d : Nat) (hB : Below w.heap.size w wx) (hq : ByIn wx.heap.size wx q (putU m)) =>
            (same_any q p d c (putU m) row (Nat.le_trans (putU_ten HM2.out) (by unfold maxLen; omega)) wx hq ((show ByIn w.heap.size w p row from by rw [← HG.out.1]; exact hp.take k).below hB (Nat.le_refl _) hB.size)).mono
              (fun e w' (h : e = .returned (.bool (decide (putU m = row))) ∧ Below wx.heap.size wx w') => show e = .returned (.bool (decide (putU m = row))) ∧ Below w.heap.size w w' from
                ⟨h.1, hB.trans (h.2.mono hB.size)⟩))
          rw [HG.out.2.1] at H2
          clear hp hx HG HM2
          by_cases he : putU m = row
          · have hr := HR.out
            rw [if_pos he] at hr
            subst hr
            rw [decide_eq_true he] at H2
            clear HR he
            generalize putU m = l at H1 H2
            have hkc : (k : Int) ≤ (c : Int) := by omega
            have hkc2 : k ≤ c := by omega
            have hd0 : Below w.heap.size w w.drew := (Below.refl _ _).drew
            have hmx : Try.prog.follows .mixedOrders = true := by kernel_rfl
            go_upto_region 9 with (fail)
            go_cut [38] (fun r wx => r = .bool false ∧ Below w.heap.size w wx)
            case first =>
              as_aux_lemma =>
                go_region_held3 (fun w' => Below w.heap.size w w') (first | assumption | go_keep)
                  (first
                    | (go_at_call 37; refine (H1.out _ (by assumption)).mono ?_; rintro e w' ⟨q, d, rfl, hin, hb'⟩)
                    | (go_at_call 58; refine (H2.out _ _ _ (by assumption) (by assumption)).mono ?_; rintro e w' ⟨rfl, hb'⟩))
                go_wp2
                go_meet
                exact ⟨rfl, by assumption⟩
            case rest =>
              obtain ⟨rfl, hbf⟩ := hcut
              clear H1 H2
              go_wp2
              go_ret3
              exact ⟨rfl, hbf⟩
          · have hr := HR.out
            rw [if_neg he] at hr
            subst hr
            rw [decide_eq_false he] at H2
            clear HR he
            generalize putU m = l at H1 H2
            have hkc : (k : Int) ≤ (c : Int) := by omega
            have hkc2 : k ≤ c := by omega
            have hd0 : Below w.heap.size w w.drew := (Below.refl _ _).drew
            have hmx : Try.prog.follows .mixedOrders = true := by kernel_rfl
            go_upto_region 9 with (fail)
            go_cut [38] (fun r wx => r = .bool true ∧ Below w.heap.size w wx)
            case first =>
              as_aux_lemma =>
                go_region_held3 (fun w' => Below w.heap.size w w') (first | assumption | go_keep)
                  (first
                    | (go_at_call 37; refine (H1.out _ (by assumption)).mono ?_; rintro e w' ⟨q, d, rfl, hin, hb'⟩)
                    | (go_at_call 58; refine (H2.out _ _ _ (by assumption) (by assumption)).mono ?_; rintro e w' ⟨rfl, hb'⟩))
                go_wp2
                go_meet
                exact ⟨rfl, by assumption⟩
            case rest =>
              obtain ⟨rfl, hbf⟩ := hcut
              clear H1 H2
              go_wp2
              go_ret3
              exact ⟨rfl, hbf⟩
theorem lastB_at : ∀ (l : List Nat), 0 < l.length → lastB l = l.getD (l.length - 1) 0
  | [], h => absurd h (by simp)
  | [x], _ => rfl
  | x :: y :: l, _ => by
    have := lastB_at (y :: l) (by simp)
    rw [lastB, this]
    simp

set_option maxRecDepth 100000 in
set_option maxHeartbeats 1000000 in
theorem refGetSigned_any (p : Option Addr) (c : Nat) (xs : List Nat) (hx : bytesL xs) (hl : xs.length ≤ c) (hm : c ≤ maxLen) (w : World) (hp : ByIn w.heap.size w p xs) :
    Calls Try.prog 39 #[.slice p xs.length c] w fun e w' => e = .returned (.tuple #[.int .i64 (getS xs).1, .int .i64 ((getS xs).2.1 : Nat), .int .i64 ((getS xs).2.2 : Nat)]) ∧ Below w.heap.size w w' := by
  have hmax := hm
  unfold maxLen at hmax
  have hspan := size_any p c xs (Nat.le_trans hl hm) _ w hp
  have hll := lead_le xs
  by_cases h10 : 10 ≤ lead xs
  · have hk : spanV xs = (0, 31) := by unfold spanV; rw [if_pos h10]
    have hg : getS xs = (0, 0, 31) := by unfold getS; rw [if_pos h10]
    rw [hk] at hspan
    rw [hg]
    have HS := Lib.hid hspan
    clear hspan hk hg hp hx
    generalize xs.length = n at HS ⊢
    go_enter Try.func39, Try.ntmps39
    go_wp2_with fail
    refine HS.out.mono ?_
    rintro e w' ⟨rfl, rfl⟩
    go_wp2
    go_ret3
    exact ⟨rfl, Below.refl _ _⟩
  · by_cases hend : lead xs = xs.length
    · have hk : spanV xs = (0, 30) := by unfold spanV; rw [if_neg h10, if_pos hend]
      have hg : getS xs = (0, 0, 30) := by unfold getS; rw [if_neg h10, if_pos hend]
      rw [hk] at hspan
      rw [hg]
      have HS := Lib.hid hspan
      clear hspan hk hg hp hx
      generalize xs.length = n at HS ⊢
      go_enter Try.func39, Try.ntmps39
      go_wp2_with fail
      refine HS.out.mono ?_
      rintro e w' ⟨rfl, rfl⟩
      go_wp2
      go_ret3
      exact ⟨rfl, Below.refl _ _⟩
    · have hk : spanV xs = (((lead xs + 1 : Nat) : Int), 0) := by unfold spanV; rw [if_neg h10, if_neg hend]
      rw [hk] at hspan
      have hz : lead xs + 1 ≤ xs.length := by omega
      have hk10 : lead xs + 1 ≤ 10 := by omega
      have hk0 : 0 < lead xs + 1 := by omega
      have hget : getS xs = if putS (wrap64 (valS (xs.take (lead xs + 1)))) = xs.take (lead xs + 1) then (wrap64 (valS (xs.take (lead xs + 1))), lead xs + 1, 0) else (0, 0, 31) := by
        unfold getS; rw [if_neg h10, if_neg hend]
      clear hll h10 hend hk
      generalize lead xs + 1 = k at hspan hz hk10 hk0 hget
      obtain ⟨row, hrow⟩ : ∃ row, xs.take k = row := ⟨_, rfl⟩
      rw [hrow] at hget
      have HS := Lib.hid hspan
      have hki : (k : Int) ≤ 10 := by omega
      obtain ⟨r, hr⟩ : ∃ r, getS xs = r := ⟨_, rfl⟩
      rw [hr]
      rw [hr] at hget
      have HR := Lib.hid hget
      clear hget hspan hr hm
      have HG := Lib.hid (And.intro hrow (And.intro (show row.length = k from by rw [← hrow, List.length_take]; omega) (And.intro (show ∀ j, j < k → row.getD j 0 = xs.getD j 0 from fun j hj => by
        rw [← hrow, List.getD_eq_getElem?_getD, List.getElem?_take_of_lt hj, ← List.getD_eq_getElem?_getD]) (show bytesL row from by rw [← hrow]; exact bytesL_take hx k))))
      clear hrow
      go_enter Try.func39, Try.ntmps39
      go_wp2_with fail
      refine HS.out.mono ?_
      rintro e w' ⟨rfl, rfl⟩
      clear HS
      obtain ⟨b0, off0, rfl, hb0, hc0⟩ := hp (k - 1) (by omega)
      have hlast : lastB row = xs.getD (k - 1) 0 := by
        rw [← HG.out.2.2.1 (k - 1) (by omega), ← HG.out.2.1]
        exact lastB_at row (by rw [HG.out.2.1]; exact hk0)
      have hc2 : ((xs.getD (k - 1) 0 : Nat) : Int).tmod 128 = ((xs.getD (k - 1) 0 % 128 : Nat) : Int) := by rw [Int.tmod_eq_emod_of_nonneg (by omega)]; omega
      have hsg : sgn0 row = if 64 ≤ xs.getD (k - 1) 0 % 128 then -1 else 0 := by rw [sgn0, hlast]
      clear hlast
      generalize xs.getD (k - 1) 0 = y0 at hc0 hc2 hsg
      generalize y0 % 128 = z0 at hc2 hsg
      obtain ⟨k1, hk1⟩ : ∃ k1, k = k1 + 1 := ⟨k - 1, by omega⟩
      rw [show k - 1 = k1 from by omega] at hc0
      have HK := Lib.hid hk1
      have hki1 : (k : Int) - 1 = (k1 : Int) := by omega
      clear hk1
      by_cases h64 : 64 ≤ z0
      all_goals first
        | (have h64i : (64 : Int) ≤ (z0 : Int) := by omega
           rw [if_pos h64] at hsg
           have H0 := Lib.hid hsg
           clear h64 hsg
           go_wp2)
        | (have h64i : ¬ (64 : Int) ≤ (z0 : Int) := by omega
           rw [if_neg h64] at hsg
           have H0 := Lib.hid hsg
           clear h64 hsg
           go_wp2)
      all_goals
        clear hc0 hc2 h64i
        go_loop [7, 8] (fun n i => ∃ (j : Nat) (t : Int), j ≤ k ∧ n = .int .i64 (wrap64 (topS (sgn0 row) (row.drop j))) ∧ t = (j : Int) - 1 ∧ i = .int .i64 t) (fun _ i => (intOf i + 1).toNat)
        case atStart => exact ⟨k, (k1 : Int), by omega, by rw [List.drop_eq_nil_of_le (by rw [HG.out.2.1]; omega)]; unfold topS; rw [if_pos rfl, H0.out]; simp [wrap64], by omega, rfl⟩
        case round =>
          obtain ⟨j, t, hj, rfl, ht, rfl⟩ := hrel
          cases j with
          | succ j =>
            obtain rfl : t = (j : Int) := by omega
            clear ht
            obtain ⟨b, off, he, hb, hc⟩ := hp j (by omega)
            cases he
            have hd := topS_drop row j (by rw [HG.out.2.1]; omega)
            rw [HG.out.2.2.1 j (by omega)] at hd
            have hst := lowS' (topS (sgn0 row) (row.drop (j + 1))) (xs.getD j 0 % 128) (Nat.mod_lt _ (by decide))
            rw [← hd] at hst
            clear hd hp
            obtain ⟨M, hM⟩ : ∃ M, wrap64 (topS (sgn0 row) (row.drop j)) = M := ⟨_, rfl⟩
            rw [hM] at hst
            have HM := Lib.hid hM
            clear hM
            have hc1 : ((xs.getD j 0 : Nat) : Int).tmod 128 = ((xs.getD j 0 % 128 : Nat) : Int) := by rw [Int.tmod_eq_emod_of_nonneg (by omega)]; omega
            have hz2 := Nat.mod_lt (xs.getD j 0) (show 0 < 128 by decide)
            have hy := bytesL_at hx j
            generalize wrap64 (topS (sgn0 row) (row.drop (j + 1))) = m at hst ⊢
            generalize xs.getD j 0 = y at hc hst hc1 hz2 hy
            generalize y % 128 = z at hst hc1 hz2
            go_wp2
            exact ⟨⟨j, (j : Int) - 1, by omega, by rw [HM.out], rfl, by go_num⟩, by simp [intOf]⟩
          | zero =>
            obtain rfl : t = -1 := by omega
            have hd0 : row.drop 0 = row := rfl
            have ht2 : topS (sgn0 row) row = valS row := if_neg (fun e => by rw [e] at HG; have := HG.out.2.1; simp at this; omega)
            rw [hd0, ht2]
            have HM2 := Lib.hid (wrap_le (valS row))
            clear hd0 ht ht2
            generalize wrap64 (valS row) = m at HR HM2 ⊢
            have H1 := Lib.hid (fun (wx : World) (hB : Below w.heap.size w wx) => (refPutSigned_any m HM2.out.1 HM2.out.2 wx).mono (fun e w' (h : ∃ v, e = .returned v ∧ OwnB wx.heap.size w' v (putS m) ∧ Below wx.heap.size wx w') =>
              show ∃ q d, e = .returned (.slice q (putS m).length d) ∧ ByIn w'.heap.size w' q (putS m) ∧ Below w.heap.size w w' from
              let ⟨v, a, b, c⟩ := h
              let ⟨q, d, f⟩ := b.slice
              ⟨q, d, by rw [a, f], OwnB.in (by rw [f] at b; exact b), hB.trans (c.mono hB.size)⟩))
            have H2 := Lib.hid (fun (wx : World) (q : Option Addr) (d : Nat) (hB : Below w.heap.size w wx) (hq : ByIn wx.heap.size wx q (putS m)) =>
              (same_any q (some ⟨b0, off0, none⟩) d c (putS m) row (Nat.le_trans (putS_ten HM2.out.1 HM2.out.2) (by unfold maxLen; omega)) wx hq ((show ByIn w.heap.size w (some ⟨b0, off0, none⟩) row from by rw [← HG.out.1]; exact hp.take k).below hB (Nat.le_refl _) hB.size)).mono
                (fun e w' (h : e = .returned (.bool (decide (putS m = row))) ∧ Below wx.heap.size wx w') => show e = .returned (.bool (decide (putS m = row))) ∧ Below w.heap.size w w' from
                  ⟨h.1, hB.trans (h.2.mono hB.size)⟩))
            rw [HG.out.2.1] at H2
            clear hp hx HG HM2
            by_cases he : putS m = row
            · have hr := HR.out
              rw [if_pos he] at hr
              subst hr
              rw [decide_eq_true he] at H2
              clear HR he
              generalize putS m = l at H1 H2
              have hkc : (k : Int) ≤ (c : Int) := by omega
              have hkc2 : k ≤ c := by omega
              have hd0 : Below w.heap.size w w.drew := (Below.refl _ _).drew
              have hmx : Try.prog.follows .mixedOrders = true := by kernel_rfl
              go_upto_region 11 with (fail)
              go_cut [45] (fun r wx => r = .bool false ∧ Below w.heap.size w wx)
              case first =>
                as_aux_lemma =>
                  go_region_held3 (fun w' => Below w.heap.size w w') (first | assumption | go_keep)
                    (first
                      | (go_at_call 36; refine (H1.out _ (by assumption)).mono ?_; rintro e w' ⟨q, d, rfl, hin, hb'⟩)
                      | (go_at_call 58; refine (H2.out _ _ _ (by assumption) (by assumption)).mono ?_; rintro e w' ⟨rfl, hb'⟩))
                  go_wp2
                  go_meet
                  exact ⟨rfl, by assumption⟩
              case rest =>
                obtain ⟨rfl, hbf⟩ := hcut
                clear H1 H2
                go_wp2
                go_ret3
                exact ⟨rfl, hbf⟩
            · have hr := HR.out
              rw [if_neg he] at hr
              subst hr
              rw [decide_eq_false he] at H2
              clear HR he
              generalize putS m = l at H1 H2
              have hkc : (k : Int) ≤ (c : Int) := by omega
              have hkc2 : k ≤ c := by omega
              have hd0 : Below w.heap.size w w.drew := (Below.refl _ _).drew
              have hmx : Try.prog.follows .mixedOrders = true := by kernel_rfl
              go_upto_region 11 with (fail)
              go_cut [45] (fun r wx => r = .bool true ∧ Below w.heap.size w wx)
              case first =>
                as_aux_lemma =>
                  go_region_held3 (fun w' => Below w.heap.size w w') (first | assumption | go_keep)
                    (first
                      | (go_at_call 36; refine (H1.out _ (by assumption)).mono ?_; rintro e w' ⟨q, d, rfl, hin, hb'⟩)
                      | (go_at_call 58; refine (H2.out _ _ _ (by assumption) (by assumption)).mono ?_; rintro e w' ⟨rfl, hb'⟩))
                  go_wp2
                  go_meet
                  exact ⟨rfl, by assumption⟩
              case rest =>
                obtain ⟨rfl, hbf⟩ := hcut
                clear H1 H2
                go_wp2
                go_ret3
                exact ⟨rfl, hbf⟩
end Go.Proofs.Ytahnhohccbnhjaa
