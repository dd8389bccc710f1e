/- Get of package leb: the number at the head of bytes, in every memory. -/
import Derived.Test.YtahnhohccbnhjaaF
import Derived.Test.YtahnhohccbnhjaaM
namespace Go.Proofs.Ytahnhohccbnhjaa
open Go Go.RowKit

theorem ByIn.take {B : Nat} {w : World} {p : Option Addr} {ns : List Nat} (h : ByIn B w p ns) (k : Nat) : ByIn B w p (ns.take k) := by
  intro i hi
  have hk : i < k ∧ i < ns.length := by rw [List.length_take] at hi; omega
  obtain ⟨b, off, hp, hlt, hc⟩ := h i hk.2
  refine ⟨b, off, hp, hlt, ?_⟩
  rw [hc, List.getD_eq_getElem?_getD, List.getD_eq_getElem?_getD, List.getElem?_take_of_lt hk.1]

abbrev zeros10 : Array Value := #[.int .u8 0, .int .u8 0, .int .u8 0, .int .u8 0, .int .u8 0, .int .u8 0, .int .u8 0, .int .u8 0, .int .u8 0, .int .u8 0]
theorem made10 (w : World) : (Instr.makeSlice 35 (.int .i64 0) (.int .i64 10)).run Try.prog w = .ok (.slice (some ⟨w.heap.size, 0, none⟩) 0 10) (w.alloc (.cells zeros10 5)) := by kernel_rfl
theorem own10 (w : World) : OwnB w.heap.size (w.alloc (.cells zeros10 5)) (.slice (some ⟨w.heap.size, 0, none⟩) 0 10) [] := World.ownsRow_made w zeros10 10 (Nat.le_refl _) (by unfold maxLen; omega) rfl

set_option maxRecDepth 100000 in
set_option maxHeartbeats 1000000 in
theorem getU_any (p : Option Addr) (c : Nat) (xs : List Nat) (hx : bytesL xs) (hl : xs.length ≤ c) (hm : c ≤ maxLen) (g : Nat) (w : World) (hp : ByIn w.heap.size w p xs) (hlay : laysU g w) (hgs : g + 1 < w.heap.size) :
    Calls Try.prog 66 #[.slice p xs.length c, endU g] w fun e w' => e = .returned (.tuple #[.int .u64 ((getU xs).1 : Nat), .int .i64 ((getU xs).2.1 : Nat), .int .i64 ((getU xs).2.2 : Nat)]) ∧ Below w.heap.size w w' := by
  have hmax := hm
  unfold maxLen at hmax
  have hspan := span_any p c xs hx (Nat.le_trans hl hm) _ w hp
  have hll := lead_le xs
  unfold endU
  by_cases h10 : 10 ≤ lead xs
  · have hk : spanV xs = (0, 31) := by unfold spanV; rw [if_pos h10]
    have hg : getU xs = (0, 0, 31) := by unfold getU; rw [if_pos h10]
    rw [hk] at hspan
    rw [hg]
    have HS := Lib.hid hspan
    clear hspan hk hg hlay hp hx
    generalize xs.length = n at HS ⊢
    go_enter Try.func66, Try.ntmps66
    go_wp2_with fail
    refine HS.out.mono ?_
    rintro e w' ⟨rfl, rfl⟩
    go_wp2
    go_ret3
    exact ⟨rfl, Below.refl _ _⟩
  · by_cases hend : lead xs = xs.length
    · have hk : spanV xs = (0, 30) := by unfold spanV; rw [if_neg h10, if_pos hend]
      have hg : getU xs = (0, 0, 30) := by unfold getU; rw [if_neg h10, if_pos hend]
      rw [hk] at hspan
      rw [hg]
      have HS := Lib.hid hspan
      clear hspan hk hg hlay hp hx
      generalize xs.length = n at HS ⊢
      go_enter Try.func66, Try.ntmps66
      go_wp2_with fail
      refine HS.out.mono ?_
      rintro e w' ⟨rfl, rfl⟩
      go_wp2
      go_ret3
      exact ⟨rfl, Below.refl _ _⟩
    · have hk : spanV xs = (((lead xs + 1 : Nat) : Int), 0) := by unfold spanV; rw [if_neg h10, if_neg hend]
      rw [hk] at hspan
      have hz : lead xs + 1 ≤ xs.length := by omega
      have hk10 : lead xs + 1 ≤ 10 := by omega
      have hk0 : 0 < lead xs + 1 := by omega
      have hget : getU xs = if putU (valU (xs.take (lead xs + 1)) % W64) = xs.take (lead xs + 1) then (valU (xs.take (lead xs + 1)) % W64, lead xs + 1, 0) else (0, 0, 31) := by
        unfold getU; rw [if_neg h10, if_neg hend]
      clear hll h10 hend hk
      generalize lead xs + 1 = k at hspan hz hk10 hk0 hget
      have hrl : (xs.take k).length = k := by rw [List.length_take]; omega
      obtain ⟨row, hrow⟩ : ∃ row, xs.take k = row := ⟨_, rfl⟩
      have hrb : bytesL row := by rw [← hrow]; exact bytesL_take hx k
      have hrat : ∀ j, j < k → row.getD j 0 = xs.getD j 0 := fun j hj => by
        rw [← hrow, List.getD_eq_getElem?_getD, List.getElem?_take_of_lt hj, ← List.getD_eq_getElem?_getD]
      rw [hrow] at hrl hget
      have HG := Lib.hid (And.intro hget (And.intro hrl (And.intro hrat hrb)))
      have HS := Lib.hid hspan
      have HL := Lib.hid (And.intro hlay hgs)
      have hki : (k : Int) ≤ 10 := by omega
      obtain ⟨r, hr⟩ : ∃ r, getU xs = r := ⟨_, rfl⟩
      rw [hr]
      rw [hr] at hget
      have HR := Lib.hid hget
      clear hget hrl hrat hrb hspan hlay hgs hr hm HG
      have HG := Lib.hid (And.intro hrow (And.intro (show row.length = k from by rw [← hrow, List.length_take]; omega) (And.intro (show ∀ j, j < k → row.getD j 0 = xs.getD j 0 from fun j hj => by
        rw [← hrow, List.getD_eq_getElem?_getD, List.getElem?_take_of_lt hj, ← List.getD_eq_getElem?_getD]) (show bytesL row from by rw [← hrow]; exact bytesL_take hx k))))
      clear hrow
      go_enter Try.func66, Try.ntmps66
      go_wp2_with fail
      refine HS.out.mono ?_
      rintro e w' ⟨rfl, rfl⟩
      clear HS
      go_wp2_with fail
      go_loop [10, 27] (fun n i => ∃ j : Nat, j ≤ k ∧ n = .int .u64 ((valU (row.take j) % W64 : Nat) : Int) ∧ i = .int .i64 j) (fun _ i => k - (intOf i).toNat)
      case atStart => exact ⟨0, by omega, rfl, rfl⟩
      case round =>
        obtain ⟨j, hj, rfl, rfl⟩ := hrel
        by_cases hjk : j < k
        · have hji : (j : Int) < (k : Int) := by omega
          have hj9 : (j : Int) < 10 := by omega
          obtain ⟨b, off, rfl, hb, hc⟩ := hp j (by omega)
          have hg := andNot128 (xs.getD j 0) (bytesL_at hx j)
          have hV := valU_take row j (by rw [HG.out.2.1]; exact hjk)
          have hlt : valU (row.take j) < 128 ^ j := by
            have := valU_lt (row.take j)
            rwa [show (row.take j).length = j from by rw [List.length_take, HG.out.2.1]; omega] at this
          have hst := stepU (xs.getD j 0 % 128) (valU (row.take j)) j (by omega) (Nat.mod_lt _ (by decide)) hlt
          rw [← HG.out.2.2.1 j hjk, ← hV, HG.out.2.2.1 j hjk] at hst
          clear hV hlt hp
          obtain ⟨M, hM⟩ : ∃ M, valU (row.take (j + 1)) % W64 = M := ⟨_, rfl⟩
          rw [hM] at hst
          have HM := Lib.hid hM
          clear hM
          generalize valU (row.take j) % W64 = m at hst ⊢
          generalize xs.getD j 0 = y at hc hg hst
          generalize y % 128 = z at hg hst
          go_wp2
          exact ⟨⟨j + 1, by omega, by rw [HM.out], by go_num⟩, by simp [intOf]; omega⟩
        · have hji : ¬ (j : Int) < (k : Int) := by omega
          obtain rfl : j = k := by omega
          have ht : row.take j = row := List.take_of_length_le (by rw [HG.out.2.1]; omega)
          rw [ht]
          obtain ⟨s, hs⟩ : ∃ s, 64 - 7 * j = s := ⟨_, rfl⟩
          have hsp : max 0 (64 - 7 * (j : Int)) = (s : Int) := by omega
          have hsm : (s : Int) < 64 := by omega
          have hfin := spareU (valU row) j hk0 hk10 (by have := valU_lt row; rwa [HG.out.2.1] at this)
          rw [hs] at hfin
          clear ht hs
          have HM2 := Lib.hid (Nat.mod_lt (valU row) (show 0 < W64 by decide))
          generalize valU row % W64 = m at hfin HR HM2 ⊢
          have hmk := made10 w
          have hown := own10 w
          have hBA : Below w.heap.size w (w.alloc (.cells zeros10 5)) := (Below.refl _ w).alloc (Nat.le_refl _) _
          generalize w.alloc (.cells zeros10 5) = w1 at hmk hown hBA
          have hm64 : m < W64 := HM2.out
          have hput := putU_any g m w.heap.size _ [] (by have := putU_ten hm64; simp; omega) w1 hown hBA.size hm64 (HL.out.1.below hBA HL.out.2) (by have := HL.out.2; have := hBA.size; omega) (by have := HL.out.2; simp [Value.ownBlock]; omega)
          rw [List.nil_append] at hput
          have HP := Lib.hid hput
          have HIN := Lib.hid (show ByIn w.heap.size w p row from by rw [← HG.out.1]; exact hp.take j)
          clear hput hown hp hx
          go_wp2_with fail
          refine HP.out.mono ?_
          rintro e w2 ⟨v, rfl, hO, hB2⟩
          obtain ⟨q, d, rfl⟩ := hO.slice
          have hB3 := hBA.trans hB2
          have hin := HIN.out.below (B' := w2.heap.size) hB3 (Nat.le_refl _) hB3.size
          have heq := equal_any q p d c (putU m) row (putU_bytes m) HG.out.2.2.2 w2.heap.size w2 hO.in hin
          rw [HG.out.2.1] at heq
          have HE := Lib.hid heq
          clear HP hO hB2 hBA hin heq HIN
          by_cases he : putU m = row
          · rw [decide_eq_true he] at HE
            have hr := HR.out
            rw [if_pos he] at hr
            subst hr
            clear HR he HG
            go_wp2_with fail
            refine HE.out.mono ?_
            rintro e w3 ⟨rfl, rfl⟩
            clear HE
            go_wp2
            go_ret3
            exact ⟨rfl, hB3⟩
          · rw [decide_eq_false he] at HE
            have hr := HR.out
            rw [if_neg he] at hr
            subst hr
            clear HR he HG
            go_wp2_with fail
            refine HE.out.mono ?_
            rintro e w3 ⟨rfl, rfl⟩
            clear HE
            go_wp2
            go_ret3
            exact ⟨rfl, hB3⟩
theorem oneS_row : ∀ {l : List Nat}, bytesL l → lead l < l.length → oneS (l.take (lead l + 1))
  | [], _, h => absurd h (by simp [lead])
  | x :: l, hb, h => by
    rw [lead] at h ⊢
    split at h
    · rename_i hx
      rw [if_pos hx]
      have hl : lead l < l.length := by simpa using h
      have ih := oneS_row (fun y hy => hb y (List.mem_cons_of_mem _ hy)) hl
      rw [List.take_succ_cons]
      exact oneS_cons hx (hb x (List.mem_cons_self ..)) ih
    · rename_i hx
      rw [if_neg hx]
      show x < 128
      omega

set_option maxRecDepth 100000 in
set_option maxHeartbeats 1000000 in
theorem getS_any (p : Option Addr) (c : Nat) (xs : List Nat) (hx : bytesL xs) (hl : xs.length ≤ c) (hm : c ≤ maxLen) (g : Nat) (w : World) (hp : ByIn w.heap.size w p xs) (hlay : laysS g w) (hgs : g + 1 < w.heap.size) :
    Calls Try.prog 65 #[.slice p xs.length c, endS g] w fun e w' => e = .returned (.tuple #[.int .i64 (getS xs).1, .int .i64 ((getS xs).2.1 : Nat), .int .i64 ((getS xs).2.2 : Nat)]) ∧ Below w.heap.size w w' := by
  have hmax := hm
  unfold maxLen at hmax
  have hspan := span_any p c xs hx (Nat.le_trans hl hm) _ w hp
  have hll := lead_le xs
  unfold endS
  by_cases h10 : 10 ≤ lead xs
  · have hk : spanV xs = (0, 31) := by unfold spanV; rw [if_pos h10]
    have hg : getS xs = (0, 0, 31) := by unfold getS; rw [if_pos h10]
    rw [hk] at hspan
    rw [hg]
    have HS := Lib.hid hspan
    clear hspan hk hg hlay hp hx
    generalize xs.length = n at HS ⊢
    go_enter Try.func65, Try.ntmps65
    go_wp2_with fail
    refine HS.out.mono ?_
    rintro e w' ⟨rfl, rfl⟩
    go_wp2
    go_ret3
    exact ⟨rfl, Below.refl _ _⟩
  · by_cases hend : lead xs = xs.length
    · have hk : spanV xs = (0, 30) := by unfold spanV; rw [if_neg h10, if_pos hend]
      have hg : getS xs = (0, 0, 30) := by unfold getS; rw [if_neg h10, if_pos hend]
      rw [hk] at hspan
      rw [hg]
      have HS := Lib.hid hspan
      clear hspan hk hg hlay hp hx
      generalize xs.length = n at HS ⊢
      go_enter Try.func65, Try.ntmps65
      go_wp2_with fail
      refine HS.out.mono ?_
      rintro e w' ⟨rfl, rfl⟩
      go_wp2
      go_ret3
      exact ⟨rfl, Below.refl _ _⟩
    · have hk : spanV xs = (((lead xs + 1 : Nat) : Int), 0) := by unfold spanV; rw [if_neg h10, if_neg hend]
      rw [hk] at hspan
      have hz : lead xs + 1 ≤ xs.length := by omega
      have hk10 : lead xs + 1 ≤ 10 := by omega
      have hk0 : 0 < lead xs + 1 := by omega
      have hget : getS xs = if putS (wrap64 (valS (xs.take (lead xs + 1)))) = xs.take (lead xs + 1) then (wrap64 (valS (xs.take (lead xs + 1))), lead xs + 1, 0) else (0, 0, 31) := by
        unfold getS; rw [if_neg h10, if_neg hend]
      have hone : oneS (xs.take (lead xs + 1)) := oneS_row hx (by omega)
      clear hll h10 hend hk
      generalize lead xs + 1 = k at hspan hz hk10 hk0 hget hone
      have hrl : (xs.take k).length = k := by rw [List.length_take]; omega
      obtain ⟨row, hrow⟩ : ∃ row, xs.take k = row := ⟨_, rfl⟩
      have hrb : bytesL row := by rw [← hrow]; exact bytesL_take hx k
      have hrat : ∀ j, j < k → row.getD j 0 = xs.getD j 0 := fun j hj => by
        rw [← hrow, List.getD_eq_getElem?_getD, List.getElem?_take_of_lt hj, ← List.getD_eq_getElem?_getD]
      rw [hrow] at hrl hget hone
      have HO := Lib.hid hone
      have HG := Lib.hid (And.intro hget (And.intro hrl (And.intro hrat hrb)))
      have HS := Lib.hid hspan
      have HL := Lib.hid (And.intro hlay hgs)
      have hki : (k : Int) ≤ 10 := by omega
      obtain ⟨r, hr⟩ : ∃ r, getS xs = r := ⟨_, rfl⟩
      rw [hr]
      rw [hr] at hget
      have HR := Lib.hid hget
      clear hone hget hrl hrat hrb hspan hlay hgs hr hm HG
      have HG := Lib.hid (And.intro hrow (And.intro (show row.length = k from by rw [← hrow, List.length_take]; omega) (And.intro (show ∀ j, j < k → row.getD j 0 = xs.getD j 0 from fun j hj => by
        rw [← hrow, List.getD_eq_getElem?_getD, List.getElem?_take_of_lt hj, ← List.getD_eq_getElem?_getD]) (show bytesL row from by rw [← hrow]; exact bytesL_take hx k))))
      clear hrow
      go_enter Try.func65, Try.ntmps65
      go_wp2_with fail
      refine HS.out.mono ?_
      rintro e w' ⟨rfl, rfl⟩
      clear HS
      go_wp2_with fail
      go_loop [10, 27] (fun n i => ∃ j : Nat, j ≤ k ∧ n = .int .i64 (wrap64 ((valU (row.take j) : Nat) : Int)) ∧ i = .int .i64 j) (fun _ i => k - (intOf i).toNat)
      case atStart => exact ⟨0, by omega, by simp [valU, wrap64], rfl⟩
      case round =>
        obtain ⟨j, hj, rfl, rfl⟩ := hrel
        by_cases hjk : j < k
        · have hji : (j : Int) < (k : Int) := by omega
          have hj9 : (j : Int) < 10 := by omega
          obtain ⟨b, off, rfl, hb, hc⟩ := hp j (by omega)
          have hg := andNot128 (xs.getD j 0) (bytesL_at hx j)
          have hV := valU_take row j (by rw [HG.out.2.1]; exact hjk)
          have hlt : valU (row.take j) < 128 ^ j := by
            have := valU_lt (row.take j)
            rwa [show (row.take j).length = j from by rw [List.length_take, HG.out.2.1]; omega] at this
          have hst := stepS (xs.getD j 0 % 128) (valU (row.take j)) j (by omega) (Nat.mod_lt _ (by decide)) hlt
          rw [← HG.out.2.2.1 j hjk, ← hV, HG.out.2.2.1 j hjk] at hst
          clear hV hlt hp
          obtain ⟨M, hM⟩ : ∃ M, wrap64 ((valU (row.take (j + 1)) : Nat) : Int) = M := ⟨_, rfl⟩
          rw [hM] at hst
          have HM := Lib.hid hM
          clear hM
          generalize wrap64 ((valU (row.take j) : Nat) : Int) = m at hst ⊢
          generalize xs.getD j 0 = y at hc hg hst
          generalize y % 128 = z at hg hst
          go_wp2
          exact ⟨⟨j + 1, by omega, by rw [HM.out], by go_num⟩, by simp [intOf]; omega⟩
        · have hji : ¬ (j : Int) < (k : Int) := by omega
          obtain rfl : j = k := by omega
          have ht : row.take j = row := List.take_of_length_le (by rw [HG.out.2.1]; omega)
          rw [ht]
          obtain ⟨s, hs⟩ : ∃ s, 64 - 7 * j = s := ⟨_, rfl⟩
          have hsp : max 0 (64 - 7 * (j : Int)) = (s : Int) := by omega
          have hsm : (s : Int) < 64 := by omega
          have hvs := valS_is HO.out
          rw [HG.out.2.1] at hvs
          have hfin := spareS (valU row) j (valS row) hk0 hk10 (by have := valU_lt row; rwa [HG.out.2.1] at this) hvs.1 hvs.2.1 hvs.2.2
          rw [hs] at hfin
          clear ht hs
          have HM2 := Lib.hid (wrap_le (valS row))
          clear hvs
          generalize wrap64 (valS row) = m at hfin HR HM2
          generalize wrap64 ((valU row : Nat) : Int) = m0 at hfin ⊢
          have hmk := made10 w
          have hown := own10 w
          have hBA : Below w.heap.size w (w.alloc (.cells zeros10 5)) := (Below.refl _ w).alloc (Nat.le_refl _) _
          generalize w.alloc (.cells zeros10 5) = w1 at hmk hown hBA
          have hm64 := HM2.out
          have hput := putS_any g m w.heap.size _ [] (by have := putS_ten hm64.1 hm64.2; simp; omega) w1 hown hBA.size hm64.1 hm64.2 (HL.out.1.below hBA HL.out.2) (by have := HL.out.2; have := hBA.size; omega) (by have := HL.out.2; simp [Value.ownBlock]; omega)
          rw [List.nil_append] at hput
          have HP := Lib.hid hput
          have HIN := Lib.hid (show ByIn w.heap.size w p row from by rw [← HG.out.1]; exact hp.take j)
          clear hput hown hp hx
          go_wp2_with fail
          refine HP.out.mono ?_
          rintro e w2 ⟨v, rfl, hO, hB2⟩
          obtain ⟨q, d, rfl⟩ := hO.slice
          have hB3 := hBA.trans hB2
          have hin := HIN.out.below (B' := w2.heap.size) hB3 (Nat.le_refl _) hB3.size
          have heq := equal_any q p d c (putS m) row (putS_bytes m) HG.out.2.2.2 w2.heap.size w2 hO.in hin
          rw [HG.out.2.1] at heq
          have HE := Lib.hid heq
          clear HP hO hB2 hBA hin heq HIN
          by_cases he : putS m = row
          · rw [decide_eq_true he] at HE
            have hr := HR.out
            rw [if_pos he] at hr
            subst hr
            clear HR he HG
            go_wp2_with fail
            refine HE.out.mono ?_
            rintro e w3 ⟨rfl, rfl⟩
            clear HE
            go_wp2
            go_ret3
            exact ⟨rfl, hB3⟩
          · rw [decide_eq_false he] at HE
            have hr := HR.out
            rw [if_neg he] at hr
            subst hr
            clear HR he HG
            go_wp2_with fail
            refine HE.out.mono ?_
            rintro e w3 ⟨rfl, rfl⟩
            clear HE
            go_wp2
            go_ret3
            exact ⟨rfl, hB3⟩
end Go.Proofs.Ytahnhohccbnhjaa
