/- Put, PutSigned, Size, SizeSigned of package leb; Put and PutSigned of the document's answer; in every memory. -/
import Derived.Test.YtahnhohccbnhjaaD
namespace Go.Proofs.Ytahnhohccbnhjaa
open Go Go.RowKit

theorem OwnB.keep {B N : Nat} {w w' : World} {v : Value} {l : List Nat} (h : OwnB B w v l) (hb : Below N w w') (hv : ∀ k, v.ownBlock = some k → k < N) : OwnB B w' v l := by
  refine ⟨h.1, ?_⟩
  rcases h.2 with h2 | ⟨g, cap, cur, hvg, hg, hh, r⟩
  · exact .inl h2
  · exact .inr ⟨g, cap, cur, hvg, hg, by rw [hb.block g (hv g (by rw [hvg]; rfl))]; exact hh, r⟩
theorem OwnB.stay {B : Nat} {w w' : World} {v : Value} {l : List Nat} (h : OwnB B w v l) (hb : Below w.heap.size w w') : OwnB B w' v l := h.keep hb fun k hk => (h.lt k hk).2
theorem OwnB.base {B B' : Nat} {w : World} {v : Value} {l : List Nat} (h : OwnB B w v l) (hB : B' ≤ B) : OwnB B' w v l := by
  refine ⟨h.1, ?_⟩
  rcases h.2 with h2 | ⟨g, cap, cur, hv, hg, r⟩
  · exact .inl h2
  · exact .inr ⟨g, cap, cur, hv, Nat.le_trans hB hg, r⟩
theorem apart_new {B g : Nat} {w : World} {v : Value} {l : List Nat} (h : OwnB B w v l) (hg : w.heap.size ≤ g) : v.ownBlock ≠ some g := fun e => by
  have := (h.lt g e).2; omega

set_option maxRecDepth 100000 in
set_option maxHeartbeats 1000000 in
theorem Put_any (p : Option Addr) (c : Nat) (ns : List Nat) (n : Nat) (hn : n < W64) (hp : (p = none ∧ ns = [] ∧ c = 0) ∨ ∃ ad, p = some ad) (hb : ns.length + 10 ≤ 140737488355328) (w : World) (hs : ByIn w.heap.size w p ns) :
    Calls Try.prog 35 #[.slice p ns.length c, .int .u64 n] w fun e w' => ∃ v, e = .returned v ∧ OwnB w.heap.size w' v (ns ++ putU n) ∧ Below w.heap.size w w' := by
  have h10 := putU_ten hn
  have h1 := clone_any p c ns hp (by omega) w hs
  have h2 := Lib.hid (fun (v : Value) (w1 w2 : World) (g : Nat) (hO : OwnB w.heap.size w1 v ns) (hB : Below w.heap.size w w1) (hlay : laysU g w2) (hge : w1.heap.size ≤ g) (hlt : g + 1 < w2.heap.size) (hB2 : Below w1.heap.size w1 w2) =>
    (putU_any g n w.heap.size v ns (by omega) w2 (hO.stay hB2) (Nat.le_trans hB.size hB2.size) hn hlay hlt ⟨apart_new hO hge, apart_new hO (by omega)⟩).mono (fun e w' (h : ∃ v', e = .returned v' ∧ OwnB w.heap.size w' v' (ns ++ putU n) ∧ Below w.heap.size w2 w') => show ∃ v', e = .returned v' ∧ OwnB w.heap.size w' v' (ns ++ putU n) ∧ Below w.heap.size w w' from
      let ⟨v', a, b, c⟩ := h
      ⟨v', a, b, (hB.trans (hB2.mono hB.size)).trans c⟩))
  clear hs hp hb h10
  go_enter Try.func35, Try.ntmps35
  go_wp2_with fail
  refine h1.mono ?_
  rintro e w1 ⟨v, rfl, hO, hB⟩
  clear h1
  go_wp2_with fail
  refine (unsignedEnd_any w1).mono ?_
  rintro e w2 ⟨g, rfl, hlay, hge, hlt, hB2⟩
  have h3 := Lib.hid (h2.out v w1 w2 g hO hB hlay hge hlt hB2)
  clear h2 hlay hO hB hB2
  go_wp2_with fail
  refine h3.out.mono ?_
  rintro e w3 ⟨v', rfl, hO3, hB3⟩
  have H4 := Lib.hid (And.intro hO3 hB3)
  clear hO3 hB3 h3
  go_wp2_with fail
  go_ret
  exact ⟨_, rfl, H4.out⟩
set_option maxRecDepth 100000 in
set_option maxHeartbeats 1000000 in
theorem PutSigned_any (p : Option Addr) (c : Nat) (ns : List Nat) (n : Int) (hn1 : -9223372036854775808 ≤ n) (hn2 : n < 9223372036854775808) (hp : (p = none ∧ ns = [] ∧ c = 0) ∨ ∃ ad, p = some ad) (hb : ns.length + 10 ≤ 140737488355328) (w : World) (hs : ByIn w.heap.size w p ns) :
    Calls Try.prog 34 #[.slice p ns.length c, .int .i64 n] w fun e w' => ∃ v, e = .returned v ∧ OwnB w.heap.size w' v (ns ++ putS n) ∧ Below w.heap.size w w' := by
  have h10 := putS_ten hn1 hn2
  have h1 := clone_any p c ns hp (by omega) w hs
  have h2 := Lib.hid (fun (v : Value) (w1 w2 : World) (g : Nat) (hO : OwnB w.heap.size w1 v ns) (hB : Below w.heap.size w w1) (hlay : laysS g w2) (hge : w1.heap.size ≤ g) (hlt : g + 1 < w2.heap.size) (hB2 : Below w1.heap.size w1 w2) =>
    (putS_any g n w.heap.size v ns (by omega) w2 (hO.stay hB2) (Nat.le_trans hB.size hB2.size) hn1 hn2 hlay hlt ⟨apart_new hO hge, apart_new hO (by omega)⟩).mono (fun e w' (h : ∃ v', e = .returned v' ∧ OwnB w.heap.size w' v' (ns ++ putS n) ∧ Below w.heap.size w2 w') => show ∃ v', e = .returned v' ∧ OwnB w.heap.size w' v' (ns ++ putS n) ∧ Below w.heap.size w w' from
      let ⟨v', a, b, c⟩ := h
      ⟨v', a, b, (hB.trans (hB2.mono hB.size)).trans c⟩))
  clear hs hp hb h10
  go_enter Try.func34, Try.ntmps34
  go_wp2_with fail
  refine h1.mono ?_
  rintro e w1 ⟨v, rfl, hO, hB⟩
  clear h1
  go_wp2_with fail
  refine (signedEnd_any w1).mono ?_
  rintro e w2 ⟨g, rfl, hlay, hge, hlt, hB2⟩
  have h3 := Lib.hid (h2.out v w1 w2 g hO hB hlay hge hlt hB2)
  clear h2 hlay hO hB hB2
  go_wp2_with fail
  refine h3.out.mono ?_
  rintro e w3 ⟨v', rfl, hO3, hB3⟩
  have H4 := Lib.hid (And.intro hO3 hB3)
  clear hO3 hB3 h3
  go_wp2_with fail
  go_ret
  exact ⟨_, rfl, H4.out⟩

theorem pow128 (k : Nat) : (128 : Nat) ^ k = 2 ^ (7 * k) := by rw [Nat.pow_mul]
theorem shrU (n k : Nat) : (n : Int) / 2 ^ (7 * k) = ((n / 128 ^ k : Nat) : Int) := by
  rw [pow128, Int.natCast_ediv, Int.natCast_pow]; rfl
theorem take_next {l : List Nat} {j x : Nat} (h : l[j]? = some x) : l.take (j + 1) = l.take j ++ [x] := by
  obtain ⟨hj, rfl⟩ := List.getElem?_eq_some_iff.1 h
  exact List.take_succ_eq_append_getElem hj

set_option maxRecDepth 100000 in
set_option maxHeartbeats 1000000 in
theorem refPut_any (n : Nat) (hn : n < W64) (w : World) :
    Calls Try.prog 37 #[.int .u64 n] w fun e w' => ∃ v, e = .returned v ∧ OwnB w.heap.size w' v (putU n) ∧ Below w.heap.size w w' := by
  have h10 := putU_ten hn
  go_enter Try.func37, Try.ntmps37
  go_wp2
  go_loop [3] (fun i => ∃ k : Nat, 1 ≤ k ∧ k ≤ 10 ∧ (k = 1 ∨ 128 ^ (k - 1) ≤ n) ∧ i = .int .i64 k) (fun i => 10 - (intOf i).toNat)
  case atStart => exact ⟨1, by omega, by omega, .inl rfl, rfl⟩
  case round =>
    obtain ⟨k, hk, hk1, hlow, rfl⟩ := hrel
    have hsh := shrU n k
    by_cases hgo : k < 10 ∧ 128 ^ k ≤ n
    · obtain ⟨hlt, hbig⟩ := hgo
      have hki : (k : Int) < 10 := by omega
      have hy0 : 0 < n / 128 ^ k := Nat.div_pos hbig (Nat.pow_pos (by decide))
      have HB := Lib.hid hbig
      clear hbig hlow
      generalize n / 128 ^ k = y at hsh hy0
      have hy : ((y : Int) != 0) = true := by simp; omega
      go_wp2
      exact ⟨⟨k + 1, by omega, by omega, .inr (by simpa using HB.out), by go_num⟩, by simp [intOf]; omega⟩
    · have hlen : (putU n).length = k := by
        have h1 : k - 1 < (putU n).length := by
          rcases hlow with rfl | h
          · exact List.length_pos_iff.2 (putU_ne n)
          · exact putU_length_gt n _ h
        by_cases h9 : k < 10
        · have := putU_length_le n k (by omega) (by
            rcases Nat.lt_or_ge n (128 ^ k) with h | h
            · exact h
            · exact absurd ⟨h9, h⟩ hgo)
          omega
        · omega
      have hpos : k < 10 → n / 128 ^ k = 0 := fun h9 => Nat.div_eq_of_lt (by
        rcases Nat.lt_or_ge n (128 ^ k) with h | h
        · exact h
        · exact absurd ⟨h9, h⟩ hgo)
      have HL := Lib.hid hlen
      clear hlen hgo hlow
      by_cases h9 : k < 10
      all_goals first
        | (have hy := hpos h9
           have hki : (k : Int) < 10 := by omega
           rw [hy] at hsh
           clear hy hpos
           go_wp2)
        | (have hki : ¬ (k : Int) < 10 := by omega
           clear hsh hpos
           go_wp2)
      all_goals
        go_loopw [4, 5] (fun b i wr => ∃ j : Nat, j ≤ k ∧ i = .int .i64 j ∧ OwnB w.heap.size wr b ((putU n).take j) ∧ Below w.heap.size w wr) (fun _ i _ => k - (intOf i).toNat)
        case atStart => exact ⟨0, Nat.zero_le _, rfl, World.ownsRow_nil _ _ _ _, Below.refl _ _⟩
        case round =>
          obtain ⟨j, hj, rfl, hO, hB⟩ := hrel
          obtain ⟨q, c, rfl⟩ := hO.slice
          by_cases hjk : j < k
          · have hat := putU_at n j (by rw [HL.out]; exact hjk)
            rw [HL.out] at hat
            have hji : (j : Int) < (k : Int) := by omega
            have hsh2 := shrU n j
            generalize n / 128 ^ j = y at hat hsh2
            have hc1 : ((y : Int) % 256).tmod 128 = ((y % 128 : Nat) : Int) := by
              rw [Int.tmod_eq_emod_of_nonneg (by omega)]; omega
            have hx : y % 128 < 128 := Nat.mod_lt _ (by decide)
            generalize y % 128 = x at hat hc1 hx
            have hx' : (x : Int) < 128 := by omega
            have HM := Lib.hid (show ((putU n).take j).length = j by rw [List.length_take, HL.out]; omega)
            by_cases hj1 : j + 1 < k
            · rw [if_pos hj1] at hat
              have hnext := take_next hat
              have hj1' : (j : Int) + 1 < (k : Int) := by omega
              obtain ⟨z, hz⟩ : ∃ z, x + 128 = z := ⟨_, rfl⟩
              rw [hz] at hnext
              have hz' : (x : Int) + 128 = (z : Int) := by omega
              clear hat hz
              generalize (putU n).take j = m at hO hnext HM
              have hA := hO.alloc (.cells #[.int .u8 (z : Int)] 5)
              have hBA : Below w.heap.size wr (wr.alloc (.cells #[.int .u8 (z : Int)] 5)) := (Below.refl _ _).alloc hB.size _
              clear hO
              go_wp2_with (at_builtin; refine wpList_bytes rfl _ _ rfl w.heap.size _ m rfl hA ⟨_, 0, none⟩ 1 [z] rfl (one_cells _ _) (by have := HM.out; simp; omega) (by have := hB.size; simp; omega) ?_)
              intro v2 w2 hO2 hgr _
              have hB2 : Below w.heap.size w w2 := hB.trans (hBA.trans (below_own hgr (by have := hB.size; simp; omega) (fun t ht => (hA.lt t ht).1)))
              rw [← hnext] at hO2
              have HO := Lib.hid (And.intro hO2 hB2)
              clear hO2 hB2 hA hBA hgr hnext hB
              go_wp2
              exact ⟨⟨j + 1, by omega, by go_num, HO.out⟩, by simp [intOf]; omega⟩
            · rw [if_neg hj1] at hat
              have hnext := take_next hat
              rw [show x + 0 = x from rfl] at hnext
              have hjn : ¬ (j : Int) + 1 < (k : Int) := by omega
              clear hat
              generalize (putU n).take j = m at hO hnext HM
              have hA := hO.alloc (.cells #[.int .u8 (x : Int)] 5)
              have hBA : Below w.heap.size wr (wr.alloc (.cells #[.int .u8 (x : Int)] 5)) := (Below.refl _ _).alloc hB.size _
              clear hO
              go_wp2_with (at_builtin; refine wpList_bytes rfl _ _ rfl w.heap.size _ m rfl hA ⟨_, 0, none⟩ 1 [x] rfl (one_cells _ _) (by have := HM.out; simp; omega) (by have := hB.size; simp; omega) ?_)
              intro v2 w2 hO2 hgr _
              have hB2 : Below w.heap.size w w2 := hB.trans (hBA.trans (below_own hgr (by have := hB.size; simp; omega) (fun t ht => (hA.lt t ht).1)))
              rw [← hnext] at hO2
              have HO := Lib.hid (And.intro hO2 hB2)
              clear hO2 hB2 hA hBA hgr hnext hB
              go_wp2
              exact ⟨⟨j + 1, by omega, by go_num, HO.out⟩, by simp [intOf]; omega⟩
          · have hji : ¬ (j : Int) < (k : Int) := by omega
            have ht : (putU n).take j = putU n := List.take_of_length_le (by rw [HL.out]; omega)
            rw [ht] at hO ⊢
            have HO := Lib.hid (And.intro hO hB)
            clear hO hB ht
            go_wp2
            go_ret
            exact ⟨_, rfl, HO.out⟩
end Go.Proofs.Ytahnhohccbnhjaa
