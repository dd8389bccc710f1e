/- ApartBytes of the statements' kit, of two rows that are none; in every memory. -/
import Derived.Test.YtahnhohccbnhjaaApB
namespace Go.Proofs.Ytahnhohccbnhjaa
open Go Go.RowKit

/-- The first j of them have been gone on with. -/
structure ApN (G N j : Nat) (gs cs : Nat → Nat) (mv : Value) (w0 wr : World) : Prop where
  all : ∀ q, q < 2 → wr.cell? ⟨G, q, none⟩ = some (.slice none 0 0)
  ls : wr.ownsRow N 35 1 mv j (lsV gs cs (fun _ => 0) j)
  two : ∀ q, q < j → OwnB N wr (.slice (some ⟨gs q, 0, none⟩) (0 + 70) (cs q)) (mk8 (11 * q) 70)
  big : N ≤ wr.heap.size
  low : Below N w0 wr
theorem ApN.next {G N j : Nat} {gs cs : Nat → Nat} {mv mv' : Value} {w0 wi wr W w5 : World} {g d : Nat} (hP : ApN G N j gs cs mv w0 wi) (hB : Below wi.heap.size wi wr) (hl : OwnB wi.heap.size wr (.slice (some ⟨g, 0, none⟩) (0 + 70) d) (mk8 (11 * j) 70))
    (hW : Below wr.heap.size wr W) (hls2 : W.ownsRow N 35 1 mv j (lsV gs cs (fun _ => 0) j)) (hGN : G < N)
    (hR5 : w5.ownsRow N 35 1 mv' (j + 1) (lsV gs cs (fun _ => 0) j ++ [.slice (some ⟨g, 0, none⟩) (0 + 70) d])) (hg5 : W.grownBy w5 mv.ownBlock) :
    ApN G N (j + 1) (fun q => if q = j then g else gs q) (fun q => if q = j then d else cs q) mv' w0 w5 := by
  have hbig := hP.big
  have hmvN : ∀ k, mv.ownBlock = some k → N ≤ k := fun k hk => (hls2.lt k hk).1
  have hBW : Below wi.heap.size wi W := hB.trans (hW.mono hB.size)
  have ownW : ∀ {B : Nat} {v : Value} {l : List Nat}, OwnB B W v l → OwnB B w5 v l := fun {B v l} h1 => World.ownsRow.kept h1 hg5 (own_nee h1 hls2 (by decide))
  refine ⟨fun q hq => ?_, ?_, fun q hq => ?_, ?_, ?_⟩
  · have h1 := hP.all q hq
    have h2 := (hBW.cell (World.block_lt_of_cell? _ _ h1)).trans h1
    exact hg5.cell h2 (fun e => by have := hmvN _ e.symm; simp at *; omega)
  · rw [lsV_succ]
    simp only [if_true]
    rw [lsV_congr (gs' := gs) (cs' := cs) (fun q hq => by simp [Nat.ne_of_lt hq])]
    exact hR5
  · by_cases hqj : q = j
    · subst hqj
      simp only [if_true]
      exact ownW ((hl.stay hW).base hbig)
    · simp only [hqj, if_false]
      exact ownW ((hP.two q (by omega)).stay hBW)
  · have := hg5.size
    have := hBW.size
    omega
  · exact hP.low.trans ((hBW.mono hbig).trans (below_own hg5 (by have := hBW.size; omega) hmvN))

set_option maxRecDepth 100000 in
set_option maxHeartbeats 2000000 in
theorem apart_nil (G c : Nat) (w : World) (h : ∀ q, q < 2 → w.cell? ⟨G, q, none⟩ = some (.slice none 0 0)) :
    Calls Try.prog 24 #[.slice (some ⟨G, 0, none⟩) 2 c] w fun e w' => e = .returned (.bool true) ∧ Below w.heap.size w w' := by
  have H0 := Lib.hid h
  have hGN : G < w.heap.size := World.block_lt_of_cell? _ _ (h 0 (by omega))
  obtain ⟨i22, d2, d3, d4, d5⟩ := info22
  clear h
  go_enter Try.func24, Try.ntmps24
  go_wp2
  go_loop [3] (fun x => ∃ i : Nat, i ≤ 2 ∧ x = .int .i64 i) (fun x => 2 - (intOf x).toNat)
  case atStart => exact ⟨0, by omega, rfl⟩
  case round =>
    obtain ⟨i, hi, rfl⟩ := hrel
    by_cases hlt : i < 2
    · have hii : (i : Int) < 2 := by omega
      have a0 := H0.out i hlt
      go_wp2
      go_loop [4] (fun x => x = .int .i64 0) (fun _ => 0)
      case atStart => rfl
      case round =>
        subst hrel
        go_wp2
        exact ⟨⟨i + 1, by omega, by go_num⟩, by simp [intOf]; omega⟩
    · obtain rfl : i = 2 := by omega
      go_wp2
      go_loopw [5, 6] (fun mv0 x wr => ∃ (j : Nat) (gs cs : Nat → Nat) (mv : Value), j ≤ 2 ∧ x = .int .i64 j ∧ mv = mv0 ∧ ApN G w.heap.size j gs cs mv w wr) (fun _ x _ => 2 - (intOf x).toNat)
      case atStart => exact ⟨0, fun _ => 0, fun _ => 0, _, by omega, rfl, rfl, ⟨H0.out, World.ownsRow_nil _ _ _ _, fun q hq => absurd hq (Nat.not_lt_zero _), Nat.le_refl _, Below.refl _ _⟩⟩
      case round =>
        obtain ⟨j, gs, cs, mv, hj, rfl, rfl, hP⟩ := hrel
        by_cases hlt : j < 2
        · have hji : (j : Int) < 2 := by omega
          have hall := hP.all j hlt
          generalize wr = wi at *
          have HP := Lib.hid hP
          have HBG := Lib.hid hP.big
          clear hP
          go_wp2
          go_loopw [7, 8] (fun l x wk => ∃ k : Nat, k ≤ 70 ∧ x = .int .i64 k ∧ OwnB wi.heap.size wk l (mk8 (11 * j) k) ∧ Below wi.heap.size wi wk) (fun _ x _ => 70 - (intOf x).toNat)
          case atStart => exact ⟨0, by omega, rfl, World.ownsRow_nil _ _ _ _, Below.refl _ _⟩
          case round =>
            obtain ⟨k, hk, rfl, hl, hB⟩ := hrel
            have hlen : (mk8 (11 * j) k).length = k := mk8_length _ _
            obtain ⟨q, d, rfl⟩ := hl.slice
            rw [hlen] at hl ⊢
            by_cases hk70 : k < 70
            · have hki : (k : Int) < 70 := by omega
              obtain ⟨val, hval⟩ : ∃ val : Nat, (11 * j + k) % 256 = val := ⟨_, rfl⟩
              have hvi : 11 * (j : Int) + (k : Int) = (val : Int) := by omega
              have hA := hl.alloc (.cells #[.int .u8 (val : Int)] 5)
              have hWa : Below wi.heap.size wi (wr.alloc (.cells #[.int .u8 (val : Int)] 5)) := hB.alloc hB.size _
              have hbs := hB.size
              have HL := Lib.hid (And.intro hlen hval)
              clear hl hall hlen hval hB
              generalize hml : mk8 (11 * j) k = ml at hA HL
              have HML := Lib.hid hml
              clear hml
              go_wp2_with (at_builtin; refine wpList_bytes rfl _ _ rfl wi.heap.size _ ml rfl hA ⟨_, 0, none⟩ 1 [val] rfl (one_cells _ _) (by have := HL.out.1; simp; omega) (by simp; omega) ?_)
              intro v2 w2 hO2 hgr _
              have HF := Lib.hid (show OwnB wi.heap.size w2 v2 (mk8 (11 * j) (k + 1)) from by rw [mk8_succ, HML.out, HL.out.2]; exact hO2)
              have HB := Lib.hid (hWa.trans (below_own hgr (by simp; omega) (fun t ht => (hA.lt t ht).1)))
              clear hO2 hgr hA hWa
              go_wp2
              exact ⟨⟨k + 1, by omega, by go_num, HF.out, HB.out⟩, by simp [intOf]; omega⟩
            · obtain rfl : k = 70 := by omega
              obtain ⟨g, d', e1, hBg⟩ := row_form hl (by rw [hlen]; omega)
              rw [hlen] at e1
              simp only [Value.slice.injEq, true_and] at e1
              obtain ⟨rfl, rfl⟩ := e1
              have hWa : Below wr.heap.size wr (wr.alloc (.cells #[.slice (some ⟨g, 0, none⟩) 70 d] 35)) := (Below.refl _ _).alloc (Nat.le_refl _) _
              have hlsr : wr.ownsRow w.heap.size 35 1 mv j (lsV gs cs (fun _ => 0) j) := own_but HP.out.ls (But.of_below (R := wi.heap.size) hB) (fun e => by have := (HP.out.ls.lt _ e).2; omega)
              have hls2 := hlsr.alloc (.cells #[.slice (some ⟨g, 0, none⟩) 70 d] 35)
              have HNEW := Lib.hid (fun (mv' : Value) (w5 : World) => ApN.next (mv' := mv') (w5 := w5) HP.out hB hl hWa hls2 hGN)
              have hbs := hB.size
              have hbg := HBG.out
              clear hl hall hlen hlsr hWa hB
              go_wp2_with (at_builtin; refine wpList_append_own _ rfl _ _ 45 rfl w.heap.size 35 i22 (.slice none 0 0) 1 24 Try.underlying45 d2 d3 d4 d5 rfl (by omega) _ j _ rfl hls2 ⟨_, 0, none⟩ 1 1 [.slice (some ⟨g, 0, none⟩) 70 d] rfl rfl (here_one _ _ _) (by simp [Value.oneCell']) (by unfold maxLen; omega) (by omega) (by simp; omega) ?_)
              intro mv' w5 hR5 hg5 _
              have hnew := HNEW.out mv' w5 hR5 hg5
              obtain ⟨gm, cm, rfl, _⟩ := row_form hR5 (by omega)
              have HF := Lib.hid hnew
              clear hR5 hg5 hls2 hnew HNEW
              go_wp2
              exact ⟨⟨j + 1, _, _, _, by omega, by go_num, rfl, HF.out⟩, by simp [intOf]; omega⟩
        · obtain rfl : j = 2 := by omega
          obtain ⟨gm, cm, rfl, _⟩ := row_form hP.ls (by omega)
          have hmo : ∀ q, q < 2 → wr.cell? ⟨gm, q, none⟩ = some (.slice (some ⟨gs q, 0, none⟩) 70 (cs q)) := fun q hq => by
            rw [hP.ls.cellAt q (by omega)]; simp [lsV, hq]
          have hcs : ∀ q, q < 2 → 70 ≤ cs q ∧ cs q ≤ maxLen := fun q hq => by
            obtain ⟨_, _, _, h1, h2, _⟩ := (hP.two q hq).block
            exact ⟨h1, h2⟩
          have hm3 : ∀ q k, q < 2 → k < 70 → wr.cell? ⟨gs q, k, none⟩ = some (.int .u8 (((11 * q + k) % 256 : Nat) : Int)) := fun q k hq hk => by
            rw [((hP.two q hq).at (by rw [mk8_length]) k (by omega)).1, mk8_at _ _ _ hk]
          have H3 := Lib.hid hm3
          have HMO := Lib.hid hmo
          have HA := Lib.hid hP.all
          have HC := Lib.hid hcs
          have HBEL := Lib.hid hP.low
          clear hm3 hmo hcs hP
          go_wp2
          go_loop [9] (fun x => ∃ i : Nat, i ≤ 2 ∧ x = .int .i64 i) (fun x => 2 - (intOf x).toNat)
          case atStart => exact ⟨0, by omega, rfl⟩
          case round =>
            obtain ⟨i, hi, rfl⟩ := hrel
            by_cases hlt : i < 2
            · have hii : (i : Int) < 2 := by omega
              have a1 := HA.out i hlt
              have a2 := HMO.out i hlt
              have a3 := (HC.out i hlt).1
              go_wp2
              go_loop [11] (fun x => x = .int .i64 0) (fun _ => 0)
              case atStart => rfl
              case round =>
                subst hrel
                go_wp2
                go_loop [12] (fun x => ∃ t : Nat, t ≤ 70 ∧ x = .int .i64 t) (fun x => 70 - (intOf x).toNat)
                case atStart => exact ⟨0, by omega, rfl⟩
                case round =>
                  obtain ⟨t, ht, rfl⟩ := hrel
                  by_cases ht70 : t < 70
                  · have hti : (t : Int) < 70 := by omega
                    have b3 := H3.out i t hlt ht70
                    obtain ⟨val, hval⟩ : ∃ val : Nat, (11 * i + t) % 256 = val := ⟨_, rfl⟩
                    have hvi : 11 * (i : Int) + (t : Int) = (val : Int) := by omega
                    rw [hval] at b3
                    clear hval
                    go_wp2
                    exact ⟨⟨t + 1, by omega, by go_num⟩, by simp [intOf]; omega⟩
                  · obtain rfl : t = 70 := by omega
                    go_wp2
                    exact ⟨⟨i + 1, by omega, by go_num⟩, by simp [intOf]; omega⟩
            · obtain rfl : i = 2 := by omega
              go_wp2
              go_ret
              exact ⟨rfl, HBEL.out⟩
end Go.Proofs.Ytahnhohccbnhjaa
