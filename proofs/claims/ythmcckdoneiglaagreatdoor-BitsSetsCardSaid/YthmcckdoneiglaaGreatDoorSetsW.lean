/- BitsSets: the law's walk, in every memory in which the library's tables and errors lie. -/
import Derived.Test.YthmcckdoneiglaaGreatDoorSetsL
namespace Go.Proofs.YthmcckdoneiglaaGreatDoor
open Go Go.RowKit

set_option maxRecDepth 100000 in
set_option maxHeartbeats 4000000 in
theorem sets_any (p : Option Addr) (c : Nat) (zs : List Nat) (hp : (p = none ∧ zs = [] ∧ c = 0) ∨ ∃ ad, p = some ad) (hz : ∀ z ∈ zs, z < 18446744073709551616) (hl : zs.length ≤ maxLen) (hlc : zs.length ≤ c) (hb : (zs.length + 1) * 8 ≤ 140737488355328)
    (p2 : Option Addr) (c2 : Nat) (ks : List Int) (hp2 : (p2 = none ∧ ks = [] ∧ c2 = 0) ∨ ∃ ad, p2 = some ad) (hl2 : ks.length ≤ maxLen) (hb2 : (ks.length + 1) * 8 ≤ 140737488355328)
    (w : World) (hs : NumInL w.heap.size w p (zs.map Int.ofNat)) (hs2 : NumInN w.heap.size w p2 ks) (hE : Env w) :
    Calls Tryz.prog 3 #[.slice p zs.length c, .slice p2 ks.length c2] w fun e w' => e = .returned (.bool true) ∧ Below w.heap.size w w' := by
  have h8 := hE.1.2.2
  have hlen : (zs.map Int.ofNat).length = zs.length := by simp
  obtain ⟨B, hB⟩ : ∃ B, ofInts ks = B := ⟨_, rfl⟩
  have hBl : B < 18446744073709551616 := hB ▸ ofInts_lt ks
  obtain ⟨A, hA⟩ : ∃ A, orAll zs = A := ⟨_, rfl⟩
  have hAl : A < 18446744073709551616 := hA ▸ orAll_lt zs hz
  have L1 := lent_anyL p c (zs.map Int.ofNat) (by rcases hp with ⟨h1, h2, h3⟩ | h; exact .inl ⟨h1, by rw [h2]; rfl, h3⟩; exact .inr h) (by rw [hlen]; exact hb) w hs
  rw [hlen] at L1
  -- the list in the world behind
  have hcell : ∀ W, Below w.heap.size w W → ∀ i, i < zs.length → ∃ b off, p = some ⟨b, off, none⟩ ∧ b < w.heap.size ∧ W.cell? ⟨b, off + i, none⟩ = some (.int .u64 ((zs.getD i 0 : Nat) : Int)) := fun W hW i hi => by
    obtain ⟨b, off, h1, h2, h3⟩ := hs i (by rw [hlen]; exact hi)
    refine ⟨b, off, h1, h2, (hW.cell (p := ⟨b, off + i, none⟩) h2).trans ?_⟩
    rw [h3, map_getD]
  have hcell2 : ∀ W, Below w.heap.size w W → ∀ i, i < ks.length → ∃ b off, p2 = some ⟨b, off, none⟩ ∧ W.cell? ⟨b, off + i, none⟩ = some (.int .i64 (ks.getD i 0)) := fun W hW i hi => by
    obtain ⟨b, off, h1, h2, h3⟩ := hs2 i hi
    exact ⟨b, off, h1, (hW.cell (p := ⟨b, off + i, none⟩) h2).trans h3⟩
  have L2 : ∀ W, Below w.heap.size w W → Calls Tryz.prog 5 #[.slice p2 ks.length c2] W fun e w' => ∃ q cap, e = .returned (.slice (some ⟨q, 0, none⟩) ks.length cap) ∧ W.heap.size ≤ q ∧ ks.length + 1 ≤ cap ∧ w'.ownsRow W.heap.size 3 1 (.slice (some ⟨q, 0, none⟩) (ks.length + 1) cap) (ks.length + 1) (valsN (ks ++ [markN])) ∧ Below W.heap.size W w' := fun W hW =>
    lent_anyN p2 c2 ks hp2 hb2 W (hs2.below hW (Nat.le_refl _) hW.size)
  have hzd : ∀ i, i < zs.length → zs.getD i 0 < 18446744073709551616 := fun i hi => hz _ (by rw [List.getD_eq_getElem?_getD, List.getElem?_eq_getElem hi]; exact List.getElem_mem _)
  obtain ⟨n, hn⟩ : ∃ n, zs.length = n := ⟨_, rfl⟩
  obtain ⟨n2, hn2⟩ : ∃ n, ks.length = n := ⟨_, rfl⟩
  have LJ : ∀ (q cap : Nat) (W1 : World), W1.ownsRow w.heap.size 27 1 (.slice (some ⟨q, 0, none⟩) (zs.length + 1) cap) (zs.length + 1) (valsL ((zs.map Int.ofNat) ++ [markL])) → zs.length + 1 ≤ cap → Below w.heap.size w W1 → ∀ W, Below W1.heap.size W1 W →
      Calls Tryz.prog 6 #[.slice (some ⟨q, 0, none⟩) zs.length cap] W (fun e w' => e = .returned (.int .u64 (A : Int)) ∧ W = w') ∧
      Calls Tryz.prog 10 #[.slice (some ⟨q, 0, none⟩) zs.length cap, .slice p zs.length c] W (fun e w' => e = .returned (.bool true) ∧ Below W.heap.size W w') := by
    intro q cap W1 hR hcap hb1 W hW
    rw [← hlen] at hR
    have hin := (lent_inL hR).below hW (Nat.le_refl _) (B' := W.heap.size) hW.size
    have hmk := lent_markL hR
    have hql := World.block_lt_of_cell? _ _ hmk
    have hq1 : q < W1.heap.size := hql
    have hmk2 := (hW.cell (p := ⟨q, (zs.map Int.ofNat).length, none⟩) hql).trans hmk
    have hbw := hb1.trans (hW.mono hb1.size)
    have hs' := hs.below hbw (Nat.le_refl _) (B' := W.heap.size) hbw.size
    refine ⟨?_, ?_⟩
    · rw [← hA]
      refine join_any q 0 cap zs hz hl W (fun i hi => ?_)
      obtain ⟨b, off, h1, _, h3⟩ := hin i (by rw [hlen]; exact hi)
      cases h1
      rw [h3, map_getD]
    · have := kept_anyL q p cap c (zs.map Int.ofNat) (by rw [hlen]; exact hcap) (row_cap hR).2 W hin hs' (Nat.lt_of_lt_of_le hq1 hW.size) hmk2
      rw [hlen] at this
      exact this
  have LO : ∀ (q cap : Nat) (W0 W1 : World), W1.ownsRow W0.heap.size 3 1 (.slice (some ⟨q, 0, none⟩) (ks.length + 1) cap) (ks.length + 1) (valsN (ks ++ [markN])) → ks.length + 1 ≤ cap → Below w.heap.size w W1 → ∀ W, Below W1.heap.size W1 W →
      Calls Tryz.prog 7 #[.slice (some ⟨q, 0, none⟩) ks.length cap] W (fun e w' => e = .returned (.int .u64 (B : Int)) ∧ W = w') ∧
      Calls Tryz.prog 11 #[.slice (some ⟨q, 0, none⟩) ks.length cap, .slice p2 ks.length c2] W (fun e w' => e = .returned (.bool true) ∧ Below W.heap.size W w') := by
    intro q cap W0 W1 hR hcap hb1 W hW
    have hin := (lent_inN hR).below hW (Nat.le_refl _) (B' := W.heap.size) hW.size
    have hmk := lent_markN hR
    have hql := World.block_lt_of_cell? _ _ hmk
    have hq1 : q < W1.heap.size := hql
    have hmk2 := (hW.cell (p := ⟨q, ks.length, none⟩) hql).trans hmk
    have hbw := hb1.trans (hW.mono hb1.size)
    have hs' := hs2.below hbw (Nat.le_refl _) (B' := W.heap.size) hbw.size
    refine ⟨?_, kept_anyN q p2 cap c2 ks hcap (row_cap hR).2 W hin hs' (Nat.lt_of_lt_of_le hq1 hW.size) hmk2⟩
    rw [← hB]
    refine of_any q 0 cap ks hl2 W (fun i hi => ?_)
    obtain ⟨b, off, h1, _, h3⟩ := hin i hi
    cases h1
    exact h3
  have LR1 : ∀ W, Below w.heap.size w W → Calls Tryz.prog 8 #[.slice p zs.length c] W (fun e w' => e = .returned (.int .u64 (A : Int)) ∧ W = w') := fun W hW => by
    rw [← hA]
    exact refjoin_any p c zs hz hl W (fun i hi => by obtain ⟨b, off, h1, _, h3⟩ := hcell W hW i hi; exact ⟨b, off, h1, h3⟩) (hA ▸ hAl)
  have LR2 : ∀ W, Below w.heap.size w W → Calls Tryz.prog 9 #[.slice p2 ks.length c2] W (fun e w' => e = .returned (.int .u64 (B : Int)) ∧ W = w') := fun W hW => by
    rw [← hB]
    exact refof_any p2 c2 ks hl2 W (hcell2 W hW)
  have hEb := fun W (hW : Below w.heap.size w W) => hE.below h8 hW
  have HC0 := hcell
  have HZ0 := hzd
  clear hs hs2 hp hp2 hz hb hb2 hcell hcell2 hA hB hzd hlen
  clear hl2
  simp only [hn] at L1 LJ LR1 HC0 HZ0 hl hlc ⊢
  simp only [hn2] at L2 LO LR2 ⊢
  clear hn hn2
  have HC := Lib.hid HC0
  have HZ := Lib.hid HZ0
  clear HC0 HZ0
  have HL1 := Lib.hid L1
  have HL2 := Lib.hid L2
  have HLJ := Lib.hid LJ
  have HLO := Lib.hid LO
  have HR1 := Lib.hid LR1
  have HR2 := Lib.hid LR2
  have HE := Lib.hid hEb
  clear L1 L2 LJ LO LR1 LR2 hEb
  unfold maxLen at hl
  go_enter Tryz.func3, Tryz.ntmps3
  go_wp2_with fail
  refine HL1.out.mono ?_
  rintro e w1 ⟨q, cap, rfl, _, hcap, hR1, hb1⟩
  have J := Lib.hid (HLJ.out q cap w1 hR1 hcap hb1)
  clear HL1 HLJ hR1
  go_wp2_with fail
  refine (HL2.out w1 hb1).mono ?_
  rintro e w2 ⟨q2, cap2, rfl, _, hcap2, hR2, hb2'⟩
  have hb2 := hb1.trans (hb2'.mono hb1.size)
  have O := Lib.hid (HLO.out q2 cap2 w1 w2 hR2 hcap2 hb2)
  clear HL2 HLO hR2
  go_wp2_with fail
  refine (J.out w2 hb2').1.mono ?_
  rintro e w' ⟨rfl, rfl⟩
  go_wp2_with fail
  refine (O.out w2 (Below.refl _ _)).1.mono ?_
  rintro e w' ⟨rfl, rfl⟩
  go_wp2_with fail
  refine (HR1.out w2 hb2).mono ?_
  rintro e w' ⟨rfl, rfl⟩
  go_wp2_with fail
  refine (HR2.out w2 hb2).mono ?_
  rintro e w' ⟨rfl, rfl⟩
  go_wp2_with fail
  refine (J.out w2 hb2').2.mono ?_
  rintro e w3 ⟨rfl, hb3'⟩
  have hb3 := hb2.trans (hb3'.mono hb2.size)
  go_wp2_with fail
  refine (O.out w3 hb3').2.mono ?_
  rintro e w4 ⟨rfl, hb4'⟩
  have hb4 := hb3.trans (hb4'.mono hb3.size)
  clear J O HR1 HR2 hb3' hb4' hb2'
  go_wp2_with fail
  go_loopw [9] (fun x wr => ∃ i : Nat, i ≤ n ∧ x = .int .i64 i ∧ Below w.heap.size w wr) (fun x _ => n - (intOf x).toNat)
  case atStart => exact ⟨0, Nat.zero_le _, rfl, hb4⟩
  case round =>
    obtain ⟨i, hi, rfl, hB⟩ := hrel
    by_cases hlt : i < n
    · have hii : (i : Int) < (n : Int) := by omega
      obtain ⟨b0, off, rfl, hb0, hcl⟩ := HC.out wr hB i hlt
      have hz := HZ.out i hlt
      generalize zs.getD i 0 = z at hcl hz
      have hEr := HE.out wr hB
      have hbr : b0 < wr.heap.size := Nat.lt_of_lt_of_le hb0 hB.size
      have N1 := Lib.hid (numbers_any z hz wr hEr)
      clear hEr hb1 hb2 hb3 hb4
      go_wp2_with fail
      refine N1.out.mono ?_
      rintro e wx ⟨rfl, _, hbx, hsx, hrx⟩
      have hBx := hB.trans (hbx.mono hB.size)
      have hclx := (hbx.cell (p := ⟨b0, off + i, none⟩) hbr).trans hcl
      have N2 := Lib.hid (numbers_any z hz wx (HE.out wx hBx))
      have HRX := Lib.hid hrx
      clear N1 hcl hrx
      go_wp2_with fail
      refine N2.out.mono ?_
      rintro e wy ⟨rfl, _, hby, hsy, hry⟩
      have hBy := hBx.trans (hby.mono hBx.size)
      have hcly := (hby.cell (p := ⟨b0, off + i, none⟩) (show b0 < wx.heap.size by omega)).trans hclx
      have N3 := Lib.hid (refnums_s z hz wy)
      have HRY := Lib.hid hry
      clear N2 hclx hry
      go_wp2_with fail
      refine N3.out.mono ?_
      rintro e wz ⟨qw, cq, rfl, hrq, hbz⟩
      have hBz := hBy.trans (hbz.mono hBy.size)
      have hclz := (hbz.cell (p := ⟨b0, off + i, none⟩) (show b0 < wy.heap.size by omega)).trans hcly
      have hrx := own_keepv HRX.out (hby.trans (hbz.mono hby.size))
      have hry := own_keepv HRY.out hbz
      have hm64 : (bitsOf z).length ≤ 64 := by rw [bitsOf_length]; exact popN_le 64 z
      have hlm := len_any z hz
      rw [← bitsOf_length] at hlm
      have hxl : ((bitsOf z).map Int.ofNat).length = (bitsOf z).length := by simp
      have ix := row_in rfl hrx
      have iy := row_in rfl hry
      have iw := row_in rfl hrq
      obtain ⟨bx, hbxe⟩ : ∃ bx, wr.heap.size = bx := ⟨_, rfl⟩
      obtain ⟨by', hbye⟩ : ∃ by', wx.heap.size = by' := ⟨_, rfl⟩
      rw [hbxe] at hrx ix hsx ⊢
      rw [hbye] at hry iy hsx ⊢
      have hwb : w.heap.size ≤ bx := by rw [← hbxe]; exact hB.size
      have hbb : b0 < bx := by omega
      have hSI : ∀ (g : Nat) (W : World), (g = bx ∨ g = by') → Below wz.heap.size wz W → W.cell? ⟨b0, off + i, none⟩ = some (.int .u64 (z : Int)) →
          Calls Tryz.prog 21 #[.slice (some ⟨g, 0, none⟩) (bitsOf z).length (bitsOf z).length, .slice qw (bitsOf z).length cq] W fun e w' => e = .returned (.bool true) ∧ w'.cell? ⟨b0, off + i, none⟩ = some (.int .u64 (z : Int)) ∧ Below wz.heap.size wz w' := by
        intro g W hg hW hc
        have h := ints_same (some ⟨g, 0, none⟩) qw (bitsOf z).length cq ((bitsOf z).map Int.ofNat) (by rw [hxl]; unfold maxLen; omega) W (by rcases hg with rfl | rfl; exact ix.below hW; exact iy.below hW) (iw.below hW)
        rw [hxl] at h
        exact h.mono fun e w' ⟨he, hb'⟩ => ⟨he, (hb'.cell (p := ⟨b0, off + i, none⟩) (World.block_lt_of_cell? _ _ hc)).trans hc, hW.trans (hb'.mono hW.size)⟩
      have hSA : ∀ (W : World), Below wz.heap.size wz W → Calls Tryz.prog 22 #[.slice (some ⟨W.heap.size, 0, none⟩) 2 2] (W.alloc (.cells #[.slice (some ⟨bx, 0, none⟩) (bitsOf z).length (bitsOf z).length, .slice (some ⟨by', 0, none⟩) (bitsOf z).length (bitsOf z).length] 23)) fun e w' => e = .returned (.bool true) ∧ w'.cell? ⟨b0, off + i, none⟩ = some (.int .u64 (z : Int)) ∧ Below bx wz w' := by
        intro W hW
        have h := apart_two bx by' (bitsOf z).length hm64 _ hsx wz W hW hrx hry (by simp [numVals])
        exact h.mono fun e w' ⟨he, hb'⟩ => ⟨he, (hb'.cell (p := ⟨b0, off + i, none⟩) hbb).trans hclz, hb'⟩
      generalize (bitsOf z).length = m at *
      have HSI := Lib.hid hSI
      have HSA := Lib.hid hSA
      have HLM := Lib.hid hlm
      have hd0 : Below wz.heap.size wz wz.drew := (Below.refl _ _).drew
      clear hSI hSA hlm N3 HRX HRY hrx hry hrq ix iy iw hcly hxl hbxe hbye hbr hm64 HC HZ HE
      have hmx : Tryz.prog.follows .mixedOrders = true := by kernel_rfl
      go_upto_region 13 with (fail)
      simp only [List.append_eq, List.cons_append, List.nil_append]
      go_cut [135] (fun r wx => r = .bool false ∧ Below bx wz wx)
      case first =>
        as_aux_lemma =>
          go_region_held3 (fun w' => w'.cell? ⟨b0, off + i, none⟩ = some (.int .u64 (z : Int))) (first | assumption | go_keep)
            (first
              | (go_at_call 14; refine (meet_any z B hz hBl _).mono ?_; rintro e w' ⟨rfl, rfl⟩)
              | (go_at_call 15; refine (refmeet_any z B hz hBl _).mono ?_; rintro e w' ⟨rfl, rfl⟩)
              | (go_at_call 16; refine (minus_any z B hz hBl _).mono ?_; rintro e w' ⟨rfl, rfl⟩)
              | (go_at_call 17; refine (refminus_any z B hz hBl _).mono ?_; rintro e w' ⟨rfl, rfl⟩)
              | (go_at_call 18; refine (within_any z B hz hBl _).mono ?_; rintro e w' ⟨rfl, rfl⟩)
              | (go_at_call 19; refine (refwithin_any z B hz hBl _).mono ?_; rintro e w' ⟨rfl, rfl⟩)
              | (go_at_call 20; refine (HLM.out _).mono ?_; rintro e w' ⟨rfl, rfl⟩)
              | (go_at_call 21; refine (HSI.out _ _ (by first | exact .inl rfl | exact .inr rfl) (by assumption) (by assumption)).mono ?_; rintro e w' ⟨rfl, hs', hb'⟩)
              | (go_at_call 22; refine (HSA.out _ (by assumption)).mono ?_; rintro e w' ⟨rfl, hs', hb'⟩))
          go_wp2
          go_meet
          exact ⟨rfl, hb'⟩
      case rest =>
        obtain ⟨rfl, hbf⟩ := hcut
        clear HSI HSA HLM
        go_wp2
        exact ⟨⟨i + 1, by omega, by go_num, hBz.trans (hbf.mono hwb)⟩, by simp [intOf]; omega⟩
    · obtain rfl : i = n := by omega
      have HA := Lib.hid (awake_any wr (HE.out wr hB))
      go_wp2_with fail
      refine HA.out.mono ?_
      rintro e w9 ⟨rfl, hb9⟩
      go_wp2_with fail
      go_ret
      exact ⟨rfl, hB.trans (hb9.mono hB.size)⟩
end Go.Proofs.YthmcckdoneiglaaGreatDoor
