/- LexStands: the law's walk, in every memory in which the library's error lies. -/
import Derived.Test.YtghgaelbjcggcaaDoorQ
import Derived.Deep.RegionHeld3
import Derived.Deep.DeepCutAuto
import Derived.Deep.CutBlock
namespace Go.Proofs.YtghgaelbjcggcaaDoor
open Go Go.RowKit

/-- Is of a token's text, wherever the token's block lies on. -/
theorem is_held {wz w' : World} {g : Nat} {x : It} (hs : x.t.size ≤ 65536) (hi : isL (bl x.t) = x.k) (hE : Env wz) (hg : g < wz.heap.size) (hT : TokB wz g (x.k : Nat) x.t (x.v : Nat) (x.a : Nat)) (hb : Below wz.heap.size wz w') :
    Calls Tryd.prog 11 #[.string x.t] w' fun e w2 => e = .returned (.int .i64 ((x.k : Nat) : Int)) ∧ w2.cell? ⟨g, 0, none⟩ = some (.int .i64 (x.k : Nat)) ∧ w2.cell? ⟨g, 1, none⟩ = some (.string x.t) ∧ w2.cell? ⟨g, 3, none⟩ = some (.int .i64 (x.a : Nat)) ∧ Below wz.heap.size wz w2 := by
  refine (is_any x.t (by omega) w' (hE.below hb hE.lt)).mono ?_
  rintro e w2 ⟨rfl, hb2⟩
  have hb3 := hb.trans (hb2.mono hb.size)
  obtain ⟨c0, c1, _, c3, _, _, _, _⟩ := hT.at_.below hb3 hg
  exact ⟨by rw [hi], c0, c1, c3, hb3⟩

set_option maxRecDepth 100000 in
set_option maxHeartbeats 2000000 in
/-- The first loop and what follows it: words stand where they are told. -/
theorem stands_any (s : ByteArray) (w : World) (hE : Env w) : Calls Tryd.prog 6 #[.string s] w fun e w' => e = .returned (.bool true) ∧ Below w.heap.size w w' := by
  have hsc := Lib.hid (scan_any s w hE)
  go_enter Tryd.func6, Tryd.ntmps6
  go_wp2_with (go_at_call 16; refine hsc.out.mono ?_)
  rintro e w1 ⟨hb1, ⟨ys, r, cc, hy, hx0, rfl, hrow⟩ | ⟨pr, x, hp, hx, rfl⟩⟩
  · have hE1 := hE.below hb1 hE.lt
    have haw := Lib.hid (awake_any w1 hE1)
    obtain ⟨hs, hcl, hrw⟩ := clean_row hy hx0
    have hT := toks_row rfl hrow
    have hst := scanL_stands _ (bl s) (Nat.le_refl _) 0 hcl
    have hgood := scanL_all _ (bl s) (Nat.le_refl _) 0
    have hcnt := scan_count _ (bl s) (Nat.le_refl _) 0
    rw [hrw] at hst hgood hcnt
    rw [List.length_map, bl_length] at hcnt
    obtain ⟨n, hnn⟩ : ∃ n, ys.length = n := ⟨_, rfl⟩
    rw [hnn] at hcnt ⊢
    have hn5 : n ≤ 65536 := by omega
    have HT := Lib.hid hT
    have HST := Lib.hid hst
    have HG := Lib.hid hgood
    have HY := Lib.hid hy
    have HX0 := Lib.hid hx0
    have HNN := Lib.hid hnn
    have HB := Lib.hid hb1
    have HE1 := Lib.hid hE1
    clear hT hst hgood hcnt hy hx0 hnn hcl hrw hrow hb1 hsc hE1
    go_wp2_with (go_at_call 10; refine haw.out.mono ?_)
    rintro e w2 ⟨rfl, hb2⟩
    have HB2 := Lib.hid hb2
    clear hb2 haw
    go_wp2
    go_loopw [6, 7] (fun a i wr => ∃ k a_ : Nat, k ≤ n ∧ a_ ≤ s.size ∧ a = .int .i64 a_ ∧ i = .int .i64 k ∧ Hid (Stands ((bl s).drop a_) a_ ((ys.drop k).map fun x => x.key.1)) ∧ Below w2.heap.size w2 wr) (fun _ i _ => n - (intOf i).toNat)
    case atStart => exact ⟨0, 0, Nat.zero_le _, Nat.zero_le _, rfl, rfl, Lib.hid (by rw [List.drop_zero, List.drop_zero]; exact HST.out), Below.refl _ _⟩
    case round =>
      obtain ⟨k, a_, hk, ha, rfl, rfl, HS, hB⟩ := hrel
      by_cases hlt : k < n
      · have hky : k < ys.length := by rw [HNN.out]; exact hlt
        have hEr : Env wr := (HE1.out.below HB2.out HE1.out.lt).below hB (Nat.lt_of_lt_of_le HE1.out.lt HB2.out.size)
        obtain ⟨b, rfl, hb, e1, e2, e3, e4⟩ := ((HT.out.below HB2.out (Nat.le_refl _)).below hB (Nat.le_refl _)) k hky
        have hst := HS.out
        rw [List.drop_eq_getElem_cons hky, List.map_cons] at hst
        have hgd := HG.out _ (List.mem_map_of_mem (f := fun x => x.key.1) (List.getElem_mem hky))
        generalize ys[k] = x at *
        obtain ⟨q1, q2, q3, q4, q5⟩ := stand_step ha hst
        have q6 := good_is hgd
        have hbt := between_any (s.extract a_ x.a) (by simp; omega)
        rw [q4] at hbt
        have hne := hgd.ne
        have he0 : (x.t.toList == ([] : List UInt8)) = false := by
          rw [beq_eq_false_iff_ne]
          intro e
          rw [Lib.toList_data] at e
          exact hne (by show bl x.t = []; unfold bl; rw [e]; rfl)
        have hTb : TokB (wr.alloc (.cells #[.int .i64 (x.k : Nat), .string x.t, .int .i64 (x.v : Nat), .int .i64 (x.a : Nat)] 29)) wr.heap.size (x.k : Nat) x.t (x.v : Nat) (x.a : Nat) := World.alloc_heap_new wr _
        obtain ⟨c0, c1, _, c3, _, _, _, _⟩ := hTb.at_
        have hBz : Below w2.heap.size w2 (wr.alloc (.cells #[.int .i64 (x.k : Nat), .string x.t, .int .i64 (x.v : Nat), .int .i64 (x.a : Nat)] 29)) := hB.alloc hB.size _
        have hEz : Env (wr.alloc (.cells #[.int .i64 (x.k : Nat), .string x.t, .int .i64 (x.v : Nat), .int .i64 (x.a : Nat)] 29)) := hEr.below ((Below.refl _ _).alloc (Nat.le_refl _) _) hEr.lt
        have hgz : wr.heap.size < (wr.alloc (.cells #[.int .i64 (x.k : Nat), .string x.t, .int .i64 (x.v : Nat), .int .i64 (x.a : Nat)] 29)).heap.size := by simp
        have HIS := Lib.hid (fun w' (hb' : Below (wr.alloc (.cells #[.int .i64 (x.k : Nat), .string x.t, .int .i64 (x.v : Nat), .int .i64 (x.a : Nat)] 29)).heap.size (wr.alloc (.cells #[.int .i64 (x.k : Nat), .string x.t, .int .i64 (x.v : Nat), .int .i64 (x.a : Nat)] 29)) w') =>
          is_held (x := x) (by omega) q6 hEz hgz hTb hb')
        have HBT := Lib.hid hbt
        have HQ5 := Lib.hid q5
        have HBZ := Lib.hid hBz
        have he1 : x.t.toList = [] → False := by intro e; rw [e] at he0; simp at he0
        clear hst hgd q4 q5 q6 hbt hne hTb hBz hEz hEr
        go_upto_region 10 with (fail)
        obtain ⟨wz, hwz⟩ : ∃ wz, wr.alloc (.cells #[.int .i64 (x.k : Nat), .string x.t, .int .i64 (x.v : Nat), .int .i64 (x.a : Nat)] 29) = wz := ⟨_, rfl⟩
        rw [hwz] at c0 c1 c3 hgz HIS HBZ ⊢
        clear hwz e1 e2 e3 e4 hb HS
        have hmx : Tryd.prog.follows .mixedOrders = true := by kernel_rfl
        have i1 : ¬ (x.a : Int) < (a_ : Int) := by omega
        have i1' : decide ((x.a : Int) < (a_ : Int)) = false := by simpa using i1
        have i2 : ¬ (s.size : Int) < (x.a : Int) + (x.t.size : Int) := by omega
        have i2' : decide ((s.size : Int) < (x.a : Int) + (x.t.size : Int)) = false := by simpa using i2
        have i3 : ((x.a : Int) + (x.t.size : Int)).toNat = x.a + x.t.size := by omega
        have i4 : (0 : Int) ≤ (x.a : Int) + (x.t.size : Int) := by omega
        have i5 : (a_ : Int) ≤ (x.a : Int) := by omega
        have i6 : (x.a : Int) ≤ (x.a : Int) + (x.t.size : Int) := by omega
        have i7 : (x.a : Int) + (x.t.size : Int) ≤ (s.size : Int) := by omega
        have i8 : (x.a : Int) ≤ (s.size : Int) := by omega
        have b1 : (!(x.t.toList == x.t.toList)) = false := by simp
        have b2 : (((x.k : Nat) : Int) != ((x.k : Nat) : Int)) = false := by simp
        have hd0 : Below wz.heap.size wz wz.drew := (Below.refl _ _).drew
        go_cut [90] (fun r wx => r = .bool false ∧ Below wz.heap.size wz wx)
        case first =>
          as_aux_lemma =>
            go_region_held3 (fun w' => w'.cell? ⟨wr.heap.size, 0, none⟩ = some (.int .i64 (x.k : Nat)) ∧ w'.cell? ⟨wr.heap.size, 1, none⟩ = some (.string x.t) ∧ w'.cell? ⟨wr.heap.size, 3, none⟩ = some (.int .i64 (x.a : Nat)) ∧ Below wz.heap.size wz w') (first | assumption | go_keep)
              (first
                | (go_at_call 18; refine (HBT.out _).mono ?_; rintro e w' ⟨rfl, rfl⟩)
                | (go_at_call 11; refine (HIS.out _ (by assumption)).mono ?_; rintro e w' ⟨rfl, hc0, hc1, hc3, hb'⟩))
            go_wp2
            go_meet
            exact ⟨rfl, by assumption⟩
        case rest =>
          obtain ⟨rfl, hbf⟩ := hcut
          have HS2 := Lib.hid (show Stands ((bl s).drop (x.a + x.t.size)) (x.a + x.t.size) ((ys.drop (k + 1)).map fun x => x.key.1) from HQ5.out)
          have HBF := Lib.hid (HBZ.out.trans (hbf.mono HBZ.out.size))
          clear HIS HBT HQ5 HBZ hbf q3 he0 he1 c0 c1 c3 b1 b2 i1 i1' i2 i2' i3 i4 i5 i6 i7 i8 hd0
          go_wp2
          exact ⟨⟨k + 1, x.a + x.t.size, by omega, by omega, by rw [Int.natCast_add], by go_num, HS2, HBF.out⟩, by simp [intOf]; omega⟩
      · obtain rfl : k = n := by omega
        have hend : betweenB false (bl (s.extract a_ s.size)) = true := stand_end (by have := HS.out; rw [show ys.drop k = [] from List.drop_of_length_le (by rw [HNN.out]; exact Nat.le_refl _)] at this; exact this)
        have hbt := between_any (s.extract a_ s.size) (by simp; omega) wr
        rw [hend] at hbt
        have htx := text_any r cc ys (fun x hx => by
          have := stands_len _ _ _ HST.out _ (List.mem_map_of_mem (f := fun x => x.key.1) hx)
          rw [bl_length] at this
          have h2 : (x.key.1).text.length = x.t.size := bl_length x.t
          omega) (by rw [HNN.out]; omega) wr ((HT.out.below HB2.out (Nat.le_refl _)).below hB (Nat.le_refl _))
        rw [HNN.out] at htx
        obtain ⟨S2, hS2⟩ : ∃ S2, (⟨(txt ys).toArray⟩ : ByteArray) = S2 := ⟨_, rfl⟩
        rw [hS2] at htx
        have HS2 := Lib.hid hS2
        clear hS2
        have HBT := Lib.hid hbt
        have HTX := Lib.hid htx
        have HBr := Lib.hid hB
        clear hbt htx hend HS hB HST HG
        go_wp2_with (go_at_call 18; refine HBT.out.mono ?_; rintro e w' ⟨rfl, rfl⟩)
        go_at_call 17
        refine HTX.out.mono ?_
        rintro e w3 ⟨rfl, hb3⟩
        have hE3 := (((HE1.out.below HB2.out HE1.out.lt).below HBr.out (Nat.lt_of_lt_of_le HE1.out.lt HB2.out.size))).below hb3 (Nat.lt_of_lt_of_le HE1.out.lt (Nat.le_trans HB2.out.size HBr.out.size))
        have HSC := Lib.hid (scan_any S2 w3 hE3)
        have HB3 := Lib.hid hb3
        clear HBT HTX hb3 hE3
        go_wp2_with fail
        go_at_call 16
        refine HSC.out.mono ?_
        rintro e w4 ⟨hb4, ⟨zs, r2, cc2, hz, hz0, rfl, hrow2⟩ | ⟨pr2, x2, hp2, hx2, rfl⟩⟩
        · obtain ⟨hsz, _, _⟩ := clean_row hz hz0
          have hag := text_again HY.out HX0.out (by rw [HS2.out]; exact hz) hz0
          have hzl : zs.length = k := by rw [hag.1, HNN.out]
          rw [hzl] at hrow2 ⊢
          have HZT := Lib.hid (toks_row hzl hrow2)
          have HAG := Lib.hid hag.2
          have HZL := Lib.hid hzl
          have HB4 := Lib.hid hb4
          have hsz' : ¬ (65536 : Int) < (S2.size : Int) := by omega
          have hkk : ((k : Int) != (k : Int)) = false := by simp
          clear HSC hag hzl hrow2 hz hz0 hb4 hsz
          go_wp2
          go_loopw [14] (fun i wq => ∃ j : Nat, j ≤ k ∧ i = .int .i64 j ∧ Below w4.heap.size w4 wq) (fun i _ => k - (intOf i).toNat)
          case atStart => exact ⟨0, Nat.zero_le _, rfl, Below.refl _ _⟩
          case round =>
            rename_i wq
            obtain ⟨j, hj, rfl, hBq⟩ := hrel
            by_cases hjk : j < k
            · have h1 : j < zs.length := by rw [HZL.out]; exact hjk
              have h2 : j < ys.length := by rw [HNN.out]; exact hjk
              obtain ⟨g1, rfl, hg1, d0, d1, d2, _⟩ := (HZT.out.below hBq (Nat.le_refl _)) j h1
              obtain ⟨g2, rfl, hg2, f0, f1, f2, _⟩ := ((((HT.out.below HB2.out (Nat.le_refl _)).below HBr.out (Nat.le_refl _)).below HB3.out (Nat.le_refl _)).below HB4.out (Nat.le_refl _) |>.below hBq (Nat.le_refl _)) j h2
              obtain ⟨m1, m2, m3⟩ := HAG.out j h1 h2
              rw [m1] at d0
              rw [m2] at d1
              rw [m3] at d2
              clear m1 m2 m3
              generalize ys[j] = x at *
              have hji : (j : Int) < (k : Int) := by omega
              have b1 : (!(x.t.toList == x.t.toList)) = false := by simp
              have b2 : (((x.k : Nat) : Int) != ((x.k : Nat) : Int)) = false := by simp
              have b3 : (((x.v : Nat) : Int) != ((x.v : Nat) : Int)) = false := by simp
              go_wp2
              go_quiet (fail)
              go_wp2
              exact ⟨⟨j + 1, by omega, by go_num, below_drewN hBq _⟩, by simp [intOf]; omega⟩
            · go_wp2
              go_ret
              have hB12 := HB.out.trans (HB2.out.mono HB.out.size)
              have hB13 := hB12.trans (HBr.out.mono hB12.size)
              have hB14 := hB13.trans (HB3.out.mono hB13.size)
              have hB15 := hB14.trans (HB4.out.mono hB14.size)
              exact ⟨rfl, hB15.trans (hBq.mono hB15.size)⟩
        · have HB4 := Lib.hid hb4
          have hlong : 65536 < S2.size := by
            rcases Nat.lt_or_ge 65536 S2.size with hh | hh
            · exact hh
            · exfalso
              have hcl := text_clean HY.out HX0.out (by rw [HS2.out]; exact hh)
              rw [HS2.out] at hcl
              exact hx2 (hcl x2.key (hp2.subset (by simp)))
          have he3 : x2.e = 3 := by
            have hm : x2.key ∈ allItems S2 := hp2.subset (by simp)
            rw [allItems, if_pos hlong] at hm
            have := List.mem_singleton.1 hm
            exact congrArg Prod.snd this
          have hsz' : (65536 : Int) < (S2.size : Int) := by omega
          have he' : (((x2.e : Nat) : Int) == 3) = true := by rw [he3]; rfl
          clear HSC hp2 hx2 hb4 hlong he3
          go_wp2
          go_ret
          have hB12 := HB.out.trans (HB2.out.mono HB.out.size)
          have hB13 := hB12.trans (HBr.out.mono hB12.size)
          have hB14 := hB13.trans (HB3.out.mono hB13.size)
          exact ⟨rfl, hB14.trans (HB4.out.mono hB14.size)⟩
  · have haw := Lib.hid (awake_any w1 (hE.below hb1 hE.lt))
    have HB := Lib.hid hb1
    clear hsc hp hb1
    have hxe : (((x.e : Nat) : Int) != 0) = true := by simp; omega
    go_wp2_with (go_at_call 10; refine haw.out.mono ?_)
    rintro e w2 ⟨rfl, hb2⟩
    go_wp2
    go_ret
    exact ⟨rfl, HB.out.trans (hb2.mono HB.out.size)⟩
end Go.Proofs.YtghgaelbjcggcaaDoor
