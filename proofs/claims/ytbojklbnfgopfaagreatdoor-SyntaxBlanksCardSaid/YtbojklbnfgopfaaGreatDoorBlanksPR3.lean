/- SyntaxBlanks: the walk. -/
import Derived.Test.YtbojklbnfgopfaaGreatDoorBlanksPR1
import Derived.Test.YtbojklbnfgopfaaGreatDoorBlanksPR2
import Derived.Lib.AppendStr
import Derived.Laws.IdiomStrings
import Derived.Laws.BytesArg
import Derived.Test.YtbojklbnfgopfaaGreatDoorQ1
import Derived.Test.YtbojklbnfgopfaaGreatDoorTie
import Derived.Test.YtbojklbnfgopfaaGreatDoorCards
import Derived.ProofKit
import Derived.OpenShut
import Derived.LaidMore
import Derived.Lay
import Derived.SizedLaws
import Derived.ChangeMaps5
import Derived.SevenTiedAt
import Derived.Stop.Joined
import Derived.Stop.LaidErr
import Derived.Stop.ErrReads
import Derived.PinnedBridge
import Derived.Lib.LaidU8T
namespace Go.Proofs.YtbojklbnfgopfaaGreatDoor
open Go Go.RowKit Go.Proofs.Mm

theorem infoU8 : ∃ i, Tryz.prog.info? 5 = some i ∧ i.zero = some (.int .u8 0) ∧ i.size = 1 ∧ i.bytes = 1 := info_of (by kernel_rfl)
/-- Numbers that came in. -/
def Nums (w : World) (q : Option Addr) (n : Nat) : Prop := ∀ j, j < n → ∃ b o z, q = some ⟨b, o, none⟩ ∧ w.cell? ⟨b, o + j, none⟩ = some (.int .i64 z) ∧ b < w.heap.size
theorem apart_app : ∀ (L : List (List Nat × Tok)) (g : List Nat) (t : Tok), apart (L ++ [(g, t)]) = apart L ++ g ++ t.text
  | [], g, t => by simp [apart]
  | p :: L, g, t => by rw [List.cons_append, apart, apart_app L g t, apart]; simp
/-- What has been laid behind j words. -/
structure BlI (s : ByteArray) (ts : List Tok) (B j : Nat) (W : World) (v : Value) (b : ByteArray) (L : List (List Nat × Tok)) : Prop where
  row : W.ownsRow B 5 1 v b.size (Lib.strCells b)
  gap : ∀ p ∈ L, Gap p.1
  toks : L.map (fun p => p.2) = ts.take j
  text : bl b = apart L
  size : b.size ≤ j * 4015
theorem bli_step {s : ByteArray} {ts : List Tok} {B j : Nat} {W W' : World} {v v' : Value} {b g t : ByteArray} {L : List (List Nat × Tok)} {tk : Tok} (h : BlI s ts B j W v b L) (hg : Gap (bl g)) (hgs : g.size ≤ 15) (ht : ts[j]? = some tk) (htt : tk.text = bl t) (hts : t.size ≤ 4000)
    (hr : W'.ownsRow B 5 1 v' (b.size + g.size + t.size) (Lib.strCells b ++ Lib.strCells g ++ Lib.strCells t)) : ∃ L', BlI s ts B (j + 1) W' v' (b ++ g ++ t) L' := by
  refine ⟨L ++ [(bl g, tk)], ?_, ?_, ?_, ?_, ?_⟩
  · have e1 : (b ++ g ++ t).size = b.size + g.size + t.size := by simp [ByteArray.size_append]
    have e2 : Lib.strCells (b ++ g ++ t) = Lib.strCells b ++ Lib.strCells g ++ Lib.strCells t := by unfold Lib.strCells; simp
    rw [e1, e2]; exact hr
  · intro p hp
    rcases List.mem_append.1 hp with hp | hp
    · exact h.gap p hp
    · rw [List.mem_singleton] at hp; rw [hp]; exact hg
  · rw [List.map_append, h.toks, List.map_singleton, List.take_add_one, ht]; rfl
  · rw [bl_append, bl_append, h.text, apart_app]
    rw [htt]
  · have e1 : (b ++ g ++ t).size = b.size + g.size + t.size := by simp [ByteArray.size_append]
    rw [e1]; have := h.size; omega
theorem RdR.below {w w' : World} {q : Option Addr} {xs : List Value} {B : Nat} (h : RdR w q xs) (hb : Below B w w') (hB : w.heap.size ≤ B) : RdR w' q xs :=
  h.same fun a _ hc => (hb.cell (p := a) (Nat.lt_of_lt_of_le (World.block_lt_of_cell? _ _ hc) hB)).trans hc
theorem Nums.below {w w' : World} {q : Option Addr} {n B : Nat} (h : Nums w q n) (hb : Below B w w') (hB : w.heap.size ≤ B) : Nums w' q n := fun j hj => by
  obtain ⟨b, o, z, h1, h2, h3⟩ := h j hj
  exact ⟨b, o, z, h1, (hb.cell (p := ⟨b, o + j, none⟩) (Nat.lt_of_lt_of_le h3 hB)).trans h2, Nat.lt_of_lt_of_le h3 hb.size⟩
theorem grown_below {B : Nat} {a w w' : World} {row : Option Nat} (h : Below B a w) (hB : B ≤ w.heap.size) (hg : w.grownBy w' row) (hr : ∀ k, row = some k → B ≤ k) : Below B a w' :=
  h.trans ⟨hg.os, hg.tape, hg.output, hg.size, fun k hk => hg.block k (Nat.lt_of_lt_of_le hk hB) (fun e => absurd (hr k e.symm) (by omega))⟩
theorem one_u8 (z : Int) : ∀ u ∈ [Value.int .u8 z], u.oneCell' = true := by
  intro u hu
  rw [List.mem_singleton] at hu; subst hu; rfl
theorem sos_nil : SoS mem0 ⟨[], [], [], [], []⟩ none 0 none 0 none 0 none 0 none 0 :=
  ⟨RowM.nil _ _ _, ⟨[], RowM.nil _ _ _, Enc.nil⟩, ⟨[], RowM.nil _ _ _, Enc.nil⟩, ⟨[], RowM.nil _ _ _, Enc.nil⟩, ⟨[], RowM.nil _ _ _, Enc.nil⟩⟩
set_option maxRecDepth 100000 in
theorem conv_row {W : World} {B n c : Nat} {q : Option Addr} {b : ByteArray} (hn : n = b.size) (h : W.ownsRow B 5 1 (.slice q n c) n (Lib.strCells b)) : (convert 53 9 (.slice q n c)).run Tryz.prog W = .ok (.string b) W := by
  subst hn
  rcases h.2 with ⟨h1, h2⟩ | ⟨g, cap, cur, h1, _, hg, h4, h5, h6, h7⟩
  · injection h1 with h1 _ _
    subst h1
    have hb : b = ByteArray.empty := by
      have h8 : b.data.size = 0 := h2
      have h9 : b.data = #[] := Array.eq_empty_of_size_eq_zero h8
      cases b; simp only at h9; subst h9; rfl
    rw [run_convert_bytes_nil _ _ _ Tryz.underlying53 Tryz.underlying5 _ _ _ Tryz.underlying9, hb]
  · injection h1 with h1 _ _
    subst h1
    have hl : b.data.toList.length = b.size := Array.length_toList
    have := run_convert_bytes_back W 53 9 5 ⟨g, 0, none⟩ c b.data.toList Tryz.underlying53 Tryz.underlying5 Tryz.underlying9 (fun j hj => by
      rw [show ((⟨g, 0, none⟩ : Addr).add j) = ⟨g, j, none⟩ from by unfold Addr.add; split <;> simp_all]
      refine cell_of hg ?_
      have hx : (Lib.strCells b)[j]? = some (.int .u8 (b.data.toList[j].toNat : Int)) := by
        unfold Lib.strCells; rw [List.getElem?_map, List.getElem?_eq_getElem hj]; rfl
      rw [← h7, List.getElem?_take] at hx
      split at hx
      · simpa using hx
      · cases hx)
    rw [hl] at this
    rw [this, Array.toArray_toList]
set_option maxRecDepth 100000 in
set_option maxHeartbeats 8000000 in
theorem blanks_any (s : ByteArray) (qf : Option Addr) (nf cf : Nat) (w : World) (hE : Env w) (hf : Nums w qf nf) (hnf : nf ≤ 9223372036854775807) : Calls Tryz.prog 5 #[.string s, .slice qf nf cf] w fun e w' => e = .returned (.bool true) ∧ Below w.heap.size w w' := by
  have HK := Lib.hid (known_any w hE)
  have HE := Lib.hid hE
  have HF := Lib.hid hf
  clear hE hf
  go_enter Tryz.func5, Tryz.ntmps5
  go_wp2_with (go_at_call 10; refine HK.out.mono ?_; rintro e w1 ⟨rfl, hb1⟩)
  have hE1 := HE.out.below hb1 HE.out.lt
  go_at_call 13
  refine (scan_any s w1 hE1).mono ?_
  rintro e w2 ⟨hb2, ⟨ys, q, c, hy, hy0, rfl, hrow⟩ | ⟨pr, x, hp, hx, rfl⟩⟩
  · by_cases hss : s.size ≤ 4000
    · have hgt : ¬ (4000 : Int) < ((s.size : Nat) : Int) := by omega
      have hgt2 : decide (((s.size : Nat) : Int) > 4000) = false := by simp; omega
      have hgt3 : decide ((4000 : Int) < ((s.size : Nat) : Int)) = false := by simp; omega
      have hws := ws_of hy hy0
      have hlen := hws.2
      have HW2 := Lib.hid (hb1.trans (hb2.mono hb1.size))
      have HRD := Lib.hid (own_rd hrow)
      have HY := Lib.hid (And.intro hy hy0)
      have HN := Lib.hid (HF.out.below HW2.out (Nat.le_refl _))
      have HTS := Lib.hid (its_tok hy hy0)
      have HPL := Lib.hid (fun i (h : i < ys.length) => (its_place hy hy0 i h).2.1)
      obtain ⟨i0, hi, hz0, hz1, hz2⟩ := infoU8
      have H0 := Lib.hid (show BlI s (scanL (bl s) 0).1 w2.heap.size 0 w2 (.slice none 0 0) ⟨#[]⟩ [] from ⟨World.ownsRow_nil _ _ _ _, (fun _ h => by cases h), rfl, rfl, Nat.zero_le _⟩)
      clear hb1 hb2 hy hy0 hws hrow
      go_wp2_with fail
      go_loopw [8, 9] (fun bv i wr => ∃ j b L, j ≤ ys.length ∧ i = .int .i64 j ∧ Hid (BlI s (scanL (bl s) 0).1 w2.heap.size j wr bv b L) ∧ Hid (Below w2.heap.size w2 wr)) (fun _ i _ => ys.length - (intOf i).toNat)
      case atStart => exact ⟨0, _, _, Nat.zero_le _, rfl, H0, Lib.hid (Below.refl _ _)⟩
      case round =>
        obtain ⟨j, b, L, hj, rfl, HB, HC⟩ := hrel
        by_cases hlt : j < ys.length
        · obtain ⟨g, rfl, b0, b1, b2, b3⟩ := rd_tok (HRD.out.below HC.out (Nat.le_refl _)) j hlt
          obtain ⟨qv, cv, rfl⟩ := own_shape HB.out.row
          have hji : (j : Int) < (ys.length : Int) := by omega
          have hpl := HPL.out j hlt
          have hrow := HB.out.row
          have hbs := HB.out.size
          have hB2 := HC.out.size
          have HTJ := Lib.hid (HTS.out.2 j hlt)
          clear b0 b1 b2 b3
          by_cases hn0 : nf = 0
          · subst hn0
            go_wp2_with (at_builtin; refine wpList_append_own_at _ rfl _ _ 53 rfl w2.heap.size 5 i0 _ 1 1 Tryz.underlying53 hi hz0 hz1 hz2 rfl (by decide) _ _ _ rfl (hrow.alloc _) ⟨wr.heap.size, 0, none⟩ 1 1 [.int .u8 32] rfl rfl (row_new wr [_] 5) (one_u8 32) (by unfold maxLen; omega) (by omega) (by simp; omega) ?_)
            intro v9 w9 hown9 hgrow9 _ _
            have hC9 := grown_below (HC.out.alloc hB2 _) (by simp; omega) hgrow9 (fun k hk => (hrow.lt k hk).1)
            obtain ⟨q9, c9, rfl⟩ := own_shape hown9
            obtain ⟨g1, hg1, _, t1, _, _⟩ := rd_tok (HRD.out.below hC9 (Nat.le_refl _)) j hlt
            obtain rfl : g1 = g := by injection hg1 with hg1; injection hg1 with hg1 _ _; exact hg1.symm
            have hown9' : w9.ownsRow w2.heap.size 5 1 (.slice q9 (b.size + 1) c9) (b.size + 1) (Lib.strCells b ++ Lib.strCells ⟨#[32]⟩) := hown9
            have HG9 := Lib.hid hgrow9
            have HC9 := Lib.hid hC9
            have hB9 := hC9.size
            clear hown9 hgrow9 hC9 hrow
            go_wp2_with (at_builtin; refine Lib.wpList_append_own_string _ rfl _ _ 53 9 rfl w2.heap.size 5 i0 Tryz.underlying53 Tryz.underlying9 hi hz0 hz1 hz2 _ _ _ rfl hown9' _ rfl (by unfold maxLen; omega) (by omega) (by omega) ?_)
            intro v10 w10 hown10 hgrow10 _
            have HC10 := Lib.hid (grown_below HC9.out hB9 hgrow10 (fun k hk => (hown9'.lt k hk).1))
            obtain ⟨L', hb'⟩ := bli_step (g := ⟨#[32]⟩) (t := ys[j].t) HB.out gap_1 (by decide) HTJ.out rfl (by omega) (by rw [List.append_assoc]; exact hown10)
            have HB' := Lib.hid hb'
            clear hown10 hgrow10 hb' hown9'
            go_wp2_with fail
            exact ⟨⟨j + 1, _, L', by omega, by go_num, HB', HC10⟩, by simp [intOf]; omega⟩
          · have hnf0 : ¬ ((nf : Int) = 0) := by omega
            have hnf1 : (0 : Int) < (nf : Int) := by omega
            have hmod : (j : Int).tmod (nf : Int) = ((j % nf : Nat) : Int) := by rw [Int.tmod_eq_emod_of_nonneg (by omega)]; omega
            have hml : j % nf < nf := Nat.mod_lt _ (by omega)
            obtain ⟨gb, go, z, rfl, hz, _⟩ := HN.out.below HC.out (Nat.le_refl _) (j % nf) hml
            generalize j % nf = jm at *
            have hm1 : (0 : Int) ≤ (jm : Int) := by omega
            have hm2 : (jm : Int) < (nf : Int) := by omega
            obtain ⟨fv, hfv⟩ : ∃ fv, bits BinOp.and IntKind.i64 z 3 = fv := ⟨_, rfl⟩
            rcases Bool.eq_false_or_eq_true (fv == 0) with h0 | h0
            · go_wp2_with (at_builtin; refine wpList_append_own_at _ rfl _ _ 53 rfl w2.heap.size 5 i0 _ 1 1 Tryz.underlying53 hi hz0 hz1 hz2 rfl (by decide) _ _ _ rfl (hrow.alloc _) ⟨wr.heap.size, 0, none⟩ 1 1 [.int .u8 32] rfl rfl (row_new wr [_] 5) (one_u8 32) (by unfold maxLen; omega) (by omega) (by simp; omega) ?_)
              intro v9 w9 hown9 hgrow9 _ _
              have hC9 := grown_below (HC.out.alloc hB2 _) (by simp; omega) hgrow9 (fun k hk => (hrow.lt k hk).1)
              obtain ⟨q9, c9, rfl⟩ := own_shape hown9
              obtain ⟨g1, hg1, _, t1, _, _⟩ := rd_tok (HRD.out.below hC9 (Nat.le_refl _)) j hlt
              obtain rfl : g1 = g := by injection hg1 with hg1; injection hg1 with hg1 _ _; exact hg1.symm
              have hown9' : w9.ownsRow w2.heap.size 5 1 (.slice q9 (b.size + 1) c9) (b.size + 1) (Lib.strCells b ++ Lib.strCells ⟨#[32]⟩) := hown9
              have HG9 := Lib.hid hgrow9
              have HC9 := Lib.hid hC9
              have hB9 := hC9.size
              clear hown9 hgrow9 hC9 hrow
              go_wp2_with (at_builtin; refine Lib.wpList_append_own_string _ rfl _ _ 53 9 rfl w2.heap.size 5 i0 Tryz.underlying53 Tryz.underlying9 hi hz0 hz1 hz2 _ _ _ rfl hown9' _ rfl (by unfold maxLen; omega) (by omega) (by omega) ?_)
              intro v10 w10 hown10 hgrow10 _
              have HC10 := Lib.hid (grown_below HC9.out hB9 hgrow10 (fun k hk => (hown9'.lt k hk).1))
              obtain ⟨L', hb'⟩ := bli_step (g := ⟨#[32]⟩) (t := ys[j].t) HB.out gap_1 (by decide) HTJ.out rfl (by omega) (by rw [List.append_assoc]; exact hown10)
              have HB' := Lib.hid hb'
              clear hown10 hgrow10 hb' hown9'
              go_wp2_with fail
              exact ⟨⟨j + 1, _, L', by omega, by go_num, HB', HC10⟩, by simp [intOf]; omega⟩
            rcases Bool.eq_false_or_eq_true (fv == 1) with h1 | h1
            · go_wp2_with (at_builtin; refine Lib.wpList_append_own_string _ rfl _ _ 53 9 rfl w2.heap.size 5 i0 Tryz.underlying53 Tryz.underlying9 hi hz0 hz1 hz2 _ _ _ rfl hrow ⟨#[10, 9, 13]⟩ rfl (by unfold maxLen; show b.size + 3 ≤ _; omega) (by show b.size + 3 ≤ _; omega) (by omega) ?_)
              intro v9 w9 hown9 hgrow9 _
              have hC9 := grown_below HC.out hB2 hgrow9 (fun k hk => (hrow.lt k hk).1)
              obtain ⟨q9, c9, rfl⟩ := own_shape hown9
              obtain ⟨g1, hg1, _, t1, _, _⟩ := rd_tok (HRD.out.below hC9 (Nat.le_refl _)) j hlt
              obtain rfl : g1 = g := by injection hg1 with hg1; injection hg1 with hg1 _ _; exact hg1.symm
              have hown9' : w9.ownsRow w2.heap.size 5 1 (.slice q9 (b.size + 3) c9) (b.size + 3) (Lib.strCells b ++ Lib.strCells ⟨#[10, 9, 13]⟩) := hown9
              have HG9 := Lib.hid hgrow9
              have HC9 := Lib.hid hC9
              have hB9 := hC9.size
              clear hown9 hgrow9 hC9 hrow
              go_wp2_with (at_builtin; refine Lib.wpList_append_own_string _ rfl _ _ 53 9 rfl w2.heap.size 5 i0 Tryz.underlying53 Tryz.underlying9 hi hz0 hz1 hz2 _ _ _ rfl hown9' _ rfl (by unfold maxLen; omega) (by omega) (by omega) ?_)
              intro v10 w10 hown10 hgrow10 _
              have HC10 := Lib.hid (grown_below HC9.out hB9 hgrow10 (fun k hk => (hown9'.lt k hk).1))
              obtain ⟨L', hb'⟩ := bli_step (g := ⟨#[10, 9, 13]⟩) (t := ys[j].t) HB.out gap_2 (by decide) HTJ.out rfl (by omega) (by rw [List.append_assoc]; exact hown10)
              have HB' := Lib.hid hb'
              clear hown10 hgrow10 hb' hown9'
              go_wp2_with fail
              exact ⟨⟨j + 1, _, L', by omega, by go_num, HB', HC10⟩, by simp [intOf]; omega⟩
            rcases Bool.eq_false_or_eq_true (fv == 2) with h2 | h2
            · go_wp2_with (at_builtin; refine Lib.wpList_append_own_string _ rfl _ _ 53 9 rfl w2.heap.size 5 i0 Tryz.underlying53 Tryz.underlying9 hi hz0 hz1 hz2 _ _ _ rfl hrow ⟨#[32, 35, 32, 97, 32, 125, 32, 99, 111, 109, 109, 101, 110, 116, 10]⟩ rfl (by unfold maxLen; show b.size + 15 ≤ _; omega) (by show b.size + 15 ≤ _; omega) (by omega) ?_)
              intro v9 w9 hown9 hgrow9 _
              have hC9 := grown_below HC.out hB2 hgrow9 (fun k hk => (hrow.lt k hk).1)
              obtain ⟨q9, c9, rfl⟩ := own_shape hown9
              obtain ⟨g1, hg1, _, t1, _, _⟩ := rd_tok (HRD.out.below hC9 (Nat.le_refl _)) j hlt
              obtain rfl : g1 = g := by injection hg1 with hg1; injection hg1 with hg1 _ _; exact hg1.symm
              have hown9' : w9.ownsRow w2.heap.size 5 1 (.slice q9 (b.size + 15) c9) (b.size + 15) (Lib.strCells b ++ Lib.strCells ⟨#[32, 35, 32, 97, 32, 125, 32, 99, 111, 109, 109, 101, 110, 116, 10]⟩) := hown9
              have HG9 := Lib.hid hgrow9
              have HC9 := Lib.hid hC9
              have hB9 := hC9.size
              clear hown9 hgrow9 hC9 hrow
              go_wp2_with (at_builtin; refine Lib.wpList_append_own_string _ rfl _ _ 53 9 rfl w2.heap.size 5 i0 Tryz.underlying53 Tryz.underlying9 hi hz0 hz1 hz2 _ _ _ rfl hown9' _ rfl (by unfold maxLen; omega) (by omega) (by omega) ?_)
              intro v10 w10 hown10 hgrow10 _
              have HC10 := Lib.hid (grown_below HC9.out hB9 hgrow10 (fun k hk => (hown9'.lt k hk).1))
              obtain ⟨L', hb'⟩ := bli_step (g := ⟨#[32, 35, 32, 97, 32, 125, 32, 99, 111, 109, 109, 101, 110, 116, 10]⟩) (t := ys[j].t) HB.out gap_3 (by decide) HTJ.out rfl (by omega) (by rw [List.append_assoc]; exact hown10)
              have HB' := Lib.hid hb'
              clear hown10 hgrow10 hb' hown9'
              go_wp2_with fail
              exact ⟨⟨j + 1, _, L', by omega, by go_num, HB', HC10⟩, by simp [intOf]; omega⟩
            go_wp2_with (at_builtin; refine Lib.wpList_append_own_string _ rfl _ _ 53 9 rfl w2.heap.size 5 i0 Tryz.underlying53 Tryz.underlying9 hi hz0 hz1 hz2 _ _ _ rfl hrow ⟨#[32, 32, 32]⟩ rfl (by unfold maxLen; show b.size + 3 ≤ _; omega) (by show b.size + 3 ≤ _; omega) (by omega) ?_)
            intro v9 w9 hown9 hgrow9 _
            have hC9 := grown_below HC.out hB2 hgrow9 (fun k hk => (hrow.lt k hk).1)
            obtain ⟨q9, c9, rfl⟩ := own_shape hown9
            obtain ⟨g1, hg1, _, t1, _, _⟩ := rd_tok (HRD.out.below hC9 (Nat.le_refl _)) j hlt
            obtain rfl : g1 = g := by injection hg1 with hg1; injection hg1 with hg1 _ _; exact hg1.symm
            have hown9' : w9.ownsRow w2.heap.size 5 1 (.slice q9 (b.size + 3) c9) (b.size + 3) (Lib.strCells b ++ Lib.strCells ⟨#[32, 32, 32]⟩) := hown9
            have HG9 := Lib.hid hgrow9
            have HC9 := Lib.hid hC9
            have hB9 := hC9.size
            clear hown9 hgrow9 hC9 hrow
            go_wp2_with (at_builtin; refine Lib.wpList_append_own_string _ rfl _ _ 53 9 rfl w2.heap.size 5 i0 Tryz.underlying53 Tryz.underlying9 hi hz0 hz1 hz2 _ _ _ rfl hown9' _ rfl (by unfold maxLen; omega) (by omega) (by omega) ?_)
            intro v10 w10 hown10 hgrow10 _
            have HC10 := Lib.hid (grown_below HC9.out hB9 hgrow10 (fun k hk => (hown9'.lt k hk).1))
            obtain ⟨L', hb'⟩ := bli_step (g := ⟨#[32, 32, 32]⟩) (t := ys[j].t) HB.out gap_4 (by decide) HTJ.out rfl (by omega) (by rw [List.append_assoc]; exact hown10)
            have HB' := Lib.hid hb'
            clear hown10 hgrow10 hb' hown9'
            go_wp2_with fail
            exact ⟨⟨j + 1, _, L', by omega, by go_num, HB', HC10⟩, by simp [intOf]; omega⟩
        · have hji : ¬ (j : Int) < (ys.length : Int) := by omega
          obtain rfl : j = ys.length := by omega
          obtain ⟨qv, cv, rfl⟩ := own_shape HB.out.row
          have HL := Lib.hid (show L.map (fun p => p.2) = (scanL (bl s) 0).1 from by rw [HB.out.toks, HTS.out.1, List.take_length])
          have HWr := Lib.hid (HW2.out.trans (HC.out.mono HW2.out.size))
          have HPs := Lib.hid (parse_any s wr (HE.out.below HWr.out HE.out.lt) (has0 _))
          go_wp2_with fail
          go_at_call 7
          refine HPs.out.mono ?_
          rintro e w3 hpr
          obtain ⟨hb3, ⟨er, a, hs, rfl⟩ | ⟨so, q1, c1, q2, c2, q3, c3, q4, c4, q5, c5, m1, hs, rfl, g1, g2, g3⟩⟩ := hpr.cases
          · have g3 : Has w3 mem0 := has0 _
            have hrow3 := own_chg HB.out.row ((((Below.chg hb3 (Nat.le_refl _) (fun _ => False))).alloc (.cells #[.slice none 0 0, .slice none 0 0, .slice none 0 0, .slice none 0 0, .slice none 0 0] 27)).alloc (.cells #[.int .i64 (er : Nat), .int .i64 (-1), .int .i64 (a : Nat)] 30)) (fun _ _ e => e)
            have hconv := conv_row rfl hrow3
            have HW4 := Lib.hid (((HWr.out.trans (hb3.mono HWr.out.size)).alloc (Nat.le_trans HWr.out.size hb3.size) (.cells #[.slice none 0 0, .slice none 0 0, .slice none 0 0, .slice none 0 0, .slice none 0 0] 27)).alloc (by simp; have := HWr.out.size; have := hb3.size; omega) (.cells #[.int .i64 (er : Nat), .int .i64 (-1), .int .i64 (a : Nat)] 30))
            have HM4 := Lib.hid (g3.chg (((Chg.refl (fun _ => False) w3).alloc (.cells #[.slice none 0 0, .slice none 0 0, .slice none 0 0, .slice none 0 0, .slice none 0 0] 27)).alloc (.cells #[.int .i64 (er : Nat), .int .i64 (-1), .int .i64 (a : Nat)] 30)) (fun _ e => e.elim))
            have HS4 := Lib.hid (heap_new _ (.cells #[.int .i64 (er : Nat), .int .i64 (-1), .int .i64 (a : Nat)] 30) (World.alloc_heap_new w3 (.cells #[.slice none 0 0, .slice none 0 0, .slice none 0 0, .slice none 0 0, .slice none 0 0] 27)))
            have HF4 := Lib.hid (show ((w3.alloc (.cells #[.slice none 0 0, .slice none 0 0, .slice none 0 0, .slice none 0 0, .slice none 0 0] 27)).alloc (.cells #[.int .i64 (er : Nat), .int .i64 (-1), .int .i64 (a : Nat)] 30)).heap[w3.heap.size + 1]? = some (.cells #[.int .i64 (er : Nat), .int .i64 (-1), .int .i64 (a : Nat)] 30 (0, 0)) from by
              have := World.alloc_heap_new (w3.alloc (.cells #[.slice none 0 0, .slice none 0 0, .slice none 0 0, .slice none 0 0, .slice none 0 0] 27)) (.cells #[.int .i64 (er : Nat), .int .i64 (-1), .int .i64 (a : Nat)] 30)
              rwa [World.size_alloc] at this)
            have hbs := HB.out.size
            have HO := Lib.hid (show bl (b ++ ⟨#[10]⟩) = apart L ++ [10] from by rw [bl_append, HB.out.text]; rfl)
            have HSS := Lib.hid hs
            clear hpr hs hb3 hrow3
            go_wp2_with fail
            go_at_call 7
            clear hconv
            generalize ((w3.alloc _).alloc _ : World) = W4 at *
            generalize b ++ ⟨#[10]⟩ = o at *
            have HPo := Lib.hid (parse_any o W4 (HE.out.below HW4.out HE.out.lt) HM4.out)
            refine HPo.out.mono ?_
            rintro e w5 hpr
            obtain ⟨hb5, ⟨er', a', hs', rfl⟩ | ⟨so', r1, d1, r2, d2, r3, d3, r4, d4, r5, d5, m2, hs', rfl, k1, k2, k3⟩⟩ := hpr.cases
            · have HW6 := Lib.hid (((HW4.out.trans (hb5.mono HW4.out.size)).alloc (Nat.le_trans HW4.out.size hb5.size) (.cells #[.slice none 0 0, .slice none 0 0, .slice none 0 0, .slice none 0 0, .slice none 0 0] 27)).alloc (by simp; have := HW4.out.size; have := hb5.size; omega) (.cells #[.int .i64 (er' : Nat), .int .i64 (-1), .int .i64 (a' : Nat)] 30))
              have hS6 := heap_new _ (.cells #[.int .i64 (er' : Nat), .int .i64 (-1), .int .i64 (a' : Nat)] 30) (heap_new _ (.cells #[.slice none 0 0, .slice none 0 0, .slice none 0 0, .slice none 0 0, .slice none 0 0] 27) ((hb5.block _ (heap_lt HS4.out)).trans HS4.out))
              have hF6 := heap_new _ (.cells #[.int .i64 (er' : Nat), .int .i64 (-1), .int .i64 (a' : Nat)] 30) (heap_new _ (.cells #[.slice none 0 0, .slice none 0 0, .slice none 0 0, .slice none 0 0, .slice none 0 0] 27) ((hb5.block _ (heap_lt HF4.out)).trans HF4.out))
              obtain ⟨x0, x1, x2, x3, x4⟩ := five_cells hS6
              obtain ⟨y0, y1, y2, _⟩ := three_cells hF6
              by_cases hos : 65536 < o.size
              · have he := hs'.symm.trans (err_long hos)
                injection he with he
                have e1 : er' = 3 := congrArg Prod.fst he
                clear he
                have e3 : (((er' : Nat) : Int) == 3) = true := by rw [e1]; rfl
                clear e1 hpr hb5 hS6 hF6 hs'
                go_wp2_with fail
                go_ret
                exact ⟨rfl, HW6.out⟩
              · obtain ⟨a2, ha2⟩ := (blanks_same HY.out.1 HY.out.2 HB.out.gap HL.out HO.out (by omega)).2 _ _ HSS.out
                have he := hs'.symm.trans ha2
                injection he with he
                have e1 : er' = er := congrArg Prod.fst he
                clear he ha2
                subst e1
                by_cases h3 : er' = 3
                · have e3 : (((er' : Nat) : Int) == 3) = true := by rw [h3]; rfl
                  clear hpr hb5 hS6 hF6 hs' h3
                  go_wp2_with fail
                  go_ret
                  exact ⟨rfl, HW6.out⟩
                · have e3 : (((er' : Nat) : Int) == 3) = false := by rw [beq_eq_false_iff_ne]; omega
                  have e4 : (((er' : Nat) : Int) == ((er' : Nat) : Int)) = true := by simp
                  have HSR := Lib.hid (source_same (w := (w5.alloc (.cells #[.slice none 0 0, .slice none 0 0, .slice none 0 0, .slice none 0 0, .slice none 0 0] 27)).alloc (.cells #[.int .i64 (er' : Nat), .int .i64 (-1), .int .i64 (a' : Nat)] 30)) (has0 _) ⟨[], [], [], [], []⟩ (q1 := none) (c1 := 0) (q2 := none) (c2 := 0) (q3 := none) (c3 := 0) (q4 := none) (c4 := 0) (q5 := none) (c5 := 0) (r1 := none) (d1 := 0) (r2 := none) (d2 := 0) (r3 := none) (d3 := 0) (r4 := none) (d4 := 0) (r5 := none) (d5 := 0) sos_nil sos_nil)
                  clear hpr hb5 hS6 hF6 hs' h3
                  go_wp2_with fail
                  go_at_call 9
                  refine HSR.out.mono ?_
                  rintro e w7 ⟨rfl, hc7⟩
                  go_wp2_with fail
                  go_ret
                  exact ⟨rfl, HW6.out.trans ((hc7.below (Nat.le_refl _) (fun _ e => e.elim)).mono HW6.out.size)⟩
            · exfalso
              rcases Nat.lt_or_ge 65536 o.size with p | p
              · have he := hs'.symm.trans (err_long p)
                cases he
              · obtain ⟨a2, ha2⟩ := (blanks_same HY.out.1 HY.out.2 HB.out.gap HL.out HO.out p).2 _ _ HSS.out
                have he := hs'.symm.trans ha2
                cases he
          · have hrow3 := own_chg HB.out.row ((((Below.chg hb3 (Nat.le_refl _) (fun _ => False))).alloc (.cells #[.slice q1 so.principals.length c1, .slice q2 so.globals.length c2, .slice q3 so.arrays.length c3, .slice q4 so.channels.length c4, .slice q5 so.funcs.length c5] 27)).alloc (.cells #[.int .i64 0, .int .i64 0, .int .i64 0] 30)) (fun _ _ e => e)
            have hconv := conv_row rfl hrow3
            have HW4 := Lib.hid (((HWr.out.trans (hb3.mono HWr.out.size)).alloc (Nat.le_trans HWr.out.size hb3.size) (.cells #[.slice q1 so.principals.length c1, .slice q2 so.globals.length c2, .slice q3 so.arrays.length c3, .slice q4 so.channels.length c4, .slice q5 so.funcs.length c5] 27)).alloc (by simp; have := HWr.out.size; have := hb3.size; omega) (.cells #[.int .i64 0, .int .i64 0, .int .i64 0] 30))
            have HM4 := Lib.hid (g3.chg (((Chg.refl (fun _ => False) w3).alloc (.cells #[.slice q1 so.principals.length c1, .slice q2 so.globals.length c2, .slice q3 so.arrays.length c3, .slice q4 so.channels.length c4, .slice q5 so.funcs.length c5] 27)).alloc (.cells #[.int .i64 0, .int .i64 0, .int .i64 0] 30)) (fun _ e => e.elim))
            have HS4 := Lib.hid (heap_new _ (.cells #[.int .i64 0, .int .i64 0, .int .i64 0] 30) (World.alloc_heap_new w3 (.cells #[.slice q1 so.principals.length c1, .slice q2 so.globals.length c2, .slice q3 so.arrays.length c3, .slice q4 so.channels.length c4, .slice q5 so.funcs.length c5] 27)))
            have HF4 := Lib.hid (show ((w3.alloc (.cells #[.slice q1 so.principals.length c1, .slice q2 so.globals.length c2, .slice q3 so.arrays.length c3, .slice q4 so.channels.length c4, .slice q5 so.funcs.length c5] 27)).alloc (.cells #[.int .i64 0, .int .i64 0, .int .i64 0] 30)).heap[w3.heap.size + 1]? = some (.cells #[.int .i64 0, .int .i64 0, .int .i64 0] 30 (0, 0)) from by
              have := World.alloc_heap_new (w3.alloc (.cells #[.slice q1 so.principals.length c1, .slice q2 so.globals.length c2, .slice q3 so.arrays.length c3, .slice q4 so.channels.length c4, .slice q5 so.funcs.length c5] 27)) (.cells #[.int .i64 0, .int .i64 0, .int .i64 0] 30)
              rwa [World.size_alloc] at this)
            have hbs := HB.out.size
            have HO := Lib.hid (show bl (b ++ ⟨#[10]⟩) = apart L ++ [10] from by rw [bl_append, HB.out.text]; rfl)
            have HSS := Lib.hid hs
            clear hpr hs hb3 hrow3
            go_wp2_with fail
            go_at_call 7
            clear hconv
            generalize ((w3.alloc _).alloc _ : World) = W4 at *
            generalize b ++ ⟨#[10]⟩ = o at *
            have HPo := Lib.hid (parse_any o W4 (HE.out.below HW4.out HE.out.lt) HM4.out)
            refine HPo.out.mono ?_
            rintro e w5 hpr
            obtain ⟨hb5, ⟨er', a', hs', rfl⟩ | ⟨so', r1, d1, r2, d2, r3, d3, r4, d4, r5, d5, m2, hs', rfl, k1, k2, k3⟩⟩ := hpr.cases
            · have HW6 := Lib.hid (((HW4.out.trans (hb5.mono HW4.out.size)).alloc (Nat.le_trans HW4.out.size hb5.size) (.cells #[.slice none 0 0, .slice none 0 0, .slice none 0 0, .slice none 0 0, .slice none 0 0] 27)).alloc (by simp; have := HW4.out.size; have := hb5.size; omega) (.cells #[.int .i64 (er' : Nat), .int .i64 (-1), .int .i64 (a' : Nat)] 30))
              have hS6 := heap_new _ (.cells #[.int .i64 (er' : Nat), .int .i64 (-1), .int .i64 (a' : Nat)] 30) (heap_new _ (.cells #[.slice none 0 0, .slice none 0 0, .slice none 0 0, .slice none 0 0, .slice none 0 0] 27) ((hb5.block _ (heap_lt HS4.out)).trans HS4.out))
              have hF6 := heap_new _ (.cells #[.int .i64 (er' : Nat), .int .i64 (-1), .int .i64 (a' : Nat)] 30) (heap_new _ (.cells #[.slice none 0 0, .slice none 0 0, .slice none 0 0, .slice none 0 0, .slice none 0 0] 27) ((hb5.block _ (heap_lt HF4.out)).trans HF4.out))
              obtain ⟨x0, x1, x2, x3, x4⟩ := five_cells hS6
              obtain ⟨y0, y1, y2, _⟩ := three_cells hF6
              by_cases hos : 65536 < o.size
              · have he := hs'.symm.trans (err_long hos)
                injection he with he
                have e1 : er' = 3 := congrArg Prod.fst he
                clear he
                have e3 : (((er' : Nat) : Int) == 3) = true := by rw [e1]; rfl
                clear e1 hpr hb5 hS6 hF6 hs'
                go_wp2_with fail
                go_ret
                exact ⟨rfl, HW6.out⟩
              · have he := hs'.symm.trans ((blanks_same HY.out.1 HY.out.2 HB.out.gap HL.out HO.out (by omega)).1 _ HSS.out)
                cases he
            · have hos : o.size ≤ 65536 := by
                rcases Nat.lt_or_ge 65536 o.size with p | p
                · have he := hs'.symm.trans (err_long p)
                  cases he
                · exact p
              obtain rfl : so' = so := by
                have he := hs'.symm.trans ((blanks_same HY.out.1 HY.out.2 HB.out.gap HL.out HO.out hos).1 _ HSS.out)
                injection he
              have HW6 := Lib.hid (((HW4.out.trans (hb5.mono HW4.out.size)).alloc (Nat.le_trans HW4.out.size hb5.size) (.cells #[.slice r1 so'.principals.length d1, .slice r2 so'.globals.length d2, .slice r3 so'.arrays.length d3, .slice r4 so'.channels.length d4, .slice r5 so'.funcs.length d5] 27)).alloc (by simp; have := HW4.out.size; have := hb5.size; omega) (.cells #[.int .i64 0, .int .i64 0, .int .i64 0] 30))
              have hS6 := heap_new _ (.cells #[.int .i64 0, .int .i64 0, .int .i64 0] 30) (heap_new _ (.cells #[.slice r1 so'.principals.length d1, .slice r2 so'.globals.length d2, .slice r3 so'.arrays.length d3, .slice r4 so'.channels.length d4, .slice r5 so'.funcs.length d5] 27) ((hb5.block _ (heap_lt HS4.out)).trans HS4.out))
              have hF6 := heap_new _ (.cells #[.int .i64 0, .int .i64 0, .int .i64 0] 30) (heap_new _ (.cells #[.slice r1 so'.principals.length d1, .slice r2 so'.globals.length d2, .slice r3 so'.arrays.length d3, .slice r4 so'.channels.length d4, .slice r5 so'.funcs.length d5] 27) ((hb5.block _ (heap_lt HF4.out)).trans HF4.out))
              obtain ⟨x0, x1, x2, x3, x4⟩ := five_cells hS6
              obtain ⟨y0, y1, y2, _⟩ := three_cells hF6
              have hm6 := k3.chg (((Chg.refl (fun _ => False) w5).alloc (.cells #[.slice r1 so'.principals.length d1, .slice r2 so'.globals.length d2, .slice r3 so'.arrays.length d3, .slice r4 so'.channels.length d4, .slice r5 so'.funcs.length d5] 27)).alloc (.cells #[.int .i64 0, .int .i64 0, .int .i64 0] 30)) (fun _ e => e.elim)
              have HSR := Lib.hid (source_same hm6 so' (g1.le k2.le).rows k1.rows)
              clear hpr hb5 hS6 hF6 hs' hm6 k1 k2 k3 g1 g2
              go_wp2_with fail
              go_at_call 9
              refine HSR.out.mono ?_
              rintro e w7 ⟨rfl, hc7⟩
              go_wp2_with fail
              go_ret
              exact ⟨rfl, HW6.out.trans ((hc7.below (Nat.le_refl _) (fun _ e => e.elim)).mono HW6.out.size)⟩
    · have hgt : (4000 : Int) < ((s.size : Nat) : Int) := by omega
      have hgt2 : decide (((s.size : Nat) : Int) > 4000) = true := by simp; omega
      have hgt3 : decide ((4000 : Int) < ((s.size : Nat) : Int)) = true := by simp; omega
      have HB := Lib.hid (hb1.trans (hb2.mono hb1.size))
      clear hb1 hb2 hy hy0 hrow
      go_wp2_with fail
      go_ret
      exact ⟨rfl, HB.out⟩
  · have hxe : (((x.e : Nat) : Int) != 0) = true := by simp; omega
    have HB := Lib.hid (hb1.trans (hb2.mono hb1.size))
    clear hb1 hb2 hp hx
    go_wp2_with fail
    go_ret
    exact ⟨rfl, HB.out⟩
end Go.Proofs.YtbojklbnfgopfaaGreatDoor

/- From what the cards list to the memory that package lex's calls ask; and what every law's row comes to: it returns true, and below the memory that came in nothing has turned. -/
namespace Go.Proofs.YtbojklbnfgopfaaGreatDoor
open Go Go.ChangeShapes Go.WideShapes Go.ChangeAt Go.RowKit Go.Lib

theorem own : ownKnob Tryz.prog.godebug = none := by kernel_rfl
theorem laidOut : laidOutB Tryz.prog = true := by kernel_rfl

def lays5 : List (String × DataW Unit) := [("math/bits.deBruijn32tab", Rows.laid_math_bits_deBruijn32tab), ("math/bits.deBruijn64tab", Rows.laid_math_bits_deBruijn64tab), ("internal/strconv.uint64pow10", Rows.laid_internal_strconv_uint64pow10), ("strconv.ErrRange", Rows.laid_strconv_ErrRange), ("strconv.ErrSyntax", Rows.laid_strconv_ErrSyntax)]
theorem gErrR : Tryz.prog.globalNamed "strconv.ErrRange" = some 1 := by kernel_rfl

theorem sentinel {W : World} {n : String} {nm : String} {d : DataW Unit} {g : Nat} (hg : Tryz.prog.globalNamed n = some g) (hty : (Tryz.prog.globals[g]?).map (·.type) = some 170) (h : VarReads Tryz.prog W n (.iface nm d)) : ∃ tp p, W.var? Tryz.prog n = some #[.iface tp p] := by
  obtain ⟨g', t, cs, fuel, p, hg', hty', hvar, hd⟩ := h
  obtain rfl := Option.some.inj (hg.symm.trans hg')
  obtain rfl := Option.some.inj (hty.symm.trans hty')
  obtain ⟨f1, u, v, hcs, -, -⟩ := iface_of_trod Tryz.underlying170 hd
  obtain ⟨l⟩ := cs
  obtain rfl : l = [.iface u v] := hcs
  exact ⟨u, v, hvar⟩

theorem env_of_laid {W : World} (h : laidMetH Tryz.prog lays5 W) : Env W := by
  rw [MakeChecks.laidMetH_plain _ _ _ (by kernel_rfl)] at h
  obtain ⟨tp, p, hv⟩ := sentinel gErrR (by kernel_rfl) (Lib.laidMet.reads h (n := "strconv.ErrRange") (d := Rows.laid_strconv_ErrRange) (by simp [lays5]))
  exact ⟨tp, p, by rw [World.var?_cell gErrR hv 0]; rfl⟩

theorem trodAll_below {H : Type} {enc : TypeId × Value → H} {P : Program} (hl : laidOutB P = true) {W W' : World} (hb : Below W.heap.size W W') (ts : List TypeId) : ∀ {vs : List Value} {ds : List (DataW H)} {ps : List MemPlace},
    (∀ t ∈ ts, P.readableRec t = true ∧ t < P.types.size) → DataW.TrodAll enc P W 0 (fun _ => true) true ts vs ds ps → (∀ x ∈ ps, x.block < W.heap.size) → DataW.TrodAll enc P W' 0 (fun b => decide (b < W.heap.size)) true ts vs ds ps := by
  induction ts with
  | nil =>
    intro vs ds ps _ h _
    cases vs <;> cases ds <;> exact h
  | cons t ts ih =>
    intro vs ds ps hr h hlt
    cases vs with
    | nil => cases ds <;> cases h
    | cons v vs => cases ds with
      | nil => cases h
      | cons d ds =>
        obtain ⟨p, q, h1, h2, rfl⟩ := h
        have ht := hr t (List.mem_cons_self ..)
        exact ⟨p, q, Below.trod hl ht.1 ht.2 h1 hb fun x hx => hlt x (List.mem_append_left _ hx), ih (fun u hu => hr u (List.mem_cons_of_mem _ hu)) h2 fun x hx => hlt x (List.mem_append_right _ hx), rfl⟩

theorem post_true {H : Type} {enc : TypeId × Value → H} {fn : Func} {s : ChangeSpec} {W W' : World} {args : Array Value} {ds : List (DataW H)} {before : List MemPlace} (hv : s.vars = []) (hrt : fn.resultTypes = #[4])
    (hr : ∀ t ∈ fn.params.toList, Tryz.prog.readableRec t = true ∧ t < Tryz.prog.types.size) (hs : s.fn H ds = { results := [.lit (.bool true)], args := ds, vars := [] })
    (hW : DataW.Whole enc Tryz.prog fn.params.toList s.vars false W args.toList ds [] before) (hb : Below W.heap.size W W') : s.post enc Tryz.prog fn false true false false W args (.bool true) W' := by
  have hW' := hW
  obtain ⟨p, q, hA, hV, rfl, hfz, _⟩ := hW
  rw [hv] at hV
  obtain rfl : q = [] := hV
  refine ⟨ds, [], p ++ [], [], p, [], hW', ?_, ?_, ?_, hb.frame _, fun h => by cases h⟩
  · rw [List.append_nil, hs, hrt]; exact trodAll_mk1 (shut_bool Tryz.underlying4 _)
  · rw [List.append_nil, hs]
    exact trodAll_below laidOut hb _ hr hA fun x hx => by simpa using hW'.lt x (List.mem_append_left _ hx)
  · rw [List.append_nil, hs, hv]; rfl
end Go.Proofs.YtbojklbnfgopfaaGreatDoor
