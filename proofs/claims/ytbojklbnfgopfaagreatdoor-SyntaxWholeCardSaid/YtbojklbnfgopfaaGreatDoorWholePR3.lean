/- SyntaxBlanks: the walk. -/
import Derived.Test.YtbojklbnfgopfaaGreatDoorWholePR1
import Derived.Test.YtbojklbnfgopfaaGreatDoorWholePR2
import Derived.Lib.AppendStr
import Derived.Laws.IdiomStrings
import Derived.Laws.BytesArg
import Derived.Test.YtbojklbnfgopfaaGreatDoorQ3
import Derived.Laws.CopyOwn
import Derived.Deep.OwnRows
import Derived.Laws.OwnMore
import Derived.Laws.Bits64
import Derived.Laws.Bits64b
import Derived.Deep.AppendLies
namespace Go.Proofs.YtbojklbnfgopfaaGreatDoor
open Go Go.RowKit Go.Proofs.Mm

theorem infoU8 : ∃ i, Tryz.prog.info? 5 = some i ∧ i.zero = some (.int .u8 0) ∧ i.size = 1 ∧ i.bytes = 1 := info_of (by kernel_rfl)
/-- Numbers that came in. -/
def Nums (w : World) (q : Option Addr) (n : Nat) : Prop := ∀ j, j < n → ∃ b o z, q = some ⟨b, o, none⟩ ∧ w.cell? ⟨b, o + j, none⟩ = some (.int .i64 z) ∧ b < w.heap.size
theorem apart_app : ∀ (L : List (List Nat × Tok)) (g : List Nat) (t : Tok), apart (L ++ [(g, t)]) = apart L ++ g ++ t.text
  | [], g, t => by simp [apart]
  | p :: L, g, t => by rw [List.cons_append, apart, apart_app L g t, apart]; simp
/-- What has been laid behind j words. -/
structure BlI (s : ByteArray) (ts : List Tok) (B j : Nat) (W : World) (v : Value) (b : ByteArray) (L : List (List Nat × Tok)) : Prop where
  row : W.ownsRow B 5 1 v b.size (Lib.strCells b)
  gap : ∀ p ∈ L, Gap p.1
  toks : L.map (fun p => p.2) = ts.take j
  text : bl b = apart L
  size : b.size ≤ j * 4015
theorem bli_step {s : ByteArray} {ts : List Tok} {B j : Nat} {W W' : World} {v v' : Value} {b g t : ByteArray} {L : List (List Nat × Tok)} {tk : Tok} (h : BlI s ts B j W v b L) (hg : Gap (bl g)) (hgs : g.size ≤ 15) (ht : ts[j]? = some tk) (htt : tk.text = bl t) (hts : t.size ≤ 4000)
    (hr : W'.ownsRow B 5 1 v' (b.size + g.size + t.size) (Lib.strCells b ++ Lib.strCells g ++ Lib.strCells t)) : ∃ L', BlI s ts B (j + 1) W' v' (b ++ g ++ t) L' := by
  refine ⟨L ++ [(bl g, tk)], ?_, ?_, ?_, ?_, ?_⟩
  · have e1 : (b ++ g ++ t).size = b.size + g.size + t.size := by simp [ByteArray.size_append]
    have e2 : Lib.strCells (b ++ g ++ t) = Lib.strCells b ++ Lib.strCells g ++ Lib.strCells t := by unfold Lib.strCells; simp
    rw [e1, e2]; exact hr
  · intro p hp
    rcases List.mem_append.1 hp with hp | hp
    · exact h.gap p hp
    · rw [List.mem_singleton] at hp; rw [hp]; exact hg
  · rw [List.map_append, h.toks, List.map_singleton, List.take_add_one, ht]; rfl
  · rw [bl_append, bl_append, h.text, apart_app]
    rw [htt]
  · have e1 : (b ++ g ++ t).size = b.size + g.size + t.size := by simp [ByteArray.size_append]
    rw [e1]; have := h.size; omega
theorem RdR.below {w w' : World} {q : Option Addr} {xs : List Value} {B : Nat} (h : RdR w q xs) (hb : Below B w w') (hB : w.heap.size ≤ B) : RdR w' q xs :=
  h.same fun a _ hc => (hb.cell (p := a) (Nat.lt_of_lt_of_le (World.block_lt_of_cell? _ _ hc) hB)).trans hc
theorem Nums.below {w w' : World} {q : Option Addr} {n B : Nat} (h : Nums w q n) (hb : Below B w w') (hB : w.heap.size ≤ B) : Nums w' q n := fun j hj => by
  obtain ⟨b, o, z, h1, h2, h3⟩ := h j hj
  exact ⟨b, o, z, h1, (hb.cell (p := ⟨b, o + j, none⟩) (Nat.lt_of_lt_of_le h3 hB)).trans h2, Nat.lt_of_lt_of_le h3 hb.size⟩
theorem grown_below {B : Nat} {a w w' : World} {row : Option Nat} (h : Below B a w) (hB : B ≤ w.heap.size) (hg : w.grownBy w' row) (hr : ∀ k, row = some k → B ≤ k) : Below B a w' :=
  h.trans ⟨hg.os, hg.tape, hg.output, hg.size, fun k hk => hg.block k (Nat.lt_of_lt_of_le hk hB) (fun e => absurd (hr k e.symm) (by omega))⟩
theorem one_u8 (z : Int) : ∀ u ∈ [Value.int .u8 z], u.oneCell' = true := by
  intro u hu
  rw [List.mem_singleton] at hu; subst hu; rfl
theorem sos_nil : SoS mem0 ⟨[], [], [], [], []⟩ none 0 none 0 none 0 none 0 none 0 :=
  ⟨RowM.nil _ _ _, ⟨[], RowM.nil _ _ _, Enc.nil⟩, ⟨[], RowM.nil _ _ _, Enc.nil⟩, ⟨[], RowM.nil _ _ _, Enc.nil⟩, ⟨[], RowM.nil _ _ _, Enc.nil⟩⟩
set_option maxRecDepth 100000 in
theorem conv_row {W : World} {B n c : Nat} {q : Option Addr} {b : ByteArray} (hn : n = b.size) (h : W.ownsRow B 5 1 (.slice q n c) n (Lib.strCells b)) : (convert 53 9 (.slice q n c)).run Tryz.prog W = .ok (.string b) W := by
  subst hn
  rcases h.2 with ⟨h1, h2⟩ | ⟨g, cap, cur, h1, _, hg, h4, h5, h6, h7⟩
  · injection h1 with h1 _ _
    subst h1
    have hb : b = ByteArray.empty := by
      have h8 : b.data.size = 0 := h2
      have h9 : b.data = #[] := Array.eq_empty_of_size_eq_zero h8
      cases b; simp only at h9; subst h9; rfl
    rw [run_convert_bytes_nil _ _ _ Tryz.underlying53 Tryz.underlying5 _ _ _ Tryz.underlying9, hb]
  · injection h1 with h1 _ _
    subst h1
    have hl : b.data.toList.length = b.size := Array.length_toList
    have := run_convert_bytes_back W 53 9 5 ⟨g, 0, none⟩ c b.data.toList Tryz.underlying53 Tryz.underlying5 Tryz.underlying9 (fun j hj => by
      rw [show ((⟨g, 0, none⟩ : Addr).add j) = ⟨g, j, none⟩ from by unfold Addr.add; split <;> simp_all]
      refine cell_of hg ?_
      have hx : (Lib.strCells b)[j]? = some (.int .u8 (b.data.toList[j].toNat : Int)) := by
        unfold Lib.strCells; rw [List.getElem?_map, List.getElem?_eq_getElem hj]; rfl
      rw [← h7, List.getElem?_take] at hx
      split at hx
      · simpa using hx
      · cases hx)
    rw [hl] at this
    rw [this, Array.toArray_toList]
set_option maxRecDepth 100000 in
set_option maxHeartbeats 8000000 in
theorem blanks_any (s : ByteArray) (qf : Option Addr) (nf cf : Nat) (w : World) (hE : Env w) (hf : Nums w qf nf) (hnf : nf ≤ 9223372036854775807) : Calls Tryz.prog 5 #[.string s, .slice qf nf cf] w fun e w' => e = .returned (.bool true) ∧ Below w.heap.size w w' := by
  have HK := Lib.hid (known_any w hE)
  have HE := Lib.hid hE
  have HF := Lib.hid hf
  clear hE hf
  go_enter Tryz.func5, Tryz.ntmps5
  go_wp2_with (go_at_call 10; refine HK.out.mono ?_; rintro e w1 ⟨rfl, hb1⟩)
  have hE1 := HE.out.below hb1 HE.out.lt
  go_at_call 13
  refine (scan_any s w1 hE1).mono ?_
  rintro e w2 ⟨hb2, ⟨ys, q, c, hy, hy0, rfl, hrow⟩ | ⟨pr, x, hp, hx, rfl⟩⟩
  · by_cases hss : s.size ≤ 4000
    · have hgt : ¬ (4000 : Int) < ((s.size : Nat) : Int) := by omega
      have hgt2 : decide (((s.size : Nat) : Int) > 4000) = false := by simp; omega
      have hgt3 : decide ((4000 : Int) < ((s.size : Nat) : Int)) = false := by simp; omega
      have hws := ws_of hy hy0
      have hlen := hws.2
      have HW2 := Lib.hid (hb1.trans (hb2.mono hb1.size))
      have HRD := Lib.hid (own_rd hrow)
      have HY := Lib.hid (And.intro hy hy0)
      have HN := Lib.hid (HF.out.below HW2.out (Nat.le_refl _))
      have HTS := Lib.hid (its_tok hy hy0)
      have HPL := Lib.hid (fun i (h : i < ys.length) => (its_place hy hy0 i h).2.1)
      obtain ⟨i0, hi, hz0, hz1, hz2⟩ := infoU8
      have H0 := Lib.hid (show BlI s (scanL (bl s) 0).1 w2.heap.size 0 w2 (.slice none 0 0) ⟨#[]⟩ [] from ⟨World.ownsRow_nil _ _ _ _, (fun _ h => by cases h), rfl, rfl, Nat.zero_le _⟩)
      clear hb1 hb2 hy hy0 hws hrow
      go_wp2_with fail
      go_loopw [8, 9] (fun bv i wr => ∃ j b L, j ≤ ys.length ∧ i = .int .i64 j ∧ Hid (BlI s (scanL (bl s) 0).1 w2.heap.size j wr bv b L) ∧ Hid (Below w2.heap.size w2 wr)) (fun _ i _ => ys.length - (intOf i).toNat)
      case atStart => exact ⟨0, _, _, Nat.zero_le _, rfl, H0, Lib.hid (Below.refl _ _)⟩
      case round =>
        obtain ⟨j, b, L, hj, rfl, HB, HC⟩ := hrel
        by_cases hlt : j < ys.length
        · obtain ⟨g, rfl, b0, b1, b2, b3⟩ := rd_tok (HRD.out.below HC.out (Nat.le_refl _)) j hlt
          obtain ⟨qv, cv, rfl⟩ := own_shape HB.out.row
          have hji : (j : Int) < (ys.length : Int) := by omega
          have hpl := HPL.out j hlt
          have hrow := HB.out.row
          have hbs := HB.out.size
          have hB2 := HC.out.size
          have HTJ := Lib.hid (HTS.out.2 j hlt)
          clear b0 b1 b2 b3
          by_cases hn0 : nf = 0
          · subst hn0
            go_wp2_with (at_builtin; refine wpList_append_own_at _ rfl _ _ 53 rfl w2.heap.size 5 i0 _ 1 1 Tryz.underlying53 hi hz0 hz1 hz2 rfl (by decide) _ _ _ rfl (hrow.alloc _) ⟨wr.heap.size, 0, none⟩ 1 1 [.int .u8 32] rfl rfl (row_new wr [_] 5) (one_u8 32) (by unfold maxLen; omega) (by omega) (by simp; omega) ?_)
            intro v9 w9 hown9 hgrow9 _ _
            have hC9 := grown_below (HC.out.alloc hB2 _) (by simp; omega) hgrow9 (fun k hk => (hrow.lt k hk).1)
            obtain ⟨q9, c9, rfl⟩ := own_shape hown9
            obtain ⟨g1, hg1, _, t1, _, _⟩ := rd_tok (HRD.out.below hC9 (Nat.le_refl _)) j hlt
            obtain rfl : g1 = g := by injection hg1 with hg1; injection hg1 with hg1 _ _; exact hg1.symm
            have hown9' : w9.ownsRow w2.heap.size 5 1 (.slice q9 (b.size + 1) c9) (b.size + 1) (Lib.strCells b ++ Lib.strCells ⟨#[32]⟩) := hown9
            have HG9 := Lib.hid hgrow9
            have HC9 := Lib.hid hC9
            have hB9 := hC9.size
            clear hown9 hgrow9 hC9 hrow
            go_wp2_with (at_builtin; refine Lib.wpList_append_own_string _ rfl _ _ 53 9 rfl w2.heap.size 5 i0 Tryz.underlying53 Tryz.underlying9 hi hz0 hz1 hz2 _ _ _ rfl hown9' _ rfl (by unfold maxLen; omega) (by omega) (by omega) ?_)
            intro v10 w10 hown10 hgrow10 _
            have HC10 := Lib.hid (grown_below HC9.out hB9 hgrow10 (fun k hk => (hown9'.lt k hk).1))
            obtain ⟨L', hb'⟩ := bli_step (g := ⟨#[32]⟩) (t := ys[j].t) HB.out gap_1 (by decide) HTJ.out rfl (by omega) (by rw [List.append_assoc]; exact hown10)
            have HB' := Lib.hid hb'
            clear hown10 hgrow10 hb' hown9'
            go_wp2_with fail
            exact ⟨⟨j + 1, _, L', by omega, by go_num, HB', HC10⟩, by simp [intOf]; omega⟩
          · have hnf0 : ¬ ((nf : Int) = 0) := by omega
            have hnf1 : (0 : Int) < (nf : Int) := by omega
            have hmod : (j : Int).tmod (nf : Int) = ((j % nf : Nat) : Int) := by rw [Int.tmod_eq_emod_of_nonneg (by omega)]; omega
            have hml : j % nf < nf := Nat.mod_lt _ (by omega)
            obtain ⟨gb, go, z, rfl, hz, _⟩ := HN.out.below HC.out (Nat.le_refl _) (j % nf) hml
            generalize j % nf = jm at *
            have hm1 : (0 : Int) ≤ (jm : Int) := by omega
            have hm2 : (jm : Int) < (nf : Int) := by omega
            obtain ⟨fv, hfv⟩ : ∃ fv, bits BinOp.and IntKind.i64 z 3 = fv := ⟨_, rfl⟩
            rcases Bool.eq_false_or_eq_true (fv == 0) with h0 | h0
            · go_wp2_with (at_builtin; refine wpList_append_own_at _ rfl _ _ 53 rfl w2.heap.size 5 i0 _ 1 1 Tryz.underlying53 hi hz0 hz1 hz2 rfl (by decide) _ _ _ rfl (hrow.alloc _) ⟨wr.heap.size, 0, none⟩ 1 1 [.int .u8 32] rfl rfl (row_new wr [_] 5) (one_u8 32) (by unfold maxLen; omega) (by omega) (by simp; omega) ?_)
              intro v9 w9 hown9 hgrow9 _ _
              have hC9 := grown_below (HC.out.alloc hB2 _) (by simp; omega) hgrow9 (fun k hk => (hrow.lt k hk).1)
              obtain ⟨q9, c9, rfl⟩ := own_shape hown9
              obtain ⟨g1, hg1, _, t1, _, _⟩ := rd_tok (HRD.out.below hC9 (Nat.le_refl _)) j hlt
              obtain rfl : g1 = g := by injection hg1 with hg1; injection hg1 with hg1 _ _; exact hg1.symm
              have hown9' : w9.ownsRow w2.heap.size 5 1 (.slice q9 (b.size + 1) c9) (b.size + 1) (Lib.strCells b ++ Lib.strCells ⟨#[32]⟩) := hown9
              have HG9 := Lib.hid hgrow9
              have HC9 := Lib.hid hC9
              have hB9 := hC9.size
              clear hown9 hgrow9 hC9 hrow
              go_wp2_with (at_builtin; refine Lib.wpList_append_own_string _ rfl _ _ 53 9 rfl w2.heap.size 5 i0 Tryz.underlying53 Tryz.underlying9 hi hz0 hz1 hz2 _ _ _ rfl hown9' _ rfl (by unfold maxLen; omega) (by omega) (by omega) ?_)
              intro v10 w10 hown10 hgrow10 _
              have HC10 := Lib.hid (grown_below HC9.out hB9 hgrow10 (fun k hk => (hown9'.lt k hk).1))
              obtain ⟨L', hb'⟩ := bli_step (g := ⟨#[32]⟩) (t := ys[j].t) HB.out gap_1 (by decide) HTJ.out rfl (by omega) (by rw [List.append_assoc]; exact hown10)
              have HB' := Lib.hid hb'
              clear hown10 hgrow10 hb' hown9'
              go_wp2_with fail
              exact ⟨⟨j + 1, _, L', by omega, by go_num, HB', HC10⟩, by simp [intOf]; omega⟩
            rcases Bool.eq_false_or_eq_true (fv == 1) with h1 | h1
            · go_wp2_with (at_builtin; refine Lib.wpList_append_own_string _ rfl _ _ 53 9 rfl w2.heap.size 5 i0 Tryz.underlying53 Tryz.underlying9 hi hz0 hz1 hz2 _ _ _ rfl hrow ⟨#[10, 9, 13]⟩ rfl (by unfold maxLen; show b.size + 3 ≤ _; omega) (by show b.size + 3 ≤ _; omega) (by omega) ?_)
              intro v9 w9 hown9 hgrow9 _
              have hC9 := grown_below HC.out hB2 hgrow9 (fun k hk => (hrow.lt k hk).1)
              obtain ⟨q9, c9, rfl⟩ := own_shape hown9
              obtain ⟨g1, hg1, _, t1, _, _⟩ := rd_tok (HRD.out.below hC9 (Nat.le_refl _)) j hlt
              obtain rfl : g1 = g := by injection hg1 with hg1; injection hg1 with hg1 _ _; exact hg1.symm
              have hown9' : w9.ownsRow w2.heap.size 5 1 (.slice q9 (b.size + 3) c9) (b.size + 3) (Lib.strCells b ++ Lib.strCells ⟨#[10, 9, 13]⟩) := hown9
              have HG9 := Lib.hid hgrow9
              have HC9 := Lib.hid hC9
              have hB9 := hC9.size
              clear hown9 hgrow9 hC9 hrow
              go_wp2_with (at_builtin; refine Lib.wpList_append_own_string _ rfl _ _ 53 9 rfl w2.heap.size 5 i0 Tryz.underlying53 Tryz.underlying9 hi hz0 hz1 hz2 _ _ _ rfl hown9' _ rfl (by unfold maxLen; omega) (by omega) (by omega) ?_)
              intro v10 w10 hown10 hgrow10 _
              have HC10 := Lib.hid (grown_below HC9.out hB9 hgrow10 (fun k hk => (hown9'.lt k hk).1))
              obtain ⟨L', hb'⟩ := bli_step (g := ⟨#[10, 9, 13]⟩) (t := ys[j].t) HB.out gap_2 (by decide) HTJ.out rfl (by omega) (by rw [List.append_assoc]; exact hown10)
              have HB' := Lib.hid hb'
              clear hown10 hgrow10 hb' hown9'
              go_wp2_with fail
              exact ⟨⟨j + 1, _, L', by omega, by go_num, HB', HC10⟩, by simp [intOf]; omega⟩
            rcases Bool.eq_false_or_eq_true (fv == 2) with h2 | h2
            · go_wp2_with (at_builtin; refine Lib.wpList_append_own_string _ rfl _ _ 53 9 rfl w2.heap.size 5 i0 Tryz.underlying53 Tryz.underlying9 hi hz0 hz1 hz2 _ _ _ rfl hrow ⟨#[32, 35, 32, 97, 32, 125, 32, 99, 111, 109, 109, 101, 110, 116, 10]⟩ rfl (by unfold maxLen; show b.size + 15 ≤ _; omega) (by show b.size + 15 ≤ _; omega) (by omega) ?_)
              intro v9 w9 hown9 hgrow9 _
              have hC9 := grown_below HC.out hB2 hgrow9 (fun k hk => (hrow.lt k hk).1)
              obtain ⟨q9, c9, rfl⟩ := own_shape hown9
              obtain ⟨g1, hg1, _, t1, _, _⟩ := rd_tok (HRD.out.below hC9 (Nat.le_refl _)) j hlt
              obtain rfl : g1 = g := by injection hg1 with hg1; injection hg1 with hg1 _ _; exact hg1.symm
              have hown9' : w9.ownsRow w2.heap.size 5 1 (.slice q9 (b.size + 15) c9) (b.size + 15) (Lib.strCells b ++ Lib.strCells ⟨#[32, 35, 32, 97, 32, 125, 32, 99, 111, 109, 109, 101, 110, 116, 10]⟩) := hown9
              have HG9 := Lib.hid hgrow9
              have HC9 := Lib.hid hC9
              have hB9 := hC9.size
              clear hown9 hgrow9 hC9 hrow
              go_wp2_with (at_builtin; refine Lib.wpList_append_own_string _ rfl _ _ 53 9 rfl w2.heap.size 5 i0 Tryz.underlying53 Tryz.underlying9 hi hz0 hz1 hz2 _ _ _ rfl hown9' _ rfl (by unfold maxLen; omega) (by omega) (by omega) ?_)
              intro v10 w10 hown10 hgrow10 _
              have HC10 := Lib.hid (grown_below HC9.out hB9 hgrow10 (fun k hk => (hown9'.lt k hk).1))
              obtain ⟨L', hb'⟩ := bli_step (g := ⟨#[32, 35, 32, 97, 32, 125, 32, 99, 111, 109, 109, 101, 110, 116, 10]⟩) (t := ys[j].t) HB.out gap_3 (by decide) HTJ.out rfl (by omega) (by rw [List.append_assoc]; exact hown10)
              have HB' := Lib.hid hb'
              clear hown10 hgrow10 hb' hown9'
              go_wp2_with fail
              exact ⟨⟨j + 1, _, L', by omega, by go_num, HB', HC10⟩, by simp [intOf]; omega⟩
            go_wp2_with (at_builtin; refine Lib.wpList_append_own_string _ rfl _ _ 53 9 rfl w2.heap.size 5 i0 Tryz.underlying53 Tryz.underlying9 hi hz0 hz1 hz2 _ _ _ rfl hrow ⟨#[32, 32, 32]⟩ rfl (by unfold maxLen; show b.size + 3 ≤ _; omega) (by show b.size + 3 ≤ _; omega) (by omega) ?_)
            intro v9 w9 hown9 hgrow9 _
            have hC9 := grown_below HC.out hB2 hgrow9 (fun k hk => (hrow.lt k hk).1)
            obtain ⟨q9, c9, rfl⟩ := own_shape hown9
            obtain ⟨g1, hg1, _, t1, _, _⟩ := rd_tok (HRD.out.below hC9 (Nat.le_refl _)) j hlt
            obtain rfl : g1 = g := by injection hg1 with hg1; injection hg1 with hg1 _ _; exact hg1.symm
            have hown9' : w9.ownsRow w2.heap.size 5 1 (.slice q9 (b.size + 3) c9) (b.size + 3) (Lib.strCells b ++ Lib.strCells ⟨#[32, 32, 32]⟩) := hown9
            have HG9 := Lib.hid hgrow9
            have HC9 := Lib.hid hC9
            have hB9 := hC9.size
            clear hown9 hgrow9 hC9 hrow
            go_wp2_with (at_builtin; refine Lib.wpList_append_own_string _ rfl _ _ 53 9 rfl w2.heap.size 5 i0 Tryz.underlying53 Tryz.underlying9 hi hz0 hz1 hz2 _ _ _ rfl hown9' _ rfl (by unfold maxLen; omega) (by omega) (by omega) ?_)
            intro v10 w10 hown10 hgrow10 _
            have HC10 := Lib.hid (grown_below HC9.out hB9 hgrow10 (fun k hk => (hown9'.lt k hk).1))
            obtain ⟨L', hb'⟩ := bli_step (g := ⟨#[32, 32, 32]⟩) (t := ys[j].t) HB.out gap_4 (by decide) HTJ.out rfl (by omega) (by rw [List.append_assoc]; exact hown10)
            have HB' := Lib.hid hb'
            clear hown10 hgrow10 hb' hown9'
            go_wp2_with fail
            exact ⟨⟨j + 1, _, L', by omega, by go_num, HB', HC10⟩, by simp [intOf]; omega⟩
        · have hji : ¬ (j : Int) < (ys.length : Int) := by omega
          obtain rfl : j = ys.length := by omega
          obtain ⟨qv, cv, rfl⟩ := own_shape HB.out.row
          have HL := Lib.hid (show L.map (fun p => p.2) = (scanL (bl s) 0).1 from by rw [HB.out.toks, HTS.out.1, List.take_length])
          have HWr := Lib.hid (HW2.out.trans (HC.out.mono HW2.out.size))
          have HPs := Lib.hid (parse_any s wr (HE.out.below HWr.out HE.out.lt) (has0 _))
          go_wp2_with fail
          go_at_call 7
          refine HPs.out.mono ?_
          rintro e w3 hpr
          obtain ⟨hb3, ⟨er, a, hs, rfl⟩ | ⟨so, q1, c1, q2, c2, q3, c3, q4, c4, q5, c5, m1, hs, rfl, g1, g2, g3⟩⟩ := hpr.cases
          · have g3 : Has w3 mem0 := has0 _
            have hrow3 := own_chg HB.out.row ((((Below.chg hb3 (Nat.le_refl _) (fun _ => False))).alloc (.cells #[.slice none 0 0, .slice none 0 0, .slice none 0 0, .slice none 0 0, .slice none 0 0] 27)).alloc (.cells #[.int .i64 (er : Nat), .int .i64 (-1), .int .i64 (a : Nat)] 30)) (fun _ _ e => e)
            have hconv := conv_row rfl hrow3
            have HW4 := Lib.hid (((HWr.out.trans (hb3.mono HWr.out.size)).alloc (Nat.le_trans HWr.out.size hb3.size) (.cells #[.slice none 0 0, .slice none 0 0, .slice none 0 0, .slice none 0 0, .slice none 0 0] 27)).alloc (by simp; have := HWr.out.size; have := hb3.size; omega) (.cells #[.int .i64 (er : Nat), .int .i64 (-1), .int .i64 (a : Nat)] 30))
            have HM4 := Lib.hid (g3.chg (((Chg.refl (fun _ => False) w3).alloc (.cells #[.slice none 0 0, .slice none 0 0, .slice none 0 0, .slice none 0 0, .slice none 0 0] 27)).alloc (.cells #[.int .i64 (er : Nat), .int .i64 (-1), .int .i64 (a : Nat)] 30)) (fun _ e => e.elim))
            have HS4 := Lib.hid (heap_new _ (.cells #[.int .i64 (er : Nat), .int .i64 (-1), .int .i64 (a : Nat)] 30) (World.alloc_heap_new w3 (.cells #[.slice none 0 0, .slice none 0 0, .slice none 0 0, .slice none 0 0, .slice none 0 0] 27)))
            have HF4 := Lib.hid (show ((w3.alloc (.cells #[.slice none 0 0, .slice none 0 0, .slice none 0 0, .slice none 0 0, .slice none 0 0] 27)).alloc (.cells #[.int .i64 (er : Nat), .int .i64 (-1), .int .i64 (a : Nat)] 30)).heap[w3.heap.size + 1]? = some (.cells #[.int .i64 (er : Nat), .int .i64 (-1), .int .i64 (a : Nat)] 30 (0, 0)) from by
              have := World.alloc_heap_new (w3.alloc (.cells #[.slice none 0 0, .slice none 0 0, .slice none 0 0, .slice none 0 0, .slice none 0 0] 27)) (.cells #[.int .i64 (er : Nat), .int .i64 (-1), .int .i64 (a : Nat)] 30)
              rwa [World.size_alloc] at this)
            have hbs := HB.out.size
            have HO := Lib.hid (show bl (b ++ ⟨#[10]⟩) = apart L ++ [10] from by rw [bl_append, HB.out.text]; rfl)
            have HSS := Lib.hid hs
            clear hpr hs hb3 hrow3
            go_wp2_with fail
            go_at_call 7
            clear hconv
            generalize ((w3.alloc _).alloc _ : World) = W4 at *
            generalize b ++ ⟨#[10]⟩ = o at *
            have HPo := Lib.hid (parse_any o W4 (HE.out.below HW4.out HE.out.lt) HM4.out)
            refine HPo.out.mono ?_
            rintro e w5 hpr
            obtain ⟨hb5, ⟨er', a', hs', rfl⟩ | ⟨so', r1, d1, r2, d2, r3, d3, r4, d4, r5, d5, m2, hs', rfl, k1, k2, k3⟩⟩ := hpr.cases
            · have HW6 := Lib.hid (((HW4.out.trans (hb5.mono HW4.out.size)).alloc (Nat.le_trans HW4.out.size hb5.size) (.cells #[.slice none 0 0, .slice none 0 0, .slice none 0 0, .slice none 0 0, .slice none 0 0] 27)).alloc (by simp; have := HW4.out.size; have := hb5.size; omega) (.cells #[.int .i64 (er' : Nat), .int .i64 (-1), .int .i64 (a' : Nat)] 30))
              have hS6 := heap_new _ (.cells #[.int .i64 (er' : Nat), .int .i64 (-1), .int .i64 (a' : Nat)] 30) (heap_new _ (.cells #[.slice none 0 0, .slice none 0 0, .slice none 0 0, .slice none 0 0, .slice none 0 0] 27) ((hb5.block _ (heap_lt HS4.out)).trans HS4.out))
              have hF6 := heap_new _ (.cells #[.int .i64 (er' : Nat), .int .i64 (-1), .int .i64 (a' : Nat)] 30) (heap_new _ (.cells #[.slice none 0 0, .slice none 0 0, .slice none 0 0, .slice none 0 0, .slice none 0 0] 27) ((hb5.block _ (heap_lt HF4.out)).trans HF4.out))
              obtain ⟨x0, x1, x2, x3, x4⟩ := five_cells hS6
              obtain ⟨y0, y1, y2, _⟩ := three_cells hF6
              by_cases hos : 65536 < o.size
              · have he := hs'.symm.trans (err_long hos)
                injection he with he
                have e1 : er' = 3 := congrArg Prod.fst he
                clear he
                have e3 : (((er' : Nat) : Int) == 3) = true := by rw [e1]; rfl
                clear e1 hpr hb5 hS6 hF6 hs'
                go_wp2_with fail
                go_ret
                exact ⟨rfl, HW6.out⟩
              · obtain ⟨a2, ha2⟩ := (blanks_same HY.out.1 HY.out.2 HB.out.gap HL.out HO.out (by omega)).2 _ _ HSS.out
                have he := hs'.symm.trans ha2
                injection he with he
                have e1 : er' = er := congrArg Prod.fst he
                clear he ha2
                subst e1
                by_cases h3 : er' = 3
                · have e3 : (((er' : Nat) : Int) == 3) = true := by rw [h3]; rfl
                  clear hpr hb5 hS6 hF6 hs' h3
                  go_wp2_with fail
                  go_ret
                  exact ⟨rfl, HW6.out⟩
                · have e3 : (((er' : Nat) : Int) == 3) = false := by rw [beq_eq_false_iff_ne]; omega
                  have e4 : (((er' : Nat) : Int) == ((er' : Nat) : Int)) = true := by simp
                  have HSR := Lib.hid (source_same (w := (w5.alloc (.cells #[.slice none 0 0, .slice none 0 0, .slice none 0 0, .slice none 0 0, .slice none 0 0] 27)).alloc (.cells #[.int .i64 (er' : Nat), .int .i64 (-1), .int .i64 (a' : Nat)] 30)) (has0 _) ⟨[], [], [], [], []⟩ (q1 := none) (c1 := 0) (q2 := none) (c2 := 0) (q3 := none) (c3 := 0) (q4 := none) (c4 := 0) (q5 := none) (c5 := 0) (r1 := none) (d1 := 0) (r2 := none) (d2 := 0) (r3 := none) (d3 := 0) (r4 := none) (d4 := 0) (r5 := none) (d5 := 0) sos_nil sos_nil)
                  clear hpr hb5 hS6 hF6 hs' h3
                  go_wp2_with fail
                  go_at_call 9
                  refine HSR.out.mono ?_
                  rintro e w7 ⟨rfl, hc7⟩
                  go_wp2_with fail
                  go_ret
                  exact ⟨rfl, HW6.out.trans ((hc7.below (Nat.le_refl _) (fun _ e => e.elim)).mono HW6.out.size)⟩
            · exfalso
              rcases Nat.lt_or_ge 65536 o.size with p | p
              · have he := hs'.symm.trans (err_long p)
                cases he
              · obtain ⟨a2, ha2⟩ := (blanks_same HY.out.1 HY.out.2 HB.out.gap HL.out HO.out p).2 _ _ HSS.out
                have he := hs'.symm.trans ha2
                cases he
          · have hrow3 := own_chg HB.out.row ((((Below.chg hb3 (Nat.le_refl _) (fun _ => False))).alloc (.cells #[.slice q1 so.principals.length c1, .slice q2 so.globals.length c2, .slice q3 so.arrays.length c3, .slice q4 so.channels.length c4, .slice q5 so.funcs.length c5] 27)).alloc (.cells #[.int .i64 0, .int .i64 0, .int .i64 0] 30)) (fun _ _ e => e)
            have hconv := conv_row rfl hrow3
            have HW4 := Lib.hid (((HWr.out.trans (hb3.mono HWr.out.size)).alloc (Nat.le_trans HWr.out.size hb3.size) (.cells #[.slice q1 so.principals.length c1, .slice q2 so.globals.length c2, .slice q3 so.arrays.length c3, .slice q4 so.channels.length c4, .slice q5 so.funcs.length c5] 27)).alloc (by simp; have := HWr.out.size; have := hb3.size; omega) (.cells #[.int .i64 0, .int .i64 0, .int .i64 0] 30))
            have HM4 := Lib.hid (g3.chg (((Chg.refl (fun _ => False) w3).alloc (.cells #[.slice q1 so.principals.length c1, .slice q2 so.globals.length c2, .slice q3 so.arrays.length c3, .slice q4 so.channels.length c4, .slice q5 so.funcs.length c5] 27)).alloc (.cells #[.int .i64 0, .int .i64 0, .int .i64 0] 30)) (fun _ e => e.elim))
            have HS4 := Lib.hid (heap_new _ (.cells #[.int .i64 0, .int .i64 0, .int .i64 0] 30) (World.alloc_heap_new w3 (.cells #[.slice q1 so.principals.length c1, .slice q2 so.globals.length c2, .slice q3 so.arrays.length c3, .slice q4 so.channels.length c4, .slice q5 so.funcs.length c5] 27)))
            have HF4 := Lib.hid (show ((w3.alloc (.cells #[.slice q1 so.principals.length c1, .slice q2 so.globals.length c2, .slice q3 so.arrays.length c3, .slice q4 so.channels.length c4, .slice q5 so.funcs.length c5] 27)).alloc (.cells #[.int .i64 0, .int .i64 0, .int .i64 0] 30)).heap[w3.heap.size + 1]? = some (.cells #[.int .i64 0, .int .i64 0, .int .i64 0] 30 (0, 0)) from by
              have := World.alloc_heap_new (w3.alloc (.cells #[.slice q1 so.principals.length c1, .slice q2 so.globals.length c2, .slice q3 so.arrays.length c3, .slice q4 so.channels.length c4, .slice q5 so.funcs.length c5] 27)) (.cells #[.int .i64 0, .int .i64 0, .int .i64 0] 30)
              rwa [World.size_alloc] at this)
            have hbs := HB.out.size
            have HO := Lib.hid (show bl (b ++ ⟨#[10]⟩) = apart L ++ [10] from by rw [bl_append, HB.out.text]; rfl)
            have HSS := Lib.hid hs
            clear hpr hs hb3 hrow3
            go_wp2_with fail
            go_at_call 7
            clear hconv
            generalize ((w3.alloc _).alloc _ : World) = W4 at *
            generalize b ++ ⟨#[10]⟩ = o at *
            have HPo := Lib.hid (parse_any o W4 (HE.out.below HW4.out HE.out.lt) HM4.out)
            refine HPo.out.mono ?_
            rintro e w5 hpr
            obtain ⟨hb5, ⟨er', a', hs', rfl⟩ | ⟨so', r1, d1, r2, d2, r3, d3, r4, d4, r5, d5, m2, hs', rfl, k1, k2, k3⟩⟩ := hpr.cases
            · have HW6 := Lib.hid (((HW4.out.trans (hb5.mono HW4.out.size)).alloc (Nat.le_trans HW4.out.size hb5.size) (.cells #[.slice none 0 0, .slice none 0 0, .slice none 0 0, .slice none 0 0, .slice none 0 0] 27)).alloc (by simp; have := HW4.out.size; have := hb5.size; omega) (.cells #[.int .i64 (er' : Nat), .int .i64 (-1), .int .i64 (a' : Nat)] 30))
              have hS6 := heap_new _ (.cells #[.int .i64 (er' : Nat), .int .i64 (-1), .int .i64 (a' : Nat)] 30) (heap_new _ (.cells #[.slice none 0 0, .slice none 0 0, .slice none 0 0, .slice none 0 0, .slice none 0 0] 27) ((hb5.block _ (heap_lt HS4.out)).trans HS4.out))
              have hF6 := heap_new _ (.cells #[.int .i64 (er' : Nat), .int .i64 (-1), .int .i64 (a' : Nat)] 30) (heap_new _ (.cells #[.slice none 0 0, .slice none 0 0, .slice none 0 0, .slice none 0 0, .slice none 0 0] 27) ((hb5.block _ (heap_lt HF4.out)).trans HF4.out))
              obtain ⟨x0, x1, x2, x3, x4⟩ := five_cells hS6
              obtain ⟨y0, y1, y2, _⟩ := three_cells hF6
              by_cases hos : 65536 < o.size
              · have he := hs'.symm.trans (err_long hos)
                injection he with he
                have e1 : er' = 3 := congrArg Prod.fst he
                clear he
                have e3 : (((er' : Nat) : Int) == 3) = true := by rw [e1]; rfl
                clear e1 hpr hb5 hS6 hF6 hs'
                go_wp2_with fail
                go_ret
                exact ⟨rfl, HW6.out⟩
              · have he := hs'.symm.trans ((blanks_same HY.out.1 HY.out.2 HB.out.gap HL.out HO.out (by omega)).1 _ HSS.out)
                cases he
            · have hos : o.size ≤ 65536 := by
                rcases Nat.lt_or_ge 65536 o.size with p | p
                · have he := hs'.symm.trans (err_long p)
                  cases he
                · exact p
              obtain rfl : so' = so := by
                have he := hs'.symm.trans ((blanks_same HY.out.1 HY.out.2 HB.out.gap HL.out HO.out hos).1 _ HSS.out)
                injection he
              have HW6 := Lib.hid (((HW4.out.trans (hb5.mono HW4.out.size)).alloc (Nat.le_trans HW4.out.size hb5.size) (.cells #[.slice r1 so'.principals.length d1, .slice r2 so'.globals.length d2, .slice r3 so'.arrays.length d3, .slice r4 so'.channels.length d4, .slice r5 so'.funcs.length d5] 27)).alloc (by simp; have := HW4.out.size; have := hb5.size; omega) (.cells #[.int .i64 0, .int .i64 0, .int .i64 0] 30))
              have hS6 := heap_new _ (.cells #[.int .i64 0, .int .i64 0, .int .i64 0] 30) (heap_new _ (.cells #[.slice r1 so'.principals.length d1, .slice r2 so'.globals.length d2, .slice r3 so'.arrays.length d3, .slice r4 so'.channels.length d4, .slice r5 so'.funcs.length d5] 27) ((hb5.block _ (heap_lt HS4.out)).trans HS4.out))
              have hF6 := heap_new _ (.cells #[.int .i64 0, .int .i64 0, .int .i64 0] 30) (heap_new _ (.cells #[.slice r1 so'.principals.length d1, .slice r2 so'.globals.length d2, .slice r3 so'.arrays.length d3, .slice r4 so'.channels.length d4, .slice r5 so'.funcs.length d5] 27) ((hb5.block _ (heap_lt HF4.out)).trans HF4.out))
              obtain ⟨x0, x1, x2, x3, x4⟩ := five_cells hS6
              obtain ⟨y0, y1, y2, _⟩ := three_cells hF6
              have hm6 := k3.chg (((Chg.refl (fun _ => False) w5).alloc (.cells #[.slice r1 so'.principals.length d1, .slice r2 so'.globals.length d2, .slice r3 so'.arrays.length d3, .slice r4 so'.channels.length d4, .slice r5 so'.funcs.length d5] 27)).alloc (.cells #[.int .i64 0, .int .i64 0, .int .i64 0] 30)) (fun _ e => e.elim)
              have HSR := Lib.hid (source_same hm6 so' (g1.le k2.le).rows k1.rows)
              clear hpr hb5 hS6 hF6 hs' hm6 k1 k2 k3 g1 g2
              go_wp2_with fail
              go_at_call 9
              refine HSR.out.mono ?_
              rintro e w7 ⟨rfl, hc7⟩
              go_wp2_with fail
              go_ret
              exact ⟨rfl, HW6.out.trans ((hc7.below (Nat.le_refl _) (fun _ e => e.elim)).mono HW6.out.size)⟩
    · have hgt : (4000 : Int) < ((s.size : Nat) : Int) := by omega
      have hgt2 : decide (((s.size : Nat) : Int) > 4000) = true := by simp; omega
      have hgt3 : decide ((4000 : Int) < ((s.size : Nat) : Int)) = true := by simp; omega
      have HB := Lib.hid (hb1.trans (hb2.mono hb1.size))
      clear hb1 hb2 hy hy0 hrow
      go_wp2_with fail
      go_ret
      exact ⟨rfl, HB.out⟩
  · have hxe : (((x.e : Nat) : Int) != 0) = true := by simp; omega
    have HB := Lib.hid (hb1.trans (hb2.mono hb1.size))
    clear hb1 hb2 hp hx
    go_wp2_with fail
    go_ret
    exact ⟨rfl, HB.out⟩
end Go.Proofs.YtbojklbnfgopfaaGreatDoor

/- Plain: where a fault of any text stands; what each function that is read is, statement by statement. -/
namespace Go.Proofs.YtbojklbnfgopfaaGreatDoor
open Go Go.RowKit Go.Proofs.Mm

theorem its_at {s : ByteArray} {x : It} (hx : x ∈ itsOf s) : x.a ≤ s.size := by
  unfold itsOf at hx
  obtain ⟨y, hy, rfl⟩ := List.mem_map.1 hx
  show y.1.at_ ≤ s.size
  unfold allItems at hy
  split at hy
  · rw [List.mem_singleton] at hy; rw [hy]; exact Nat.zero_le _
  · unfold itemsOf at hy
    rcases List.mem_append.1 hy with hy | hy
    · obtain ⟨t, ht, e⟩ := List.mem_map.1 hy
      rw [← e]
      obtain ⟨i, hi, hti⟩ := List.getElem_of_mem ht
      have := scan_iw _ (bl s) (Nat.le_refl _) 0 i t (by rw [List.getElem?_eq_getElem hi, hti])
      rw [bl_length] at this
      show t.at_ ≤ s.size
      omega
    · split at hy
      · cases hy
      · rename_i hz
        rw [List.mem_singleton] at hy
        rw [hy]
        have := scan_end _ (bl s) (Nat.le_refl _) 0
        rw [bl_length] at this
        show (scanL (bl s) 0).2.1 ≤ s.size
        omega
theorem its_len (s : ByteArray) : (itsOf s).length ≤ 65537 := by
  unfold itsOf
  rw [List.length_map]
  unfold allItems
  split
  · simp
  · unfold itemsOf
    have h := scan_count _ (bl s) (Nat.le_refl _) 0
    rw [bl_length] at h
    rw [List.length_append, List.length_map]
    split <;> simp <;> omega
theorem src_bad {s : ByteArray} {er a : Nat} (h : srcOf s = .error (er, a)) : er ≠ 0 ∧ a ≤ s.size := by
  unfold srcOf readOf at h
  cases hf : faultOf s with
  | some q =>
    rw [hf] at h
    simp only [Except.error.injEq] at h
    subst h
    have hk := fault_kind hf
    refine ⟨by simp only at hk; omega, ?_⟩
    unfold faultOf at hf
    cases hx : (itsOf s).find? fun x => x.e != 0 with
    | none => rw [hx] at hf; cases hf
    | some x =>
      rw [hx] at hf
      simp only [Option.map_some, Option.some.injEq, Prod.mk.injEq] at hf
      rw [← hf.2]
      exact its_at (List.mem_of_find?_eq_some hx)
  | none =>
    rw [hf] at h
    simp only at h
    cases hr : Syn.source (Tk (itsOf s)) ((itsOf s).length + 1) with
    | ok q => rw [hr] at h; cases h
    | error q =>
      obtain ⟨e, k⟩ := q
      rw [hr] at h
      simp only [Except.error.injEq, Prod.mk.injEq] at h
      have hf := Syn.source_fit (tk_nones (itsOf s)) (F := (itsOf s).length + 1) (by omega)
      rw [hr] at hf
      have hfe : e = 50 ∨ e = 10 ∨ e = 74 ∨ e = 51 := hf.1
      refine ⟨by omega, ?_⟩
      rw [← h.2]
      rcases Nat.lt_or_ge k (itsOf s).length with hl | hl
      · have : tk (itsOf s) s.size k = (itsOf s)[k] := by unfold tk; rw [List.getD_eq_getElem?_getD, List.getElem?_eq_getElem hl]; rfl
        rw [this]
        exact its_at (List.getElem_mem hl)
      · rw [tk_end _ _ hl]; exact Nat.le_refl _
section
open Syn
variable {T : Nat → Option Syn.K} {F n : Nat}
theorem decls_all {P : Syn.Fn → Prop} {ns : List (List Nat)} (hP : ∀ i g j, (T i).isSome = true → func T F ns (i + 1) = .ok (g, j) → P g) : ∀ (f : Nat) (s : So) (i : Nat) (s' : So) (j : Nat), (∀ g ∈ s.funcs, P g) → declsF T F ns f s i = .ok (s', j) → ∀ g ∈ s'.funcs, P g
  | 0, _, _, _, _, _, h => by cases h
  | f + 1, s, i, s', j, hs, h => by
    rw [declsF] at h
    split at h
    · injection h with h; injection h with h1 h2
      subst h1; exact hs
    · rename_i hT
      split at h
      · obtain ⟨d, i1, h1, h⟩ := R.on_ok h
        obtain ⟨_, i2, h2, h⟩ := R.on_ok h
        exact decls_all hP f { s with globals := s.globals ++ [d] } i2 s' j hs h
      · split at h
        · obtain ⟨d, i1, h1, h⟩ := R.on_ok h
          obtain ⟨_, i2, h2, h⟩ := R.on_ok h
          exact decls_all hP f { s with channels := s.channels ++ [d] } i2 s' j hs h
        · split at h
          · obtain ⟨n, i1, h1, h⟩ := R.on_ok h
            obtain ⟨v, i2, h2, h⟩ := R.on_ok h
            obtain ⟨l, i3, h3, h⟩ := R.on_ok h
            obtain ⟨_, i4, h4, h⟩ := R.on_ok h
            exact decls_all hP f { s with arrays := s.arrays ++ [⟨n, v, l⟩] } i4 s' j hs h
          · split at h
            · obtain ⟨g, i1, h1, h⟩ := R.on_ok h
              exact decls_all hP f { s with funcs := s.funcs ++ [g] } i1 s' j (mem_snoc hs (hP i g i1 (by rw [hT]; rfl) h1)) h
            · cases h
theorem fit_le {α : Type} {r : R α} {x : α} {j : Nat} (h : Fit n r) (e : r = .ok (x, j)) : j ≤ n := by rw [e] at h; exact h
theorem func_len (hN : ∀ i, n ≤ i → T i = none) (hF : n < F) {ns : List (List Nat)} {i j : Nat} {g : Syn.Fn} (hi : i ≤ n) (h : func T F ns i = .ok (g, j)) : g.body.length ≤ n + 1 := by
  unfold func at h
  obtain ⟨s, i1, h1, h⟩ := R.on_ok h
  obtain ⟨l, i2, h2, h⟩ := R.on_ok h
  obtain ⟨ps, i3, h3, h⟩ := R.on_ok h
  obtain ⟨rs, i4, h4, h⟩ := R.on_ok h
  obtain ⟨_, i5, h5, h⟩ := R.on_ok h
  obtain ⟨vs, i6, h6, h⟩ := R.on_ok h
  obtain ⟨b, i7, h7, h⟩ := R.on_ok h
  obtain ⟨es, i8, h8, h⟩ := R.on_ok h
  obtain ⟨_, i9, h9, h⟩ := R.on_ok h
  injection h with h; injection h with h10 h11
  subst h10
  have f1 := fit_le (name_fit hN hi) h1
  have f2 := fit_le (label_fit hN hF ns f1) h2
  have f3 := fit_le (row_fit hN hF (decl_fitP hN hF ns) f2) h3
  have f4 := fit_le (row_fit hN hF (label_fitP hN hF ns) f3) h4
  have f5 := fit_le (want_fit hN _ f4) h5
  have f6 := fit_le (varsF_fit hN hF ns F _ i5 f5 (by omega)) h6
  have f7 := fit_le (stmtsF_fit hN (stmt_fit hN hF 12) (stmt_good 12) _ F _ i6 f6 (by omega)) h7
  rw [stmtsF_split (by decide) (by decide) (by decide) (stmtD_no 12)] at h7
  obtain ⟨l1, i', hst, hw⟩ := R.on_ok h7
  obtain ⟨_, i'', hw1, hw2⟩ := R.on_ok hw
  injection hw2 with hw2; injection hw2 with e1 e2
  have e3 := (want_ok hw1).2
  have hc := stF_cnt (stmtD_cnt 12) _ _ _ _ _ hst
  subst e1
  simp only [List.length_nil] at hc
  rw [List.length_append]
  simp only [List.length_cons, List.length_nil]
  omega
end
/-- What is asked of each function that is read. -/
structure FnG (g : Syn.Fn) : Prop where
  len : g.body.length ≤ 65538
  pos : 0 < g.body.length
  ends : (Syn.endsM (g.body.map Syn.St.kind)).isSome = true
  last : ∀ k (h : k < g.body.length), g.body[k].kind = 9 ↔ k = g.body.length - 1
  low : ∀ k (h : k < g.body.length), 1 ≤ g.body[k].kind ∧ g.body[k].kind ≤ 9
  one : ∀ k (h : k < g.body.length), g.body[k].kind = 1 ∨ g.body[k].kind = 3 ∨ g.body[k].kind = 5 ∨ g.body[k].kind = 7 → g.body[k].exprs.length = 1
  two : ∀ k (h : k < g.body.length), g.body[k].kind = 2 → g.body[k].exprs.length = 2
  none : ∀ k (h : k < g.body.length), g.body[k].kind = 6 ∨ g.body[k].kind = 8 → g.body[k].exprs.length = 0
  target : ∀ k (h : k < g.body.length), g.body[k].kind = 1 → g.body[k].targets.length = 1
  whole : ∀ k (h : k < g.body.length), ∀ e ∈ g.body[k].exprs, Syn.Wh e
theorem FnOk.good {g : Syn.Fn} (h : Syn.FnOk g) (hl : g.body.length ≤ 65538) : FnG g := by
  have he := Syn.FnOk.ends h
  obtain ⟨b, es, hb, hs, _, hw⟩ := h
  have hlen : g.body.length = b.length + 1 := by rw [hb, List.length_append]; rfl
  have hat : ∀ k (hk : k < g.body.length), (k < b.length ∧ Syn.StOk g.body[k]) ∨ (k = b.length ∧ g.body[k] = ⟨9, [], [], es⟩) := by
    intro k hk
    rcases Nat.lt_or_ge k b.length with h | h
    · refine .inl ⟨h, ?_⟩
      have e : g.body[k] = b[k] := by simp only [hb, List.getElem_append_left h]
      rw [e]
      exact hs _ (List.getElem_mem h)
    · have : k = b.length := by omega
      subst this
      exact .inr ⟨rfl, by simp [hb]⟩
  refine ⟨hl, by omega, he, ?_, ?_, ?_, ?_, ?_, ?_, ?_⟩
  all_goals intro k hk
  all_goals rcases hat k hk with ⟨h1, h2⟩ | ⟨h1, h2⟩
  · constructor
    · intro e; have := h2.high; omega
    · intro e; omega
  · rw [h2]; simp; omega
  · have := h2.low; have := h2.high; omega
  · rw [h2]; simp
  · exact h2.one
  · rw [h2]; simp
  · exact h2.two
  · rw [h2]; simp
  · exact h2.none
  · rw [h2]; simp
  · exact h2.target
  · rw [h2]; simp
  · exact h2.whole
  · rw [h2]; exact hw
theorem src_fns {s : ByteArray} {so : Syn.So} (h : srcOf s = .ok so) : ∀ g ∈ so.funcs, FnG g := by
  unfold srcOf readOf at h
  cases hf : faultOf s with
  | some q => rw [hf] at h; cases h
  | none =>
    rw [hf] at h
    simp only at h
    cases hr : Syn.source (Tk (itsOf s)) ((itsOf s).length + 1) with
    | error q => rw [hr] at h; cases h
    | ok q =>
      obtain ⟨x, j⟩ := q
      rw [hr] at h
      simp only [Except.ok.injEq] at h
      subst h
      have hg := Syn.source_good hr
      unfold Syn.source at hr
      obtain ⟨ns, i1, h1, hr⟩ := Syn.R.on_ok hr
      have hl := decls_all (P := fun (g : Syn.Fn) => g.body.length ≤ (itsOf s).length + 1) (fun i g j hT hfn => func_len (tk_nones _) (by omega) (by
        rcases Nat.lt_or_ge i (itsOf s).length with h | h
        · exact h
        · rw [tk_nones _ i h] at hT; cases hT) hfn) _ _ _ _ _ (fun _ hx => (by cases hx)) hr
      intro g hgm
      have := hl g hgm
      have := its_len s
      exact FnOk.good (hg g hgm) (by omega)
end Go.Proofs.YtbojklbnfgopfaaGreatDoor

/- whole of the statements: a whole expression is one. -/
namespace Go.Proofs.YtbojklbnfgopfaaGreatDoor
open Go Go.RowKit Go.Proofs.Mm

theorem tm_step {t : Syn.Tm} {r : List Syn.Tm} {v : Nat} (h : Syn.run (t :: r) v = some 1) :
    ((t.kind = 1 ∨ t.kind = 2) ∧ Syn.run r (v + 1) = some 1) ∨ (t.kind = 3 ∧ 1 ≤ v ∧ Syn.run r v = some 1) ∨ (t.kind = 4 ∧ (15 ≤ t.value ∧ t.value ≤ 17) ∧ 1 ≤ v ∧ Syn.run r v = some 1) ∨ (t.kind = 5 ∧ (1 ≤ t.value ∧ t.value ≤ 14) ∧ 2 ≤ v ∧ Syn.run r (v - 1) = some 1) := by
  rw [Syn.run] at h
  split at h
  · rename_i h1; exact .inl ⟨h1, h⟩
  · split at h
    · rename_i h1
      split at h
      · cases h
      · rename_i h2
        rcases h1 with h1 | h1
        · exact .inr (.inl ⟨h1, by omega, h⟩)
        · exact .inr (.inr (.inl ⟨h1.1, h1.2, by omega, h⟩))
    · split at h
      · rename_i h1
        split at h
        · cases h
        · rename_i h2; exact .inr (.inr (.inr ⟨h1.1, h1.2, by omega, h⟩))
      · cases h
set_option maxRecDepth 100000 in
set_option maxHeartbeats 4000000 in
theorem whole_true {w : World} {q : Option Addr} {n c : Nat} (l : List Syn.Tm) (hn : l.length = n) (h : RdR w q (tmCells l)) (hw : Syn.Wh l) (hmax : n ≤ 9223372036854775807) :
    Calls Tryz.prog 12 #[.slice q n c] w fun e w' => e = .returned (.bool true) ∧ w' = w := by
  have HN := Lib.hid hn
  have HA := Lib.hid h
  have H0 := Lib.hid (show Syn.run (l.drop 0) 0 = some 1 from hw.run)
  clear h hn hw
  go_enter Tryz.func12, Tryz.ntmps12
  go_wp2
  go_loopw [3, 4] (fun nv i wr => ∃ k v : Nat, k ≤ n ∧ i = .int .i64 k ∧ nv = .int .i64 v ∧ v ≤ k ∧ Hid (Syn.run (l.drop k) v = some 1) ∧ wr = w) (fun _ i _ => n - (intOf i).toNat)
  case atStart => exact ⟨0, 0, Nat.zero_le _, rfl, rfl, Nat.le_refl _, H0, rfl⟩
  case round =>
    obtain ⟨k, v, hk, rfl, rfl, hvk, HR, rfl⟩ := hrel
    by_cases hlt : k < n
    · have hk' : k < l.length := by rw [HN.out]; exact hlt
      obtain ⟨g, rfl, a1, a2, a3⟩ := rd_tm HA.out k hk'
      have hr := HR.out
      rw [List.drop_eq_getElem_cons hk'] at hr
      have hki : (k : Int) < (n : Int) := by omega
      rcases tm_step hr with ⟨h1, h2⟩ | ⟨h1, h2, h3⟩ | ⟨h1, h4, h2, h3⟩ | ⟨h1, h4, h2, h3⟩
      · have HX := Lib.hid h2
        rcases h1 with h1 | h1
        all_goals
          rw [h1] at a1
          clear h1 h2 hr a2 a3
          go_wp2_with fail
          exact ⟨⟨k + 1, v + 1, by omega, by go_num, by go_num, by omega, HX, trivial⟩, by simp [intOf]; omega⟩
      · have HX := Lib.hid h3
        rw [h1] at a1
        have d1 : ¬ ((v : Int) < 1) := by omega
        have d2 : decide ((v : Int) < 1) = false := by simp; omega
        clear h1 h3 hr a2 a3
        go_wp2_with fail
        exact ⟨⟨k + 1, v, by omega, by go_num, rfl, by omega, HX, trivial⟩, by simp [intOf]; omega⟩
      · have HX := Lib.hid h3
        rw [h1] at a1
        generalize l[k].value = vl at *
        have d1 : ¬ ((v : Int) < 1) := by omega
        have d2 : decide ((v : Int) < 1) = false := by simp; omega
        have d3 : ¬ ((vl : Int) < 15) := by omega
        have d4 : decide ((vl : Int) < 15) = false := by simp; omega
        have d5 : ¬ ((17 : Int) < (vl : Int)) := by omega
        have d6 : decide ((17 : Int) < (vl : Int)) = false := by simp; omega
        clear h1 h3 hr a3
        go_wp2_with fail
        exact ⟨⟨k + 1, v, by omega, by go_num, rfl, by omega, HX, trivial⟩, by simp [intOf]; omega⟩
      · have HX := Lib.hid h3
        rw [h1] at a1
        generalize l[k].value = vl at *
        have d0 : ((v : Int) - 1) = ((v - 1 : Nat) : Int) := by omega
        have d1 : ¬ ((v : Int) - 1 < 1) := by omega
        have d2 : decide ((v : Int) - 1 < 1) = false := by simp; omega
        have d3 : ¬ ((vl : Int) < 1) := by omega
        have d4 : decide ((vl : Int) < 1) = false := by simp; omega
        have d5 : ¬ ((14 : Int) < (vl : Int)) := by omega
        have d6 : decide ((14 : Int) < (vl : Int)) = false := by simp; omega
        have D0 := Lib.hid d0
        clear h1 h3 hr a3 d0
        go_wp2_with fail
        exact ⟨⟨k + 1, v - 1, by omega, by go_num, by rw [← D0.out], by omega, HX, trivial⟩, by simp [intOf]; omega⟩
    · obtain rfl : k = n := by omega
      have hr := HR.out
      rw [← HN.out, List.drop_length] at hr
      obtain rfl : v = 1 := by rw [Syn.run] at hr; injection hr
      have hki : ¬ (k : Int) < (k : Int) := by omega
      clear hr
      go_wp2_with fail
      go_ret
      exact ⟨rfl, rfl⟩
end Go.Proofs.YtbojklbnfgopfaaGreatDoor

/- math/bits.Mul of 1 and a number; slices.Repeat of one number; slices.Clone of numbers. -/
namespace Go.Proofs.YtbojklbnfgopfaaGreatDoor
open Go Go.RowKit Go.Proofs.Mm

set_option maxRecDepth 100000 in
theorem mul64_one (n : Nat) (hn : n ≤ 140737488355328) (w : World) : Calls Tryz.prog 73 #[.int .u64 1, .int .u64 (n : Nat)] w fun e w' => e = .returned (.tuple #[.int .u64 0, .int .u64 (n : Nat)]) ∧ w = w' := by
  have e1 : bits BinOp.and IntKind.u64 1 4294967295 = 1 := by
    have := bits_and_u64_nat 1 4294967295 (by decide) (by decide)
    exact this
  have e2 : bits BinOp.and IntKind.u64 (n : Int) 4294967295 = ((n % 4294967296 : Nat) : Int) := by
    have := bits_and_u64_nat n 4294967295 (by omega) (by decide)
    rw [show n &&& 4294967295 = n % 4294967296 from Nat.and_two_pow_sub_one_eq_mod n 32] at this
    exact this
  have e3 : bits BinOp.and IntKind.u64 0 4294967295 = 0 := by
    have := bits_and_u64_nat 0 4294967295 (by decide) (by decide)
    exact this
  have E1 := Lib.hid e1
  have E2 := Lib.hid e2
  have E3 := Lib.hid e3
  clear e1 e2 e3
  go_enter Tryz.func73, Tryz.ntmps73
  go_wp2
  go_ret2
  refine ⟨?_, rfl⟩
  have e4 : IntKind.u64.wrap (IntKind.u64.wrap (1 * ((n % 4294967296 : Nat) : Int)) / 4294967296) = 0 := by rw [IntKind.wrap_u64, IntKind.wrap_u64]; omega
  have e5 : IntKind.u64.wrap (0 + IntKind.u64.wrap (1 * ((n : Int) / 4294967296))) / 4294967296 = 0 := by rw [IntKind.wrap_u64, IntKind.wrap_u64]; omega
  have e6 : IntKind.u64.wrap (IntKind.u64.wrap (1 * ((n % 4294967296 : Nat) : Int)) / 4294967296) / 4294967296 = 0 := by rw [e4]; rfl
  rw [E1.out, E2.out, e6, e4, E3.out, e5]
  rfl
set_option maxRecDepth 100000 in
theorem mul_one (n : Nat) (hn : n ≤ 140737488355328) (w : World) : Calls Tryz.prog 48 #[.int .u64 1, .int .u64 (n : Nat)] w fun e w' => e = .returned (.tuple #[.int .u64 0, .int .u64 (n : Nat)]) ∧ w = w' := by
  have h1 := Lib.hid (mul64_one n hn w)
  go_enter Tryz.func48, Tryz.ntmps48
  go_wp2_with (go_at_call 73; refine h1.out.mono ?_; rintro e w' ⟨rfl, rfl⟩)
  go_ret2
  exact ⟨rfl, rfl⟩
def negs (n m : Nat) : List Value := List.replicate m (.int .i64 (-1)) ++ List.replicate (n - m) (.int .i64 0)
theorem negs_len {n m : Nat} (h : m ≤ n) : (negs n m).length = n := by simp [negs]; omega
theorem negs_splice {n m c : Nat} (_h : m + c ≤ n) : splice (negs n m) m (List.replicate c (.int .i64 (-1))) = negs n (m + c) := by
  unfold splice negs
  rw [List.take_append_of_le_length (by simp), List.take_of_length_le (by simp), List.drop_append, List.drop_eq_nil_of_le (by simp), List.nil_append, List.drop_replicate, ← List.append_assoc, List.replicate_append_replicate]
  congr 2
  simp
  omega
theorem mk_ints (n : Nat) (hn : n ≤ 1000000) (w : World) : (Instr.makeSlice 42 (.int .i64 (n : Int)) (.int .i64 (n : Int))).run Tryz.prog w = .ok (.slice (some ⟨w.heap.size, 0, none⟩) n n) (w.alloc (.cells (negs n 0).toArray 3)) := by
  have h := run_make_row' (P := Tryz.prog) 42 3 (.int .i64 0) 8 (by kernel_rfl) (by kernel_rfl) rfl .i64 .i64 n (by omega) (by omega) w
  rw [h, show madeCells #[.int .i64 0] n = (negs n 0).toArray from by rw [← Array.toList_inj, toList_madeCells_one]; simp [negs]]
def RepI (w : World) (n : Nat) (i : Value) (wr : World) : Prop := ∃ m : Nat, m ≤ n ∧ (n = 0 ∨ 0 < m) ∧ i = .int .i64 m ∧ Hid (wr.heap[w.heap.size]? = some (.cells (negs n m).toArray 3 (0, 0))) ∧ Hid (Below w.heap.size w wr)
theorem stopAt {P : Program} {w : World} {ops : Array Oper} {rest : List Oper} {a : Act} {Q : Exit → Act → World → Prop} (n : Nat) {op : Op} {ty : TypeId} {pos : String} {after : Array Edge} {g : Option (Nat × Bool)} (h : Hid (wpList P ops Q (⟨some n, op, ty, pos, after, g⟩ :: rest) a w)) : wpList P ops Q (⟨some n, op, ty, pos, after, g⟩ :: rest) a w := h
set_option maxRecDepth 100000 in
set_option maxHeartbeats 1000000 in
theorem repeat_any (n : Nat) (hn : n ≤ 1000000) (w : World) (g : Nat) (hg : w.cell? ⟨g, 0, none⟩ = some (.int .i64 (-1))) : Calls Tryz.prog 25 #[.slice (some ⟨g, 0, none⟩) 1 1, .int .i64 (n : Nat)] w fun e w' => e = .returned (.slice (some ⟨w.heap.size, 0, none⟩) n n) ∧ w'.heap[w.heap.size]? = some (.cells (negs n n).toArray 3 (0, 0)) ∧ Below w.heap.size w w' := by
  have HMU := Lib.hid (mul_one n (by omega) w)
  have hmk := mk_ints n hn w
  obtain ⟨W1, hW1⟩ : ∃ W1, w.alloc (.cells (negs n 0).toArray 3) = W1 := ⟨_, rfl⟩
  have HA := Lib.hid (show W1.heap[w.heap.size]? = some (.cells (negs n 0).toArray 3 (0, 0)) by rw [← hW1]; exact World.alloc_heap_new w _)
  have HB := Lib.hid (show Below w.heap.size w W1 by rw [← hW1]; exact (Below.refl _ _).alloc (Nat.le_refl _) _)
  have HG := Lib.hid (show W1.cell? ⟨g, 0, none⟩ = some (.int .i64 (-1)) by rw [← hW1]; exact cell_kept hg (World.grownBy_alloc w _ none) (fun r e => by cases e))
  rw [hW1] at hmk
  obtain ⟨c1, hc1⟩ : ∃ c1, Nat.min 1 n = c1 := ⟨_, rfl⟩
  have HC := Lib.hid (show c1 ≤ n ∧ (n = 0 ∨ 0 < c1) ∧ c1 ≤ 1 by rw [← hc1]; simp only [Nat.min_def]; split <;> omega)
  have HC2 := Lib.hid hc1
  clear hg hW1 hc1
  have hw1 : IntKind.u64.wrap (n : Int) = n := by rw [IntKind.wrap_u64]; omega
  have hw2 : IntKind.i64.wrap (n : Int) = n := by rw [IntKind.wrap_i64]; omega
  have hn0 : ¬ ((n : Int) < 0) := by omega
  have hn1 : ¬ (9223372036854775807 < (n : Int)) := by omega
  go_enter Tryz.func25, Tryz.ntmps25
  go_wp2_with (first
    | (go_at_call 48; refine HMU.out.mono ?_; rintro e w' ⟨rfl, rfl⟩)
    | (with_reducible refine stopAt 33 ?_))
  show wpList _ _ _ _ _ _
  refine wpList_copy_splice rfl (.tmp 31) (.tmp 32) 42 42 rfl 3 (by kernel_rfl) (by kernel_rfl) (some ⟨w.heap.size, 0, none⟩) (some ⟨g, 0, none⟩) n n 1 1 rfl rfl w.heap.size 0 (negs n 0) 3 HA.out (List.replicate c1 (.int .i64 (-1))) (by rw [List.length_replicate]; exact HC2.out.symm) (fun _ => ⟨rfl, ⟨g, 0, none⟩, rfl, fun j v hv => by
        have hj : j < c1 := by have := (List.getElem?_eq_some_iff.1 hv).1; simpa using this
        have hv' : v = .int .i64 (-1) := by rw [List.getElem?_replicate, if_pos hj] at hv; exact (Option.some.inj hv).symm
        obtain rfl : j = 0 := by have := HC.out.2.2; omega
        rw [hv']; exact HG.out⟩) (by rw [List.length_replicate, negs_len (Nat.zero_le _)]; have := HC.out.1; omega) (by intro v hv; rw [List.eq_of_mem_replicate hv]; rfl) w.heap.size w HB.out (Nat.le_refl _) ?_
  intro w2 hw2r hw2b
  have HR := Lib.hid (show w2.heap[w.heap.size]? = some (.cells (negs n c1).toArray 3 (0, 0)) by
    have h := hw2r.out
    rw [negs_splice (by have := HC.out.1; omega), Nat.zero_add] at h
    exact h)
  clear hw2r
  have HB2 := Lib.hid hw2b
  clear hw2b
  rw [List.length_replicate]
  go_wp2
  go_loopw [8] (RepI w n) (fun i _ => n - (intOf i).toNat)
  case atStart => exact ⟨c1, HC.out.1, HC.out.2.1, rfl, HR, HB2⟩
  case round =>
    obtain ⟨m, hm, hm0, rfl, hR, hB⟩ := hrel
    by_cases hmn : m < n
    · have hmn' : (m : Int) < (n : Int) := by omega
      obtain ⟨c, hc⟩ : ∃ c, Nat.min m (n - m) = c := ⟨_, rfl⟩
      have HC3 := Lib.hid (show c ≤ m ∧ c ≤ n - m ∧ 0 < c by rw [← hc]; simp only [Nat.min_def]; split <;> omega)
      have HC4 := Lib.hid (show (List.replicate c (Value.int .i64 (-1))).length = Nat.min m (n - m) by rw [List.length_replicate, hc])
      have HC5 := Lib.hid (show m + (List.replicate c (Value.int .i64 (-1))).length ≤ (negs n m).length by rw [List.length_replicate, negs_len hm]; have := HC3.out; omega)
      have HC6 := Lib.hid (show ∀ v ∈ List.replicate c (Value.int .i64 (-1)), v.oneCell' = true by intro v hv; rw [List.eq_of_mem_replicate hv]; rfl)
      have HC7 := Lib.hid (show ∀ j v, (List.replicate c (Value.int .i64 (-1)))[j]? = some v → wr.drew.cell? ((⟨w.heap.size, 0, none⟩ : Addr).add j) = some v from fun j v hv => by
        have hj : j < c := by have := (List.getElem?_eq_some_iff.1 hv).1; simpa using this
        have hv' : v = .int .i64 (-1) := by rw [List.getElem?_replicate, if_pos hj] at hv; exact (Option.some.inj hv).symm
        have h1 := HC3.out.1
        rw [show ((⟨w.heap.size, 0, none⟩ : Addr).add j) = ⟨w.heap.size, j, none⟩ from by simp [Addr.add]; intro h; exact h.symm]
        refine cell_of (show wr.drew.heap[w.heap.size]? = _ from hR.out) ?_
        rw [hv', List.getElem?_toArray, negs, List.getElem?_append_left (by simp; omega), List.getElem?_replicate, if_pos (by omega)])
      have HR8 := Lib.hid (show wr.drew.heap[w.heap.size]? = _ from hR.out)
      have HB8 := Lib.hid (show Below w.heap.size w wr.drew from hB.out.drew)
      have e1 : ¬ (n - m = 0) := by omega
      have e4 : ¬ n = m := by omega
      have e2 : (m : Int) ≤ (n : Int) := by omega
      have e3 : ¬ ((m : Int) < 0) := by omega
      go_wp2
      go_region_law (refine step_copy_splice rfl (.tmp 41) (.tmp 44) 42 42 rfl 3 (by kernel_rfl) (by kernel_rfl) (some ⟨w.heap.size, m, none⟩) (some ⟨w.heap.size, 0, none⟩) (n - m) (n - m) m n (by simp [Act.eval, Act.put]) (by simp [Act.eval, Act.put]) w.heap.size m (negs n m) 3 HR8.out (List.replicate c (.int .i64 (-1))) HC4.out (fun _ => ⟨rfl, _, rfl, HC7.out⟩) HC5.out HC6.out w.heap.size w HB8.out (Nat.le_refl _) ?_; intro w3 hw3r hw3b)
      have HR9 := Lib.hid (show w3.heap[w.heap.size]? = some (.cells (negs n (m + c)).toArray 3 (0, 0)) by
        have h := hw3r.out
        rw [negs_splice (by have := HC3.out; omega)] at h
        exact h)
      have HB9 := Lib.hid hw3b
      clear hw3r hw3b
      have hmw : IntKind.i64.wrap ((m : Int) + (c : Int)) = (m : Int) + (c : Int) := by rw [IntKind.wrap_i64]; have := HC3.out; omega
      rw [hmw]
      go_wp2
      try simp only [Act.put]
      try simp
      exact ⟨⟨m + c, by have := HC3.out; omega, by have := HC3.out; omega, by go_num, HR9, HB9⟩, by have := HC3.out; simp [intOf]; omega⟩
    · obtain rfl : m = n := by omega
      go_wp2
      go_ret
      exact ⟨rfl, hR.out, hB.out⟩
end Go.Proofs.YtbojklbnfgopfaaGreatDoor

/- Plain: where blocks end, as a row of the open ones alone keeps it (an if stays open behind its else), comes to the same. -/
namespace Go.Proofs.Syn

def gI (l : List Int) (t : Nat) : Int := (l[t]?).getD (-1)
theorem gI_set (l : List Int) (t : Nat) (v : Int) (s : Nat) (ht : t < l.length) : gI (l.set t v) s = if s = t then v else gI l s := by
  unfold gI
  rw [List.getElem?_set]
  by_cases h : t = s
  · subst h; simp [ht]
  · rw [if_neg h, if_neg (Ne.symm h)]
theorem gI_neg (n t : Nat) : gI (List.replicate n (-1)) t = -1 := by
  unfold gI
  rw [List.getElem?_replicate]
  split <;> rfl
theorem gI_out {l : List Int} {t : Nat} (h : l.length ≤ t) : gI l t = -1 := by unfold gI; rw [List.getElem?_eq_none h]; rfl
theorem gI_at {l : List Int} {t : Nat} (h : t < l.length) : l[t]? = some (gI l t) := by unfold gI; rw [List.getElem?_eq_getElem h]; rfl
theorem gI_via (es ls : List Int) (h : es.length = ls.length) (s : Nat) (hs : s < ls.length) : (viaElse es ls)[s]? = some (if 0 ≤ gI ls s then gI es (gI ls s).toNat else gI es s) := by
  unfold viaElse
  rw [List.getElem?_map, (List.getElem?_zip_eq_some (z := (gI es s, gI ls s))).2 ⟨gI_at (h ▸ hs), gI_at hs⟩]
  rfl
/-- What the SEnd at i sets. -/
def closeP (E L : List Int) (t i : Nat) : List Int := if 0 ≤ gI L t then (E.set t i).set (gI L t).toNat i else E.set t i
def goP (ks : List Nat) : List Nat → Nat → List Nat → List Int → List Int → Option (List Int × List Int)
  | [], _, op, E, L => if op = [] then some (E, L) else none
  | k :: r, i, op, E, L =>
    if k = 5 ∨ k = 7 then goP ks r (i + 1) (i :: op) E L
    else if k = 6 then
      match op with
      | t :: op' => if ks[t]? = some 5 ∧ gI L t < 0 then goP ks r (i + 1) (t :: op') E (L.set t i) else none
      | [] => none
    else if k = 8 then
      match op with
      | t :: op' => goP ks r (i + 1) op' (closeP E L t i) L
      | [] => none
    else goP ks r (i + 1) op E L
theorem goP_nil (ks : List Nat) (i : Nat) (op : List Nat) (E L : List Int) : goP ks [] i op E L = if op = [] then some (E, L) else none := by rw [goP.eq_def]
theorem goP_cons (ks : List Nat) (k : Nat) (r : List Nat) (i : Nat) (op : List Nat) (E L : List Int) : goP ks (k :: r) i op E L =
    if k = 5 ∨ k = 7 then goP ks r (i + 1) (i :: op) E L
    else if k = 6 then
      match op with
      | t :: op' => if ks[t]? = some 5 ∧ gI L t < 0 then goP ks r (i + 1) (t :: op') E (L.set t i) else none
      | [] => none
    else if k = 8 then
      match op with
      | t :: op' => goP ks r (i + 1) op' (closeP E L t i) L
      | [] => none
    else goP ks r (i + 1) op E L := by rw [goP.eq_def]

structure EI (ks : List Nat) (i : Nat) (op : List Nat) (E L es : List Int) : Prop where
  le : E.length = ks.length
  ll : L.length = ks.length
  ls : es.length = ks.length
  hi : i ≤ ks.length
  via : ∀ s, gI E s = if 0 ≤ gI L s then gI es (gI L s).toNat else gI es s
  lt : ∀ t ∈ op, t < i ∧ gI es t = -1 ∧ (ks[t]? = some 5 ∨ ks[t]? = some 7)
  ord : op.Pairwise (fun a b => b < a)
  new : ∀ j, i ≤ j → gI es j = -1
  els : ∀ s, 0 ≤ gI L s → (gI L s).toNat < i ∧ ks[(gI L s).toNat]? = some 6 ∧ ks[s]? = some 5 ∧ s < i
  one : ∀ s s', 0 ≤ gI L s → gI L s = gI L s' → s = s'
def opE (L : List Int) (t : Nat) : Nat := if 0 ≤ gI L t then (gI L t).toNat else t

theorem EI.start (ks : List Nat) : EI ks 0 [] (List.replicate ks.length (-1)) (List.replicate ks.length (-1)) (List.replicate ks.length (-1)) :=
  ⟨by simp, by simp, by simp, Nat.zero_le _, fun s => by simp [gI_neg], by simp, .nil, fun j _ => gI_neg _ _, fun s h => by rw [gI_neg] at h; omega, fun s s' h => by rw [gI_neg] at h; omega⟩
theorem EI.skip {ks : List Nat} {i : Nat} {op : List Nat} {E L es : List Int} (h : EI ks i op E L es) (hi : i < ks.length) : EI ks (i + 1) op E L es :=
  ⟨h.le, h.ll, h.ls, hi, h.via, fun t ht => ⟨by have := (h.lt t ht).1; omega, (h.lt t ht).2⟩, h.ord, fun j hj => h.new j (by omega), fun s hs => by obtain ⟨a, b, c, d⟩ := h.els s hs; exact ⟨by omega, b, c, by omega⟩, h.one⟩
theorem EI.push {ks : List Nat} {i : Nat} {op : List Nat} {E L es : List Int} (h : EI ks i op E L es) (hi : i < ks.length) (hk : ks[i]? = some 5 ∨ ks[i]? = some 7) : EI ks (i + 1) (i :: op) E L es :=
  have h' := h.skip hi
  ⟨h.le, h.ll, h.ls, hi, h.via, fun t ht => by
    rcases List.mem_cons.1 ht with rfl | ht
    · exact ⟨by omega, h.new _ (Nat.le_refl _), hk⟩
    · exact h'.lt t ht, List.pairwise_cons.2 ⟨fun b hb => (h.lt b hb).1, h.ord⟩, h'.new, h'.els, h.one⟩
theorem EI.put {ks : List Nat} {i t : Nat} {op : List Nat} {E L es : List Int} (h : EI ks i (t :: op) E L es) (hi : i < ks.length) (hk : ks[i]? = some 6) (ht : ks[t]? = some 5) (hn : gI L t < 0) : EI ks (i + 1) (t :: op) E (L.set t i) es := by
  obtain ⟨a1, a2, a3⟩ := h.lt t (by simp)
  have hti : t < L.length := by rw [h.ll]; omega
  have hg : ∀ s, gI (L.set t i) s = if s = t then (i : Int) else gI L s := fun s => gI_set L t i s hti
  refine ⟨h.le, by rw [List.length_set]; exact h.ll, h.ls, hi, ?_, (h.skip hi).lt, h.ord, (h.skip hi).new, ?_, ?_⟩
  · intro s
    rw [hg]
    by_cases hs : s = t
    · subst hs
      rw [if_pos rfl, if_pos (by omega), h.via s, if_neg (by omega), a2]
      rw [show ((i : Int)).toNat = i from by omega, h.new i (Nat.le_refl _)]
    · rw [if_neg hs]; exact h.via s
  · intro s hs
    rw [hg] at hs ⊢
    by_cases he : s = t
    · subst he
      rw [if_pos rfl]
      rw [show ((i : Int)).toNat = i from by omega]
      exact ⟨by omega, hk, ht, by omega⟩
    · rw [if_neg he] at hs ⊢
      exact (h.skip hi).els s hs
  · intro s s' hs he
    rw [hg] at hs
    rw [hg, hg] at he
    by_cases h1 : s = t
    · by_cases h2 : s' = t
      · omega
      · rw [if_pos h1, if_neg h2] at he
        have := (h.els s' (by omega)).1
        omega
    · rw [if_neg h1] at hs he
      by_cases h2 : s' = t
      · rw [if_pos h2] at he
        have := (h.els s hs).1
        omega
      · rw [if_neg h2] at he
        exact h.one s s' hs he
theorem closeP_len (E L : List Int) (t i : Nat) : (closeP E L t i).length = E.length := by unfold closeP; split <;> simp
theorem EI.pop {ks : List Nat} {i t : Nat} {op : List Nat} {E L es : List Int} (h : EI ks i (t :: op) E L es) (hi : i < ks.length) : EI ks (i + 1) op (closeP E L t i) L (es.set (opE L t) i) := by
  obtain ⟨a1, a2, a3⟩ := h.lt t (by simp)
  have hto : opE L t < i := by
    unfold opE
    split
    · exact (h.els t (by assumption)).1
    · exact a1
  have hg : ∀ s, gI (es.set (opE L t) i) s = if s = opE L t then (i : Int) else gI es s := fun s => gI_set es _ i s (by rw [h.ls]; omega)
  have h6 : ∀ s, 0 ≤ gI L s → ∀ t', (ks[t']? = some 5 ∨ ks[t']? = some 7) → (gI L s).toNat ≠ t' := by
    intro s hs t' ht' e
    have := (h.els s hs).2.1
    rw [e] at this
    rcases ht' with h | h <;> (rw [this] at h; cases h)
  refine ⟨by rw [closeP_len]; exact h.le, h.ll, by rw [List.length_set]; exact h.ls, hi, ?_, ?_, (List.pairwise_cons.1 h.ord).2, ?_, (h.skip hi).els, h.one⟩
  · intro s
    rw [hg, hg]
    unfold closeP opE
    by_cases hu : 0 ≤ gI L t
    · simp only [if_pos hu]
      obtain ⟨b1, b2, b3, b4⟩ := h.els t hu
      rw [gI_set _ _ _ _ (by rw [List.length_set, h.le]; omega), gI_set _ _ _ _ (by rw [h.le]; omega)]
      have hun : gI L (gI L t).toNat < 0 := by
        refine Int.not_le.1 fun hc => ?_
        have := (h.els _ hc).2.2.1
        rw [b2] at this; cases this
      by_cases hs1 : s = (gI L t).toNat
      · subst hs1
        rw [if_pos rfl, if_neg (by omega), if_pos rfl]
      · rw [if_neg hs1, if_neg hs1]
        by_cases hs2 : s = t
        · subst hs2
          rw [if_pos rfl, if_pos hu, if_pos rfl]
        · rw [if_neg hs2, h.via s]
          split
          · rename_i hs
            rw [if_neg]
            intro e
            exact hs2 (h.one s t hs (by omega))
          · rfl
    · simp only [if_neg hu]
      rw [gI_set _ _ _ _ (by rw [h.le]; omega)]
      by_cases hs2 : s = t
      · subst hs2
        rw [if_pos rfl, if_neg hu, if_pos rfl]
      · rw [if_neg hs2, if_neg hs2, h.via s]
        split
        · rename_i hs
          rw [if_neg (h6 s hs t a3)]
        · rfl
  · intro t' ht'
    obtain ⟨c1, c2, c3⟩ := h.lt t' (by simp [ht'])
    refine ⟨by omega, ?_, c3⟩
    rw [hg, if_neg, c2]
    unfold opE
    split
    · rename_i hu
      exact fun e => h6 t hu t' c3 e.symm
    · have := (List.pairwise_cons.1 h.ord).1 t' ht'
      omega
  · intro j hj
    rw [hg, if_neg (by omega)]
    exact h.new j (by omega)

theorem dec_len : ∀ (op : List Nat) (i : Nat), op.Pairwise (fun a b => b < a) → (∀ t ∈ op, t < i) → op.length ≤ i
  | [], _, _, _ => Nat.zero_le _
  | t :: op, i, h, hl => by
    have h1 := dec_len op t (List.pairwise_cons.1 h).2 (List.pairwise_cons.1 h).1
    have h2 := hl t (by simp)
    simp only [List.length_cons]
    omega
theorem EI.len {ks : List Nat} {i : Nat} {op : List Nat} {E L es : List Int} (h : EI ks i op E L es) : op.length ≤ i := dec_len op i h.ord (fun t ht => (h.lt t ht).1)

theorem map_opE_put {L : List Int} {t i : Nat} {op : List Nat} (hlt : t < L.length) (ho : ∀ b ∈ op, b < t) : op.map (opE (L.set t i)) = op.map (opE L) := by
  refine List.map_congr_left fun b hb => ?_
  have e : gI (L.set t i) b = gI L b := by rw [gI_set L t i b hlt, if_neg (by have := ho b hb; omega)]
  unfold opE
  rw [e]

theorem goP_goE (ks : List Nat) : ∀ (r : List Nat) (i : Nat) (op : List Nat) (E L es : List Int), ks.drop i = r → EI ks i op E L es →
    goP ks r i op E L = (goE ks r i (op.map (opE L)) es L).map fun p => (viaElse p.1 p.2, p.2)
  | [], i, op, E, L, es, _, h => by
    rw [goP_nil, goE_nil]
    cases op with
    | nil =>
      simp only [List.map_nil, if_pos, Option.map_some]
      congr 2
      refine List.ext_getElem? fun s => ?_
      by_cases hs : s < ks.length
      · rw [gI_via es L (by rw [h.ls, h.ll]) s (by rw [h.ll]; exact hs), ← h.via s]
        exact gI_at (by rw [h.le]; exact hs)
      · rw [List.getElem?_eq_none (by rw [h.le]; omega), List.getElem?_eq_none (by unfold viaElse; rw [List.length_map, List.length_zip, h.ls, h.ll]; omega)]
    | cons t op => simp
  | k :: r, i, op, E, L, es, hr, h => by
    have hk : ks[i]? = some k := by
      have := congrArg (fun l => l[0]?) hr
      simpa using this
    have hil : i < ks.length := (List.getElem?_eq_some_iff.1 hk).1
    have hr' : ks.drop (i + 1) = r := by
      rw [← List.drop_drop, hr]; rfl
    rw [goP_cons, goE_cons]
    by_cases h57 : k = 5 ∨ k = 7
    · rw [if_pos h57, if_pos h57]
      have hp := h.push hil (by rcases h57 with e | e <;> rw [hk, e] <;> simp)
      rw [goP_goE ks r (i + 1) (i :: op) E L es hr' hp]
      have : opE L i = i := by
        unfold opE
        rw [if_neg]
        intro hc
        have := (h.els i hc).2.2.2
        omega
      rw [List.map_cons, this]
    rw [if_neg h57, if_neg h57]
    by_cases h6 : k = 6
    · rw [if_pos h6, if_pos h6]
      cases op with
      | nil => rfl
      | cons t op =>
        obtain ⟨a1, a2, a3⟩ := h.lt t (by simp)
        simp only [List.map_cons]
        by_cases hu : 0 ≤ gI L t
        · have e1 : opE L t = (gI L t).toNat := by unfold opE; rw [if_pos hu]
          rw [if_neg (by omega), e1, if_neg (by rw [(h.els t hu).2.1]; simp)]
          rfl
        · have e1 : opE L t = t := by unfold opE; rw [if_neg hu]
          rw [e1]
          by_cases ht : ks[t]? = some 5
          · rw [if_pos ⟨ht, by omega⟩, if_pos ht]
            have hp := h.put hil (by rw [hk, h6]) ht (by omega)
            rw [goP_goE ks r (i + 1) (t :: op) E (L.set t i) es hr' hp]
            have hti : t < L.length := by rw [h.ll]; omega
            have e2 : opE (L.set t i) t = i := by unfold opE; rw [gI_set L t i t hti, if_pos rfl, if_pos (by omega)]; omega
            rw [List.map_cons, e2, map_opE_put hti (List.pairwise_cons.1 h.ord).1]
          · rw [if_neg (fun c => ht c.1), if_neg ht]
            rfl
    rw [if_neg h6, if_neg h6]
    by_cases h8 : k = 8
    · rw [if_pos h8, if_pos h8]
      cases op with
      | nil => rfl
      | cons t op =>
        simp only [List.map_cons]
        exact goP_goE ks r (i + 1) op _ L _ hr' (h.pop hil)
    · rw [if_neg h8, if_neg h8]
      exact goP_goE ks r (i + 1) op E L es hr' (h.skip hil)
theorem goP_ends (ks : List Nat) : goP ks ks 0 [] (List.replicate ks.length (-1)) (List.replicate ks.length (-1)) = endsM ks := by
  rw [goP_goE ks ks 0 [] _ _ _ rfl (EI.start ks)]
  rfl
end Go.Proofs.Syn

/- slices.Clone of numbers. -/
namespace Go.Proofs.YtbojklbnfgopfaaGreatDoor
open Go Go.RowKit Go.Proofs.Mm

theorem infoInt : ∃ i, Tryz.prog.info? 3 = some i ∧ i.zero = some (.int .i64 0) ∧ i.size = 1 ∧ i.bytes = 8 := by
  have h : (Tryz.prog.info? 3).map (fun i => (i.zero, i.size, i.bytes)) = some (some (.int .i64 0), 1, 8) := by kernel_rfl
  cases hi : Tryz.prog.info? 3 with
  | none => rw [hi] at h; cases h
  | some i =>
    rw [hi] at h
    simp only [Option.map_some, Option.some.injEq, Prod.mk.injEq] at h
    exact ⟨i, rfl, h.1, h.2.1, h.2.2⟩
theorem und_ints : Tryz.prog.underlying 42 = some (.slice 3) := by kernel_rfl
theorem ints_not_nil (ad : Addr) (n c : Nat) (w : World) : (binOp .eql 42 (.slice (some ad) n c) (.slice none 0 0)).run Tryz.prog w = .ok (.bool false) w := by kernel_rfl
theorem negs_all (n : Nat) : negs n n = List.replicate n (.int .i64 (-1)) := by simp [negs]
set_option maxRecDepth 100000 in
set_option maxHeartbeats 1000000 in
theorem clone_ints (g n : Nat) (hn : n ≤ 1000000) (w : World) (hg : w.heap[g]? = some (.cells (negs n n).toArray 3 (0, 0))) :
    Calls Tryz.prog 26 #[.slice (some ⟨g, 0, none⟩) n n] w fun e w' => ∃ q c, e = .returned (.slice q n c) ∧ w'.ownsRow w.heap.size 3 1 (.slice q n c) n (negs n n) ∧ Below w.heap.size w w' := by
  obtain ⟨i2, h2, h3, h4, h5⟩ := infoInt
  have hq := ints_not_nil ⟨g, 0, none⟩ n n w
  have hon : ∀ v ∈ negs n n, v.oneCell' = true := by intro v hv; rw [negs_all] at hv; rw [List.eq_of_mem_replicate hv]; rfl
  have hll : (negs n n).length = n * 1 := by rw [negs_len (Nat.le_refl _), Nat.mul_one]
  have hR0 := World.ownsRow_lit (base := w.heap.size) (e := 3) (size := 1) w #[] 0 (Nat.le_refl _) (by unfold maxLen; omega) rfl
  have hB0 : Below w.heap.size w (w.alloc (.cells #[] 3)) := (Below.refl _ w).alloc (Nat.le_refl _) _
  have hcl' : ∀ (j : Nat) (u : Value), (negs n n)[j]? = some u → (w.alloc (.cells #[] 3)).cell? ((⟨g, 0, none⟩ : Addr).add j) = some u := by
    intro j u h
    rw [show ((⟨g, 0, none⟩ : Addr).add j) = ⟨g, j, none⟩ from by simp [Addr.add]; intro h; exact h.symm]
    have hc : w.cell? ⟨g, j, none⟩ = some u := cell_of hg (by rw [List.getElem?_toArray]; exact h)
    exact (hB0.cell (World.block_lt_of_cell? _ _ hc)).trans hc
  clear hg
  go_enter Tryz.func26, Tryz.ntmps26
  go_wp2_with (at_builtin; refine wpList_append_own _ rfl _ _ 42 rfl w.heap.size 3 i2 (.int .i64 0) 1 8 und_ints h2 h3 h4 h5 rfl (by omega) _ 0 [] rfl hR0 ⟨g, 0, none⟩ n n (negs n n) rfl hll hcl' hon (by unfold maxLen; omega) (by omega) (by simp) ?_)
  intro v2 w2 hR2 hg2 _
  obtain ⟨q, c, rfl⟩ := own_shape hR2
  have hB2 : Below w.heap.size w w2 := grown_below hB0 (by simp) hg2 (fun j hj => (hR0.lt j hj).1)
  have HB2 := Lib.hid hB2
  clear hg2 hR0 hB0 hB2
  have HR := Lib.hid hR2
  clear hR2
  go_wp2
  go_ret
  exact ⟨_, _, rfl, by simpa using HR.out, HB2.out⟩
end Go.Proofs.YtbojklbnfgopfaaGreatDoor

/- Ends in memory: the rows ends, elses and open. -/
namespace Go.Proofs.YtbojklbnfgopfaaGreatDoor
open Go Go.RowKit Go.Proofs.Mm Go.Proofs.Syn

def iv (z : Int) : Value := .int .i64 z
def ivs (l : List Int) : List Value := l.map iv
def ops (l : List Nat) : List Value := l.reverse.map fun (t : Nat) => Value.int .i64 (t : Int)
/-- What the kinds of a body are read from. -/
def BodyR (w : World) (q : Option Addr) (zs : List Int) : Prop := ∀ j z, zs[j]? = some z → ∃ g s a1 n1 c1 a2 n2 c2, q = some ⟨g, 0, none⟩ ∧ w.cell? ⟨g, j * 4, none⟩ = some (.int .i64 z) ∧ w.cell? ⟨g, j * 4 + 1, none⟩ = some (.string s) ∧ w.cell? ⟨g, j * 4 + 2, none⟩ = some (.slice a1 n1 c1) ∧ w.cell? ⟨g, j * 4 + 3, none⟩ = some (.slice a2 n2 c2)
theorem BodyR.below {w w' : World} {q : Option Addr} {zs : List Int} (h : BodyR w q zs) (hb : Below w.heap.size w w') : BodyR w' q zs := by
  intro j z hz
  obtain ⟨g, s, a1, n1, c1, a2, n2, c2, h0, h1, h2, h3, h4⟩ := h j z hz
  have hlt : g < w.heap.size := World.block_lt_of_cell? _ _ h1
  exact ⟨g, s, a1, n1, c1, a2, n2, c2, h0, (hb.cell hlt).trans h1, (hb.cell hlt).trans h2, (hb.cell hlt).trans h3, (hb.cell hlt).trans h4⟩
structure EnW (w : World) (H1 H2 H3 n : Nat) (W : World) (E L : List Int) (op : List Nat) (q5 : Option Addr) (c5 : Nat) (q6 : Option Addr) (c6 : Nat) (v7 : Value) : Prop where
  e : W.ownsRow H1 3 1 (.slice q5 n c5) n (ivs E)
  l : W.ownsRow H2 3 1 (.slice q6 n c6) n (ivs L)
  o : W.ownsRow H3 3 1 v7 op.length (ops op)
  b : Below w.heap.size w W
  h0 : w.heap.size ≤ H1
  h1 : H1 ≤ H2
  h2 : H2 ≤ H3
  h3 : H3 ≤ W.heap.size
  be : ∀ k, (Value.slice q5 n c5).ownBlock = some k → k < H2
  bl : ∀ k, (Value.slice q6 n c6).ownBlock = some k → k < H3
section
variable {w : World} {H1 H2 H3 n : Nat} {W : World} {E L : List Int} {op : List Nat} {q5 : Option Addr} {c5 : Nat} {q6 : Option Addr} {c6 : Nat} {v7 : Value}
theorem EnW.lenE (h : EnW w H1 H2 H3 n W E L op q5 c5 q6 c6 v7) : E.length = n := by have := h.e.1; simpa [ivs] using this
theorem EnW.lenL (h : EnW w H1 H2 H3 n W E L op q5 c5 q6 c6 v7) : L.length = n := by have := h.l.1; simpa [ivs] using this
theorem EnW.alloc (h : EnW w H1 H2 H3 n W E L op q5 c5 q6 c6 v7) (o : Obj) : EnW w H1 H2 H3 n (W.alloc o) E L op q5 c5 q6 c6 v7 :=
  ⟨h.e.alloc o, h.l.alloc o, h.o.alloc o, h.b.alloc h.b.size o, h.h0, h.h1, h.h2, by rw [World.size_alloc]; have := h.h3; omega, h.be, h.bl⟩
theorem EnW.drew (h : EnW w H1 H2 H3 n W E L op q5 c5 q6 c6 v7) : EnW w H1 H2 H3 n W.drew E L op q5 c5 q6 c6 v7 :=
  ⟨h.e.drew, h.l.drew, h.o.drew, h.b.drew, h.h0, h.h1, h.h2, h.h3, h.be, h.bl⟩
theorem own_not_zero {V : World} {B e size m : Nat} {q : Option Addr} {c : Nat} {xs : List Value} (h : V.ownsRow B e size (.slice q m c) m xs) (hm : 0 < m) : ∃ g, q = some ⟨g, 0, none⟩ ∧ B ≤ g ∧ g < V.heap.size := by
  obtain ⟨g, cap, hv, hb, hlt⟩ := h.form hm
  injection hv with hv
  exact ⟨g, hv, hb, hlt⟩
theorem ivs_at {l : List Int} {t : Nat} (ht : t < l.length) : (ivs l)[t]? = some (.int .i64 (gI l t)) := by
  unfold ivs
  rw [List.getElem?_map, gI_at ht]; rfl
theorem EnW.eAt (h : EnW w H1 H2 H3 n W E L op q5 c5 q6 c6 v7) (t : Nat) (ht : t < n) : ∃ g, q5 = some ⟨g, 0, none⟩ ∧ H1 ≤ g ∧ W.cell? ⟨g, t, none⟩ = some (.int .i64 (gI E t)) ∧ W.frozen? ⟨g, t, none⟩ = false ∧
    ∀ z : Int, EnW w H1 H2 H3 n (W.setCell ⟨g, t, none⟩ (.int .i64 z)) (E.set t z) L op q5 c5 q6 c6 v7 := by
  have hn : 0 < n := by omega
  have he := h.e
  obtain ⟨g, rfl, hb, hlt⟩ := own_not_zero he hn
  have hg2 : g < H2 := h.be g rfl
  refine ⟨g, rfl, hb, by rw [he.cellAt t (by omega)]; exact ivs_at (by rw [h.lenE]; exact ht), he.frozenAt t, fun z => ?_⟩
  have hs := (he.stored t (.int .i64 z))
  refine ⟨by rw [show ivs (E.set t z) = (ivs E).set t (.int .i64 z) from by unfold ivs; rw [List.map_set]; rfl]; exact hs.1, ?_, ?_, ?_, h.h0, h.h1, h.h2, by simpa using h.h3, h.be, h.bl⟩
  · refine h.l.kept hs.2 (.inr fun e => ?_)
    obtain ⟨a, _⟩ := h.l.lt g e
    omega
  · refine h.o.kept hs.2 (.inr fun e => ?_)
    obtain ⟨a, _⟩ := h.o.lt g e
    have := h.h2
    omega
  · exact h.b.setCell (p := ⟨g, t, none⟩) (by have := h.h0; show w.heap.size ≤ g; omega) _
theorem EnW.lAt (h : EnW w H1 H2 H3 n W E L op q5 c5 q6 c6 v7) (t : Nat) (ht : t < n) : ∃ g, q6 = some ⟨g, 0, none⟩ ∧ W.cell? ⟨g, t, none⟩ = some (.int .i64 (gI L t)) ∧ W.frozen? ⟨g, t, none⟩ = false ∧
    ∀ z : Int, EnW w H1 H2 H3 n (W.setCell ⟨g, t, none⟩ (.int .i64 z)) E (L.set t z) op q5 c5 q6 c6 v7 := by
  have hn : 0 < n := by omega
  have he := h.l
  obtain ⟨g, rfl, hb, hlt⟩ := own_not_zero he hn
  have hg2 : g < H3 := h.bl g rfl
  refine ⟨g, rfl, by rw [he.cellAt t (by omega)]; exact ivs_at (by rw [h.lenL]; exact ht), he.frozenAt t, fun z => ?_⟩
  have hs := (he.stored t (.int .i64 z))
  refine ⟨?_, by rw [show ivs (L.set t z) = (ivs L).set t (.int .i64 z) from by unfold ivs; rw [List.map_set]; rfl]; exact hs.1, ?_, ?_, h.h0, h.h1, h.h2, by simpa using h.h3, h.be, h.bl⟩
  · refine h.e.kept hs.2 (.inr fun e => ?_)
    have := h.be g e
    omega
  · refine h.o.kept hs.2 (.inr fun e => ?_)
    obtain ⟨a, _⟩ := h.o.lt g e
    omega
  · exact h.b.setCell (p := ⟨g, t, none⟩) (by have := h.h0; have := h.h1; show w.heap.size ≤ g; omega) _
theorem EnW.top {t : Nat} (h : EnW w H1 H2 H3 n W E L (t :: op) q5 c5 q6 c6 v7) : ∃ g c, v7 = .slice (some ⟨g, 0, none⟩) (op.length + 1) c ∧ op.length ≤ c ∧ W.cell? ⟨g, op.length, none⟩ = some (.int .i64 (t : Int)) ∧
    EnW w H1 H2 H3 n W E L op q5 c5 q6 c6 (.slice (some ⟨g, 0, none⟩) op.length c) := by
  have ho := h.o
  rcases ho.2 with ⟨_, h0⟩ | ⟨g, cap, cur, hv, hb, hg, h1, h2, h3, h4⟩
  · simp at h0
  · have hops : ops (t :: op) = ops op ++ [.int .i64 (t : Int)] := by simp [ops]
    have hlo : (ops op).length = op.length := by simp [ops]
    subst hv
    simp only [List.length_cons] at ho h1 h4 ⊢
    refine ⟨g, cap, rfl, by omega, ?_, h.e, h.l, ⟨by rw [hlo, Nat.mul_one], .inr ⟨g, cap, cur, rfl, hb, hg, by omega, h2, h3, ?_⟩⟩, h.b, h.h0, h.h1, h.h2, h.h3, h.be, h.bl⟩
    · rw [ho.cellAt op.length (by omega), hops, List.getElem?_append_right (by omega), hlo, Nat.sub_self]; rfl
    · rw [hops] at h4
      have := congrArg (List.take op.length) h4
      rw [List.take_take, Nat.min_eq_left (by omega), List.take_append_of_le_length (by omega), List.take_of_length_le (l := ops op) (by omega)] at this
      rw [Nat.mul_one]
      exact this
theorem EnW.push (h : EnW w H1 H2 H3 n W E L op q5 c5 q6 c6 v7) {i : Nat} {v' : Value} {w' : World} (hw : w'.ownsRow H3 3 1 v' (op.length + 1) (ops op ++ [.int .i64 (i : Int)])) (hg : W.grownBy w' v7.ownBlock) : EnW w H1 H2 H3 n w' E L (i :: op) q5 c5 q6 c6 v' := by
  have hol := h.o.lt
  refine ⟨h.e.kept hg ?_, h.l.kept hg ?_, by simpa [ops] using hw, h.b.grown hg h.b.size (fun k hk => by have := (hol k hk).1; have := h.h0; have := h.h1; have := h.h2; omega), h.h0, h.h1, h.h2, by have := hg.size; have := h.h3; omega, h.be, h.bl⟩
  · cases hq : (Value.slice q5 n c5).ownBlock with
    | none => exact .inl rfl
    | some k =>
      refine .inr fun e => ?_
      have a := h.be k hq
      have b := (hol k e.symm).1
      have := h.h2
      omega
  · cases hq : (Value.slice q6 n c6).ownBlock with
    | none => exact .inl rfl
    | some k =>
      refine .inr fun e => ?_
      have a := h.bl k hq
      have b := (hol k e.symm).1
      omega
end
end Go.Proofs.YtbojklbnfgopfaaGreatDoor

/- Ends of the package: where blocks end. -/
namespace Go.Proofs.YtbojklbnfgopfaaGreatDoor
open Go Go.RowKit Go.Proofs.Mm Go.Proofs.Syn

theorem ivs_negs (n : Nat) : ivs (List.replicate n (-1)) = negs n n := by rw [negs_all]; unfold ivs; rw [List.map_replicate]; rfl
def EndsR (w : World) (n : Nat) (e : Ending) (w' : World) : Option (List Int × List Int) → Prop
  | none => e = .returned (.tuple #[.slice none 0 0, .slice none 0 0, .bool false])
  | some (es, ls) => ∃ q5 c5 q6 c6 H, e = .returned (.tuple #[.slice q5 n c5, .slice q6 n c6, .bool true]) ∧ w'.ownsRow w.heap.size 3 1 (.slice q5 n c5) n (ivs es) ∧ w'.ownsRow w.heap.size 3 1 (.slice q6 n c6) n (ivs ls) ∧
      (∀ k, (Value.slice q5 n c5).ownBlock = some k → k < H) ∧ (∀ k, (Value.slice q6 n c6).ownBlock = some k → H ≤ k)
theorem EnW.start {w w2 w3 : World} {n : Nat} (hn : n ≤ 1000000) (h2 : w2.heap[w.heap.size + 1]? = some (.cells (negs n n).toArray 3 (0, 0))) (b2 : Below (w.heap.size + 1) (w.alloc (.cells #[.int .i64 (-1)] 3)) w2)
    {q : Option Addr} {c : Nat} (h3 : w3.ownsRow w2.heap.size 3 1 (.slice q n c) n (negs n n)) (b3 : Below w2.heap.size w2 w3) :
    EnW w (w.heap.size + 1) w2.heap.size w3.heap.size n w3 (List.replicate n (-1)) (List.replicate n (-1)) [] (some ⟨w.heap.size + 1, 0, none⟩) n q c (.slice none 0 0) := by
  have hlt : w.heap.size + 1 < w2.heap.size := by
    rcases Nat.lt_or_ge (w.heap.size + 1) w2.heap.size with h | h
    · exact h
    · rw [Array.getElem?_eq_none h] at h2; cases h2
  have hl : (negs n n).length = n := negs_len (Nat.le_refl _)
  refine ⟨⟨by simp [ivs], .inr ⟨w.heap.size + 1, n, (negs n n).toArray, rfl, Nat.le_refl _, ?_, Nat.le_refl _, by unfold maxLen; omega, by simp [hl], ?_⟩⟩, by rw [ivs_negs]; exact h3, World.ownsRow_nil _ _ _ _, ?_, by omega, by omega, b3.size, Nat.le_refl _, ?_, ?_⟩
  · rw [b3.block _ hlt]; exact h2
  · rw [ivs_negs]; exact List.take_of_length_le (by simp [hl])
  · exact (((Below.refl _ w).alloc (Nat.le_refl _) _).trans (b2.mono (by omega))).trans (b3.mono (by omega))
  · intro k hk
    injection hk with hk
    subst hk
    exact hlt
  · intro k hk
    exact (h3.lt k hk).2
theorem own_mono {V : World} {B B' e size m : Nat} {v : Value} {xs : List Value} (h : V.ownsRow B e size v m xs) (hb : B' ≤ B) : V.ownsRow B' e size v m xs := by
  refine ⟨h.1, ?_⟩
  rcases h.2 with h | ⟨g, cap, cur, h1, h2, h3⟩
  · exact .inl h
  · exact .inr ⟨g, cap, cur, h1, Nat.le_trans hb h2, h3⟩
section
variable {w : World} {H1 H2 H3 n : Nat} {W : World} {E L : List Int} {op : List Nat} {c5 : Nat} {q6 : Option Addr} {c6 : Nat} {g5 g7 c7 t : Nat}
theorem EnW.pop {q5 : Option Addr} (h : EnW w H1 H2 H3 n W E L (t :: op) q5 c5 q6 c6 (.slice (some ⟨g7, 0, none⟩) (op.length + 1) c7)) : EnW w H1 H2 H3 n W E L op q5 c5 q6 c6 (.slice (some ⟨g7, 0, none⟩) op.length c7) := by
  obtain ⟨g, c, e, _, _, h'⟩ := h.top
  injection e with e1 _ e2
  injection e1 with e1
  injection e1 with e1
  subst e1 e2
  exact h'
theorem EnW.setE {v7 : Value} (h : EnW w H1 H2 H3 n W E L op (some ⟨g5, 0, none⟩) c5 q6 c6 v7) (t : Nat) (ht : t < n) (z : Int) : EnW w H1 H2 H3 n (W.setCell ⟨g5, t, none⟩ (.int .i64 z)) (E.set t z) L op (some ⟨g5, 0, none⟩) c5 q6 c6 v7 := by
  obtain ⟨g, e, _, _, _, h'⟩ := h.eAt t ht
  injection e with e
  injection e with e
  subst e
  exact h' z
theorem EnW.close1 (h : EnW w H1 H2 H3 n W E L (t :: op) (some ⟨g5, 0, none⟩) c5 q6 c6 (.slice (some ⟨g7, 0, none⟩) (op.length + 1) c7)) (ht : t < n) (i : Nat) (hl : gI L t < 0) :
    EnW w H1 H2 H3 n (W.setCell ⟨g5, t, none⟩ (.int .i64 (i : Nat))) (closeP E L t i) L op (some ⟨g5, 0, none⟩) c5 q6 c6 (.slice (some ⟨g7, 0, none⟩) op.length c7) := by
  unfold closeP
  rw [if_neg (by omega)]
  exact (h.setE t ht i).pop
theorem EnW.close2 (h : EnW w H1 H2 H3 n W E L (t :: op) (some ⟨g5, 0, none⟩) c5 q6 c6 (.slice (some ⟨g7, 0, none⟩) (op.length + 1) c7)) (ht : t < n) (i : Nat) {u : Nat} (hu : u < n) (hl : gI L t = (u : Int)) :
    EnW w H1 H2 H3 n ((W.setCell ⟨g5, t, none⟩ (.int .i64 (i : Nat))).setCell ⟨g5, u, none⟩ (.int .i64 (i : Nat))) (closeP E L t i) L op (some ⟨g5, 0, none⟩) c5 q6 c6 (.slice (some ⟨g7, 0, none⟩) op.length c7) := by
  unfold closeP
  rw [if_pos (by omega), hl]
  exact ((h.setE t ht i).setE u hu i).pop
end
def EndI (w : World) (H1 H2 H3 n : Nat) (ks : List Nat) (q5 : Option Addr) (c5 : Nat) (q6 : Option Addr) (c6 : Nat) (v7 iV : Value) (wr : World) : Prop :=
  ∃ i op E L es, i ≤ n ∧ iV = .int .i64 (i : Nat) ∧ Hid (EnW w H1 H2 H3 n wr E L op q5 c5 q6 c6 v7) ∧ Hid (EI ks i op E L es) ∧ Hid (goP ks (ks.drop i) i op E L = endsM ks)
theorem drop_at {ks : List Nat} {i k : Nat} (hk : ks[i]? = some k) : ks.drop i = k :: ks.drop (i + 1) := by
  obtain ⟨h, e⟩ := List.getElem?_eq_some_iff.1 hk
  rw [List.drop_eq_getElem_cons h, e]
theorem goP_push {ks : List Nat} {i k : Nat} {op : List Nat} {E L : List Int} {r : Option (List Int × List Int)} (hk : ks[i]? = some k) (h57 : k = 5 ∨ k = 7) (h : goP ks (ks.drop i) i op E L = r) : goP ks (ks.drop (i + 1)) (i + 1) (i :: op) E L = r := by
  rw [drop_at hk, goP_cons, if_pos h57] at h; exact h
theorem goP_else {ks : List Nat} {i t : Nat} {op : List Nat} {E L : List Int} {r : Option (List Int × List Int)} (hk : ks[i]? = some 6) (ht : ks[t]? = some 5) (hl : gI L t < 0) (h : goP ks (ks.drop i) i (t :: op) E L = r) : goP ks (ks.drop (i + 1)) (i + 1) (t :: op) E (L.set t i) = r := by
  rw [drop_at hk, goP_cons, if_neg (by omega), if_pos rfl] at h
  simp only [if_pos (And.intro ht hl)] at h
  exact h
theorem goP_else_bad {ks : List Nat} {i : Nat} {op : List Nat} {E L : List Int} {r : Option (List Int × List Int)} (hk : ks[i]? = some 6) (hb : ∀ t op', op = t :: op' → ¬ (ks[t]? = some 5 ∧ gI L t < 0)) (h : goP ks (ks.drop i) i op E L = r) : r = none := by
  rw [drop_at hk, goP_cons, if_neg (by omega), if_pos rfl] at h
  cases op with
  | nil => exact h.symm
  | cons t op =>
    simp only [if_neg (hb t op rfl)] at h
    exact h.symm
theorem goP_end {ks : List Nat} {i t : Nat} {op : List Nat} {E L : List Int} {r : Option (List Int × List Int)} (hk : ks[i]? = some 8) (h : goP ks (ks.drop i) i (t :: op) E L = r) : goP ks (ks.drop (i + 1)) (i + 1) op (closeP E L t i) L = r := by
  rw [drop_at hk, goP_cons, if_neg (by omega), if_neg (by omega), if_pos rfl] at h
  exact h
theorem goP_end_bad {ks : List Nat} {i : Nat} {E L : List Int} {r : Option (List Int × List Int)} (hk : ks[i]? = some 8) (h : goP ks (ks.drop i) i [] E L = r) : r = none := by
  rw [drop_at hk, goP_cons, if_neg (by omega), if_neg (by omega), if_pos rfl] at h
  exact h.symm
theorem goP_skip {ks : List Nat} {i k : Nat} {op : List Nat} {E L : List Int} {r : Option (List Int × List Int)} (hk : ks[i]? = some k) (h5 : k ≠ 5) (h6 : k ≠ 6) (h7 : k ≠ 7) (h8 : k ≠ 8) (h : goP ks (ks.drop i) i op E L = r) : goP ks (ks.drop (i + 1)) (i + 1) op E L = r := by
  rw [drop_at hk, goP_cons, if_neg (by omega), if_neg h6, if_neg h8] at h
  exact h
theorem goP_done {ks : List Nat} {op : List Nat} {E L : List Int} {r : Option (List Int × List Int)} (h : goP ks (ks.drop ks.length) ks.length op E L = r) : r = if op = [] then some (E, L) else none := by
  rw [List.drop_length, goP_nil] at h
  exact h.symm
set_option maxRecDepth 100000 in
set_option maxHeartbeats 4000000 in
theorem ends_any {w : World} {q : Option Addr} {c n : Nat} (zs : List Int) (hn : zs.length = n) (hb : BodyR w q zs) (hmax : n ≤ 1000000) :
    Calls Tryz.prog 11 #[.slice q n c] w fun e w' => Below w.heap.size w w' ∧ EndsR w n e w' (endsM (zs.map Int.toNat)) := by
  have HN := Lib.hid hn
  have HR := Lib.hid (repeat_any n hmax (w.alloc (.cells #[.int .i64 (-1)] 3)) w.heap.size (cell_of (World.alloc_heap_new w _) rfl))
  have HB := Lib.hid hb
  obtain ⟨ks, hks⟩ : ∃ ks, zs.map Int.toNat = ks := ⟨_, rfl⟩
  rw [hks]
  have HK := Lib.hid hks
  clear hn hb hks
  go_enter Tryz.func11, Tryz.ntmps11
  go_wp2_with fail
  go_at_call 25
  refine HR.out.mono ?_
  rintro e w2 ⟨rfl, r1, r2⟩
  rw [World.size_alloc] at r1 r2
  have HC := Lib.hid (clone_ints (w.heap.size + 1) n hmax w2 r1)
  have HR1 := Lib.hid r1
  have HR2 := Lib.hid r2
  clear r1 r2
  go_wp2_with fail
  go_at_call 26
  refine HC.out.mono ?_
  rintro e w3 ⟨q6, c6, rfl, r3, r4⟩
  have H0 := Lib.hid (EnW.start hmax HR1.out HR2.out r3 r4)
  clear r3 r4
  go_wp2_with fail
  have HKL := Lib.hid (show ks.length = n by rw [← HK.out, List.length_map]; exact HN.out)
  generalize hH1 : w.heap.size + 1 = H1 at *
  obtain ⟨H2, hH2⟩ : ∃ H2, w2.heap.size = H2 := ⟨_, rfl⟩
  obtain ⟨H3, hH3⟩ : ∃ H3, w3.heap.size = H3 := ⟨_, rfl⟩
  rw [hH2, hH3] at H0
  obtain ⟨q5, hq5⟩ : ∃ q5, (some (⟨H1, 0, none⟩ : Addr)) = q5 := ⟨_, rfl⟩
  rw [hq5] at H0 ⊢
  clear hH2 hH3 HR1 HR2 HC hH1 hq5 HR
  go_loopw [7, 21] (EndI w H1 H2 H3 n ks q5 n q6 c6) (fun _ i _ => n - (intOf i).toNat)
  case atStart => exact ⟨0, [], _, _, _, Nat.zero_le _, rfl, H0, Lib.hid (HKL.out ▸ EI.start ks), Lib.hid (by have := goP_ends ks; rw [HKL.out] at this; exact this)⟩
  case round =>
    obtain ⟨i, op, E, L, es, hi, rfl, HE, HI, HG⟩ := hrel
    clear H0
    by_cases hlt : i < n
    · have hii : (i : Int) < (n : Int) := by omega
      obtain ⟨z, hz⟩ : ∃ z, zs[i]? = some z := ⟨_, List.getElem?_eq_getElem (by rw [HN.out]; exact hlt)⟩
      have HZ := Lib.hid (show ks[i]? = some z.toNat by rw [← HK.out, List.getElem?_map, hz]; rfl)
      obtain ⟨g, s, a1, n1, k1, a2, n2, k2, rfl, b0, b1, b2, b3⟩ := (HB.out.below HE.out.b) i z hz
      have hglt : g < wr.heap.size := World.block_lt_of_cell? _ _ b0
      obtain ⟨q7, c7, rfl⟩ := own_shape HE.out.o
      clear hz
      have hlen := HI.out.len
      by_cases h57 : z = 5 ∨ z = 7
      · obtain ⟨i0, hi0, hz0, hz1, hz2⟩ := infoInt
        have hrow := HE.out.o
        have hone : ∀ u ∈ [Value.int .i64 (i : Nat)], u.oneCell' = true := by intro u hu; rw [List.mem_singleton.1 hu]; rfl
        have HPU := Lib.hid (HI.out.push (by rw [HKL.out]; exact hlt) (by rw [HZ.out]; rcases h57 with rfl | rfl <;> simp))
        have HGU := Lib.hid (goP_push HZ.out (by rcases h57 with rfl | rfl <;> simp) HG.out)
        have h3 := HE.out.h3
        have hnew : ∀ o : Obj, ∀ (j : Nat) (u : Value), [Value.int .i64 (i : Nat)][j]? = some u → ((wr.alloc o).alloc (.cells #[.int .i64 (i : Nat)] 3)).cell? ((⟨wr.heap.size + 1, 0, none⟩ : Addr).add j) = some u := fun o => by
          have h := row_new (wr.alloc o) [.int .i64 (i : Nat)] 3
          rw [World.size_alloc] at h
          exact h
        rcases h57 with rfl | rfl
        all_goals
          go_wp2_with (at_builtin; refine wpList_append_own_at _ rfl _ _ 42 rfl H3 3 i0 _ 1 8 und_ints hi0 hz0 hz1 hz2 rfl (by decide) _ _ _ rfl ((hrow.alloc _).alloc _) ⟨wr.heap.size + 1, 0, none⟩ 1 1 [.int .i64 (i : Nat)] rfl rfl (hnew _) hone (by unfold maxLen; omega) (by omega) (by simp; omega) ?_)
          intro v9 w9 hown9 hgrow9 _ _
          obtain ⟨q9, c9, rfl⟩ := own_shape hown9
          have HE9 := Lib.hid (((HE.out.alloc _).alloc _).push hown9 hgrow9)
          clear hown9 hgrow9
          go_wp2_with fail
          exact ⟨⟨i + 1, i :: op, E, L, es, by omega, by go_num, HE9, HPU, HGU⟩, by simp [intOf]; omega⟩
      by_cases h68 : z = 6 ∨ z = 8
      · rcases h68 with rfl | rfl
        · cases op with
          | nil =>
            have HGU := Lib.hid (goP_else_bad HZ.out (fun t op' e => by cases e) HG.out)
            go_wp2_with fail
            go_ret3
            refine ⟨HE.out.b.alloc HE.out.b.size _, ?_⟩
            rw [HGU.out]
            rfl
          | cons t op =>
            obtain ⟨g7, c7', hv7, hc7, htop, _⟩ := HE.out.top
            have htn : t < n := by have := (HI.out.lt t (by simp)).1; omega
            obtain ⟨g5, rfl, hb5, he, hef, _⟩ := HE.out.eAt t htn
            obtain ⟨g6, rfl, hl, hlf, hls⟩ := HE.out.lAt t htn
            have HS := Lib.hid hls
            clear hls
            injection hv7 with hv7 _ hv8
            subst hv7 hv8
            have hg7 : g7 < wr.heap.size := World.block_lt_of_cell? _ _ htop
            have hg6 : g6 < wr.heap.size := World.block_lt_of_cell? _ _ hl
            have htn' : (t : Int) < (n : Int) := by omega
            obtain ⟨zt, hzt⟩ : ∃ z, zs[t]? = some z := ⟨_, List.getElem?_eq_getElem (by rw [HN.out]; exact htn)⟩
            have HZT := Lib.hid (show ks[t]? = some zt.toNat by rw [← HK.out, List.getElem?_map, hzt]; rfl)
            obtain ⟨g', s', x1, x2, x3, y1, y2, y3, hq, d0, _, _, _⟩ := (HB.out.below HE.out.b) t zt hzt
            injection hq with hq
            injection hq with hq
            subst hq
            clear hzt
            by_cases h5 : zt = 5
            · subst h5
              by_cases hu : 0 ≤ gI L t
              · have HGU := Lib.hid (goP_else_bad HZ.out (fun t' op' e c => by injection e with e1 e2; subst e1; have := c.2; omega) HG.out)
                go_wp2_with fail
                go_ret3
                refine ⟨HE.out.b.alloc HE.out.b.size _, ?_⟩
                rw [HGU.out]
                rfl
              · have hu1 : gI L t < 0 := by omega
                have HGU := Lib.hid (goP_else HZ.out HZT.out hu1 HG.out)
                have HPU := Lib.hid (HI.out.put (by rw [HKL.out]; exact hlt) HZ.out HZT.out hu1)
                go_wp2_with fail
                exact ⟨⟨i + 1, t :: op, E, _, es, by omega, by go_num, Lib.hid ((HS.out i).alloc _), HPU, HGU⟩, by simp [intOf]; omega⟩
            · have HGU := Lib.hid (goP_else_bad HZ.out (fun t' op' e c => by
                injection e with e1 e2; subst e1
                have h := c.1
                rw [HZT.out] at h
                injection h with h
                omega) HG.out)
              have e5 : (zt == 5) = false := by simp; omega
              have e5' : (zt != 5) = true := by simp; omega
              go_wp2_with fail
              go_ret3
              refine ⟨HE.out.b.alloc HE.out.b.size _, ?_⟩
              rw [HGU.out]
              rfl
        · cases op with
          | nil =>
            have HGU := Lib.hid (goP_end_bad HZ.out HG.out)
            go_wp2_with fail
            go_ret3
            refine ⟨HE.out.b.alloc HE.out.b.size _, ?_⟩
            rw [HGU.out]
            rfl
          | cons t op =>
            have HGU := Lib.hid (goP_end HZ.out HG.out)
            have HPU := Lib.hid (HI.out.pop (by rw [HKL.out]; exact hlt))
            obtain ⟨g7, c7', hv7, hc7, htop, _⟩ := HE.out.top
            have htn : t < n := by have := (HI.out.lt t (by simp)).1; omega
            obtain ⟨g5, rfl, hb5, he, hef, _⟩ := HE.out.eAt t htn
            obtain ⟨g6, rfl, hl, hlf, _⟩ := HE.out.lAt t htn
            injection hv7 with hv7 _ hv8
            subst hv7 hv8
            have hg7 : g7 < wr.heap.size := World.block_lt_of_cell? _ _ htop
            have hg5 : g5 < wr.heap.size := World.block_lt_of_cell? _ _ he
            have hg6 : g6 < wr.heap.size := World.block_lt_of_cell? _ _ hl
            have hn1 : ¬ g6 = g5 := by
              have h1 := HE.out.be g5 rfl
              have h2 := (HE.out.l.lt g6 rfl).1
              omega
            have htn' : (t : Int) < (n : Int) := by omega
            by_cases hu : 0 ≤ gI L t
            · have hel := HI.out.els t hu
              obtain ⟨u, hu'⟩ : ∃ u : Nat, gI L t = (u : Int) := ⟨_, (Int.toNat_of_nonneg hu).symm⟩
              have hun : u < n := by have := hel.1; rw [hu'] at this; omega
              have hut : ¬ u = t := by
                rintro rfl
                have h1 := hel.2.1
                rw [hu'] at h1
                have h2 := hel.2.2.1
                rw [show ((u : Int)).toNat = u from by omega, h2] at h1
                cases h1
              have hun' : (u : Int) < (n : Int) := by omega
              obtain ⟨g5', hq, _, he2, hef2, _⟩ := HE.out.eAt u hun
              injection hq with hq
              injection hq with hq
              subst hq
              have HC2 := Lib.hid (HE.out.close2 htn i hun hu')
              rw [hu'] at hl
              have hu0 : (0 : Int) ≤ (u : Int) := by omega
              clear hel hu hu'
              go_wp2_with fail
              exact ⟨⟨i + 1, op, _, L, _, by omega, by go_num, Lib.hid (HC2.out.alloc _), HPU, HGU⟩, by simp [intOf]; omega⟩
            · have hu1 : gI L t < 0 := by omega
              have HC2 := Lib.hid (HE.out.close1 htn i hu1)
              go_wp2_with fail
              exact ⟨⟨i + 1, op, _, L, _, by omega, by go_num, Lib.hid (HC2.out.alloc _), HPU, HGU⟩, by simp [intOf]; omega⟩
      · have h6 : ¬ z = 6 := fun e => h68 (.inl e)
        have h8 : ¬ z = 8 := fun e => h68 (.inr e)
        have e5 : (z == 5) = false := by simp; omega
        have e6 : (z == 6) = false := by simp; omega
        have e7 : (z == 7) = false := by simp; omega
        have e8 : (z == 8) = false := by simp; omega
        have HPU := Lib.hid (HI.out.skip (by rw [HKL.out]; exact hlt))
        have HGU := Lib.hid (goP_skip HZ.out (by omega) (by omega) (by omega) (by omega) HG.out)
        go_wp2_with fail
        exact ⟨⟨i + 1, op, E, L, es, by omega, by go_num, Lib.hid (HE.out.alloc _), HPU, HGU⟩, by simp [intOf]; omega⟩
    · obtain rfl : i = n := by omega
      have hg := HG.out
      rw [← HKL.out] at hg
      have HD := Lib.hid (goP_done hg)
      clear hg
      obtain ⟨q7, c7, rfl⟩ := own_shape HE.out.o
      cases op with
      | nil =>
        go_wp2_with fail
        go_ret3
        refine ⟨HE.out.b, ?_⟩
        rw [show endsM ks = some (E, L) from by rw [HD.out]; simp]
        exact ⟨q5, i, q6, c6, H2, rfl, own_mono HE.out.e HE.out.h0, own_mono HE.out.l (by have := HE.out.h0; have := HE.out.h1; omega), HE.out.be, fun k hk => (HE.out.l.lt k hk).1⟩
      | cons t op =>
        go_wp2_with fail
        go_ret3
        refine ⟨HE.out.b, ?_⟩
        rw [HD.out, if_neg (by simp)]
        rfl
end Go.Proofs.YtbojklbnfgopfaaGreatDoor
