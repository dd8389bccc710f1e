/- Package names: the first declaration that is not in order. -/
import Derived.Test.YtlpdjfimefjmcaaGreatNtPR6
import Derived.Laws.EntriesVeiled
import Derived.Maps.OwnIn
import Derived.Laws.AppendOwnNone
import Derived.Deep.DeepAppendWide
import Derived.Maps.AppendAt
import Derived.Lib.AppendZeros
namespace Go.Proofs.YtlpdjfimefjmcaaGreat
open Go Go.RowKit Go.Proofs.Mm

theorem grpsF_at {gs : List (Nat × Nat × (Nat → Nat))} {i base : Nat} (hi : i < gs.length) : grpsF (gs.drop i) base = orO (grpF gs[i].2.1 gs[i].2.2 base gs[i].1 0) (grpsF (gs.drop (i + 1)) (base + gs[i].1)) := by
  rw [List.drop_eq_getElem_cons hi, grpsF]
theorem grpsF_end {gs : List (Nat × Nat × (Nat → Nat))} {i base : Nat} (hi : gs.length ≤ i) : grpsF (gs.drop i) base = none := by
  rw [List.drop_of_length_le hi]; rfl
theorem grpF_many {most : Nat} {e : Nat → Nat} {base n k : Nat} (hk : k < n) (h : k = most) : grpF most e base (n - k) k = some (base + k, 74) := by
  obtain ⟨m, hm⟩ : ∃ m, n - k = m + 1 := ⟨n - k - 1, by omega⟩
  rw [hm, grpF, if_pos h]
theorem grpF_bad {most : Nat} {e : Nat → Nat} {base n k : Nat} (hk : k < n) (h : ¬ k = most) (he : ¬ e k = 0) : grpF most e base (n - k) k = some (base + k, e k) := by
  obtain ⟨m, hm⟩ : ∃ m, n - k = m + 1 := ⟨n - k - 1, by omega⟩
  rw [hm, grpF, if_neg h, if_neg he]
theorem grpF_next {most : Nat} {e : Nat → Nat} {base n k : Nat} (hk : k < n) (h : ¬ k = most) (he : e k = 0) : grpF most e base (n - k) k = grpF most e base (n - (k + 1)) (k + 1) := by
  obtain ⟨m, hm⟩ : ∃ m, n - k = m + 1 := ⟨n - k - 1, by omega⟩
  rw [hm, grpF, if_neg h, if_pos he, show n - (k + 1) = m by omega]
theorem grpF_end {most : Nat} {e : Nat → Nat} {base n : Nat} : grpF most e base (n - n) n = none := by rw [Nat.sub_self]; rfl
/-- A place and an error. -/
def daV : Option (Nat × Nat) → Value
  | some (a, e) => .tuple #[.int .i64 (a : Int), .int .i64 (e : Int)]
  | none => .tuple #[.int .i64 0, .int .i64 0]
section
variable {lt : Bool} {C : Cl} {W : World} {s : SoZ} {q1 : Option Addr} {c1 : Nat} {q2 : Option Addr} {c2 : Nat} {q3 : Option Addr} {c3 : Nat} {q4 : Option Addr} {c4 : Nat} {q5 : Option Addr} {c5 : Nat}
set_option maxRecDepth 100000 in
set_option maxHeartbeats 8000000 in
theorem declarations_p (h : SrcO lt C s q1 c1 q2 c2 q3 c3 q4 c4 q5 c5) (hC : CLe C (wC W)) :
    Calls Tryz.prog 15 #[.agg (srV s q1 c1 q2 c2 q3 c3 q4 c4 q5 c5)] W (RetB (daV (declsZE s)) W) := by
  have HG := Lib.hid (fun (w : World) (hb : Below W.heap.size W w) => groups_p (W := w) h (hC.trans (below_cle hb)))
  rw [decls_gs]
  have hgl : (gsOf s).length = 5 := rfl
  clear h hC
  unfold srV at HG ⊢
  generalize gsOf s = G at *
  have HGL := Lib.hid hgl
  generalize s.principals.length = n1 at *
  generalize s.globals.length = n2 at *
  generalize s.arrays.length = n3 at *
  generalize s.channels.length = n4 at *
  generalize s.funcs.length = n5 at *
  clear hgl
  have HR := Lib.hid (show grpsF G 0 = grpsF (G.drop 0) 0 from rfl)
  generalize grpsF G 0 = R at *
  go_enter Tryz.func15, Tryz.ntmps15
  go_wp2_with fail
  go_at_call 30
  refine (HG.out _ (bl_al (Below.refl _ _) _)).mono ?_
  rintro e w0 ⟨b, rfl, hb0, hgr⟩
  have HB0 := Lib.hid (bl_tr (bl_al (Below.refl W.heap.size W) _) hb0)
  have HGR := Lib.hid hgr
  clear hb0 hgr HG
  go_wp2_with fail
  go_loopw [4, 12] (fun a i wr => ∃ j base : Nat, j ≤ 5 ∧ i = .int .i64 (j : Nat) ∧ base ≤ j * 64 ∧ a = .int .i64 (base : Nat) ∧ Hid (Below w0.heap.size w0 wr) ∧ Hid (R = grpsF (G.drop j) base)) (fun _ i _ => 5 - (intOf i).toNat)
  case atStart => exact ⟨0, 0, by omega, rfl, by omega, rfl, Lib.hid (Below.refl _ _), HR⟩
  case round =>
    obtain ⟨j, base, hj, rfl, hbs, rfl, HB, HJ⟩ := hrel
    by_cases hlt : j < 5
    · have hjl : j < G.length := by rw [HGL.out]; exact hlt
      have HJ2 := Lib.hid (HJ.out.trans (grpsF_at hjl))
      obtain ⟨K, ca, e0, e1, e2, ek, hn, hm, hc⟩ := (HGR.out.le HB.out) j hjl
      generalize G[j] = x at *
      obtain ⟨n, most, ef⟩ := x
      simp only at e0 e1 e2 hn hm hc HJ2
      have HC := Lib.hid hc
      unfold Ent at ek
      have hji : (j : Int) < 5 := by omega
      have hblt : b < wr.heap.size := cell_lt e0
      clear hc hjl
      obtain ⟨bx, hbx⟩ : ∃ bx, wr.heap.size = bx := ⟨_, rfl⟩
      have hrow0 : InB (wr.alloc (.cells #[.int .i64 (n : Int), .int .i64 (most : Int), .func (.func K) #[] ca] 85)) bx #[.int .i64 (n : Int), .int .i64 (most : Int), .func (.func K) #[] ca] 85 := InB.new' _ _ hbx
      have HB2 := Lib.hid (show Below wr.heap.size wr (wr.alloc (.cells #[.int .i64 (n : Int), .int .i64 (most : Int), .func (.func K) #[] ca] 85)) from bl_al (Below.refl _ _) _)
      have HRW := Lib.hid hrow0
      have HBX := Lib.hid hbx
      clear hrow0
      go_wp2_with fail
      try rw [HBX.out]
      generalize wr.alloc (.cells #[.int .i64 (n : Int), .int .i64 (most : Int), .func (.func K) #[] ca] 85) = w2 at *
      clear hbx e0 e1 e2 hblt
      generalize wr = wo at *
      have HJI := Lib.hid hji
      have HJJ := Lib.hid hlt
      have HBS := Lib.hid hbs
      go_loopw [4, 18] (fun a i wi => ∃ k : Nat, k ≤ n ∧ k ≤ most ∧ i = .int .i64 (k : Nat) ∧ a = .int .i64 ((base + k : Nat) : Int) ∧ Hid (Below w2.heap.size w2 wi) ∧ Hid (grpF most ef base n 0 = grpF most ef base (n - k) k)) (fun _ i _ => n - (intOf i).toNat)
      case atStart => exact ⟨0, by omega, by omega, rfl, rfl, Lib.hid (Below.refl _ _), Lib.hid rfl⟩
      case round =>
        obtain ⟨k, hk, hkm, rfl, rfl, HBI, HT⟩ := hrel
        have g0 := (HRW.out.le HBI.out).cell (j := 0) rfl
        have g1 := (HRW.out.le HBI.out).cell (j := 1) rfl
        have g2 := (HRW.out.le HBI.out).cell (j := 2) rfl
        have hxl := (HRW.out.le HBI.out).lt
        have HBW := Lib.hid (bl_tr HB.out (bl_tr HB2.out HBI.out))
        by_cases hkn : k < n
        · have hki : (k : Int) < (n : Int) := by omega
          by_cases hko : k = most
          · have HX := Lib.hid (HT.out.trans (grpF_many hkn hko))
            have hke : ((k : Int) == (most : Int)) = true := by rw [beq_iff_eq]; omega
            have HR2 := Lib.hid (show R = some (base + k, 74) by rw [HJ2.out, HX.out]; rfl)
            clear hko
            go_wp2
            go_ret2
            exact ⟨by rw [HR2.out]; rfl, bl_tr HB0.out HBW.out⟩
          · have hke : ((k : Int) == (most : Int)) = false := by rw [beq_eq_false_iff_ne]; omega
            have HC2 := Lib.hid (HC.out k hkn wr (bl_tr HB2.out HBI.out))
            have HKN := Lib.hid (And.intro hkn hko)
            go_wp2_with fail
            refine HC2.out.mono ?_
            rintro e w3 ⟨qe, ce, es, rfl, hb3, hrow, hle, hfe⟩
            have HFI := Lib.hid (first_p (W := w3) es hle (c := ce) hrow)
            have HB3 := Lib.hid (bl_tr HBI.out hb3)
            have HFE := Lib.hid hfe
            clear hb3 hrow hle hfe HC2
            generalize es.length = m at *
            generalize fst0 es = x at *
            go_wp2_with fail
            go_at_call 31
            refine HFI.out.mono ?_
            rintro e w4 ⟨rfl, hb4⟩
            have HB4 := Lib.hid (bl_tr HB3.out hb4)
            clear hb4 HFI g0 g1 g2 hxl
            by_cases hx : x = 0
            · have HT2 := Lib.hid (HT.out.trans (grpF_next HKN.out.1 HKN.out.2 (by rw [← HFE.out]; exact hx)))
              subst hx
              go_wp2
              exact ⟨⟨k + 1, by omega, by omega, by go_num, by go_num, HB4, HT2⟩, by simp [intOf]; omega⟩
            · have HX := Lib.hid (HT.out.trans (grpF_bad HKN.out.1 HKN.out.2 (by rw [← HFE.out]; exact hx)))
              have HR2 := Lib.hid (show R = some (base + k, x) by rw [HJ2.out, HX.out, HFE.out]; rfl)
              have hne : (((x : Nat) : Int) != 0) = true := by simpa using hx
              have hne2 : (((x : Nat) : Int) == 0) = false := by simpa using hx
              clear hx
              go_wp2
              go_ret2
              exact ⟨by rw [HR2.out]; rfl, bl_tr HB0.out (bl_tr HB.out (bl_tr HB2.out HB4.out))⟩
        · obtain rfl : k = n := by omega
          have HX := Lib.hid (HT.out.trans grpF_end)
          have HR2 := Lib.hid (show R = grpsF (G.drop (j + 1)) (base + k) by rw [HJ2.out, HX.out]; rfl)
          clear g0 g1 g2
          go_wp2
          exact ⟨⟨j + 1, base + k, by omega, by go_num, by omega, rfl, HBW, HR2⟩, by simp [intOf]; omega⟩
    · obtain rfl : j = 5 := by omega
      have HR2 := Lib.hid (HJ.out.trans (grpsF_end (by rw [HGL.out]; exact Nat.le_refl _)))
      go_wp2
      go_ret2
      exact ⟨by rw [HR2.out]; rfl, bl_tr HB0.out HB.out⟩
end
end Go.Proofs.YtlpdjfimefjmcaaGreat

/- Package names: terms that are right by themselves, expressions that are whole. -/
namespace Go.Proofs.YtlpdjfimefjmcaaGreat
open Go Go.RowKit Go.Proofs.Mm

def tv (t : TmZ) : Value := .agg #[.int .i64 t.kind, .int .i64 t.value, .string t.name]
section
variable {W : World}
set_option maxRecDepth 100000 in
theorem taken_p (t : TmZ) (W : World) : Calls Tryz.prog 53 #[tv t] W (RetB (.int .i64 ((tkT t : Nat) : Int)) W) := by
  obtain ⟨k, v, s⟩ := t
  unfold tv tkT
  simp only
  by_cases h5 : k = 5
  · subst h5
    go_enter Tryz.func53, Tryz.ntmps53
    go_wp2
    go_ret
    exact ⟨rfl, bl_al (Below.refl _ _) _⟩
  by_cases h3 : k = 3
  · subst h3
    go_enter Tryz.func53, Tryz.ntmps53
    go_wp2
    go_ret
    exact ⟨rfl, bl_al (Below.refl _ _) _⟩
  by_cases h4 : k = 4
  · subst h4
    go_enter Tryz.func53, Tryz.ntmps53
    go_wp2
    go_ret
    exact ⟨rfl, bl_al (Below.refl _ _) _⟩
  rw [if_neg h5, if_neg (by omega)]
  have e5 : (k == 5) = false := by simpa using h5
  have e3 : (k == 3) = false := by simpa using h3
  have e4 : (k == 4) = false := by simpa using h4
  go_enter Tryz.func53, Tryz.ntmps53
  go_wp2
  go_ret
  exact ⟨rfl, bl_al (Below.refl _ _) _⟩
theorem goodT_1 (v : Int) (s : ByteArray) : goodT ⟨1, v, s⟩ = (decide (0 ≤ v) && s.toList.isEmpty) := rfl
theorem goodT_n {k : Int} (h : k = 2 ∨ k = 3) (v : Int) (s : ByteArray) : goodT ⟨k, v, s⟩ = (decide (v = 0) && nameZ s) := by rcases h with rfl | rfl <;> rfl
theorem goodT_4 (v : Int) (s : ByteArray) : goodT ⟨4, v, s⟩ = (decide (15 ≤ v ∧ v ≤ 17) && s.toList.isEmpty) := rfl
theorem goodT_5 (v : Int) (s : ByteArray) : goodT ⟨5, v, s⟩ = (decide (1 ≤ v ∧ v ≤ 14) && s.toList.isEmpty) := rfl
theorem goodT_o {k : Int} (h1 : ¬ k = 1) (h2 : ¬ k = 2) (h3 : ¬ k = 3) (h4 : ¬ k = 4) (h5 : ¬ k = 5) (v : Int) (s : ByteArray) : goodT ⟨k, v, s⟩ = false := by
  unfold goodT
  simp only
  rw [if_neg h1, if_neg (by omega), if_neg h4, if_neg h5]
set_option maxRecDepth 100000 in
set_option maxHeartbeats 2000000 in
theorem good_p (t : TmZ) (W : World) : Calls Tryz.prog 54 #[tv t] W (RetB (.bool (goodT t)) W) := by
  obtain ⟨k, v, s⟩ := t
  unfold tv
  simp only
  by_cases h1 : k = 1
  · subst h1
    rw [goodT_1]
    by_cases hv : 0 ≤ v
    · rw [decide_eq_true hv, Bool.true_and]
      cases hs : s.toList.isEmpty
      all_goals
        go_enter Tryz.func54, Tryz.ntmps54
        go_wp2
        go_ret
        exact ⟨rfl, bl_al (Below.refl _ _) _⟩
    · rw [decide_eq_false hv, Bool.false_and]
      go_enter Tryz.func54, Tryz.ntmps54
      go_wp2
      go_ret
      exact ⟨rfl, bl_al (Below.refl _ _) _⟩
  by_cases h23 : k = 2 ∨ k = 3
  · rw [goodT_n h23]
    have e1 : (k == 1) = false := by simpa using h1
    have HN := Lib.hid (fun W => name_p s W)
    by_cases hv : v = 0
    · subst hv
      rw [decide_eq_true rfl, Bool.true_and]
      generalize nameZ s = r at *
      rcases h23 with rfl | rfl
      all_goals
        go_enter Tryz.func54, Tryz.ntmps54
        go_wp2_with (go_at_call 8; refine (HN.out _).mono ?_; rintro e w1 ⟨rfl, rfl⟩)
        go_ret
        exact ⟨rfl, bl_al (Below.refl _ _) _⟩
    · have ev : (v == 0) = false := by simpa using hv
      rw [decide_eq_false hv, Bool.false_and]
      rcases h23 with rfl | rfl
      all_goals
        go_enter Tryz.func54, Tryz.ntmps54
        go_wp2
        go_ret
        exact ⟨rfl, bl_al (Below.refl _ _) _⟩
  by_cases h4 : k = 4
  · subst h4
    rw [goodT_4]
    by_cases hv : 15 ≤ v
    · by_cases hu : v ≤ 17
      · rw [decide_eq_true ⟨hv, hu⟩, Bool.true_and]
        cases hs : s.toList.isEmpty
        all_goals
          go_enter Tryz.func54, Tryz.ntmps54
          go_wp2
          go_ret
          exact ⟨rfl, bl_al (Below.refl _ _) _⟩
      · rw [decide_eq_false (by omega), Bool.false_and]
        go_enter Tryz.func54, Tryz.ntmps54
        go_wp2
        go_ret
        exact ⟨rfl, bl_al (Below.refl _ _) _⟩
    · rw [decide_eq_false (by omega), Bool.false_and]
      go_enter Tryz.func54, Tryz.ntmps54
      go_wp2
      go_ret
      exact ⟨rfl, bl_al (Below.refl _ _) _⟩
  by_cases h5 : k = 5
  · subst h5
    rw [goodT_5]
    by_cases hv : 1 ≤ v
    · by_cases hu : v ≤ 14
      · rw [decide_eq_true ⟨hv, hu⟩, Bool.true_and]
        cases hs : s.toList.isEmpty
        all_goals
          go_enter Tryz.func54, Tryz.ntmps54
          go_wp2
          go_ret
          exact ⟨rfl, bl_al (Below.refl _ _) _⟩
      · rw [decide_eq_false (by omega), Bool.false_and]
        go_enter Tryz.func54, Tryz.ntmps54
        go_wp2
        go_ret
        exact ⟨rfl, bl_al (Below.refl _ _) _⟩
    · rw [decide_eq_false (by omega), Bool.false_and]
      go_enter Tryz.func54, Tryz.ntmps54
      go_wp2
      go_ret
      exact ⟨rfl, bl_al (Below.refl _ _) _⟩
  have h2 : ¬ k = 2 := fun e => h23 (.inl e)
  have h3 : ¬ k = 3 := fun e => h23 (.inr e)
  rw [goodT_o h1 h2 h3 h4 h5]
  have e1 : (k == 1) = false := by simpa using h1
  have e2 : (k == 2) = false := by simpa using h2
  have e3 : (k == 3) = false := by simpa using h3
  have e4 : (k == 4) = false := by simpa using h4
  have e5 : (k == 5) = false := by simpa using h5
  clear h23
  go_enter Tryz.func54, Tryz.ntmps54
  go_wp2
  go_ret
  exact ⟨rfl, bl_al (Below.refl _ _) _⟩
/-- How whole an expression is, from a number of values on: stopped, or the number at the end. -/
theorem whF_stop {t : TmZ} {r : List TmZ} {n : Nat} (h : goodT t = false ∨ n < tkT t) : whF (t :: r) n = false := by
  unfold whF
  rcases h with h | h
  · rw [h]; simp
  · rw [decide_eq_false (by omega)]; simp
theorem whF_go {t : TmZ} {r : List TmZ} {n : Nat} (h : goodT t = true) (h2 : ¬ n < tkT t) : whF (t :: r) n = whF r (n - tkT t + 1) := by
  rw [whF, h, decide_eq_true (by omega)]; simp
theorem drop_next {α : Type} {l : List α} {k : Nat} (h : k < l.length) : l.drop k = l[k] :: l.drop (k + 1) := by rw [List.drop_eq_getElem_cons h]
set_option maxRecDepth 100000 in
set_option maxHeartbeats 2000000 in
theorem whole_p {C : Cl} {q : Option Addr} {c : Nat} (l : List TmZ) (hl : l.length ≤ 4611686018427387904) (hrow : TmAt C q l) (hC : CLe C (wC W)) : Calls Tryz.prog 29 #[.slice q l.length c] W (RetB (.bool (whF l 0)) W) := by
  have HA := Lib.hid hrow
  have HCC := Lib.hid hC
  obtain ⟨n, hn⟩ : ∃ n, l.length = n := ⟨_, rfl⟩
  have HN := Lib.hid hn
  rw [hn] at hl ⊢
  clear hrow hC hn
  go_enter Tryz.func29, Tryz.ntmps29
  go_wp2
  go_loopw [3, 9] (fun v i wr => ∃ k m : Nat, k ≤ n ∧ i = .int .i64 k ∧ m ≤ k ∧ v = .int .i64 (m : Nat) ∧ Hid (Below W.heap.size W wr) ∧ Hid (whF l 0 = whF (l.drop k) m)) (fun _ i _ => n - (intOf i).toNat)
  case atStart => exact ⟨0, 0, Nat.zero_le _, rfl, Nat.le_refl _, rfl, Lib.hid (Below.refl _ _), Lib.hid rfl⟩
  case round =>
    obtain ⟨k, m, hk, rfl, hm, rfl, HB, HT⟩ := hrel
    by_cases hlt : k < n
    · have hk1 : k < l.length := by rw [HN.out]; exact hlt
      obtain ⟨g, o, rfl, a0, a1, a2⟩ := HA.out k hk1
      have HD := Lib.hid (drop_next hk1)
      have e0 : wr.cell? ⟨g, o + k * 3, none⟩ = some (.int .i64 l[k].kind) := below_cle HB.out _ _ (HCC.out _ _ a0)
      have e1 : wr.cell? ⟨g, o + k * 3 + 1, none⟩ = some (.int .i64 l[k].value) := below_cle HB.out _ _ (HCC.out _ _ a1)
      have e2 : wr.cell? ⟨g, o + k * 3 + 2, none⟩ = some (.string l[k].name) := below_cle HB.out _ _ (HCC.out _ _ a2)
      have hg : g < wr.heap.size := cell_lt e0
      clear a0 a1 a2
      generalize l[k] = t at *
      have HTK := Lib.hid (fun w => taken_p t w)
      have HGD := Lib.hid (fun w => good_p t w)
      have HST := Lib.hid (fun r => @whF_stop t r m)
      have HGO := Lib.hid (fun r => @whF_go t r m)
      have htk : tkT t ≤ 2 := by unfold tkT; split <;> (try split) <;> omega
      clear hk1
      obtain ⟨kd, vl, nm⟩ := t
      unfold tv at HTK HGD
      generalize tkT ⟨kd, vl, nm⟩ = tk at *
      generalize goodT ⟨kd, vl, nm⟩ = gd at *
      have hki : (k : Int) < (n : Int) := by omega
      simp only at e0 e1 e2 HTK HGD
      obtain ⟨bx, hbx⟩ : ∃ bx, wr.heap.size = bx := ⟨_, rfl⟩
      have hbb : Below wr.heap.size wr (wr.alloc (.cells #[.int .i64 kd, .int .i64 vl, .string nm] 62)) := bl_al (Below.refl _ _) _
      have hrow0 : (wr.alloc (.cells #[.int .i64 kd, .int .i64 vl, .string nm] 62)).heap[bx]? = some (.cells #[.int .i64 kd, .int .i64 vl, .string nm] 62 (0, 0)) := by rw [← hbx]; exact World.alloc_heap_new _ _
      have HBX := Lib.hid hbb
      have HRW := Lib.hid hrow0
      have HSZ := Lib.hid (show bx < (wr.alloc (.cells #[.int .i64 kd, .int .i64 vl, .string nm] 62)).heap.size by simp [hbx])
      clear hbb hrow0
      go_wp2_with fail
      generalize wr.alloc (.cells #[.int .i64 kd, .int .i64 vl, .string nm] 62) = w0 at *
      go_at_call 53
      refine (HTK.out _).mono ?_
      rintro e w1 ⟨rfl, hb1⟩
      have hr1 := (hb1.block bx HSZ.out).trans HRW.out
      have HB1 := Lib.hid (bl_tr (bl_tr HB.out HBX.out) hb1)
      have g0 := cell_of (j := 0) hr1 rfl
      have g1 := cell_of (j := 1) hr1 rfl
      have g2 := cell_of (j := 2) hr1 rfl
      clear hb1 hr1 e0 e1 e2
      go_wp2_with fail
      go_at_call 54
      refine (HGD.out _).mono ?_
      rintro e w2 ⟨rfl, hb2⟩
      have HB2 := Lib.hid (bl_tr HB1.out hb2)
      clear hb2 g0 g1 g2
      by_cases hlt2 : m < tk
      · have HF := Lib.hid (show whF l 0 = false by rw [HT.out, HD.out]; exact HST.out _ (.inr hlt2))
        have hlt3 : ((m : Nat) : Int) < ((tk : Nat) : Int) := by omega
        cases gd
        all_goals
          go_wp2
          go_ret
          exact ⟨ret_bool HF.out.symm, HB2.out⟩
      · have hlt3 : ¬ ((m : Nat) : Int) < ((tk : Nat) : Int) := by omega
        cases hgd : gd
        · have HF := Lib.hid (show whF l 0 = false by rw [HT.out, HD.out]; exact HST.out _ (.inl hgd))
          clear hgd
          go_wp2
          go_ret
          exact ⟨ret_bool HF.out.symm, HB2.out⟩
        · have HF := Lib.hid (show whF l 0 = whF (l.drop (k + 1)) (m - tk + 1) by rw [HT.out, HD.out]; exact HGO.out _ hgd hlt2)
          clear hgd
          go_wp2
          exact ⟨⟨k + 1, m - tk + 1, by omega, by go_num, by omega, by
            congr 1
            first | omega | (unfold wrap64; omega), HB2, HF⟩, by simp [intOf]; omega⟩
    · have hk' : k = n := by omega
      subst hk'
      have HF := Lib.hid (show whF l 0 = (m == 1) by rw [HT.out, List.drop_of_length_le (by rw [HN.out]; exact Nat.le_refl _)]; rfl)
      by_cases h1 : m = 1
      · subst h1
        go_wp2
        go_ret
        exact ⟨ret_bool HF.out.symm, HB.out⟩
      · have h2 : (((m : Nat) : Int) == 1) = false := by simp; omega
        go_wp2
        go_ret
        exact ⟨ret_bool (by rw [HF.out]; symm; simpa using h1), HB.out⟩
end
end Go.Proofs.YtlpdjfimefjmcaaGreat

/- Package names: whether a statement fits. (Written by a program.) -/
namespace Go.Proofs.YtlpdjfimefjmcaaGreat
open Go Go.RowKit Go.Proofs.Mm

/-- A form as a value. -/
def cnI : Option Nat → Int
  | none => -1
  | some k => (k : Int)
def fmV (x : Bool × Option Nat × Option Nat) : Value := .agg #[.bool x.1, .int .i64 (cnI x.2.1), .int .i64 (cnI x.2.2)]
def foV : Option (Bool × Option Nat × Option Nat) → Value
  | some x => .tuple #[fmV x, .bool true]
  | none => .tuple #[.agg #[.bool false, .int .i64 0, .int .i64 0], .bool false]
section
variable {W : World}
set_option maxRecDepth 100000 in
set_option maxHeartbeats 1000000 in
theorem formOf_p (k : Int) (W : World) : Calls Tryz.prog 25 #[.int .i64 k] W (RetB (foV (formZ k)) W) := by
  by_cases h1 : k = 1
  · subst h1
    show Calls _ _ _ _ (RetB (foV (some (false, some 1, some 1))) W)
    go_enter Tryz.func25, Tryz.ntmps25
    go_wp2
    exact bodyPost_ret (v := foV (some (false, some 1, some 1))) (by simp [results, Tryz.results25, go_sem, foV, fmV, cnI]) rfl ⟨rfl, by repeat (first | exact Below.refl _ _ | refine bl_al ?_ _ | refine bl_dr ?_)⟩
  by_cases h2 : k = 2
  · subst h2
    show Calls _ _ _ _ (RetB (foV (some (true, some 0, some 2))) W)
    go_enter Tryz.func25, Tryz.ntmps25
    go_wp2
    exact bodyPost_ret (v := foV (some (true, some 0, some 2))) (by simp [results, Tryz.results25, go_sem, foV, fmV, cnI]) rfl ⟨rfl, by repeat (first | exact Below.refl _ _ | refine bl_al ?_ _ | refine bl_dr ?_)⟩
  by_cases h3 : k = 3
  · subst h3
    show Calls _ _ _ _ (RetB (foV (some (true, some 0, some 1))) W)
    go_enter Tryz.func25, Tryz.ntmps25
    go_wp2
    exact bodyPost_ret (v := foV (some (true, some 0, some 1))) (by simp [results, Tryz.results25, go_sem, foV, fmV, cnI]) rfl ⟨rfl, by repeat (first | exact Below.refl _ _ | refine bl_al ?_ _ | refine bl_dr ?_)⟩
  by_cases h4 : k = 4
  · subst h4
    show Calls _ _ _ _ (RetB (foV (some (true, none, none))) W)
    go_enter Tryz.func25, Tryz.ntmps25
    go_wp2
    exact bodyPost_ret (v := foV (some (true, none, none))) (by simp [results, Tryz.results25, go_sem, foV, fmV, cnI]) rfl ⟨rfl, by repeat (first | exact Below.refl _ _ | refine bl_al ?_ _ | refine bl_dr ?_)⟩
  by_cases h5 : k = 5
  · subst h5
    show Calls _ _ _ _ (RetB (foV (some (false, some 0, some 1))) W)
    go_enter Tryz.func25, Tryz.ntmps25
    go_wp2
    exact bodyPost_ret (v := foV (some (false, some 0, some 1))) (by simp [results, Tryz.results25, go_sem, foV, fmV, cnI]) rfl ⟨rfl, by repeat (first | exact Below.refl _ _ | refine bl_al ?_ _ | refine bl_dr ?_)⟩
  by_cases h6 : k = 6
  · subst h6
    show Calls _ _ _ _ (RetB (foV (some (false, some 0, some 0))) W)
    go_enter Tryz.func25, Tryz.ntmps25
    go_wp2
    exact bodyPost_ret (v := foV (some (false, some 0, some 0))) (by simp [results, Tryz.results25, go_sem, foV, fmV, cnI]) rfl ⟨rfl, by repeat (first | exact Below.refl _ _ | refine bl_al ?_ _ | refine bl_dr ?_)⟩
  by_cases h7 : k = 7
  · subst h7
    show Calls _ _ _ _ (RetB (foV (some (false, some 0, some 1))) W)
    go_enter Tryz.func25, Tryz.ntmps25
    go_wp2
    exact bodyPost_ret (v := foV (some (false, some 0, some 1))) (by simp [results, Tryz.results25, go_sem, foV, fmV, cnI]) rfl ⟨rfl, by repeat (first | exact Below.refl _ _ | refine bl_al ?_ _ | refine bl_dr ?_)⟩
  by_cases h8 : k = 8
  · subst h8
    show Calls _ _ _ _ (RetB (foV (some (false, some 0, some 0))) W)
    go_enter Tryz.func25, Tryz.ntmps25
    go_wp2
    exact bodyPost_ret (v := foV (some (false, some 0, some 0))) (by simp [results, Tryz.results25, go_sem, foV, fmV, cnI]) rfl ⟨rfl, by repeat (first | exact Below.refl _ _ | refine bl_al ?_ _ | refine bl_dr ?_)⟩
  by_cases h9 : k = 9
  · subst h9
    show Calls _ _ _ _ (RetB (foV (some (false, some 0, none))) W)
    go_enter Tryz.func25, Tryz.ntmps25
    go_wp2
    exact bodyPost_ret (v := foV (some (false, some 0, none))) (by simp [results, Tryz.results25, go_sem, foV, fmV, cnI]) rfl ⟨rfl, by repeat (first | exact Below.refl _ _ | refine bl_al ?_ _ | refine bl_dr ?_)⟩
  have hz : formZ k = none := by
    unfold formZ
    rw [if_neg h1, if_neg h2, if_neg h3, if_neg h4, if_neg (by omega), if_neg (by omega), if_neg h9]
  rw [hz]
  have e1 : (k == 1) = false := by simpa using h1
  have e2 : (k == 2) = false := by simpa using h2
  have e3 : (k == 3) = false := by simpa using h3
  have e4 : (k == 4) = false := by simpa using h4
  have e5 : (k == 5) = false := by simpa using h5
  have e6 : (k == 6) = false := by simpa using h6
  have e7 : (k == 7) = false := by simpa using h7
  have e8 : (k == 8) = false := by simpa using h8
  have e9 : (k == 9) = false := by simpa using h9
  clear h1 h2 h3 h4 h5 h6 h7 h8 h9 hz
  go_enter Tryz.func25, Tryz.ntmps25
  go_wp2
  exact bodyPost_ret (v := foV none) (by simp [results, Tryz.results25, go_sem, foV]) rfl ⟨rfl, by repeat (first | exact Below.refl _ _ | refine bl_al ?_ _ | refine bl_dr ?_)⟩
theorem isCount_p (n : Nat) (x : Option Nat) (W : World) : Calls Tryz.prog 48 #[.int .i64 (n : Int), .int .i64 (cnI x)] W fun e w' => e = .returned (.bool (isC n x)) ∧ W = w' := by
  cases x with
  | none =>
    show Calls Tryz.prog 48 #[.int .i64 (n : Int), .int .i64 (-1)] W _
    go_enter Tryz.func48, Tryz.ntmps48
    go_wp2
    go_ret
    exact ⟨rfl, rfl⟩
  | some m =>
    show Calls Tryz.prog 48 #[.int .i64 (n : Int), .int .i64 (m : Int)] W _
    have h1 : ((m : Int) == -1) = false := by rw [beq_eq_false_iff_ne]; omega
    go_enter Tryz.func48, Tryz.ntmps48
    go_wp2
    go_ret
    exact ⟨ret_bool (by rw [Bool.eq_iff_iff]; first | (simp [isC]; done) | (simp [isC]; omega)), rfl⟩
/-- A statement as a value. -/
def stV (x : StZ) (qt : Option Addr) (ct : Nat) (qe : Option Addr) (ce : Nat) : Value := .agg #[.int .i64 x.kind, .string x.name, .slice qt x.targets.length ct, .slice qe x.exprs.length ce]
set_option maxRecDepth 100000 in
set_option maxHeartbeats 2000000 in
theorem matches_p (x : StZ) (qt : Option Addr) (ct : Nat) (qe : Option Addr) (ce : Nat) (nd : Bool) (tg ex : Option Nat) (W : World) :
    Calls Tryz.prog 26 #[fmV (nd, tg, ex), stV x qt ct qe ce] W (RetB (.bool ((if nd then nameZ x.name else x.name.toList.isEmpty) && isC x.targets.length tg && isC x.exprs.length ex)) W) := by
  obtain ⟨kd, nm, ts, es⟩ := x
  unfold fmV stV
  simp only
  have HT := Lib.hid (fun W => isCount_p ts.length tg W)
  have HE := Lib.hid (fun W => isCount_p es.length ex W)
  have HN := Lib.hid (fun W => name_p nm W)
  generalize ts.length = nt at *
  generalize es.length = ne at *
  generalize isC nt tg = b1 at *
  generalize isC ne ex = b2 at *
  generalize cnI tg = z1 at *
  generalize cnI ex = z2 at *
  generalize nameZ nm = b3 at *
  cases nd
  · rw [if_neg (by decide)]
    cases hs : nm.toList.isEmpty
    · go_enter Tryz.func26, Tryz.ntmps26
      go_wp2
      go_ret
      exact ⟨rfl, by repeat (first | exact Below.refl _ _ | refine bl_al ?_ _ | refine bl_dr ?_)⟩
    · go_enter Tryz.func26, Tryz.ntmps26
      go_wp2_with fail
      go_at_call 48
      refine (HT.out _).mono ?_
      rintro e w1 ⟨rfl, rfl⟩
      cases b1
      · go_wp2
        go_ret
        exact ⟨rfl, by repeat (first | exact Below.refl _ _ | refine bl_al ?_ _ | refine bl_dr ?_)⟩
      · go_wp2_with fail
        go_at_call 48
        refine (HE.out _).mono ?_
        rintro e w1 ⟨rfl, rfl⟩
        go_wp2
        go_ret
        exact ⟨rfl, by repeat (first | exact Below.refl _ _ | refine bl_al ?_ _ | refine bl_dr ?_)⟩
  · rw [if_pos rfl]
    cases b3
    · go_enter Tryz.func26, Tryz.ntmps26
      go_wp2_with (go_at_call 8; refine (HN.out _).mono ?_; rintro e w1 ⟨rfl, rfl⟩)
      go_ret
      exact ⟨rfl, by repeat (first | exact Below.refl _ _ | refine bl_al ?_ _ | refine bl_dr ?_)⟩
    · go_enter Tryz.func26, Tryz.ntmps26
      go_wp2_with fail
      go_at_call 8
      refine (HN.out _).mono ?_
      rintro e w1 ⟨rfl, rfl⟩
      go_wp2_with fail
      go_at_call 48
      refine (HT.out _).mono ?_
      rintro e w1 ⟨rfl, rfl⟩
      cases b1
      · go_wp2
        go_ret
        exact ⟨rfl, by repeat (first | exact Below.refl _ _ | refine bl_al ?_ _ | refine bl_dr ?_)⟩
      · go_wp2_with fail
        go_at_call 48
        refine (HE.out _).mono ?_
        rintro e w1 ⟨rfl, rfl⟩
        go_wp2
        go_ret
        exact ⟨rfl, by repeat (first | exact Below.refl _ _ | refine bl_al ?_ _ | refine bl_dr ?_)⟩
theorem fitZ_none {x : StZ} (h : formZ x.kind = none) : fitZ x = false := by unfold fitZ; rw [h]
theorem fitZ_some {x : StZ} {nd : Bool} {tg ex : Option Nat} (h : formZ x.kind = some (nd, tg, ex)) : fitZ x = ((((if nd then nameZ x.name else x.name.toList.isEmpty) && isC x.targets.length tg && isC x.exprs.length ex) && x.targets.all nameZ) && x.exprs.all fun e => whF e 0) := by unfold fitZ; rw [h]
set_option maxRecDepth 100000 in
set_option maxHeartbeats 4000000 in
theorem fits_p {lt : Bool} {C : Cl} (x : StZ) {qt : Option Addr} {ct : Nat} {qe : Option Addr} {ce : Nat} (ht : StrR lt C (.slice qt x.targets.length ct) x.targets) (he : ExsR lt C (.slice qe x.exprs.length ce) x.exprs) (hC : CLe C (wC W)) :
    Calls Tryz.prog 11 #[stV x qt ct qe ce] W (RetB (.bool (fitZ x)) W) := by
  have eN : Ent 8 := ent_of Tryz.func8 (by kernel_rfl) rfl
  have eW : Ent 29 := ent_of Tryz.func29 (by kernel_rfl) rfl
  have hlt := slx_len ht
  have hle := slx_len he
  have HF := Lib.hid (fun W => formOf_p x.kind W)
  have HM := Lib.hid (fun nd tg ex W => matches_p x qt ct qe ce nd tg ex W)
  have HT := Lib.hid (fun (w : World) (hb : Below W.heap.size W w) => allSr_p (W := w) (c := ct) (by omega) ht.cells (hC.trans (below_cle hb)) eN (ca := #[]) nameZ (fun k hk w' _ => (name_p _ w').mono (fun _ _ h => RetB.of_eq h)))
  have HE := Lib.hid (fun (w : World) (hb : Below W.heap.size W w) => allEx_p (W := w) (c := ce) (by omega) he.cells (hC.trans (below_cle hb)) eW (ca := #[]) (fun e => whF e 0) (fun k hk qe ce hx w' hb' => whole_p _ (by have := slx_len hx; omega) hx.cells ((hC.trans (below_cle hb)).trans (below_cle hb'))))
  have HZ0 := Lib.hid (fun h => fitZ_none (x := x) h)
  have HZ1 := Lib.hid (fun nd tg ex h => fitZ_some (x := x) (nd := nd) (tg := tg) (ex := ex) h)
  clear ht he hC hlt hle eN eW
  unfold stV at HM ⊢
  obtain ⟨kd, nm, ts, es⟩ := x
  simp only at HF HM HT HE HZ0 HZ1 ⊢
  generalize ts.length = nt at *
  generalize es.length = ne at *
  generalize ts.all nameZ = b1 at *
  generalize (es.all fun e => whF e 0) = b2 at *
  cases hf : formZ kd with
  | none =>
    have HZ2 := Lib.hid (HZ0.out hf)
    rw [hf] at HF
    clear hf HZ0 HZ1
    go_enter Tryz.func11, Tryz.ntmps11
    go_wp2_with fail
    go_at_call 25
    refine (HF.out _).mono ?_
    rintro e w1 ⟨rfl, hb1⟩
    have HB := Lib.hid (bl_tr (bl_al (Below.refl W.heap.size W) _) hb1)
    clear hb1
    unfold foV
    go_wp2
    go_ret
    exact ⟨ret_bool HZ2.out.symm, by repeat (first | exact HB.out | refine bl_al ?_ _ | refine bl_dr ?_)⟩
  | some z =>
    obtain ⟨nd, tg, ex⟩ := z
    have HZ2 := Lib.hid (HZ1.out nd tg ex hf)
    rw [hf] at HF
    clear hf HZ0 HZ1
    have HM2 := Lib.hid (fun W => HM.out nd tg ex W)
    try simp only at HZ2 HM2
    generalize ((if nd = true then nameZ nm else nm.toList.isEmpty) && isC nt tg && isC ne ex) = b0 at *
    simp only [foV, fmV] at HF
    simp only [fmV] at HM2
    generalize cnI tg = z1 at *
    generalize cnI ex = z2 at *
    clear HM
    go_enter Tryz.func11, Tryz.ntmps11
    go_wp2_with fail
    go_at_call 25
    refine (HF.out _).mono ?_
    rintro e w1 ⟨rfl, hb1⟩
    obtain ⟨bx, hbx⟩ : ∃ bx, W.heap.size = bx := ⟨_, rfl⟩
    have hrow0 : (W.alloc (.cells #[.int .i64 kd, .string nm, .slice qt nt ct, .slice qe ne ce] 47)).heap[bx]? = some (.cells #[.int .i64 kd, .string nm, .slice qt nt ct, .slice qe ne ce] 47 (0, 0)) := by rw [← hbx]; exact World.alloc_heap_new _ _
    have HSZ := Lib.hid (show bx < (W.alloc (.cells #[.int .i64 kd, .string nm, .slice qt nt ct, .slice qe ne ce] 47)).heap.size by simp [hbx])
    have hr1 := (hb1.block bx HSZ.out).trans hrow0
    have HR1 := Lib.hid hr1
    have HS1 := Lib.hid (Nat.lt_of_lt_of_le HSZ.out hb1.size)
    have HB := Lib.hid (bl_tr (bl_al (Below.refl W.heap.size W) _) hb1)
    have g0 := cell_of (j := 0) hr1 rfl
    have g1 := cell_of (j := 1) hr1 rfl
    have g2 := cell_of (j := 2) hr1 rfl
    have g3 := cell_of (j := 3) hr1 rfl
    have HBX := Lib.hid hbx
    clear hb1 hrow0 hr1 HSZ
    try rw [HBX.out]
    have hs1 := HS1.out
    go_wp2_with fail
    clear hs1
    generalize hw2 : w1.alloc (.cells #[.bool nd, .int .i64 z1, .int .i64 z2] 75) = w2 at *
    have HB2 := Lib.hid (show Below W.heap.size W w2 by rw [← hw2]; exact bl_al HB.out _)
    have HR2 := Lib.hid (show w2.heap[bx]? = some (.cells #[.int .i64 kd, .string nm, .slice qt nt ct, .slice qe ne ce] 47 (0, 0)) by rw [← hw2]; exact heap_new _ _ HR1.out)
    have HS2 := Lib.hid (heap_lt HR2.out)
    go_at_call 26
    refine (HM2.out _).mono ?_
    rintro e w3 ⟨rfl, hb3⟩
    have HB3 := Lib.hid (bl_tr HB2.out hb3)
    have HR3 := Lib.hid ((hb3.block bx HS2.out).trans HR2.out)
    clear hb3 hw2
    cases b0
    · go_wp2
      go_ret
      exact ⟨ret_bool (by rw [HZ2.out]; rfl), HB3.out⟩
    · have k0 := cell_of (j := 0) HR3.out rfl
      have k1 := cell_of (j := 1) HR3.out rfl
      have k2 := cell_of (j := 2) HR3.out rfl
      have k3 := cell_of (j := 3) HR3.out rfl
      have HS3 := Lib.hid (heap_lt HR3.out)
      clear g0 g1 g2 g3
      go_wp2_with fail
      go_at_call 27
      refine (HT.out _ HB3.out).mono ?_
      rintro e w4 ⟨rfl, hb4⟩
      have HB4 := Lib.hid (bl_tr HB3.out hb4)
      have HR4 := Lib.hid ((hb4.block bx HS3.out).trans HR3.out)
      clear hb4 k0 k1 k2 k3
      cases b1
      · go_wp2
        go_ret
        exact ⟨ret_bool (by rw [HZ2.out]; rfl), HB4.out⟩
      · have k0 := cell_of (j := 0) HR4.out rfl
        have k1 := cell_of (j := 1) HR4.out rfl
        have k2 := cell_of (j := 2) HR4.out rfl
        have k3 := cell_of (j := 3) HR4.out rfl
        go_wp2_with fail
        go_at_call 28
        refine (HE.out _ HB4.out).mono ?_
        rintro e w5 ⟨rfl, hb5⟩
        have HB5 := Lib.hid (bl_tr HB4.out hb5)
        clear hb5 k0 k1 k2 k3
        go_wp2
        go_ret
        exact ⟨ret_bool (by rw [HZ2.out]; simp), HB5.out⟩
end
end Go.Proofs.YtlpdjfimefjmcaaGreat

/- Package names: sizes of a function, the grammar and the bulk of a statement. -/
namespace Go.Proofs.YtlpdjfimefjmcaaGreat
open Go Go.RowKit Go.Proofs.Mm

def fdA (d : FnZ) (qp : Option Addr) (cp : Nat) (qr : Option Addr) (cr : Nat) (qv : Option Addr) (cv : Nat) (qb : Option Addr) (cb : Nat) : Array Value := #[.string d.name, .int .u64 (d.level : Nat), .slice qp d.params.length cp, .slice qr d.results.length cr, .slice qv d.vars.length cv, .slice qb d.body.length cb]
def stA (x : StZ) (qt : Option Addr) (ct : Nat) (qe : Option Addr) (ce : Nat) : Array Value := #[.int .i64 x.kind, .string x.name, .slice qt x.targets.length ct, .slice qe x.exprs.length ce]
theorem Makes.mk {v : Value} {W w' : World} {K : Nat} {ca : Array Value} (hb : Below W.heap.size W w') (ek : Ent K) (h : ∀ w, Below w'.heap.size w' w → Calls Tryz.prog K ca w (RetB v w)) : Makes v W (.returned (.func (.func K) #[] ca)) w' :=
  ⟨_, rfl, hb, K, ca, rfl, ek, h⟩
section
variable {lt : Bool} {C : Cl} {W : World} {qp : Option Addr} {cp : Nat} {qr : Option Addr} {cr : Nat} {qv : Option Addr} {cv : Nat} {qb : Option Addr} {cb : Nat} {qt : Option Addr} {ct : Nat} {qe : Option Addr} {ce : Nat}
set_option maxRecDepth 100000 in
set_option maxHeartbeats 4000000 in
theorem sizesC_p (d : FnZ) (b : Nat) (h0 : InB W b (fdA d qp cp qr cr qv cv qb cb) 43) :
    Calls Tryz.prog 65 #[.pointer (some ⟨b, 0, none⟩)] W (RetB (.int .i64 ((unl (decide (d.params.length ≤ 8) && decide (d.results.length ≤ 4) && decide (d.vars.length ≤ 32) && decide (d.body.length ≤ 256)) 74 : Nat) : Int)) W) := by
  obtain ⟨nm, lv, ps, rs, vs, bs⟩ := d
  have x0 := h0.cell (j := 0) (v := .string nm) rfl
  have x1 := h0.cell (j := 1) (v := .int .u64 (lv : Nat)) rfl
  have x2 := h0.cell (j := 2) (v := .slice qp ps.length cp) rfl
  have x3 := h0.cell (j := 3) (v := .slice qr rs.length cr) rfl
  have x4 := h0.cell (j := 4) (v := .slice qv vs.length cv) rfl
  have x5 := h0.cell (j := 5) (v := .slice qb bs.length cb) rfl
  have hlt := h0.lt
  clear h0
  simp only
  generalize ps.length = n1 at *
  generalize rs.length = n2 at *
  generalize vs.length = n3 at *
  generalize bs.length = n4 at *
  have HU := unless_p
  by_cases h1 : n1 ≤ 8
  · have i1 : (n1 : Int) ≤ 8 := by omega
    by_cases h2 : n2 ≤ 4
    · have i2 : (n2 : Int) ≤ 4 := by omega
      by_cases h3 : n3 ≤ 32
      · have i3 : (n3 : Int) ≤ 32 := by omega
        by_cases h4 : n4 ≤ 256
        · have i4 : (n4 : Int) ≤ 256 := by omega
          simp only [decide_eq_true h1, decide_eq_true h2, decide_eq_true h3, decide_eq_true h4, Bool.true_and]
          go_enter Tryz.func65, Tryz.ntmps65
          go_wp2_with (go_at_call 66; refine (HU _ _ _).mono ?_; rintro e w2 ⟨rfl, rfl⟩)
          go_ret
          exact ⟨rfl, Below.refl _ _⟩
        · have i4 : ¬ (n4 : Int) ≤ 256 := by omega
          simp only [decide_eq_true h1, decide_eq_true h2, decide_eq_true h3, decide_eq_false h4, Bool.true_and]
          go_enter Tryz.func65, Tryz.ntmps65
          go_wp2_with (go_at_call 66; refine (HU _ _ _).mono ?_; rintro e w2 ⟨rfl, rfl⟩)
          go_ret
          exact ⟨rfl, Below.refl _ _⟩
      · have i3 : ¬ (n3 : Int) ≤ 32 := by omega
        simp only [decide_eq_true h1, decide_eq_true h2, decide_eq_false h3, Bool.true_and, Bool.false_and]
        go_enter Tryz.func65, Tryz.ntmps65
        go_wp2_with (go_at_call 66; refine (HU _ _ _).mono ?_; rintro e w2 ⟨rfl, rfl⟩)
        go_ret
        exact ⟨rfl, Below.refl _ _⟩
    · have i2 : ¬ (n2 : Int) ≤ 4 := by omega
      simp only [decide_eq_true h1, decide_eq_false h2, Bool.true_and, Bool.false_and]
      go_enter Tryz.func65, Tryz.ntmps65
      go_wp2_with (go_at_call 66; refine (HU _ _ _).mono ?_; rintro e w2 ⟨rfl, rfl⟩)
      go_ret
      exact ⟨rfl, Below.refl _ _⟩
  · have i1 : ¬ (n1 : Int) ≤ 8 := by omega
    simp only [decide_eq_false h1, Bool.false_and]
    go_enter Tryz.func65, Tryz.ntmps65
    go_wp2_with (go_at_call 66; refine (HU _ _ _).mono ?_; rintro e w2 ⟨rfl, rfl⟩)
    go_ret
    exact ⟨rfl, Below.refl _ _⟩
set_option maxRecDepth 100000 in
theorem sizes_p (d : FnZ) : Calls Tryz.prog 32 #[.agg (fdA d qp cp qr cr qv cv qb cb)] W (Makes (.int .i64 ((unl (decide (d.params.length ≤ 8) && decide (d.results.length ≤ 4) && decide (d.vars.length ≤ 32) && decide (d.body.length ≤ 256)) 74 : Nat) : Int)) W) := by
  have hmf : ∀ (fn : Fn) (first cap : Array Value) (w : World), (Instr.makeFunc fn first cap).run Tryz.prog w = .ok (.func fn first cap) w := fun _ _ _ _ => rfl
  have ek : Ent 65 := ent_of Tryz.func65 (by kernel_rfl) rfl
  have HI := Lib.hid (InB.new W (fdA d qp cp qr cr qv cv qb cb) 43)
  have HM := Lib.hid (fun (w' : World) (h : InB w' W.heap.size (fdA d qp cp qr cr qv cv qb cb) 43) w hb => sizesC_p (W := w) d W.heap.size (h.le hb))
  generalize unl _ 74 = E at *
  unfold fdA at HI HM ⊢
  go_enter Tryz.func32, Tryz.ntmps32
  go_wp2
  go_ret
  exact Makes.mk (bl_al (Below.refl _ _) _) ek (fun w hb => HM.out _ HI.out w hb)
set_option maxRecDepth 100000 in
theorem grammarC_p (x : StZ) (b : Nat) (h0 : InB W b (stA x qt ct qe ce) 47) (ht : StrR lt C (.slice qt x.targets.length ct) x.targets) (he : ExsR lt C (.slice qe x.exprs.length ce) x.exprs) (hC : CLe C (wC W)) :
    Calls Tryz.prog 77 #[.pointer (some ⟨b, 0, none⟩)] W (RetB (.int .i64 ((unl (fitZ x) 50 : Nat) : Int)) W) := by
  have HF := Lib.hid (fits_p x ht he hC)
  have x0 := h0.cell (j := 0) (v := .int .i64 x.kind) rfl
  have x1 := h0.cell (j := 1) (v := .string x.name) rfl
  have x2 := h0.cell (j := 2) (v := .slice qt x.targets.length ct) rfl
  have x3 := h0.cell (j := 3) (v := .slice qe x.exprs.length ce) rfl
  clear h0 ht he hC
  unfold stV at HF
  generalize fitZ x = r at *
  generalize x.kind = kd at *
  generalize x.name = nm at *
  generalize x.targets.length = nt at *
  generalize x.exprs.length = ne at *
  cases r
  all_goals
    go_enter Tryz.func77, Tryz.ntmps77
    go_wp2_with fail
    go_at_call 11
    refine HF.out.mono ?_
    rintro e w1 ⟨rfl, hb⟩
    go_wp2_with (go_at_call 66; refine (unless_p _ _ _).mono ?_; rintro e w2 ⟨rfl, rfl⟩)
    go_ret
    exact ⟨rfl, hb⟩
set_option maxRecDepth 100000 in
theorem grammar_p (x : StZ) (ht : StrR lt C (.slice qt x.targets.length ct) x.targets) (he : ExsR lt C (.slice qe x.exprs.length ce) x.exprs) (hC : CLe C (wC W)) :
    Calls Tryz.prog 36 #[.agg (stA x qt ct qe ce)] W (Makes (.int .i64 ((unl (fitZ x) 50 : Nat) : Int)) W) := by
  have hmf : ∀ (fn : Fn) (first cap : Array Value) (w : World), (Instr.makeFunc fn first cap).run Tryz.prog w = .ok (.func fn first cap) w := fun _ _ _ _ => rfl
  have ek : Ent 77 := ent_of Tryz.func77 (by kernel_rfl) rfl
  have HI := Lib.hid (InB.new W (stA x qt ct qe ce) 47)
  have HM := Lib.hid (fun (w' : World) (hW : Below W.heap.size W w') (h : InB w' W.heap.size (stA x qt ct qe ce) 47) w hb => grammarC_p (W := w) x W.heap.size (h.le hb) ht he (hC.trans (below_cle (bl_tr hW hb))))
  generalize unl _ 50 = E at *
  unfold stA at HI HM ⊢
  clear ht he hC
  go_enter Tryz.func36, Tryz.ntmps36
  go_wp2
  go_ret
  exact Makes.mk (bl_al (Below.refl _ _) _) ek (fun w hb => HM.out _ (bl_al (Below.refl _ _) _) HI.out w hb)
set_option maxRecDepth 100000 in
theorem short_p (n c : Nat) (q : Option Addr) (W : World) : Calls Tryz.prog 78 #[.slice q n c] W (RetB (.bool (decide (n ≤ 48))) W) := by
  by_cases h : n ≤ 48
  · have i1 : (n : Int) ≤ 48 := by omega
    rw [decide_eq_true h]
    go_enter Tryz.func78, Tryz.ntmps78
    go_wp2
    go_ret
    exact ⟨rfl, Below.refl _ _⟩
  · have i1 : ¬ (n : Int) ≤ 48 := by omega
    rw [decide_eq_false h]
    go_enter Tryz.func78, Tryz.ntmps78
    go_wp2
    go_ret
    exact ⟨rfl, Below.refl _ _⟩
def bulkE (x : StZ) : Nat := unl (decide (x.exprs.length ≤ 8) && x.exprs.all fun l => decide (l.length ≤ 48)) 74
set_option maxRecDepth 100000 in
set_option maxHeartbeats 1000000 in
theorem bulkC_p (x : StZ) (b b1 : Nat) (h0 : InB W b (stA x qt ct qe ce) 47) (h1 : W.cell? ⟨b1, 0, none⟩ = some (.func (.func 78) #[] #[])) (he : ExsR lt C (.slice qe x.exprs.length ce) x.exprs) (hC : CLe C (wC W)) :
    Calls Tryz.prog 79 #[.pointer (some ⟨b, 0, none⟩), .pointer (some ⟨b1, 0, none⟩)] W (RetB (.int .i64 ((bulkE x : Nat) : Int)) W) := by
  have ek : Ent 78 := ent_of Tryz.func78 (by kernel_rfl) rfl
  have hle := slx_len he
  have HA := Lib.hid (allEx_p (c := ce) (by omega) he.cells hC ek (ca := #[]) (fun l => decide (l.length ≤ 48)) (fun k hk qe ce _ w' _ => short_p _ _ _ w'))
  have HB := Lib.hid (show bulkE x = unl (decide (x.exprs.length ≤ 8) && x.exprs.all fun l => decide (l.length ≤ 48)) 74 from rfl)
  have x3 := h0.cell (j := 3) (v := .slice qe x.exprs.length ce) rfl
  have hlt := h0.lt
  clear h0 he hC hle ek
  generalize bulkE x = E at *
  generalize (x.exprs.all fun l => decide (l.length ≤ 48)) = r at *
  generalize x.exprs.length = ne at *
  by_cases h8 : ne ≤ 8
  · have i1 : (ne : Int) ≤ 8 := by omega
    have HB2 := Lib.hid (show E = unl r 74 by rw [HB.out, decide_eq_true h8, Bool.true_and])
    cases r
    all_goals
      go_enter Tryz.func79, Tryz.ntmps79
      go_wp2_with fail
      go_at_call 28
      refine HA.out.mono ?_
      rintro e w1 ⟨rfl, hb⟩
      go_wp2_with (go_at_call 66; refine (unless_p _ _ _).mono ?_; rintro e w2 ⟨rfl, rfl⟩)
      go_ret
      exact ⟨by rw [HB2.out]; rfl, hb⟩
  · have i1 : ¬ (ne : Int) ≤ 8 := by omega
    have HB2 := Lib.hid (show E = 74 by rw [HB.out, decide_eq_false h8, Bool.false_and]; rfl)
    go_enter Tryz.func79, Tryz.ntmps79
    go_wp2_with (go_at_call 66; refine (unless_p _ _ _).mono ?_; rintro e w2 ⟨rfl, rfl⟩)
    go_ret
    exact ⟨by rw [HB2.out]; rfl, Below.refl _ _⟩
set_option maxRecDepth 100000 in
theorem bulk_p (x : StZ) (he : ExsR lt C (.slice qe x.exprs.length ce) x.exprs) (hC : CLe C (wC W)) :
    Calls Tryz.prog 37 #[.agg (stA x qt ct qe ce)] W (Makes (.int .i64 ((bulkE x : Nat) : Int)) W) := by
  have hmf : ∀ (fn : Fn) (first cap : Array Value) (w : World), (Instr.makeFunc fn first cap).run Tryz.prog w = .ok (.func fn first cap) w := fun _ _ _ _ => rfl
  have ek : Ent 79 := ent_of Tryz.func79 (by kernel_rfl) rfl
  have HM := Lib.hid (fun (w' : World) (b1 : Nat) (hW : Below W.heap.size W w') (h : InB w' W.heap.size (stA x qt ct qe ce) 47) (h1 : w'.cell? ⟨b1, 0, none⟩ = some (.func (.func 78) #[] #[])) w hb => bulkC_p (W := w) x W.heap.size b1 (h.le hb) (cell_b h1 hb) he (hC.trans (below_cle (bl_tr hW hb))))
  generalize bulkE x = E at *
  unfold stA at HM ⊢
  clear he hC
  go_enter Tryz.func37, Tryz.ntmps37
  go_wp2
  go_ret
  refine Makes.mk (bl_al (bl_al (Below.refl _ _) _) _) ek (fun w hb => HM.out _ _ (bl_al (bl_al (Below.refl _ _) _) _) ?_ ?_ w hb)
  · exact (InB.new _ _ _).le (bl_al (Below.refl _ _) _)
  · exact new_cell' _ _ (by simp)
end
end Go.Proofs.YtlpdjfimefjmcaaGreat

/- Package names: what a statement uses. -/
namespace Go.Proofs.YtlpdjfimefjmcaaGreat
open Go Go.RowKit Go.Proofs.Mm

def usC (u : ByteArray × Nat) : List Value := [.string u.1, .int .i64 (u.2 : Int)]
def usCs (l : List (ByteArray × Nat)) : List Value := l.flatMap usC
theorem usCs_len (l : List (ByteArray × Nat)) : (usCs l).length = l.length * 2 := by
  induction l with
  | nil => rfl
  | cons x l ih => unfold usCs at ih ⊢; rw [List.flatMap_cons, List.length_append, ih, List.length_cons]; simp [usC]; omega
theorem usCs_app (l m : List (ByteArray × Nat)) : usCs (l ++ m) = usCs l ++ usCs m := List.flatMap_append
theorem usCs_one (u : ByteArray × Nat) : usCs [u] = usC u := by simp [usCs]
theorem usCs_cells (l : List (ByteArray × Nat)) : ∀ v ∈ usCs l, v.oneCell' = true := by
  intro v hv
  obtain ⟨u, _, h⟩ := List.mem_flatMap.1 hv
  simp only [usC, List.mem_cons, List.not_mem_nil, or_false] at h
  rcases h with rfl | rfl <;> rfl
theorem und_uses : Tryz.prog.underlying 120 = some (.slice 123) := by kernel_rfl
theorem infoUs : ∃ i, Tryz.prog.info? 123 = some i ∧ i.zero = some (.agg #[.string ⟨#[]⟩, .int .i64 0]) ∧ i.size = 2 ∧ i.bytes = 24 := by
  have h : (Tryz.prog.info? 123).map (fun i => (i.zero, i.size, i.bytes)) = some (some (.agg #[.string ⟨#[]⟩, .int .i64 0]), 2, 24) := by kernel_rfl
  cases hi : Tryz.prog.info? 123 with
  | none => rw [hi] at h; cases h
  | some i =>
    rw [hi] at h
    simp only [Option.map_some, Option.some.injEq, Prod.mk.injEq] at h
    exact ⟨i, rfl, h.1, h.2.1, h.2.2⟩
/-- A row of uses, of the call's own. -/
def UsO (B : Nat) (w : World) (v : Value) (l : List (ByteArray × Nat)) : Prop := w.ownsRow B 123 2 v l.length (usCs l)
section
variable {lt : Bool} {C : Cl} {W : World} {q : Option Addr} {c : Nat}
set_option maxRecDepth 100000 in
set_option maxHeartbeats 4000000 in
theorem usesIn_p (l : List TmZ) (hl : l.length ≤ 4398046511104) (hrow : TmAt C q l) (hC : CLe C (wC W)) :
    Calls Tryz.prog 103 #[.slice q l.length c] W fun e w' => ∃ v, e = .returned v ∧ Below W.heap.size W w' ∧ UsO W.heap.size w' v (usesT l) := by
  obtain ⟨i2, h2, h3, h4, h5⟩ := infoUs
  have HA := Lib.hid hrow
  have HCC := Lib.hid hC
  obtain ⟨n, hn⟩ : ∃ n, l.length = n := ⟨_, rfl⟩
  have HN := Lib.hid hn
  rw [hn] at hl ⊢
  clear hrow hC hn
  go_enter Tryz.func103, Tryz.ntmps103
  go_wp2
  go_loopw [3, 8] (fun v i wr => ∃ k : Nat, ∃ qv : Option Addr, ∃ m cv : Nat, k ≤ n ∧ i = .int .i64 k ∧ v = .slice qv m cv ∧ m ≤ k ∧ m = (usesT (l.take k)).length ∧ Hid (Below W.heap.size W wr) ∧ Hid (wr.ownsRow W.heap.size 123 2 (.slice qv m cv) m (usCs (usesT (l.take k))))) (fun _ i _ => n - (intOf i).toNat)
  case atStart => exact ⟨0, none, 0, 0, Nat.zero_le _, rfl, rfl, Nat.le_refl _, rfl, Lib.hid (Below.refl _ _), Lib.hid (World.ownsRow_nil _ _ _ _)⟩
  case round =>
    obtain ⟨k, qv, m, cv, hk, rfl, rfl, hmk, hml, HB, HO⟩ := hrel
    have hsz := HB.out.size
    by_cases hlt : k < n
    · have hk1 : k < l.length := by rw [HN.out]; exact hlt
      obtain ⟨g, o, rfl, a0, a1, a2⟩ := HA.out k hk1
      have e0 := below_cle HB.out _ _ (HCC.out _ _ a0)
      have e1 := below_cle HB.out _ _ (HCC.out _ _ a1)
      have e2 := below_cle HB.out _ _ (HCC.out _ _ a2)
      unfold wC at e0 e1 e2
      have HTK := Lib.hid (show usesT (l.take (k + 1)) = usesT (l.take k) ++ (if l[k].kind = 2 then [(l[k].name, 2)] else if l[k].kind = 3 then [(l[k].name, 3)] else []) by
        rw [List.take_succ_eq_append_getElem hk1]; unfold usesT; rw [List.flatMap_append]; simp)
      have HML := Lib.hid hml
      clear a0 a1 a2 hml
      generalize l[k] = x at *
      obtain ⟨kd, vl, nm⟩ := x
      simp only at e0 e1 e2
      have hki : (k : Int) < (n : Int) := by omega
      have hg : g < wr.heap.size := cell_lt e0
      have HKK := Lib.hid hmk
      clear hk1
      by_cases hk2 : kd = 2
      · subst hk2
        have HTK2 := Lib.hid (show usCs (usesT (l.take (k + 1))) = usCs (usesT (l.take k)) ++ usC (nm, 2) by rw [HTK.out, if_pos rfl, usCs_app, usCs_one])
        have HLN := Lib.hid (show m + 1 = (usesT (l.take (k + 1))).length by rw [HTK.out, if_pos rfl, List.length_append, ← HML.out]; rfl)
        have hrow1 := (HO.out.alloc (.cells #[.int .i64 2, .int .i64 vl, .string nm] 62)).alloc (.cells (usC (nm, 2)).toArray 123)
        have hone : ∀ u ∈ usC (nm, 2), u.oneCell' = true := fun u hu => usCs_cells [(nm, 2)] u (by rw [usCs_one]; exact hu)
        have hnew := row_new (wr.alloc (.cells #[.int .i64 2, .int .i64 vl, .string nm] 62)) (usC (nm, 2)) 123
        rw [World.size_alloc] at hnew
        have HB1 := Lib.hid (bl_al (bl_al HB.out (.cells #[.int .i64 2, .int .i64 vl, .string nm] 62)) (.cells (usC (nm, 2)).toArray 123))
        go_wp2_with (at_builtin; refine wpList_append_own _ rfl _ _ 120 rfl W.heap.size 123 i2 _ 2 24 und_uses h2 h3 h4 h5 rfl (by decide) _ m (usCs (usesT (l.take k))) rfl hrow1 ⟨wr.heap.size + 1, 0, none⟩ 1 1 (usC (nm, 2)) rfl rfl hnew hone (by unfold maxLen; omega) (by omega) (by simp <;> omega) ?_)
        intro v2 w2 hR2 hg2 _
        obtain ⟨q2, c2, rfl⟩ := own_shape hR2
        have HB2 := Lib.hid (grown_below HB1.out HB1.out.size hg2 (fun j hj => (hrow1.lt j hj).1))
        have HO2 := Lib.hid hR2
        clear hg2 hrow1 hnew hR2
        go_wp2
        exact ⟨⟨k + 1, q2, m + 1, c2, by omega, by go_num, rfl, by have := HKK.out; omega, HLN.out, HB2, Lib.hid (by rw [HTK2.out]; exact HO2.out)⟩, by simp [intOf]; omega⟩
      by_cases hk3 : kd = 3
      · subst hk3
        have HTK2 := Lib.hid (show usCs (usesT (l.take (k + 1))) = usCs (usesT (l.take k)) ++ usC (nm, 3) by rw [HTK.out, if_neg (show ¬ ((3 : Int) = 2) by decide), if_pos rfl, usCs_app, usCs_one])
        have HLN := Lib.hid (show m + 1 = (usesT (l.take (k + 1))).length by rw [HTK.out, if_neg (show ¬ ((3 : Int) = 2) by decide), if_pos rfl, List.length_append, ← HML.out]; rfl)
        have hrow1 := (HO.out.alloc (.cells #[.int .i64 3, .int .i64 vl, .string nm] 62)).alloc (.cells (usC (nm, 3)).toArray 123)
        have hone : ∀ u ∈ usC (nm, 3), u.oneCell' = true := fun u hu => usCs_cells [(nm, 3)] u (by rw [usCs_one]; exact hu)
        have hnew := row_new (wr.alloc (.cells #[.int .i64 3, .int .i64 vl, .string nm] 62)) (usC (nm, 3)) 123
        rw [World.size_alloc] at hnew
        have HB1 := Lib.hid (bl_al (bl_al HB.out (.cells #[.int .i64 3, .int .i64 vl, .string nm] 62)) (.cells (usC (nm, 3)).toArray 123))
        go_wp2_with (at_builtin; refine wpList_append_own _ rfl _ _ 120 rfl W.heap.size 123 i2 _ 2 24 und_uses h2 h3 h4 h5 rfl (by decide) _ m (usCs (usesT (l.take k))) rfl hrow1 ⟨wr.heap.size + 1, 0, none⟩ 1 1 (usC (nm, 3)) rfl rfl hnew hone (by unfold maxLen; omega) (by omega) (by simp <;> omega) ?_)
        intro v2 w2 hR2 hg2 _
        obtain ⟨q2, c2, rfl⟩ := own_shape hR2
        have HB2 := Lib.hid (grown_below HB1.out HB1.out.size hg2 (fun j hj => (hrow1.lt j hj).1))
        have HO2 := Lib.hid hR2
        clear hg2 hrow1 hnew hR2
        go_wp2
        exact ⟨⟨k + 1, q2, m + 1, c2, by omega, by go_num, rfl, by have := HKK.out; omega, HLN.out, HB2, Lib.hid (by rw [HTK2.out]; exact HO2.out)⟩, by simp [intOf]; omega⟩
      have HTK2 := Lib.hid (show usesT (l.take (k + 1)) = usesT (l.take k) by rw [HTK.out, if_neg hk2, if_neg hk3, List.append_nil])
      have e5 : (kd == 2) = false := by rw [beq_eq_false_iff_ne]; exact hk2
      have e6 : (kd == 3) = false := by rw [beq_eq_false_iff_ne]; exact hk3
      have HB1 := Lib.hid (bl_al HB.out (.cells #[.int .i64 kd, .int .i64 vl, .string nm] 62))
      have HO1 := Lib.hid (HO.out.alloc (.cells #[.int .i64 kd, .int .i64 vl, .string nm] 62))
      clear hk2 hk3
      go_wp2
      exact ⟨⟨k + 1, qv, m, cv, by omega, by go_num, rfl, by have := HKK.out; omega, by rw [HTK2.out]; exact HML.out, HB1, Lib.hid (by rw [HTK2.out]; exact HO1.out)⟩, by simp [intOf]; omega⟩
    · have hk' : k = n := by omega
      subst hk'
      have HL := Lib.hid (show usesT (l.take k) = usesT l by rw [List.take_of_length_le (by rw [HN.out]; exact Nat.le_refl _)])
      have HML := Lib.hid hml
      clear hml
      go_wp2
      go_ret
      exact ⟨_, rfl, HB.out, by unfold UsO; rw [← HL.out, ← HML.out]; exact HO.out⟩
end
end Go.Proofs.YtlpdjfimefjmcaaGreat

/- Package names: all that a statement uses. (Written by a program.) -/
namespace Go.Proofs.YtlpdjfimefjmcaaGreat
open Go Go.RowKit Go.Proofs.Mm

theorem own_rd {w : World} {B size n c : Nat} {E : TypeId} {q : Option Addr} {xs : List Value} (h : w.ownsRow B E size (.slice q n c) n xs) : (q = none ∧ n = 0 ∧ c = 0 ∧ xs = []) ∨ ∃ g, q = some ⟨g, 0, none⟩ ∧ ∀ j u, xs[j]? = some u → w.cell? ⟨g, j, none⟩ = some u := by
  obtain ⟨h1, ⟨h2, h0⟩ | ⟨g, cap, cur, h2, h3, h4, h5, h6, h7, h8⟩⟩ := h
  · injection h2 with a b c
    subst h0
    exact .inl ⟨a, rfl, c, List.eq_nil_of_length_eq_zero (by simpa using h1)⟩
  · injection h2 with a b c
    refine .inr ⟨g, a, fun j u hu => ?_⟩
    rw [← h8, List.getElem?_take] at hu
    split at hu
    · rw [cell_of_row w g j cur E (0, 0) h4]
      simpa using hu
    · cases hu
theorem own_lower {V : World} {B B' size m : Nat} {e : TypeId} {v : Value} {xs : List Value} (h : V.ownsRow B e size v m xs) (hb : B' ≤ B) : V.ownsRow B' e size v m xs := by
  refine ⟨h.1, ?_⟩
  rcases h.2 with h | ⟨g, cap, cur, h1, h2, h3⟩
  · exact .inl h
  · exact .inr ⟨g, cap, cur, h1, Nat.le_trans hb h2, h3⟩
theorem own_bel {w w' : World} {B size n : Nat} {E : TypeId} {v : Value} {xs : List Value} (h : w.ownsRow B E size v n xs) (hb : Below w.heap.size w w') : w'.ownsRow B E size v n xs := by
  refine ⟨h.1, ?_⟩
  rcases h.2 with h0 | ⟨g, cap, cur, rfl, h2, hg, rest⟩
  · exact .inl h0
  · exact .inr ⟨g, cap, cur, rfl, h2, (hb.block g (heap_lt hg)).trans hg, rest⟩
theorem usesT_len (l : List TmZ) : (usesT l).length ≤ l.length := by
  induction l with
  | nil => exact Nat.le_refl _
  | cons x l ih =>
    unfold usesT at ih ⊢
    rw [List.flatMap_cons, List.length_append, List.length_cons]
    split
    · simp only [List.length_singleton]; omega
    · split
      · simp only [List.length_singleton]; omega
      · simp only [List.length_nil]; omega
theorem usesE_len : ∀ (l : List (List TmZ)), (∀ e ∈ l, e.length ≤ 48) → (l.flatMap usesT).length ≤ l.length * 48
  | [], _ => by simp
  | e :: l, h => by
    rw [List.flatMap_cons, List.length_append, List.length_cons]
    have h1 := usesE_len l (fun e he => h e (List.mem_cons_of_mem _ he))
    have h2 := usesT_len e
    have h3 := h e (List.mem_cons_self ..)
    omega
section
variable {lt : Bool} {C : Cl} {W : World} {qt : Option Addr} {ct : Nat} {qe : Option Addr} {ce : Nat}
set_option maxRecDepth 100000 in
set_option maxHeartbeats 8000000 in
theorem usesOf_p (x : StZ) (ht : StrR lt C (.slice qt x.targets.length ct) x.targets) (he : ExsR lt C (.slice qe x.exprs.length ce) x.exprs) (hC : CLe C (wC W)) (hs1 : x.targets.length ≤ 8796093021952) (hs2 : x.exprs.length ≤ 8) (hs3 : ∀ e ∈ x.exprs, e.length ≤ 48) :
    Calls Tryz.prog 81 #[.agg (stA x qt ct qe ce)] W fun e w' => ∃ v, e = .returned v ∧ Below W.heap.size W w' ∧ UsO W.heap.size w' v (usesZ x) := by
  obtain ⟨i2, h2, h3, h4, h5⟩ := infoUs
  obtain ⟨kd, nm, ts, es⟩ := x
  have HAT := Lib.hid ht.cells
  have HAE := Lib.hid he.cells
  have HCC := Lib.hid hC
  have HES := Lib.hid hs3
  have HUZ := Lib.hid (show usesZ ⟨kd, nm, ts, es⟩ = ts.map (fun n => (n, 2)) ++ ((if kd = 2 then [(nm, 3)] else if kd = 3 then [(nm, 4)] else if kd = 4 then [(nm, 5)] else []) ++ es.flatMap usesT) from rfl)
  clear ht he hC hs3
  generalize usesZ ⟨kd, nm, ts, es⟩ = UZ at *
  unfold stA
  simp only at *
  obtain ⟨nt, hnt⟩ : ∃ nt, ts.length = nt := ⟨_, rfl⟩
  obtain ⟨ne, hne⟩ : ∃ ne, es.length = ne := ⟨_, rfl⟩
  have HNT := Lib.hid hnt
  have HNE := Lib.hid hne
  rw [hnt] at hs1 ⊢
  rw [hne] at hs2 ⊢
  clear hnt hne
  obtain ⟨b, hb⟩ : ∃ b, W.heap.size = b := ⟨_, rfl⟩
  go_enter Tryz.func81, Tryz.ntmps81
  go_wp2_with fail
  have hib : InB (W.alloc (.cells #[.int .i64 kd, .string nm, .slice qt nt ct, .slice qe ne ce] 47)) b #[.int .i64 kd, .string nm, .slice qt nt ct, .slice qe ne ce] 47 := InB.new' _ _ hb
  have HW := Lib.hid (show Below W.heap.size W (W.alloc (.cells #[.int .i64 kd, .string nm, .slice qt nt ct, .slice qe ne ce] 47)) from bl_al (Below.refl _ _) _)
  have HI := Lib.hid hib
  have HBB := Lib.hid hb
  try rw [hb]
  generalize W.alloc (.cells #[.int .i64 kd, .string nm, .slice qt nt ct, .slice qe ne ce] 47) = W1 at *
  have HWs := Lib.hid (show W.heap.size ≤ W1.heap.size from HW.out.size)
  clear hib hb
  go_loopw [3, 11] (fun v i wr => ∃ k : Nat, ∃ qv : Option Addr, ∃ cv : Nat, k ≤ nt ∧ i = .int .i64 k ∧ v = .slice qv k cv ∧ Hid (Below W1.heap.size W1 wr) ∧ Hid (wr.ownsRow W1.heap.size 123 2 (.slice qv k cv) k (usCs ((ts.take k).map (fun n => (n, 2)))))) (fun _ i _ => nt - (intOf i).toNat)
  case atStart => exact ⟨0, none, 0, Nat.zero_le _, rfl, rfl, Lib.hid (Below.refl _ _), Lib.hid (World.ownsRow_nil _ _ _ _)⟩
  case round =>
    obtain ⟨k, qv, cv, hk, rfl, rfl, HB, HO⟩ := hrel
    have hsz := HB.out.size
    by_cases hlt : k < nt
    · have hk1 : k < ts.length := by rw [HNT.out]; exact hlt
      obtain ⟨g, o, rfl, a0⟩ := HAT.out k hk1
      have e0 := below_cle (bl_tr HW.out HB.out) _ _ (HCC.out _ _ a0)
      unfold wC at e0
      have HTK := Lib.hid (show usCs ((ts.take (k + 1)).map (fun n => (n, 2))) = usCs ((ts.take k).map (fun n => (n, 2))) ++ usC (ts[k], 2) by
        rw [List.take_succ_eq_append_getElem hk1, List.map_append, usCs_app]; simp [usCs])
      clear a0
      generalize ts[k] = t at *
      clear hk1
      have hki : (k : Int) < (nt : Int) := by omega
      have hrow1 := HO.out.alloc (.cells (usC (t, 2)).toArray 123)
      have hone : ∀ u ∈ usC (t, 2), u.oneCell' = true := fun u hu => usCs_cells [(t, 2)] u (by rw [usCs_one]; exact hu)
      have hnew := row_new wr (usC (t, 2)) 123
      have HB1 := Lib.hid (bl_al HB.out (.cells (usC (t, 2)).toArray 123))
      go_wp2_with (at_builtin; refine wpList_append_own_wide _ rfl _ _ 120 rfl W1.heap.size 123 i2 _ 2 24 und_uses h2 h3 h4 h5 rfl (by decide) _ k (usCs ((ts.take k).map (fun n => (n, 2)))) rfl hrow1 ⟨wr.heap.size, 0, none⟩ 1 1 (usC (t, 2)) rfl rfl hnew hone (by unfold maxLen; omega) (by omega) (by simp <;> omega) ?_)
      intro v2 w2 hR2 hg2 _
      obtain ⟨q2, c2, rfl⟩ := own_shape hR2
      have HB2 := Lib.hid (grown_below HB1.out HB1.out.size hg2 (fun j hj => (hrow1.lt j hj).1))
      have HO2 := Lib.hid hR2
      clear hg2 hrow1 hnew hR2
      go_wp2
      exact ⟨⟨k + 1, q2, c2, by omega, by go_num, rfl, HB2, Lib.hid (by rw [HTK.out, List.map_take]; exact HO2.out)⟩, by simp [intOf]; omega⟩
    · obtain rfl : k = nt := by omega
      have HTK := Lib.hid (show (ts.take k).map (fun n => (n, 2)) = ts.map (fun n => (n, 2)) by rw [List.take_of_length_le (by rw [HNT.out]; exact Nat.le_refl _)])
      have HO1 := Lib.hid (HTK.out ▸ HO.out)
      have b0 := (HI.out.le HB.out).cell (j := 0) (v := .int .i64 kd) rfl
      have b1 := (HI.out.le HB.out).cell (j := 1) (v := .string nm) rfl
      have b3 := (HI.out.le HB.out).cell (j := 3) (v := .slice qe ne ce) rfl
      have hblt := (HI.out.le HB.out).lt
      have HLT := Lib.hid (show (ts.map (fun n => (n, 2)) : List (ByteArray × Nat)).length = k by rw [List.length_map]; exact HNT.out)
      by_cases hk2 : kd = 2
      · subst hk2
        have hrow1 := HO1.out.alloc (.cells (usC (nm, 3)).toArray 123)
        have hone : ∀ u ∈ usC (nm, 3), u.oneCell' = true := fun u hu => usCs_cells [(nm, 3)] u (by rw [usCs_one]; exact hu)
        have hnew := row_new wr (usC (nm, 3)) 123
        have HB1 := Lib.hid (bl_al HB.out (.cells (usC (nm, 3)).toArray 123))
        have HI2 := Lib.hid (HI.out.le HB.out)
        go_wp2_with (at_builtin; refine wpList_append_own_wide _ rfl _ _ 120 rfl W1.heap.size 123 i2 _ 2 24 und_uses h2 h3 h4 h5 rfl (by decide) _ k (usCs (ts.map (fun n => (n, 2)))) rfl hrow1 ⟨wr.heap.size, 0, none⟩ 1 1 (usC (nm, 3)) rfl rfl hnew hone (by unfold maxLen; omega) (by omega) (by simp <;> omega) ?_)
        intro v2 wrx hR2 hg2 _
        obtain ⟨qm, cm, rfl⟩ := own_shape hR2
        have HBm := Lib.hid (grown_below HB1.out HB1.out.size hg2 (fun j hj => (hrow1.lt j hj).1))
        have HLZ := Lib.hid (show (ts.map (fun n => (n, 2)) ++ [(nm, 3)]) ++ es.flatMap usesT = UZ by rw [HUZ.out]; simp)
        have HOm := Lib.hid (show wrx.ownsRow W1.heap.size 123 2 (.slice qm (k + 1) cm) (k + 1) (usCs (ts.map (fun n => (n, 2)) ++ [(nm, 3)])) by rw [usCs_app, usCs_one]; exact hR2)
        have hmm : k + 1 = (ts.map (fun n => (n, 2)) ++ [(nm, 3)]).length := by rw [List.length_append, HLT.out]; rfl
        have hmx : k + 1 ≤ 8796093021953 := by omega
        clear hg2 hrow1 hnew hR2 b0 b1 b3 hblt
        have b3 := (HI.out.le HBm.out).cell (j := 3) (v := .slice qe ne ce) rfl
        have b0 := b3
        have b1 := b3
        have hblt := (HI.out.le HBm.out).lt
        go_wp2_with fail
        generalize ts.map (fun n => (n, 2)) ++ [(nm, 3)] = L at *
        generalize k + 1 = mm at *
        have HMM := Lib.hid hmm
        generalize wrx = V at *
        clear b0 b1 b3 hblt hmm
        go_loopw [3, 50] (fun v i wr => ∃ j : Nat, ∃ q : Option Addr, ∃ m c : Nat, j ≤ ne ∧ i = .int .i64 j ∧ v = .slice q m c ∧ m ≤ mm + j * 48 ∧ m = (L ++ (es.take j).flatMap usesT).length ∧ Hid (Below W1.heap.size W1 wr) ∧ Hid (wr.ownsRow W1.heap.size 123 2 (.slice q m c) m (usCs (L ++ (es.take j).flatMap usesT)))) (fun _ i _ => ne - (intOf i).toNat)
        case atStart => exact ⟨0, qm, mm, cm, Nat.zero_le _, rfl, rfl, by omega, by rw [List.take_zero]; simpa using HMM.out, HBm, Lib.hid (by rw [List.take_zero]; simpa using HOm.out)⟩
        case round =>
          obtain ⟨j, q, m, c, hj, rfl, rfl, hm, hml, HBr, HOr⟩ := hrel
          have hsz := HBr.out.size
          by_cases hjn : j < ne
          · have hj1 : j < es.length := by rw [HNE.out]; exact hjn
            obtain ⟨g, o, qx, cx, rfl, a0, hx⟩ := HAE.out j hj1
            have e0 := below_cle (bl_tr HW.out HBr.out) _ _ (HCC.out _ _ a0)
            unfold wC at e0
            have HX := Lib.hid (fun (w : World) (hw : Below W.heap.size W w) => usesIn_p (W := w) (c := cx) es[j] (by have := HES.out _ (List.getElem_mem hj1); omega) hx.cells (HCC.out.trans (below_cle hw)))
            have HTK := Lib.hid (show L ++ (es.take (j + 1)).flatMap usesT = (L ++ (es.take j).flatMap usesT) ++ usesT es[j] by
              rw [List.take_succ_eq_append_getElem hj1, List.flatMap_append, List.append_assoc]; simp)
            have HLN := Lib.hid (show (usesT es[j]).length ≤ 48 from Nat.le_trans (usesT_len _) (HES.out _ (List.getElem_mem hj1)))
            have HML := Lib.hid hml
            clear a0 hx hml
            generalize es[j] = ex at *
            clear hj1
            have hji : (j : Int) < (ne : Int) := by omega
            generalize ex.length = nx at *
            go_wp2_with fail
            go_at_call 103
            refine (HX.out _ (bl_tr HW.out HBr.out)).mono ?_
            rintro e w5 ⟨v5, rfl, hb5, ho5⟩
            have HB5 := Lib.hid (bl_tr HBr.out hb5)
            have hr5 := own_bel HOr.out hb5
            unfold UsO at ho5
            obtain ⟨q5, c5, rfl⟩ := own_shape ho5
            have HSU := Lib.hid (show usCs (L ++ (es.take (j + 1)).flatMap usesT) = usCs (L ++ (es.take j).flatMap usesT) ++ usCs (usesT ex) by rw [HTK.out, usCs_app])
            have HSL := Lib.hid (show (L ++ (es.take (j + 1)).flatMap usesT).length = m + (usesT ex).length by rw [HTK.out, List.length_append, ← HML.out])
            have hln := HLN.out
            have hcl5 : (usCs (usesT ex)).length = (usesT ex).length * 2 := usCs_len _
            have hone : ∀ u ∈ usCs (usesT ex), u.oneCell' = true := usCs_cells _
            have hsz5 := HB5.out.size
            rcases own_rd ho5 with ⟨rfl, hn5, rfl, hx5⟩ | ⟨g5, rfl, hc5⟩
            · have HN5 := Lib.hid hn5
              have HX5 := Lib.hid hx5
              rw [hn5]
              clear hx5 ho5 hb5 hln hcl5 hone hn5
              go_wp2_with (at_builtin; refine wpList_append_own_none rfl _ _ 120 rfl W1.heap.size 123 i2 2 und_uses h2 _ m (usCs (L ++ (es.take j).flatMap usesT)) rfl hr5 rfl ?_)
              have HR5 := Lib.hid hr5
              clear hr5
              go_wp2
              exact ⟨⟨j + 1, q, m, c, by omega, by go_num, rfl, by omega, by rw [HSL.out, HN5.out, Nat.add_zero], HB5, Lib.hid (by rw [HSU.out, HX5.out, List.append_nil]; exact HR5.out)⟩, by simp [intOf]; omega⟩
            · have hnew : ∀ (j : Nat) (u : Value), (usCs (usesT ex))[j]? = some u → w5.cell? ((⟨g5, 0, none⟩ : Addr).add j) = some u := fun j u hu => by
                rw [show ((⟨g5, 0, none⟩ : Addr).add j) = ⟨g5, j, none⟩ from by simp [Addr.add]; intro h; exact h.symm]
                exact hc5 j u hu
              clear ho5 hb5 hc5
              generalize hU : usesT ex = U at *
              generalize U.length = nu at *
              go_wp2_with (at_builtin; refine wpList_append_own_wide _ rfl _ _ 120 rfl W1.heap.size 123 i2 _ 2 24 und_uses h2 h3 h4 h5 rfl (by decide) _ m (usCs (L ++ (es.take j).flatMap usesT)) rfl hr5 ⟨g5, 0, none⟩ nu c5 (usCs U) rfl hcl5 hnew hone (by unfold maxLen; omega) (by omega) (by omega) ?_)
              intro v2 w2 hR2 hg2 _
              obtain ⟨q2, c2, rfl⟩ := own_shape hR2
              have HB6 := Lib.hid (grown_below HB5.out HB5.out.size hg2 (fun j hj => (hr5.lt j hj).1))
              have HO6 := Lib.hid hR2
              clear hg2 hnew hR2 hr5
              go_wp2
              exact ⟨⟨j + 1, q2, m + nu, c2, by omega, by go_num, rfl, by omega, HSL.out.symm, HB6, Lib.hid (by rw [HSU.out]; exact HO6.out)⟩, by simp [intOf]; omega⟩
          · obtain rfl : j = ne := by omega
            have HTK := Lib.hid (show L ++ (es.take j).flatMap usesT = UZ by rw [List.take_of_length_le (by rw [HNE.out]; exact Nat.le_refl _), HLZ.out])
            have HML := Lib.hid hml
            clear hml
            go_wp2
            go_ret
            exact ⟨_, rfl, bl_tr HW.out HBr.out, by unfold UsO; rw [← HTK.out, ← HML.out]; exact own_lower HOr.out HWs.out⟩
      by_cases hk3 : kd = 3
      · subst hk3
        have hrow1 := HO1.out.alloc (.cells (usC (nm, 4)).toArray 123)
        have hone : ∀ u ∈ usC (nm, 4), u.oneCell' = true := fun u hu => usCs_cells [(nm, 4)] u (by rw [usCs_one]; exact hu)
        have hnew := row_new wr (usC (nm, 4)) 123
        have HB1 := Lib.hid (bl_al HB.out (.cells (usC (nm, 4)).toArray 123))
        have HI2 := Lib.hid (HI.out.le HB.out)
        go_wp2_with (at_builtin; refine wpList_append_own_wide _ rfl _ _ 120 rfl W1.heap.size 123 i2 _ 2 24 und_uses h2 h3 h4 h5 rfl (by decide) _ k (usCs (ts.map (fun n => (n, 2)))) rfl hrow1 ⟨wr.heap.size, 0, none⟩ 1 1 (usC (nm, 4)) rfl rfl hnew hone (by unfold maxLen; omega) (by omega) (by simp <;> omega) ?_)
        intro v2 wrx hR2 hg2 _
        obtain ⟨qm, cm, rfl⟩ := own_shape hR2
        have HBm := Lib.hid (grown_below HB1.out HB1.out.size hg2 (fun j hj => (hrow1.lt j hj).1))
        have HLZ := Lib.hid (show (ts.map (fun n => (n, 2)) ++ [(nm, 4)]) ++ es.flatMap usesT = UZ by rw [HUZ.out]; simp)
        have HOm := Lib.hid (show wrx.ownsRow W1.heap.size 123 2 (.slice qm (k + 1) cm) (k + 1) (usCs (ts.map (fun n => (n, 2)) ++ [(nm, 4)])) by rw [usCs_app, usCs_one]; exact hR2)
        have hmm : k + 1 = (ts.map (fun n => (n, 2)) ++ [(nm, 4)]).length := by rw [List.length_append, HLT.out]; rfl
        have hmx : k + 1 ≤ 8796093021953 := by omega
        clear hg2 hrow1 hnew hR2 b0 b1 b3 hblt
        have b3 := (HI.out.le HBm.out).cell (j := 3) (v := .slice qe ne ce) rfl
        have b0 := b3
        have b1 := b3
        have hblt := (HI.out.le HBm.out).lt
        go_wp2_with fail
        generalize ts.map (fun n => (n, 2)) ++ [(nm, 4)] = L at *
        generalize k + 1 = mm at *
        have HMM := Lib.hid hmm
        generalize wrx = V at *
        clear b0 b1 b3 hblt hmm
        go_loopw [3, 50] (fun v i wr => ∃ j : Nat, ∃ q : Option Addr, ∃ m c : Nat, j ≤ ne ∧ i = .int .i64 j ∧ v = .slice q m c ∧ m ≤ mm + j * 48 ∧ m = (L ++ (es.take j).flatMap usesT).length ∧ Hid (Below W1.heap.size W1 wr) ∧ Hid (wr.ownsRow W1.heap.size 123 2 (.slice q m c) m (usCs (L ++ (es.take j).flatMap usesT)))) (fun _ i _ => ne - (intOf i).toNat)
        case atStart => exact ⟨0, qm, mm, cm, Nat.zero_le _, rfl, rfl, by omega, by rw [List.take_zero]; simpa using HMM.out, HBm, Lib.hid (by rw [List.take_zero]; simpa using HOm.out)⟩
        case round =>
          obtain ⟨j, q, m, c, hj, rfl, rfl, hm, hml, HBr, HOr⟩ := hrel
          have hsz := HBr.out.size
          by_cases hjn : j < ne
          · have hj1 : j < es.length := by rw [HNE.out]; exact hjn
            obtain ⟨g, o, qx, cx, rfl, a0, hx⟩ := HAE.out j hj1
            have e0 := below_cle (bl_tr HW.out HBr.out) _ _ (HCC.out _ _ a0)
            unfold wC at e0
            have HX := Lib.hid (fun (w : World) (hw : Below W.heap.size W w) => usesIn_p (W := w) (c := cx) es[j] (by have := HES.out _ (List.getElem_mem hj1); omega) hx.cells (HCC.out.trans (below_cle hw)))
            have HTK := Lib.hid (show L ++ (es.take (j + 1)).flatMap usesT = (L ++ (es.take j).flatMap usesT) ++ usesT es[j] by
              rw [List.take_succ_eq_append_getElem hj1, List.flatMap_append, List.append_assoc]; simp)
            have HLN := Lib.hid (show (usesT es[j]).length ≤ 48 from Nat.le_trans (usesT_len _) (HES.out _ (List.getElem_mem hj1)))
            have HML := Lib.hid hml
            clear a0 hx hml
            generalize es[j] = ex at *
            clear hj1
            have hji : (j : Int) < (ne : Int) := by omega
            generalize ex.length = nx at *
            go_wp2_with fail
            go_at_call 103
            refine (HX.out _ (bl_tr HW.out HBr.out)).mono ?_
            rintro e w5 ⟨v5, rfl, hb5, ho5⟩
            have HB5 := Lib.hid (bl_tr HBr.out hb5)
            have hr5 := own_bel HOr.out hb5
            unfold UsO at ho5
            obtain ⟨q5, c5, rfl⟩ := own_shape ho5
            have HSU := Lib.hid (show usCs (L ++ (es.take (j + 1)).flatMap usesT) = usCs (L ++ (es.take j).flatMap usesT) ++ usCs (usesT ex) by rw [HTK.out, usCs_app])
            have HSL := Lib.hid (show (L ++ (es.take (j + 1)).flatMap usesT).length = m + (usesT ex).length by rw [HTK.out, List.length_append, ← HML.out])
            have hln := HLN.out
            have hcl5 : (usCs (usesT ex)).length = (usesT ex).length * 2 := usCs_len _
            have hone : ∀ u ∈ usCs (usesT ex), u.oneCell' = true := usCs_cells _
            have hsz5 := HB5.out.size
            rcases own_rd ho5 with ⟨rfl, hn5, rfl, hx5⟩ | ⟨g5, rfl, hc5⟩
            · have HN5 := Lib.hid hn5
              have HX5 := Lib.hid hx5
              rw [hn5]
              clear hx5 ho5 hb5 hln hcl5 hone hn5
              go_wp2_with (at_builtin; refine wpList_append_own_none rfl _ _ 120 rfl W1.heap.size 123 i2 2 und_uses h2 _ m (usCs (L ++ (es.take j).flatMap usesT)) rfl hr5 rfl ?_)
              have HR5 := Lib.hid hr5
              clear hr5
              go_wp2
              exact ⟨⟨j + 1, q, m, c, by omega, by go_num, rfl, by omega, by rw [HSL.out, HN5.out, Nat.add_zero], HB5, Lib.hid (by rw [HSU.out, HX5.out, List.append_nil]; exact HR5.out)⟩, by simp [intOf]; omega⟩
            · have hnew : ∀ (j : Nat) (u : Value), (usCs (usesT ex))[j]? = some u → w5.cell? ((⟨g5, 0, none⟩ : Addr).add j) = some u := fun j u hu => by
                rw [show ((⟨g5, 0, none⟩ : Addr).add j) = ⟨g5, j, none⟩ from by simp [Addr.add]; intro h; exact h.symm]
                exact hc5 j u hu
              clear ho5 hb5 hc5
              generalize hU : usesT ex = U at *
              generalize U.length = nu at *
              go_wp2_with (at_builtin; refine wpList_append_own_wide _ rfl _ _ 120 rfl W1.heap.size 123 i2 _ 2 24 und_uses h2 h3 h4 h5 rfl (by decide) _ m (usCs (L ++ (es.take j).flatMap usesT)) rfl hr5 ⟨g5, 0, none⟩ nu c5 (usCs U) rfl hcl5 hnew hone (by unfold maxLen; omega) (by omega) (by omega) ?_)
              intro v2 w2 hR2 hg2 _
              obtain ⟨q2, c2, rfl⟩ := own_shape hR2
              have HB6 := Lib.hid (grown_below HB5.out HB5.out.size hg2 (fun j hj => (hr5.lt j hj).1))
              have HO6 := Lib.hid hR2
              clear hg2 hnew hR2 hr5
              go_wp2
              exact ⟨⟨j + 1, q2, m + nu, c2, by omega, by go_num, rfl, by omega, HSL.out.symm, HB6, Lib.hid (by rw [HSU.out]; exact HO6.out)⟩, by simp [intOf]; omega⟩
          · obtain rfl : j = ne := by omega
            have HTK := Lib.hid (show L ++ (es.take j).flatMap usesT = UZ by rw [List.take_of_length_le (by rw [HNE.out]; exact Nat.le_refl _), HLZ.out])
            have HML := Lib.hid hml
            clear hml
            go_wp2
            go_ret
            exact ⟨_, rfl, bl_tr HW.out HBr.out, by unfold UsO; rw [← HTK.out, ← HML.out]; exact own_lower HOr.out HWs.out⟩
      by_cases hk4 : kd = 4
      · subst hk4
        have hrow1 := HO1.out.alloc (.cells (usC (nm, 5)).toArray 123)
        have hone : ∀ u ∈ usC (nm, 5), u.oneCell' = true := fun u hu => usCs_cells [(nm, 5)] u (by rw [usCs_one]; exact hu)
        have hnew := row_new wr (usC (nm, 5)) 123
        have HB1 := Lib.hid (bl_al HB.out (.cells (usC (nm, 5)).toArray 123))
        have HI2 := Lib.hid (HI.out.le HB.out)
        go_wp2_with (at_builtin; refine wpList_append_own_wide _ rfl _ _ 120 rfl W1.heap.size 123 i2 _ 2 24 und_uses h2 h3 h4 h5 rfl (by decide) _ k (usCs (ts.map (fun n => (n, 2)))) rfl hrow1 ⟨wr.heap.size, 0, none⟩ 1 1 (usC (nm, 5)) rfl rfl hnew hone (by unfold maxLen; omega) (by omega) (by simp <;> omega) ?_)
        intro v2 wrx hR2 hg2 _
        obtain ⟨qm, cm, rfl⟩ := own_shape hR2
        have HBm := Lib.hid (grown_below HB1.out HB1.out.size hg2 (fun j hj => (hrow1.lt j hj).1))
        have HLZ := Lib.hid (show (ts.map (fun n => (n, 2)) ++ [(nm, 5)]) ++ es.flatMap usesT = UZ by rw [HUZ.out]; simp)
        have HOm := Lib.hid (show wrx.ownsRow W1.heap.size 123 2 (.slice qm (k + 1) cm) (k + 1) (usCs (ts.map (fun n => (n, 2)) ++ [(nm, 5)])) by rw [usCs_app, usCs_one]; exact hR2)
        have hmm : k + 1 = (ts.map (fun n => (n, 2)) ++ [(nm, 5)]).length := by rw [List.length_append, HLT.out]; rfl
        have hmx : k + 1 ≤ 8796093021953 := by omega
        clear hg2 hrow1 hnew hR2 b0 b1 b3 hblt
        have b3 := (HI.out.le HBm.out).cell (j := 3) (v := .slice qe ne ce) rfl
        have b0 := b3
        have b1 := b3
        have hblt := (HI.out.le HBm.out).lt
        go_wp2_with fail
        generalize ts.map (fun n => (n, 2)) ++ [(nm, 5)] = L at *
        generalize k + 1 = mm at *
        have HMM := Lib.hid hmm
        generalize wrx = V at *
        clear b0 b1 b3 hblt hmm
        go_loopw [3, 50] (fun v i wr => ∃ j : Nat, ∃ q : Option Addr, ∃ m c : Nat, j ≤ ne ∧ i = .int .i64 j ∧ v = .slice q m c ∧ m ≤ mm + j * 48 ∧ m = (L ++ (es.take j).flatMap usesT).length ∧ Hid (Below W1.heap.size W1 wr) ∧ Hid (wr.ownsRow W1.heap.size 123 2 (.slice q m c) m (usCs (L ++ (es.take j).flatMap usesT)))) (fun _ i _ => ne - (intOf i).toNat)
        case atStart => exact ⟨0, qm, mm, cm, Nat.zero_le _, rfl, rfl, by omega, by rw [List.take_zero]; simpa using HMM.out, HBm, Lib.hid (by rw [List.take_zero]; simpa using HOm.out)⟩
        case round =>
          obtain ⟨j, q, m, c, hj, rfl, rfl, hm, hml, HBr, HOr⟩ := hrel
          have hsz := HBr.out.size
          by_cases hjn : j < ne
          · have hj1 : j < es.length := by rw [HNE.out]; exact hjn
            obtain ⟨g, o, qx, cx, rfl, a0, hx⟩ := HAE.out j hj1
            have e0 := below_cle (bl_tr HW.out HBr.out) _ _ (HCC.out _ _ a0)
            unfold wC at e0
            have HX := Lib.hid (fun (w : World) (hw : Below W.heap.size W w) => usesIn_p (W := w) (c := cx) es[j] (by have := HES.out _ (List.getElem_mem hj1); omega) hx.cells (HCC.out.trans (below_cle hw)))
            have HTK := Lib.hid (show L ++ (es.take (j + 1)).flatMap usesT = (L ++ (es.take j).flatMap usesT) ++ usesT es[j] by
              rw [List.take_succ_eq_append_getElem hj1, List.flatMap_append, List.append_assoc]; simp)
            have HLN := Lib.hid (show (usesT es[j]).length ≤ 48 from Nat.le_trans (usesT_len _) (HES.out _ (List.getElem_mem hj1)))
            have HML := Lib.hid hml
            clear a0 hx hml
            generalize es[j] = ex at *
            clear hj1
            have hji : (j : Int) < (ne : Int) := by omega
            generalize ex.length = nx at *
            go_wp2_with fail
            go_at_call 103
            refine (HX.out _ (bl_tr HW.out HBr.out)).mono ?_
            rintro e w5 ⟨v5, rfl, hb5, ho5⟩
            have HB5 := Lib.hid (bl_tr HBr.out hb5)
            have hr5 := own_bel HOr.out hb5
            unfold UsO at ho5
            obtain ⟨q5, c5, rfl⟩ := own_shape ho5
            have HSU := Lib.hid (show usCs (L ++ (es.take (j + 1)).flatMap usesT) = usCs (L ++ (es.take j).flatMap usesT) ++ usCs (usesT ex) by rw [HTK.out, usCs_app])
            have HSL := Lib.hid (show (L ++ (es.take (j + 1)).flatMap usesT).length = m + (usesT ex).length by rw [HTK.out, List.length_append, ← HML.out])
            have hln := HLN.out
            have hcl5 : (usCs (usesT ex)).length = (usesT ex).length * 2 := usCs_len _
            have hone : ∀ u ∈ usCs (usesT ex), u.oneCell' = true := usCs_cells _
            have hsz5 := HB5.out.size
            rcases own_rd ho5 with ⟨rfl, hn5, rfl, hx5⟩ | ⟨g5, rfl, hc5⟩
            · have HN5 := Lib.hid hn5
              have HX5 := Lib.hid hx5
              rw [hn5]
              clear hx5 ho5 hb5 hln hcl5 hone hn5
              go_wp2_with (at_builtin; refine wpList_append_own_none rfl _ _ 120 rfl W1.heap.size 123 i2 2 und_uses h2 _ m (usCs (L ++ (es.take j).flatMap usesT)) rfl hr5 rfl ?_)
              have HR5 := Lib.hid hr5
              clear hr5
              go_wp2
              exact ⟨⟨j + 1, q, m, c, by omega, by go_num, rfl, by omega, by rw [HSL.out, HN5.out, Nat.add_zero], HB5, Lib.hid (by rw [HSU.out, HX5.out, List.append_nil]; exact HR5.out)⟩, by simp [intOf]; omega⟩
            · have hnew : ∀ (j : Nat) (u : Value), (usCs (usesT ex))[j]? = some u → w5.cell? ((⟨g5, 0, none⟩ : Addr).add j) = some u := fun j u hu => by
                rw [show ((⟨g5, 0, none⟩ : Addr).add j) = ⟨g5, j, none⟩ from by simp [Addr.add]; intro h; exact h.symm]
                exact hc5 j u hu
              clear ho5 hb5 hc5
              generalize hU : usesT ex = U at *
              generalize U.length = nu at *
              go_wp2_with (at_builtin; refine wpList_append_own_wide _ rfl _ _ 120 rfl W1.heap.size 123 i2 _ 2 24 und_uses h2 h3 h4 h5 rfl (by decide) _ m (usCs (L ++ (es.take j).flatMap usesT)) rfl hr5 ⟨g5, 0, none⟩ nu c5 (usCs U) rfl hcl5 hnew hone (by unfold maxLen; omega) (by omega) (by omega) ?_)
              intro v2 w2 hR2 hg2 _
              obtain ⟨q2, c2, rfl⟩ := own_shape hR2
              have HB6 := Lib.hid (grown_below HB5.out HB5.out.size hg2 (fun j hj => (hr5.lt j hj).1))
              have HO6 := Lib.hid hR2
              clear hg2 hnew hR2 hr5
              go_wp2
              exact ⟨⟨j + 1, q2, m + nu, c2, by omega, by go_num, rfl, by omega, HSL.out.symm, HB6, Lib.hid (by rw [HSU.out]; exact HO6.out)⟩, by simp [intOf]; omega⟩
          · obtain rfl : j = ne := by omega
            have HTK := Lib.hid (show L ++ (es.take j).flatMap usesT = UZ by rw [List.take_of_length_le (by rw [HNE.out]; exact Nat.le_refl _), HLZ.out])
            have HML := Lib.hid hml
            clear hml
            go_wp2
            go_ret
            exact ⟨_, rfl, bl_tr HW.out HBr.out, by unfold UsO; rw [← HTK.out, ← HML.out]; exact own_lower HOr.out HWs.out⟩
      have HL0 := Lib.hid (show ts.map (fun n => (n, 2)) ++ es.flatMap usesT = UZ by rw [HUZ.out, if_neg hk2, if_neg hk3, if_neg hk4, List.nil_append])
      have e2 : (kd == 2) = false := by rw [beq_eq_false_iff_ne]; exact hk2
      have e3 : (kd == 3) = false := by rw [beq_eq_false_iff_ne]; exact hk3
      have e4 : (kd == 4) = false := by rw [beq_eq_false_iff_ne]; exact hk4
      clear hk2 hk3 hk4
      go_wp2_with fail
      have HLZ := HL0
      have HOm := HO1
      have HBm := HB
      have hmm : k = (ts.map (fun n => (n, 2)) : List (ByteArray × Nat)).length := HLT.out.symm
      have hmx : k ≤ 8796093021953 := by omega
      clear HLT HO HTK
      generalize (ts.map (fun n => (n, 2)) : List (ByteArray × Nat)) = L at *
      generalize k = mm at *
      generalize qv = qm at *
      generalize cv = cm at *
      have HMM := Lib.hid hmm
      generalize wr = V at *
      clear b0 b1 b3 hblt hmm
      go_loopw [3, 50] (fun v i wr => ∃ j : Nat, ∃ q : Option Addr, ∃ m c : Nat, j ≤ ne ∧ i = .int .i64 j ∧ v = .slice q m c ∧ m ≤ mm + j * 48 ∧ m = (L ++ (es.take j).flatMap usesT).length ∧ Hid (Below W1.heap.size W1 wr) ∧ Hid (wr.ownsRow W1.heap.size 123 2 (.slice q m c) m (usCs (L ++ (es.take j).flatMap usesT)))) (fun _ i _ => ne - (intOf i).toNat)
      case atStart => exact ⟨0, qm, mm, cm, Nat.zero_le _, rfl, rfl, by omega, by rw [List.take_zero]; simpa using HMM.out, HBm, Lib.hid (by rw [List.take_zero]; simpa using HOm.out)⟩
      case round =>
        obtain ⟨j, q, m, c, hj, rfl, rfl, hm, hml, HBr, HOr⟩ := hrel
        have hsz := HBr.out.size
        by_cases hjn : j < ne
        · have hj1 : j < es.length := by rw [HNE.out]; exact hjn
          obtain ⟨g, o, qx, cx, rfl, a0, hx⟩ := HAE.out j hj1
          have e0 := below_cle (bl_tr HW.out HBr.out) _ _ (HCC.out _ _ a0)
          unfold wC at e0
          have HX := Lib.hid (fun (w : World) (hw : Below W.heap.size W w) => usesIn_p (W := w) (c := cx) es[j] (by have := HES.out _ (List.getElem_mem hj1); omega) hx.cells (HCC.out.trans (below_cle hw)))
          have HTK := Lib.hid (show L ++ (es.take (j + 1)).flatMap usesT = (L ++ (es.take j).flatMap usesT) ++ usesT es[j] by
            rw [List.take_succ_eq_append_getElem hj1, List.flatMap_append, List.append_assoc]; simp)
          have HLN := Lib.hid (show (usesT es[j]).length ≤ 48 from Nat.le_trans (usesT_len _) (HES.out _ (List.getElem_mem hj1)))
          have HML := Lib.hid hml
          clear a0 hx hml
          generalize es[j] = ex at *
          clear hj1
          have hji : (j : Int) < (ne : Int) := by omega
          generalize ex.length = nx at *
          go_wp2_with fail
          go_at_call 103
          refine (HX.out _ (bl_tr HW.out HBr.out)).mono ?_
          rintro e w5 ⟨v5, rfl, hb5, ho5⟩
          have HB5 := Lib.hid (bl_tr HBr.out hb5)
          have hr5 := own_bel HOr.out hb5
          unfold UsO at ho5
          obtain ⟨q5, c5, rfl⟩ := own_shape ho5
          have HSU := Lib.hid (show usCs (L ++ (es.take (j + 1)).flatMap usesT) = usCs (L ++ (es.take j).flatMap usesT) ++ usCs (usesT ex) by rw [HTK.out, usCs_app])
          have HSL := Lib.hid (show (L ++ (es.take (j + 1)).flatMap usesT).length = m + (usesT ex).length by rw [HTK.out, List.length_append, ← HML.out])
          have hln := HLN.out
          have hcl5 : (usCs (usesT ex)).length = (usesT ex).length * 2 := usCs_len _
          have hone : ∀ u ∈ usCs (usesT ex), u.oneCell' = true := usCs_cells _
          have hsz5 := HB5.out.size
          rcases own_rd ho5 with ⟨rfl, hn5, rfl, hx5⟩ | ⟨g5, rfl, hc5⟩
          · have HN5 := Lib.hid hn5
            have HX5 := Lib.hid hx5
            rw [hn5]
            clear hx5 ho5 hb5 hln hcl5 hone hn5
            go_wp2_with (at_builtin; refine wpList_append_own_none rfl _ _ 120 rfl W1.heap.size 123 i2 2 und_uses h2 _ m (usCs (L ++ (es.take j).flatMap usesT)) rfl hr5 rfl ?_)
            have HR5 := Lib.hid hr5
            clear hr5
            go_wp2
            exact ⟨⟨j + 1, q, m, c, by omega, by go_num, rfl, by omega, by rw [HSL.out, HN5.out, Nat.add_zero], HB5, Lib.hid (by rw [HSU.out, HX5.out, List.append_nil]; exact HR5.out)⟩, by simp [intOf]; omega⟩
          · have hnew : ∀ (j : Nat) (u : Value), (usCs (usesT ex))[j]? = some u → w5.cell? ((⟨g5, 0, none⟩ : Addr).add j) = some u := fun j u hu => by
              rw [show ((⟨g5, 0, none⟩ : Addr).add j) = ⟨g5, j, none⟩ from by simp [Addr.add]; intro h; exact h.symm]
              exact hc5 j u hu
            clear ho5 hb5 hc5
            generalize hU : usesT ex = U at *
            generalize U.length = nu at *
            go_wp2_with (at_builtin; refine wpList_append_own_wide _ rfl _ _ 120 rfl W1.heap.size 123 i2 _ 2 24 und_uses h2 h3 h4 h5 rfl (by decide) _ m (usCs (L ++ (es.take j).flatMap usesT)) rfl hr5 ⟨g5, 0, none⟩ nu c5 (usCs U) rfl hcl5 hnew hone (by unfold maxLen; omega) (by omega) (by omega) ?_)
            intro v2 w2 hR2 hg2 _
            obtain ⟨q2, c2, rfl⟩ := own_shape hR2
            have HB6 := Lib.hid (grown_below HB5.out HB5.out.size hg2 (fun j hj => (hr5.lt j hj).1))
            have HO6 := Lib.hid hR2
            clear hg2 hnew hR2 hr5
            go_wp2
            exact ⟨⟨j + 1, q2, m + nu, c2, by omega, by go_num, rfl, by omega, HSL.out.symm, HB6, Lib.hid (by rw [HSU.out]; exact HO6.out)⟩, by simp [intOf]; omega⟩
        · obtain rfl : j = ne := by omega
          have HTK := Lib.hid (show L ++ (es.take j).flatMap usesT = UZ by rw [List.take_of_length_le (by rw [HNE.out]; exact Nat.le_refl _), HLZ.out])
          have HML := Lib.hid hml
          clear hml
          go_wp2
          go_ret
          exact ⟨_, rfl, bl_tr HW.out HBr.out, by unfold UsO; rw [← HTK.out, ← HML.out]; exact own_lower HOr.out HWs.out⟩
end
end Go.Proofs.YtlpdjfimefjmcaaGreat

/- slices.Concat of parameters and vars. (Written by a program.) -/
namespace Go.Proofs.YtlpdjfimefjmcaaGreat
open Go Go.RowKit Go.Proofs.Mm

theorem infoDe : ∃ i, Tryz.prog.info? 37 = some i ∧ i.zero = some (.agg #[.string ⟨#[]⟩, .int .u64 0]) ∧ i.size = 2 ∧ i.bytes = 24 := by
  have h : (Tryz.prog.info? 37).map (fun i => (i.zero, i.size, i.bytes)) = some (some (.agg #[.string ⟨#[]⟩, .int .u64 0]), 2, 24) := by kernel_rfl
  cases hi : Tryz.prog.info? 37 with
  | none => rw [hi] at h; cases h
  | some i =>
    rw [hi] at h
    simp only [Option.map_some, Option.some.injEq, Prod.mk.injEq] at h
    exact ⟨i, rfl, h.1, h.2.1, h.2.2⟩
theorem undDes : Tryz.prog.underlying 23 = some (.slice 37) := by kernel_rfl
def deCs (l : List DeZ) : List Value := l.flatMap deZ
theorem deCs_len (l : List DeZ) : (deCs l).length = l.length * 2 := by
  unfold deCs
  induction l with
  | nil => rfl
  | cons p l ih => rw [List.flatMap_cons, List.length_append, ih, List.length_cons]; show 2 + _ = _; omega
theorem deCs_app (a b : List DeZ) : deCs (a ++ b) = deCs a ++ deCs b := List.flatMap_append
theorem deCs_one (l : List DeZ) : ∀ u ∈ deCs l, u.oneCell' = true := by
  intro u hu
  obtain ⟨p, _, hp⟩ := List.mem_flatMap.1 hu
  simp only [deZ, List.mem_cons, List.not_mem_nil, or_false] at hp
  rcases hp with rfl | rfl <;> rfl
theorem deCs_enc : ∀ {l : List DeZ} {cs : List Value}, Enc (fun c d => c = deZ d ∧ d.label < u64B) cs l → cs = deCs l
  | [], cs, h => h
  | x :: l, cs, h => by
    obtain ⟨c, r, rfl, ⟨rfl, _⟩, h2⟩ := h
    rw [deCs_enc h2]; rfl
theorem add_none (g o j : Nat) : ((⟨g, o, none⟩ : Addr).add j) = ⟨g, o + j, none⟩ := by unfold Addr.add; split <;> simp_all
section
variable {lt : Bool} {C : Cl} {W : World}
theorem DesR.raw {q : Option Addr} {n c : Nat} {l : List DeZ} (h : DesR lt C (.slice q n c) l) : (q = none ∧ n = 0 ∧ c = 0 ∧ l = []) ∨ ∃ ad, q = some ad ∧ n = l.length ∧ ∀ j u, (deCs l)[j]? = some u → C (ad.add j) = some u := by
  obtain ⟨q', c', cs, h1, h2, h3, h4, h5, h6, h7, h8⟩ := h
  obtain ⟨rfl, rfl, rfl⟩ : q = q' ∧ n = l.length ∧ c = c' := by injection h1 with a b c; exact ⟨a, b, c⟩
  rw [deCs_enc h4] at h3
  cases q with
  | none =>
    have h0 := h7 rfl
    subst h0
    have hl : l.length = 0 := by omega
    exact .inl ⟨rfl, hl, rfl, List.eq_nil_of_length_eq_zero hl⟩
  | some ad =>
    refine .inr ⟨ad, rfl, rfl, fun j u hu => ?_⟩
    rcases h3 with h3 | ⟨g, o, e, h3⟩
    · have := (List.append_eq_nil_iff.1 h3).1
      rw [this] at hu
      simp at hu
    · injection e with e
      subst e
      rw [add_none]
      exact h3 j u (by rw [List.getElem?_append_left ((List.getElem?_eq_some_iff.1 hu).1)]; exact hu)
theorem zc_len (z : Array Value) (k : Nat) (hz : z.size = 2) : (Builtin.zeroCells z k).size = k * 2 := by rw [size_zeroCells, hz]
def DcO (B : Nat) (w : World) (v : Value) (l : List DeZ) : Prop := w.ownsRow B 37 2 v l.length (deCs l)
set_option maxRecDepth 100000 in
set_option maxHeartbeats 2000000 in
theorem growDe (n : Nat) (hn : n ≤ 1000) (W : World) : Calls Tryz.prog 98 #[.slice none 0 0, .int .i64 (n : Int)] W fun e w' => ∃ v, e = .returned v ∧ DcO W.heap.size w' v [] ∧ Below W.heap.size W w' := by
  by_cases h0 : 0 < n
  · obtain ⟨i, hi, hz, hs, hb⟩ := infoDe
    have hr := fun ty => Lib.run_append_nil_zeros (P := Tryz.prog) W 23 3 ty 37 i _ .i64 .i64 Tryz.underlying23 Tryz.underlying3 hi hz n h0 (by rw [hs]; decide) (by omega) (by rw [hb]; omega)
    have hge := grownCap_ge W n 0 37
    have hcm := grownCap_le_maxLen W n 0 37 (by unfold maxLen; omega)
    obtain ⟨G, hG⟩ : ∃ G, G = grownCap W n 0 37 := ⟨_, rfl⟩
    rw [← hG] at hr hge hcm
    have hown : (W.drew.alloc (.cells (Builtin.zeroCells (Value.agg #[.string ⟨#[]⟩, .int .u64 0]).cells n ++ Builtin.zeroCells (Value.agg #[.string ⟨#[]⟩, .int .u64 0]).cells (G - n)) 37)).ownsRow W.heap.size 37 2 (.slice (some ⟨W.heap.size, 0, none⟩) 0 G) 0 [] :=
      World.ownsRow_made W.drew _ G (Nat.le_refl _) hcm (by rw [Array.size_append, zc_len _ _ rfl, zc_len _ _ rfl]; omega)
    have HO := Lib.hid hown
    have HBB := Lib.hid (show Below W.heap.size W (W.drew.alloc (.cells (Builtin.zeroCells (Value.agg #[.string ⟨#[]⟩, .int .u64 0]).cells n ++ Builtin.zeroCells (Value.agg #[.string ⟨#[]⟩, .int .u64 0]).cells (G - n)) 37)) from ((Below.refl _ W).drew).alloc (Nat.le_refl _) _)
    have hG63 : G ≤ 9223372036854775807 := by unfold maxLen at hcm; omega
    have h1 : ¬ ((n : Int) < 0) := by omega
    have h3 : wrap64 (n : Int) = (n : Int) := by unfold wrap64; omega
    have h4 : (n : Int) > 0 := by omega
    clear hown hG hge hcm
    go_enter Tryz.func98, Tryz.ntmps98
    go_wp2_with (at_builtin; refine Lib.wpList_append_run _ rfl _ _ _ _ rfl _ _ rfl rfl _ _ (hr _) ?_)
    go_ret
    exact ⟨_, rfl, HO.out, HBB.out⟩
  · obtain rfl : n = 0 := by omega
    go_enter Tryz.func98, Tryz.ntmps98
    go_wp2
    go_ret
    exact ⟨_, rfl, World.ownsRow_nil _ _ _ _, Below.refl _ _⟩
set_option maxRecDepth 100000 in
set_option maxHeartbeats 8000000 in
theorem concatDe (ps vs : List DeZ) (h1 : ps.length ≤ 8) (h2 : vs.length ≤ 32) {qp : Option Addr} {cp : Nat} {qv : Option Addr} {cv : Nat} (hp : DesR lt C (.slice qp ps.length cp) ps) (hv : DesR lt C (.slice qv vs.length cv) vs) (hC : CLe C (wC W)) (G : Nat) (hG : InB W G #[.slice qp ps.length cp, .slice qv vs.length cv] 23) :
    Calls Tryz.prog 71 #[.slice (some ⟨G, 0, none⟩) 2 2] W fun e w' => ∃ v, e = .returned v ∧ Below W.heap.size W w' ∧ DcO W.heap.size w' v (ps ++ vs) := by
  obtain ⟨i, hi, hz, hs, hb⟩ := infoDe
  have HGR := Lib.hid (fun W' => growDe (ps.length + vs.length) (by omega) W')
  have HP := Lib.hid hp.raw
  have HV := Lib.hid hv.raw
  have HCC := Lib.hid hC
  have HGG := Lib.hid hG
  have k0 := hG.cell (j := 0) (v := .slice qp ps.length cp) rfl
  have k1 := hG.cell (j := 1) (v := .slice qv vs.length cv) rfl
  have HLP := Lib.hid (deCs_len ps)
  have HLV := Lib.hid (deCs_len vs)
  have HOP := Lib.hid (deCs_one ps)
  have HOV := Lib.hid (deCs_one vs)
  have HNIL := Lib.hid (show DcO W.heap.size W (.slice none 0 0) [] from World.ownsRow_nil _ _ _ _)
  unfold DcO at HGR
  have HAA := Lib.hid (fun (B : Nat) (w : World) (v : Value) => show DcO B w v (ps ++ vs) = w.ownsRow B 37 2 v (ps.length + vs.length) (deCs ps ++ deCs vs) from by unfold DcO; rw [List.length_append, deCs_app])
  clear hp hv hC hG
  generalize ps.length = np at *
  generalize vs.length = nv at *
  have w1 : wrap64 ((0 : Int) + (np : Int)) = (np : Int) := by unfold wrap64; omega
  have w2 : wrap64 ((np : Int) + (nv : Int)) = ((np + nv : Nat) : Int) := by unfold wrap64; omega
  have n1 : ¬ ((np : Int) < 0) := by omega
  have n2 : ¬ (((np + nv : Nat) : Int) < 0) := by omega
  go_enter Tryz.func71, Tryz.ntmps71
  go_wp2
  go_loopw [3, 11] (fun s i wr => wr = W ∧ ((i = .int .i64 0 ∧ s = .int .i64 0) ∨ (i = .int .i64 1 ∧ s = .int .i64 (np : Int)) ∨ (i = .int .i64 2 ∧ s = .int .i64 ((np + nv : Nat) : Int)))) (fun _ i _ => 2 - (intOf i).toNat)
  case atStart => exact ⟨rfl, .inl ⟨rfl, rfl⟩⟩
  case round =>
    obtain ⟨hW, ⟨rfl, rfl⟩ | ⟨rfl, rfl⟩ | ⟨rfl, rfl⟩⟩ := hrel
    · subst wr
      go_wp2
      exact ⟨⟨by first | rfl | trivial, .inr (.inl ⟨rfl, by first | rfl | (congr 1; omega)⟩)⟩, by simp [intOf]⟩
    · subst wr
      go_wp2
      exact ⟨⟨by first | rfl | trivial, .inr (.inr ⟨rfl, by first | rfl | (congr 1; omega)⟩)⟩, by simp [intOf]⟩
    · subst wr
      go_wp2_with fail
      go_at_call 98
      refine (HGR.out _).mono ?_
      rintro e w0 ⟨v0, rfl, ho0, hb0⟩
      have HO0 := Lib.hid ho0
      have HB0 := Lib.hid hb0
      obtain ⟨q0, c0, rfl⟩ := own_shape ho0
      clear ho0 hb0 w1 w2 n1 n2
      simp only [List.length_nil] at HO0
      go_wp2_with fail
      go_loopw [6, 27] (fun v i wr => ∃ q c m L, v = .slice q m c ∧ Hid (Below W.heap.size W wr) ∧ Hid (wr.ownsRow W.heap.size 37 2 (.slice q m c) m L) ∧ ((i = .int .i64 0 ∧ 0 = m ∧ [] = L) ∨ (i = .int .i64 1 ∧ np = m ∧ deCs ps = L) ∨ (i = .int .i64 2 ∧ np + nv = m ∧ deCs ps ++ deCs vs = L))) (fun _ i _ => 2 - (intOf i).toNat)
      case atStart => exact ⟨q0, c0, 0, [], rfl, HB0, HO0, .inl ⟨rfl, rfl, rfl⟩⟩
      case round =>
        obtain ⟨q, c, m, L, rfl, HB, HO, hcase⟩ := hrel
        have z0 := (HGG.out.le HB.out).cell (j := 0) (v := .slice qp np cp) rfl
        have z1 := (HGG.out.le HB.out).cell (j := 1) (v := .slice qv nv cv) rfl
        have hm := HB.out.size
        have ho := HO.out
        have HLT := Lib.hid ho.lt
        rcases hcase with ⟨rfl, rfl, rfl⟩ | ⟨rfl, rfl, rfl⟩ | ⟨rfl, rfl, rfl⟩
        · rcases HP.out with ⟨hq, hn0, hc0, hl0⟩ | ⟨ad, hq, hnn, hcl⟩
          · subst hq hn0 hc0
            have HZ := Lib.hid hl0
            clear hl0
            go_wp2_with (at_builtin; refine wpList_append_own_none rfl _ _ 23 rfl W.heap.size 37 i 2 undDes hi _ 0 [] rfl ho rfl ?_)
            clear ho
            go_wp2
            exact ⟨⟨_, _, _, ⟨_, _, _, rfl, _, HO, .inr (.inl ⟨rfl, by omega, by rw [HZ.out]; simp [deCs]⟩)⟩, rfl, rfl, rfl⟩, by simp [intOf]⟩
          · subst hq
            have hnew : ∀ j u, (deCs ps)[j]? = some u → wr.cell? (ad.add j) = some u := fun j u hu => below_cle HB.out _ _ (HCC.out _ _ (hcl j u hu))
            have hll := HLP.out
            clear hcl hnn
            go_wp2_with (at_builtin; refine wpList_append_own_at _ rfl _ _ 23 rfl W.heap.size 37 i _ 2 24 undDes hi hz hs hb rfl (by decide) _ 0 [] rfl ho ad np cp (deCs ps) rfl hll hnew HOP.out ?c1 ?c2 ?c3 ?_)
            case c1 => unfold maxLen; omega
            case c2 => omega
            case c3 => exact hm
            intro v9 w9 hown9 hgrow9 _ _
            obtain ⟨q9, c9, rfl⟩ := own_shape hown9
            have HO9 := Lib.hid hown9
            have HB9 := Lib.hid (HB.out.grown hgrow9 hm (fun r hr => (HLT.out r hr).1))
            clear hown9 hgrow9 ho hnew
            go_wp2
            exact ⟨⟨_, _, _, _, rfl, HB9, HO9, .inr (.inl ⟨rfl, by omega, by simp⟩)⟩, by simp [intOf]⟩
        · rcases HV.out with ⟨hq, hn0, hc0, hl0⟩ | ⟨ad, hq, hnn, hcl⟩
          · subst hq hn0 hc0
            have HZ := Lib.hid hl0
            clear hl0
            go_wp2_with (at_builtin; refine wpList_append_own_none rfl _ _ 23 rfl W.heap.size 37 i 2 undDes hi _ np (deCs ps) rfl ho rfl ?_)
            clear ho
            go_wp2
            exact ⟨⟨_, _, _, ⟨_, _, _, rfl, _, HO, .inr (.inr ⟨rfl, by omega, by rw [HZ.out]; simp [deCs]⟩)⟩, rfl, rfl, rfl⟩, by simp [intOf]⟩
          · subst hq
            have hnew : ∀ j u, (deCs vs)[j]? = some u → wr.cell? (ad.add j) = some u := fun j u hu => below_cle HB.out _ _ (HCC.out _ _ (hcl j u hu))
            have hll := HLV.out
            clear hcl hnn
            go_wp2_with (at_builtin; refine wpList_append_own_at _ rfl _ _ 23 rfl W.heap.size 37 i _ 2 24 undDes hi hz hs hb rfl (by decide) _ np (deCs ps) rfl ho ad nv cv (deCs vs) rfl hll hnew HOV.out ?c1 ?c2 ?c3 ?_)
            case c1 => unfold maxLen; omega
            case c2 => omega
            case c3 => exact hm
            intro v9 w9 hown9 hgrow9 _ _
            obtain ⟨q9, c9, rfl⟩ := own_shape hown9
            have HO9 := Lib.hid hown9
            have HB9 := Lib.hid (HB.out.grown hgrow9 hm (fun r hr => (HLT.out r hr).1))
            clear hown9 hgrow9 ho hnew
            go_wp2
            exact ⟨⟨_, _, _, _, rfl, HB9, HO9, .inr (.inr ⟨rfl, by omega, by simp⟩)⟩, by simp [intOf]⟩
        · have HR := HO
          clear ho
          go_wp2
          go_ret
          exact ⟨_, rfl, HB.out, by rw [HAA.out]; exact HR.out⟩
end
end Go.Proofs.YtlpdjfimefjmcaaGreat
