/- The document's source: the walk. -/
import Derived.Test.YtnmcjkabihihiaaGreatDoorReadsPR4
import Derived.Test.YtnmcjkabihihiaaGreatDoorQ1
import Derived.Below
import Derived.Laws.OwnMore
import Derived.RegionTactic
namespace Go.Proofs.YtnmcjkabihihiaaGreatDoor
open Go Go.RowKit Go.Proofs.Mm

section
variable {D : DC} {nv bv : Value} {er a : Nat} {w : World} {ns : List (List Nat)} {α β : Type}
/-- Where the loop over declarations stands. -/
def DcI (RR : Syn.R Syn.So) (D : DC) (ns : List (List Nat)) (nv : Value) (g B : Nat) (m : Mem) (w : World) (iv : Value) (wr : World) : Prop :=
  ∃ z, iv = .int .i64 z ∧ Hid (Chg (fun k => k = D.bt) w wr) ∧ Hid (wr.heap[w.heap.size]? = some srZ) ∧ B ≤ wr.heap.size ∧
    ((∃ f i qG cG qA cA qC cC qF cF s a mm csG csA csC csF, z = (i : Nat) ∧ i ≤ D.ys.length ∧ D.ys.length < f + i ∧ s.globals.length + s.arrays.length + s.channels.length + s.funcs.length ≤ i ∧ Hid (Syn.declsF (Tk D.ys) (D.ys.length + 1) ns f s i = RR) ∧ Hid (SD D nv ns g B m w s a mm (.slice qG s.globals.length cG) (.slice qA s.arrays.length cA) (.slice qC s.channels.length cC) (.slice qF s.funcs.length cF) csG csA csC csF wr) ∧ Hid (mm w.heap.size = none)) ∨
     (∃ er a bv q1 n1 c1 q2 n2 c2 q3 n3 c3 q4 n4 c4 q5 n5 c5, er ≠ 0 ∧ Hid (wr.heap[g]? = some (.cells #[.slice q1 n1 c1, .slice q2 n2 c2, .slice q3 n3 c3, .slice q4 n4 c4, .slice q5 n5 c5] 27 (0, 0))) ∧ Hid (DS D nv bv er a wr) ∧ Hid (∃ k t, RR = .error (k, t) ∧ er = k ∧ k ≠ 0 ∧ a = (tk D.ys D.len t).a)))
/-- Behind the last declaration, or behind a fault. -/
def ExF (RR : Syn.R Syn.So) (D : DC) (m : Mem) (w : World) (g : Nat) (z : Int) (wr : World) : Prop :=
  ∃ q1 n1 c1 q2 n2 c2 q3 n3 c3 q4 n4 c4 q5 n5 c5 er a nv bv, ((er = 0 ∧ z = (D.ys.length : Nat)) ∨ er ≠ 0) ∧ Hid (wr.heap[g]? = some (.cells #[.slice q1 n1 c1, .slice q2 n2 c2, .slice q3 n3 c3, .slice q4 n4 c4, .slice q5 n5 c5] 27 (0, 0))) ∧ Hid (DS D nv bv er a wr) ∧ Hid (∃ z, Cu D RR z er a) ∧
    Hid (∀ s j, RR = .ok (s, j) → ∃ m', SoM m' [.slice q1 n1 c1, .slice q2 n2 c2, .slice q3 n3 c3, .slice q4 n4 c4, .slice q5 n5 c5] s ∧ m.More w m' ∧ Has wr m' ∧ m' w.heap.size = none)
theorem resultsSrc (tmps : Array Value) (w : World) (b5 : Nat) (x0 x1 x2 x3 x4 : Value) (T3 : TypeId) (h4 : tmps[2]?.getD undef = .pointer (some ⟨b5, 0, none⟩))
    (c5 : w.heap[b5]? = some (.cells #[x0, x1, x2, x3, x4] T3 (0, 0))) :
    (results Tryz.f17 tmps).run Tryz.prog w = .ok (.agg #[x0, x1, x2, x3, x4]) w := by
  obtain ⟨q0, q1, q2, q3, q4⟩ := five_cells c5
  simp [results, Tryz.results17, go_sem, h4, q0, q1, q2, q3, q4]
theorem decls_some {T : Nat → Option Syn.K} {F : Nat} {ns : List (List Nat)} {f : Nat} {s : Syn.So} {i : Nat} {k : Syn.K} (h : T i = some k) : Syn.declsF T F ns (f + 1) s i =
    if Syn.is T i (Syn.tx "global") then (Syn.decl T F ns (i + 1)).on fun d i => (Syn.want T i [59]).on fun _ i => Syn.declsF T F ns f { s with globals := s.globals ++ [d] } i
    else if Syn.is T i (Syn.tx "channel") then (Syn.decl T F ns (i + 1)).on fun d i => (Syn.want T i [59]).on fun _ i => Syn.declsF T F ns f { s with channels := s.channels ++ [d] } i
    else if Syn.is T i (Syn.tx "array") then (Syn.name T (i + 1)).on fun n i => (Syn.number T i).on fun v i => (Syn.label T F ns i).on fun l i => (Syn.want T i [59]).on fun _ i => Syn.declsF T F ns f { s with arrays := s.arrays ++ [⟨n, v, l⟩] } i
    else if Syn.is T i (Syn.tx "func") then (Syn.func T F ns (i + 1)).on fun g i => Syn.declsF T F ns f { s with funcs := s.funcs ++ [g] } i
    else .error (50, i) := by
  rw [Syn.declsF, h]
theorem source_split (T : Nat → Option Syn.K) (F : Nat) : Syn.source T F = (Syn.principalsF T F F [] 0).on fun ns i => Syn.declsF T F ns F ⟨ns, [], [], [], []⟩ i := rfl
set_option maxRecDepth 100000 in
set_option maxHeartbeats 16000000 in
theorem source_d {m : Mem} (h : DS D (.slice none 0 0) (.slice none 0 0) 0 a w) (hm : Has w m) (hbm : m D.bt = none) :
    Calls Tryz.prog 17 #[PB D] w (SrR D m (Syn.source (Tk D.ys) (D.ys.length + 1)) w) := by
  have hfew := h.few
  obtain ⟨RR, hRR⟩ : ∃ RR, Syn.source (Tk D.ys) (D.ys.length + 1) = RR := ⟨_, rfl⟩
  rw [hRR]
  have HRR := Lib.hid hRR
  clear hRR
  have hbt := heap_lt h.st
  obtain ⟨k0, hk0, hx0, hx1, hx2⟩ := infoStr
  have hC0 : Chg (fun _ => False) w ((w.alloc srZ).alloc srZ) := ((Chg.refl _ w).alloc _).alloc _
  have hd0 := h.chg hC0 (fun e => e) (fun e => e)
  have hg0 := World.alloc_heap_new (w.alloc srZ) srZ
  rw [World.size_alloc] at hg0
  have hr0 := heap_new (w.alloc srZ) srZ (World.alloc_heap_new w srZ)
  have hz0 : ((w.alloc srZ).alloc srZ).heap.size = w.heap.size + 2 := by simp
  obtain ⟨W0, hW0⟩ : ∃ W0, (w.alloc srZ).alloc srZ = W0 := ⟨_, rfl⟩
  rw [hW0] at hC0 hd0 hg0 hr0 hz0
  have hW0' : (w.alloc (.cells #[.slice none 0 0, .slice none 0 0, .slice none 0 0, .slice none 0 0, .slice none 0 0] 27)).alloc (.cells #[.slice none 0 0, .slice none 0 0, .slice none 0 0, .slice none 0 0, .slice none 0 0] 27) = W0 := hW0
  have HG0 := Lib.hid hg0
  have HR0 := Lib.hid hr0
  have HC0 := Lib.hid hC0
  have HZ0 := Lib.hid hz0
  have HM := Lib.hid hm
  obtain ⟨RP, hRP⟩ : ∃ RP, Syn.principalsF (Tk D.ys) (D.ys.length + 1) (D.ys.length + 1) [] 0 = RP := ⟨_, rfl⟩
  have HRP := Lib.hid hRP
  have H0 : PpI RP D W0 (.int .i64 0) W0 := ⟨none, 0, [], 0, 0, a, rfl, Lib.hid ⟨World.ownsRow_nil _ _ _ _, hd0, Chg.refl _ _, fun s hs => by cases hs⟩, by simp, .inl ⟨rfl, by simp, D.ys.length + 1, 0, rfl, by omega, by omega, Lib.hid hRP⟩⟩
  clear h hm hC0 hd0 hg0 hr0 hW0 hRP hz0
  go_enter Tryz.func17, Tryz.ntmps17
  go_wp2_with fail
  go_loopw [4] (PpI RP D W0) (fun iv wr => lvMs D iv wr)
  case atStart => exact H0
  case round =>
    obtain ⟨q, c, l, z, er, a1, rfl, HP, hl, hrel⟩ := hrel
    clear H0
    by_cases hgo : er = 0 ∧ ∃ j : Nat, z = (j : Nat) ∧ j ≤ D.ys.length ∧ Syn.is (Tk D.ys) j (bl ⟨#[112, 114, 105, 110, 99, 105, 112, 97, 108]⟩) = true
    · obtain ⟨rfl, i1, rfl, hi1, hpr⟩ := hgo
      obtain ⟨hl64, f, j, hzj, hj, hff, HF⟩ := hrel.elim (fun h => h.2) (fun h => absurd rfl h.1)
      obtain rfl : i1 = j := by omega
      have hil : i1 < D.ys.length := Syn.is_lt (tk_nones D.ys) hpr
      obtain ⟨f, rfl⟩ : ∃ f', f = f' + 1 := ⟨f - 1, by omega⟩
      obtain ⟨RN, hRN⟩ : ∃ RN, Syn.namesF (Tk D.ys) (D.ys.length + 1) l (i1 + 1) = RN := ⟨_, rfl⟩
      have HF2 := Lib.hid (show RN.on (fun l i => (Syn.want (Tk D.ys) i [59]).on fun _ i => Syn.principalsF (Tk D.ys) (D.ys.length + 1) f l i) = RP from by
        have := HF.out
        rw [Syn.principalsF, tx_kw1, if_pos hpr, hRN] at this
        exact this)
      have HRN := Lib.hid hRN
      have HI := Lib.hid (is_d HP.out.2.1 i1 ⟨#[112, 114, 105, 110, 99, 105, 112, 97, 108]⟩)
      rw [hpr] at HI
      have hwi1 : IntKind.i64.wrap ((i1 : Int) + 1) = ((i1 + 1 : Nat) : Int) := by rw [IntKind.wrap_i64]; omega
      have HMS := Lib.hid (lvMs_0 (iv := .int .i64 (i1 : Nat)) HP.out.2.1)
      have H1 : PnI RN D W0 (.int .i64 ((i1 + 1 : Nat) : Int)) (.bool true) wr := ⟨q, c, l, _, 0, a1, true, rfl, rfl, HP, hl, .inl ⟨rfl, hl64, D.ys.length + 1, i1 + 1, rfl, hil, by omega, Lib.hid (by rw [if_pos rfl]; exact hRN)⟩⟩
      clear hpr HF hzj hrel hRN
      go_wp2_with (go_at_call 37; refine HI.out.mono ?_; rintro e w' ⟨rfl, rfl⟩)
      go_loopw [4, 5] (PnI RN D W0) (fun iv _ wr => lvMs D iv wr)
      case atStart => exact H1
      case round =>
        obtain ⟨q2, c2, l2, z2, er2, a2, b, rfl, rfl, HP2, hl2, hrel⟩ := hrel
        clear H1
        have hsr2 := HP2.out.2.2.1.size
        by_cases hgo2 : er2 = 0 ∧ (b = true ∨ ∃ j : Nat, z2 = (j : Nat) ∧ Syn.named (Tk D.ys) j = true)
        · obtain ⟨rfl, hbn⟩ := hgo2
          obtain ⟨hl264, f2, i2, rfl, hi2, hff2, HF3⟩ := hrel.elim (fun h => h.2) (fun h => absurd rfl h.1)
          obtain ⟨f2, rfl⟩ : ∃ f', f2 = f' + 1 := ⟨f2 - 1, by omega⟩
          have hbn2 : b = true ∨ b = false ∧ Syn.named (Tk D.ys) i2 = true := by
            cases b with
            | true => exact .inl rfl
            | false =>
              rcases hbn with h | ⟨j, h1, h2⟩
              · cases h
              · obtain rfl : j = i2 := by omega
                exact .inr ⟨rfl, h2⟩
          have HF4 := Lib.hid (show Syn.namesF (Tk D.ys) (f2 + 1) l2 i2 = RN from by
            have := HF3.out
            rcases hbn2 with rfl | ⟨rfl, h⟩
            · rwa [if_pos rfl] at this
            · rwa [if_neg (by simp), if_pos h] at this)
          have HNM := Lib.hid (namedD HP2.out.2.1 i2)
          have HMS2 := Lib.hid (lvMs_0 (iv := .int .i64 (i2 : Nat)) HP2.out.2.1)
          have HBD := Lib.hid (bad_d HP2.out.2.1 74 i2)
          obtain ⟨_, _, _, _, _, x4, _, hz4, hlt4, _⟩ := HP2.out.2.1.raw
          clear hbn HF3 hrel
          go_upto_region 6 with (fail)
          go_cut [28] from 23 to 29 (fun v wx => v = .bool true ∧ wx = wr)
          case first =>
            rcases hbn2 with rfl | ⟨rfl, hnm⟩
            · go_wp2_with fail
              go_meet
              exact ⟨rfl, rfl⟩
            · rw [hnm] at HNM
              go_wp2_with (go_at_call 38; refine HNM.out.mono ?_; rintro e w' ⟨rfl, rfl⟩)
              go_meet
              exact ⟨rfl, rfl⟩
          case rest =>
          obtain ⟨rfl, hwc⟩ := hcut
          have hwc' := hwc.symm
          clear hwc hbn2
          subst hwc'
          obtain ⟨nm, hnm⟩ : ∃ nm, Syn.named (Tk D.ys) i2 = nm := ⟨_, rfl⟩
          rw [hnm] at HNM
          have HNN := Lib.hid hnm
          clear hnm
          obtain ⟨fb, hfb⟩ : ∃ fb : Bool, (nm && decide (l2.length = 64)) = fb := ⟨_, rfl⟩
          have HFB := Lib.hid hfb
          clear hfb
          go_upto_region 8 with (fail)
          go_cut [39] from 29 to 40 (fun v wx => v = .bool fb ∧ wx = wr)
          case first =>
            cases nm with
            | false =>
              have hb1 : fb = false := HFB.out.symm
              subst hb1
              go_wp2_with (go_at_call 38; refine HNM.out.mono ?_; rintro e w' ⟨rfl, rfl⟩)
              go_meet
              exact ⟨rfl, rfl⟩
            | true =>
              cases hd1 : decide (l2.length = 64) with
              | true =>
                have hb1 : fb = true := by rw [← HFB.out, hd1]; rfl
                have h1i : (((l2.length : Nat) : Int) == 64) = true := by
                  have := of_decide_eq_true hd1
                  simp; omega
                subst hb1
                clear hd1
                go_wp2_with (go_at_call 38; refine HNM.out.mono ?_; rintro e w' ⟨rfl, rfl⟩)
                go_meet
                exact ⟨rfl, rfl⟩
              | false =>
                have hb1 : fb = false := by rw [← HFB.out, hd1]; rfl
                have h1i : (((l2.length : Nat) : Int) == 64) = false := by
                  have := of_decide_eq_false hd1
                  simp; omega
                subst hb1
                clear hd1
                go_wp2_with (go_at_call 38; refine HNM.out.mono ?_; rintro e w' ⟨rfl, rfl⟩)
                go_meet
                exact ⟨rfl, rfl⟩
          case rest =>
          obtain ⟨rfl, hwc⟩ := hcut
          have hwc' := hwc.symm
          clear hwc x4 hz4
          subst hwc'
          obtain ⟨RX, hRX⟩ : ∃ RX : Syn.R Unit, (if fb = true then .error (74, i2) else .ok ((), i2)) = RX := ⟨_, rfl⟩
          have HRX := Lib.hid hRX
          go_upto_if 39 with (fail)
          go_cut [4] from 40 to 43 (fun v wx => v = .int .i64 (i2 : Nat) ∧ ∃ er3 a3, Hid (PnS D W0 q2 c2 l2 er3 a3 wx) ∧ Hid (CuP D RX (fun _ => True) (i2 : Nat) er3 a3))
          case first =>
            cases fb with
            | false =>
              go_wp2_with fail
              go_meet
              exact ⟨rfl, 0, a2, HP2, Lib.hid (by rw [← HRX.out]; exact CuP.start () hi2 trivial a2)⟩
            | true =>
              go_wp2_with fail
              go_at_call 39
              refine HBD.out.mono ?_
              rintro e w3 ⟨rfl, hc3, hd3⟩
              have HP3 := Lib.hid (HP2.out.next hc3 hd3)
              clear hc3 hd3
              go_wp2_with fail
              go_meet
              exact ⟨rfl, 74, _, HP3, Lib.hid (by rw [← HRX.out]; exact ⟨⟨rfl, by decide, rfl⟩, fun x j e => by cases e⟩)⟩
          case rest =>
          obtain ⟨rfl, er3, a3, HP3, HCU3⟩ := hcut
          clear hRX
          have HN := Lib.hid (nameP HP3.out.2.1 HCU3.out)
          go_wp2_with fail
          go_at_call 40
          refine HN.out.mono ?_
          rintro e w4 ⟨t, z4, er4, a4, rfl, hc4, hd4, hcu4⟩
          have hp4 := HP3.out.next hc4 hd4
          have hs4 := hp4.2.2.1.size
          have HP4 := Lib.hid hp4
          have HCU4 := Lib.hid hcu4
          have hnew := row_new w4 [Value.string t] 9
          obtain ⟨_, _, _, _, _, x4, _, hz4, hlt4, _⟩ := hd4.raw
          have z44 := hz4 4
          have hrow4 := hp4.1
          clear hc4 hd4 hcu4 hp4 hz4
          go_upto_region 11 with (fail)
          go_wp2_with (at_builtin; refine wpList_append_own_at _ rfl _ _ 22 rfl W0.heap.size 9 k0 _ 1 16 Tryz.underlying22 hk0 hx0 hx1 hx2 rfl (by decide) _ _ _ rfl (hrow4.alloc _) ⟨w4.heap.size, 0, none⟩ 1 1 [Value.string t] rfl rfl hnew (one_str t) (by unfold maxLen; omega) (by omega) (by simp; omega) ?_)
          intro v9 w9 ho9 hg9 hxx9 hat9
          obtain ⟨q9, c9, rfl⟩ := own_shape ho9
          obtain ⟨s1, s2⟩ := HP4.out.add ho9 hg9
          obtain ⟨_, _, _, _, _, x49, _, hz9, hlt9, _⟩ := s2.raw
          have z49 := hz9 4
          have HS1 := Lib.hid s1
          clear ho9 hg9 hxx9 hat9 s1 s2 hrow4 hnew hz9
          go_wp2_with fail
          have hL := HF4.out
          rw [Syn.namesF] at hL
          have hrx := HRX.out
          rcases HCU4.out.1.cases with ⟨x, j, hx, h4, h5, h6⟩ | ⟨k, tt, hx, h4, h5, h6⟩
          · have h7 := (HCU4.out.2 x j hx).2
            obtain ⟨u, i3, k1, k2⟩ := Syn.R.on_ok hx
            have hfb : fb = false := by
              cases fb with
              | false => rfl
              | true => rw [← hrx] at k1; cases k1
            rw [← hrx, hfb, if_neg (by simp)] at k1
            injection k1 with k1; injection k1 with _ k1
            subst k1
            obtain ⟨t9, i4, k3, k4⟩ := Syn.R.on_ok k2
            injection k4 with k4; injection k4 with k4 k5
            have ht9 : t9 = bl t := by rw [← h7, ← k4]
            have hnm2 := (Syn.name_ok k3).1
            have e1 := (Syn.name_ok k3).2.1
            have hne : ¬ l2.length = 64 := by
              have h1 := HFB.out
              have h2 := HNN.out
              rw [← h2, hnm2, hfb] at h1
              simpa using h1
            rw [k3, on_okk, if_neg hne, ht9, k5] at hL
            subst h4
            refine ⟨⟨q9, c9, l2 ++ [bl t], z4, 0, a4, false, by simp, rfl, HS1, by simp; omega, .inl ⟨rfl, by simp; omega, f2, j, h5, h6, by omega, Lib.hid (by rw [if_neg (by simp)]; exact hL)⟩⟩, ?_⟩
            rw [lvMs_0 HS1.out.2.1, HMS2.out, h5]; simp [intOf]; omega
          · have hE : RN = .error (k, tt) := by
              rw [← hL]
              cases fb with
              | true =>
                rw [if_pos rfl] at hrx
                rw [← hrx] at hx
                injection hx with hx
                have h1 := HFB.out
                simp only [Bool.and_eq_true, decide_eq_true_eq] at h1
                have h2 := HNN.out
                rw [h1.1] at h2
                rw [name_yes D.len h2, on_okk, if_pos h1.2, ← hx]
              | false =>
                rw [if_neg (by simp)] at hrx
                rw [← hrx, on_okk] at hx
                cases hnn : Syn.name (Tk D.ys) i2 with
                | error e => rw [hnn] at hx; injection hx with hx; rw [← hx]; rfl
                | ok p => rw [hnn] at hx; cases hx
            refine ⟨⟨q9, c9, l2 ++ [bl t], z4, er4, a4, false, by simp, rfl, HS1, by simp; omega, .inr ⟨by omega, rfl, Lib.hid ⟨k, tt, hE, h4, h5, h6⟩⟩⟩, ?_⟩
            rw [lvMs_f HS1.out.2.1 (by omega), HMS2.out]; simp [intOf]; omega
        · have hcu : CuP D RN (fun x => x = l2) z2 er2 a2 ∧ b = false ∧ namedB D RN = false := by
            rcases hrel with ⟨rfl, hl264, f2, i2, rfl, hi2, hff2, HF3⟩ | ⟨he, hb, HE⟩
            · have hb : b = false := by
                cases b with
                | false => rfl
                | true => exact (hgo2 ⟨rfl, .inl rfl⟩).elim
              have hnm : Syn.named (Tk D.ys) i2 = false := by
                cases hq : Syn.named (Tk D.ys) i2 with
                | false => rfl
                | true => exact (hgo2 ⟨rfl, .inr ⟨i2, rfl, hq⟩⟩).elim
              have := HF3.out
              rw [hb, if_neg (by simp), if_neg (by rw [hnm]; simp)] at this
              rw [← this]
              exact ⟨⟨⟨rfl, rfl, hi2⟩, fun x j e => by injection e with e; injection e with e _; exact e.symm⟩, hb, hnm⟩
            · obtain ⟨k, t, rfl, h1, h2, h3⟩ := HE.out
              exact ⟨⟨⟨h1, h2, h3⟩, fun x j e => by cases e⟩, hb, rfl⟩
          obtain ⟨hcu, rfl, hnb⟩ := hcu
          have HNM := Lib.hid (namedA HP2.out.2.1 hcu.1)
          rw [hnb] at HNM
          have HCU := Lib.hid hcu
          have HW := Lib.hid (wantP HP2.out.2.1 hcu ⟨#[59]⟩)
          clear hcu hnb hrel hgo2
          go_wp2_with (go_at_call 38; refine HNM.out.mono ?_; rintro e w' ⟨rfl, rfl⟩)
          go_at_call 41
          refine HW.out.mono ?_
          rintro e w5 ⟨z5, er5, a5, rfl, hc5, hd5, hcu5⟩
          have HP5 := Lib.hid (HP2.out.next hc5 hd5)
          have HCU5 := Lib.hid hcu5
          clear hc5 hd5 hcu5
          go_wp2_with fail
          have hL := HF2.out
          rcases HCU5.out.1.cases with ⟨x, j, hx, h4, h5, h6⟩ | ⟨k, tt, hx, h4, h5, h6⟩
          · have h7 := HCU5.out.2 x j hx
            obtain ⟨x1, i2, k1, k2⟩ := Syn.R.on_ok hx
            obtain ⟨u, i3, k3, k4⟩ := Syn.R.on_ok k2
            injection k4 with k4; injection k4 with k4 k5
            have hx1 : x1 = l2 := HCU.out.2 _ _ k1
            have e1 := namesF_gt _ _ _ _ _ (HRN.out.trans k1)
            have e2 := (Syn.want_ok k3).2
            have k3' : Syn.want (Tk D.ys) i2 [59] = .ok (u, i3) := k3
            rw [k1, on_okk, k3', on_okk, hx1, k5] at hL
            subst h4
            have e3 : i1 + 1 < i2 ∧ l2.length ≤ 64 := by
              rcases e1 with ⟨h1, h2⟩ | h1
              · rw [hx1] at h2; exact ⟨h1, h2⟩
              · omega
            refine ⟨⟨q2, c2, l2, z5, 0, a5, rfl, HP5, hl2, .inl ⟨rfl, e3.2, f, j, h5, h6, by omega, Lib.hid hL⟩⟩, ?_⟩
            rw [lvMs_0 HP5.out.2.1, HMS.out, h5]; simp [intOf]; omega
          · have hE : RP = .error (k, tt) := by
              rw [← hL]
              cases hrn : RN with
              | error e => rw [hrn] at hx; injection hx with hx; rw [← hx]; rfl
              | ok p =>
                obtain ⟨x1, i2⟩ := p
                rw [hrn, on_okk] at hx
                rw [on_okk]
                have hx2 : (Syn.want (Tk D.ys) i2 [59]).on (fun _ j => (.ok (x1, j) : Syn.R (List (List Nat)))) = .error (k, tt) := hx
                cases hw : Syn.want (Tk D.ys) i2 [59] with
                | error e => rw [hw] at hx2; injection hx2 with hx2; rw [← hx2]; rfl
                | ok p => rw [hw] at hx2; cases hx2
            refine ⟨⟨q2, c2, l2, z5, er5, a5, rfl, HP5, hl2, .inr ⟨by omega, Lib.hid ⟨k, tt, hE, h4, h5, h6⟩⟩⟩, ?_⟩
            rw [lvMs_f HP5.out.2.1 (by omega), HMS.out]; simp [intOf]; omega
    · have hcu : CuP D RP (fun x => x = l) z er a1 := by
        rcases hrel with ⟨rfl, hl64, f, j, rfl, hj, hff, HF⟩ | ⟨he, HE⟩
        · obtain ⟨f, rfl⟩ : ∃ f', f = f' + 1 := ⟨f - 1, by omega⟩
          have hno : ¬ Syn.is (Tk D.ys) j (bl ⟨#[112, 114, 105, 110, 99, 105, 112, 97, 108]⟩) = true := fun e => hgo ⟨rfl, j, rfl, hj, e⟩
          have := HF.out
          rw [Syn.principalsF, tx_kw1, if_neg hno] at this
          rw [← this]
          exact ⟨⟨rfl, rfl, hj⟩, fun x j e => by injection e with e; injection e with e _; exact e.symm⟩
        · obtain ⟨k, t, rfl, h1, h2, h3⟩ := HE.out
          exact ⟨⟨h1, h2, h3⟩, fun x j e => by cases e⟩
      have hl64 : er = 0 → l.length ≤ 64 := fun he => by
        rcases hrel with ⟨_, h, _⟩ | ⟨h, _⟩
        · exact h
        · exact absurd he h
      have hi6 : Calls Tryz.prog 37 #[PB D, .int .i64 z, .string ⟨#[112, 114, 105, 110, 99, 105, 112, 97, 108]⟩] wr fun e w' => e = .returned (.bool false) ∧ wr = w' := by
        rcases hrel with ⟨rfl, _, f, j, rfl, hj, hff, HF⟩ | ⟨he, HE⟩
        · have hno : Syn.is (Tk D.ys) j (bl ⟨#[112, 114, 105, 110, 99, 105, 112, 97, 108]⟩) = false := by
            cases hq : Syn.is (Tk D.ys) j (bl ⟨#[112, 114, 105, 110, 99, 105, 112, 97, 108]⟩) with
            | false => rfl
            | true => exact (hgo ⟨rfl, j, rfl, hj, hq⟩).elim
          have := is_d HP.out.2.1 j ⟨#[112, 114, 105, 110, 99, 105, 112, 97, 108]⟩
          rwa [hno] at this
        · exact is_f HP.out.2.1 he z _
      have HI6 := Lib.hid hi6
      have HCU := Lib.hid hcu
      have HL64 := Lib.hid hl64
      clear hi6 hcu hrel hgo hl64
      go_wp2_with fail
      go_at_call 37
      refine HI6.out.mono ?_
      rintro e w' ⟨rfl, rfl⟩
      have hgb : ¬ w.heap.size + 1 = D.bt := by omega
      have hzz := HZ0.out
      have hgr := HP.out.2.2.1.heap HG0.out hgb
      have hrr := HP.out.2.2.1.heap HR0.out (by omega)
      have hsr := HP.out.2.2.1.size
      obtain ⟨_, _, _, _, _, x4, _, _, _, _⟩ := HP.out.2.1.raw
      have kg := cell_of (j := 0) hgr rfl
      have kgf := free_of (j := 0) hgr
      have kgl := heap_lt hgr
      have hcs1 := (Chg.refl (fun k => k = w.heap.size + 1) wr).setCell (p := ⟨w.heap.size + 1, 0, none⟩) (.inl rfl) (.slice q l.length c)
      have hg1 := heap_set hgr 0 (.slice q l.length c)
      obtain ⟨W1, hW1⟩ : ∃ W1, wr.setCell ⟨w.heap.size + 1, 0, none⟩ (.slice q l.length c) = W1 := ⟨_, rfl⟩
      rw [hW1] at hcs1 hg1
      have hs1 := hcs1.size
      have hd1 : DS D (.slice q l.length c) (.slice none 0 0) er a1 W1 := HP.out.2.1.chg2 hcs1 (by omega) (fun hn e => by
        obtain ⟨_, arr2, e1, _⟩ := HP.out.2.1.tok.resolve_left hn
        exact blk_ne hgr e1 (by decide) e.symm)
      have hnr1 : l.length ≤ 64 → NR W1 (.slice q l.length c) l := fun hl64 => ⟨own_chg (own_mono2 HP.out.1 (Nat.zero_le _)) hcs1 (fun k hk e => by subst e; exact blk_own hgr HP.out.1 (by decide) hk), hl64, HP.out.2.2.2⟩
      have hc1 : Chg (fun k => k = D.bt) w W1 := ((HC0.out.mono (fun _ e => e.elim)).trans HP.out.2.2.1 (fun k e => .inl e)).trans hcs1 (fun k e => .inr (by omega))
      have hr1 := hcs1.heap hrr (by omega)
      have hm1 := HM.out.chg hc1 (fun k e => by subst e; exact hbm)
      have hnv : ∀ k, Value.ownBlock (.slice q l.length c) = some k → w.heap.size + 2 ≤ k := fun k hk => by have := (HP.out.1.lt k hk).1; omega
      have hRR := HRR.out
      have H0 : DcI RR D l (.slice q l.length c) (w.heap.size + 1) W1.heap.size m w (.int .i64 z) W1 := by
        refine ⟨z, rfl, Lib.hid hc1, Lib.hid hr1, Nat.le_refl _, ?_⟩
        rw [source_split, HRP.out] at hRR
        rcases HCU.out.1.cases with ⟨x, j, hx, h4, rfl, h6⟩ | ⟨k, t, hx, h4, h5, h6⟩
        · have hxl := HCU.out.2 x j hx
          subst hxl
          rw [hx, on_okk] at hRR
          subst h4
          refine .inl ⟨D.ys.length + 1, j, none, 0, none, 0, none, 0, none, 0, ⟨x, [], [], [], []⟩, a1, m, [], [], [], [], rfl, h6, by omega, by simp, Lib.hid hRR, Lib.hid ⟨hg1, World.ownsRow_nil _ _ _ _, Enc.nil, fun k e => (by cases e), World.ownsRow_nil _ _ _ _, Enc.nil, fun k e => (by cases e), World.ownsRow_nil _ _ _ _, Enc.nil, fun k e => (by cases e), World.ownsRow_nil _ _ _ _, Enc.nil, fun k e => (by cases e), fun k e => (by cases e), hm1, Mem.More.refl _ _, HM.out.lt (by omega), hbm, fun k hk => HM.out.lt (by have := hnv k hk; omega), hnr1 (HL64.out rfl), rfl, ⟨_, hd1⟩⟩, Lib.hid (HM.out.lt (Nat.le_refl _))⟩
        · rw [hx] at hRR
          exact .inr ⟨er, a1, _, q, l.length, c, none, 0, 0, none, 0, 0, none, 0, 0, none, 0, 0, by omega, Lib.hid hg1, Lib.hid hd1, Lib.hid ⟨k, t, hRR.symm, h4, h5, h6⟩⟩
      have HNV := Lib.hid hnv
      obtain ⟨nl, hnl⟩ : ∃ nl, l.length = nl := ⟨_, rfl⟩
      obtain ⟨nv, hnvv⟩ : ∃ nv, Value.slice q l.length c = nv := ⟨_, rfl⟩
      have HNVV := Lib.hid hnvv
      rw [hnvv] at H0 HNV
      clear hd1 hnr1 hm1 hr1 hg1 hgr hrr hRR hnvv hnl hc1 hcs1 hnv HCU HL64 HP HI6 hl
      obtain ⟨d0, hd0, hdy0, hdy1, hdy2⟩ := infoDe
      obtain ⟨r0, hr0, hry0, hry1, hry2⟩ := infoAr
      obtain ⟨f0, hf0, hfy0, hfy1, hfy2⟩ := infoFn
      have hgw : w.heap.size < w.heap.size + 1 := by omega
      go_wp2_with fail
      go_loopw [4] (DcI RR D l nv (w.heap.size + 1) W1.heap.size m w) (fun iv wr => lvMs D iv wr)
      case atStart => exact H0
      case round =>
        obtain ⟨z, rfl, HC, HR, hBs, hrel⟩ := hrel
        clear H0 hW1
        have hsplit : (∃ f i qG cG qA cA qC cC qF cF s a mm csG csA csC csF, z = (i : Nat) ∧ i < D.ys.length ∧ D.ys.length < f + i ∧ s.globals.length + s.arrays.length + s.channels.length + s.funcs.length ≤ i ∧ Hid (Syn.declsF (Tk D.ys) (D.ys.length + 1) l f s i = RR) ∧ Hid (SD D nv l (w.heap.size + 1) W1.heap.size m w s a mm (.slice qG s.globals.length cG) (.slice qA s.arrays.length cA) (.slice qC s.channels.length cC) (.slice qF s.funcs.length cF) csG csA csC csF wr) ∧ Hid (mm w.heap.size = none)) ∨ ExF RR D m w (w.heap.size + 1) z wr := by
          rcases hrel with ⟨f, i, qG, cG, qA, cA, qC, cC, qF, cF, s, a, mm, csG, csA, csC, csF, hz, hi, hff, hct, HF, HS, HMR⟩ | ⟨er, a, bv, q1, n1, c1, q2, n2, c2, q3, n3, c3, q4, n4, c4, q5, n5, c5, her, HB, HD, HE⟩
          · by_cases hil : i < D.ys.length
            · exact .inl ⟨f, i, qG, cG, qA, cA, qC, cC, qF, cF, s, a, mm, csG, csA, csC, csF, hz, hil, hff, hct, HF, HS, HMR⟩
            · refine .inr ?_
              obtain ⟨f, rfl⟩ : ∃ f', f = f' + 1 := ⟨f - 1, by omega⟩
              have hR : RR = .ok (s, i) := by
                rw [← HF.out, Syn.declsF, Tk_none (by omega)]
              obtain ⟨bv, hds⟩ := HS.out.ds
              obtain ⟨m2, t1, t2, t3, t4, t5⟩ := HS.out.done (by omega) (fun k hk => by have := HNV.out k hk; omega)
              rw [← HNVV.out] at t4
              have hblk := HS.out.blk
              rw [← HNVV.out] at hblk
              refine ⟨_, _, _, _, _, _, _, _, _, _, _, _, _, _, _, 0, a, _, bv, .inl ⟨rfl, by omega⟩, Lib.hid hblk, Lib.hid hds, Lib.hid ⟨z, by rw [hR]; exact ⟨rfl, hz, hi⟩⟩, Lib.hid (fun s' j' e => ?_)⟩
              rw [hR] at e
              injection e with e; injection e with e _
              subst e
              refine ⟨m2, t4, t1, t2, t5 _ HMR.out (fun e => by have := (HS.out.rG.lt _ e).1; omega) (fun e => by have := (HS.out.rA.lt _ e).1; omega) (fun e => by have := (HS.out.rC.lt _ e).1; omega) (fun e => by have := (HS.out.rF.lt _ e).1; omega) (fun e => by have := HNV.out _ e; omega)⟩
          · obtain ⟨k, t, h1, h2, h3, h4⟩ := HE.out
            refine .inr ⟨q1, n1, c1, q2, n2, c2, q3, n3, c3, q4, n4, c4, q5, n5, c5, er, a, nv, bv, .inr her, HB, HD, Lib.hid ⟨z, by rw [h1]; exact ⟨h2, h3, h4⟩⟩, Lib.hid (fun s j e => by rw [h1] at e; cases e)⟩
        clear hrel
        rcases hsplit with ⟨f, i, qG, cG, qA, cA, qC, cC, qF, cF, s, a, mm, csG, csA, csC, csF, rfl, hil, hff, hct, HF, HS, HMR⟩ | hex
        · obtain ⟨f, rfl⟩ : ∃ f', f = f' + 1 := ⟨f - 1, by omega⟩
          obtain ⟨bv, hds⟩ := HS.out.ds
          have HD := Lib.hid hds
          have HMS := Lib.hid (lvMs_0 (iv := .int .i64 (i : Nat)) hds)
          have hTi := Tk_some (len := D.len) hil
          have hii : (i : Int) < (D.ys.length : Nat) := by omega
          have hwi : IntKind.i64.wrap ((i : Int) + 1) = ((i + 1 : Nat) : Int) := by rw [IntKind.wrap_i64]; omega
          obtain ⟨_, x0, _, x2, _⟩ := hds.raw
          have e00 : (((0 : Nat) : Int) == 0) = true := rfl
          have HIg := Lib.hid (is_d hds i ⟨#[103, 108, 111, 98, 97, 108]⟩)
          have HIc := Lib.hid (is_d hds i ⟨#[99, 104, 97, 110, 110, 101, 108]⟩)
          have HIa := Lib.hid (is_d hds i ⟨#[97, 114, 114, 97, 121]⟩)
          have HIf := Lib.hid (is_d hds i ⟨#[102, 117, 110, 99]⟩)
          have HBE := Lib.hid (bad_d hds 50 i)
          cases hg : Syn.is (Tk D.ys) i (bl ⟨#[103, 108, 111, 98, 97, 108]⟩) with
          | true =>
            rw [hg] at HIg
            have HF2 := Lib.hid (show (Syn.decl (Tk D.ys) (D.ys.length + 1) l (i + 1)).on (fun d i => (Syn.want (Tk D.ys) i [59]).on fun _ i => Syn.declsF (Tk D.ys) (D.ys.length + 1) l f { s with globals := s.globals ++ [d] } i) = RR from by
              have := HF.out
              rw [decls_some hTi, tx_kwG, if_pos hg] at this
              exact this)
            have HDE := Lib.hid (declP hds HS.out.nr (CuP.start (D := D) () (i := i + 1) hil (P := fun _ => True) trivial a))
            clear hds hg
            go_wp2_with fail
            go_at_call 37
            refine HIg.out.mono ?_
            rintro e w' ⟨rfl, rfl⟩
            go_wp2_with fail
            go_at_call 37
            refine HIg.out.mono ?_
            rintro e w' ⟨rfl, rfl⟩
            go_wp2_with fail
            go_at_call 42
            refine HDE.out.mono ?_
            rintro e w9 ⟨d, zd, erd, ad, rfl, hdl, hcd, hdd, hcud⟩
            have HCUd := Lib.hid (one_okk (i + 1) (Syn.decl (Tk D.ys) (D.ys.length + 1) l) (fun y => y = d) hcud)
            have hda := hdd.chg (((Chg.refl (fun _ => False) w9).alloc (.cells #[.string (sb d.name), .int .u64 (d.label : Nat)] 75))) (fun e => e) (fun e => e)
            have HCd := Lib.hid (hcd.alloc (.cells #[.string (sb d.name), .int .u64 (d.label : Nat)] 75))
            have hsd := hcd.size
            have hbt9 := heap_lt hdd.st
            have HWS := Lib.hid (wantP hda HCUd.out ⟨#[59]⟩)
            clear hcd hdd hcud hda
            go_wp2_with fail
            go_at_call 41
            refine HWS.out.mono ?_
            rintro e w7 ⟨z8, er8, a8, rfl, hc8, hd8, hcu8⟩
            have hs8 := hc8.size
            rw [World.size_alloc] at hs8
            have hcall : Chg (fun k => k = D.bt) wr w7 := HCd.out.then hc8
            have hb7 := hc8.heap (World.alloc_heap_new w9 (.cells #[.string (sb d.name), .int .u64 (d.label : Nat)] 75)) (by omega)
            have hblk7 := hcall.heap HS.out.blk hgb
            have hrow7 := own_chg HS.out.rG hcall (fun k hk e => by subst e; exact own_not HD.out HS.out.rG (by decide) hk)
            have HCA := Lib.hid hcall
            have HD8 := Lib.hid hd8
            have HCU8 := Lib.hid hcu8
            have HB7 := Lib.hid hblk7
            have HRW7 := Lib.hid hrow7
            obtain ⟨y0, y1, y2, y3⟩ := two_cells hb7
            have kc7 := cell_of (j := 1) hblk7 rfl
            have hlt7 := heap_lt hblk7
            have hnew := row_new w7 [Value.string (sb d.name), .int .u64 (d.label : Nat)] 75
            clear hc8 hd8 hcu8 hcall hblk7 hb7
            go_upto_region 21 with (fail)
            go_wp2_with (at_builtin; refine wpList_append_own_at _ rfl _ _ 23 rfl W1.heap.size 75 d0 _ 2 24 Tryz.underlying23 hd0 hdy0 hdy1 hdy2 rfl (by decide) _ _ _ rfl (hrow7.alloc _) ⟨w7.heap.size, 0, none⟩ 1 1 [Value.string (sb d.name), .int .u64 (d.label : Nat)] rfl rfl hnew (one_de _ _) (by unfold maxLen; omega) (by omega) (by simp; omega) ?_)
            intro v6 w6 ho6 hg6 hxx6 hat6
            obtain ⟨q8, c8, rfl⟩ := own_shape ho6
            obtain ⟨s1, s2, s3, s4⟩ := sd_grow (arr := (fun v => #[nv, v, .slice qA s.arrays.length cA, .slice qC s.channels.length cC, .slice qF s.funcs.length cF])) (kf := 1) HB7.out HRW7.out (by decide) hg6 ho6 (fun _ _ => rfl)
            have kc8 := cell_of (j := 1) s4 rfl
            have kf8 := free_of (j := 1) s4
            have hlg8 := heap_lt s4
            have hd6 := HD8.out.chg2 s3 (fun e => by
              rcases e with e | e
              · omega
              · exact own_not HD8.out HRW7.out (by decide) e) (fun hn e => by
              rcases e with e | e
              · obtain ⟨_, arr2, k1, _⟩ := HD8.out.tok.resolve_left hn
                exact blk_ne HB7.out k1 (by decide) e.symm
              · exact own_notW HD8.out HRW7.out (by decide) hn e)
            have hc6 := (HC.out.then HCA.out).trans s3 (fun k e => by
              rcases e with e | e
              · exact .inr (by omega)
              · exact .inr (by have := (HRW7.out.lt k e).1; omega))
            have hr6 := s3.heap (HCA.out.heap HR.out (by omega)) (fun e => by
              rcases e with e | e
              · omega
              · have := (HRW7.out.lt _ e).1; omega)
            have hs3 := s3.size
            have HX6 := Lib.hid hc6
            have HR6 := Lib.hid hr6
            have HD6 := Lib.hid hd6
            have HS6 := Lib.hid s1
            have HADD := Lib.hid (fun (h0 : er8 = 0) => (HS.out.next (a' := a8) HCA.out ⟨_, by rw [← h0]; exact HD8.out⟩).addG (x := d) (⟨rfl, hdl⟩ : DeR mm [Value.string (sb d.name), .int .u64 (d.label : Nat)] d) ho6 hg6 (fun k hk => by
              rcases hat6 with e | e
              · exact .inl (by rw [← e]; exact hk)
              · rw [e] at hk
                injection hk with hk
                try simp at hk
                exact .inr (by omega)))
            clear ho6 hg6 hxx6 hat6 s1 s2 s3 s4 hc6 hr6 hd6 hnew hrow7
            go_wp2_with fail
            have hL := HF2.out
            rcases HCU8.out.1.cases with ⟨x, j, hx, h4, h5, h6⟩ | ⟨k, tt, hx, h4, h5, h6⟩
            · have h7 := HCU8.out.2 x j hx
              obtain ⟨x1, i2, k1, k2⟩ := Syn.R.on_ok hx
              obtain ⟨u, i3, k3, k4⟩ := Syn.R.on_ok k2
              injection k4 with k4; injection k4 with k4 k5
              have e1 := dec_gt k1
              have e2 := (Syn.want_ok k3).2
              have k3' : Syn.want (Tk D.ys) i2 [59] = .ok (u, i3) := k3
              rw [k1, on_okk, k3', on_okk, k4, k5, h7] at hL
              refine ⟨⟨z8, rfl, HX6, HR6, by omega, .inl ⟨f, j, q8, c8, qA, cA, qC, cC, qF, cF, { s with globals := s.globals ++ [d] }, a8, mm, _, csA, csC, csF, h5, h6, by omega, by simp; omega, Lib.hid hL, Lib.hid (HADD.out h4), HMR⟩⟩, ?_⟩
              · subst h4
                rw [lvMs_0 HD6.out, HMS.out, h5]; simp [intOf]; omega
            · have hE : RR = .error (k, tt) := by
                rw [← hL]
                cases hdc : Syn.decl (Tk D.ys) (D.ys.length + 1) l (i + 1) with
                | error e => rw [hdc] at hx; injection hx with hx; rw [← hx]; rfl
                | ok p =>
                  obtain ⟨x1, i2⟩ := p
                  rw [hdc, on_okk] at hx
                  rw [on_okk]
                  have hx2 : (Syn.want (Tk D.ys) i2 [59]).on (fun _ j => (.ok (x1, j) : Syn.R Syn.De)) = .error (k, tt) := hx
                  cases hw : Syn.want (Tk D.ys) i2 [59] with
                  | error e => rw [hw] at hx2; injection hx2 with hx2; rw [← hx2]; rfl
                  | ok p => rw [hw] at hx2; cases hx2
              refine ⟨⟨z8, rfl, HX6, HR6, by omega, .inr ⟨er8, a8, _, _, _, _, _, _, _, _, _, _, _, _, _, _, _, _, by omega, Lib.hid (by rw [← HNVV.out] at HS6; exact HS6.out), HD6, Lib.hid ⟨k, tt, hE, h4, h5, h6⟩⟩⟩, ?_⟩
              rw [lvMs_f HD6.out (by omega), HMS.out]; simp [intOf]; omega

          | false =>
          rw [hg] at HIg
          cases hc : Syn.is (Tk D.ys) i (bl ⟨#[99, 104, 97, 110, 110, 101, 108]⟩) with
          | true =>
            rw [hc] at HIc
            have HF2 := Lib.hid (show (Syn.decl (Tk D.ys) (D.ys.length + 1) l (i + 1)).on (fun d i => (Syn.want (Tk D.ys) i [59]).on fun _ i => Syn.declsF (Tk D.ys) (D.ys.length + 1) l f { s with channels := s.channels ++ [d] } i) = RR from by
              have := HF.out
              rw [decls_some hTi, tx_kwG, if_neg (by rw [hg]; simp), tx_kwC, if_pos hc] at this
              exact this)
            have HDE := Lib.hid (declP hds HS.out.nr (CuP.start (D := D) () (i := i + 1) hil (P := fun _ => True) trivial a))
            clear hds hg hc
            go_wp2_with fail
            go_at_call 37
            refine HIg.out.mono ?_
            rintro e w' ⟨rfl, rfl⟩
            go_wp2_with fail
            go_at_call 37
            refine HIc.out.mono ?_
            rintro e w' ⟨rfl, rfl⟩
            go_wp2_with fail
            go_at_call 37
            refine HIg.out.mono ?_
            rintro e w' ⟨rfl, rfl⟩
            go_wp2_with fail
            go_at_call 42
            refine HDE.out.mono ?_
            rintro e w9 ⟨d, zd, erd, ad, rfl, hdl, hcd, hdd, hcud⟩
            have HCUd := Lib.hid (one_okk (i + 1) (Syn.decl (Tk D.ys) (D.ys.length + 1) l) (fun y => y = d) hcud)
            have hda := hdd.chg (((Chg.refl (fun _ => False) w9).alloc (.cells #[.string (sb d.name), .int .u64 (d.label : Nat)] 75))) (fun e => e) (fun e => e)
            have HCd := Lib.hid (hcd.alloc (.cells #[.string (sb d.name), .int .u64 (d.label : Nat)] 75))
            have hsd := hcd.size
            have hbt9 := heap_lt hdd.st
            have HWS := Lib.hid (wantP hda HCUd.out ⟨#[59]⟩)
            clear hcd hdd hcud hda
            go_wp2_with fail
            go_at_call 41
            refine HWS.out.mono ?_
            rintro e w7 ⟨z8, er8, a8, rfl, hc8, hd8, hcu8⟩
            have hs8 := hc8.size
            rw [World.size_alloc] at hs8
            have hcall : Chg (fun k => k = D.bt) wr w7 := HCd.out.then hc8
            have hb7 := hc8.heap (World.alloc_heap_new w9 (.cells #[.string (sb d.name), .int .u64 (d.label : Nat)] 75)) (by omega)
            have hblk7 := hcall.heap HS.out.blk hgb
            have hrow7 := own_chg HS.out.rC hcall (fun k hk e => by subst e; exact own_not HD.out HS.out.rC (by decide) hk)
            have HCA := Lib.hid hcall
            have HD8 := Lib.hid hd8
            have HCU8 := Lib.hid hcu8
            have HB7 := Lib.hid hblk7
            have HRW7 := Lib.hid hrow7
            obtain ⟨y0, y1, y2, y3⟩ := two_cells hb7
            have kc7 := cell_of (j := 3) hblk7 rfl
            have hlt7 := heap_lt hblk7
            have hnew := row_new w7 [Value.string (sb d.name), .int .u64 (d.label : Nat)] 75
            clear hc8 hd8 hcu8 hcall hblk7 hb7
            go_upto_region 22 with (fail)
            go_wp2_with (at_builtin; refine wpList_append_own_at _ rfl _ _ 23 rfl W1.heap.size 75 d0 _ 2 24 Tryz.underlying23 hd0 hdy0 hdy1 hdy2 rfl (by decide) _ _ _ rfl (hrow7.alloc _) ⟨w7.heap.size, 0, none⟩ 1 1 [Value.string (sb d.name), .int .u64 (d.label : Nat)] rfl rfl hnew (one_de _ _) (by unfold maxLen; omega) (by omega) (by simp; omega) ?_)
            intro v6 w6 ho6 hg6 hxx6 hat6
            obtain ⟨q8, c8, rfl⟩ := own_shape ho6
            obtain ⟨s1, s2, s3, s4⟩ := sd_grow (arr := (fun v => #[nv, .slice qG s.globals.length cG, .slice qA s.arrays.length cA, v, .slice qF s.funcs.length cF])) (kf := 3) HB7.out HRW7.out (by decide) hg6 ho6 (fun _ _ => rfl)
            have kc8 := cell_of (j := 3) s4 rfl
            have kf8 := free_of (j := 3) s4
            have hlg8 := heap_lt s4
            have hd6 := HD8.out.chg2 s3 (fun e => by
              rcases e with e | e
              · omega
              · exact own_not HD8.out HRW7.out (by decide) e) (fun hn e => by
              rcases e with e | e
              · obtain ⟨_, arr2, k1, _⟩ := HD8.out.tok.resolve_left hn
                exact blk_ne HB7.out k1 (by decide) e.symm
              · exact own_notW HD8.out HRW7.out (by decide) hn e)
            have hc6 := (HC.out.then HCA.out).trans s3 (fun k e => by
              rcases e with e | e
              · exact .inr (by omega)
              · exact .inr (by have := (HRW7.out.lt k e).1; omega))
            have hr6 := s3.heap (HCA.out.heap HR.out (by omega)) (fun e => by
              rcases e with e | e
              · omega
              · have := (HRW7.out.lt _ e).1; omega)
            have hs3 := s3.size
            have HX6 := Lib.hid hc6
            have HR6 := Lib.hid hr6
            have HD6 := Lib.hid hd6
            have HS6 := Lib.hid s1
            have HADD := Lib.hid (fun (h0 : er8 = 0) => (HS.out.next (a' := a8) HCA.out ⟨_, by rw [← h0]; exact HD8.out⟩).addC (x := d) (⟨rfl, hdl⟩ : DeR mm [Value.string (sb d.name), .int .u64 (d.label : Nat)] d) ho6 hg6 (fun k hk => by
              rcases hat6 with e | e
              · exact .inl (by rw [← e]; exact hk)
              · rw [e] at hk
                injection hk with hk
                try simp at hk
                exact .inr (by omega)))
            clear ho6 hg6 hxx6 hat6 s1 s2 s3 s4 hc6 hr6 hd6 hnew hrow7
            go_wp2_with fail
            have hL := HF2.out
            rcases HCU8.out.1.cases with ⟨x, j, hx, h4, h5, h6⟩ | ⟨k, tt, hx, h4, h5, h6⟩
            · have h7 := HCU8.out.2 x j hx
              obtain ⟨x1, i2, k1, k2⟩ := Syn.R.on_ok hx
              obtain ⟨u, i3, k3, k4⟩ := Syn.R.on_ok k2
              injection k4 with k4; injection k4 with k4 k5
              have e1 := dec_gt k1
              have e2 := (Syn.want_ok k3).2
              have k3' : Syn.want (Tk D.ys) i2 [59] = .ok (u, i3) := k3
              rw [k1, on_okk, k3', on_okk, k4, k5, h7] at hL
              refine ⟨⟨z8, rfl, HX6, HR6, by omega, .inl ⟨f, j, qG, cG, qA, cA, q8, c8, qF, cF, { s with channels := s.channels ++ [d] }, a8, mm, csG, csA, _, csF, h5, h6, by omega, by simp; omega, Lib.hid hL, Lib.hid (HADD.out h4), HMR⟩⟩, ?_⟩
              · subst h4
                rw [lvMs_0 HD6.out, HMS.out, h5]; simp [intOf]; omega
            · have hE : RR = .error (k, tt) := by
                rw [← hL]
                cases hdc : Syn.decl (Tk D.ys) (D.ys.length + 1) l (i + 1) with
                | error e => rw [hdc] at hx; injection hx with hx; rw [← hx]; rfl
                | ok p =>
                  obtain ⟨x1, i2⟩ := p
                  rw [hdc, on_okk] at hx
                  rw [on_okk]
                  have hx2 : (Syn.want (Tk D.ys) i2 [59]).on (fun _ j => (.ok (x1, j) : Syn.R Syn.De)) = .error (k, tt) := hx
                  cases hw : Syn.want (Tk D.ys) i2 [59] with
                  | error e => rw [hw] at hx2; injection hx2 with hx2; rw [← hx2]; rfl
                  | ok p => rw [hw] at hx2; cases hx2
              refine ⟨⟨z8, rfl, HX6, HR6, by omega, .inr ⟨er8, a8, _, _, _, _, _, _, _, _, _, _, _, _, _, _, _, _, by omega, Lib.hid (by rw [← HNVV.out] at HS6; exact HS6.out), HD6, Lib.hid ⟨k, tt, hE, h4, h5, h6⟩⟩⟩, ?_⟩
              rw [lvMs_f HD6.out (by omega), HMS.out]; simp [intOf]; omega

          | false =>
          rw [hc] at HIc
          cases ha : Syn.is (Tk D.ys) i (bl ⟨#[97, 114, 114, 97, 121]⟩) with
          | true =>
            rw [ha] at HIa
            have HF2 := Lib.hid (show (Syn.name (Tk D.ys) (i + 1)).on (fun n i => (Syn.number (Tk D.ys) i).on fun v i => (Syn.label (Tk D.ys) (D.ys.length + 1) l i).on fun lb i => (Syn.want (Tk D.ys) i [59]).on fun _ i => Syn.declsF (Tk D.ys) (D.ys.length + 1) l f { s with arrays := s.arrays ++ [⟨n, v, lb⟩] } i) = RR from by
              have := HF.out
              rw [decls_some hTi, tx_kwG, if_neg (by rw [hg]; simp), tx_kwC, if_neg (by rw [hc]; simp), tx_kwA, if_pos ha] at this
              exact this)
            have HN := Lib.hid (nameP hds (CuP.start (D := D) () (i := i + 1) hil (P := fun _ => True) trivial a))
            clear hds hg hc ha
            go_wp2_with fail
            go_at_call 37
            refine HIg.out.mono ?_
            rintro e w' ⟨rfl, rfl⟩
            go_wp2_with fail
            go_at_call 37
            refine HIc.out.mono ?_
            rintro e w' ⟨rfl, rfl⟩
            go_wp2_with fail
            go_at_call 37
            refine HIa.out.mono ?_
            rintro e w' ⟨rfl, rfl⟩
            go_wp2_with fail
            go_at_call 40
            refine HN.out.mono ?_
            rintro e w9 ⟨t, z1, er1, a1, rfl, hc1, hd1, hcu1⟩
            obtain ⟨R1, hR1, hcu1⟩ := hcu1.nm
            have HR1 := Lib.hid hR1
            have HC1 := Lib.hid hc1
            have HD1 := Lib.hid hd1
            have HCU1 := Lib.hid hcu1
            have hs1 := hc1.size
            obtain ⟨fb, hcase⟩ : ∃ fb : Bool, (fb = false ∧ er1 = 0 ∧ ∃ x j, R1 = .ok (x, j) ∧ z1 = (j : Nat) ∧ j < D.ys.length ∧ (tk D.ys D.len j).k = 3) ∨ (fb = true ∧ (er1 ≠ 0 ∨ er1 = 0 ∧ ∃ x j, R1 = .ok (x, j) ∧ z1 = (j : Nat) ∧ j ≤ D.ys.length ∧ (D.ys.length ≤ j ∨ j < D.ys.length ∧ (tk D.ys D.len j).k ≠ 3))) := by
              rcases hcu1.1.cases with ⟨x, j, hx, h4, h5, h6⟩ | ⟨k, tt, hx, h4, h5, h6⟩
              · by_cases hjl : j < D.ys.length
                · by_cases h3 : (tk D.ys D.len j).k = 3
                  · exact ⟨false, .inl ⟨rfl, h4, x, j, hx, h5, hjl, h3⟩⟩
                  · exact ⟨true, .inr ⟨rfl, .inr ⟨h4, x, j, hx, h5, h6, .inr ⟨hjl, h3⟩⟩⟩⟩
                · exact ⟨true, .inr ⟨rfl, .inr ⟨h4, x, j, hx, h5, h6, .inl (by omega)⟩⟩⟩
              · exact ⟨true, .inr ⟨rfl, .inl (by omega)⟩⟩
            clear hR1 hc1 hcu1 hd1 x0 x2 hii
            go_upto_region 26 with (fail)
            go_cut [150] from 126 to 151 (fun v wx => v = .bool fb ∧ wx = w9)
            case first =>
              obtain ⟨qt, x0, _, x2, _, _, _, _, _, hx⟩ := HD1.out.raw
              rcases hcase with ⟨rfl, rfl, x, j, _, rfl, hjl, h3⟩ | ⟨rfl, he | ⟨rfl, x, j, _, rfl, hjl, h3⟩⟩
              · obtain ⟨rfl, _, _, y0, _⟩ := hx j hjl
                have e01 : (((0 : Nat) : Int) != 0) = false := rfl
                have hg1 : ¬ ((D.ys.length : Nat) : Int) ≤ (j : Int) := by omega
                have hji : (j : Int) < (D.ys.length : Nat) := by omega
                have hk3 : (((tk D.ys D.len j).k : Int) != 3) = false := by rw [h3]; rfl
                clear hx h3
                go_wp2_with fail
                go_meet
                exact ⟨rfl, rfl⟩
              · have e01 : ((er1 : Int) != 0) = true := by simp; omega
                clear hx
                go_wp2_with fail
                go_meet
                exact ⟨rfl, rfl⟩
              · have e01 : (((0 : Nat) : Int) != 0) = false := rfl
                rcases h3 with h3 | ⟨hjl2, h3⟩
                · have hg1 : ((D.ys.length : Nat) : Int) ≤ (j : Int) := by omega
                  clear hx
                  go_wp2_with fail
                  go_meet
                  exact ⟨rfl, rfl⟩
                · obtain ⟨rfl, _, _, y0, _⟩ := hx j hjl2
                  have hg1 : ¬ ((D.ys.length : Nat) : Int) ≤ (j : Int) := by omega
                  have hji : (j : Int) < (D.ys.length : Nat) := by omega
                  have hk3 : (((tk D.ys D.len j).k : Int) != 3) = true := by simp; omega
                  clear hx h3
                  go_wp2_with fail
                  go_meet
                  exact ⟨rfl, rfl⟩
            case rest =>
            obtain ⟨rfl, hwc⟩ := hcut
            have hwc' := hwc.symm
            clear hwc
            subst hwc'
            obtain ⟨R2, hR2⟩ : ∃ R2, (R1.on fun x i => (Syn.number (Tk D.ys) i).on fun v j => (.ok ((x, v), j) : Syn.R ((Unit × List Nat) × Nat))) = R2 := ⟨_, rfl⟩
            have HR2 := Lib.hid hR2
            go_upto_if 150 with (fail)
            go_cut [13] from 151 to 162 (fun v wx => ∃ vv er2 a2, v = .int .i64 ((vv : Nat) : Int) ∧ Hid (Chg (fun k => k = D.bt) w9 wx) ∧ Hid (DS D nv bv er2 a2 wx) ∧ Hid (CuP D R2 (fun y => y.1.2 = bl t ∧ y.2 = vv) (wrap64 (z1 + 1)) er2 a2))
            case first =>
              rcases hcase with ⟨rfl, rfl, x, j, hx1, rfl, hjl, h3⟩ | ⟨rfl, hbad⟩
              · obtain ⟨qt, x0, _, x2, _, _, _, _, _, hx⟩ := HD1.out.raw
                obtain ⟨rfl, _, _, y0, y1, y2, _⟩ := hx j hjl
                have hji : (j : Int) < (D.ys.length : Nat) := by omega
                have HZ := Lib.hid (show CuP D R2 (fun y => y.1.2 = bl t ∧ y.2 = (tk D.ys D.len j).v) (wrap64 ((j : Int) + 1)) 0 a1 from by
                  have hn : Syn.number (Tk D.ys) j = .ok ((tk D.ys D.len j).v, j + 1) := by
                    unfold Syn.number
                    rw [Tk_some (len := D.len) hjl]
                    exact if_pos h3
                  rw [← HR2.out, hx1, on_okk, hn, on_okk]
                  exact ⟨⟨rfl, by unfold wrap64; omega, hjl⟩, fun y k e => by
                    injection e with e; injection e with e _
                    rw [← e]; exact ⟨(HCU1.out.2 _ _ hx1).2, rfl⟩⟩)
                clear hx h3 hx1
                go_wp2_with fail
                go_meet
                exact ⟨_, 0, a1, rfl, Lib.hid (Chg.refl _ _), HD1, HZ⟩
              · have HBF := Lib.hid (show Calls Tryz.prog 39 #[PB D, .int .i64 50, .int .i64 z1] w9 fun e w' => ∃ er2 a2, e = .returned (.tuple #[]) ∧ Chg (fun k => k = D.bt) w9 w' ∧ DS D nv bv er2 a2 w' ∧ CuP D R2 (fun y => y.1.2 = bl t ∧ y.2 = 0) (wrap64 (z1 + 1)) er2 a2 from by
                  rcases hbad with he | ⟨rfl, x, j, hx1, rfl, hjl, h3⟩
                  · refine (bad_f HD1.out he 50 z1).mono ?_
                    rintro e w' ⟨rfl, rfl⟩
                    refine ⟨er1, a1, rfl, Chg.refl _ _, HD1.out, ?_⟩
                    rcases HCU1.out.1.cases with ⟨x, j, hx, h4, h5, h6⟩ | ⟨k, tt, hx, h4, h5, h6⟩
                    · exact absurd h4 he
                    · rw [← HR2.out, hx]
                      exact ⟨⟨h4, h5, h6⟩, fun y k e => by cases e⟩
                  · refine (bad_d HD1.out 50 j).mono ?_
                    rintro e w' ⟨rfl, hc, hd⟩
                    refine ⟨50, _, rfl, hc, hd, ?_⟩
                    have hn : Syn.number (Tk D.ys) j = .error (50, j) := by
                      unfold Syn.number
                      rcases h3 with h3 | ⟨h2, h3⟩
                      · rw [Tk_none h3]
                      · rw [Tk_some (len := D.len) h2]
                        exact if_neg h3
                    rw [← HR2.out, hx1, on_okk, hn]
                    exact ⟨⟨rfl, by decide, rfl⟩, fun y k e => by cases e⟩)
                clear hbad
                go_wp2_with fail
                go_at_call 39
                refine HBF.out.mono ?_
                rintro e w7 ⟨er2, a2, rfl, hc2, hd2, hcu2⟩
                have HX := Lib.hid (And.intro hc2 (And.intro hd2 hcu2))
                clear hc2 hd2 hcu2
                go_wp2_with fail
                go_meet
                exact ⟨0, er2, a2, rfl, Lib.hid HX.out.1, Lib.hid HX.out.2.1, Lib.hid HX.out.2.2⟩
            case rest =>
            obtain ⟨vv, er2, a2, rfl, HC2, HD2, HCU2⟩ := hcut
            clear hcase hR2
            have hs2 := HC2.out.size
            have HLB := Lib.hid (labelP HD2.out ((HS.out.nr.next HD.out HC1.out).next HD1.out HC2.out) HCU2.out)
            go_wp2_with fail
            go_at_call 43
            refine HLB.out.mono ?_
            rintro e w5 ⟨lb, z3, er3, a3, rfl, hlb, hc3, hd3, hcu3⟩
            have HC3 := Lib.hid hc3
            have hs3' := hc3.size
            have HWS := Lib.hid (wantP hd3 hcu3 ⟨#[59]⟩)
            clear hc3 hd3 hcu3
            go_wp2_with fail
            go_at_call 41
            refine HWS.out.mono ?_
            rintro e w7 ⟨z8, er8, a8, rfl, hc8, hd8, hcu8⟩
            have hs8 := hc8.size
            have hcall : Chg (fun k => k = D.bt) wr w7 := ((HC1.out.then HC2.out).then HC3.out).then hc8
            have hblk7 := hcall.heap HS.out.blk hgb
            have hrow7 := own_chg HS.out.rA hcall (fun k hk e => by subst e; exact own_not HD.out HS.out.rA (by decide) hk)
            have HCA := Lib.hid hcall
            have HD8 := Lib.hid hd8
            have HCU8 := Lib.hid hcu8
            have HB7 := Lib.hid hblk7
            have HRW7 := Lib.hid hrow7
            have kc7 := cell_of (j := 2) hblk7 rfl
            have hlt7 := heap_lt hblk7
            have hnew := row_new w7 [Value.string t, .int .i64 (vv : Nat), .int .u64 (lb : Nat)] 71
            have hone := one_ar t vv lb
            clear hc8 hd8 hcu8 hcall hblk7
            go_upto_region 31 with (fail)
            go_wp2_with (at_builtin; refine wpList_append_own_at _ rfl _ _ 24 rfl W1.heap.size 71 r0 _ 3 32 Tryz.underlying24 hr0 hry0 hry1 hry2 rfl (by decide) _ _ _ rfl (hrow7.alloc _) ⟨w7.heap.size, 0, none⟩ 1 1 [Value.string t, .int .i64 (vv : Nat), .int .u64 (lb : Nat)] rfl rfl hnew hone (by unfold maxLen; omega) (by omega) (by simp; omega) ?_)
            intro v6 w6 ho6 hg6 hxx6 hat6
            obtain ⟨q8, c8, rfl⟩ := own_shape ho6
            obtain ⟨s1, s2, s3, s4⟩ := sd_grow (arr := (fun v => #[nv, .slice qG s.globals.length cG, v, .slice qC s.channels.length cC, .slice qF s.funcs.length cF])) (kf := 2) HB7.out HRW7.out (by decide) hg6 ho6 (fun _ _ => rfl)
            have kc8 := cell_of (j := 2) s4 rfl
            have kf8 := free_of (j := 2) s4
            have hlg8 := heap_lt s4
            have hd6 := HD8.out.chg2 s3 (fun e => by
              rcases e with e | e
              · omega
              · exact own_not HD8.out HRW7.out (by decide) e) (fun hn e => by
              rcases e with e | e
              · obtain ⟨_, arr2, k1, _⟩ := HD8.out.tok.resolve_left hn
                exact blk_ne HB7.out k1 (by decide) e.symm
              · exact own_notW HD8.out HRW7.out (by decide) hn e)
            have hc6 := (HC.out.then HCA.out).trans s3 (fun k e => by
              rcases e with e | e
              · exact .inr (by omega)
              · exact .inr (by have := (HRW7.out.lt k e).1; omega))
            have hr6 := s3.heap (HCA.out.heap HR.out (by omega)) (fun e => by
              rcases e with e | e
              · omega
              · have := (HRW7.out.lt _ e).1; omega)
            have hs3 := s3.size
            have HX6 := Lib.hid hc6
            have HR6 := Lib.hid hr6
            have HD6 := Lib.hid hd6
            have HS6 := Lib.hid s1
            have HADD := Lib.hid (fun (h0 : er8 = 0) => (HS.out.next (a' := a8) HCA.out ⟨_, by rw [← h0]; exact HD8.out⟩).addA (x := ⟨bl t, vv, lb⟩) (⟨by unfold arV3; rw [sb_bl], hlb⟩ : ArR mm [Value.string t, .int .i64 (vv : Nat), .int .u64 (lb : Nat)] ⟨bl t, vv, lb⟩) ho6 hg6 (fun k hk => by
              rcases hat6 with e | e
              · exact .inl (by rw [← e]; exact hk)
              · rw [e] at hk
                injection hk with hk
                try simp at hk
                exact .inr (by omega)))
            clear ho6 hg6 hxx6 hat6 s1 s2 s3 s4 hc6 hr6 hd6 hnew hrow7
            go_wp2_with fail
            have hL := HF2.out
            rcases HCU8.out.1.cases with ⟨x, j, hx, h4, h5, h6⟩ | ⟨k, tt, hx, h4, h5, h6⟩
            · have h7 := HCU8.out.2 x j hx
              obtain ⟨x1, i2, k1, k2⟩ := Syn.R.on_ok hx
              obtain ⟨u, i3, k3, k4⟩ := Syn.R.on_ok k2
              injection k4 with k4; injection k4 with k4 k5
              obtain ⟨x2, i4, k6, k7⟩ := Syn.R.on_ok k1
              obtain ⟨x3, i5, k8, k9⟩ := Syn.R.on_ok k7
              injection k9 with k9; injection k9 with k9 k10
              rw [← HR2.out] at k6
              obtain ⟨x4, i6, k11, k12⟩ := Syn.R.on_ok k6
              obtain ⟨x5, i7, k13, k14⟩ := Syn.R.on_ok k12
              injection k14 with k14; injection k14 with k14 k15
              rw [HR1.out, on_okk] at k11
              obtain ⟨x6, i8, k16, k17⟩ := Syn.R.on_ok k11
              injection k17 with k17; injection k17 with k17 k18
              have e1 := (Syn.name_ok k16).2.1
              have e2 := lab_gt k8
              have e3 := (Syn.want_ok k3).2
              have e4 : i7 = i6 + 1 := by
                unfold Syn.number at k13
                split at k13
                · split at k13
                  · injection k13 with k13; injection k13 with _ k13; exact k13.symm
                  · cases k13
                · cases k13
              have k3' : Syn.want (Tk D.ys) i2 [59] = .ok (u, i3) := k3
              subst k18 k15 k10
              rw [k16, on_okk, k13, on_okk, k8, on_okk, k3', on_okk, k5] at hL
              rw [← k4, ← k9, ← k14, ← k17] at h7
              obtain ⟨⟨h8, h9⟩, h10⟩ := h7
              simp only at h8 h9 h10
              rw [h8, h9, h10] at hL
              refine ⟨⟨z8, rfl, HX6, HR6, by omega, .inl ⟨f, j, qG, cG, q8, c8, qC, cC, qF, cF, { s with arrays := s.arrays ++ [⟨bl t, vv, lb⟩] }, a8, mm, csG, _, csC, csF, h5, h6, by omega, by simp; omega, Lib.hid hL, Lib.hid (HADD.out h4), HMR⟩⟩, ?_⟩
              subst h4
              rw [lvMs_0 HD6.out, HMS.out, h5]; simp [intOf]; omega
            · have hE : RR = .error (k, tt) := by
                rw [← hL]
                rw [← HR2.out, HR1.out, on_okk] at hx
                cases hdc : Syn.name (Tk D.ys) (i + 1) with
                | error e => rw [hdc] at hx; injection hx with hx; rw [← hx]; rfl
                | ok p =>
                  obtain ⟨x1, i2⟩ := p
                  rw [hdc, on_okk, on_okk] at hx
                  rw [on_okk]
                  cases hnn : Syn.number (Tk D.ys) i2 with
                  | error e => rw [hnn] at hx; injection hx with hx; rw [← hx]; rfl
                  | ok p =>
                    obtain ⟨x2, i3⟩ := p
                    rw [hnn, on_okk, on_okk] at hx
                    rw [on_okk]
                    cases hlb2 : Syn.label (Tk D.ys) (D.ys.length + 1) l i3 with
                    | error e => rw [hlb2] at hx; injection hx with hx; rw [← hx]; rfl
                    | ok p =>
                      obtain ⟨x3, i4⟩ := p
                      rw [hlb2, on_okk, on_okk] at hx
                      rw [on_okk]
                      have hx2 : (Syn.want (Tk D.ys) i4 [59]).on (fun _ j => (.ok (_, j) : Syn.R (((Unit × List Nat) × Nat) × Nat))) = .error (k, tt) := hx
                      cases hw : Syn.want (Tk D.ys) i4 [59] with
                      | error e => rw [hw] at hx2; injection hx2 with hx2; rw [← hx2]; rfl
                      | ok p => rw [hw] at hx2; cases hx2
              refine ⟨⟨z8, rfl, HX6, HR6, by omega, .inr ⟨er8, a8, _, _, _, _, _, _, _, _, _, _, _, _, _, _, _, _, by omega, Lib.hid (by rw [← HNVV.out] at HS6; exact HS6.out), HD6, Lib.hid ⟨k, tt, hE, h4, h5, h6⟩⟩⟩, ?_⟩
              rw [lvMs_f HD6.out (by omega), HMS.out]; simp [intOf]; omega

          | false =>
          rw [ha] at HIa
          cases hf : Syn.is (Tk D.ys) i (bl ⟨#[102, 117, 110, 99]⟩) with
          | true =>
            rw [hf] at HIf
            have HF2 := Lib.hid (show (Syn.func (Tk D.ys) (D.ys.length + 1) l (i + 1)).on (fun g i => Syn.declsF (Tk D.ys) (D.ys.length + 1) l f { s with funcs := s.funcs ++ [g] } i) = RR from by
              have := HF.out
              rw [decls_some hTi, tx_kwG, if_neg (by rw [hg]; simp), tx_kwC, if_neg (by rw [hc]; simp), tx_kwA, if_neg (by rw [ha]; simp), tx_kwD, if_pos hf] at this
              exact this)
            have HFN := Lib.hid (function_d hds HS.out.nr HS.out.has HS.out.mb (i := i + 1) hil)
            clear hds hg hc ha hf
            go_wp2_with fail
            go_at_call 37
            refine HIg.out.mono ?_
            rintro e w' ⟨rfl, rfl⟩
            go_wp2_with fail
            go_at_call 37
            refine HIc.out.mono ?_
            rintro e w' ⟨rfl, rfl⟩
            go_wp2_with fail
            go_at_call 37
            refine HIa.out.mono ?_
            rintro e w' ⟨rfl, rfl⟩
            go_wp2_with fail
            go_at_call 37
            refine HIf.out.mono ?_
            rintro e w' ⟨rfl, rfl⟩
            go_wp2_with fail
            go_at_call 44
            refine HFN.out.mono ?_
            rintro e w9 ⟨fs, fl, qa, na, ca, qb, nb, cb, qd, nd, cd, qe, ne, ce, zd, erd, ad, bv', rfl, hcd, hdd, hnd, hcud, hmd⟩
            have hda := hdd.chg (((Chg.refl (fun _ => False) w9).alloc (.cells #[.string fs, .int .u64 (fl : Nat), .slice qa na ca, .slice qb nb cb, .slice qd nd cd, .slice qe ne ce] 41))) (fun e => e) (fun e => e)
            have hsd := hcd.size
            have hcall : Chg (fun k => k = D.bt) wr (w9.alloc (.cells #[.string fs, .int .u64 (fl : Nat), .slice qa na ca, .slice qb nb cb, .slice qd nd cd, .slice qe ne ce] 41)) := hcd.alloc _
            have hb7 := World.alloc_heap_new w9 (.cells #[.string fs, .int .u64 (fl : Nat), .slice qa na ca, .slice qb nb cb, .slice qd nd cd, .slice qe ne ce] 41)
            have hblk7 := hcall.heap HS.out.blk hgb
            have hrow7 := own_chg HS.out.rF hcall (fun k hk e => by subst e; exact own_not HD.out HS.out.rF (by decide) hk)
            have HCA := Lib.hid hcall
            have HCD := Lib.hid hcd
            have HD9 := Lib.hid hdd
            have HD8 := Lib.hid hda
            have HCU8 := Lib.hid hcud
            have HMD := Lib.hid hmd
            have HB7 := Lib.hid hblk7
            have HRW7 := Lib.hid hrow7
            obtain ⟨y0, y1, y2, y3, y4, y5⟩ := six_cells hb7
            have hnew : ∀ (j : Nat) (u : Value), [Value.string fs, .int .u64 (fl : Nat), .slice qa na ca, .slice qb nb cb, .slice qd nd cd, .slice qe ne ce][j]? = some u → ((w9.alloc (.cells #[.string fs, .int .u64 (fl : Nat), .slice qa na ca, .slice qb nb cb, .slice qd nd cd, .slice qe ne ce] 41)).alloc (.cells #[.string fs, .int .u64 (fl : Nat), .slice qa na ca, .slice qb nb cb, .slice qd nd cd, .slice qe ne ce] 41)).cell? ((⟨w9.heap.size + 1, 0, none⟩ : Addr).add j) = some u := by
              have := row_new (w9.alloc (.cells #[.string fs, .int .u64 (fl : Nat), .slice qa na ca, .slice qb nb cb, .slice qd nd cd, .slice qe ne ce] 41)) [Value.string fs, .int .u64 (fl : Nat), .slice qa na ca, .slice qb nb cb, .slice qd nd cd, .slice qe ne ce] 41
              simpa only [World.size_alloc] using this
            have kc7 := cell_of (j := 4) hblk7 rfl
            have hlt7 := heap_lt hblk7
            have hone := one_fn fs fl qa qb qd qe na ca nb cb nd cd ne ce
            have hbt9 := heap_lt hdd.st
            clear hcd hdd hda hcud hmd hcall hb7 hblk7 hnd
            go_upto_region 35 with (fail)
            go_wp2_with (at_builtin; refine wpList_append_own_at _ rfl _ _ 25 rfl W1.heap.size 41 f0 _ 6 120 Tryz.underlying25 hf0 hfy0 hfy1 hfy2 rfl (by decide) _ _ _ rfl (hrow7.alloc _) ⟨w9.heap.size + 1, 0, none⟩ 1 1 [Value.string fs, .int .u64 (fl : Nat), .slice qa na ca, .slice qb nb cb, .slice qd nd cd, .slice qe ne ce] rfl rfl hnew hone (by unfold maxLen; omega) (by omega) (by simp; omega) ?_)
            intro v6 w6 ho6 hg6 hxx6 hat6
            obtain ⟨q8, c8, rfl⟩ := own_shape ho6
            obtain ⟨s1, s2, s3, s4⟩ := sd_grow (arr := (fun v => #[nv, .slice qG s.globals.length cG, .slice qA s.arrays.length cA, .slice qC s.channels.length cC, v])) (kf := 4) HB7.out HRW7.out (by decide) hg6 ho6 (fun _ _ => rfl)
            have kc8 := cell_of (j := 4) s4 rfl
            have kf8 := free_of (j := 4) s4
            have hlg8 := heap_lt s4
            have hsa : (w9.alloc (.cells #[.string fs, .int .u64 (fl : Nat), .slice qa na ca, .slice qb nb cb, .slice qd nd cd, .slice qe ne ce] 41)).heap.size = w9.heap.size + 1 := World.size_alloc _ _
            have hd6 := HD8.out.chg2 s3 (fun e => by
              rcases e with e | e
              · omega
              · exact own_not HD8.out HRW7.out (by decide) e) (fun hn e => by
              rcases e with e | e
              · obtain ⟨_, arr2, k1, _⟩ := HD8.out.tok.resolve_left hn
                exact blk_ne HB7.out k1 (by decide) e.symm
              · exact own_notW HD8.out HRW7.out (by decide) hn e)
            have hc6 := (HC.out.then HCA.out).trans s3 (fun k e => by
              rcases e with e | e
              · exact .inr (by omega)
              · exact .inr (by have := (HRW7.out.lt k e).1; omega))
            have hr6 := s3.heap (HCA.out.heap HR.out (by omega)) (fun e => by
              rcases e with e | e
              · omega
              · have := (HRW7.out.lt _ e).1; omega)
            have hs3 := s3.size
            have HX6 := Lib.hid hc6
            have HR6 := Lib.hid hr6
            have HD6 := Lib.hid hd6
            have HS6 := Lib.hid s1
            have hblt := heap_lt HS.out.blk
            have hbtr := heap_lt HD.out.st
            have hHC := HC.out.size
            have HADD := Lib.hid (fun (fn : Syn.Fn) (m1 : Mem) (h1 : FnM m1 [Value.string fs, .int .u64 (fl : Nat), .slice qa na ca, .slice qb nb cb, .slice qd nd cd, .slice qe ne ce] fn) (h2 : mm.More wr m1) (h3 : Has w9 m1) (h0 : erd = 0) =>
              (((HS.out.next (a' := ad) HCD.out ⟨bv', by have := HD9.out; rw [h0] at this; exact this⟩).mem (X := wr) (by omega) (fun k e => by
                rcases e with e | e | e | e | e | e | e
                · exact (HS.out.rG.lt k e).2
                · exact (HS.out.rA.lt k e).2
                · exact (HS.out.rC.lt k e).2
                · exact (HS.out.rF.lt k e).2
                · exact (HS.out.nr.1.lt k e).2
                · omega
                · omega) h2 h3).next (a' := ad) ((Chg.refl (fun k => k = D.bt) w9).alloc (.cells #[.string fs, .int .u64 (fl : Nat), .slice qa na ca, .slice qb nb cb, .slice qd nd cd, .slice qe ne ce] 41)) ⟨bv', by have := HD8.out; rw [h0] at this; exact this⟩).addF (x := fn) h1 ho6 hg6 (fun k hk => by
              rcases hat6 with e | e
              · exact .inl (by rw [← e]; exact hk)
              · rw [e] at hk
                injection hk with hk
                try simp at hk
                exact .inr (by omega)))
            clear ho6 hg6 hxx6 hat6 s1 s2 s3 s4 hc6 hr6 hd6 hnew hrow7
            go_wp2_with fail
            have hL := HF2.out
            rcases HCU8.out.cases with ⟨x, j, hx, h4, h5, h6⟩ | ⟨k, tt, hx, h4, h5, h6⟩
            · obtain ⟨m1, g1, g2, g3, g4⟩ := HMD.out x j hx
              have e1 := func_ge (tk_nones D.ys) (show D.ys.length < D.ys.length + 1 by omega) hil hx
              rw [hx, on_okk] at hL
              refine ⟨⟨zd, rfl, HX6, HR6, by omega, .inl ⟨f, j, qG, cG, qA, cA, qC, cC, q8, c8, { s with funcs := s.funcs ++ [x] }, ad, m1, csG, csA, csC, _, h5, h6, by omega, by simp; omega, Lib.hid hL, Lib.hid (HADD.out x m1 g1 g2 g3 h4), Lib.hid (g2.new _ HMR.out (by omega))⟩⟩, ?_⟩
              subst h4
              rw [lvMs_0 HD6.out, HMS.out, h5]; simp [intOf]; omega
            · have hE : RR = .error (k, tt) := by rw [← hL, hx]; rfl
              refine ⟨⟨zd, rfl, HX6, HR6, by omega, .inr ⟨erd, ad, _, _, _, _, _, _, _, _, _, _, _, _, _, _, _, _, by omega, Lib.hid (by rw [← HNVV.out] at HS6; exact HS6.out), HD6, Lib.hid ⟨k, tt, hE, h4, h5, h6⟩⟩⟩, ?_⟩
              rw [lvMs_f HD6.out (by omega), HMS.out]; simp [intOf]; omega

          | false =>
          rw [hf] at HIf
          have hE : RR = .error (50, i) := by
            have := HF.out
            rw [decls_some hTi, tx_kwG, if_neg (by rw [hg]; simp), tx_kwC, if_neg (by rw [hc]; simp), tx_kwA, if_neg (by rw [ha]; simp), tx_kwD, if_neg (by rw [hf]; simp)] at this
            exact this.symm
          have HE := Lib.hid (show ∃ k t, RR = .error (k, t) ∧ 50 = k ∧ k ≠ 0 ∧ (tk D.ys D.len i).a = (tk D.ys D.len t).a from ⟨50, i, hE, rfl, by decide, rfl⟩)
          clear hds hg hc ha hf hE
          go_wp2_with fail
          go_at_call 37
          refine HIg.out.mono ?_
          rintro e w' ⟨rfl, rfl⟩
          go_wp2_with fail
          go_at_call 37
          refine HIc.out.mono ?_
          rintro e w' ⟨rfl, rfl⟩
          go_wp2_with fail
          go_at_call 37
          refine HIa.out.mono ?_
          rintro e w' ⟨rfl, rfl⟩
          go_wp2_with fail
          go_at_call 37
          refine HIf.out.mono ?_
          rintro e w' ⟨rfl, rfl⟩
          go_wp2_with fail
          go_at_call 39
          refine HBE.out.mono ?_
          rintro e w7 ⟨rfl, hc7, hd7⟩
          have hsz7 := hc7.size
          have HX7 := Lib.hid (HC.out.then hc7)
          have HR7 := Lib.hid (hc7.heap HR.out (by omega))
          have hb7 := hc7.heap HS.out.blk hgb
          rw [← HNVV.out] at hb7
          have HB7 := Lib.hid hb7
          have HD7 := Lib.hid hd7
          clear hc7 hd7 hb7
          go_wp2_with fail
          refine ⟨⟨_, rfl, HX7, HR7, by omega, .inr ⟨50, _, bv, _, _, _, _, _, _, _, _, _, _, _, _, _, _, _, by decide, HB7, Lib.hid (HNVV.out ▸ HD7.out), HE⟩⟩, ?_⟩
          rw [lvMs_f HD7.out (by decide), HMS.out]; simp [intOf]; omega

        · obtain ⟨q1, n1, c1, q2, n2, c2, q3, n3, c3, q4, n4, c4, q5, n5, c5, er, a, nv', bv, hez, HB, HD, HCu, HSo⟩ := hex
          obtain ⟨_, x0, _, x2, _⟩ := HD.out.raw
          go_upto_region 15 with (fail)
          go_cut [81] from 68 to 82 (fun v wx => v = .bool false ∧ wx = wr)
          case first =>
            rcases hez with ⟨rfl, rfl⟩ | her
            · have hii : ¬ (((D.ys.length : Nat) : Int) < ((D.ys.length : Nat) : Int)) := by omega
              go_wp2_with fail
              go_meet
              exact ⟨rfl, rfl⟩
            · have e0 : ((er : Int) == 0) = false := by simp; omega
              by_cases hlt : z < ((D.ys.length : Nat) : Int)
              · go_wp2_with fail
                go_meet
                exact ⟨rfl, rfl⟩
              · go_wp2_with fail
                go_meet
                exact ⟨rfl, rfl⟩
          case rest =>
          obtain ⟨rfl, hwc⟩ := hcut
          have hwc' := hwc.symm
          clear hwc x0 x2 hez
          subst hwc'
          have hcF := chg_five (Chg.refl (fun k => k = w.heap.size) wr) (.inl rfl) (.slice q1 n1 c1) (.slice q2 n2 c2) (.slice q3 n3 c3) (.slice q4 n4 c4) (.slice q5 n5 c5)
          have HEND := Lib.hid (show SrR D m RR w (.returned (.agg #[.slice q1 n1 c1, .slice q2 n2 c2, .slice q3 n3 c3, .slice q4 n4 c4, .slice q5 n5 c5])) _ from
            ⟨q1, n1, c1, q2, n2, c2, q3, n3, c3, q4, n4, c4, q5, n5, c5, HCu.out.choose, er, a, nv', bv, rfl, HC.out.trans hcF (fun k e => .inr (by omega)), HD.out.chg2 hcF (by omega) (fun hn e => by
              obtain ⟨_, arr2, e1, _⟩ := HD.out.tok.resolve_left hn
              exact blk_ne HR.out e1 (by decide) e.symm), HCu.out.choose_spec, fun s j e => by
              obtain ⟨m', h1, h2, h3, h4⟩ := HSo.out s j e
              exact ⟨m', h1, h2, h3.chg hcF (fun k e => by rw [e]; exact h4)⟩⟩)
          have HP2 := Lib.hid (heap_set (heap_set (heap_set (heap_set (heap_set HR.out 0 (.slice q1 n1 c1)) 1 (.slice q2 n2 c2)) 2 (.slice q3 n3 c3)) 3 (.slice q4 n4 c4)) 4 (.slice q5 n5 c5))
          obtain ⟨y0, y1, y2, y3, y4⟩ := five_cells HB.out
          obtain ⟨v0, v1, v2, v3, v4⟩ := five_cells (show wr.heap[w.heap.size]? = some (.cells #[.slice none 0 0, .slice none 0 0, .slice none 0 0, .slice none 0 0, .slice none 0 0] 27 (0, 0)) from HR.out)
          obtain ⟨g0, g1, g2, g3, g4, _⟩ := six_free HR.out
          have hlr := heap_lt HR.out
          have hlb := heap_lt HB.out
          clear hcF
          go_wp2_with fail
          exact bodyPost_ret (resultsSrc _ _ _ _ _ _ _ _ _ rfl HP2.out) rfl HEND.out

end
end Go.Proofs.YtnmcjkabihihiaaGreatDoor

/- Contracts of the document's own tests of keywords and marks: for every text and every memory. -/
namespace Go.Proofs.YtnmcjkabihihiaaGreatDoor
open Go Go.RowKit

theorem cells_new (w : World) (A : Array Value) (T : TypeId) (k : Nat) : (w.alloc (.cells A T)).cell? ⟨w.heap.size, k, none⟩ = A[k]? := by
  rw [World.cell?_alloc_new]
theorem list_eq {x y : ByteArray} (h : (x.toList == y.toList) = true) : x = y := by
  have := beq_iff_eq.1 h
  rw [Lib.toList_data, Lib.toList_data] at this
  apply ByteArray.ext
  exact Array.ext' this
theorem list_ne {x y : ByteArray} (h : (x.toList == y.toList) = false) : x ≠ y := by
  intro e
  subst e
  simp at h
theorem none_yet {L : List ByteArray} {s : ByteArray} {k : Nat} (h : ∀ i, i < k → L.getD i ByteArray.empty ≠ s) (hk : L.getD k ByteArray.empty ≠ s) : ∀ i, i < k + 1 → L.getD i ByteArray.empty ≠ s := by
  intro i hi
  rcases Nat.lt_or_ge i k with h1 | h1
  · exact h i h1
  · obtain rfl : i = k := by omega
    exact hk
theorem found {L : List ByteArray} {M : List (List Nat)} {s : ByteArray} {k : Nat} (hk : k < L.length) (hM : L.map bl = M) (h : L.getD k ByteArray.empty = s) : bl s ∈ M := by
  subst hM; subst h
  rw [List.getD_eq_getElem?_getD, List.getElem?_eq_getElem hk]
  exact List.mem_map_of_mem (List.getElem_mem hk)
theorem not_found {L : List ByteArray} {M : List (List Nat)} {s : ByteArray} (hM : L.map bl = M) (h : ∀ i, i < L.length → L.getD i ByteArray.empty ≠ s) : bl s ∉ M := by
  subst hM
  intro hm
  obtain ⟨x, hx, he⟩ := List.mem_map.1 hm
  obtain ⟨i, hi, rfl⟩ := List.getElem_of_mem hx
  refine h i hi ?_
  rw [List.getD_eq_getElem?_getD, List.getElem?_eq_getElem hi]
  exact bl_inj he
def keywords : List ByteArray := [⟨#[112, 114, 105, 110, 99, 105, 112, 97, 108]⟩, ⟨#[103, 108, 111, 98, 97, 108]⟩, ⟨#[97, 114, 114, 97, 121]⟩, ⟨#[99, 104, 97, 110, 110, 101, 108]⟩, ⟨#[102, 117, 110, 99]⟩, ⟨#[118, 97, 114]⟩, ⟨#[105, 102]⟩, ⟨#[101, 108, 115, 101]⟩, ⟨#[119, 104, 105, 108, 101]⟩, ⟨#[115, 101, 110, 100]⟩, ⟨#[114, 101, 116, 117, 114, 110]⟩]
theorem keywords_bl : keywords.map bl = keysL := by decide
theorem keywords_cell (w : World) (T : TypeId) : ∀ k, k < 11 → (w.alloc (.cells #[.string ⟨#[112, 114, 105, 110, 99, 105, 112, 97, 108]⟩, .string ⟨#[103, 108, 111, 98, 97, 108]⟩, .string ⟨#[97, 114, 114, 97, 121]⟩, .string ⟨#[99, 104, 97, 110, 110, 101, 108]⟩, .string ⟨#[102, 117, 110, 99]⟩, .string ⟨#[118, 97, 114]⟩, .string ⟨#[105, 102]⟩, .string ⟨#[101, 108, 115, 101]⟩, .string ⟨#[119, 104, 105, 108, 101]⟩, .string ⟨#[115, 101, 110, 100]⟩, .string ⟨#[114, 101, 116, 117, 114, 110]⟩] T)).cell? ⟨w.heap.size, k, none⟩ = some (.string (keywords.getD k ByteArray.empty)) := by
  intro k hk
  rw [cells_new]
  match k, hk with
  | 0, _ => rfl
  | 1, _ => rfl
  | 2, _ => rfl
  | 3, _ => rfl
  | 4, _ => rfl
  | 5, _ => rfl
  | 6, _ => rfl
  | 7, _ => rfl
  | 8, _ => rfl
  | 9, _ => rfl
  | 10, _ => rfl
  | j + 11, h => exact absurd h (by omega)
set_option maxRecDepth 100000 in
set_option maxHeartbeats 1000000 in
theorem keyword_any (s : ByteArray) (w : World) : Calls Tryz.prog 109 #[.string s] w fun e w' => e = .returned (.bool (decide (bl s ∈ keysL))) ∧ Below w.heap.size w w' := by
  have hc := keywords_cell w 9
  have hB : Below w.heap.size w (w.alloc (.cells #[.string ⟨#[112, 114, 105, 110, 99, 105, 112, 97, 108]⟩, .string ⟨#[103, 108, 111, 98, 97, 108]⟩, .string ⟨#[97, 114, 114, 97, 121]⟩, .string ⟨#[99, 104, 97, 110, 110, 101, 108]⟩, .string ⟨#[102, 117, 110, 99]⟩, .string ⟨#[118, 97, 114]⟩, .string ⟨#[105, 102]⟩, .string ⟨#[101, 108, 115, 101]⟩, .string ⟨#[119, 104, 105, 108, 101]⟩, .string ⟨#[115, 101, 110, 100]⟩, .string ⟨#[114, 101, 116, 117, 114, 110]⟩] 9)) := (Below.refl _ w).alloc (Nat.le_refl _) _
  go_enter Tryz.func109, Tryz.ntmps109
  go_wp2
  generalize (w.alloc (.cells #[.string ⟨#[112, 114, 105, 110, 99, 105, 112, 97, 108]⟩, .string ⟨#[103, 108, 111, 98, 97, 108]⟩, .string ⟨#[97, 114, 114, 97, 121]⟩, .string ⟨#[99, 104, 97, 110, 110, 101, 108]⟩, .string ⟨#[102, 117, 110, 99]⟩, .string ⟨#[118, 97, 114]⟩, .string ⟨#[105, 102]⟩, .string ⟨#[101, 108, 115, 101]⟩, .string ⟨#[119, 104, 105, 108, 101]⟩, .string ⟨#[115, 101, 110, 100]⟩, .string ⟨#[114, 101, 116, 117, 114, 110]⟩] 9)) = W at *
  have HC := Lib.hid hc
  have HB := Lib.hid hB
  clear hc hB
  go_loop [4] (fun i => ∃ k : Nat, k ≤ 11 ∧ i = .int .i64 k ∧ Hid (∀ i, i < k → keywords.getD i ByteArray.empty ≠ s)) (fun i => 11 - (intOf i).toNat)
  case atStart => exact ⟨0, Nat.zero_le _, rfl, Lib.hid (fun i hi => absurd hi (Nat.not_lt_zero _))⟩
  case round =>
    obtain ⟨k, hk, rfl, H⟩ := hrel
    by_cases hlt : k < 11
    · have hcell := HC.out k hlt
      obtain ⟨x, hx⟩ : ∃ x, keywords.getD k ByteArray.empty = x := ⟨_, rfl⟩
      rw [hx] at hcell
      have HX := Lib.hid hx
      clear hx
      cases he : (x.toList == s.toList)
      · have HN := Lib.hid (none_yet H.out (by rw [HX.out]; exact list_ne he))
        go_wp2
        go_round
        case rel => exact ⟨k + 1, by omega, by go_num, HN⟩
        case measure => simp [intOf]; omega
      · have HF := Lib.hid (found (L := keywords) hlt keywords_bl (HX.out.trans (list_eq he)))
        go_wp2
        go_ret
        exact ⟨ret_bool (by rw [decide_eq_true HF.out]), HB.out⟩
    · have hk' : k = keywords.length := by
        have : keywords.length = 11 := rfl
        omega
      have HK := Lib.hid (not_found keywords_bl (fun i hi => H.out i (by omega)))
      clear hk'
      go_wp2
      go_ret
      exact ⟨ret_bool (by rw [decide_eq_false HK.out]), HB.out⟩
def marksR : List (List Nat) := [[123], [125], [40], [41], [91], [93], [44], [59], [61], [61, 61], [33, 61], [60], [60, 61], [43], [45], [42], [47], [37], [38], [124], [94], [60, 60], [62, 62], [33], [126]]
theorem marksR_mem (l : List Nat) : l ∈ marksR ↔ l ∈ marksL := ⟨fun h => (show ∀ x ∈ marksR, x ∈ marksL from by decide) l h, fun h => (show ∀ x ∈ marksL, x ∈ marksR from by decide) l h⟩
def marks : List ByteArray := [⟨#[123]⟩, ⟨#[125]⟩, ⟨#[40]⟩, ⟨#[41]⟩, ⟨#[91]⟩, ⟨#[93]⟩, ⟨#[44]⟩, ⟨#[59]⟩, ⟨#[61]⟩, ⟨#[61, 61]⟩, ⟨#[33, 61]⟩, ⟨#[60]⟩, ⟨#[60, 61]⟩, ⟨#[43]⟩, ⟨#[45]⟩, ⟨#[42]⟩, ⟨#[47]⟩, ⟨#[37]⟩, ⟨#[38]⟩, ⟨#[124]⟩, ⟨#[94]⟩, ⟨#[60, 60]⟩, ⟨#[62, 62]⟩, ⟨#[33]⟩, ⟨#[126]⟩]
theorem marks_bl : marks.map bl = marksR := by decide
theorem marks_cell (w : World) (T : TypeId) : ∀ k, k < 25 → (w.alloc (.cells #[.string ⟨#[123]⟩, .string ⟨#[125]⟩, .string ⟨#[40]⟩, .string ⟨#[41]⟩, .string ⟨#[91]⟩, .string ⟨#[93]⟩, .string ⟨#[44]⟩, .string ⟨#[59]⟩, .string ⟨#[61]⟩, .string ⟨#[61, 61]⟩, .string ⟨#[33, 61]⟩, .string ⟨#[60]⟩, .string ⟨#[60, 61]⟩, .string ⟨#[43]⟩, .string ⟨#[45]⟩, .string ⟨#[42]⟩, .string ⟨#[47]⟩, .string ⟨#[37]⟩, .string ⟨#[38]⟩, .string ⟨#[124]⟩, .string ⟨#[94]⟩, .string ⟨#[60, 60]⟩, .string ⟨#[62, 62]⟩, .string ⟨#[33]⟩, .string ⟨#[126]⟩] T)).cell? ⟨w.heap.size, k, none⟩ = some (.string (marks.getD k ByteArray.empty)) := by
  intro k hk
  rw [cells_new]
  match k, hk with
  | 0, _ => rfl
  | 1, _ => rfl
  | 2, _ => rfl
  | 3, _ => rfl
  | 4, _ => rfl
  | 5, _ => rfl
  | 6, _ => rfl
  | 7, _ => rfl
  | 8, _ => rfl
  | 9, _ => rfl
  | 10, _ => rfl
  | 11, _ => rfl
  | 12, _ => rfl
  | 13, _ => rfl
  | 14, _ => rfl
  | 15, _ => rfl
  | 16, _ => rfl
  | 17, _ => rfl
  | 18, _ => rfl
  | 19, _ => rfl
  | 20, _ => rfl
  | 21, _ => rfl
  | 22, _ => rfl
  | 23, _ => rfl
  | 24, _ => rfl
  | j + 25, h => exact absurd h (by omega)
set_option maxRecDepth 100000 in
set_option maxHeartbeats 1000000 in
theorem mark_any (s : ByteArray) (w : World) : Calls Tryz.prog 110 #[.string s] w fun e w' => e = .returned (.bool (decide (bl s ∈ marksR))) ∧ Below w.heap.size w w' := by
  have hc := marks_cell w 9
  have hB : Below w.heap.size w (w.alloc (.cells #[.string ⟨#[123]⟩, .string ⟨#[125]⟩, .string ⟨#[40]⟩, .string ⟨#[41]⟩, .string ⟨#[91]⟩, .string ⟨#[93]⟩, .string ⟨#[44]⟩, .string ⟨#[59]⟩, .string ⟨#[61]⟩, .string ⟨#[61, 61]⟩, .string ⟨#[33, 61]⟩, .string ⟨#[60]⟩, .string ⟨#[60, 61]⟩, .string ⟨#[43]⟩, .string ⟨#[45]⟩, .string ⟨#[42]⟩, .string ⟨#[47]⟩, .string ⟨#[37]⟩, .string ⟨#[38]⟩, .string ⟨#[124]⟩, .string ⟨#[94]⟩, .string ⟨#[60, 60]⟩, .string ⟨#[62, 62]⟩, .string ⟨#[33]⟩, .string ⟨#[126]⟩] 9)) := (Below.refl _ w).alloc (Nat.le_refl _) _
  go_enter Tryz.func110, Tryz.ntmps110
  go_wp2
  generalize (w.alloc (.cells #[.string ⟨#[123]⟩, .string ⟨#[125]⟩, .string ⟨#[40]⟩, .string ⟨#[41]⟩, .string ⟨#[91]⟩, .string ⟨#[93]⟩, .string ⟨#[44]⟩, .string ⟨#[59]⟩, .string ⟨#[61]⟩, .string ⟨#[61, 61]⟩, .string ⟨#[33, 61]⟩, .string ⟨#[60]⟩, .string ⟨#[60, 61]⟩, .string ⟨#[43]⟩, .string ⟨#[45]⟩, .string ⟨#[42]⟩, .string ⟨#[47]⟩, .string ⟨#[37]⟩, .string ⟨#[38]⟩, .string ⟨#[124]⟩, .string ⟨#[94]⟩, .string ⟨#[60, 60]⟩, .string ⟨#[62, 62]⟩, .string ⟨#[33]⟩, .string ⟨#[126]⟩] 9)) = W at *
  have HC := Lib.hid hc
  have HB := Lib.hid hB
  clear hc hB
  go_loop [4] (fun i => ∃ k : Nat, k ≤ 25 ∧ i = .int .i64 k ∧ Hid (∀ i, i < k → marks.getD i ByteArray.empty ≠ s)) (fun i => 25 - (intOf i).toNat)
  case atStart => exact ⟨0, Nat.zero_le _, rfl, Lib.hid (fun i hi => absurd hi (Nat.not_lt_zero _))⟩
  case round =>
    obtain ⟨k, hk, rfl, H⟩ := hrel
    by_cases hlt : k < 25
    · have hcell := HC.out k hlt
      obtain ⟨x, hx⟩ : ∃ x, marks.getD k ByteArray.empty = x := ⟨_, rfl⟩
      rw [hx] at hcell
      have HX := Lib.hid hx
      clear hx
      cases he : (x.toList == s.toList)
      · have HN := Lib.hid (none_yet H.out (by rw [HX.out]; exact list_ne he))
        go_wp2
        go_round
        case rel => exact ⟨k + 1, by omega, by go_num, HN⟩
        case measure => simp [intOf]; omega
      · have HF := Lib.hid (found (L := marks) hlt marks_bl (HX.out.trans (list_eq he)))
        go_wp2
        go_ret
        exact ⟨ret_bool (by rw [decide_eq_true HF.out]), HB.out⟩
    · have hk' : k = marks.length := by
        have : marks.length = 25 := rfl
        omega
      have HK := Lib.hid (not_found marks_bl (fun i hi => H.out i (by omega)))
      clear hk'
      go_wp2
      go_ret
      exact ⟨ret_bool (by rw [decide_eq_false HK.out]), HB.out⟩
theorem mark_any' (s : ByteArray) (w : World) : Calls Tryz.prog 110 #[.string s] w fun e w' => e = .returned (.bool (decide (bl s ∈ marksL))) ∧ Below w.heap.size w w' := by
  have := mark_any s w
  simpa only [marksR_mem] using this
end Go.Proofs.YtnmcjkabihihiaaGreatDoor

/- The document's own word and value: for every text and every memory. -/
namespace Go.Proofs.YtnmcjkabihihiaaGreatDoor
open Go Go.RowKit

theorem bl_at (s : ByteArray) (a k : Nat) (h : a + k < s.size) : ((bl s).drop a)[k]? = some (s[a + k]).toNat := by
  rw [List.getElem?_drop]; exact bl_get s (a + k) h
theorem bl_cut (s : ByteArray) (a n : Nat) : bl (s.extract a (a + n)) = ((bl s).drop a).take n := by
  rw [bl_extract, List.drop_take, show a + n - a = n by omega]
theorem head_at (s : ByteArray) (a : Nat) (h : a < s.size) : (bl s).drop a = (s[a]).toNat :: (bl s).drop (a + 1) := by
  have h1 : a < (bl s).length := by rw [bl_length]; exact h
  have h2 := bl_get s a h
  rw [List.getElem?_eq_getElem h1] at h2
  rw [List.drop_eq_getElem_cons h1, Option.some.inj h2]
theorem run_stop_len {p : Nat → Bool} {s : ByteArray} {a k : Nat} (h : ∀ x ∈ ((bl s).drop a).take k, p x = true) (hk : a + k = s.size) : (((bl s).drop a).takeWhile p).length = k := by
  have hl : ((bl s).drop a).length = k := by rw [List.length_drop, bl_length]; omega
  rw [← hl] at h ⊢
  exact run_end _ h

/-- What the document's word answers. -/
def WordRes (l : List Nat) (W : World) (e : Ending) (W' : World) : Prop := e = .returned (.tuple #[.int .i64 (((wordL l).1 : Nat) : Int), .int .i64 (((wordL l).2 : Nat) : Int)]) ∧ Below W.heap.size W W'

theorem ret_two {a b c d : Int} (h1 : a = c) (h2 : b = d) : Ending.returned (.tuple #[.int .i64 a, .int .i64 b]) = .returned (.tuple #[.int .i64 c, .int .i64 d]) := by rw [h1, h2]
set_option maxRecDepth 100000 in
set_option maxHeartbeats 1000000 in
theorem word_letter (s : ByteArray) (a : Nat) (ha : a < s.size) (hs : s.size ≤ 9223372036854775800) (hl : letterB (s[a]).toNat = true) (w : World) : Calls Tryz.prog 87 #[.string s, .int .i64 (a : Int)] w (WordRes ((bl s).drop a) w) := by
  have hw := wordL_letter (r := (bl s).drop (a + 1)) hl
  rw [← head_at s a ha] at hw
  have h0 := Lib.hid (fun W => hl ▸ letter_any (s[a]).toNat W)
  have HW := Lib.hid hw
  clear hl hw
  go_enter Tryz.func87, Tryz.ntmps87
  go_wp2_with (go_at_call 107; refine (h0.out _).mono ?_; rintro e w' ⟨rfl, rfl⟩)
  go_loop [6] (fun i => ∃ k : Nat, a + k ≤ s.size ∧ i = .int .i64 k ∧ Hid (∀ x ∈ ((bl s).drop a).take k, nameB x = true)) (fun i => s.size - a - (intOf i).toNat)
  case atStart => exact ⟨0, by omega, rfl, Lib.hid (by simp)⟩
  case round =>
    obtain ⟨k, hk, rfl, H⟩ := hrel
    by_cases hlt : a + k < s.size
    · have hb := Lib.hid (bl_at s a k hlt)
      have hlt' : (a : Int) + (k : Int) < (s.size : Int) := by omega
      have hti : ((a : Int) + (k : Int)).toNat = a + k := by omega
      cases hL : letterB (s[a + k]).toNat
      · cases hD : digitB (s[a + k]).toNat
        · have hL1 := Lib.hid (fun W => hL ▸ letter_any (s[a + k]).toNat W)
          have hD1 := Lib.hid (fun W => hD ▸ digit_any (s[a + k]).toNat W)
          have HN := Lib.hid (run_stop _ k H.out _ hb.out (by unfold nameB; rw [hL, hD]; rfl))
          clear hL hD H
          have hkw := keyword_any (s.extract a (a + k)) w
          rw [bl_cut] at hkw
          have j1 : (a : Int) ≤ (a : Int) + (k : Int) := by omega
          have j2 : (a : Int) + (k : Int) ≤ (s.size : Int) := by omega
          have hwk : (wordL ((bl s).drop a)).1 = k := by rw [HW.out]; exact HN.out
          have hw2 : (wordL ((bl s).drop a)).2 = if ((bl s).drop a).take k ∈ keysL then 2 else 1 := by rw [HW.out]; simp only; rw [HN.out]
          have HWK := Lib.hid hwk
          have HW2 := Lib.hid hw2
          clear hwk hw2 HW
          by_cases hkey : ((bl s).drop a).take k ∈ keysL
          · rw [decide_eq_true hkey] at hkw
            have HKW := Lib.hid hkw
            have HK := Lib.hid hkey
            clear hkw hkey
            go_wp2_with (first | (go_at_call 107; refine (hL1.out _).mono ?_; rintro e w' ⟨rfl, rfl⟩) | (go_at_call 108; refine (hD1.out _).mono ?_; rintro e w' ⟨rfl, rfl⟩) | (go_at_call 109; refine HKW.out.mono ?_))
            rintro e w1 ⟨rfl, hb1⟩
            go_wp2
            go_ret2
            exact ⟨ret_two (by rw [HWK.out]) (by rw [HW2.out, if_pos HK.out]; rfl), hb1⟩
          · rw [decide_eq_false hkey] at hkw
            have HKW := Lib.hid hkw
            have HK := Lib.hid hkey
            clear hkw hkey
            go_wp2_with (first | (go_at_call 107; refine (hL1.out _).mono ?_; rintro e w' ⟨rfl, rfl⟩) | (go_at_call 108; refine (hD1.out _).mono ?_; rintro e w' ⟨rfl, rfl⟩) | (go_at_call 109; refine HKW.out.mono ?_))
            rintro e w1 ⟨rfl, hb1⟩
            go_wp2
            go_ret2
            exact ⟨ret_two (by rw [HWK.out]) (by rw [HW2.out, if_neg HK.out]; rfl), hb1⟩
        · have hL1 := Lib.hid (fun W => hL ▸ letter_any (s[a + k]).toNat W)
          have hD1 := Lib.hid (fun W => hD ▸ digit_any (s[a + k]).toNat W)
          have HN := Lib.hid (run_step _ k H.out _ hb.out (by unfold nameB; rw [hL, hD]; rfl))
          clear hL hD H
          go_wp2_with (first | (go_at_call 107; refine (hL1.out _).mono ?_; rintro e w' ⟨rfl, rfl⟩) | (go_at_call 108; refine (hD1.out _).mono ?_; rintro e w' ⟨rfl, rfl⟩))
          go_round
          case rel => exact ⟨k + 1, by omega, by go_num, HN⟩
          case measure => simp [intOf]; omega
      · have hL1 := Lib.hid (fun W => hL ▸ letter_any (s[a + k]).toNat W)
        have HN := Lib.hid (run_step _ k H.out _ hb.out (by unfold nameB; rw [hL]; rfl))
        clear hL H
        go_wp2_with (go_at_call 107; refine (hL1.out _).mono ?_; rintro e w' ⟨rfl, rfl⟩)
        go_round
        case rel => exact ⟨k + 1, by omega, by go_num, HN⟩
        case measure => simp [intOf]; omega
    · have HN := Lib.hid (run_stop_len H.out (show a + k = s.size by omega))
      have hti : ((a : Int) + (k : Int)).toNat = a + k := by omega
      have hge : ¬ (a : Int) + (k : Int) < (s.size : Int) := by omega
      clear H
      have hkw := keyword_any (s.extract a (a + k)) w
      rw [bl_cut] at hkw
      have j1 : (a : Int) ≤ (a : Int) + (k : Int) := by omega
      have j2 : (a : Int) + (k : Int) ≤ (s.size : Int) := by omega
      have hwk : (wordL ((bl s).drop a)).1 = k := by rw [HW.out]; exact HN.out
      have hw2 : (wordL ((bl s).drop a)).2 = if ((bl s).drop a).take k ∈ keysL then 2 else 1 := by rw [HW.out]; simp only; rw [HN.out]
      have HWK := Lib.hid hwk
      have HW2 := Lib.hid hw2
      clear hwk hw2 HW
      by_cases hkey : ((bl s).drop a).take k ∈ keysL
      · rw [decide_eq_true hkey] at hkw
        have HKW := Lib.hid hkw
        have HK := Lib.hid hkey
        clear hkw hkey
        go_wp2_with fail
        go_at_call 109
        refine HKW.out.mono ?_
        rintro e w1 ⟨rfl, hb1⟩
        go_wp2
        go_ret2
        exact ⟨ret_two (by rw [HWK.out]) (by rw [HW2.out, if_pos HK.out]; rfl), hb1⟩
      · rw [decide_eq_false hkey] at hkw
        have HKW := Lib.hid hkw
        have HK := Lib.hid hkey
        clear hkw hkey
        go_wp2_with fail
        go_at_call 109
        refine HKW.out.mono ?_
        rintro e w1 ⟨rfl, hb1⟩
        go_wp2
        go_ret2
        exact ⟨ret_two (by rw [HWK.out]) (by rw [HW2.out, if_neg HK.out]; rfl), hb1⟩

set_option maxRecDepth 100000 in
set_option maxHeartbeats 1000000 in
theorem word_digit (s : ByteArray) (a : Nat) (ha : a < s.size) (hs : s.size ≤ 9223372036854775800) (hl : letterB (s[a]).toNat = false) (hd : digitB (s[a]).toNat = true) (w : World) : Calls Tryz.prog 87 #[.string s, .int .i64 (a : Int)] w (WordRes ((bl s).drop a) w) := by
  have hw := wordL_digit (r := (bl s).drop (a + 1)) hl hd
  rw [← head_at s a ha] at hw
  have h0 := Lib.hid (fun W => hl ▸ letter_any (s[a]).toNat W)
  have h00 := Lib.hid (fun W => hd ▸ digit_any (s[a]).toNat W)
  have HW := Lib.hid hw
  clear hl hd hw
  go_enter Tryz.func87, Tryz.ntmps87
  go_wp2_with (first | (go_at_call 107; refine (h0.out _).mono ?_; rintro e w' ⟨rfl, rfl⟩) | (go_at_call 108; refine (h00.out _).mono ?_; rintro e w' ⟨rfl, rfl⟩))
  go_loop [6] (fun i => ∃ k : Nat, a + k ≤ s.size ∧ i = .int .i64 k ∧ Hid (∀ x ∈ ((bl s).drop a).take k, digitB x = true)) (fun i => s.size - a - (intOf i).toNat)
  case atStart => exact ⟨0, by omega, rfl, Lib.hid (by simp)⟩
  case round =>
    obtain ⟨k, hk, rfl, H⟩ := hrel
    by_cases hlt : a + k < s.size
    · have hb := Lib.hid (bl_at s a k hlt)
      have hlt' : (a : Int) + (k : Int) < (s.size : Int) := by omega
      have hti : ((a : Int) + (k : Int)).toNat = a + k := by omega
      cases hD : digitB (s[a + k]).toNat
      · have hD1 := Lib.hid (fun W => hD ▸ digit_any (s[a + k]).toNat W)
        have HN := Lib.hid (run_stop _ k H.out _ hb.out hD)
        clear hD H
        go_wp2_with (go_at_call 108; refine (hD1.out _).mono ?_; rintro e w' ⟨rfl, rfl⟩)
        go_ret2
        exact ⟨ret_two (by rw [HW.out]; simp only; rw [HN.out]) (by rw [HW.out]; rfl), Below.refl _ _⟩
      · have hD1 := Lib.hid (fun W => hD ▸ digit_any (s[a + k]).toNat W)
        have HN := Lib.hid (run_step _ k H.out _ hb.out hD)
        clear hD H
        go_wp2_with (go_at_call 108; refine (hD1.out _).mono ?_; rintro e w' ⟨rfl, rfl⟩)
        go_round
        case rel => exact ⟨k + 1, by omega, by go_num, HN⟩
        case measure => simp [intOf]; omega
    · have HN := Lib.hid (run_stop_len H.out (show a + k = s.size by omega))
      have hti : ((a : Int) + (k : Int)).toNat = a + k := by omega
      have hge : ¬ (a : Int) + (k : Int) < (s.size : Int) := by omega
      clear H
      go_wp2
      go_ret2
      exact ⟨ret_two (by rw [HW.out]; simp only; rw [HN.out]) (by rw [HW.out]; rfl), Below.refl _ _⟩

set_option maxRecDepth 100000 in
set_option maxHeartbeats 1000000 in
theorem word_mark (s : ByteArray) (a : Nat) (ha : a < s.size) (hs : s.size ≤ 9223372036854775800) (hl : letterB (s[a]).toNat = false) (hd : digitB (s[a]).toNat = false) (w : World) : Calls Tryz.prog 87 #[.string s, .int .i64 (a : Int)] w (WordRes ((bl s).drop a) w) := by
  have hhd := head_at s a ha
  have hw := wordL_mark (r := (bl s).drop (a + 1)) hl hd
  rw [← hhd] at hw
  have h0 := Lib.hid (fun W => hl ▸ letter_any (s[a]).toNat W)
  have h00 := Lib.hid (fun W => hd ▸ digit_any (s[a]).toNat W)
  have hlen : ((bl s).drop a).length = s.size - a := by rw [List.length_drop, bl_length]
  have hm2 := fun W => mark_any' (s.extract a (a + 2)) W
  have hm1 := fun W => mark_any' (s.extract a (a + 1)) W
  rw [bl_cut] at hm2 hm1
  have ht1 : ((bl s).drop a).take 1 = [(s[a]).toNat] := by rw [hhd]; rfl
  rw [ht1] at hm1
  have t2 : ((a : Int) + 2).toNat = a + 2 := by omega
  have t1 : ((a : Int) + 1).toNat = a + 1 := by omega
  have j1 : (a : Int) ≤ (a : Int) + 1 := by omega
  have j2 : (a : Int) + 1 ≤ (s.size : Int) := by omega
  have j3 : (a : Int) ≤ (a : Int) + 2 := by omega
  clear hl hd hhd ht1
  by_cases hsz : a + 2 ≤ s.size
  · have hq := take2_mark (l := (bl s).drop a) (by omega)
    have k2 : (a : Int) + 2 ≤ (s.size : Int) := by omega
    by_cases hm : ((bl s).drop a).take 2 ∈ mark2
    · rw [if_pos hm] at hw
      rw [decide_eq_true (hq.2 hm)] at hm2
      have HM2 := Lib.hid hm2
      have HW := Lib.hid hw
      clear hm2 hm1 hw hq hm hlen
      go_enter Tryz.func87, Tryz.ntmps87
      go_wp2_with (first | (go_at_call 107; refine (h0.out _).mono ?_; rintro e w' ⟨rfl, rfl⟩) | (go_at_call 108; refine (h00.out _).mono ?_; rintro e w' ⟨rfl, rfl⟩))
      go_at_call 110
      refine (HM2.out _).mono ?_
      rintro e w1 ⟨rfl, hb1⟩
      go_wp2
      go_ret2
      exact ⟨ret_two (by rw [HW.out]; rfl) (by rw [HW.out]; rfl), hb1⟩
    · rw [if_neg hm] at hw
      rw [decide_eq_false (fun h => hm (hq.1 h))] at hm2
      by_cases hn : (s[a]).toNat ∈ mark1
      · rw [if_pos hn] at hw
        rw [decide_eq_true ((take1_mark _).2 hn)] at hm1
        have HM2 := Lib.hid hm2
        have HM1 := Lib.hid hm1
        have HW := Lib.hid hw
        clear hm2 hm1 hw hq hm hn hlen
        go_enter Tryz.func87, Tryz.ntmps87
        go_wp2_with (first | (go_at_call 107; refine (h0.out _).mono ?_; rintro e w' ⟨rfl, rfl⟩) | (go_at_call 108; refine (h00.out _).mono ?_; rintro e w' ⟨rfl, rfl⟩))
        go_at_call 110
        refine (HM2.out _).mono ?_
        rintro e w1 ⟨rfl, hb1⟩
        go_wp2_with fail
        go_at_call 110
        refine (HM1.out _).mono ?_
        rintro e w2 ⟨rfl, hb2⟩
        go_wp2
        go_ret2
        exact ⟨ret_two (by rw [HW.out]; rfl) (by rw [HW.out]; rfl), hb1.trans (hb2.mono hb1.size)⟩
      · rw [if_neg hn] at hw
        rw [decide_eq_false (fun h => hn ((take1_mark _).1 h))] at hm1
        have HM2 := Lib.hid hm2
        have HM1 := Lib.hid hm1
        have HW := Lib.hid hw
        clear hm2 hm1 hw hq hm hn hlen
        go_enter Tryz.func87, Tryz.ntmps87
        go_wp2_with (first | (go_at_call 107; refine (h0.out _).mono ?_; rintro e w' ⟨rfl, rfl⟩) | (go_at_call 108; refine (h00.out _).mono ?_; rintro e w' ⟨rfl, rfl⟩))
        go_at_call 110
        refine (HM2.out _).mono ?_
        rintro e w1 ⟨rfl, hb1⟩
        go_wp2_with fail
        go_at_call 110
        refine (HM1.out _).mono ?_
        rintro e w2 ⟨rfl, hb2⟩
        go_wp2
        go_ret2
        exact ⟨ret_two (by rw [HW.out]; rfl) (by rw [HW.out]; rfl), hb1.trans (hb2.mono hb1.size)⟩
  · rw [if_neg (not_mark2 (by omega))] at hw
    have k2 : ¬ (a : Int) + 2 ≤ (s.size : Int) := by omega
    by_cases hn : (s[a]).toNat ∈ mark1
    · rw [if_pos hn] at hw
      rw [decide_eq_true ((take1_mark _).2 hn)] at hm1
      have HM1 := Lib.hid hm1
      have HW := Lib.hid hw
      clear hm2 hm1 hw hn hlen
      go_enter Tryz.func87, Tryz.ntmps87
      go_wp2_with (first | (go_at_call 107; refine (h0.out _).mono ?_; rintro e w' ⟨rfl, rfl⟩) | (go_at_call 108; refine (h00.out _).mono ?_; rintro e w' ⟨rfl, rfl⟩))
      go_at_call 110
      refine (HM1.out _).mono ?_
      rintro e w1 ⟨rfl, hb1⟩
      go_wp2
      go_ret2
      exact ⟨ret_two (by rw [HW.out]; rfl) (by rw [HW.out]; rfl), hb1⟩
    · rw [if_neg hn] at hw
      rw [decide_eq_false (fun h => hn ((take1_mark _).1 h))] at hm1
      have HM1 := Lib.hid hm1
      have HW := Lib.hid hw
      clear hm2 hm1 hw hn hlen
      go_enter Tryz.func87, Tryz.ntmps87
      go_wp2_with (first | (go_at_call 107; refine (h0.out _).mono ?_; rintro e w' ⟨rfl, rfl⟩) | (go_at_call 108; refine (h00.out _).mono ?_; rintro e w' ⟨rfl, rfl⟩))
      go_at_call 110
      refine (HM1.out _).mono ?_
      rintro e w1 ⟨rfl, hb1⟩
      go_wp2
      go_ret2
      exact ⟨ret_two (by rw [HW.out]; rfl) (by rw [HW.out]; rfl), hb1⟩

theorem word_any (s : ByteArray) (a : Nat) (ha : a < s.size) (hs : s.size ≤ 9223372036854775800) (w : World) : Calls Tryz.prog 87 #[.string s, .int .i64 (a : Int)] w (WordRes ((bl s).drop a) w) := by
  cases hl : letterB (s[a]).toNat
  · cases hd : digitB (s[a]).toNat
    · exact word_mark s a ha hs hl hd w
    · exact word_digit s a ha hs hl hd w
  · exact word_letter s a ha hs hl w

/-- What the document's value answers of digits. -/
def ValRes (l : List Nat) (w : World) (e : Ending) (w' : World) : Prop := e = .returned (.tuple #[.int .i64 (((if valD l ≤ most then valD l else 0 : Nat)) : Int), .bool (decide (valD l ≤ most))]) ∧ w = w'
theorem ret_ib {a c : Int} {b d : Bool} (h1 : a = c) (h2 : b = d) : Ending.returned (.tuple #[.int .i64 a, .bool b]) = .returned (.tuple #[.int .i64 c, .bool d]) := by rw [h1, h2]
set_option maxRecDepth 100000 in
set_option maxHeartbeats 1000000 in
theorem value_any (s : ByteArray) (hs : s.size ≤ 9223372036854775800) (hd : ∀ x ∈ bl s, digitB x = true) (w : World) : Calls Tryz.prog 88 #[.string s] w (ValRes (bl s) w) := by
  have HD := Lib.hid (fun (i : Nat) (h : i < s.size) => digit_range (hd (s[i]).toNat (by rw [List.mem_iff_getElem?]; exact ⟨i, bl_get s i h⟩)))
  clear hd
  go_enter Tryz.func88, Tryz.ntmps88
  go_wp2
  go_loop [4, 5] (fun n i => ∃ k v : Nat, k ≤ s.size ∧ i = .int .i64 k ∧ n = .int .i64 v ∧ v ≤ 9223372036854775807 ∧ Hid (v = valD ((bl s).take k))) (fun _ i => s.size - (intOf i).toNat)
  case atStart => exact ⟨0, 0, Nat.zero_le _, rfl, rfl, by omega, Lib.hid rfl⟩
  case round =>
    obtain ⟨k, v, hk, rfl, rfl, hv, HV⟩ := hrel
    by_cases hlt : k < s.size
    · obtain ⟨d1, d2⟩ := HD.out k hlt
      have hstep := valD_take (bl s) k (by rw [bl_length]; exact hlt)
      rw [bl_getD s k hlt, ← HV.out] at hstep
      have hle := valD_take_le (bl s) (k + 1)
      have hm : (((s[k]).toNat : Int) - 48) % 256 = ((s[k]).toNat : Int) - 48 := by omega
      have HM := Lib.hid hm
      clear hm
      by_cases hbig : most < valD ((bl s).take (k + 1))
      · have hlt2 : (9223372036854775807 - (((s[k]).toNat : Int) - 48) % 256) / 10 < (v : Int) := by
          have := (too_great v ((s[k]).toNat - 48) (by omega)).2 (by rw [← hstep]; exact hbig)
          rw [HM.out]
          simp only [most] at this
          omega
        have HT := Lib.hid (show ¬ valD (bl s) ≤ most by omega)
        clear hstep hle hbig
        go_wp2
        go_ret2
        exact ⟨ret_ib (by rw [if_neg HT.out]; rfl) (by rw [decide_eq_false HT.out]), rfl⟩
      · have hge2 : ¬ (9223372036854775807 - (((s[k]).toNat : Int) - 48) % 256) / 10 < (v : Int) := by
          intro hc
          refine hbig ?_
          rw [hstep]
          refine (too_great v ((s[k]).toNat - 48) (by omega)).1 ?_
          rw [HM.out] at hc
          simp only [most]
          omega
        have hv2 : 10 * v + ((s[k]).toNat - 48) ≤ 9223372036854775807 := by rw [← hstep]; exact Nat.le_of_not_lt hbig
        have HN := Lib.hid (show 10 * v + ((s[k]).toNat - 48) = valD ((bl s).take (k + 1)) from hstep.symm)
        clear hstep hle hbig
        go_wp2
        go_round
        case rel => exact ⟨k + 1, 10 * v + ((s[k]).toNat - 48), by omega, by go_num, by congr 1; omega, hv2, HN⟩
        case measure => simp [intOf]; omega
    · have hk2 : (bl s).take k = bl s := List.take_of_length_le (by rw [bl_length]; omega)
      have HT : Hid (v = valD (bl s)) := Lib.hid (by rw [← hk2]; exact HV.out)
      clear hk2 HV
      go_wp2
      go_ret2
      exact ⟨ret_ib (by rw [← HT.out, if_pos (by simp only [most]; exact hv)]) (by rw [← HT.out, decide_eq_true (by simp only [most]; exact hv)]), rfl⟩
end Go.Proofs.YtnmcjkabihihiaaGreatDoor
