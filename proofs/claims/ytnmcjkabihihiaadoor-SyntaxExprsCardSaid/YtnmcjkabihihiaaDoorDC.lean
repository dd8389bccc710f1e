/- The document's marks; what its readers of expressions answer; its level, over the one above. -/
import Derived.Test.YtnmcjkabihihiaaDoorDB
import Derived.Test.YtnmcjkabihihiaaDoorSynD
import Derived.Deep.AppendLies
namespace Go.Proofs.YtnmcjkabihihiaaDoor
open Go Go.RowKit Go.Proofs.Mm

def mkN (l : Nat) : List Value := (Syn.marks l).map fun m => .string (sb m.1)
def mkO (l : Nat) : List Value := (Syn.marks l).map fun m => .int .i64 (m.2 : Nat)
theorem marks_any (l : Nat) (hl : l ≤ 5) (w : World) : Calls Tryd.prog 20 #[.int .i64 (l : Nat)] w fun e w' =>
    e = .returned (.tuple #[.slice (some ⟨w.heap.size, 0, none⟩) (Syn.marks l).length (Syn.marks l).length, .slice (some ⟨w.heap.size + 1, 0, none⟩) (Syn.marks l).length (Syn.marks l).length]) ∧ w' = (w.alloc (.cells (mkN l).toArray 9)).alloc (.cells (mkO l).toArray 2) := by
  match l, hl with
  | 0, _ => go_enter Tryd.func20, Tryd.ntmps20; go_wp2; go_ret2; exact ⟨rfl, rfl⟩
  | 1, _ => go_enter Tryd.func20, Tryd.ntmps20; go_wp2; go_ret2; exact ⟨rfl, rfl⟩
  | 2, _ => go_enter Tryd.func20, Tryd.ntmps20; go_wp2; go_ret2; exact ⟨rfl, rfl⟩
  | 3, _ => go_enter Tryd.func20, Tryd.ntmps20; go_wp2; go_ret2; exact ⟨rfl, rfl⟩
  | 4, _ => go_enter Tryd.func20, Tryd.ntmps20; go_wp2; go_ret2; exact ⟨rfl, rfl⟩
  | 5, _ => go_enter Tryd.func20, Tryd.ntmps20; go_wp2; go_ret2; exact ⟨rfl, rfl⟩
section
variable {D : DC} {nv bv : Value} {er a : Nat} {w : World}
/-- What has been read, or where the fault is. -/
def LvM (D : DC) (r : Syn.R (List Syn.Tm)) (l : List Syn.Tm) (z : Int) (er a : Nat) : Prop :=
  match r with
  | .ok (l0, j) => l = l0 ∧ z = (j : Nat) ∧ er = 0
  | .error (k, t) => er = k ∧ k ≠ 0 ∧ a = (tk D.ys D.len t).a
def LvR (D : DC) (nv bv : Value) (r : Syn.R (List Syn.Tm)) (C : Nat) (w : World) (e : Ending) (w' : World) : Prop :=
  ∃ q c l z er a, e = .returned (.tuple #[.slice q l.length c, .int .i64 z]) ∧ w'.ownsRow w.heap.size 46 3 (.slice q l.length c) l.length (tmCells l) ∧ 0 < l.length ∧ l.length ≤ C ∧ Chg (fun k => k = D.bt) w w' ∧ DS D nv bv er a w' ∧ LvM D r l z er a
def RdD (D : DC) (nv bv : Value) (K : FuncId) (args : Nat → Array Value) (r : Nat → Syn.R (List Syn.Tm)) (C : Nat) : Prop :=
  ∀ w a i, i ≤ D.ys.length → DS D nv bv 0 a w → Calls Tryd.prog K (args i) w (LvR D nv bv (r i) C w)
/-- A read of terms that stays while other blocks turn. -/
def lvMs (D : DC) (iv : Value) (wr : World) : Nat := match wr.cell? ⟨D.bt, 2, none⟩ with
  | some (.int _ e) => if e = 0 then D.ys.length + 2 - (intOf iv).toNat else 0
  | _ => 0
theorem lvMs_0 {iv : Value} (h : DS D nv bv 0 a w) : lvMs D iv w = D.ys.length + 2 - (intOf iv).toNat := by
  obtain ⟨q, _, _, x2, _⟩ := h.raw
  unfold lvMs; rw [x2]; rfl
theorem lvMs_f {iv : Value} (h : DS D nv bv er a w) (he : er ≠ 0) : lvMs D iv w = 0 := by
  obtain ⟨q, _, _, x2, _⟩ := h.raw
  unfold lvMs; rw [x2]
  exact if_neg (by omega)
/-- Where the loop of a level stands. -/
def LvI (D : DC) (nv bv : Value) (p : Nat → Syn.R (List Syn.Tm)) (ms : List (List Nat × Nat)) (RR : Syn.R (List Syn.Tm)) (C : Nat) (w : World) (lv iv : Value) (wr : World) : Prop :=
  ∃ q c l z er a, lv = .slice q l.length c ∧ iv = .int .i64 z ∧ Hid (wr.ownsRow w.heap.size 46 3 (.slice q l.length c) l.length (tmCells l)) ∧ 0 < l.length ∧ l.length ≤ C + 65537 ∧ Hid (Chg (fun k => k = D.bt) w wr) ∧ Hid (DS D nv bv er a wr) ∧
    ((er = 0 ∧ ∃ f i, z = (i : Nat) ∧ i ≤ D.ys.length ∧ D.ys.length < f + i ∧ l.length ≤ i ∧ Hid (Syn.loopF (Tk D.ys) p ms f l i = RR)) ∨ (er ≠ 0 ∧ Hid (LvM D RR l z er a)))
theorem mk_bl (l : Nat) (hl : l ≤ 5) (k : Nat) (h : k < (Syn.marks l).length) : bl (sb ((Syn.marks l)[k]).1) = ((Syn.marks l)[k]).1 := by
  have : ∀ l : Fin 6, ∀ m ∈ Syn.marks l.val, bl (sb m.1) = m.1 := by decide
  exact this ⟨l, by omega⟩ _ (List.getElem_mem h)
theorem mk_len (l : Nat) (hl : l ≤ 5) : (Syn.marks l).length ≤ 4 := by
  have : ∀ l : Fin 6, (Syn.marks l.val).length ≤ 4 := by decide
  exact this ⟨l, by omega⟩
theorem mkN_at (l k : Nat) (h : k < (Syn.marks l).length) : (mkN l).toArray[k]? = some (.string (sb ((Syn.marks l)[k]).1)) := by
  unfold mkN
  rw [List.getElem?_toArray, List.getElem?_map, List.getElem?_eq_getElem h]; rfl
theorem mkO_at (l k : Nat) (h : k < (Syn.marks l).length) : (mkO l).toArray[k]? = some (.int .i64 (((Syn.marks l)[k]).2 : Nat)) := by
  unfold mkO
  rw [List.getElem?_toArray, List.getElem?_map, List.getElem?_eq_getElem h]; rfl
theorem tmC_one (l : List Syn.Tm) : ∀ u ∈ tmCells l, u.oneCell' = true := by
  intro u hu
  unfold tmCells at hu
  obtain ⟨t, _, ht⟩ := List.mem_flatMap.1 hu
  exact tm_one t u ht
set_option maxRecDepth 100000 in
set_option maxHeartbeats 4000000 in
theorem level_step {p : Nat → Syn.R (List Syn.Tm)} (hcnt : Syn.Cnt p) (hfit : Syn.FitP D.ys.length p) (l d : Nat) (hl : l ≤ 5) {C : Nat} (hCb : C ≤ 100000000)
    (hR : RdD D nv bv 10 (fun i => #[PB D, .int .i64 (i : Nat), .int .i64 ((l : Int) + 1), .int .i64 (d : Nat)]) p C) :
    RdD D nv bv 10 (fun i => #[PB D, .int .i64 (i : Nat), .int .i64 (l : Nat), .int .i64 (d : Nat)]) (fun i => (p i).on fun l1 j => Syn.loopF (Tk D.ys) p (Syn.marks l) (D.ys.length + 1) l1 j) (C + 65537) := by
  intro w a i hi h
  have hcall := hR w a i hi h
  have hfew := h.few
  obtain ⟨RR, hRR⟩ : ∃ RR, ((p i).on fun l1 j => Syn.loopF (Tk D.ys) p (Syn.marks l) (D.ys.length + 1) l1 j) = RR := ⟨_, rfl⟩
  show Calls _ _ _ _ (LvR D nv bv ((p i).on fun l1 j => Syn.loopF (Tk D.ys) p (Syn.marks l) (D.ys.length + 1) l1 j) (C + 65537) w)
  rw [hRR]
  have HR := Lib.hid hR
  have hl6 : ((l : Int) == 6) = false := by simp; omega
  have hw1 : IntKind.i64.wrap ((l : Int) + 1) = (l : Int) + 1 := by rw [IntKind.wrap_i64]; omega
  obtain ⟨j0, hj0, hy0, hy1, hy2⟩ := infoTm
  have HRR := Lib.hid hRR
  clear h hR hRR
  go_enter Tryd.func10, Tryd.ntmps10
  go_wp2_with fail
  go_at_call 10
  refine hcall.mono ?_
  rintro e w1 ⟨q1, c1, l1, z1, er1, a1, rfl, ho1, hp1, hc1, hC1, hd1, hm1⟩
  have H0 : LvI D nv bv p (Syn.marks l) RR C w (.slice q1 l1.length c1) (.int .i64 z1) w1 := by
    refine ⟨q1, c1, l1, z1, er1, a1, rfl, rfl, Lib.hid ho1, hp1, by omega, Lib.hid hC1, Lib.hid hd1, ?_⟩
    have hh := HRR.out
    cases hpi : p i with
    | error qq =>
      rw [hpi] at hm1 hh
      obtain ⟨k, t⟩ := qq
      obtain ⟨rfl, m1, m2⟩ := hm1
      exact .inr ⟨m1, Lib.hid (by rw [← hh]; exact ⟨rfl, m1, m2⟩)⟩
    | ok qq =>
      rw [hpi] at hm1 hh
      obtain ⟨l0, j⟩ := qq
      obtain ⟨rfl, rfl, rfl⟩ := hm1
      have hj := (hfit i hi).1
      rw [hpi] at hj
      have hj : j ≤ D.ys.length := hj
      have hcn := hcnt _ _ _ hpi
      exact .inl ⟨rfl, D.ys.length + 1, j, rfl, hj, by omega, by omega, Lib.hid hh⟩
  clear hm1 hd1 hC1 ho1 hcall
  go_wp2_with fail
  go_loopw [12, 1] (LvI D nv bv p (Syn.marks l) RR C w) (fun _ iv wr => lvMs D iv wr)
  case atStart => exact H0
  case round =>
    obtain ⟨q2, c2, l2, z2, er2, a2, rfl, rfl, HO, hp2, hc2, HC, HD, hrel⟩ := hrel
    clear H0 hp1 hc1
    obtain ⟨qr, _, _, x2, _⟩ := HD.out.raw
    rcases hrel with ⟨rfl, f, j, rfl, hj, hf, hlj, HL⟩ | ⟨her, HM⟩
    · have e0 : (((0 : Nat) : Int) == 0) = true := rfl
      have hms := lvMs_0 (iv := .int .i64 (j : Nat)) HD.out
      go_wp2_with fail
      go_at_call 20
      refine (marks_any l hl _).mono ?_
      rintro e w3 ⟨rfl, hw3⟩
      have hn4 := mk_len l hl
      have hN3 : w3.heap[wr.heap.size]? = some (.cells (mkN l).toArray 9 (0, 0)) := by rw [hw3]; exact heap_new _ _ (World.alloc_heap_new _ _)
      have hO3 : w3.heap[wr.heap.size + 1]? = some (.cells (mkO l).toArray 2 (0, 0)) := by
        rw [hw3]
        have := World.alloc_heap_new (wr.alloc (.cells (mkN l).toArray 9)) (.cells (mkO l).toArray 2)
        rwa [World.size_alloc] at this
      have hC3 : Chg (fun _ => False) wr w3 := by rw [hw3]; exact ((Chg.refl _ wr).alloc _).alloc _
      have HN3 := Lib.hid hN3
      have HO3 := Lib.hid hO3
      have HC3 := Lib.hid hC3
      have HD3 := Lib.hid (HD.out.chg hC3 (fun e => e) (fun e => e))
      obtain ⟨bn, hbn⟩ : ∃ bn, wr.heap.size = bn := ⟨_, rfl⟩
      have HBN := Lib.hid hbn
      rw [hbn] at HN3 HO3 ⊢
      obtain ⟨n, hnn⟩ : ∃ n, (Syn.marks l).length = n := ⟨_, rfl⟩
      have HNN := Lib.hid hnn
      rw [hnn] at hn4 ⊢
      have HMS := Lib.hid hms
      clear hN3 hO3 hC3 hw3 hbn hnn hms x2
      go_wp2_with fail
      go_loopw [15, 16] (fun ov kv wv => ∃ k, k ≤ n ∧ kv = .int .i64 (k : Nat) ∧ ov = .int .i64 (Syn.opOf (Tk D.ys) ((Syn.marks l).take k) j : Nat) ∧ wv = w3) (fun _ kv _ => n - (intOf kv).toNat)
      case atStart => exact ⟨0, Nat.zero_le _, rfl, rfl, rfl⟩
      case round =>
        obtain ⟨k, hk, rfl, rfl, hwv⟩ := hrel
        have hwv' := hwv.symm
        clear hwv
        subst hwv'
        by_cases hkn : k < n
        · have hkm : k < (Syn.marks l).length := by rw [HNN.out]; exact hkn
          have hki : (k : Int) < (n : Int) := by omega
          have y0 := cell_of HN3.out (mkN_at l k hkm)
          have y1 := cell_of HO3.out (mkO_at l k hkm)
          have hsn := Syn.opOf_snoc (T := Tk D.ys) (Syn.marks_apart l k hkm) j
          rw [← List.take_succ_eq_append_getElem hkm] at hsn
          have HIS := Lib.hid (is_d HD3.out j (sb ((Syn.marks l)[k]).1))
          rw [mk_bl l hl k hkm] at HIS
          have HSN := Lib.hid hsn
          clear hsn
          generalize ((Syn.marks l)[k]).1 = mt at *
          generalize ((Syn.marks l)[k]).2 = mo at *
          obtain ⟨b, hb⟩ : ∃ b, Syn.is (Tk D.ys) j mt = b := ⟨_, rfl⟩
          rw [hb] at HIS HSN
          clear hb
          cases b
          · have HS2 := Lib.hid (show Syn.opOf (Tk D.ys) ((Syn.marks l).take k) j = Syn.opOf (Tk D.ys) ((Syn.marks l).take (k + 1)) j from by have := HSN.out; rw [this]; rfl)
            go_wp2_with (go_at_call 21; refine HIS.out.mono ?_; rintro e w' ⟨rfl, rfl⟩)
            exact ⟨⟨k + 1, by omega, by go_num, by rw [← HS2.out], by first | rfl | trivial⟩, by simp [intOf]; omega⟩
          · have HS2 := Lib.hid (show mo = Syn.opOf (Tk D.ys) ((Syn.marks l).take (k + 1)) j from by have := HSN.out; rw [this]; rfl)
            go_wp2_with (go_at_call 21; refine HIS.out.mono ?_; rintro e w' ⟨rfl, rfl⟩)
            exact ⟨⟨k + 1, by omega, by go_num, by rw [← HS2.out], by first | rfl | trivial⟩, by simp [intOf]; omega⟩
        · obtain rfl : k = n := by omega
          rw [List.take_of_length_le (by rw [HNN.out]; exact Nat.le_refl _)]
          obtain ⟨o, ho⟩ : ∃ o, Syn.opOf (Tk D.ys) (Syn.marks l) j = o := ⟨_, rfl⟩
          rw [ho]
          have HOO := Lib.hid ho
          clear ho
          obtain ⟨f, rfl⟩ : ∃ f', f = f' + 1 := ⟨f - 1, by omega⟩
          have HLL := Lib.hid (show (if o = 0 then .ok (l2, j) else (p (j + 1)).on fun r j => Syn.loopF (Tk D.ys) p (Syn.marks l) f (l2 ++ r ++ [⟨5, o, []⟩]) j) = RR from by have := HL.out; rw [Syn.loopF, HOO.out] at this; exact this)
          clear HL
          by_cases ho0 : o = 0
          · subst ho0
            have HR2 := Lib.hid (show RR = .ok (l2, j) from by rw [← HLL.out, if_pos rfl])
            have ez : (((0 : Nat) : Int) == 0) = true := rfl
            go_wp2_with fail
            go_ret2
            refine ⟨q2, c2, l2, _, 0, a2, rfl, own_chg HO.out HC3.out (fun _ _ e => e), hp2, by omega, HC.out.then (HC3.out.mono (fun _ e => e.elim)), HD3.out, ?_⟩
            rw [HR2.out]; exact ⟨rfl, rfl, rfl⟩
          · have HR2 := Lib.hid (show ((p (j + 1)).on fun r j => Syn.loopF (Tk D.ys) p (Syn.marks l) f (l2 ++ r ++ [⟨5, o, []⟩]) j) = RR from by have := HLL.out; rwa [if_neg ho0] at this)
            have hjl : j < D.ys.length := Syn.opOf_lt (tk_nones D.ys) (by rw [HOO.out]; exact ho0)
            have ez : ((o : Int) == 0) = false := by simp; omega
            have hwj : IntKind.i64.wrap ((j : Int) + 1) = ((j + 1 : Nat) : Int) := by rw [IntKind.wrap_i64]; omega
            have hcall := HR.out w3 a2 (j + 1) hjl HD3.out
            clear HLL
            go_wp2_with fail
            go_at_call 10
            refine hcall.mono ?_
            rintro e w4 ⟨q4, c4, r, z4, er4, a4, rfl, ho4, hp4, hc4, hC4, hd4, hm4⟩
            obtain ⟨g4, cap4, hv4, hb4, hlt4⟩ := ho4.form hp4
            have hq4 : q4 = some ⟨g4, 0, none⟩ := by injection hv4
            clear hv4
            subst hq4
            have hch : Chg (fun k => k = D.bt) wr w4 := (HC3.out.mono (fun _ e => e.elim)).then hC4
            have hnb := own_not HD.out HO.out (by decide)
            have hro4 := own_chg HO.out hch (fun k hk e => by subst e; exact hnb hk)
            have hrl : (tmCells r).length = r.length * 3 := ho4.1
            have hcl : ∀ i u, (tmCells r)[i]? = some u → w4.cell? ((⟨g4, 0, none⟩ : Addr).add i) = some u := by
              intro i u hu
              rw [show ((⟨g4, 0, none⟩ : Addr).add i) = ⟨g4, i, none⟩ from by simp [Addr.add]; intro h; exact h.symm]
              rw [ho4.cellAt i (by have := (List.getElem?_eq_some_iff.1 hu).1; omega)]
              exact hu
            have hro := tmC_one r
            have hws := HC.out.size
            have hws3 := hch.size
            have HD4 := Lib.hid hd4
            have HM4 := Lib.hid hm4
            have HCH := Lib.hid (HC.out.then hch)
            clear hm4 hcall ho4 hd4 hnb hch hC4
            have hlb : (l2.length + r.length) * 32 ≤ 140737488355328 := by omega
            go_wp2_with (at_builtin; refine wpList_append_own_at _ rfl _ _ 22 rfl w.heap.size 46 j0 _ 3 32 Tryd.underlying22 hj0 hy0 hy1 hy2 rfl (by decide) _ _ _ rfl hro4 ⟨g4, 0, none⟩ r.length c4 (tmCells r) rfl hrl hcl hro (by unfold maxLen; omega) hlb (by omega) ?_)
            intro v5 w5 ho5 hg5 _ _
            obtain ⟨q5, c5, rfl⟩ := own_shape ho5
            have HD5 := Lib.hid (HD4.out.grown hro4 (by decide) (by decide) (Chg.refl _ _) hg5)
            have hC5 : Chg (fun k => k = D.bt) w w5 := HCH.out.trans (grown_chg (S := fun k => (Value.slice q2 l2.length c2).ownBlock = some k) hg5 (fun k hk => .inl hk)) (fun k hk => .inr (hro4.lt k hk).1)
            have HC5 := Lib.hid hC5
            have hs5 := hC5.size
            have hnew := row_new w5 [.int .i64 5, .int .i64 (o : Nat), .string ⟨#[]⟩] 46
            have hone : ∀ u ∈ [Value.int .i64 5, .int .i64 (o : Nat), .string ⟨#[]⟩], u.oneCell' = true := by
              intro u hu
              simp only [List.mem_cons, List.not_mem_nil, or_false] at hu
              rcases hu with rfl | rfl | rfl <;> rfl
            clear hg5 hcl hro hro4 hC5
            go_wp2_with (at_builtin; refine wpList_append_own_at _ rfl _ _ 22 rfl w.heap.size 46 j0 _ 3 32 Tryd.underlying22 hj0 hy0 hy1 hy2 rfl (by decide) _ _ _ rfl (ho5.alloc _) ⟨w5.heap.size, 0, none⟩ 1 1 [.int .i64 5, .int .i64 (o : Nat), .string ⟨#[]⟩] rfl rfl hnew hone (by unfold maxLen; omega) (by omega) (by simp; omega) ?_)
            intro v6 w6 ho6 hg6 _ _
            obtain ⟨q6, c6, rfl⟩ := own_shape ho6
            have HD6 := Lib.hid (HD5.out.grown ho5 (by decide) (by decide) ((Chg.refl _ _).alloc _) hg6)
            have hC6 : Chg (fun k => k = D.bt) w w6 := HC5.out.trans (((Chg.refl (fun k => (Value.slice q5 (l2.length + r.length) c5).ownBlock = some k) w5).alloc _).then (grown_chg hg6 (fun k hk => .inl hk))) (fun k hk => .inr (ho5.lt k hk).1)
            have HC6 := Lib.hid hC6
            have hll : (l2 ++ r ++ [⟨5, o, []⟩] : List Syn.Tm).length = l2.length + r.length + 1 := by simp; omega
            have HO6 := Lib.hid (show w6.ownsRow w.heap.size 46 3 (.slice q6 (l2 ++ r ++ [⟨5, o, []⟩] : List Syn.Tm).length c6) (l2 ++ r ++ [⟨5, o, []⟩] : List Syn.Tm).length (tmCells (l2 ++ r ++ [⟨5, o, []⟩])) by
              rw [hll, tmCells_app, tmCells_app, tmCells_one, List.append_assoc]; exact ho6)
            have HMS2 := Lib.hid (fun iv (h : er4 = 0) => lvMs_0 (iv := iv) (show DS D nv bv 0 a4 w6 by rw [← h]; exact HD6.out))
            have HMS3 := Lib.hid (fun iv (h : er4 ≠ 0) => lvMs_f (iv := iv) HD6.out h)
            clear hg6 hC6 ho6 ho5
            go_wp2_with fail
            have hh := HR2.out
            have hm4 := HM4.out
            cases hpj : p (j + 1) with
            | error qq =>
              rw [hpj] at hh hm4
              obtain ⟨k, t⟩ := qq
              obtain ⟨rfl, m1, m2⟩ := hm4
              refine ⟨⟨q6, c6, _, z4, er4, a4, by rw [hll], rfl, HO6, by rw [hll]; omega, by rw [hll]; omega, HC6, HD6, .inr ⟨m1, Lib.hid (by rw [← hh]; exact ⟨rfl, m1, m2⟩)⟩⟩, ?_⟩
              rw [HMS3.out _ m1, HMS.out]
              simp [intOf]; omega
            | ok qq =>
              obtain ⟨r0, j'⟩ := qq
              have hcn := hcnt _ _ _ hpj
              have hft := hfit (j + 1) hjl
              have hle2 := hft.2 _ _ hpj
              have hj' := hft.1
              rw [hpj] at hh hm4 hj'
              have hj' : j' ≤ D.ys.length := hj'
              obtain ⟨rfl, rfl, rfl⟩ := hm4
              refine ⟨⟨q6, c6, _, _, 0, a4, by rw [hll], rfl, HO6, by rw [hll]; omega, by rw [hll]; omega, HC6, HD6, .inl ⟨rfl, f, j', rfl, hj', by omega, by rw [hll]; omega, Lib.hid hh⟩⟩, ?_⟩
              rw [HMS2.out _ rfl, HMS.out]
              simp [intOf]; omega
    · have e0 : ((er2 : Int) == 0) = false := by simp; omega
      go_wp2_with fail
      go_ret2
      exact ⟨q2, c2, l2, z2, er2, a2, rfl, HO.out, hp2, hc2, HC.out, HD.out, HM.out⟩
end
end Go.Proofs.YtnmcjkabihihiaaDoor
