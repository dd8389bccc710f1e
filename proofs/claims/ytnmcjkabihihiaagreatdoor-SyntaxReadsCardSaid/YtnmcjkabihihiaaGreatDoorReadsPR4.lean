/- The document's functions: the walk. -/
import Derived.Test.YtnmcjkabihihiaaGreatDoorReadsPR2
import Derived.Test.YtnmcjkabihihiaaGreatDoorReadsPR3
import Derived.Test.YtnmcjkabihihiaaGreatDoorQ14
import Derived.Test.YtnmcjkabihihiaaGreatDoorQ15
namespace Go.Proofs.YtnmcjkabihihiaaGreatDoor
open Go Go.RowKit Go.Proofs.Mm

section
variable {D : DC} {nv bv : Value} {er a : Nat} {w : World} {ns : List (List Nat)} {α β : Type}
/-- A function while it is read: its block, and the block of what is handed back. -/
structure FB (D : DC) (nv bv : Value) (ns : List (List Nat)) (er a : Nat) (w : World) (arr : Array Value) (W : World) : Prop where
  blk : W.heap[w.heap.size + 1]? = some (.cells arr 41 (0, 0))
  res : W.heap[w.heap.size]? = some fnZ
  ds : DS D nv bv er a W
  nr : NR W nv ns
  chg : Chg (fun k => k = D.bt) w W
theorem NR.next {W W' : World} (h : NR W nv ns) (hd : DS D nv bv er a W) (hc : Chg (fun k => k = D.bt) W W') : NR W' nv ns :=
  ⟨own_chg h.1 hc (fun k hk e => by subst e; exact own_not hd h.1 (by decide) hk), h.2⟩
theorem FB.next {arr : Array Value} {W W' : World} {er' a' : Nat} (h : FB D nv bv ns er a w arr W) (hb : D.bt < w.heap.size) (hc : Chg (fun k => k = D.bt) W W') (hd : DS D nv bv er' a' W') : FB D nv bv ns er' a' w arr W' :=
  ⟨hc.heap h.blk (by omega), hc.heap h.res (by omega), hd, h.nr.next h.ds hc, h.chg.then hc⟩
theorem FB.set {arr : Array Value} {W : World} (h : FB D nv bv ns er a w arr W) (hb : D.bt < w.heap.size) (k : Nat) (v : Value) : FB D nv bv ns er a w (arr.setIfInBounds k v) (W.setCell ⟨w.heap.size + 1, k, none⟩ v) := by
  have hc := (Chg.refl (fun k => k = w.heap.size + 1) W).setCell (p := ⟨w.heap.size + 1, k, none⟩) (.inl rfl) v
  refine ⟨heap_set h.blk k v, hc.heap h.res (by omega), h.ds.chg2 hc (by omega) (fun hn e => ?_), ⟨own_chg h.nr.1 hc (fun k hk e => by subst e; exact blk_own h.blk h.nr.1 (by decide) hk), h.nr.2⟩, h.chg.setCell (p := ⟨w.heap.size + 1, k, none⟩) (.inr (by show w.heap.size ≤ w.heap.size + 1; omega)) v⟩
  obtain ⟨_, arr2, e1, _⟩ := h.ds.tok.resolve_left hn
  exact blk_ne h.blk e1 (by decide) e.symm
theorem FB.start (h : DS D nv bv er a w) (hn : NR w nv ns) : FB D nv bv ns er a w #[.string ⟨#[]⟩, .int .u64 0, .slice none 0 0, .slice none 0 0, .slice none 0 0, .slice none 0 0] ((w.alloc fnZ).alloc fnZ) := by
  have h1 := World.alloc_heap_new (w.alloc fnZ) fnZ
  rw [World.size_alloc] at h1
  have hc : Chg (fun _ => False) w ((w.alloc fnZ).alloc fnZ) := ((Chg.refl _ w).alloc _).alloc _
  exact ⟨h1, heap_new _ _ (World.alloc_heap_new w fnZ), h.chg hc (fun e => e) (fun e => e), ⟨own_chg hn.1 hc (fun _ _ e => e), hn.2⟩, hc.mono (fun _ e => e.elim)⟩
/-- A row begins to grow. -/
theorem FB.row {R : List Value → β → Prop} {E : TypeId} {size : Nat} {arr : Value → Array Value} {W : World} (h : FB D nv bv ns er a w (arr (.slice none 0 0)) W) : RoW R E size arr 41 (w.heap.size + 1) D nv bv ns W none 0 ([] : List β) er a W :=
  ⟨h.blk, ⟨[], World.ownsRow_nil _ _ _ _, Enc.nil⟩, Chg.refl _ _, h.ds, h.nr⟩
theorem FB.rowed {R : List Value → β → Prop} {E : TypeId} {size : Nat} {arr : Value → Array Value} {W W' : World} {arr0 : Array Value} {er0 a0 : Nat} {q : Option Addr} {c : Nat} {acc : List β} (h : FB D nv bv ns er0 a0 w arr0 W) (hb : D.bt < w.heap.size) (h' : RoW R E size arr 41 (w.heap.size + 1) D nv bv ns W q c acc er a W') : FB D nv bv ns er a w (arr (.slice q acc.length c)) W' := by
  obtain ⟨h1, _, h3, h4, h5⟩ := h'
  exact ⟨h1, h3.heap h.res (by omega), h4, h5, h.chg.trans h3 (fun k e => by rcases e with e | e; exact .inl e; exact .inr (by omega))⟩
/-- Nothing that lies already turns. -/
theorem RoW.keep {R : List Value → β → Prop} {E : TypeId} {size : Nat} {arr : Value → Array Value} {T : TypeId} {g : Nat} {W1 wr w1 : World} {q : Option Addr} {c : Nat} {acc : List β} (h : RoW R E size arr T g D nv bv ns W1 q c acc er a wr) (hc : Chg (fun _ => False) wr w1) : RoW R E size arr T g D nv bv ns W1 q c acc er a w1 := by
  obtain ⟨h1, ⟨cs, h2, h3⟩, h4, h5, h6⟩ := h
  exact ⟨hc.heap h1 (fun e => e), ⟨cs, own_chg h2 hc (fun _ _ e => e), h3⟩, h4.then (hc.mono (fun _ e => e.elim)), h5.chg hc (fun e => e) (fun e => e), ⟨own_chg h6.1 hc (fun _ _ e => e), h6.2⟩⟩
def FuR (D : DC) (nv : Value) (ns : List (List Nat)) (m : Mem) (r : Syn.R Syn.Fn) (w : World) (e : Ending) (w' : World) : Prop :=
  ∃ s l qa na ca qb nb cb qd nd cd qe ne ce z er a bv', e = .returned (.tuple #[.agg #[.string s, .int .u64 ((l : Nat) : Int), .slice qa na ca, .slice qb nb cb, .slice qd nd cd, .slice qe ne ce], .int .i64 z]) ∧ Chg (fun k => k = D.bt) w w' ∧ DS D nv bv' er a w' ∧ NR w' nv ns ∧ Cu D r z er a ∧
    ∀ f j, r = .ok (f, j) → ∃ m', FnM m' [.string s, .int .u64 (l : Nat), .slice qa na ca, .slice qb nb cb, .slice qd nd cd, .slice qe ne ce] f ∧ m.More w m' ∧ Has w' m' ∧ m' D.bt = none
/-- Where the loop over variables stands. -/
def VrI (RR : Syn.R (List Syn.De)) (m : Mem) (arr : Value → Array Value) (g : Nat) (D : DC) (nv bv : Value) (ns : List (List Nat)) (W1 : World) (iv : Value) (wr : World) : Prop :=
  ∃ q c acc z er a, iv = .int .i64 z ∧ Hid (RoW (DeR m) 75 2 arr 41 g D nv bv ns W1 q c acc er a wr) ∧ acc.length ≤ 65537 ∧
    ((er = 0 ∧ ∃ f i, z = (i : Nat) ∧ i ≤ D.ys.length ∧ D.ys.length < f + i ∧ acc.length ≤ i ∧ Hid (Syn.varsF (Tk D.ys) (D.ys.length + 1) ns f acc i = RR)) ∨
     (er ≠ 0 ∧ Hid (∃ k t, RR = .error (k, t) ∧ er = k ∧ k ≠ 0 ∧ a = (tk D.ys D.len t).a)))
/-- Where the loop over statements stands. -/
def SmI (RR : Syn.R (List Syn.St)) (m : Mem) (D : DC) (nv : Value) (W1 : World) (iv : Value) (wr : World) : Prop :=
  ∃ q c n cs z er a, iv = .int .i64 z ∧ Hid (wr.ownsRow W1.heap.size 47 4 (.slice q n c) n cs) ∧ n ≤ 65553 ∧ Hid (Chg (fun k => k = D.bt ∨ W1.heap.size ≤ k) W1 wr) ∧ Hid (DS D nv (.slice q n c) er a wr) ∧
    ((er = 0 ∧ ∃ f l i, z = (i : Nat) ∧ i ≤ D.ys.length ∧ D.ys.length < f + i ∧ n ≤ i ∧ Hid (BdG D m W1 q n c cs l wr) ∧ Hid (Syn.stmtsF (Tk D.ys) (Syn.stmtD (Tk D.ys) (D.ys.length + 1) 12) (Syn.tx "return") f l i = RR)) ∨
     (er ≠ 0 ∧ Hid (∃ k t, RR = .error (k, t) ∧ er = k ∧ k ≠ 0 ∧ a = (tk D.ys D.len t).a)))
theorem FB.turn {arr : Array Value} {W W' : World} {er' a' : Nat} {bv' : Value} (h : FB D nv bv ns er a w arr W) (hb : D.bt < w.heap.size) (hc : Chg (fun k => k = D.bt) W W') (hd : DS D nv bv' er' a' W') : FB D nv bv' ns er' a' w arr W' :=
  ⟨hc.heap h.blk (by omega), hc.heap h.res (by omega), hd, h.nr.next h.ds hc, h.chg.then hc⟩
/-- At a loop's end: what closes it. -/
theorem pm_wantS {RR : Syn.R (List β)} {acc : List β} {z : Int} (s : ByteArray) (h : DS D nv bv er a w) (hx : (er = 0 ∧ ∃ i : Nat, z = (i : Nat) ∧ i < D.ys.length ∧ Syn.is (Tk D.ys) i (bl s) = true ∧ RR = .ok (acc, i + 1)) ∨ (er ≠ 0 ∧ ∃ k t, RR = .error (k, t) ∧ er = k ∧ k ≠ 0 ∧ a = (tk D.ys D.len t).a)) :
    Calls Tryz.prog 41 #[PB D, .int .i64 z, .string s] w fun e w' => ∃ z' er' a', e = .returned (.int .i64 z') ∧ Chg (fun k => k = D.bt) w w' ∧ DS D nv bv er' a' w' ∧ CuP D RR (fun x => x = acc) z' er' a' := by
  rcases hx with ⟨rfl, i, rfl, hi, hf, hR⟩ | ⟨her, k, t, hR, h1, h2, h3⟩
  · refine (wantD_yes (s := s) h hi hf).mono ?_
    rintro e w' ⟨rfl, rfl⟩
    refine ⟨_, 0, a, rfl, Chg.refl _ _, h, ?_⟩
    rw [hR]
    exact ⟨⟨rfl, rfl, hi⟩, fun x j e => by injection e with e; injection e with e _; exact e.symm⟩
  · refine (wantD_f h her z _).mono ?_
    rintro e w' ⟨⟨z', rfl⟩, rfl⟩
    refine ⟨z', er, a, rfl, Chg.refl _ _, h, ?_⟩
    rw [hR]
    exact ⟨⟨h1, h2, h3⟩, fun x j e => by cases e⟩
theorem resultsFun (tmps : Array Value) (w : World) (b5 : Nat) (v x0 x1 x2 x3 x4 x5 : Value) (T3 : TypeId) (h4 : tmps[4]?.getD undef = .pointer (some ⟨b5, 0, none⟩)) (h5 : tmps[5]?.getD undef = v)
    (c5 : w.heap[b5]? = some (.cells #[x0, x1, x2, x3, x4, x5] T3 (0, 0))) :
    (results Tryz.f44 tmps).run Tryz.prog w = .ok (.tuple #[.agg #[x0, x1, x2, x3, x4, x5], v]) w := by
  obtain ⟨q0, q1, q2, q3, q4, q5⟩ := six_cells c5
  simp [results, Tryz.results44, go_sem, h4, h5, q0, q1, q2, q3, q4, q5]
/-- A row of another kind stays. -/
theorem row_keep {W W' : World} {g r B n size : Nat} {E : TypeId} {v : Value} {xs : List Value} {x y : Array Value} (h : W.ownsRow B E size v n xs) (hd : DS D nv bv er a W) (hg : W.heap[g]? = some (.cells x 41 (0, 0))) (hr : W.heap[r]? = some (.cells y 41 (0, 0)))
    (hc : Chg (fun k => k = D.bt ∨ k = g ∨ k = r) W W') (h1 : E ≠ 66) (h2 : E ≠ 41) : W'.ownsRow B E size v n xs :=
  own_chg h hc (fun k hk e => by
    rcases e with e | e | e
    · subst e; exact own_not hd h h1 hk
    · subst e; exact blk_own hg h h2.symm hk
    · subst e; exact blk_own hr h h2.symm hk)
theorem labF_ge {T : Nat → Option Syn.K} (ns : List (List Nat)) : ∀ (f l i x j : Nat), Syn.labelF T ns f l i = .ok (x, j) → i ≤ j
  | 0, _, _, _, _, h => by cases h
  | f + 1, l, i, x, j, h => by
    rw [Syn.labelF] at h
    split at h
    · split at h
      · split at h
        · have := labF_ge ns f _ _ _ _ h; omega
        · cases h
      · injection h with h; injection h with _ h; omega
    · injection h with h; injection h with _ h; omega
theorem lab_gt {T : Nat → Option Syn.K} {F : Nat} {ns : List (List Nat)} {i x j : Nat} (h : Syn.label T F ns i = .ok (x, j)) : i < j := by
  unfold Syn.label at h
  obtain ⟨u, i1, h1, h⟩ := Syn.R.on_ok h
  obtain ⟨l, i2, h2, h⟩ := Syn.R.on_ok h
  obtain ⟨u2, i3, h3, h⟩ := Syn.R.on_ok h
  injection h with h; injection h with _ h
  have e1 := (Syn.want_ok h1).2
  have e2 := labF_ge _ _ _ _ _ _ h2
  have e3 := (Syn.want_ok h3).2
  omega
theorem dec_gt {T : Nat → Option Syn.K} {F : Nat} {ns : List (List Nat)} {i j : Nat} {x : Syn.De} (h : Syn.decl T F ns i = .ok (x, j)) : i < j := by
  unfold Syn.decl at h
  obtain ⟨s, i1, h1, h⟩ := Syn.R.on_ok h
  obtain ⟨l, i2, h2, h⟩ := Syn.R.on_ok h
  injection h with h; injection h with _ h
  have e1 := (Syn.name_ok h1).2.1
  have e2 := lab_gt h2
  omega
theorem CuP.nm {r : Syn.R α} {P : α → Prop} {z : Int} (h : CuP D r P z er a) : ∃ R, R = r ∧ CuP D R P z er a := ⟨r, rfl, h⟩
theorem one_okk {α : Type} (i : Nat) (p : Nat → Syn.R α) (P : α → Prop) {z : Int} (h : CuP D ((Syn.R.on (.ok ((), i)) fun x i => (p i).on fun l j => .ok ((x, l), j)) : Syn.R (Unit × α)) (fun y => True ∧ P y.2) z er a) : CuP D (p i) P z er a := by
  rw [on_okk] at h
  cases hp : p i with
  | error e => rw [hp] at h; exact ⟨h.1, fun x j e => by cases e⟩
  | ok q =>
    obtain ⟨x, j⟩ := q
    rw [hp] at h
    exact ⟨h.1, fun y k e => by injection e with e; injection e with e _; rw [← e]; exact (h.2 _ _ rfl).2⟩
set_option maxRecDepth 100000 in
set_option maxHeartbeats 16000000 in
theorem function_d {m : Mem} (h : DS D nv bv 0 a w) (hn : NR w nv ns) (hm : Has w m) (hbm : m D.bt = none) {i : Nat} (hi : i ≤ D.ys.length) :
    Calls Tryz.prog 44 #[PB D, .int .i64 (i : Nat)] w (FuR D nv ns m (Syn.func (Tk D.ys) (D.ys.length + 1) ns i) w) := by
  have hfew := h.few
  have hbt := heap_lt h.st
  obtain ⟨d0, hd0, hdy0, hdy1, hdy2⟩ := infoDe
  obtain ⟨l0, hl0, hly0, hly1, hly2⟩ := infoLa
  obtain ⟨j0, hj0, hy0, hy1, hy2⟩ := infoSt
  have HB0 := Lib.hid (FB.start h hn)
  have HM := Lib.hid hm
  clear h hn hm
  obtain ⟨r0, f0, f1, f2, f3, f4⟩ := six_free HB0.out.blk
  obtain ⟨W0, hW0⟩ : ∃ W0, (w.alloc fnZ).alloc fnZ = W0 := ⟨_, rfl⟩
  rw [hW0] at HB0 r0 f0 f1 f2 f3 f4
  have hW0' : (w.alloc (.cells #[.string ⟨#[]⟩, .int .u64 0, .slice none 0 0, .slice none 0 0, .slice none 0 0, .slice none 0 0] 41)).alloc (.cells #[.string ⟨#[]⟩, .int .u64 0, .slice none 0 0, .slice none 0 0, .slice none 0 0, .slice none 0 0] 41) = W0 := hW0
  have HN := Lib.hid (nameP HB0.out.ds (CuP.start (D := D) () (i := i) hi (P := fun _ => True) trivial a))
  clear hW0 r0 f0 f1 f2 f3 f4
  go_enter Tryz.func44, Tryz.ntmps44
  go_wp2_with fail
  go_at_call 40
  refine (show Calls Tryz.prog _ _ W0 _ from HN.out).mono ?_
  rintro e w1 ⟨ts, z1, er1, a1, rfl, hc1, hd1, hcu1⟩
  have hb1 := HB0.out.next hbt hc1 hd1
  obtain ⟨f0, f1, f2, f3, f4, f5⟩ := six_free hb1.blk
  obtain ⟨c0, c1, c2, c3, c4, c5⟩ := six_cells hb1.blk
  have hb1 := hb1.set hbt 0 (.string ts)
  have HB1 := Lib.hid (show FB D nv bv ns er1 a1 w #[.string ts, .int .u64 0, .slice none 0 0, .slice none 0 0, .slice none 0 0, .slice none 0 0] _ from hb1)
  have HL := Lib.hid (labelP hb1.ds hb1.nr hcu1)
  clear hc1 hd1 hcu1 hb1
  go_wp2_with fail
  go_at_call 43
  refine HL.out.mono ?_
  rintro e w2 ⟨lv, z2, er2, a2, rfl, hlv, hc2, hd2, hcu2⟩
  have hb2 := HB1.out.next hbt hc2 hd2
  clear f0 f1 f2 f3 f4 f5 c0 c1 c2 c3 c4 c5
  obtain ⟨f0, f1, f2, f3, f4, f5⟩ := six_free hb2.blk
  obtain ⟨c0, c1, c2, c3, c4, c5⟩ := six_cells hb2.blk
  have hb2 := hb2.set hbt 1 (.int .u64 (lv : Nat))
  have HB2 := Lib.hid (show FB D nv bv ns er2 a2 w #[.string ts, .int .u64 (lv : Nat), .slice none 0 0, .slice none 0 0, .slice none 0 0, .slice none 0 0] _ from hb2)
  have HW := Lib.hid (wantP hb2.ds hcu2 ⟨#[40]⟩)
  have HLV := Lib.hid hlv
  clear hc2 hd2 hcu2 hb2 hlv
  go_wp2_with fail
  go_at_call 41
  refine HW.out.mono ?_
  rintro e W2 ⟨z3, er3, a3, rfl, hc3, hd3, hcu3⟩
  have hb3 := HB2.out.next hbt hc3 hd3
  have HB3 := Lib.hid hb3
  obtain ⟨R3, hR3, hcu3⟩ := hcu3.nm
  have HR3 := Lib.hid hR3
  have HCU3 := Lib.hid hcu3
  clear hc3 hd3 hcu3 hR3 HN HL HW HB0 HB1 HB2 f0 f1 f2 f3 f4 f5 c0 c1 c2 c3 c4 c5 hb3
  obtain ⟨RL1, hRL1⟩ : ∃ RL, (R3.on fun _ i => ls (Tk D.ys) (D.ys.length + 1) (Syn.decl (Tk D.ys) (D.ys.length + 1) ns) [41] i) = RL := ⟨_, rfl⟩
  have HRL1 := Lib.hid hRL1
  have H0 : (PmI (Syn.decl (Tk D.ys) (D.ys.length + 1) ns) RL1 (DeR m) 75 2 (fun v => #[.string ts, .int .u64 (lv : Nat), v, .slice none 0 0, .slice none 0 0, .slice none 0 0]) 41 (w.heap.size + 1) D nv bv ns W2) (.int .i64 z3) (.bool true) W2 := by
    refine ⟨none, 0, [], z3, er3, a3, true, rfl, rfl, Lib.hid (FB.row (arr := (fun v => #[.string ts, .int .u64 (lv : Nat), v, .slice none 0 0, .slice none 0 0, .slice none 0 0])) HB3.out), by simp, ?_⟩
    rw [← hRL1]; exact pm_start HCU3.out
  clear hRL1
  go_wp2_with fail
  go_loopw [1, 10] (PmI (Syn.decl (Tk D.ys) (D.ys.length + 1) ns) RL1 (DeR m) 75 2 (fun v => #[.string ts, .int .u64 (lv : Nat), v, .slice none 0 0, .slice none 0 0, .slice none 0 0]) 41 (w.heap.size + 1) D nv bv ns W2) (fun iv _ wr => lvMs D iv wr)
  case atStart => exact H0
  case round =>
    obtain ⟨qp, cp, ps, z, er', a', b, rfl, rfl, HRO, hacc, hrel⟩ := hrel
    clear H0
    have hsr := HRO.out.2.2.1.size
    obtain ⟨qx, _, _, x2, _⟩ := HRO.out.2.2.2.1.raw
    rcases pm_head hrel with ⟨i1, p0, f, rfl, rfl, hi1, hai, hf41, hp0, hbb, hff, hL⟩ | hex
    · have e0 : (((0 : Nat) : Int) == 0) = true := rfl
      have HMS := Lib.hid (lvMs_0 (iv := .int .i64 (i1 : Nat)) HRO.out.2.2.2.1)
      have HI := Lib.hid (is_d HRO.out.2.2.2.1 i1 ⟨#[41]⟩)
      rw [bl_41, hf41] at HI
      have hpa : ps.length ≤ p0 ∧ i1 ≤ p0 := by rcases hbb with ⟨_, h⟩ | ⟨_, _, _, h⟩ <;> omega
      have HL := Lib.hid hL
      have HDE := Lib.hid (declP HRO.out.2.2.2.1 HRO.out.2.2.2.2 (CuP.start (D := D) () (i := p0) hp0 (P := fun _ => True) trivial a'))
      have HWY := Lib.hid (show b = false → Calls Tryz.prog 41 #[PB D, .int .i64 (i1 : Nat), .string ⟨#[44]⟩] wr (fun e w' => e = .returned (.int .i64 (p0 : Nat)) ∧ wr = w') from fun hb => by
        rcases hbb with ⟨h, _⟩ | ⟨_, h1, h2, h3⟩
        · rw [h] at hb; cases hb
        · rw [← h3]; exact wantD_yes (s := ⟨#[44]⟩) HRO.out.2.2.2.1 h1 h2)
      clear hf41 hL hrel
      go_upto_if 51 with (go_at_call 37; refine HI.out.mono ?_; rintro e w' ⟨rfl, rfl⟩)
      go_cut [1] from 52 to 55 (fun iv wx => iv = .int .i64 (p0 : Nat) ∧ wx = wr)
      case first =>
        rcases hbb with ⟨rfl, hp⟩ | ⟨rfl, _, _, _⟩
        · have HP := Lib.hid hp
          clear hp
          go_wp2_with fail
          go_meet
          exact ⟨by rw [HP.out], rfl⟩
        · have HWN := Lib.hid (HWY.out rfl)
          go_wp2_with (go_at_call 41; refine HWN.out.mono ?_; rintro e w' ⟨rfl, rfl⟩)
          go_meet
          exact ⟨rfl, rfl⟩
      case rest =>
      obtain ⟨rfl, hwc⟩ := hcut
      have hwc' := hwc.symm
      clear hwc hbb HWY HI x2
      subst hwc'
      go_wp2_with fail
      go_at_call 42
      refine HDE.out.mono ?_
      rintro e w9 ⟨d, zd, erd, ad, rfl, hdl, hcd, hdd, hcud⟩
      have HROd := Lib.hid (HRO.out.next tyd_de hcd hdd)
      have HCUd := Lib.hid (one_okk p0 (Syn.decl (Tk D.ys) (D.ys.length + 1) ns) (fun y => y = d) hcud)
      have hsd := hcd.size
      clear hcd hdd hcud
      go_upto_region 13 with (fail)
      have hk : Chg (fun _ => False) w9 (w9.alloc (.cells #[.string (sb d.name), .int .u64 (d.label : Nat)] 75)) := (Chg.refl _ w9).alloc _
      have HROk := Lib.hid (HROd.out.keep hk)
      obtain ⟨q0, q1, q2, q3⟩ := two_cells (World.alloc_heap_new w9 (.cells #[.string (sb d.name), .int .u64 (d.label : Nat)] 75))
      have hnew : ∀ (j : Nat) (u : Value), [Value.string (sb d.name), .int .u64 (d.label : Nat)][j]? = some u → ((w9.alloc (.cells #[.string (sb d.name), .int .u64 (d.label : Nat)] 75)).alloc (.cells #[.string (sb d.name), .int .u64 (d.label : Nat)] 75)).cell? ((⟨w9.heap.size + 1, 0, none⟩ : Addr).add j) = some u := by
        have := row_new (w9.alloc (.cells #[.string (sb d.name), .int .u64 (d.label : Nat)] 75)) [Value.string (sb d.name), .int .u64 (d.label : Nat)] 75
        simpa only [World.size_alloc] using this
      clear hk
      obtain ⟨g1, ⟨cs, g2, g3⟩, _, _, _⟩ := HROk.out
      have kc := cell_of (j := 2) g1 rfl
      have hlg := heap_lt g1
      go_wp2_with (at_builtin; refine wpList_append_own_at _ rfl _ _ 23 rfl W2.heap.size 75 d0 _ 2 24 Tryz.underlying23 hd0 hdy0 hdy1 hdy2 rfl (by decide) _ _ _ rfl (g2.alloc _) ⟨w9.heap.size + 1, 0, none⟩ 1 1 [Value.string (sb d.name), .int .u64 (d.label : Nat)] rfl rfl hnew (one_de _ _) (by unfold maxLen; omega) (by omega) (by simp; omega) ?_)
      intro v8 w8 ho8 hg8 hxx8 hat8
      obtain ⟨q8, c8, rfl⟩ := own_shape ho8
      obtain ⟨s1, s2⟩ := RoW.add (kf := 2) HROk.out tyd_de (fun _ _ => rfl) (⟨rfl, hdl⟩ : DeR m [Value.string (sb d.name), .int .u64 (d.label : Nat)] d) g3 ho8 hg8
      have kc8 := cell_of (j := 2) s2 rfl
      have kf8 := free_of (j := 2) s2
      have hlg8 := heap_lt s2
      have HS1 := Lib.hid s1
      have HI41 := Lib.hid (isA s1.2.2.2.1 HCUd.out.1 ⟨#[41]⟩)
      have HI44 := Lib.hid (isA s1.2.2.2.1 HCUd.out.1 ⟨#[44]⟩)
      rw [bl_41] at HI41
      rw [bl_44] at HI44
      have HBAD := Lib.hid (badP (β := Unit) s1.2.2.2.1 HCUd.out)
      clear ho8 hg8 hxx8 hat8 s1 s2 g1 g2 g3 hnew q0 q1 q2 q3 kc hlg
      cases hb1 : isB D ((Syn.decl (Tk D.ys) (D.ys.length + 1) ns) p0) [41] with
      | true =>
        rw [hb1] at HI41
        obtain ⟨n1, n2, n3, n4, n5, n6, n7⟩ := pm_next HL.out HCUd.out (fun x j h => dec_gt h) hff hpa.1 (.inl hb1)
        clear hb1
        have HN7 := Lib.hid n7
        have HMZ := Lib.hid (show lvMs D (.int .i64 zd) (w8.setCell ⟨w.heap.size + 1, 2, none⟩ (.slice q8 (ps.length + 1) c8)) < lvMs D (.int .i64 (i1 : Nat)) wr from by
          rw [n3, lvMs_0 (by rw [← n1]; exact HS1.out.2.2.2.1), HMS.out]; simp [intOf]; omega)
        have HN := Lib.hid (And.intro n1 n3)
        clear n1 n3 n7
        go_wp2_with (go_at_call 37; refine HI41.out.mono ?_; rintro e w' ⟨rfl, rfl⟩)
        exact ⟨⟨q8, c8, ps ++ [d], zd, erd, ad, false, by simp, rfl, HS1, by simp; omega, .inl ⟨HN.out.1, n2, HN.out.2, n4, n5, HN7.out.imp id (fun h => ⟨rfl, h.2⟩)⟩⟩, HMZ.out⟩
      | false =>
        rw [hb1] at HI41
        cases hb2 : isB D ((Syn.decl (Tk D.ys) (D.ys.length + 1) ns) p0) [44] with
        | true =>
          rw [hb2] at HI44
          obtain ⟨n1, n2, n3, n4, n5, n6, n7⟩ := pm_next HL.out HCUd.out (fun x j h => dec_gt h) hff hpa.1 (.inr hb2)
          clear hb1 hb2
          have HN7 := Lib.hid n7
          have HMZ := Lib.hid (show lvMs D (.int .i64 zd) (w8.setCell ⟨w.heap.size + 1, 2, none⟩ (.slice q8 (ps.length + 1) c8)) < lvMs D (.int .i64 (i1 : Nat)) wr from by
            rw [n3, lvMs_0 (by rw [← n1]; exact HS1.out.2.2.2.1), HMS.out]; simp [intOf]; omega)
          have HN := Lib.hid (And.intro n1 n3)
          clear n1 n3 n7
          go_wp2_with fail
          go_at_call 37
          refine HI41.out.mono ?_
          rintro e w' ⟨rfl, rfl⟩
          go_wp2_with fail
          go_at_call 37
          refine HI44.out.mono ?_
          rintro e w' ⟨rfl, rfl⟩
          go_wp2_with fail
          exact ⟨⟨q8, c8, ps ++ [d], zd, erd, ad, false, by simp, rfl, HS1, by simp; omega, .inl ⟨HN.out.1, n2, HN.out.2, n4, n5, HN7.out.imp id (fun h => ⟨rfl, h.2⟩)⟩⟩, HMZ.out⟩
        | false =>
          rw [hb2] at HI44
          have HBX := Lib.hid (fun er a (hcu : Cu D (((Syn.decl (Tk D.ys) (D.ys.length + 1) ns) p0).on fun _ i => (.error (50, i) : Syn.R Unit)) zd er a) => pm_bad HL.out hb1 hb2 hcu)
          clear hb1 hb2
          go_wp2_with fail
          go_at_call 37
          refine HI41.out.mono ?_
          rintro e w' ⟨rfl, rfl⟩
          go_wp2_with fail
          go_at_call 37
          refine HI44.out.mono ?_
          rintro e w' ⟨rfl, rfl⟩
          go_wp2_with fail
          go_at_call 39
          refine HBAD.out.mono ?_
          rintro e w7 ⟨er7, a7, rfl, hc7, hd7, hne7, hcu7⟩
          have HS7 := Lib.hid (HS1.out.next tyd_de hc7 hd7)
          have HMZ := Lib.hid (show lvMs D (.int .i64 zd) w7 < lvMs D (.int .i64 (i1 : Nat)) wr from by
            rw [lvMs_f hd7 hne7, HMS.out]; simp [intOf]; omega)
          have HE7 := Lib.hid (HBX.out _ _ hcu7)
          clear hc7 hd7 hcu7
          go_wp2_with fail
          exact ⟨⟨q8, c8, ps ++ [d], zd, er7, a7, false, by simp, rfl, HS7, by simp; omega, .inr ⟨hne7, HE7⟩⟩, HMZ.out⟩
    · have HWX := Lib.hid (pm_want HRO.out.2.2.2.1 hex)
      go_upto_region 8 with (fail)
      go_cut [49] from 39 to 50 (fun v wx => v = .bool false ∧ wx = wr)
      case first =>
        rcases hex with ⟨rfl, i1, rfl, hi1, hf41, _⟩ | ⟨her, _⟩
        · have e0 : (((0 : Nat) : Int) == 0) = true := rfl
          have HI := Lib.hid (is_d HRO.out.2.2.2.1 i1 ⟨#[41]⟩)
          rw [bl_41, hf41] at HI
          clear hf41
          go_wp2_with (go_at_call 37; refine HI.out.mono ?_; rintro e w' ⟨rfl, rfl⟩)
          go_meet
          exact ⟨rfl, rfl⟩
        · have e0 : ((er' : Int) == 0) = false := by simp; omega
          go_wp2_with fail
          go_meet
          exact ⟨rfl, rfl⟩
      case rest =>
      obtain ⟨rfl, hwc⟩ := hcut
      have hwc' := hwc.symm
      clear hwc x2 hrel hex
      subst hwc'
      go_wp2_with fail
      go_at_call 41
      refine HWX.out.mono ?_
      rintro e w5 ⟨z4, er4, a4, rfl, hc4, hd4, hcu4⟩
      have hro4 := HRO.out.next tyd_de hc4 hd4
      obtain ⟨R4, hR4, hcu4⟩ := (CuP.pair (q := fun i => ls (Tk D.ys) (D.ys.length + 1) (Syn.decl (Tk D.ys) (D.ys.length + 1) ns) [41] i) HCU3.out.2 (by rw [HRL1.out]; exact hcu4)).nm
      have HR4 := Lib.hid hR4
      have HRO4 := Lib.hid hro4
      have HW := Lib.hid (wantP hd4 hcu4 ⟨#[40]⟩)
      clear hro4 hR4 hcu4 hc4 hd4 HWX
      go_wp2_with fail
      go_at_call 41
      refine HW.out.mono ?_
      rintro e W4 ⟨z5, er5, a5, rfl, hc5, hd5, hcu5⟩
      have hro5 := HRO4.out.next tyd_de hc5 hd5
      have HRP := Lib.hid hro5
      have HB5 := Lib.hid (HB3.out.rowed (arr := (fun v => #[.string ts, .int .u64 (lv : Nat), v, .slice none 0 0, .slice none 0 0, .slice none 0 0])) hbt hro5)
      obtain ⟨R5, hR5, hcu5⟩ := hcu5.nm
      have HR5 := Lib.hid hR5
      have HCU5 := Lib.hid hcu5
      have hs24 := hro5.2.2.1.size
      have HAP := Lib.hid hacc
      clear hro5 hR5 hcu5 hc5 hd5 HW HRO HRO4 hacc
      obtain ⟨RL2, hRL2⟩ : ∃ RL, (R5.on fun _ i => ls (Tk D.ys) (D.ys.length + 1) (Syn.label (Tk D.ys) (D.ys.length + 1) ns) [41] i) = RL := ⟨_, rfl⟩
      have HRL2 := Lib.hid hRL2
      have H0 : (PmI (Syn.label (Tk D.ys) (D.ys.length + 1) ns) RL2 (LaR m) 37 1 (fun v => #[.string ts, .int .u64 (lv : Nat), .slice qp ps.length cp, v, .slice none 0 0, .slice none 0 0]) 41 (w.heap.size + 1) D nv bv ns W4) (.int .i64 z5) (.bool true) W4 := by
        refine ⟨none, 0, [], z5, er5, a5, true, rfl, rfl, Lib.hid (FB.row (arr := (fun v => #[.string ts, .int .u64 (lv : Nat), .slice qp ps.length cp, v, .slice none 0 0, .slice none 0 0])) HB5.out), by simp, ?_⟩
        rw [← hRL2]; exact pm_start HCU5.out
      clear hRL2
      go_wp2_with fail
      go_loopw [1, 13] (PmI (Syn.label (Tk D.ys) (D.ys.length + 1) ns) RL2 (LaR m) 37 1 (fun v => #[.string ts, .int .u64 (lv : Nat), .slice qp ps.length cp, v, .slice none 0 0, .slice none 0 0]) 41 (w.heap.size + 1) D nv bv ns W4) (fun iv _ wr => lvMs D iv wr)
      case atStart => exact H0
      case round =>
        obtain ⟨qr, cr, rs, z, er', a', b, rfl, rfl, HRO, hacc, hrel⟩ := hrel
        clear H0
        have hsr := HRO.out.2.2.1.size
        obtain ⟨qx, _, _, x2, _⟩ := HRO.out.2.2.2.1.raw
        rcases pm_head hrel with ⟨i1, p0, f, rfl, rfl, hi1, hai, hf41, hp0, hbb, hff, hL⟩ | hex
        · have e0 : (((0 : Nat) : Int) == 0) = true := rfl
          have HMS := Lib.hid (lvMs_0 (iv := .int .i64 (i1 : Nat)) HRO.out.2.2.2.1)
          have HI := Lib.hid (is_d HRO.out.2.2.2.1 i1 ⟨#[41]⟩)
          rw [bl_41, hf41] at HI
          have hpa : rs.length ≤ p0 ∧ i1 ≤ p0 := by rcases hbb with ⟨_, h⟩ | ⟨_, _, _, h⟩ <;> omega
          have HL := Lib.hid hL
          have HDE := Lib.hid (labelP HRO.out.2.2.2.1 HRO.out.2.2.2.2 (CuP.start (D := D) () (i := p0) hp0 (P := fun _ => True) trivial a'))
          have HWY := Lib.hid (show b = false → Calls Tryz.prog 41 #[PB D, .int .i64 (i1 : Nat), .string ⟨#[44]⟩] wr (fun e w' => e = .returned (.int .i64 (p0 : Nat)) ∧ wr = w') from fun hb => by
            rcases hbb with ⟨h, _⟩ | ⟨_, h1, h2, h3⟩
            · rw [h] at hb; cases hb
            · rw [← h3]; exact wantD_yes (s := ⟨#[44]⟩) HRO.out.2.2.2.1 h1 h2)
          clear hf41 hL hrel
          go_upto_if 99 with (go_at_call 37; refine HI.out.mono ?_; rintro e w' ⟨rfl, rfl⟩)
          go_cut [1] from 100 to 103 (fun iv wx => iv = .int .i64 (p0 : Nat) ∧ wx = wr)
          case first =>
            rcases hbb with ⟨rfl, hp⟩ | ⟨rfl, _, _, _⟩
            · have HP := Lib.hid hp
              clear hp
              go_wp2_with fail
              go_meet
              exact ⟨by rw [HP.out], rfl⟩
            · have HWN := Lib.hid (HWY.out rfl)
              go_wp2_with (go_at_call 41; refine HWN.out.mono ?_; rintro e w' ⟨rfl, rfl⟩)
              go_meet
              exact ⟨rfl, rfl⟩
          case rest =>
          obtain ⟨rfl, hwc⟩ := hcut
          have hwc' := hwc.symm
          clear hwc hbb HWY HI x2
          subst hwc'
          go_wp2_with fail
          go_at_call 43
          refine HDE.out.mono ?_
          rintro e w9 ⟨d, zd, erd, ad, rfl, hdl, hcd, hdd, hcud⟩
          have HROd := Lib.hid (HRO.out.next tyd_la hcd hdd)
          have HCUd := Lib.hid (one_okk p0 (Syn.label (Tk D.ys) (D.ys.length + 1) ns) (fun y => y = d) hcud)
          have hsd := hcd.size
          clear hcd hdd hcud
          go_upto_region 25 with (fail)
          have HROk := HROd
          have hnew := row_new w9 [Value.int .u64 (d : Nat)] 37
          obtain ⟨g1, ⟨cs, g2, g3⟩, _, _, _⟩ := HROk.out
          have kc := cell_of (j := 3) g1 rfl
          have hlg := heap_lt g1
          go_wp2_with (at_builtin; refine wpList_append_own_at _ rfl _ _ 38 rfl W4.heap.size 37 l0 _ 1 8 Tryz.underlying38 hl0 hly0 hly1 hly2 rfl (by decide) _ _ _ rfl (g2.alloc _) ⟨w9.heap.size, 0, none⟩ 1 1 [Value.int .u64 (d : Nat)] rfl rfl hnew (one_la _) (by unfold maxLen; omega) (by omega) (by simp; omega) ?_)
          intro v8 w8 ho8 hg8 hxx8 hat8
          obtain ⟨q8, c8, rfl⟩ := own_shape ho8
          obtain ⟨s1, s2⟩ := RoW.add (kf := 3) HROk.out tyd_la (fun _ _ => rfl) (⟨rfl, hdl⟩ : LaR m [Value.int .u64 (d : Nat)] d) g3 ho8 hg8
          have kc8 := cell_of (j := 3) s2 rfl
          have kf8 := free_of (j := 3) s2
          have hlg8 := heap_lt s2
          have HS1 := Lib.hid s1
          have HI41 := Lib.hid (isA s1.2.2.2.1 HCUd.out.1 ⟨#[41]⟩)
          have HI44 := Lib.hid (isA s1.2.2.2.1 HCUd.out.1 ⟨#[44]⟩)
          rw [bl_41] at HI41
          rw [bl_44] at HI44
          have HBAD := Lib.hid (badP (β := Unit) s1.2.2.2.1 HCUd.out)
          clear ho8 hg8 hxx8 hat8 s1 s2 g1 g2 g3 hnew  kc hlg
          cases hb1 : isB D ((Syn.label (Tk D.ys) (D.ys.length + 1) ns) p0) [41] with
          | true =>
            rw [hb1] at HI41
            obtain ⟨n1, n2, n3, n4, n5, n6, n7⟩ := pm_next HL.out HCUd.out (fun x j h => lab_gt h) hff hpa.1 (.inl hb1)
            clear hb1
            have HN7 := Lib.hid n7
            have HMZ := Lib.hid (show lvMs D (.int .i64 zd) (w8.setCell ⟨w.heap.size + 1, 3, none⟩ (.slice q8 (rs.length + 1) c8)) < lvMs D (.int .i64 (i1 : Nat)) wr from by
              rw [n3, lvMs_0 (by rw [← n1]; exact HS1.out.2.2.2.1), HMS.out]; simp [intOf]; omega)
            have HN := Lib.hid (And.intro n1 n3)
            clear n1 n3 n7
            go_wp2_with (go_at_call 37; refine HI41.out.mono ?_; rintro e w' ⟨rfl, rfl⟩)
            exact ⟨⟨q8, c8, rs ++ [d], zd, erd, ad, false, by simp, rfl, HS1, by simp; omega, .inl ⟨HN.out.1, n2, HN.out.2, n4, n5, HN7.out.imp id (fun h => ⟨rfl, h.2⟩)⟩⟩, HMZ.out⟩
          | false =>
            rw [hb1] at HI41
            cases hb2 : isB D ((Syn.label (Tk D.ys) (D.ys.length + 1) ns) p0) [44] with
            | true =>
              rw [hb2] at HI44
              obtain ⟨n1, n2, n3, n4, n5, n6, n7⟩ := pm_next HL.out HCUd.out (fun x j h => lab_gt h) hff hpa.1 (.inr hb2)
              clear hb1 hb2
              have HN7 := Lib.hid n7
              have HMZ := Lib.hid (show lvMs D (.int .i64 zd) (w8.setCell ⟨w.heap.size + 1, 3, none⟩ (.slice q8 (rs.length + 1) c8)) < lvMs D (.int .i64 (i1 : Nat)) wr from by
                rw [n3, lvMs_0 (by rw [← n1]; exact HS1.out.2.2.2.1), HMS.out]; simp [intOf]; omega)
              have HN := Lib.hid (And.intro n1 n3)
              clear n1 n3 n7
              go_wp2_with fail
              go_at_call 37
              refine HI41.out.mono ?_
              rintro e w' ⟨rfl, rfl⟩
              go_wp2_with fail
              go_at_call 37
              refine HI44.out.mono ?_
              rintro e w' ⟨rfl, rfl⟩
              go_wp2_with fail
              exact ⟨⟨q8, c8, rs ++ [d], zd, erd, ad, false, by simp, rfl, HS1, by simp; omega, .inl ⟨HN.out.1, n2, HN.out.2, n4, n5, HN7.out.imp id (fun h => ⟨rfl, h.2⟩)⟩⟩, HMZ.out⟩
            | false =>
              rw [hb2] at HI44
              have HBX := Lib.hid (fun er a (hcu : Cu D (((Syn.label (Tk D.ys) (D.ys.length + 1) ns) p0).on fun _ i => (.error (50, i) : Syn.R Unit)) zd er a) => pm_bad HL.out hb1 hb2 hcu)
              clear hb1 hb2
              go_wp2_with fail
              go_at_call 37
              refine HI41.out.mono ?_
              rintro e w' ⟨rfl, rfl⟩
              go_wp2_with fail
              go_at_call 37
              refine HI44.out.mono ?_
              rintro e w' ⟨rfl, rfl⟩
              go_wp2_with fail
              go_at_call 39
              refine HBAD.out.mono ?_
              rintro e w7 ⟨er7, a7, rfl, hc7, hd7, hne7, hcu7⟩
              have HS7 := Lib.hid (HS1.out.next tyd_la hc7 hd7)
              have HMZ := Lib.hid (show lvMs D (.int .i64 zd) w7 < lvMs D (.int .i64 (i1 : Nat)) wr from by
                rw [lvMs_f hd7 hne7, HMS.out]; simp [intOf]; omega)
              have HE7 := Lib.hid (HBX.out _ _ hcu7)
              clear hc7 hd7 hcu7
              go_wp2_with fail
              exact ⟨⟨q8, c8, rs ++ [d], zd, er7, a7, false, by simp, rfl, HS7, by simp; omega, .inr ⟨hne7, HE7⟩⟩, HMZ.out⟩
        · have HWX := Lib.hid (pm_want HRO.out.2.2.2.1 hex)
          go_upto_region 20 with (fail)
          go_cut [97] from 87 to 98 (fun v wx => v = .bool false ∧ wx = wr)
          case first =>
            rcases hex with ⟨rfl, i1, rfl, hi1, hf41, _⟩ | ⟨her, _⟩
            · have e0 : (((0 : Nat) : Int) == 0) = true := rfl
              have HI := Lib.hid (is_d HRO.out.2.2.2.1 i1 ⟨#[41]⟩)
              rw [bl_41, hf41] at HI
              clear hf41
              go_wp2_with (go_at_call 37; refine HI.out.mono ?_; rintro e w' ⟨rfl, rfl⟩)
              go_meet
              exact ⟨rfl, rfl⟩
            · have e0 : ((er' : Int) == 0) = false := by simp; omega
              go_wp2_with fail
              go_meet
              exact ⟨rfl, rfl⟩
          case rest =>
          obtain ⟨rfl, hwc⟩ := hcut
          have hwc' := hwc.symm
          clear hwc x2 hrel hex
          subst hwc'
          go_wp2_with fail
          go_at_call 41
          refine HWX.out.mono ?_
          rintro e w6 ⟨z6, er6, a6, rfl, hc6, hd6, hcu6⟩
          have hro6 := HRO.out.next tyd_la hc6 hd6
          obtain ⟨R6, hR6, hcu6⟩ := (CuP.pair (q := fun i => ls (Tk D.ys) (D.ys.length + 1) (Syn.label (Tk D.ys) (D.ys.length + 1) ns) [41] i) HCU5.out.2 (by rw [HRL2.out]; exact hcu6)).nm
          have HR6 := Lib.hid hR6
          have HRO6 := Lib.hid hro6
          have HW := Lib.hid (wantP hd6 hcu6 ⟨#[123]⟩)
          clear hro6 hR6 hcu6 hc6 hd6 HWX
          go_wp2_with fail
          go_at_call 41
          refine HW.out.mono ?_
          rintro e W6 ⟨z7, er7, a7, rfl, hc7, hd7, hcu7⟩
          have hro7 := HRO6.out.next tyd_la hc7 hd7
          have HRR := Lib.hid hro7
          have HB7 := Lib.hid (HB5.out.rowed (arr := (fun v => #[.string ts, .int .u64 (lv : Nat), .slice qp ps.length cp, v, .slice none 0 0, .slice none 0 0])) hbt hro7)
          obtain ⟨R7, hR7, hcu7⟩ := hcu7.nm
          have HR7 := Lib.hid hR7
          have HCU7 := Lib.hid hcu7
          have hs46 := hro7.2.2.1.size
          have HAR := Lib.hid hacc
          clear hro7 hR7 hcu7 hc7 hd7 HW HRO HRO6 hacc
          obtain ⟨RL3, hRL3⟩ : ∃ RL, (R7.on fun _ i => Syn.varsF (Tk D.ys) (D.ys.length + 1) ns (D.ys.length + 1) [] i) = RL := ⟨_, rfl⟩
          have HRL3 := Lib.hid hRL3
          have H0 : VrI RL3 m (fun v => #[.string ts, .int .u64 (lv : Nat), .slice qp ps.length cp, .slice qr rs.length cr, v, .slice none 0 0]) (w.heap.size + 1) D nv bv ns W6 (.int .i64 z7) W6 := by
            refine ⟨none, 0, [], z7, er7, a7, rfl, Lib.hid (FB.row (arr := (fun v => #[.string ts, .int .u64 (lv : Nat), .slice qp ps.length cp, .slice qr rs.length cr, v, .slice none 0 0])) HB7.out), by simp, ?_⟩
            rw [← hRL3]
            rcases HCU7.out.1.cases with ⟨x, j, rfl, rfl, rfl, hj⟩ | ⟨k, t, rfl, h1, h2, h3⟩
            · exact .inl ⟨rfl, D.ys.length + 1, j, rfl, hj, by omega, Nat.zero_le _, Lib.hid rfl⟩
            · exact .inr ⟨by omega, Lib.hid ⟨k, t, rfl, h1, h2, h3⟩⟩
          clear hRL3
          go_wp2_with fail
          go_loopw [1] (VrI RL3 m (fun v => #[.string ts, .int .u64 (lv : Nat), .slice qp ps.length cp, .slice qr rs.length cr, v, .slice none 0 0]) (w.heap.size + 1) D nv bv ns W6) (fun iv wr => lvMs D iv wr)
          case atStart => exact H0
          case round =>
            obtain ⟨qv, cv, vs, z, er', a', rfl, HRO, hacc, hrel⟩ := hrel
            clear H0
            have hsr := HRO.out.2.2.1.size
            by_cases hgo : er' = 0 ∧ ∃ j : Nat, z = (j : Nat) ∧ j ≤ D.ys.length ∧ Syn.is (Tk D.ys) j (bl ⟨#[118, 97, 114]⟩) = true
            · obtain ⟨rfl, i1, rfl, hi1, hvar⟩ := hgo
              obtain ⟨f, j, hzj, hj, hff, hvj, HF⟩ := hrel.elim (fun h => h.2) (fun h => absurd rfl h.1)
              obtain rfl : i1 = j := by omega
              have hil : i1 < D.ys.length := Syn.is_lt (tk_nones D.ys) hvar
              obtain ⟨f, rfl⟩ : ∃ f', f = f' + 1 := ⟨f - 1, by omega⟩
              have HF2 := Lib.hid (show (Syn.decl (Tk D.ys) (D.ys.length + 1) ns (i1 + 1)).on (fun d i => (Syn.want (Tk D.ys) i [59]).on fun _ i => Syn.varsF (Tk D.ys) (D.ys.length + 1) ns f (vs ++ [d]) i) = RL3 from by
                have := HF.out
                rw [Syn.varsF, tx_var, if_pos hvar] at this
                exact this)
              have HI := Lib.hid (is_d HRO.out.2.2.2.1 i1 ⟨#[118, 97, 114]⟩)
              rw [hvar] at HI
              have hwi1 : IntKind.i64.wrap ((i1 : Int) + 1) = ((i1 + 1 : Nat) : Int) := by rw [IntKind.wrap_i64]; omega
              have HMS := Lib.hid (lvMs_0 (iv := .int .i64 (i1 : Nat)) HRO.out.2.2.2.1)
              have HDE := Lib.hid (declP HRO.out.2.2.2.1 HRO.out.2.2.2.2 (CuP.start (D := D) () (i := i1 + 1) hil (P := fun _ => True) trivial a'))
              clear hvar HF hzj hrel
              go_wp2_with fail
              go_at_call 37
              refine HI.out.mono ?_
              rintro e w' ⟨rfl, rfl⟩
              go_wp2_with fail
              go_at_call 42
              refine HDE.out.mono ?_
              rintro e w9 ⟨d, zd, erd, ad, rfl, hdl, hcd, hdd, hcud⟩
              have HROd := Lib.hid (HRO.out.next tyd_de hcd hdd)
              have HCUd := Lib.hid (one_okk (i1 + 1) (Syn.decl (Tk D.ys) (D.ys.length + 1) ns) (fun y => y = d) hcud)
              have hsd := hcd.size
              clear hcd hdd hcud
              go_upto_region 33 with (fail)
              have hk : Chg (fun _ => False) w9 (w9.alloc (.cells #[.string (sb d.name), .int .u64 (d.label : Nat)] 75)) := (Chg.refl _ w9).alloc _
              have HROk := Lib.hid (HROd.out.keep hk)
              obtain ⟨q0, q1, q2, q3⟩ := two_cells (World.alloc_heap_new w9 (.cells #[.string (sb d.name), .int .u64 (d.label : Nat)] 75))
              have hnew : ∀ (j : Nat) (u : Value), [Value.string (sb d.name), .int .u64 (d.label : Nat)][j]? = some u → ((w9.alloc (.cells #[.string (sb d.name), .int .u64 (d.label : Nat)] 75)).alloc (.cells #[.string (sb d.name), .int .u64 (d.label : Nat)] 75)).cell? ((⟨w9.heap.size + 1, 0, none⟩ : Addr).add j) = some u := by
                have := row_new (w9.alloc (.cells #[.string (sb d.name), .int .u64 (d.label : Nat)] 75)) [Value.string (sb d.name), .int .u64 (d.label : Nat)] 75
                simpa only [World.size_alloc] using this
              clear hk
              obtain ⟨g1, ⟨cs, g2, g3⟩, _, _, _⟩ := HROk.out
              have kc := cell_of (j := 4) g1 rfl
              have hlg := heap_lt g1
              go_wp2_with (at_builtin; refine wpList_append_own_at _ rfl _ _ 23 rfl W6.heap.size 75 d0 _ 2 24 Tryz.underlying23 hd0 hdy0 hdy1 hdy2 rfl (by decide) _ _ _ rfl (g2.alloc _) ⟨w9.heap.size + 1, 0, none⟩ 1 1 [Value.string (sb d.name), .int .u64 (d.label : Nat)] rfl rfl hnew (one_de _ _) (by unfold maxLen; omega) (by omega) (by simp; omega) ?_)
              intro v8 w8 ho8 hg8 hxx8 hat8
              obtain ⟨q8, c8, rfl⟩ := own_shape ho8
              obtain ⟨s1, s2⟩ := RoW.add (kf := 4) HROk.out tyd_de (fun _ _ => rfl) (⟨rfl, hdl⟩ : DeR m [Value.string (sb d.name), .int .u64 (d.label : Nat)] d) g3 ho8 hg8
              have kc8 := cell_of (j := 4) s2 rfl
              have kf8 := free_of (j := 4) s2
              have hlg8 := heap_lt s2
              have HS1 := Lib.hid s1
              have HWS := Lib.hid (wantP s1.2.2.2.1 HCUd.out ⟨#[59]⟩)
              clear ho8 hg8 hxx8 hat8 s1 s2 g1 g2 g3 hnew q0 q1 q2 q3 kc hlg
              go_wp2_with fail
              go_at_call 41
              refine HWS.out.mono ?_
              rintro e w7 ⟨z8, er8, a8, rfl, hc8, hd8, hcu8⟩
              have HS8 := Lib.hid (HS1.out.next tyd_de hc8 hd8)
              have HD8 := Lib.hid hd8
              have HCU8 := Lib.hid hcu8
              clear hc8 hd8 hcu8
              go_wp2_with fail
              have hL := HF2.out
              rcases HCU8.out.1.cases with ⟨x, j, hx, h4, h5, h6⟩ | ⟨k, t, hx, h4, h5, h6⟩
              · have h7 := HCU8.out.2 x j hx
                obtain ⟨x1, i2, k1, k2⟩ := Syn.R.on_ok hx
                obtain ⟨u, i3, k3, k4⟩ := Syn.R.on_ok k2
                injection k4 with k4; injection k4 with k4 k5
                have e1 := dec_gt k1
                have e2 := (Syn.want_ok k3).2
                have hL2 : Syn.varsF (Tk D.ys) (D.ys.length + 1) ns f (vs ++ [d]) j = RL3 := by
                  rw [← hL, k1, on_okk]
                  show _ = (Syn.want (Tk D.ys) i2 (bl ⟨#[59]⟩)).on _
                  rw [k3, on_okk, k4, k5, h7]
                subst h4
                refine ⟨⟨q8, c8, vs ++ [d], z8, 0, a8, rfl, HS8, by simp; omega, .inl ⟨rfl, f, j, h5, h6, by omega, by simp; omega, Lib.hid hL2⟩⟩, ?_⟩
                rw [lvMs_0 HD8.out, HMS.out, h5]; simp [intOf]; omega
              · have hE : RL3 = .error (k, t) := by
                  rw [← hL]
                  cases hdc : Syn.decl (Tk D.ys) (D.ys.length + 1) ns (i1 + 1) with
                  | error e => rw [hdc] at hx; injection hx with hx; rw [← hx]; rfl
                  | ok p =>
                    obtain ⟨x1, i2⟩ := p
                    rw [hdc] at hx
                    rw [on_okk] at hx ⊢
                    show (Syn.want (Tk D.ys) i2 (bl ⟨#[59]⟩)).on _ = _
                    cases hw : Syn.want (Tk D.ys) i2 (bl ⟨#[59]⟩) with
                    | error e => rw [hw] at hx; injection hx with hx; rw [← hx]; rfl
                    | ok p => rw [hw] at hx; cases hx
                refine ⟨⟨q8, c8, vs ++ [d], z8, er8, a8, rfl, HS8, by simp; omega, .inr ⟨by omega, Lib.hid ⟨k, t, hE, h4, h5, h6⟩⟩⟩, ?_⟩
                rw [lvMs_f HD8.out (by omega), HMS.out]; simp [intOf]; omega
            · have hcu : CuP D RL3 (fun x => x = vs) z er' a' := by
                rcases hrel with ⟨rfl, f, j, rfl, hj, hff, hvj, HF⟩ | ⟨he, HE⟩
                · obtain ⟨f, rfl⟩ : ∃ f', f = f' + 1 := ⟨f - 1, by omega⟩
                  have hno : ¬ Syn.is (Tk D.ys) j (bl ⟨#[118, 97, 114]⟩) = true := fun e => hgo ⟨rfl, j, rfl, hj, e⟩
                  have := HF.out
                  rw [Syn.varsF, tx_var, if_neg hno] at this
                  rw [← this]
                  exact ⟨⟨rfl, rfl, hj⟩, fun x j e => by injection e with e; injection e with e _; exact e.symm⟩
                · obtain ⟨k, t, rfl, h1, h2, h3⟩ := HE.out
                  exact ⟨⟨h1, h2, h3⟩, fun x j e => by cases e⟩
              have hi6 : Calls Tryz.prog 37 #[PB D, .int .i64 z, .string ⟨#[118, 97, 114]⟩] wr fun e w' => e = .returned (.bool false) ∧ wr = w' := by
                rcases hrel with ⟨rfl, f, j, rfl, hj, hff, hvj, HF⟩ | ⟨he, HE⟩
                · have hno : Syn.is (Tk D.ys) j (bl ⟨#[118, 97, 114]⟩) = false := by
                    cases hq : Syn.is (Tk D.ys) j (bl ⟨#[118, 97, 114]⟩) with
                    | false => rfl
                    | true => exact (hgo ⟨rfl, j, rfl, hj, hq⟩).elim
                  have := is_d HRO.out.2.2.2.1 j ⟨#[118, 97, 114]⟩
                  rwa [hno] at this
                · exact is_f HRO.out.2.2.2.1 he z _
              have HI6 := Lib.hid hi6
              obtain ⟨R8, hR8, hcu8⟩ := (CuP.pair (q := fun i => Syn.varsF (Tk D.ys) (D.ys.length + 1) ns (D.ys.length + 1) [] i) HCU7.out.2 (by rw [HRL3.out]; exact hcu)).nm
              have HR8 := Lib.hid hR8
              have HCU8 := Lib.hid hcu8
              have HB8 := Lib.hid (HB7.out.rowed (arr := (fun v => #[.string ts, .int .u64 (lv : Nat), .slice qp ps.length cp, .slice qr rs.length cr, v, .slice none 0 0])) hbt HRO.out)
              obtain ⟨_, _, _, _, _, _, x5, hz5, hlt5, _⟩ := HRO.out.2.2.2.1.raw
              have z55 := hz5 5
              clear hi6 hcu hrel hgo hR8 hcu8 hz5
              go_wp2_with fail
              go_at_call 37
              refine HI6.out.mono ?_
              rintro e w' ⟨rfl, rfl⟩
              have hd9 : DS D nv (.slice none 0 0) er' a' (wr.setCell ⟨D.bt, 5, none⟩ (.slice none 0 0)) := HB8.out.ds.turn ((Chg.refl (fun k => k = D.bt) wr).setCell (p := ⟨D.bt, 5, none⟩) (.inl rfl) (.slice none 0 0)) (heap_set HB8.out.ds.st 5 _)
              have hb9 := HB8.out.turn hbt ((Chg.refl (fun k => k = D.bt) wr).setCell (p := ⟨D.bt, 5, none⟩) (.inl rfl) (.slice none 0 0)) hd9
              have HRV := Lib.hid HRO.out
              obtain ⟨W7, hW7⟩ : ∃ W7, wr.setCell ⟨D.bt, 5, none⟩ (.slice none 0 0) = W7 := ⟨_, rfl⟩
              rw [hW7] at hd9 hb9
              have hC7 : Chg (fun k => k = D.bt) wr W7 := by rw [← hW7]; exact (Chg.refl (fun k => k = D.bt) wr).setCell (p := ⟨D.bt, 5, none⟩) (.inl rfl) (.slice none 0 0)
              have hs7 := hC7.size
              have HC7 := Lib.hid hC7
              have HB9 := Lib.hid hb9
              have hm7 := HM.out.chg hb9.chg (fun k e => by subst e; exact hbm)
              have HM7 := Lib.hid hm7
              have hbt7 : D.bt < W7.heap.size := heap_lt hd9.st
              have hf7 := hd9.few
              obtain ⟨RL4, hRL4⟩ : ∃ RL, (R8.on fun _ i => Syn.stmtsF (Tk D.ys) (Syn.stmtD (Tk D.ys) (D.ys.length + 1) 12) (Syn.tx "return") (D.ys.length + 1) [] i) = RL := ⟨_, rfl⟩
              have HRL4 := Lib.hid hRL4
              have H0 : SmI RL4 m D nv W7 (.int .i64 z) W7 := by
                refine ⟨none, 0, 0, [], z, er', a', rfl, Lib.hid (World.ownsRow_nil _ _ _ _), by omega, Lib.hid (Chg.refl _ _), Lib.hid hd9, ?_⟩
                rw [← hRL4]
                rcases HCU8.out.1.cases with ⟨x, j, rfl, rfl, rfl, hj⟩ | ⟨k, t, rfl, h1, h2, h3⟩
                · exact .inl ⟨rfl, D.ys.length + 1, [], j, rfl, hj, by omega, Nat.zero_le _, Lib.hid ⟨rfl, m, Enc.nil, hm7, Mem.More.refl _ _, hbm, fun k hk => by cases hk⟩, Lib.hid rfl⟩
                · exact .inr ⟨by omega, Lib.hid ⟨k, t, rfl, h1, h2, h3⟩⟩
              clear hRL4 hd9 hb9 hC7 hm7 HRO
              go_wp2_with fail
              go_loopw [1] (SmI RL4 m D nv W7) (fun iv wr => lvMs D iv wr)
              case atStart => exact H0
              case round =>
                obtain ⟨q4, c4, n4, cs4, z9, er9, a9, rfl, HO, hnN, HC, HD, hrel⟩ := hrel
                clear H0
                have hsr9 := HC.out.size
                obtain ⟨qx, _, _, x2, _⟩ := HD.out.raw
                by_cases hgo : er9 = 0 ∧ ∃ j : Nat, z9 = (j : Nat) ∧ Syn.is (Tk D.ys) j (bl ⟨#[114, 101, 116, 117, 114, 110]⟩) = false
                · obtain ⟨rfl, i1, rfl, hret⟩ := hgo
                  obtain ⟨f, l, j, hzj, hj, hff, hnj, HG, HF⟩ := hrel.elim (fun h => h.2) (fun h => absurd rfl h.1)
                  obtain rfl : i1 = j := by omega
                  have e0 : (((0 : Nat) : Int) == 0) = true := rfl
                  obtain ⟨f, rfl⟩ : ∃ f', f = f' + 1 := ⟨f - 1, by omega⟩
                  have HL := Lib.hid (show ((Syn.stmtD (Tk D.ys) (D.ys.length + 1) 12 i1).on fun x j => Syn.stmtsF (Tk D.ys) (Syn.stmtD (Tk D.ys) (D.ys.length + 1) 12) (Syn.tx "return") f (l ++ x) j) = RL4 from by
                    have := HF.out
                    rw [Syn.stmtsF, tx_return, if_neg (by rw [hret]; simp)] at this
                    exact this)
                  have HI := Lib.hid (is_d HD.out i1 ⟨#[114, 101, 116, 117, 114, 110]⟩)
                  rw [hret] at HI
                  have HMS := Lib.hid (lvMs_0 (iv := .int .i64 (i1 : Nat)) HD.out)
                  have HX := Lib.hid (show Calls Tryz.prog 68 #[PB D, .int .i64 (i1 : Nat), .int .i64 0] wr _ from stmt_all (m := m) (nv := nv) hbt7 12 (Nat.le_refl _) wr l i1 q4 c4 n4 cs4 a9 hj hnj HO.out HG.out HD.out hsr9)
                  clear hret hrel hzj HF
                  go_wp2_with (go_at_call 37; refine HI.out.mono ?_; rintro e w' ⟨rfl, rfl⟩)
                  go_at_call 68
                  refine HX.out.mono ?_
                  rintro e w1 ⟨q1, c1, n1, cs1, zz, er1, aa, rfl, ho1, hn1, hc1, hd1, hm1⟩
                  have HO1 := Lib.hid ho1
                  have HC1 := Lib.hid (HC.out.then hc1)
                  have HD1 := Lib.hid hd1
                  have HM1 := Lib.hid hm1
                  clear ho1 hc1 hd1 hm1
                  go_wp2_with fail
                  have hh := HL.out
                  have hm1 := HM1.out
                  cases hpx : Syn.stmtD (Tk D.ys) (D.ys.length + 1) 12 i1 with
                  | error qq =>
                    rw [hpx] at hh hm1
                    obtain ⟨k, t⟩ := qq
                    obtain ⟨rfl, her, h2⟩ := hm1
                    refine ⟨⟨q1, c1, n1, cs1, zz, er1, aa, rfl, HO1, hn1, HC1, HD1, .inr ⟨her, Lib.hid ⟨er1, t, hh.symm, rfl, her, h2⟩⟩⟩, ?_⟩
                    rw [lvMs_f HD1.out her, HMS.out]
                    simp [intOf]; omega
                  | ok qq =>
                    obtain ⟨x, j⟩ := qq
                    have hcn := stmtD_cnt 12 _ _ _ hpx
                    have hgd := (Syn.stmt_good 12 _ _ _ hpx).2.2
                    have hft := Syn.stmt_fit (tk_nones D.ys) (F := D.ys.length + 1) (by omega) 12 i1 hj
                    rw [hpx] at hh hm1 hft
                    have hj2 : j ≤ D.ys.length := hft
                    obtain ⟨rfl, rfl, hg1⟩ := hm1
                    have hl1 : n1 = (l ++ x).length := hg1.1
                    have hl0 : n4 = l.length := HG.out.1
                    rw [List.length_append] at hl1
                    refine ⟨⟨q1, c1, n1, cs1, _, 0, aa, rfl, HO1, hn1, HC1, HD1, .inl ⟨rfl, f, l ++ x, j, rfl, hj2, by omega, by omega, Lib.hid hg1, Lib.hid hh⟩⟩, ?_⟩
                    rw [lvMs_0 HD1.out, HMS.out]
                    simp [intOf]; omega
                · have hex : ∃ l : List Syn.St, (er9 = 0 → BdG D m W7 q4 n4 c4 cs4 l wr) ∧ ((er9 = 0 ∧ ∃ i : Nat, z9 = (i : Nat) ∧ i < D.ys.length ∧ Syn.is (Tk D.ys) i (bl ⟨#[114, 101, 116, 117, 114, 110]⟩) = true ∧ RL4 = .ok (l, i + 1)) ∨ (er9 ≠ 0 ∧ ∃ k t, RL4 = .error (k, t) ∧ er9 = k ∧ k ≠ 0 ∧ a9 = (tk D.ys D.len t).a)) := by
                    rcases hrel with ⟨rfl, f, l, j, rfl, hj, hff, hnj, HG, HF⟩ | ⟨he, HE⟩
                    · obtain ⟨f, rfl⟩ : ∃ f', f = f' + 1 := ⟨f - 1, by omega⟩
                      have hret : Syn.is (Tk D.ys) j (bl ⟨#[114, 101, 116, 117, 114, 110]⟩) = true := by
                        cases hq : Syn.is (Tk D.ys) j (bl ⟨#[114, 101, 116, 117, 114, 110]⟩) with
                        | true => rfl
                        | false => exact (hgo ⟨rfl, j, rfl, hq⟩).elim
                      refine ⟨l, fun _ => HG.out, .inl ⟨rfl, j, rfl, Syn.is_lt (tk_nones D.ys) hret, hret, ?_⟩⟩
                      have := HF.out
                      rw [Syn.stmtsF, tx_return, if_pos hret] at this
                      exact this.symm
                    · exact ⟨[], fun e => absurd e he, .inr ⟨he, HE.out⟩⟩
                  clear hrel hgo
                  obtain ⟨bs, hbd, hex⟩ := hex
                  have HBD := Lib.hid hbd
                  have HWX := Lib.hid (pm_wantS ⟨#[114, 101, 116, 117, 114, 110]⟩ HD.out hex)
                  clear hbd
                  go_upto_region 36 with (fail)
                  go_cut [167] from 157 to 168 (fun v wx => v = .bool false ∧ wx = wr)
                  case first =>
                    rcases hex with ⟨rfl, i1, rfl, hi1, hret, _⟩ | ⟨her, _⟩
                    · have e0 : (((0 : Nat) : Int) == 0) = true := rfl
                      have HI := Lib.hid (is_d HD.out i1 ⟨#[114, 101, 116, 117, 114, 110]⟩)
                      rw [hret] at HI
                      clear hret
                      go_wp2_with (go_at_call 37; refine HI.out.mono ?_; rintro e w' ⟨rfl, rfl⟩)
                      go_meet
                      exact ⟨rfl, rfl⟩
                    · have e0 : ((er9 : Int) == 0) = false := by simp; omega
                      go_wp2_with fail
                      go_meet
                      exact ⟨rfl, rfl⟩
                  case rest =>
                  obtain ⟨rfl, hwc⟩ := hcut
                  have hwc' := hwc.symm
                  clear hwc x2
                  subst hwc'
                  have HML := Lib.hid (show ∃ mL : Mem, Has wr mL ∧ mL D.bt = none ∧ m.More W7 mL ∧ (∀ k, Value.ownBlock (.slice q4 n4 c4) = some k → mL k = none) ∧ (er9 = 0 → n4 = bs.length ∧ Enc (StM mL) cs4 bs) from by
                    by_cases he : er9 = 0
                    · obtain ⟨h1, mL, h2, h3, h4, h5, h6⟩ := HBD.out he
                      exact ⟨mL, h3, h5, h4, h6, fun _ => ⟨h1, h2⟩⟩
                    · refine ⟨m, HM7.out.chg HC.out (fun k e => ?_), hbm, Mem.More.refl _ _, fun k hk => HM7.out.lt (HO.out.lt k hk).1, fun e => absurd e he⟩
                      rcases e with e | e
                      · subst e; exact hbm
                      · exact HM7.out.lt e)
                  have HER := Lib.hid (show ∀ x j, RL4 = .ok (x, j) → er9 = 0 from fun x j e => by
                    rcases hex with ⟨h, _⟩ | ⟨_, k, t, h, _⟩
                    · exact h
                    · rw [h] at e; cases e)
                  clear hex
                  go_wp2_with fail
                  go_at_call 41
                  refine HWX.out.mono ?_
                  rintro e w10 ⟨z10, er10, a10, rfl, hc10, hd10, hcu10⟩
                  obtain ⟨mL, m1, m2, m3, m4, m5⟩ := HML.out
                  have HMM := Lib.hid (And.intro m3 (And.intro m4 m5))
                  obtain ⟨R9, hR9, hcu10⟩ := (CuP.pair (q := fun i => Syn.stmtsF (Tk D.ys) (Syn.stmtD (Tk D.ys) (D.ys.length + 1) 12) (Syn.tx "return") (D.ys.length + 1) [] i) HCU8.out.2 (by rw [HRL4.out]; exact hcu10)).nm
                  have hml10 := m1.chg hc10 (fun k e => by subst e; exact m2)
                  have hc0 : Chg (fun _ => False) w10 (w10.alloc (.cells #[.int .i64 9, .string ⟨#[]⟩, .slice none 0 0, .slice none 0 0] 47)) := (Chg.refl _ w10).alloc _
                  have hml11 := hml10.chg hc0 (fun _ e => e.elim)
                  have HML11 := Lib.hid hml11
                  have HML10 := Lib.hid hml10
                  have HLL := Lib.hid (listP (hd10.chg hc0 (fun e => e) (fun e => e)) hml11 m2 hcu10 ⟨#[59]⟩)
                  have HC10 := Lib.hid hc10
                  have HD10 := Lib.hid hd10
                  have HR9 := Lib.hid hR9
                  have hs10 := hc10.size
                  clear hc10 hd10 hcu10 m1 m3 m4 m5 hR9 hml10 hc0 hml11 HWX HML
                  go_wp2_with fail
                  go_at_call 69
                  refine HLL.out.mono ?_
                  rintro e w11 ⟨q5, c5, n5, cs5, z11, er11, a11, rfl, ho11, hc11, hd11, hcu11⟩
                  have hs11 := hc11.size
                  rw [World.size_alloc] at hs11
                  have hl11 := hc11.heap (World.alloc_heap_new w10 (.cells #[.int .i64 9, .string ⟨#[]⟩, .slice none 0 0, .slice none 0 0] 47)) (by omega)
                  obtain ⟨R10, hR10, hcu11⟩ := hcu11.nm
                  have HO11 := Lib.hid ho11
                  have HC11 := Lib.hid hc11
                  have HD11 := Lib.hid hd11
                  have HCU11 := Lib.hid hcu11
                  have HR10 := Lib.hid hR10
                  have HL11 := Lib.hid hl11
                  have k11 := cell_of (j := 3) hl11 rfl
                  have kf11 := free_of (j := 3) hl11
                  have klt11 := heap_lt hl11
                  clear ho11 hc11 hd11 hcu11 hR10 hl11
                  go_upto_region 42 with (fail)
                  have hbx11 := HB9.out.chg
                  have hcs12 := (Chg.refl (fun k => k = w10.heap.size) w11).setCell (p := ⟨w10.heap.size, 3, none⟩) (.inl rfl) (.slice q5 n5 c5)
                  have hl12 := heap_set HL11.out 3 (.slice q5 n5 c5)
                  obtain ⟨W12, hW12⟩ : ∃ W12, w11.setCell ⟨w10.heap.size, 3, none⟩ (.slice q5 n5 c5) = W12 := ⟨_, rfl⟩
                  rw [hW12] at hcs12 hl12 ⊢
                  have hs12 := hcs12.size
                  have hsz7 := hbx11.size
                  have hs711 : W7.heap.size ≤ w10.heap.size := by omega
                  -- the function's block
                  have hc711 : Chg (fun k => k = D.bt ∨ W7.heap.size ≤ k) W7 w11 := ((HC.out.then (HC10.out.mono (fun k e => .inl (.inl e)))).alloc (.cells #[.int .i64 9, .string ⟨#[]⟩, .slice none 0 0, .slice none 0 0] 47)).then (HC11.out.mono (fun k e => .inl (.inl e)))
                  have hg9 := heap_lt HB9.out.blk
                  have hg11 := hc711.heap HB9.out.blk (by omega)
                  have hg12 := hcs12.heap hg11 (by omega)
                  have hr12 := hcs12.heap (hc711.heap HB9.out.res (by omega)) (by omega)
                  have hd12 : DS D nv (.slice q4 n4 c4) er11 a11 W12 := HD11.out.chg2 hcs12 (by omega) (fun hn => by
                    have h1 := HD.out.bwlt hn
                    have h2 := HC10.out.size
                    omega)
                  have hro10 := own_chg HO.out HC10.out (fun k hk e => by subst e; exact own_not HD.out HO.out (by decide) hk)
                  have hro11 := own_chg (hro10.alloc (.cells #[.int .i64 9, .string ⟨#[]⟩, .slice none 0 0, .slice none 0 0] 47)) HC11.out (fun k hk e => by subst e; exact own_not HD.out HO.out (by decide) hk)
                  have hro12 := own_chg hro11 hcs12 (fun k hk e => by have := (HO.out.lt k hk).2; omega)
                  obtain ⟨_, _, _, _, _, _, b5, _, hbl12, _⟩ := hd12.raw
                  have kg := cell_of (j := 5) hg12 rfl
                  have kgf := free_of (j := 5) hg12
                  have kgl := heap_lt hg12
                  have e90 := cell_of (j := 0) hl12 rfl
                  have e91 := cell_of (j := 1) hl12 rfl
                  have e92 := cell_of (j := 2) hl12 rfl
                  have e93 := cell_of (j := 3) hl12 rfl
                  have HG12 := Lib.hid hg12
                  have HRS12 := Lib.hid hr12
                  have HL12 := Lib.hid hl12
                  have HD12 := Lib.hid hd12
                  have HRO12 := Lib.hid hro12
                  have HC12 := Lib.hid hcs12
                  have HC711 := Lib.hid hc711
                  clear hW12 hcs12 hl12 hg11 hg12 hr12 hd12 hro10 hro11 hro12 hc711 k11 kf11 klt11 hbx11
                  have HAPP := Lib.hid (fun w9 (o : Obj) (hg : (W12.drew.alloc o).grownBy w9 (Value.ownBlock (.slice q4 n4 c4))) =>
                    ((Chg.refl (fun k => Value.ownBlock (.slice q4 n4 c4) = some k) W12).drew.alloc o).then (grown_chg hg (fun k e => .inl e)))
                  go_cut [5] from 183 to 191 (fun v wx => v = .int .i64 0 ∧ ∃ q9 c9 w9, wx = w9.setCell ⟨w.heap.size + 1, 5, none⟩ (.slice q9 (n4 + 1) c9) ∧ Hid (w9.ownsRow W7.heap.size 47 4 (.slice q9 (n4 + 1) c9) (n4 + 1) (cs4 ++ [.int .i64 9, .string ⟨#[]⟩, .slice none 0 0, .slice q5 n5 c5]) ∧ Chg (fun k => Value.ownBlock (.slice q4 n4 c4) = some k) W12 w9 ∧ ∀ k, Value.ownBlock (.slice q9 (n4 + 1) c9) = some k → Value.ownBlock (.slice q4 n4 c4) = some k ∨ W12.heap.size ≤ k))
                  case first =>
                    go_region_law
                      (refine step_append_mine rfl (.tmp 186) (.tmp 188) 39 rfl W7.heap.size 47 j0 (.agg #[.int .i64 0, .string ⟨#[]⟩, .slice none 0 0, .slice none 0 0]) 4 72 Tryz.underlying39 hj0 hy0 hy1 hy2 rfl (by decide) (.slice q4 n4 c4) n4 cs4 (by simp [Act.eval]) (World.ownsRow.alloc (w := W12.drew) HRO12.out _) ⟨_, 0, none⟩ 1 1 [.int .i64 9, .string ⟨#[]⟩, .slice none 0 0, .slice q5 n5 c5] (by simp [Act.eval]) rfl (row_new _ [.int .i64 9, .string ⟨#[]⟩, .slice none 0 0, .slice q5 n5 c5] 47) (st_two 9 ⟨#[]⟩ q5 n5 c5 none 0 0) (by unfold maxLen; omega) (by omega) (by simp; omega) ?_; intro v9 w9 hown9 hgrow9 hat9; obtain ⟨q9, c9, rfl⟩ := own_shape hown9; have g1 := (HAPP.out _ _ hgrow9).heap HG12.out (fun e => blk_own HG12.out HRO12.out (by decide) e); have k4 := cell_of (j := 5) g1 rfl; have k6 := free_of (j := 5) g1)
                    all_goals
                      go_wp2_with fail
                      go_meet
                      refine ⟨rfl, q9, c9, w9, rfl, Lib.hid ⟨hown9, HAPP.out _ _ hgrow9, fun k hk => ?_⟩⟩
                      rcases hat9 with e | e
                      · exact .inl (by rw [← e]; exact hk)
                      · rw [e] at hk
                        injection hk with hk
                        simp at hk
                        exact .inr (by omega)
                  case rest =>
                  obtain ⟨rfl, q9, c9, w9, hwc, HEND⟩ := hcut
                  have hg13 := heap_set (HEND.out.2.1.heap HG12.out (fun e => blk_own HG12.out HRO12.out (by decide) e)) 5 (.slice q9 (n4 + 1) c9)
                  have hcs13 := (Chg.refl (fun k => k = w.heap.size + 1) w9).setCell (p := ⟨w.heap.size + 1, 5, none⟩) (.inl rfl) (.slice q9 (n4 + 1) c9)
                  rw [← hwc] at hg13 hcs13
                  have hr9 := HEND.out.2.1.heap HRS12.out (fun e => blk_own HRS12.out HRO12.out (by decide) e)
                  have hr13 := hcs13.heap hr9 (by omega)
                  have hd9' : DS D nv (.slice q4 n4 c4) er11 a11 w9 := HD12.out.chg2 HEND.out.2.1 (fun e => own_not HD12.out HRO12.out (by decide) e) (fun hn e => own_notW HD12.out HRO12.out (by decide) hn e)
                  have hs9 := HEND.out.2.1.size
                  have hs13 := hcs13.size
                  have hd13 : DS D nv (.slice q4 n4 c4) er11 a11 wc := hd9'.chg2 hcs13 (by have := heap_lt HB9.out.blk; have h0 := HB9.out.chg.size; omega) (fun hn => by have := HD.out.bwlt hn; have h2 := HC10.out.size; intro e; have h3 := HB9.out.chg.size; obtain ⟨_, arr2, e1, _⟩ := hd9'.tok.resolve_left hn; have e2 := HEND.out.2.1.heap HG12.out (fun e => blk_own HG12.out HRO12.out (by decide) e); exact blk_ne e2 e1 (by decide) e.symm)
                  obtain ⟨r0, r1, r2, r3, r4, r5⟩ := six_cells hg13
                  have HG13 := Lib.hid hg13
                  have HR13 := Lib.hid hr13
                  have HC13 := Lib.hid hcs13
                  have HWW := Lib.hid (wantP (hd13.chg ((Chg.refl (fun _ => False) wc).drew) (fun e => e) (fun e => e)) HCU11.out ⟨#[125]⟩)
                  have hbt13 := heap_lt hd13.st
                  have hbtg : ¬ w.heap.size + 1 = D.bt := by omega
                  have hbtr : ¬ w.heap.size = D.bt := by omega
                  clear hwc hg13 hcs13 hr9 hr13 hd9' hd13 b5 kg kgf e90 e91 e92 e93
                  have HFIN := Lib.hid (show ∀ (w14 : World) (z14 : Int) (er14 a14 : Nat) (_ : Chg (fun k => k = D.bt) wc.drew w14) (_ : DS D nv (.slice q4 n4 c4) er14 a14 w14) (_ : Cu D (R10.on fun x i => (Syn.want (Tk D.ys) i (bl ⟨#[125]⟩)).on fun _ j => .ok (x, j)) z14 er14 a14),
                      FuR D nv ns m (Syn.func (Tk D.ys) (D.ys.length + 1) ns i) w (.returned (.tuple #[.agg #[.string ts, .int .u64 (lv : Nat), .slice qp ps.length cp, .slice qr rs.length cr, .slice qv vs.length cv, .slice q9 (n4 + 1) c9], .int .i64 z14]))
                        ((((((w14.setCell ⟨w.heap.size, 0, none⟩ (.string ts)).setCell ⟨w.heap.size, 1, none⟩ (.int .u64 (lv : Nat))).setCell ⟨w.heap.size, 2, none⟩ (.slice qp ps.length cp)).setCell ⟨w.heap.size, 3, none⟩ (.slice qr rs.length cr)).setCell ⟨w.heap.size, 4, none⟩ (.slice qv vs.length cv)).setCell ⟨w.heap.size, 5, none⟩ (.slice q9 (n4 + 1) c9)) from by
                    intro w14 z14 er14 a14 hc14 hd14 hcu14
                    have hcF := chg_six (Chg.refl (fun k => k = w.heap.size) w14) (.inl rfl) (.string ts) (.int .u64 (lv : Nat)) (.slice qp ps.length cp) (.slice qr rs.length cr) (.slice qv vs.length cv) (.slice q9 (n4 + 1) c9)
                    have p2 := hc14.heap (show wc.drew.heap[w.heap.size]? = _ from HR13.out) hbtr
                    have p1 := hc14.heap (show wc.drew.heap[w.heap.size + 1]? = _ from HG13.out) hbtg
                    obtain ⟨W15, hW15⟩ : ∃ W15, ((((((w14.setCell ⟨w.heap.size, 0, none⟩ (.string ts)).setCell ⟨w.heap.size, 1, none⟩ (.int .u64 (lv : Nat))).setCell ⟨w.heap.size, 2, none⟩ (.slice qp ps.length cp)).setCell ⟨w.heap.size, 3, none⟩ (.slice qr rs.length cr)).setCell ⟨w.heap.size, 4, none⟩ (.slice qv vs.length cv)).setCell ⟨w.heap.size, 5, none⟩ (.slice q9 (n4 + 1) c9)) = W15 := ⟨_, rfl⟩
                    rw [hW15] at hcF ⊢
                    clear hW15
                    have hsw7 := HB9.out.chg.size
                    have hg7 := heap_lt HB9.out.blk
                    have h10 := HC10.out.size
                    have hHC := HC.out.size
                    have hs710 : W7.heap.size ≤ w10.heap.size := by omega
                    have hs14 := hc14.size
                    have hsz13 : wc.drew.heap.size = wc.heap.size := rfl
                    have hs15 := hcF.size
                    -- from w11 on
                    have hH : Chg (fun k => k = D.bt ∨ k = w.heap.size + 1 ∨ k = w.heap.size ∨ k = w10.heap.size ∨ Value.ownBlock (.slice q4 n4 c4) = some k) w11 W15 :=
                      ((((HC12.out.mono (fun k e => .inl (.inr (.inr (.inr (.inl e)))))).then (HEND.out.2.1.mono (fun k e => .inl (.inr (.inr (.inr (.inr e))))))).then (HC13.out.mono (fun k e => .inl (.inr (.inl e))))).drew.then (hc14.mono (fun k e => .inl (.inl e)))).then (hcF.mono (fun k e => .inl (.inr (.inr (.inl e)))))
                    have hG : Chg (fun k => k = D.bt ∨ k = w.heap.size + 1 ∨ k = w.heap.size) W7 W15 := (HC711.out.mono (S' := fun k => k = D.bt ∨ k = w.heap.size + 1 ∨ k = w.heap.size) (fun k e => by
                      rcases e with e | e
                      · exact .inl (.inl e)
                      · exact .inr e)).trans hH (fun k e => by
                      rcases e with e | e | e | e | e
                      · exact .inl (.inl e)
                      · exact .inl (.inr (.inl e))
                      · exact .inl (.inr (.inr e))
                      · exact .inr (by omega)
                      · exact .inr (HO.out.lt k e).1)
                    have hA : Chg (fun k => k = D.bt) w W15 := HB9.out.chg.trans hG (fun k e => by
                      rcases e with e | e | e
                      · exact .inl e
                      · exact .inr (by omega)
                      · exact .inr (by omega))
                    have hdF : DS D nv (.slice q4 n4 c4) er14 a14 W15 := hd14.chg2 hcF (by omega) (fun hn e => by
                      obtain ⟨_, arr2, e1, _⟩ := hd14.tok.resolve_left hn
                      exact blk_ne p2 e1 (by decide) e.symm)
                    have hnr : NR W15 nv ns := ⟨row_keep HB9.out.nr.1 HB9.out.ds HB9.out.blk HB9.out.res hG (by decide) (by decide), HB9.out.nr.2⟩
                    have hfin : Syn.func (Tk D.ys) (D.ys.length + 1) ns i = (R10.on fun x i => (Syn.want (Tk D.ys) i (bl ⟨#[125]⟩)).on fun _ j => .ok (x, j)).on fun x j => (.ok (⟨x.1.1.1.1.1.1.2, x.1.1.1.1.1.2, x.1.1.1.1.2, x.1.1.1.2, x.1.1.2, x.1.2 ++ [⟨9, [], [], x.2⟩]⟩, j) : Syn.R Syn.Fn) := by
                      rw [func_chain, HR10.out, HR9.out, HR8.out, HR7.out, HR6.out, HR5.out, HR4.out, HR3.out]
                      rfl
                    refine ⟨ts, lv, qp, ps.length, cp, qr, rs.length, cr, qv, vs.length, cv, q9, n4 + 1, c9, z14, er14, a14, _, rfl, hA, hdF, hnr, ?_, ?_⟩
                    · rw [hfin]
                      rcases hcu14.cases with ⟨x, j, hx, h4, h5, h6⟩ | ⟨k, t, hx, h4, h5, h6⟩
                      · rw [hx]; exact ⟨h4, h5, h6⟩
                      · rw [hx]; exact ⟨h4, h5, h6⟩
                    · intro f j hf
                      rw [hfin] at hf
                      obtain ⟨x, j1, hx, hf⟩ := Syn.R.on_ok hf
                      injection hf with hf; injection hf with hf _
                      obtain ⟨xx, ii, kk1, kk2⟩ := Syn.R.on_ok hx
                      obtain ⟨uu, ii2, kk3, kk4⟩ := Syn.R.on_ok kk2
                      injection kk4 with kk4; injection kk4 with kk4 _
                      have hP := HCU11.out.2 xx ii kk1
                      rw [kk4] at hP
                      obtain ⟨⟨⟨⟨⟨⟨⟨_, q1⟩, q2⟩, q3⟩, q4'⟩, q5'⟩, q6⟩, q7⟩ := hP
                      have her : er9 = 0 := by
                        obtain ⟨x1, i1, k1, k2⟩ := Syn.R.on_ok hx
                        rw [HR10.out] at k1
                        obtain ⟨x2, i2, k3, k4⟩ := Syn.R.on_ok k1
                        rw [HR9.out] at k3
                        obtain ⟨x3, i3, k5, k6⟩ := Syn.R.on_ok k3
                        obtain ⟨x4, i4, k7, k8⟩ := Syn.R.on_ok k6
                        refine HER.out x4 i4 ?_
                        rw [← HRL4.out, k5]
                        exact k7
                      obtain ⟨hmm1, hmm2, hmm3⟩ := HMM.out
                      obtain ⟨hn4, henc⟩ := hmm3 her
                      obtain ⟨e1, ma, x1, x2, x3, x4, x5⟩ := q7
                      have hsa : (w10.alloc (.cells #[.int .i64 9, .string ⟨#[]⟩, .slice none 0 0, .slice none 0 0] 47)).heap.size = w10.heap.size + 1 := World.size_alloc _ _
                      have hmL : ∀ k, w.heap.size ≤ k → k < W7.heap.size → mL k = none := fun k h1 h2 => hmm1.new k (HM.out.lt h1) h2
                      have hma : ∀ k, mL k = none → k < w10.heap.size + 1 → ma k = none := fun k h1 h2 => x3.new k h1 (by omega)
                      have hmo : ∀ k, w.heap.size ≤ k → k < W7.heap.size → ma k = none := fun k h1 h2 => hma k (hmL k h1 h2) (by omega)
                      have hmq : ∀ k, Value.ownBlock (.slice q4 n4 c4) = some k → ma k = none := fun k hk => hma k (hmm2 k hk) (by have := (HO.out.lt k hk).2; omega)
                      have hHas : Has W15 ma := x2.chg hH (fun k e => by
                        rcases e with e | e | e | e | e
                        · rw [e]; exact x4
                        · exact hmo k (by omega) (by omega)
                        · exact hmo k (by omega) (by omega)
                        · exact hma k (HML10.out.lt (by omega)) (by omega)
                        · exact hmq k e)
                      obtain ⟨csP, rP, eP⟩ := HRP.out.2.1
                      obtain ⟨csR, rR, eR⟩ := HRR.out.2.1
                      obtain ⟨csV, rV, eV⟩ := HRV.out.2.1
                      have hto : ∀ {X Y : World}, Chg (fun k => k = D.bt ∨ k = w.heap.size + 1) X Y → Chg (fun k => k = D.bt ∨ k = w.heap.size + 1 ∨ k = w.heap.size) X Y := fun h => h.mono (fun k e => by
                        rcases e with e | e
                        · exact .inl (.inl e)
                        · exact .inl (.inr (.inl e)))
                      have hV7 : Chg (fun k => k = D.bt ∨ k = w.heap.size + 1 ∨ k = w.heap.size) _ W15 := (HC7.out.mono (fun k e => .inl (.inl e))).then hG
                      have hR7 : Chg (fun k => k = D.bt ∨ k = w.heap.size + 1 ∨ k = w.heap.size) W6 W15 := (hto HRV.out.2.2.1).then hV7
                      have hP7 : Chg (fun k => k = D.bt ∨ k = w.heap.size + 1 ∨ k = w.heap.size) W4 W15 := (hto HRR.out.2.2.1).then hR7
                      have rP' := row_keep rP HRP.out.2.2.2.1 HRP.out.1 HB5.out.res hP7 (by decide) (by decide)
                      have rR' := row_keep rR HRR.out.2.2.2.1 HRR.out.1 HB7.out.res hR7 (by decide) (by decide)
                      have rV' := row_keep rV HRV.out.2.2.2.1 HRV.out.1 HB8.out.res hV7 (by decide) (by decide)
                      have hs2 := HB3.out.chg.size
                      have hg2 := heap_lt HB3.out.blk
                      have hg11 := HC711.out.heap HB9.out.blk (by omega)
                      have hr11 := HC711.out.heap HB9.out.res (by omega)
                      have hro10 := own_chg HO.out HC10.out (fun k hk e => by subst e; exact own_not HD.out HO.out (by decide) hk)
                      have hro11 := own_chg (hro10.alloc (.cells #[.int .i64 9, .string ⟨#[]⟩, .slice none 0 0, .slice none 0 0] 47)) HC11.out (fun k hk e => by subst e; exact own_not HD.out HO.out (by decide) hk)
                      have rE := own_chg HO11.out hH (fun k hk e => by
                        rcases e with e | e | e | e | e
                        · subst e; exact own_not HD11.out HO11.out (by decide) hk
                        · subst e; exact blk_own hg11 HO11.out (by decide) hk
                        · subst e; exact blk_own hr11 HO11.out (by decide) hk
                        · subst e; exact blk_own HL11.out HO11.out (by decide) hk
                        · exact own_own HO11.out hro11 (by decide) k hk e)
                      have hd9' : DS D nv (.slice q4 n4 c4) er11 a11 w9 := HD12.out.chg2 HEND.out.2.1 (fun e => own_not HD12.out HRO12.out (by decide) e) (fun hn e => own_notW HD12.out HRO12.out (by decide) hn e)
                      have hg9' := HEND.out.2.1.heap HG12.out (fun e => blk_own HG12.out HRO12.out (by decide) e)
                      have rB1 := own_chg HEND.out.1 HC13.out (fun k hk e => by subst e; exact blk_own hg9' HEND.out.1 (by decide) hk)
                      have hd13 := hd9'.chg2 HC13.out (by omega) (fun hn e => by
                        obtain ⟨_, arr2, e1, _⟩ := hd9'.tok.resolve_left hn
                        exact blk_ne hg9' e1 (by decide) e.symm)
                      have rB2 := own_chg (show wc.drew.ownsRow _ _ _ _ _ _ from rB1) hc14 (fun k hk e => by subst e; exact own_not hd13 rB1 (by decide) hk)
                      have rB := own_chg rB2 hcF (fun k hk e => by subst e; exact blk_own p2 rB2 (by decide) hk)
                      obtain ⟨mb, b1, b2, b3, b4⟩ := RowM.done rE hHas x5
                      obtain ⟨mc, c1, c2, c3, c4'⟩ := RowM.done rP' b3 (fun k hk => done_none b2 (hmo k (by have := (rP.lt k hk).1; omega) (by have := (rP.lt k hk).2; omega)) (own_own rP' rE (by decide) k hk))
                      obtain ⟨md, d1, d2, d3, d4⟩ := RowM.done rR' c3 (fun k hk => done_none c2 (done_none b2 (hmo k (by have := (rR.lt k hk).1; omega) (by have := (rR.lt k hk).2; omega)) (own_own rR' rE (by decide) k hk)) (own_own rR' rP' (by decide) k hk))
                      obtain ⟨me, f1, f2, f3, f4⟩ := RowM.done rV' d3 (fun k hk => done_none d2 (done_none c2 (done_none b2 (hmo k (by have := (rV.lt k hk).1; omega) (by have := (rV.lt k hk).2; omega)) (own_own rV' rE (by decide) k hk)) (fun e => by have := (rP.lt k e).2; have := (rV.lt k hk).1; omega)) (own_own rV' rR' (by decide) k hk))
                      have hown9 : ∀ k, Value.ownBlock (.slice q9 (n4 + 1) c9) = some k → ma k = none := fun k hk => by
                        rcases HEND.out.2.2 k hk with e | e
                        · exact hmq k e
                        · exact x2.lt (by omega)
                      obtain ⟨mf, g1, g2, g3, g4⟩ := RowM.done rB f3 (fun k hk => done_none f2 (done_none d2 (done_none c2 (done_none b2 (hown9 k hk) (own_own rB rE (by decide) k hk)) (own_own rB rP' (by decide) k hk)) (own_own rB rR' (by decide) k hk)) (own_own rB rV' (by decide) k hk))
                      have hno : ∀ k, ma k = none → ¬ Value.ownBlock (.slice q5 n5 c5) = some k → ¬ Value.ownBlock (.slice qp ps.length cp) = some k → ¬ Value.ownBlock (.slice qr rs.length cr) = some k → ¬ Value.ownBlock (.slice qv vs.length cv) = some k → ¬ Value.ownBlock (.slice q9 (n4 + 1) c9) = some k → mf k = none := fun k h0 u1 u2 u3 u4 u5 =>
                        done_none g2 (done_none f2 (done_none d2 (done_none c2 (done_none b2 h0 u1) u2) u3) u4) u5
                      have lbf := c1.trans (d1.trans (f1.trans g1))
                      have laf := b1.trans lbf
                      refine ⟨mf, ?_, ⟨hmm1.le.trans (x3.le.trans laf), fun k h1 h2 => hno k (hma k (hmm1.new k h1 (by omega)) (by omega)) (fun e => ?_) (fun e => ?_) (fun e => ?_) (fun e => ?_) (fun e => ?_)⟩, g3, hno _ x4 (own_not hdF rE (by decide)) (own_not hdF rP' (by decide)) (own_not hdF rR' (by decide)) (own_not hdF rV' (by decide)) (own_not hdF rB (by decide))⟩
                      · rw [← hf]
                        refine ⟨.slice qp ps.length cp, .slice qr rs.length cr, .slice qv vs.length cv, .slice q9 (n4 + 1) c9, ?_, ?_, ⟨csP, ?_, ?_⟩, ⟨csR, ?_, ?_⟩, ⟨csV, ?_, ?_⟩, ⟨cs4 ++ [.int .i64 9, .string ⟨#[]⟩, .slice none 0 0, .slice q5 n5 c5], ?_, ?_⟩⟩
                        · simp only [q1, q2, sb_bl]
                        · simp only [q2]; exact HLV.out
                        · simp only [q3]; exact c4'.le (d1.trans (f1.trans g1))
                        · simp only [q3]; exact eP.mono (fun _ _ h => h)
                        · simp only [q4']; exact d4.le (f1.trans g1)
                        · simp only [q4']; exact eR.mono (fun _ _ h => h)
                        · simp only [q5']; exact f4.le g1
                        · simp only [q5']; exact eV.mono (fun _ _ h => h)
                        · simp only [q6, List.length_append, List.length_singleton, ← hn4]; exact g4
                        · simp only [q6]
                          refine (henc.mono (fun _ _ h => h.le (x3.le.trans laf))).app (Enc.one ⟨_, _, rfl, str_nil _, ?_⟩)
                          try dsimp only
                          exact ⟨cs5, by show RowM _ _ _ _ _ _; rw [← e1]; exact b4.le lbf, x1.mono (TmR.le laf)⟩
                      · have := (HO11.out.lt k e).1; omega
                      · have := (rP.lt k e).1; omega
                      · have := (rR.lt k e).1; omega
                      · have := (rV.lt k e).1; omega
                      · rcases HEND.out.2.2 k e with e | e
                        · have := (HO.out.lt k e).1; omega
                        · omega)
                  go_wp2_with fail
                  go_region_law
                    (go_simp; go_at_call 41; refine HWW.out.mono ?_; rintro e w14 ⟨z14, er14, a14, rfl, hc14, hd14, hcu14⟩; have p1 := hc14.heap (show wc.drew.heap[w.heap.size + 1]? = _ from HG13.out) hbtg; have p2 := hc14.heap (show wc.drew.heap[w.heap.size]? = _ from HR13.out) hbtr; obtain ⟨y0, y1, y2, y3, y4, y5⟩ := six_cells p1; obtain ⟨x0, x1, x2, x3, x4, x5⟩ := six_cells p2; obtain ⟨f0, f1, f2, f3, f4, f5⟩ := six_free p2)
                  all_goals
                    have HE := Lib.hid (HFIN.out w14 z14 er14 a14 hc14 hd14 hcu14.1)
                    have HP := Lib.hid (heap_set (heap_set (heap_set (heap_set (heap_set (heap_set p2 0 (.string ts)) 1 (.int .u64 (lv : Nat))) 2 (.slice qp ps.length cp)) 3 (.slice qr rs.length cr)) 4 (.slice qv vs.length cv)) 5 (.slice q9 (n4 + 1) c9))
                    clear hc14 hd14 hcu14 p1 p2
                    go_wp2_with fail
                    exact bodyPost_ret (resultsFun _ _ _ _ _ _ _ _ _ _ _ rfl rfl HP.out) rfl HE.out
end
end Go.Proofs.YtnmcjkabihihiaaGreatDoor

/- The document's source: its principals; its rows. -/
namespace Go.Proofs.YtnmcjkabihihiaaGreatDoor
open Go Go.RowKit Go.Proofs.Mm

section
variable {D : DC} {nv bv : Value} {er a : Nat} {w : World} {ns : List (List Nat)} {α β : Type}
/-- The principals so far: the row in the parser's field 4. -/
def PnS (D : DC) (W0 : World) (q : Option Addr) (c : Nat) (l : List (List Nat)) (er a : Nat) (wr : World) : Prop :=
  wr.ownsRow W0.heap.size 9 1 (.slice q l.length c) l.length (strC l) ∧ DS D (.slice q l.length c) (.slice none 0 0) er a wr ∧ Chg (fun k => k = D.bt) W0 wr ∧ ∀ s ∈ l, bl (sb s) = s
theorem PnS.next {W0 wr w1 : World} {q : Option Addr} {c : Nat} {l : List (List Nat)} (h : PnS D W0 q c l er a wr) {er' a' : Nat} (hc : Chg (fun k => k = D.bt) wr w1) (hd : DS D (.slice q l.length c) (.slice none 0 0) er' a' w1) : PnS D W0 q c l er' a' w1 :=
  ⟨own_chg h.1 hc (fun k hk e => by subst e; exact own_not h.2.1 h.1 (by decide) hk), hd, h.2.2.1.then hc, h.2.2.2⟩
/-- One more. -/
theorem PnS.add {W0 w1 w9 : World} {q q9 : Option Addr} {c c9 : Nat} {l : List (List Nat)} {t : ByteArray} {o : Obj} (h : PnS D W0 q c l er a w1)
    (hown9 : w9.ownsRow W0.heap.size 9 1 (.slice q9 (l.length + 1) c9) (l.length + 1) (strC l ++ [.string t])) (hgrow9 : (w1.alloc o).grownBy w9 (Value.ownBlock (.slice q l.length c))) :
    PnS D W0 q9 c9 (l ++ [bl t]) er a (w9.setCell ⟨D.bt, 4, none⟩ (.slice q9 (l.length + 1) c9)) ∧ (DS D (.slice q l.length c) (.slice none 0 0) er a w9) := by
  obtain ⟨h1, h2, h3, h4⟩ := h
  have hll : (l ++ [bl t]).length = l.length + 1 := by simp
  have hd9 : DS D (.slice q l.length c) (.slice none 0 0) er a w9 := h2.grown h1 (by decide) (by decide) ((Chg.refl _ _).alloc _) hgrow9
  have hcs : Chg (fun k => k = D.bt) w9 (w9.setCell ⟨D.bt, 4, none⟩ (.slice q9 (l.length + 1) c9)) := (Chg.refl (fun k => k = D.bt) w9).setCell (p := ⟨D.bt, 4, none⟩) (.inl rfl) _
  refine ⟨⟨?_, ?_, ?_, Syn.mem_snoc h4 (by rw [sb_bl])⟩, hd9⟩
  · rw [hll]
    refine own_chg ?_ hcs (fun k hk e => by subst e; exact own_not hd9 hown9 (by decide) hk)
    unfold strC at hown9 ⊢
    rw [List.map_append, List.map_singleton, sb_bl]
    exact hown9
  · rw [hll]
    exact hd9.turn hcs (heap_set hd9.st 4 _)
  · exact (h3.trans (((Chg.refl (fun k => (Value.slice q l.length c).ownBlock = some k) w1).alloc o).then (grown_chg hgrow9 (fun k hk => .inl hk))) (fun k hk => .inr (h1.lt k hk).1)).then hcs
/-- Where the loop within a row of principals stands. -/
def PnI (RN : Syn.R (List (List Nat))) (D : DC) (W0 : World) (iv fv : Value) (wr : World) : Prop :=
  ∃ q c l z er a b, iv = .int .i64 z ∧ fv = .bool b ∧ Hid (PnS D W0 q c l er a wr) ∧ l.length ≤ 66 ∧
    ((er = 0 ∧ l.length ≤ 64 ∧ ∃ f i, z = (i : Nat) ∧ i ≤ D.ys.length ∧ D.ys.length < f + i ∧ Hid ((if b = true then Syn.namesF (Tk D.ys) f l i else if Syn.named (Tk D.ys) i = true then Syn.namesF (Tk D.ys) f l i else .ok (l, i)) = RN)) ∨
     (er ≠ 0 ∧ b = false ∧ Hid (∃ k t, RN = .error (k, t) ∧ er = k ∧ k ≠ 0 ∧ a = (tk D.ys D.len t).a)))
/-- Where the loop over rows of principals stands. -/
def PpI (RP : Syn.R (List (List Nat))) (D : DC) (W0 : World) (iv : Value) (wr : World) : Prop :=
  ∃ q c l z er a, iv = .int .i64 z ∧ Hid (PnS D W0 q c l er a wr) ∧ l.length ≤ 66 ∧
    ((er = 0 ∧ l.length ≤ 64 ∧ ∃ f i, z = (i : Nat) ∧ i ≤ D.ys.length ∧ D.ys.length < f + i ∧ Hid (Syn.principalsF (Tk D.ys) (D.ys.length + 1) f l i = RP)) ∨
     (er ≠ 0 ∧ Hid (∃ k t, RP = .error (k, t) ∧ er = k ∧ k ≠ 0 ∧ a = (tk D.ys D.len t).a)))
theorem namesF_gt {T : Nat → Option Syn.K} : ∀ (f : Nat) (l : List (List Nat)) (i : Nat) (x : List (List Nat)) (j : Nat), Syn.namesF T f l i = .ok (x, j) → i < j ∧ x.length ≤ 64 ∨ 64 < l.length
  | 0, _, _, _, _, h => by cases h
  | f + 1, l, i, x, j, h => by
    rw [Syn.namesF] at h
    obtain ⟨s, i1, h1, h⟩ := Syn.R.on_ok h
    have e1 := (Syn.name_ok h1).2.1
    split at h
    · cases h
    · rename_i hne
      by_cases hl : 64 < l.length
      · exact .inr hl
      · split at h
        · rcases namesF_gt f _ _ _ _ h with ⟨a, b⟩ | b
          · exact .inl ⟨by omega, b⟩
          · simp at b; omega
        · injection h with h; injection h with h2 h3
          refine .inl ⟨by omega, ?_⟩
          rw [← h2]; simp; omega
end
end Go.Proofs.YtnmcjkabihihiaaGreatDoor

/- The document's source: what it comes to; its rows. -/
namespace Go.Proofs.YtnmcjkabihihiaaGreatDoor
open Go Go.RowKit Go.Proofs.Mm

section
variable {D : DC} {nv bv : Value} {er a : Nat} {w : World} {ns : List (List Nat)} {α β : Type}
def SrR (D : DC) (m : Mem) (r : Syn.R Syn.So) (w : World) (e : Ending) (w' : World) : Prop :=
  ∃ q1 n1 c1 q2 n2 c2 q3 n3 c3 q4 n4 c4 q5 n5 c5 z er a nv bv, e = .returned (.agg #[.slice q1 n1 c1, .slice q2 n2 c2, .slice q3 n3 c3, .slice q4 n4 c4, .slice q5 n5 c5]) ∧ Chg (fun k => k = D.bt) w w' ∧ DS D nv bv er a w' ∧ Cu D r z er a ∧
    ∀ s j, r = .ok (s, j) → ∃ m', SoM m' [.slice q1 n1 c1, .slice q2 n2 c2, .slice q3 n3 c3, .slice q4 n4 c4, .slice q5 n5 c5] s ∧ m.More w m' ∧ Has w' m'
/-- A source while it is read, without a fault: its block at g, its rows; all that they lead to is in m. -/
structure SD (D : DC) (nv : Value) (ns : List (List Nat)) (g B : Nat) (m0 : Mem) (w0 : World) (s : Syn.So) (a : Nat) (m : Mem) (G A C F : Value) (csG csA csC csF : List Value) (W : World) : Prop where
  blk : W.heap[g]? = some (.cells #[nv, G, A, C, F] 27 (0, 0))
  rG : W.ownsRow B 75 2 G s.globals.length csG
  eG : Enc (DeR m) csG s.globals
  nG : ∀ k, G.ownBlock = some k → m k = none
  rA : W.ownsRow B 71 3 A s.arrays.length csA
  eA : Enc (ArR m) csA s.arrays
  nA : ∀ k, A.ownBlock = some k → m k = none
  rC : W.ownsRow B 75 2 C s.channels.length csC
  eC : Enc (DeR m) csC s.channels
  nC : ∀ k, C.ownBlock = some k → m k = none
  rF : W.ownsRow B 41 6 F s.funcs.length csF
  eF : Enc (FnM m) csF s.funcs
  nF : ∀ k, F.ownBlock = some k → m k = none
  gc : ∀ k, G.ownBlock = some k → ¬ C.ownBlock = some k
  has : Has W m
  more : m0.More w0 m
  mg : m g = none
  mb : m D.bt = none
  nV : ∀ k, nv.ownBlock = some k → m k = none
  nr : NR W nv ns
  pr : s.principals = ns
  ds : ∃ bv, DS D nv bv 0 a W
section
variable {g B : Nat} {m0 m : Mem} {w0 W W' w9 : World} {s : Syn.So} {G A C F : Value} {csG csA csC csF : List Value}
/-- Behind calls that turn only the parser. -/
theorem SD.next {a' : Nat} (h : SD D nv ns g B m0 w0 s a m G A C F csG csA csC csF W) (hc : Chg (fun k => k = D.bt) W W') (hd : ∃ bv, DS D nv bv 0 a' W') : SD D nv ns g B m0 w0 s a' m G A C F csG csA csC csF W' := by
  obtain ⟨bv, hd0⟩ := h.ds
  have hno : ∀ {E : TypeId} {size n : Nat} {v : Value} {cs : List Value}, W.ownsRow B E size v n cs → E ≠ 66 → W'.ownsRow B E size v n cs := fun hr he => own_chg hr hc (fun k hk e => by subst e; exact own_not hd0 hr he hk)
  exact ⟨hc.heap h.blk (blk_ne h.blk hd0.st (by decide)), hno h.rG (by decide), h.eG, h.nG, hno h.rA (by decide), h.eA, h.nA, hno h.rC (by decide), h.eC, h.nC, hno h.rF (by decide), h.eF, h.nF, h.gc, h.has.chg hc (fun k e => by rw [e]; exact h.mb), h.more, h.mg, h.mb, h.nV, h.nr.next hd0 hc, h.pr, hd⟩
/-- More that is done with. -/
theorem SD.mem {m1 : Mem} (h : SD D nv ns g B m0 w0 s a m G A C F csG csA csC csF W) {X : World} (hX : w0.heap.size ≤ X.heap.size) (hrow : ∀ k, (G.ownBlock = some k ∨ A.ownBlock = some k ∨ C.ownBlock = some k ∨ F.ownBlock = some k ∨ nv.ownBlock = some k ∨ k = g ∨ k = D.bt) → k < X.heap.size) (h1 : m.More X m1) (h2 : Has W m1) : SD D nv ns g B m0 w0 s a m1 G A C F csG csA csC csF W :=
  ⟨h.blk, h.rG, h.eG.mono (DeR.le _ _ h1.le), fun k hk => h1.new k (h.nG k hk) (hrow k (.inl hk)), h.rA, h.eA.mono (ArR.le _ _ h1.le), fun k hk => h1.new k (h.nA k hk) (hrow k (.inr (.inl hk))), h.rC, h.eC.mono (DeR.le _ _ h1.le), fun k hk => h1.new k (h.nC k hk) (hrow k (.inr (.inr (.inl hk)))), h.rF, h.eF.mono (FnM.le _ _ h1.le), fun k hk => h1.new k (h.nF k hk) (hrow k (.inr (.inr (.inr (.inl hk))))), h.gc, h2, h.more.trans h1 hX, h1.new _ h.mg (hrow _ (.inr (.inr (.inr (.inr (.inr (.inl rfl))))))), h1.new _ h.mb (hrow _ (.inr (.inr (.inr (.inr (.inr (.inr rfl))))))), fun k hk => h1.new k (h.nV k hk) (hrow k (.inr (.inr (.inr (.inr (.inl hk)))))), h.nr, h.pr, h.ds⟩
theorem sd_grow {E : TypeId} {n size kf : Nat} {v v9 : Value} {cs news : List Value} {arr : Value → Array Value} {o : Obj} (hblk : W.heap[g]? = some (.cells (arr v) 27 (0, 0))) (hrow : W.ownsRow B E size v n cs) (hE : 27 ≠ E)
    (hg : (W.alloc o).grownBy w9 v.ownBlock) (hown9 : w9.ownsRow B E size v9 (n + 1) (cs ++ news)) (harr : ∀ v v', (arr v).setIfInBounds kf v' = arr v') :
    (w9.setCell ⟨g, kf, none⟩ v9).heap[g]? = some (.cells (arr v9) 27 (0, 0)) ∧ (w9.setCell ⟨g, kf, none⟩ v9).ownsRow B E size v9 (n + 1) (cs ++ news) ∧ Chg (fun k => k = g ∨ v.ownBlock = some k) W (w9.setCell ⟨g, kf, none⟩ v9) ∧ w9.heap[g]? = some (.cells (arr v) 27 (0, 0)) := by
  have hg0 : Chg (fun k => v.ownBlock = some k) W w9 := ((Chg.refl _ W).alloc o).then (grown_chg hg (fun k e => .inl e))
  have g1 := hg0.heap hblk (fun e => blk_own hblk hrow hE e)
  have hcs := (Chg.refl (fun k => k = g) w9).setCell (p := ⟨g, kf, none⟩) (.inl rfl) v9
  refine ⟨?_, own_chg hown9 hcs (fun k hk e => by subst e; exact blk_own g1 hown9 hE hk), (hg0.mono (fun k e => .inl (.inr e))).then (hcs.mono (fun k e => .inl (.inl e))), g1⟩
  have := heap_set g1 kf v9
  rwa [harr] at this
theorem SD.addG {A : Value} {C : Value} {F : Value} {q q9 : Option Addr} {c c9 : Nat} {x : Syn.De} {news : List Value} {o : Obj} (h : SD D nv ns g B m0 w0 s a m (.slice q s.globals.length c) A C F csG csA csC csF W) (hx : DeR m news x)
    (hown9 : w9.ownsRow B 75 2 (.slice q9 (s.globals.length + 1) c9) (s.globals.length + 1) (csG ++ news)) (hgrow9 : (W.alloc o).grownBy w9 (Value.ownBlock (.slice q s.globals.length c))) (hat9 : ∀ k, Value.ownBlock (.slice q9 (s.globals.length + 1) c9) = some k → Value.ownBlock (.slice q s.globals.length c) = some k ∨ W.heap.size ≤ k) :
    SD D nv ns g B m0 w0 { s with globals := s.globals ++ [x] } a m (.slice q9 (s.globals ++ [x]).length c9) A C F (csG ++ news) csA csC csF (w9.setCell ⟨g, 1, none⟩ (.slice q9 (s.globals.length + 1) c9)) := by
  obtain ⟨bv, hd0⟩ := h.ds
  obtain ⟨e1, e2, e3, _⟩ := sd_grow (arr := (fun v => #[nv, v, A, C, F])) (kf := 1) h.blk h.rG (by decide) hgrow9 hown9 (fun _ _ => rfl)
  have hll : (s.globals ++ [x]).length = s.globals.length + 1 := by simp
  rw [hll]
  refine ⟨e1, (by show World.ownsRow _ _ _ _ _ _ _; rw [hll]; exact e2), h.eG.app (Enc.one hx), (fun k hk => by
    rcases hat9 k hk with e | e
    · exact h.nG k e
    · exact h.has.lt e), own_chg h.rA e3 (fun k hk e => by
    rcases e with e | e
    · subst e; exact blk_own h.blk h.rA (by decide) hk
    · exact own_own h.rA h.rG (by decide) k hk e), h.eA, h.nA, own_chg h.rC e3 (fun k hk e => by
    rcases e with e | e
    · subst e; exact blk_own h.blk h.rC (by decide) hk
    · exact h.gc k e hk), h.eC, h.nC, own_chg h.rF e3 (fun k hk e => by
    rcases e with e | e
    · subst e; exact blk_own h.blk h.rF (by decide) hk
    · exact own_own h.rF h.rG (by decide) k hk e), h.eF, h.nF, (fun k hk e => by
    rcases hat9 k hk with e2 | e2
    · exact h.gc k e2 e
    · have := (h.rC.lt k e).2; omega), h.has.chg e3 (fun k e => by
    rcases e with e | e
    · subst e; exact h.mg
    · exact h.nG k e), h.more, h.mg, h.mb, h.nV, ⟨own_chg h.nr.1 e3 (fun k hk e => by
    rcases e with e | e
    · subst e; exact blk_own h.blk h.nr.1 (by decide) hk
    · exact own_own h.nr.1 h.rG (by decide) k hk e), h.nr.2⟩, h.pr, bv, hd0.chg2 e3 (fun e => by
    rcases e with e | e
    · exact blk_ne h.blk hd0.st (by decide) e.symm
    · exact own_not hd0 h.rG (by decide) e) (fun hn e => by
    rcases e with e | e
    · obtain ⟨_, arr2, k1, _⟩ := hd0.tok.resolve_left hn
      exact blk_ne h.blk k1 (by decide) e.symm
    · exact own_notW hd0 h.rG (by decide) hn e)⟩
theorem SD.addA {G : Value} {C : Value} {F : Value} {q q9 : Option Addr} {c c9 : Nat} {x : Syn.Ar} {news : List Value} {o : Obj} (h : SD D nv ns g B m0 w0 s a m G (.slice q s.arrays.length c) C F csG csA csC csF W) (hx : ArR m news x)
    (hown9 : w9.ownsRow B 71 3 (.slice q9 (s.arrays.length + 1) c9) (s.arrays.length + 1) (csA ++ news)) (hgrow9 : (W.alloc o).grownBy w9 (Value.ownBlock (.slice q s.arrays.length c))) (hat9 : ∀ k, Value.ownBlock (.slice q9 (s.arrays.length + 1) c9) = some k → Value.ownBlock (.slice q s.arrays.length c) = some k ∨ W.heap.size ≤ k) :
    SD D nv ns g B m0 w0 { s with arrays := s.arrays ++ [x] } a m G (.slice q9 (s.arrays ++ [x]).length c9) C F csG (csA ++ news) csC csF (w9.setCell ⟨g, 2, none⟩ (.slice q9 (s.arrays.length + 1) c9)) := by
  obtain ⟨bv, hd0⟩ := h.ds
  obtain ⟨e1, e2, e3, _⟩ := sd_grow (arr := (fun v => #[nv, G, v, C, F])) (kf := 2) h.blk h.rA (by decide) hgrow9 hown9 (fun _ _ => rfl)
  have hll : (s.arrays ++ [x]).length = s.arrays.length + 1 := by simp
  rw [hll]
  refine ⟨e1, own_chg h.rG e3 (fun k hk e => by
    rcases e with e | e
    · subst e; exact blk_own h.blk h.rG (by decide) hk
    · exact own_own h.rG h.rA (by decide) k hk e), h.eG, h.nG, (by show World.ownsRow _ _ _ _ _ _ _; rw [hll]; exact e2), h.eA.app (Enc.one hx), (fun k hk => by
    rcases hat9 k hk with e | e
    · exact h.nA k e
    · exact h.has.lt e), own_chg h.rC e3 (fun k hk e => by
    rcases e with e | e
    · subst e; exact blk_own h.blk h.rC (by decide) hk
    · exact own_own h.rC h.rA (by decide) k hk e), h.eC, h.nC, own_chg h.rF e3 (fun k hk e => by
    rcases e with e | e
    · subst e; exact blk_own h.blk h.rF (by decide) hk
    · exact own_own h.rF h.rA (by decide) k hk e), h.eF, h.nF, h.gc, h.has.chg e3 (fun k e => by
    rcases e with e | e
    · subst e; exact h.mg
    · exact h.nA k e), h.more, h.mg, h.mb, h.nV, ⟨own_chg h.nr.1 e3 (fun k hk e => by
    rcases e with e | e
    · subst e; exact blk_own h.blk h.nr.1 (by decide) hk
    · exact own_own h.nr.1 h.rA (by decide) k hk e), h.nr.2⟩, h.pr, bv, hd0.chg2 e3 (fun e => by
    rcases e with e | e
    · exact blk_ne h.blk hd0.st (by decide) e.symm
    · exact own_not hd0 h.rA (by decide) e) (fun hn e => by
    rcases e with e | e
    · obtain ⟨_, arr2, k1, _⟩ := hd0.tok.resolve_left hn
      exact blk_ne h.blk k1 (by decide) e.symm
    · exact own_notW hd0 h.rA (by decide) hn e)⟩
theorem SD.addC {G : Value} {A : Value} {F : Value} {q q9 : Option Addr} {c c9 : Nat} {x : Syn.De} {news : List Value} {o : Obj} (h : SD D nv ns g B m0 w0 s a m G A (.slice q s.channels.length c) F csG csA csC csF W) (hx : DeR m news x)
    (hown9 : w9.ownsRow B 75 2 (.slice q9 (s.channels.length + 1) c9) (s.channels.length + 1) (csC ++ news)) (hgrow9 : (W.alloc o).grownBy w9 (Value.ownBlock (.slice q s.channels.length c))) (hat9 : ∀ k, Value.ownBlock (.slice q9 (s.channels.length + 1) c9) = some k → Value.ownBlock (.slice q s.channels.length c) = some k ∨ W.heap.size ≤ k) :
    SD D nv ns g B m0 w0 { s with channels := s.channels ++ [x] } a m G A (.slice q9 (s.channels ++ [x]).length c9) F csG csA (csC ++ news) csF (w9.setCell ⟨g, 3, none⟩ (.slice q9 (s.channels.length + 1) c9)) := by
  obtain ⟨bv, hd0⟩ := h.ds
  obtain ⟨e1, e2, e3, _⟩ := sd_grow (arr := (fun v => #[nv, G, A, v, F])) (kf := 3) h.blk h.rC (by decide) hgrow9 hown9 (fun _ _ => rfl)
  have hll : (s.channels ++ [x]).length = s.channels.length + 1 := by simp
  rw [hll]
  refine ⟨e1, own_chg h.rG e3 (fun k hk e => by
    rcases e with e | e
    · subst e; exact blk_own h.blk h.rG (by decide) hk
    · exact h.gc k hk e), h.eG, h.nG, own_chg h.rA e3 (fun k hk e => by
    rcases e with e | e
    · subst e; exact blk_own h.blk h.rA (by decide) hk
    · exact own_own h.rA h.rC (by decide) k hk e), h.eA, h.nA, (by show World.ownsRow _ _ _ _ _ _ _; rw [hll]; exact e2), h.eC.app (Enc.one hx), (fun k hk => by
    rcases hat9 k hk with e | e
    · exact h.nC k e
    · exact h.has.lt e), own_chg h.rF e3 (fun k hk e => by
    rcases e with e | e
    · subst e; exact blk_own h.blk h.rF (by decide) hk
    · exact own_own h.rF h.rC (by decide) k hk e), h.eF, h.nF, (fun k hk e => by
    rcases hat9 k e with e2 | e2
    · exact h.gc k hk e2
    · have := (h.rG.lt k hk).2; omega), h.has.chg e3 (fun k e => by
    rcases e with e | e
    · subst e; exact h.mg
    · exact h.nC k e), h.more, h.mg, h.mb, h.nV, ⟨own_chg h.nr.1 e3 (fun k hk e => by
    rcases e with e | e
    · subst e; exact blk_own h.blk h.nr.1 (by decide) hk
    · exact own_own h.nr.1 h.rC (by decide) k hk e), h.nr.2⟩, h.pr, bv, hd0.chg2 e3 (fun e => by
    rcases e with e | e
    · exact blk_ne h.blk hd0.st (by decide) e.symm
    · exact own_not hd0 h.rC (by decide) e) (fun hn e => by
    rcases e with e | e
    · obtain ⟨_, arr2, k1, _⟩ := hd0.tok.resolve_left hn
      exact blk_ne h.blk k1 (by decide) e.symm
    · exact own_notW hd0 h.rC (by decide) hn e)⟩
theorem SD.addF {G : Value} {A : Value} {C : Value} {q q9 : Option Addr} {c c9 : Nat} {x : Syn.Fn} {news : List Value} {o : Obj} (h : SD D nv ns g B m0 w0 s a m G A C (.slice q s.funcs.length c) csG csA csC csF W) (hx : FnM m news x)
    (hown9 : w9.ownsRow B 41 6 (.slice q9 (s.funcs.length + 1) c9) (s.funcs.length + 1) (csF ++ news)) (hgrow9 : (W.alloc o).grownBy w9 (Value.ownBlock (.slice q s.funcs.length c))) (hat9 : ∀ k, Value.ownBlock (.slice q9 (s.funcs.length + 1) c9) = some k → Value.ownBlock (.slice q s.funcs.length c) = some k ∨ W.heap.size ≤ k) :
    SD D nv ns g B m0 w0 { s with funcs := s.funcs ++ [x] } a m G A C (.slice q9 (s.funcs ++ [x]).length c9) csG csA csC (csF ++ news) (w9.setCell ⟨g, 4, none⟩ (.slice q9 (s.funcs.length + 1) c9)) := by
  obtain ⟨bv, hd0⟩ := h.ds
  obtain ⟨e1, e2, e3, _⟩ := sd_grow (arr := (fun v => #[nv, G, A, C, v])) (kf := 4) h.blk h.rF (by decide) hgrow9 hown9 (fun _ _ => rfl)
  have hll : (s.funcs ++ [x]).length = s.funcs.length + 1 := by simp
  rw [hll]
  refine ⟨e1, own_chg h.rG e3 (fun k hk e => by
    rcases e with e | e
    · subst e; exact blk_own h.blk h.rG (by decide) hk
    · exact own_own h.rG h.rF (by decide) k hk e), h.eG, h.nG, own_chg h.rA e3 (fun k hk e => by
    rcases e with e | e
    · subst e; exact blk_own h.blk h.rA (by decide) hk
    · exact own_own h.rA h.rF (by decide) k hk e), h.eA, h.nA, own_chg h.rC e3 (fun k hk e => by
    rcases e with e | e
    · subst e; exact blk_own h.blk h.rC (by decide) hk
    · exact own_own h.rC h.rF (by decide) k hk e), h.eC, h.nC, (by show World.ownsRow _ _ _ _ _ _ _; rw [hll]; exact e2), h.eF.app (Enc.one hx), (fun k hk => by
    rcases hat9 k hk with e | e
    · exact h.nF k e
    · exact h.has.lt e), h.gc, h.has.chg e3 (fun k e => by
    rcases e with e | e
    · subst e; exact h.mg
    · exact h.nF k e), h.more, h.mg, h.mb, h.nV, ⟨own_chg h.nr.1 e3 (fun k hk e => by
    rcases e with e | e
    · subst e; exact blk_own h.blk h.nr.1 (by decide) hk
    · exact own_own h.nr.1 h.rF (by decide) k hk e), h.nr.2⟩, h.pr, bv, hd0.chg2 e3 (fun e => by
    rcases e with e | e
    · exact blk_ne h.blk hd0.st (by decide) e.symm
    · exact own_not hd0 h.rF (by decide) e) (fun hn e => by
    rcases e with e | e
    · obtain ⟨_, arr2, k1, _⟩ := hd0.tok.resolve_left hn
      exact blk_ne h.blk k1 (by decide) e.symm
    · exact own_notW hd0 h.rF (by decide) hn e)⟩
/-- A source that has been read, done with. -/
theorem SD.done (h : SD D nv ns g B m0 w0 s a m G A C F csG csA csC csF W) (hB : w0.heap.size ≤ B) (hv : ∀ k, nv.ownBlock = some k → w0.heap.size ≤ k) :
    ∃ m2, m0.More w0 m2 ∧ Has W m2 ∧ (∀ k, m k = none → k < w0.heap.size → m2 k = none) ∧ SoM m2 [nv, G, A, C, F] s ∧ (∀ k, m k = none → ¬ G.ownBlock = some k → ¬ A.ownBlock = some k → ¬ C.ownBlock = some k → ¬ F.ownBlock = some k → ¬ nv.ownBlock = some k → m2 k = none) := by
  obtain ⟨m1, l1, n1, k1, r1⟩ := RowM.done h.rG h.has h.nG
  obtain ⟨m2, l2, n2, k2, r2⟩ := RowM.done h.rA k1 (fun k hk => done_none n1 (h.nA k hk) (own_own h.rA h.rG (by decide) k hk))
  obtain ⟨m3, l3, n3, k3, r3⟩ := RowM.done h.rC k2 (fun k hk => done_none n2 (done_none n1 (h.nC k hk) (fun e => h.gc k e hk)) (own_own h.rC h.rA (by decide) k hk))
  obtain ⟨m4, l4, n4, k4, r4⟩ := RowM.done h.rF k3 (fun k hk => done_none n3 (done_none n2 (done_none n1 (h.nF k hk) (own_own h.rF h.rG (by decide) k hk)) (own_own h.rF h.rA (by decide) k hk)) (own_own h.rF h.rC (by decide) k hk))
  obtain ⟨m5, l5, n5, k5, r5⟩ := RowM.done h.nr.1 k4 (fun k hk => done_none n4 (done_none n3 (done_none n2 (done_none n1 (h.nV k hk) (own_own h.nr.1 h.rG (by decide) k hk)) (own_own h.nr.1 h.rA (by decide) k hk)) (own_own h.nr.1 h.rC (by decide) k hk)) (own_own h.nr.1 h.rF (by decide) k hk))
  have hno : ∀ {k : Nat}, m k = none → ¬ G.ownBlock = some k → ¬ A.ownBlock = some k → ¬ C.ownBlock = some k → ¬ F.ownBlock = some k → ¬ nv.ownBlock = some k → m5 k = none := fun h0 a b c d e =>
    done_none n5 (done_none n4 (done_none n3 (done_none n2 (done_none n1 h0 a) b) c) d) e
  have hold : ∀ k, m k = none → k < w0.heap.size → m5 k = none := fun k e hk => hno e (fun q => by have := (h.rG.lt k q).1; omega) (fun q => by have := (h.rA.lt k q).1; omega) (fun q => by have := (h.rC.lt k q).1; omega) (fun q => by have := (h.rF.lt k q).1; omega) (fun q => by have := hv k q; omega)
  have t2 := l2.trans (l3.trans (l4.trans l5))
  refine ⟨m5, ⟨h.more.le.trans (l1.trans t2), fun k e hk => hold k (h.more.new k e hk) hk⟩, k5, hold,
    ⟨_, _, _, _, _, rfl, by rw [h.pr]; exact r5, ⟨_, r1.le t2, h.eG.mono (DeR.le _ _ (l1.trans t2))⟩, ⟨_, r2.le (l3.trans (l4.trans l5)), h.eA.mono (ArR.le _ _ (l1.trans t2))⟩, ⟨_, r3.le (l4.trans l5), h.eC.mono (DeR.le _ _ (l1.trans t2))⟩, ⟨_, r4.le l5, h.eF.mono (FnM.le _ _ (l1.trans t2))⟩⟩, fun k a b c d e f => hno a b c d e f⟩
end
end
end Go.Proofs.YtnmcjkabihihiaaGreatDoor
