/- The document's expressions, whole. -/
import Derived.Test.YtnmcjkabihihiaaGreatDoorReadsPR1
import Derived.Test.YtnmcjkabihihiaaGreatDoorQ4
import Derived.Test.YtnmcjkabihihiaaGreatDoorQ7
import Derived.Test.YtnmcjkabihihiaaGreatDoorQ5
import Derived.Test.YtnmcjkabihihiaaGreatDoorQ9
import Derived.Test.YtnmcjkabihihiaaGreatDoorQ13
namespace Go.Proofs.YtnmcjkabihihiaaGreatDoor
open Go Go.RowKit Go.Proofs.Mm

section
variable {D : DC} {nv bv : Value} {er a : Nat} {w : World}
theorem levelD_six {d : Nat} {r : Nat → Syn.R (List Syn.Tm)} {C : Nat} (hR : RdD D nv bv 111 (fun i => #[PB D, .int .i64 (i : Nat), .int .i64 (d : Nat)]) r C) :
    RdD D nv bv 89 (fun i => #[PB D, .int .i64 (i : Nat), .int .i64 6, .int .i64 (d : Nat)]) r C := by
  intro w a i hi h
  have HC := Lib.hid (hR w a i hi h)
  have e6 : ((6 : Int) == 6) = true := rfl
  clear hR h
  go_enter Tryz.func89, Tryz.ntmps89
  go_wp2_with fail
  go_at_call 111
  refine HC.out.mono ?_
  rintro e w1 ⟨q, c, l, z, er1, a1, rfl, ho, hp, hc, hC, hd, hm⟩
  have HO := Lib.hid ho
  have HCC := Lib.hid hC
  have HD := Lib.hid hd
  have HM := Lib.hid hm
  clear ho hC hd hm
  go_wp2_with fail
  go_ret2
  exact ⟨q, c, l, z, er1, a1, rfl, HO.out, hp, hc, HCC.out, HD.out, HM.out⟩
theorem RdD.args {K : FuncId} {f g : Nat → Array Value} {r : Nat → Syn.R (List Syn.Tm)} {C : Nat} (h : RdD D nv bv K f r C) (e : f = g) : RdD D nv bv K g r C := by subst e; exact h
theorem tower_d {u : Nat → Syn.R (List Syn.Tm)} (hcnt : Syn.Cnt u) (hfit : Syn.FitP D.ys.length u) (d : Nat) {C : Nat} (hCb : C ≤ 90000000)
    (hR : RdD D nv bv 89 (fun i => #[PB D, .int .i64 (i : Nat), .int .i64 6, .int .i64 (d : Nat)]) u C) : ∀ k, k ≤ 6 →
    RdD D nv bv 89 (fun i => #[PB D, .int .i64 (i : Nat), .int .i64 ((6 - k : Nat) : Int), .int .i64 (d : Nat)]) (Syn.tower (Tk D.ys) (D.ys.length + 1) u k) (C + k * 65537)
  | 0, _ => by
    have := hR.args (g := fun i => #[PB D, .int .i64 (i : Nat), .int .i64 ((6 - 0 : Nat) : Int), .int .i64 (d : Nat)]) rfl
    simpa [Syn.tower] using this
  | k + 1, hk => by
    have ih := tower_d hcnt hfit d hCb hR k (by omega)
    have e1 : ((6 - k : Nat) : Int) = ((5 - k : Nat) : Int) + 1 := by omega
    rw [e1] at ih
    have := level_step (Syn.tower_cnt hcnt k) (Syn.tower_fit (tk_nones D.ys) (by omega) hfit k) (5 - k) d (by omega) (C := C + k * 65537) (by omega) ih
    rw [show 6 - (k + 1) = 5 - k by omega, show C + (k + 1) * 65537 = C + k * 65537 + 65537 by omega]
    exact this
theorem expr_d : ∀ m : Nat, m ≤ 12 → RdD D nv bv 89 (fun i => #[PB D, .int .i64 (i : Nat), .int .i64 0, .int .i64 ((12 - m : Nat) : Int)]) (Syn.exprD (Tk D.ys) (D.ys.length + 1) m) (1 + (m + 1) * 458759)
  | 0, _ => by
    have hu := unary_d (D := D) (nv := nv) (bv := bv) (e := none) 12 (Nat.le_refl _) (C := 1) (Nat.le_refl _) (by decide) rfl
    have ht := tower_d (Syn.unary_cnt (T := Tk D.ys) (F := D.ys.length + 1) (e := none) (fun p h => by cases h)) (Syn.unary_fit (tk_nones D.ys) (by omega) (e := none) (fun p h => by cases h) (fun p h => by cases h)) 12 (by omega) (levelD_six hu) 6 (Nat.le_refl _)
    exact ht
  | m + 1, hm => by
    have ih := expr_d m (by omega)
    obtain ⟨d, hd⟩ : ∃ d, 12 - (m + 1) = d := ⟨_, rfl⟩
    have e1 : ((12 - m : Nat) : Int) = (d : Int) + 1 := by omega
    rw [e1] at ih
    rw [hd]
    have hu := unary_d (D := D) (nv := nv) (bv := bv) (e := some (Syn.exprD (Tk D.ys) (D.ys.length + 1) m)) d (by omega) (C := 1 + (m + 1) * 458759) (by omega) (by omega) ⟨by omega, Syn.expr_cnt m, Syn.expr_fit (tk_nones D.ys) (by omega) m, ih⟩
    have ht := tower_d (Syn.unary_cnt (T := Tk D.ys) (F := D.ys.length + 1) (e := some (Syn.exprD (Tk D.ys) (D.ys.length + 1) m)) (fun p h => by cases h; exact Syn.expr_cnt m)) (Syn.unary_fit (tk_nones D.ys) (by omega) (fun p h => by cases h; exact Syn.expr_fit (tk_nones D.ys) (by omega) m) (fun p h => by cases h; exact Syn.expr_good m)) d (by omega) (levelD_six hu) 6 (Nat.le_refl _)
    rw [show 1 + (m + 1 + 1) * 458759 = 1 + (m + 1) * 458759 + 65537 + 6 * 65537 by omega]
    exact ht
end
end Go.Proofs.YtnmcjkabihihiaaGreatDoor

/- The document's lists of expressions. -/
namespace Go.Proofs.YtnmcjkabihihiaaGreatDoor
open Go Go.RowKit Go.Proofs.Mm

section
variable {D : DC} {nv bv : Value} {er a : Nat} {w : World}
theorem expr_0 : RdD D nv bv 89 (fun i => #[PB D, .int .i64 (i : Nat), .int .i64 0, .int .i64 0]) (Syn.expr (Tk D.ys) (D.ys.length + 1)) 6000000 := by
  intro w a i hi h
  refine (expr_d 12 (Nat.le_refl _) w a i hi h).mono ?_
  rintro e w' ⟨q, c, l, z, er, a', h1, h2, h3, h4, h5⟩
  exact ⟨q, c, l, z, er, a', h1, h2, h3, by omega, h5⟩
/-- What the rows of expressions hold, in blocks that are done with. -/
def ExG (D : DC) (m : Mem) (w : World) (q : Option Addr) (n c : Nat) (cs : List Value) (es : List (List Syn.Tm)) (w' : World) : Prop :=
  n = es.length ∧ ∃ m' : Mem, Enc (TmR m') cs es ∧ Has w' m' ∧ m.More w m' ∧ m' D.bt = none ∧ ∀ k, Value.ownBlock (.slice q n c) = some k → m' k = none
def LtM (D : DC) (m : Mem) (w : World) (r : Syn.R (List (List Syn.Tm))) (q : Option Addr) (n c : Nat) (cs : List Value) (z : Int) (er a : Nat) (w' : World) : Prop :=
  match r with
  | .ok (es, j) => er = 0 ∧ z = (j : Nat) ∧ ExG D m w q n c cs es w'
  | .error (k, t) => er = k ∧ k ≠ 0 ∧ a = (tk D.ys D.len t).a
def LtR (D : DC) (nv bv : Value) (m : Mem) (r : Syn.R (List (List Syn.Tm))) (w : World) (e : Ending) (w' : World) : Prop :=
  ∃ q c n cs z er a, e = .returned (.tuple #[.slice q n c, .int .i64 z]) ∧ w'.ownsRow w.heap.size 49 1 (.slice q n c) n cs ∧ Chg (fun k => k = D.bt) w w' ∧ DS D nv bv er a w' ∧ LtM D m w r q n c cs z er a w'
/-- Where the loop stands. -/
def LtI (D : DC) (nv bv : Value) (m : Mem) (fin : List Nat) (RR : Syn.R (List (List Syn.Tm))) (w : World) (lv iv fv : Value) (wr : World) : Prop :=
  ∃ q c n cs z er a b, lv = .slice q n c ∧ iv = .int .i64 z ∧ fv = .bool b ∧ Hid (wr.ownsRow w.heap.size 49 1 (.slice q n c) n cs) ∧ n ≤ 65537 ∧ Hid (Chg (fun k => k = D.bt) w wr) ∧ Hid (DS D nv bv er a wr) ∧
    ((er = 0 ∧ ∃ acc i, z = (i : Nat) ∧ i ≤ D.ys.length ∧ n ≤ i ∧ Hid (ExG D m w q n c cs acc wr) ∧
        ((b = true ∧ acc = [] ∧ Hid (ls (Tk D.ys) (D.ys.length + 1) (Syn.expr (Tk D.ys) (D.ys.length + 1)) fin i = RR)) ∨
         (b = false ∧ ∃ f, D.ys.length < f + i + 1 ∧ (Syn.is (Tk D.ys) i fin = true ∨ Syn.is (Tk D.ys) i [44] = true) ∧ Hid (tailF (Tk D.ys) (Syn.expr (Tk D.ys) (D.ys.length + 1)) fin f acc i = RR)))) ∨
     (er ≠ 0 ∧ Hid (∃ k t, RR = .error (k, t) ∧ er = k ∧ k ≠ 0 ∧ a = (tk D.ys D.len t).a)))
theorem lt_end {m : Mem} {W w1 w9 : World} {q q1 q9 : Option Addr} {c c1 c9 n : Nat} {cs : List Value} {acc : List (List Syn.Tm)} {x : List Syn.Tm} (hbt : D.bt < w.heap.size) (hsz : w.heap.size ≤ W.heap.size)
    (h3 : W.ownsRow w.heap.size 49 1 (.slice q n c) n cs) (hg : ExG D m w q n c cs acc W) (hcc : Chg (fun k => k = D.bt) W w1)
    (a1 : w1.ownsRow W.heap.size 77 3 (.slice q1 x.length c1) x.length (tmCells x))
    (hgrow9 : (w1.alloc (.cells #[.slice q1 x.length c1] 49)).grownBy w9 (Value.ownBlock (.slice q n c)))
    (hat9 : Value.ownBlock (.slice q9 (n + 1) c9) = Value.ownBlock (.slice q n c) ∨ Value.ownBlock (.slice q9 (n + 1) c9) = some (w1.heap.size + 1)) :
    ExG D m w q9 (n + 1) c9 (cs ++ [.slice q1 x.length c1]) (acc ++ [x]) w9 := by
  obtain ⟨rfl, m', h4, h5, h6, h9, h10⟩ := hg
  have hs1 := hcc.size
  have h5' : Has w1 m' := h5.chg hcc (fun k e => by subst e; exact h9)
  obtain ⟨m2, d1, d2, d3, d4⟩ := RowM.done a1 h5' (fun k hk => h5.lt (a1.lt k hk).1)
  have hm2 : ∀ k, k < W.heap.size → m' k = none → m2 k = none := fun k hk e => by
    cases e2 : m2 k with
    | none => rfl
    | some o =>
      rcases d2 k (by rw [e2]; simp) with e3 | e3
      · exact (e3 e).elim
      · have := (a1.lt k e3).1; omega
  have hqlt : ∀ k, Value.ownBlock (.slice q acc.length c) = some k → k < W.heap.size := fun k hk => (h3.lt k hk).2
  have hCw : Chg (fun k => Value.ownBlock (.slice q acc.length c) = some k) w1 w9 := ((Chg.refl _ w1).alloc _).then (grown_chg hgrow9 (fun k e => .inl e))
  have hH : Has w9 m2 := d3.chg hCw (fun k e => hm2 k (hqlt k e) (h10 k e))
  refine ⟨by rw [List.length_append, List.length_singleton], m2, (h4.mono (TmR.le d1)).app (Enc.one (show TmR m2 [.slice q1 x.length c1] x from ⟨_, rfl, d4⟩)), hH, ⟨h6.le.trans d1, fun k e hk => hm2 k (by omega) (h6.new k e hk)⟩, hm2 _ (by omega) h9, ?_⟩
  intro k hk
  rcases hat9 with e | e
  · rw [e] at hk; exact hm2 k (hqlt k hk) (h10 k hk)
  · rw [e] at hk
    obtain rfl : w1.heap.size + 1 = k := by simpa using hk
    exact d3.lt (by omega)
end
end Go.Proofs.YtnmcjkabihihiaaGreatDoor

/- The document's blocks. -/
namespace Go.Proofs.YtnmcjkabihihiaaGreatDoor
open Go Go.RowKit Go.Proofs.Mm

section
variable {D : DC} {nv bv : Value} {er a : Nat} {w : World}
theorem blockF (h : DS D nv bv er a w) (he : er ≠ 0) (z d : Int) : Calls Tryz.prog 90 #[PB D, .int .i64 z, .int .i64 d] w fun e w' => (∃ z : Int, e = .returned (.int .i64 z)) ∧ w = w' := by
  have HI := Lib.hid (fun z s => is_f h he z s)
  have HW := Lib.hid (fun z s => wantD_f h he z s)
  obtain ⟨qr, _, _, x2, _⟩ := h.raw
  have e0 : ((er : Int) == 0) = false := by simp; omega
  clear h
  go_enter Tryz.func90, Tryz.ntmps90
  go_wp2_with (first | (go_at_call 37; refine (HI.out _ _).mono ?_; rintro e w' ⟨rfl, rfl⟩) | (go_at_call 41; refine (HW.out _ _).mono ?_; rintro e w' ⟨⟨z2, rfl⟩, rfl⟩))
  go_loopw [1] (fun iv wr => (∃ z : Int, iv = .int .i64 z) ∧ wr = w) (fun _ _ => 0)
  case atStart => exact ⟨⟨_, rfl⟩, rfl⟩
  case round =>
    obtain ⟨⟨z3, rfl⟩, rfl⟩ := hrel
    go_wp2_with (go_at_call 41; refine (HW.out _ _).mono ?_; rintro e w' ⟨⟨z2, rfl⟩, rfl⟩)
    go_ret
    exact ⟨⟨_, rfl⟩, rfl⟩
/-- The statements of a body so far: in a row of the call's own; what they hold is done with. -/
def BdG (D : DC) (m : Mem) (w0 : World) (q : Option Addr) (n c : Nat) (cs : List Value) (acc : List Syn.St) (W : World) : Prop :=
  n = acc.length ∧ ∃ m' : Mem, Enc (StM m') cs acc ∧ Has W m' ∧ m.More w0 m' ∧ m' D.bt = none ∧ ∀ k, Value.ownBlock (.slice q n c) = some k → m' k = none
def SdM (D : DC) (m : Mem) (w0 : World) (acc : List Syn.St) (r : Syn.R (List Syn.St)) (q : Option Addr) (n c : Nat) (cs : List Value) (z : Int) (er a : Nat) (W : World) : Prop :=
  match r with
  | .ok (l, j) => er = 0 ∧ z = (j : Nat) ∧ BdG D m w0 q n c cs (acc ++ l) W
  | .error (k, t) => er = k ∧ k ≠ 0 ∧ a = (tk D.ys D.len t).a
def SdR (D : DC) (nv : Value) (m : Mem) (w0 : World) (N : Nat) (acc : List Syn.St) (r : Syn.R (List Syn.St)) (W : World) (e : Ending) (W' : World) : Prop :=
  ∃ q c n cs z er a, e = .returned (.int .i64 z) ∧ W'.ownsRow w0.heap.size 47 4 (.slice q n c) n cs ∧ n ≤ N ∧ Chg (fun k => k = D.bt ∨ w0.heap.size ≤ k) W W' ∧ DS D nv (.slice q n c) er a W' ∧ SdM D m w0 acc r q n c cs z er a W'
/-- What reads statements behind those of the body. -/
def SdD (D : DC) (nv : Value) (m : Mem) (w0 : World) (N : Nat) (K : FuncId) (args : Nat → Array Value) (p : Nat → Syn.R (List Syn.St)) : Prop :=
  ∀ W acc i q c n cs a, i ≤ D.ys.length → n ≤ i → W.ownsRow w0.heap.size 47 4 (.slice q n c) n cs → BdG D m w0 q n c cs acc W → DS D nv (.slice q n c) 0 a W → w0.heap.size ≤ W.heap.size → Calls Tryz.prog K (args i) W (SdR D nv m w0 N acc (p i) W)
def BkI (D : DC) (nv : Value) (m : Mem) (w0 : World) (N : Nat) (acc : List Syn.St) (p : Nat → Syn.R (List Syn.St)) (RR : Syn.R (List Syn.St)) (W : World) (iv : Value) (wr : World) : Prop :=
  ∃ q c n cs z er a, iv = .int .i64 z ∧ Hid (wr.ownsRow w0.heap.size 47 4 (.slice q n c) n cs) ∧ n ≤ N ∧ Hid (Chg (fun k => k = D.bt ∨ w0.heap.size ≤ k) W wr) ∧ Hid (DS D nv (.slice q n c) er a wr) ∧
    ((er = 0 ∧ ∃ f l i, z = (i : Nat) ∧ i ≤ D.ys.length ∧ D.ys.length < f + i ∧ n ≤ i ∧ Hid (BdG D m w0 q n c cs (acc ++ l) wr) ∧ Hid (Syn.stmtsF (Tk D.ys) p [125] f l i = RR)) ∨
     (er ≠ 0 ∧ Hid (∃ k t, RR = .error (k, t) ∧ er = k ∧ k ≠ 0 ∧ a = (tk D.ys D.len t).a)))
set_option maxRecDepth 100000 in
set_option maxHeartbeats 4000000 in
theorem blockD {m : Mem} {w0 : World} {d N : Nat} (hd : d ≤ 12) (hN : 65536 ≤ N) (_hbt : D.bt < w0.heap.size) {p : Nat → Syn.R (List Syn.St)} (hcnt : CntS p) (hfit : ∀ i, i ≤ D.ys.length → Syn.Fit D.ys.length (p i)) (hgood : Syn.GoodS p)
    (hS : SdD D nv m w0 N 68 (fun i => #[PB D, .int .i64 (i : Nat), .int .i64 (d : Nat)]) p) :
    SdD D nv m w0 N 90 (fun i => #[PB D, .int .i64 (i : Nat), .int .i64 (d : Nat)]) (Syn.block (Tk D.ys) (D.ys.length + 1) (some p)) := by
  intro W acc i q c n cs a hi hn hr hg h hsz
  have hfew := h.few
  obtain ⟨RR, hRR⟩ : ∃ RR, Syn.block (Tk D.ys) (D.ys.length + 1) (some p) i = RR := ⟨_, rfl⟩
  rw [hRR]
  have hdd : ((d : Int) > 12) = False := by simp; omega
  have hdd2 : decide ((d : Int) > 12) = false := by simp; omega
  have hdd3 : decide (12 < (d : Int)) = false := by simp; omega
  cases hx : Syn.is (Tk D.ys) i (bl ⟨#[123]⟩) with
  | false =>
    have HE := Lib.hid (show RR = .error (50, i) from by
      rw [← hRR]
      unfold Syn.block Syn.want
      simp only
      rw [if_neg (by rw [show ([123] : List Nat) = bl ⟨#[123]⟩ from rfl, hx]; simp)]; rfl)
    have HI := Lib.hid (is_d h i ⟨#[123]⟩)
    rw [hx] at HI
    have HW := Lib.hid (wantD_no h (by omega) hx)
    have HR := Lib.hid hr
    have HNB := Lib.hid (own_not h hr (by decide))
    clear h hx hr hg hRR
    go_enter Tryz.func90, Tryz.ntmps90
    go_wp2_with (first | (go_at_call 37; refine HI.out.mono ?_; rintro e w' ⟨rfl, rfl⟩))
    go_at_call 41
    refine HW.out.mono ?_
    rintro e w1 ⟨⟨z1, rfl⟩, hc1, hd1⟩
    have HWF := Lib.hid (fun z s => wantD_f hd1 (by decide) z s)
    have HR1 := Lib.hid (own_chg HR.out hc1 (fun k hk e => by subst e; exact HNB.out hk))
    have HC1 := Lib.hid hc1
    have HD1 := Lib.hid hd1
    obtain ⟨qr, _, _, x2, _⟩ := hd1.raw
    have e0 : (((50 : Nat) : Int) == 0) = false := by decide
    clear hc1 hd1
    go_wp2_with fail
    go_loopw [1] (fun iv wr => (∃ z : Int, iv = .int .i64 z) ∧ wr = w1) (fun _ _ => 0)
    case atStart => exact ⟨⟨_, rfl⟩, rfl⟩
    case round =>
      obtain ⟨⟨z3, rfl⟩, rfl⟩ := hrel
      go_wp2_with (go_at_call 41; refine (HWF.out _ _).mono ?_; rintro e w' ⟨⟨z2, rfl⟩, rfl⟩)
      go_ret
      exact ⟨q, c, n, cs, _, 50, _, rfl, HR1.out, by omega, HC1.out.mono (fun k e => .inl (.inl e)), HD1.out, by rw [HE.out]; exact ⟨rfl, by decide, rfl⟩⟩
  | true =>
    have hil : i < D.ys.length := Syn.is_lt (tk_nones D.ys) hx
    have hR0 : Syn.stmtsF (Tk D.ys) p [125] (D.ys.length + 1) [] (i + 1) = RR := by
      rw [← hRR]
      unfold Syn.block Syn.want
      simp only
      rw [if_pos (by rw [show ([123] : List Nat) = bl ⟨#[123]⟩ from rfl]; exact hx)]; rfl
    have HI := Lib.hid (is_d h i ⟨#[123]⟩)
    rw [hx] at HI
    have HW := Lib.hid (wantD_yes h hil hx)
    have H0 : BkI D nv m w0 N acc p RR W (.int .i64 ((i + 1 : Nat) : Int)) W :=
      ⟨q, c, n, cs, _, 0, a, rfl, Lib.hid hr, by omega, Lib.hid (Chg.refl _ _), Lib.hid h, .inl ⟨rfl, D.ys.length + 1, [], i + 1, rfl, hil, by omega, by omega, Lib.hid (by rw [List.append_nil]; exact hg), Lib.hid hR0⟩⟩
    have HS := Lib.hid hS
    clear h hx hr hg hRR hR0 hS
    go_enter Tryz.func90, Tryz.ntmps90
    go_wp2_with (first | (go_at_call 37; refine HI.out.mono ?_; rintro e w' ⟨rfl, rfl⟩) | (go_at_call 41; refine HW.out.mono ?_; rintro e w' ⟨rfl, rfl⟩))
    go_loopw [1] (BkI D nv m w0 N acc p RR W) (fun iv wr => lvMs D iv wr)
    case atStart => exact H0
    case round =>
      obtain ⟨q, c, n, cs, z, er, a1, rfl, HO, hnN, HC, HD, hrel⟩ := hrel
      clear H0
      obtain ⟨qr, _, _, x2, _⟩ := HD.out.raw
      rcases hrel with ⟨rfl, f, l, i, rfl, hi, hff, hni, HG, HL⟩ | ⟨her, HE⟩
      · have e0 : (((0 : Nat) : Int) == 0) = true := rfl
        have HMS := Lib.hid (lvMs_0 (iv := .int .i64 (i : Nat)) HD.out)
        have HI := Lib.hid (is_d HD.out i ⟨#[125]⟩)
        obtain ⟨f, rfl⟩ : ∃ f', f = f' + 1 := ⟨f - 1, by omega⟩
        have HL2 := Lib.hid (show (if Syn.is (Tk D.ys) i (bl ⟨#[125]⟩) = true then .ok (l, i + 1) else (p i).on fun x j => Syn.stmtsF (Tk D.ys) p [125] f (l ++ x) j) = RR from HL.out)
        clear HL
        cases hf : Syn.is (Tk D.ys) i (bl ⟨#[125]⟩) with
        | true =>
          have hil : i < D.ys.length := Syn.is_lt (tk_nones D.ys) hf
          rw [hf] at HI HL2
          have HR := Lib.hid (show RR = .ok (l, i + 1) from HL2.out.symm)
          have HW := Lib.hid (wantD_yes HD.out hil hf)
          clear hf HL2
          go_wp2_with (first | (go_at_call 37; refine HI.out.mono ?_; rintro e w' ⟨rfl, rfl⟩) | (go_at_call 41; refine HW.out.mono ?_; rintro e w' ⟨rfl, rfl⟩))
          go_ret
          exact ⟨q, c, n, cs, _, 0, a1, rfl, HO.out, hnN, HC.out, HD.out, by rw [HR.out]; exact ⟨rfl, rfl, HG.out⟩⟩
        | false =>
          rw [hf] at HI HL2
          have HL := Lib.hid (show ((p i).on fun x j => Syn.stmtsF (Tk D.ys) p [125] f (l ++ x) j) = RR from HL2.out)
          have HX := Lib.hid (HS.out wr (acc ++ l) i q c n cs a1 hi hni HO.out HG.out HD.out (Nat.le_trans hsz HC.out.size))
          clear hf HL2
          go_wp2_with (first | (go_at_call 37; refine HI.out.mono ?_; rintro e w' ⟨rfl, rfl⟩))
          go_at_call 68
          refine HX.out.mono ?_
          rintro e w1 ⟨q1, c1, n1, cs1, z1, er1, a2, rfl, ho1, hn1, hc1, hd1, hm1⟩
          have HO1 := Lib.hid ho1
          have HC1 := Lib.hid (HC.out.then hc1)
          have HD1 := Lib.hid hd1
          have HM1 := Lib.hid hm1
          clear ho1 hc1 hd1 hm1
          go_wp2_with fail
          have hh := HL.out
          have hm1 := HM1.out
          cases hpx : p i with
          | error qq =>
            rw [hpx] at hh hm1
            obtain ⟨k, t⟩ := qq
            obtain ⟨rfl, her, h2⟩ := hm1
            refine ⟨⟨q1, c1, n1, cs1, z1, er1, a2, rfl, HO1, hn1, HC1, HD1, .inr ⟨her, Lib.hid ⟨er1, t, hh.symm, rfl, her, h2⟩⟩⟩, ?_⟩
            rw [lvMs_f HD1.out her, HMS.out]
            simp [intOf]; omega
          | ok qq =>
            obtain ⟨x, j⟩ := qq
            have hcn := hcnt _ _ _ hpx
            have hgd := (hgood _ _ _ hpx).2.2
            have hft := hfit i hi
            rw [hpx] at hh hm1 hft
            have hj : j ≤ D.ys.length := hft
            obtain ⟨rfl, rfl, hg1⟩ := hm1
            have hl1 : n1 = (acc ++ l ++ x).length := hg1.1
            have hl0 : n = (acc ++ l).length := HG.out.1
            rw [List.length_append] at hl1
            refine ⟨⟨q1, c1, n1, cs1, _, 0, a2, rfl, HO1, hn1, HC1, HD1, .inl ⟨rfl, f, l ++ x, j, rfl, hj, by omega, by omega, Lib.hid (by rw [← List.append_assoc]; exact hg1), Lib.hid hh⟩⟩, ?_⟩
            rw [lvMs_0 HD1.out, HMS.out]
            simp [intOf]; omega
      · have e0 : ((er : Int) == 0) = false := by simp; omega
        have HW := Lib.hid (fun z s => wantD_f HD.out her z s)
        go_wp2_with (go_at_call 41; refine (HW.out _ _).mono ?_; rintro e w' ⟨⟨z2, rfl⟩, rfl⟩)
        go_ret
        obtain ⟨k, t, hr, h1, h2, h3⟩ := HE.out
        exact ⟨q, c, n, cs, _, er, a1, rfl, HO.out, hnN, HC.out, HD.out, by rw [hr]; exact ⟨h1, h2, h3⟩⟩
end
end Go.Proofs.YtnmcjkabihihiaaGreatDoor

/- The document's small calls in either mode: what has been read so far goes on. -/
namespace Go.Proofs.YtnmcjkabihihiaaGreatDoor
open Go Go.RowKit Go.Proofs.Mm

section
variable {D : DC} {nv bv : Value} {er a : Nat} {w : World} {α : Type}
/-- Where the reading stands: behind what has been read, or behind a fault. -/
def Cu (D : DC) (r : Syn.R α) (z : Int) (er a : Nat) : Prop :=
  match r with
  | .ok (_, j) => er = 0 ∧ z = (j : Nat) ∧ j ≤ D.ys.length
  | .error (k, t) => er = k ∧ k ≠ 0 ∧ a = (tk D.ys D.len t).a
theorem Cu.cases {r : Syn.R α} {z : Int} (h : Cu D r z er a) : (∃ x j, r = .ok (x, j) ∧ er = 0 ∧ z = (j : Nat) ∧ j ≤ D.ys.length) ∨ (∃ k t, r = .error (k, t) ∧ er = k ∧ k ≠ 0 ∧ a = (tk D.ys D.len t).a) := by
  unfold Cu at h
  split at h
  · exact .inl ⟨_, _, rfl, h⟩
  · exact .inr ⟨_, _, rfl, h⟩
theorem wantA {r : Syn.R α} {z : Int} (h : DS D nv bv er a w) (hr : Cu D r z er a) (s : ByteArray) : Calls Tryz.prog 41 #[PB D, .int .i64 z, .string s] w fun e w' => ∃ z' er' a', e = .returned (.int .i64 z') ∧ Chg (fun k => k = D.bt) w w' ∧ DS D nv bv er' a' w' ∧ Cu D (r.on fun x i => (Syn.want (Tk D.ys) i (bl s)).on fun _ j => .ok (x, j)) z' er' a' := by
  have hfew := h.few
  rcases hr.cases with ⟨x, j, rfl, rfl, rfl, hj⟩ | ⟨k, t, rfl, rfl, hk, rfl⟩
  · cases hx : Syn.is (Tk D.ys) j (bl s) with
    | true =>
      have hil : j < D.ys.length := Syn.is_lt (tk_nones D.ys) hx
      refine (wantD_yes h hil hx).mono ?_
      rintro e w' ⟨rfl, rfl⟩
      refine ⟨_, 0, a, rfl, Chg.refl _ _, h, ?_⟩
      have : (Syn.R.on (.ok (x, j)) fun x i => (Syn.want (Tk D.ys) i (bl s)).on fun _ j => (.ok (x, j) : Syn.R α)) = .ok (x, j + 1) := by
        show (Syn.want (Tk D.ys) j (bl s)).on _ = _
        unfold Syn.want; rw [if_pos hx]; rfl
      rw [this]
      exact ⟨rfl, rfl, hil⟩
    | false =>
      refine (wantD_no h (by omega) hx).mono ?_
      rintro e w' ⟨⟨z', rfl⟩, hc, hd⟩
      refine ⟨z', 50, _, rfl, hc, hd, ?_⟩
      have : (Syn.R.on (.ok (x, j)) fun x i => (Syn.want (Tk D.ys) i (bl s)).on fun _ j => (.ok (x, j) : Syn.R α)) = .error (50, j) := by
        show (Syn.want (Tk D.ys) j (bl s)).on _ = _
        unfold Syn.want; rw [if_neg (by rw [hx]; simp)]; rfl
      rw [this]
      exact ⟨rfl, by decide, rfl⟩
  · refine (wantD_f h hk z s).mono ?_
    rintro e w' ⟨⟨z', rfl⟩, rfl⟩
    exact ⟨z', er, _, rfl, Chg.refl _ _, h, rfl, hk, rfl⟩
/-- Does a mark or keyword stand there, and is there no fault? -/
def isB (D : DC) (r : Syn.R α) (s : List Nat) : Bool := match r with
  | .ok (_, j) => Syn.is (Tk D.ys) j s
  | .error _ => false
theorem isA {r : Syn.R α} {z : Int} (h : DS D nv bv er a w) (hr : Cu D r z er a) (s : ByteArray) : Calls Tryz.prog 37 #[PB D, .int .i64 z, .string s] w fun e w' => e = .returned (.bool (isB D r (bl s))) ∧ w = w' := by
  rcases hr.cases with ⟨x, j, rfl, rfl, rfl, hj⟩ | ⟨k, t, rfl, rfl, hk, rfl⟩
  · exact is_d h j s
  · exact is_f h hk z s
def namedB (D : DC) (r : Syn.R α) : Bool := match r with
  | .ok (_, j) => Syn.named (Tk D.ys) j
  | .error _ => false
theorem namedA {r : Syn.R α} {z : Int} (h : DS D nv bv er a w) (hr : Cu D r z er a) : Calls Tryz.prog 38 #[PB D, .int .i64 z] w fun e w' => e = .returned (.bool (namedB D r)) ∧ w = w' := by
  rcases hr.cases with ⟨x, j, rfl, rfl, rfl, hj⟩ | ⟨k, t, rfl, rfl, hk, rfl⟩
  · exact namedD h j
  · exact namedF h hk z
theorem nmA_no {T : Nat → Option Syn.K} {i : Nat} (h : Syn.named T i = false) : Syn.name T i = .error (50, i) := by
  unfold Syn.named at h
  unfold Syn.name
  cases hT : T i with
  | none => rfl
  | some k => rw [hT] at h; exact if_neg (by simpa using h)
theorem nmA_yes {i : Nat} (h : Syn.named (Tk D.ys) i = true) : Syn.name (Tk D.ys) i = .ok (bl (tk D.ys D.len i).t, i + 1) := by
  have hil : i < D.ys.length := Syn.named_lt (tk_nones D.ys) h
  unfold Syn.named at h
  unfold Syn.name
  rw [Tk_some (len := D.len) hil] at h ⊢
  simp only [beq_iff_eq] at h
  exact if_pos h
theorem nameA {r : Syn.R α} {z : Int} (h : DS D nv bv er a w) (hr : Cu D r z er a) : Calls Tryz.prog 40 #[PB D, .int .i64 z] w fun e w' => ∃ (t : ByteArray) (z' : Int) (er' a' : Nat), e = .returned (.tuple #[.string t, .int .i64 z']) ∧ Chg (fun k => k = D.bt) w w' ∧ DS D nv bv er' a' w' ∧ Cu D (r.on fun x i => (Syn.name (Tk D.ys) i).on fun t j => .ok ((x, t), j)) z' er' a' ∧ ∀ x t0 j, (r.on fun x i => (Syn.name (Tk D.ys) i).on fun t j => (.ok ((x, t), j) : Syn.R (α × List Nat))) = .ok ((x, t0), j) → t0 = bl t := by
  have hfew := h.few
  rcases hr.cases with ⟨x, j, rfl, rfl, rfl, hj⟩ | ⟨k, t, rfl, rfl, hk, rfl⟩
  · cases hx : Syn.named (Tk D.ys) j with
    | true =>
      have hil : j < D.ys.length := Syn.named_lt (tk_nones D.ys) hx
      refine (nameD_yes h hx).mono ?_
      rintro e w' ⟨rfl, rfl⟩
      have : (Syn.R.on (.ok (x, j)) fun x i => (Syn.name (Tk D.ys) i).on fun t j => (.ok ((x, t), j) : Syn.R (α × List Nat))) = .ok ((x, bl (tk D.ys D.len j).t), j + 1) := by
        show (Syn.name (Tk D.ys) j).on _ = _
        rw [nmA_yes hx]; rfl
      refine ⟨_, _, 0, a, rfl, Chg.refl _ _, h, ?_, ?_⟩
      · rw [this]; exact ⟨rfl, rfl, hil⟩
      · intro x0 t0 j0 e
        rw [this] at e
        injection e with e; injection e with e _; injection e with _ e
        exact e.symm
    | false =>
      refine (nameD_no h (by omega) hx).mono ?_
      rintro e w' ⟨⟨z', rfl⟩, hc, hd⟩
      have : (Syn.R.on (.ok (x, j)) fun x i => (Syn.name (Tk D.ys) i).on fun t j => (.ok ((x, t), j) : Syn.R (α × List Nat))) = .error (50, j) := by
        show (Syn.name (Tk D.ys) j).on _ = _
        rw [nmA_no hx]; rfl
      refine ⟨_, z', 50, _, rfl, hc, hd, ?_, ?_⟩
      · rw [this]; exact ⟨rfl, by decide, rfl⟩
      · intro x0 t0 j0 e
        rw [this] at e; cases e
  · refine (nameD_f h hk z).mono ?_
    rintro e w' ⟨⟨z', rfl⟩, rfl⟩
    exact ⟨_, z', er, _, rfl, Chg.refl _ _, h, ⟨rfl, hk, rfl⟩, fun x0 t0 j0 e => by cases e⟩
/-- An expression, in either mode. -/
theorem levelA {r : Syn.R α} {z : Int} (h : DS D nv bv er a w) (hr : Cu D r z er a) : Calls Tryz.prog 89 #[PB D, .int .i64 z, .int .i64 0, .int .i64 0] w fun e w' => ∃ q c l z' er' a', e = .returned (.tuple #[.slice q l.length c, .int .i64 z']) ∧ w'.ownsRow w.heap.size 77 3 (.slice q l.length c) l.length (tmCells l) ∧ 0 < l.length ∧ l.length ≤ 6000000 ∧ Chg (fun k => k = D.bt) w w' ∧ DS D nv bv er' a' w' ∧ Cu D (r.on fun x i => (Syn.expr (Tk D.ys) (D.ys.length + 1) i).on fun l j => .ok ((x, l), j)) z' er' a' ∧ ∀ x l0 j, (r.on fun x i => (Syn.expr (Tk D.ys) (D.ys.length + 1) i).on fun l j => (.ok ((x, l), j) : Syn.R (α × List Syn.Tm))) = .ok ((x, l0), j) → l0 = l := by
  have hfew := h.few
  rcases hr.cases with ⟨x, j, rfl, rfl, rfl, hj⟩ | ⟨k, t, rfl, rfl, hk, rfl⟩
  · refine (expr_0 w a j hj h).mono ?_
    rintro e w' ⟨q, c, l, z', er', a', rfl, h1, h2, h3, h4, h5, h6⟩
    refine ⟨q, c, l, z', er', a', rfl, h1, h2, h3, h4, h5, ?_⟩
    have hft := (Syn.expr_fit (tk_nones D.ys) (F := D.ys.length + 1) (by omega) 12 j hj).1
    change Syn.Fit D.ys.length (Syn.expr (Tk D.ys) (D.ys.length + 1) j) at hft
    show Cu D ((Syn.expr (Tk D.ys) (D.ys.length + 1) j).on fun l j => .ok ((x, l), j)) z' er' a' ∧ _
    change Cu D ((Syn.expr (Tk D.ys) (D.ys.length + 1) j).on fun l j => .ok ((x, l), j)) z' er' a' ∧ ∀ x0 l0 j0, ((Syn.expr (Tk D.ys) (D.ys.length + 1) j).on fun l j => (.ok ((x, l), j) : Syn.R (α × List Syn.Tm))) = .ok ((x0, l0), j0) → l0 = l
    cases hR : Syn.expr (Tk D.ys) (D.ys.length + 1) j with
    | error qq =>
      rw [hR] at h6
      obtain ⟨k, t⟩ := qq
      exact ⟨h6, fun x0 l0 j0 e => by cases e⟩
    | ok qq =>
      rw [hR] at h6 hft
      obtain ⟨l1, j1⟩ := qq
      obtain ⟨rfl, rfl, rfl⟩ := h6
      refine ⟨⟨rfl, rfl, hft⟩, fun x0 l0 j0 e => ?_⟩
      injection e with e; injection e with e _; injection e with _ e
      exact e.symm
  · refine (level_f0 h hk z 0).mono ?_
    rintro e w' ⟨q, c, z', rfl, h1, h2, h3⟩
    exact ⟨q, c, [⟨2, 0, []⟩], z', er, _, rfl, h1, by decide, by decide, h3.mono (fun _ e => e.elim), h2, ⟨rfl, hk, rfl⟩, fun x0 l0 j0 e => by cases e⟩
end
end Go.Proofs.YtnmcjkabihihiaaGreatDoor

/- The document's statements: a body's row grows. -/
namespace Go.Proofs.YtnmcjkabihihiaaGreatDoor
open Go Go.RowKit Go.Proofs.Mm

section
variable {D : DC} {nv bv : Value} {er a : Nat} {w : World}
/-- As BdG, with the blocks that are done with. -/
def BdM (D : DC) (m : Mem) (w0 : World) (q : Option Addr) (n c : Nat) (cs : List Value) (acc : List Syn.St) (m' : Mem) (W : World) : Prop :=
  n = acc.length ∧ Enc (StM m') cs acc ∧ Has W m' ∧ m.More w0 m' ∧ m' D.bt = none ∧ ∀ k, Value.ownBlock (.slice q n c) = some k → m' k = none
theorem BdM.g {m m' : Mem} {w0 W : World} {q : Option Addr} {n c : Nat} {cs : List Value} {acc : List Syn.St} (h : BdM D m w0 q n c cs acc m' W) : BdG D m w0 q n c cs acc W := ⟨h.1, m', h.2⟩
/-- A row that has been laid anew, done with. -/
theorem bd_row {m m' : Mem} {w0 W w1 : World} {q : Option Addr} {n c : Nat} {cs : List Value} {acc : List Syn.St} (hbt : D.bt < w0.heap.size) (hsz : w0.heap.size ≤ W.heap.size)
    (h : BdM D m w0 q n c cs acc m' W) (hr : W.ownsRow w0.heap.size 47 4 (.slice q n c) n cs) (hc : Chg (fun k => k = D.bt) W w1)
    {E : TypeId} {size n1 : Nat} {v : Value} {xs : List Value} (a1 : w1.ownsRow W.heap.size E size v n1 xs) :
    ∃ m1, m'.le m1 ∧ BdM D m w0 q n c cs acc m1 w1 ∧ RowM m1 E size v n1 xs ∧ ∀ k, w1.heap.size ≤ k → m1 k = none := by
  obtain ⟨h1, h2, h3, h4, h5, h6⟩ := h
  have h3' : Has w1 m' := h3.chg hc (fun k e => by subst e; exact h5)
  obtain ⟨m2, d1, d2, d3, d4⟩ := RowM.done a1 h3' (fun k hk => h3.lt (a1.lt k hk).1)
  have hm2 : ∀ k, k < W.heap.size → m' k = none → m2 k = none := fun k hk e => by
    cases e2 : m2 k with
    | none => rfl
    | some o =>
      rcases d2 k (by rw [e2]; simp) with e3 | e3
      · exact (e3 e).elim
      · have := (a1.lt k e3).1; omega
  exact ⟨m2, d1, ⟨h1, h2.mono (fun c x h => h.le d1), d3, ⟨h4.le.trans d1, fun k e hk => hm2 k (by omega) (h4.new k e hk)⟩, hm2 _ (by omega) h5, fun k hk => hm2 k (hr.lt k hk).2 (h6 k hk)⟩, d4, fun k hk => d3.lt hk⟩
/-- One block more, done with. -/
theorem bd_put {m m' : Mem} {w0 W : World} {q : Option Addr} {n c : Nat} {cs : List Value} {acc : List Syn.St} (hbt : D.bt < w0.heap.size) (hsz : w0.heap.size ≤ W.heap.size)
    (h : BdM D m w0 q n c cs acc m' W) (hr : W.ownsRow w0.heap.size 47 4 (.slice q n c) n cs) (o : Obj) :
    BdM D m w0 q n c cs acc (m'.put W.heap.size o) (W.alloc o) ∧ m'.le (m'.put W.heap.size o) ∧ (m'.put W.heap.size o) W.heap.size = some o := by
  obtain ⟨h1, h2, h3, h4, h5, h6⟩ := h
  obtain ⟨p1, p2, p3⟩ := put_new h3 o
  exact ⟨⟨h1, h2.mono (fun c x h => h.le p2.le), p1, ⟨h4.le.trans p2.le, fun k e hk => p2.new k (h4.new k e hk) (by omega)⟩, p2.new _ h5 (by omega), fun k hk => p2.new k (h6 k hk) (hr.lt k hk).2⟩, p2.le, p3⟩
/-- The row has grown by a statement, and lies in the parser's field again. -/
theorem bd_store {w0 W Wm w9 : World} {q q9 : Option Addr} {n c c9 : Nat} {cs news : List Value} (_hsz : w0.heap.size ≤ W.heap.size)
    (hr : W.ownsRow w0.heap.size 47 4 (.slice q n c) n cs) (hd : DS D nv (.slice q n c) er a W) (h0 : Chg (fun _ => False) W Wm)
    (hg : Wm.grownBy w9 (Value.ownBlock (.slice q n c))) (ho9 : w9.ownsRow w0.heap.size 47 4 (.slice q9 (n + 1) c9) (n + 1) (cs ++ news)) :
    DS D nv (.slice q9 (n + 1) c9) er a (w9.setCell ⟨D.bt, 5, none⟩ (.slice q9 (n + 1) c9)) ∧
    (w9.setCell ⟨D.bt, 5, none⟩ (.slice q9 (n + 1) c9)).ownsRow w0.heap.size 47 4 (.slice q9 (n + 1) c9) (n + 1) (cs ++ news) ∧
    Chg (fun k => k = D.bt ∨ w0.heap.size ≤ k) W (w9.setCell ⟨D.bt, 5, none⟩ (.slice q9 (n + 1) c9)) := by
  have hd9 : DS D nv (.slice q n c) er a w9 := hd.grown hr (by decide) (by decide) h0 hg
  have hcs : Chg (fun k => k = D.bt) w9 (w9.setCell ⟨D.bt, 5, none⟩ (.slice q9 (n + 1) c9)) := (Chg.refl (fun k => k = D.bt) w9).setCell (p := ⟨D.bt, 5, none⟩) (.inl rfl) _
  have hnb := own_not hd9 ho9 (by decide)
  refine ⟨hd9.turn hcs ?_, own_chg ho9 hcs (fun k hk e => by subst e; exact hnb hk), ?_⟩
  · exact heap_set hd9.st 5 _
  · have hc1 : Chg (fun k => k = D.bt ∨ w0.heap.size ≤ k) W w9 := (h0.mono (fun _ e => e.elim)).then (grown_chg hg (fun k hk => .inl (.inr (hr.lt k hk).1)))
    exact hc1.then (hcs.mono (fun k e => .inl (.inl e)))
theorem bd_end {m m1 : Mem} {w0 W Wm w9 : World} {q q9 : Option Addr} {n c c9 : Nat} {cs news : List Value} {acc : List Syn.St} {st : Syn.St} (_hbt : D.bt < w0.heap.size) (_hsz : w0.heap.size ≤ W.heap.size)
    (h : BdM D m w0 q n c cs acc m1 W) (hr : W.ownsRow w0.heap.size 47 4 (.slice q n c) n cs) (h0 : Chg (fun _ => False) W Wm) (hs : StM m1 news st)
    (hg : Wm.grownBy w9 (Value.ownBlock (.slice q n c))) (hat9 : Value.ownBlock (.slice q9 (n + 1) c9) = Value.ownBlock (.slice q n c) ∨ ∃ k, W.heap.size ≤ k ∧ Value.ownBlock (.slice q9 (n + 1) c9) = some k) :
    BdG D m w0 q9 (n + 1) c9 (cs ++ news) (acc ++ [st]) (w9.setCell ⟨D.bt, 5, none⟩ (.slice q9 (n + 1) c9)) := by
  obtain ⟨rfl, h2, h3, h4, h5, h6⟩ := h
  have hc1 : Chg (fun k => Value.ownBlock (.slice q acc.length c) = some k ∨ k = D.bt) W (w9.setCell ⟨D.bt, 5, none⟩ (.slice q9 (acc.length + 1) c9)) :=
    ((h0.mono (fun _ e => e.elim)).then (grown_chg hg (fun k hk => .inl (.inl hk)))).setCell (p := ⟨D.bt, 5, none⟩) (.inl (.inr rfl)) _
  refine ⟨by rw [List.length_append, List.length_singleton], m1, h2.app (Enc.one hs), h3.chg hc1 (fun k e => ?_), h4, h5, fun k hk => ?_⟩
  · rcases e with e | rfl
    · exact h6 k e
    · exact h5
  · rcases hat9 with e | ⟨k', hk', e⟩
    · rw [e] at hk; exact h6 k hk
    · rw [e] at hk
      obtain rfl : k' = k := by simpa using hk
      exact h3.lt hk'
end
end Go.Proofs.YtnmcjkabihihiaaGreatDoor

/- The document's statements: a body's parts. -/
namespace Go.Proofs.YtnmcjkabihihiaaGreatDoor
open Go Go.RowKit Go.Proofs.Mm

section
variable {D : DC} {nv bv : Value} {er a : Nat} {w : World}
theorem BdM.chg {m m' : Mem} {w0 W W' : World} {q : Option Addr} {n c : Nat} {cs : List Value} {acc : List Syn.St} (h : BdM D m w0 q n c cs acc m' W) (hc : Chg (fun k => k = D.bt) W W') : BdM D m w0 q n c cs acc m' W' :=
  ⟨h.1, h.2.1, h.2.2.1.chg hc (fun k e => by subst e; exact h.2.2.2.2.1), h.2.2.2⟩
theorem BdG.chg {m : Mem} {w0 W W' : World} {q : Option Addr} {n c : Nat} {cs : List Value} {acc : List Syn.St} (h : BdG D m w0 q n c cs acc W) (hc : Chg (fun k => k = D.bt) W W') : BdG D m w0 q n c cs acc W' := by
  obtain ⟨h1, m', h2⟩ := h
  exact (BdM.chg (m' := m') ⟨h1, h2⟩ hc).g
theorem send_chain (T : Nat → Option Syn.K) (F i : Nat) : oneP (sendP T F i) = ((((Syn.R.on (.ok ((), i)) fun x i => (Syn.name T i).on fun t j => .ok ((x, t), j)).on fun x i => (Syn.expr T F i).on fun l j => .ok ((x, l), j)).on fun x i => (Syn.want T i [59]).on fun _ j => .ok (x, j)).on fun x j => (.ok ([⟨3, x.1.2, [], [x.2]⟩], j) : Syn.R (List Syn.St))) := by
  unfold oneP sendP
  show _ = Syn.R.on (Syn.R.on (Syn.R.on ((Syn.name T i).on _) _) _) _
  cases Syn.name T i with
  | error e => rfl
  | ok p =>
    obtain ⟨t, j⟩ := p
    show Syn.R.on (Syn.R.on (Syn.expr T F j) _) _ = Syn.R.on (Syn.R.on (Syn.R.on (Syn.expr T F j) _) _) _
    cases Syn.expr T F j with
    | error e => rfl
    | ok p =>
      obtain ⟨l, j2⟩ := p
      show Syn.R.on (Syn.R.on (Syn.want T j2 [59]) _) _ = Syn.R.on (Syn.R.on (Syn.want T j2 [59]) _) _
      cases Syn.want T j2 [59] with
      | error e => rfl
      | ok p => rfl
set_option maxRecDepth 100000 in
set_option maxHeartbeats 4000000 in
theorem sendD {m : Mem} {w0 : World} {d N : Nat} (hN : 65540 ≤ N) (hN2 : N ≤ 100000) (hbt : D.bt < w0.heap.size) {s : Option (Nat → Syn.R (List Syn.St))} {W : World} {acc : List Syn.St} {i : Nat} {q : Option Addr} {n c : Nat} {cs : List Value} {a : Nat}
    (_hi : i ≤ D.ys.length) (hn : n ≤ i) (hr : W.ownsRow w0.heap.size 47 4 (.slice q n c) n cs) (hg : BdG D m w0 q n c cs acc W) (h : DS D nv (.slice q n c) 0 a W) (hsz : w0.heap.size ≤ W.heap.size)
    (h1 : Syn.is (Tk D.ys) i (bl ⟨#[105, 102]⟩) = false) (h2 : Syn.is (Tk D.ys) i (bl ⟨#[119, 104, 105, 108, 101]⟩) = false) (h3 : Syn.is (Tk D.ys) i (bl ⟨#[115, 101, 110, 100]⟩) = true) :
    Calls Tryz.prog 68 #[PB D, .int .i64 (i : Nat), .int .i64 (d : Nat)] W (SdR D nv m w0 N acc (Syn.stmtOf (Tk D.ys) (D.ys.length + 1) s i) W) := by
  have hfew := h.few
  have hil : i < D.ys.length := Syn.is_lt (tk_nones D.ys) h3
  have hwi : IntKind.i64.wrap ((i : Int) + 1) = ((i + 1 : Nat) : Int) := by rw [IntKind.wrap_i64]; omega
  obtain ⟨j0, hj0, hy0, hy1, hy2⟩ := infoSt
  have HI1 := Lib.hid (is_d h i ⟨#[105, 102]⟩)
  have HI2 := Lib.hid (is_d h i ⟨#[119, 104, 105, 108, 101]⟩)
  have HI3 := Lib.hid (is_d h i ⟨#[115, 101, 110, 100]⟩)
  rw [h1] at HI1
  rw [h2] at HI2
  rw [h3] at HI3
  have HNM := Lib.hid (nameA (r := (.ok ((), i + 1) : Syn.R Unit)) (z := ((i + 1 : Nat) : Int)) h ⟨rfl, rfl, hil⟩)
  have HR0 := Lib.hid hr
  have HG0 := Lib.hid hg
  have HNB := Lib.hid (own_not h hr (by decide))
  clear h hr hg
  go_enter Tryz.func68, Tryz.ntmps68
  go_wp2_with fail
  go_at_call 37
  refine HI1.out.mono ?_
  rintro e w' ⟨rfl, rfl⟩
  go_wp2_with fail
  go_at_call 37
  refine HI2.out.mono ?_
  rintro e w' ⟨rfl, rfl⟩
  go_wp2_with fail
  go_at_call 37
  refine HI3.out.mono ?_
  rintro e w' ⟨rfl, rfl⟩
  go_wp2_with fail
  go_at_call 40
  refine HNM.out.mono ?_
  rintro e w1 ⟨nt, z1, er1, a1, rfl, hc1, hd1, hcu1, hnt⟩
  have HL := Lib.hid (levelA hd1 hcu1)
  have HC1 := Lib.hid hc1
  have HNT := Lib.hid hnt
  have hs1 := hc1.size
  clear hc1 hd1 hcu1 hnt
  go_wp2_with fail
  go_at_call 89
  refine HL.out.mono ?_
  rintro e w2 ⟨q2, c2, l, z2, er2, a2, rfl, ho2, hp2, hle2, hc2, hd2, hcu2, hlt2⟩
  have hs2 := hc2.size
  have HO2 := Lib.hid ho2
  have HD2 := Lib.hid hd2
  have hcc : Chg (fun k => k = D.bt) W w2 := HC1.out.then hc2
  have HC12 := Lib.hid hc2
  have hr2 := own_chg HR0.out hcc (fun k hk e => by subst e; exact HNB.out hk)
  have HCC := Lib.hid hcc
  obtain ⟨qr, _, _, _, _, _, x5, hz, hltb, _⟩ := hd2.raw
  have z5 := hz 5
  clear hc2 ho2 hd2 hcc hz
  go_upto_region 16 with (fail)
  have hnew : ∀ (j : Nat) (u : Value), [Value.int .i64 3, .string nt, .slice none 0 0, .slice (some ⟨w2.heap.size, 0, none⟩) 1 1][j]? = some u → ((w2.alloc (.cells #[.slice q2 l.length c2] 49)).alloc (.cells #[.int .i64 3, .string nt, .slice none 0 0, .slice (some ⟨w2.heap.size, 0, none⟩) 1 1] 47)).cell? ((⟨w2.heap.size + 1, 0, none⟩ : Addr).add j) = some u := by
    have := row_new (w2.alloc (.cells #[.slice q2 l.length c2] 49)) [Value.int .i64 3, .string nt, .slice none 0 0, .slice (some ⟨w2.heap.size, 0, none⟩) 1 1] 47
    simpa only [World.size_alloc] using this
  have hone : ∀ u ∈ [Value.int .i64 3, .string nt, .slice none 0 0, .slice (some ⟨w2.heap.size, 0, none⟩) 1 1], u.oneCell' = true := by
    intro u hu
    simp only [List.mem_cons, List.not_mem_nil, or_false] at hu
    rcases hu with rfl | rfl | rfl | rfl <;> rfl
  have HLT2 := Lib.hid hlt2
  have HCU2 := Lib.hid hcu2
  clear hlt2 hcu2
  go_wp2_with (at_builtin; refine wpList_append_own_at _ rfl _ _ 39 rfl w0.heap.size 47 j0 _ 4 72 Tryz.underlying39 hj0 hy0 hy1 hy2 rfl (by decide) _ _ _ rfl ((hr2.alloc _).alloc _) ⟨w2.heap.size + 1, 0, none⟩ 1 1 [Value.int .i64 3, .string nt, .slice none 0 0, .slice (some ⟨w2.heap.size, 0, none⟩) 1 1] rfl rfl hnew hone (by unfold maxLen; omega) (by omega) (by simp; omega) ?_)
  intro v9 w9 ho9 hg9 hxx hat9
  obtain ⟨q9, c9, rfl⟩ := own_shape ho9
  have h02 : Chg (fun _ => False) w2 ((w2.alloc (.cells #[.slice q2 l.length c2] 49)).alloc (.cells #[.int .i64 3, .string nt, .slice none 0 0, .slice (some ⟨w2.heap.size, 0, none⟩) 1 1] 47)) := ((Chg.refl _ w2).alloc _).alloc _
  have hd9 := HD2.out.grown hr2 (by decide) (by decide) h02 hg9
  obtain ⟨_, _, _, _, _, _, y5, hz9, hlt9, _⟩ := hd9.raw
  have y6 := hz9 5
  obtain ⟨s1, s2, s3⟩ := bd_store (by omega) hr2 HD2.out h02 hg9 ho9
  have HS1 := Lib.hid s1
  have HS2 := Lib.hid s2
  have HS3 := Lib.hid s3
  have HG9 := Lib.hid (And.intro hg9 (And.intro hat9 hxx))
  have HW := Lib.hid (wantA s1 HCU2.out ⟨#[59]⟩)
  clear s1 s2 s3 hg9 hat9 hxx h02 hd9 ho9 hnew hone hz9
  go_wp2_with fail
  go_at_call 41
  refine HW.out.mono ?_
  rintro e w11 ⟨z3, er3, a3, rfl, hc3, hd3, hcu3⟩
  have HC3 := Lib.hid hc3
  have HD3 := Lib.hid hd3
  have HCU3 := Lib.hid hcu3
  clear hc3 hd3 hcu3
  go_wp2_with fail
  go_ret
  have HH1 := Lib.hid h1
  have HH2 := Lib.hid h2
  have HH3 := Lib.hid h3
  have hst : Syn.stmtOf (Tk D.ys) (D.ys.length + 1) s i = oneP (sendP (Tk D.ys) (D.ys.length + 1) (i + 1)) := by
    rw [stmtOf_eq, tx_if, tx_while, tx_send, if_neg (by rw [h1]; simp), if_neg (by rw [h2]; simp), if_pos h3]
  obtain ⟨g1, m', g2⟩ := HG0.out
  have b1 := BdM.chg (m' := m') (acc := acc) ⟨g1, g2⟩ HC1.out
  have hr1 := own_chg HR0.out HC1.out (fun k hk e => by subst e; exact HNB.out hk)
  obtain ⟨m1, e1, b2, e2, e3⟩ := bd_row hbt (by omega) b1 hr1 HC12.out HO2.out
  obtain ⟨b3, e4, e5⟩ := bd_put hbt (by omega) b2 hr2 (.cells #[.slice q2 l.length c2] 49)
  obtain ⟨hg9, hat9, hxx⟩ := HG9.out
  have hsm : StM (m1.put w2.heap.size (.cells #[.slice q2 l.length c2] 49)) [Value.int .i64 3, .string nt, .slice none 0 0, .slice (some ⟨w2.heap.size, 0, none⟩) 1 1] ⟨3, bl nt, [], [l]⟩ :=
    ⟨_, _, by rw [sb_bl]; rfl, str_nil _, ex_one e5 (RowM.le e2 e4)⟩
  have hend := bd_end hbt (by simp; omega) b3 (hr2.alloc _) ((Chg.refl (fun _ => False) (w2.alloc (.cells #[.slice q2 l.length c2] 49))).alloc (.cells #[.int .i64 3, .string nt, .slice none 0 0, .slice (some ⟨w2.heap.size, 0, none⟩) 1 1] 47)) hsm hg9 (q9 := q9) (c9 := c9) (by
    rcases hat9 with e | e
    · exact .inl e
    · exact .inr ⟨_, by simp, e⟩)
  refine ⟨q9, c9, n + 1, _, z3, er3, a3, rfl, own_chg HS2.out HC3.out (fun k hk e => by subst e; exact own_not HS1.out HS2.out (by decide) hk), by omega, ((HCC.out.mono (fun k e => .inl (.inl e))).then HS3.out).then (HC3.out.mono (fun k e => .inl (.inl e))), HD3.out, ?_⟩
  rw [hst, send_chain]
  have hcu3 := HCU3.out
  have hlt := HLT2.out
  have hnt := HNT.out
  rcases hcu3.cases with ⟨x, j, hx, h4, h5, h6⟩ | ⟨k, t, hx, h4, h5, h6⟩
  · obtain ⟨x1, j1, hx1, hx2⟩ := Syn.R.on_ok hx
    obtain ⟨x2, j2, hx3, hx4⟩ := Syn.R.on_ok hx2
    injection hx4 with hx4; injection hx4 with hx4 _
    subst hx4
    obtain ⟨x3, l3⟩ := x1
    have el := hlt _ _ _ hx1
    subst el
    obtain ⟨y1, k1, hy3, hy4⟩ := Syn.R.on_ok hx1
    obtain ⟨y2, k2, hy5, hy6⟩ := Syn.R.on_ok hy4
    injection hy6 with hy6; injection hy6 with hy6 _; injection hy6 with hy6 hy7
    subst hy6
    obtain ⟨y3, t3⟩ := y1
    have et := hnt _ _ _ hy3
    subst et
    rw [show bl ⟨#[59]⟩ = ([59] : List Nat) from rfl] at hx
    rw [hx]
    exact ⟨h4, h5, hend.chg HC3.out⟩
  · rw [show bl ⟨#[59]⟩ = ([59] : List Nat) from rfl] at hx
    rw [hx]
    exact ⟨h4, h5, h6⟩
end
end Go.Proofs.YtnmcjkabihihiaaGreatDoor

/- The document's lists of expressions: the walk. -/
namespace Go.Proofs.YtnmcjkabihihiaaGreatDoor
open Go Go.RowKit Go.Proofs.Mm

section
variable {D : DC} {nv bv : Value} {er a : Nat} {w : World}
set_option maxRecDepth 100000 in
set_option maxHeartbeats 4000000 in
theorem listD {m : Mem} (h : DS D nv bv 0 a w) (hm : Has w m) (hbm : m D.bt = none) {i : Nat} (hi : i ≤ D.ys.length) (s : ByteArray) :
    Calls Tryz.prog 69 #[PB D, .int .i64 (i : Nat), .string s] w (LtR D nv bv m (Syn.list (Tk D.ys) (D.ys.length + 1) (bl s) i) w) := by
  have hfew := h.few
  have hbt := heap_lt h.st
  obtain ⟨RR, hRR⟩ : ∃ RR, Syn.list (Tk D.ys) (D.ys.length + 1) (bl s) i = RR := ⟨_, rfl⟩
  rw [hRR]
  have H0 : LtI D nv bv m (bl s) RR w (.slice none 0 0) (.int .i64 (i : Nat)) (.bool true) w :=
    ⟨none, 0, 0, [], (i : Nat), 0, a, true, rfl, rfl, rfl, Lib.hid (World.ownsRow_nil _ _ _ _), by omega, Lib.hid (Chg.refl _ _), Lib.hid h, .inl ⟨rfl, [], i, rfl, hi, Nat.zero_le _, Lib.hid ⟨rfl, m, Enc.nil, hm, Mem.More.refl _ _, hbm, fun k hk => by cases hk⟩, .inl ⟨rfl, rfl, Lib.hid (by rw [← hRR, list_ls])⟩⟩⟩
  obtain ⟨j0, hj0, hy0, hy1, hy2⟩ := infoTms
  have HBT := Lib.hid hbt
  clear h hRR hm hbm hi hbt
  go_enter Tryz.func69, Tryz.ntmps69
  go_wp2_with fail
  go_loopw [8, 1, 9] (LtI D nv bv m (bl s) RR w) (fun _ iv _ wr => lvMs D iv wr)
  case atStart => exact H0
  case round =>
    obtain ⟨q, c, n, cs, z, er, a1, b, rfl, rfl, rfl, HO, hn, HC, HD, hrel⟩ := hrel
    clear H0
    obtain ⟨qr, _, _, x2, _⟩ := HD.out.raw
    rcases hrel with ⟨rfl, acc, i, rfl, hi, hni, HG, hst⟩ | ⟨her, HE⟩
    · have e0 : (((0 : Nat) : Int) == 0) = true := rfl
      have HMS := Lib.hid (lvMs_0 (iv := .int .i64 (i : Nat)) HD.out)
      cases hf : Syn.is (Tk D.ys) i (bl s) with
      | true =>
        have hil : i < D.ys.length := Syn.is_lt (tk_nones D.ys) hf
        have HR := Lib.hid (show RR = .ok (acc, i + 1) from by
          rcases hst with ⟨_, rfl, HL⟩ | ⟨_, f, _, _, HL⟩
          · rw [← HL.out]; exact if_pos hf
          · rw [← HL.out]; exact if_pos hf)
        have HI := Lib.hid (is_d HD.out i s)
        rw [hf] at HI
        have HW := Lib.hid (wantD_yes HD.out hil hf)
        clear hst hf
        go_wp2_with (first | (go_at_call 37; refine HI.out.mono ?_; rintro e w' ⟨rfl, rfl⟩) | (go_at_call 41; refine HW.out.mono ?_; rintro e w' ⟨rfl, rfl⟩))
        go_ret2
        exact ⟨q, c, n, cs, _, 0, a1, rfl, HO.out, HC.out, HD.out, by rw [HR.out]; exact ⟨rfl, rfl, HG.out⟩⟩
      | false =>
        have hst2 : (b = true ∨ b = false ∧ i < D.ys.length ∧ Syn.is (Tk D.ys) i [44] = true) ∧ ∃ f, D.ys.length < f + 1 + (if b = true then i else i + 1) ∧ Hid ((Syn.expr (Tk D.ys) (D.ys.length + 1) (if b = true then i else i + 1)).on (fun x j => tailF (Tk D.ys) (Syn.expr (Tk D.ys) (D.ys.length + 1)) (bl s) f (acc ++ [x]) j) = RR) := by
          rcases hst with ⟨rfl, rfl, HL⟩ | ⟨rfl, f, hf2, hor, HL⟩
          · refine ⟨.inl rfl, D.ys.length, by simp; omega, Lib.hid ?_⟩
            have := HL.out
            unfold ls at this
            rw [if_neg (by rw [hf]; simp)] at this
            exact this
          · rw [hf] at hor
            have hor := hor.resolve_left (by simp)
            have hil : i < D.ys.length := Syn.is_lt (tk_nones D.ys) hor
            obtain ⟨f, rfl⟩ : ∃ f', f = f' + 1 := ⟨f - 1, by omega⟩
            refine ⟨.inr ⟨rfl, hil, hor⟩, f, by simp; omega, Lib.hid ?_⟩
            have := HL.out
            unfold tailF at this
            rw [if_neg (by rw [hf]; simp), if_pos hor] at this
            exact this
        obtain ⟨hb, f, hff, HL⟩ := hst2
        have HI := Lib.hid (is_d HD.out i s)
        rw [hf] at HI
        have HX := Lib.hid (fun p (hp : p ≤ D.ys.length) => expr_0 wr a1 p hp HD.out)
        clear hst hf
        obtain ⟨p, hp⟩ : ∃ p, (if b = true then i else i + 1) = p := ⟨_, rfl⟩
        have hpl : p ≤ D.ys.length ∧ i ≤ p := by
          rcases hb with rfl | ⟨rfl, h1, _⟩
          · simp at hp; omega
          · simp at hp; omega
        rw [hp] at HL hff
        rcases hb with rfl | ⟨rfl, hil, h44⟩
        · obtain rfl : i = p := by simpa using hp
          have HX1 := Lib.hid (HX.out i hi)
          clear hp hpl
          go_wp2_with (go_at_call 37; refine HI.out.mono ?_; rintro e w' ⟨rfl, rfl⟩)
          go_at_call 89
          refine HX1.out.mono ?_
          rintro e w1 ⟨q1, c1, x, z1, er1, a2, rfl, ho1, hp1, hc1, hC1, hd1, hm1⟩
          have hnb := own_not HD.out HO.out (by decide)
          have hro := own_chg HO.out hC1 (fun k hk e => by subst e; exact hnb hk)
          have hnew := row_new w1 [.slice q1 x.length c1] 49
          have hone := one_slice q1 x.length c1
          have hwsz := HC.out.size
          have hws1 := hC1.size
          have HM1 := Lib.hid hm1
          have HD1 := Lib.hid hd1
          have HO1 := Lib.hid ho1
          have HC1 := Lib.hid hC1
          clear hm1 hd1 ho1 hC1 hnb
          go_wp2_with (at_builtin; refine wpList_append_own_at _ rfl _ _ 45 rfl w.heap.size 49 j0 _ 1 24 Tryz.underlying45 hj0 hy0 hy1 hy2 rfl (by decide) _ _ _ rfl (hro.alloc _) ⟨w1.heap.size, 0, none⟩ 1 1 [.slice q1 x.length c1] rfl rfl hnew hone (by unfold maxLen; omega) (by omega) (by simp; omega) ?_)
          intro v9 w9 ho9 hg9 hxx hat9
          obtain ⟨q9, c9, rfl⟩ := own_shape ho9
          have HD9 := Lib.hid (HD1.out.grown hro (by decide) (by decide) ((Chg.refl _ _).alloc _) hg9)
          have hC9 : Chg (fun k => k = D.bt) w w9 := (HC.out.then HC1.out).trans (((Chg.refl (fun k => (Value.slice q n c).ownBlock = some k) w1).alloc _).then (grown_chg hg9 (fun k hk => .inl hk))) (fun k hk => .inr (hro.lt k hk).1)
          have HC9 := Lib.hid hC9
          have HG9 := Lib.hid (lt_end (m := m) HBT.out hwsz HO.out HG.out HC1.out HO1.out hg9 (by simpa using hat9))
          have HO9 := Lib.hid ho9
          have hnb9 := Lib.hid (own_not HD9.out ho9 (by decide))
          clear hxx hat9 hg9 hro hnew hC9 ho9
          cases hpx : Syn.expr (Tk D.ys) (D.ys.length + 1) i with
          | error qq =>
            have hh := HL.out
            have hm1 := HM1.out
            rw [hpx] at hh hm1
            obtain ⟨k, t⟩ := qq
            obtain ⟨rfl, her, h2⟩ := hm1
            have HE := Lib.hid (show ∃ k t, RR = .error (k, t) ∧ er1 = k ∧ k ≠ 0 ∧ a2 = (tk D.ys D.len t).a from ⟨er1, t, hh.symm, rfl, her, h2⟩)
            have HIF := Lib.hid (fun z s => is_f HD9.out her z s)
            have HBF := Lib.hid (fun x z => bad_f HD9.out her x z)
            have HMS2 := Lib.hid (fun iv => lvMs_f (iv := iv) HD9.out her)
            clear hh hpx h2
            go_wp2_with fail
            go_at_call 37
            refine (HIF.out _ _).mono ?_
            rintro e w' ⟨rfl, rfl⟩
            go_wp2_with fail
            go_at_call 37
            refine (HIF.out _ _).mono ?_
            rintro e w' ⟨rfl, rfl⟩
            go_wp2_with fail
            go_at_call 39
            refine (HBF.out _ _).mono ?_
            rintro e w' ⟨rfl, rfl⟩
            go_wp2_with fail
            refine ⟨⟨q9, c9, n + 1, _, z1, er1, a2, false, rfl, rfl, rfl, HO9, by omega, HC9, HD9, .inr ⟨her, HE⟩⟩, ?_⟩
            rw [HMS2.out, HMS.out]
            simp [intOf]; omega
          | ok qq =>
            obtain ⟨x0, j⟩ := qq
            have hcn := Syn.expr_cnt (T := Tk D.ys) (F := D.ys.length + 1) 12 _ _ _ hpx
            have hft := (Syn.expr_fit (tk_nones D.ys) (F := D.ys.length + 1) (by omega) 12 i (by omega)).1
            have hh := HL.out
            have hm1 := HM1.out
            have hpx2 : Syn.exprD (Tk D.ys) (D.ys.length + 1) 12 i = .ok (x0, j) := hpx
            rw [hpx2] at hft
            have hj : j ≤ D.ys.length := hft
            rw [hpx] at hh hm1
            obtain ⟨rfl, rfl, rfl⟩ := hm1
            have hh : tailF (Tk D.ys) (Syn.expr (Tk D.ys) (D.ys.length + 1)) (bl s) f (acc ++ [x]) j = RR := hh
            have HT := Lib.hid hh
            have HMS2 := Lib.hid (lvMs_0 (iv := .int .i64 (j : Nat)) HD9.out)
            clear hh hpx hpx2 hft
            have HI9 := Lib.hid (is_d HD9.out j s)
            have HJ9 := Lib.hid (is_d HD9.out j ⟨#[44]⟩)
            have hIC : bl ⟨#[44]⟩ = ([44] : List Nat) := rfl
            rw [hIC] at HJ9
            cases hjf : Syn.is (Tk D.ys) j (bl s) with
            | true =>
              rw [hjf] at HI9
              have HF := Lib.hid hjf
              clear hjf
              go_wp2_with (go_at_call 37; refine HI9.out.mono ?_; rintro e w' ⟨rfl, rfl⟩)
              refine ⟨⟨q9, c9, n + 1, _, _, 0, a2, false, rfl, rfl, rfl, HO9, by omega, HC9, HD9, .inl ⟨rfl, _, j, rfl, hj, by omega, HG9, .inr ⟨rfl, f, by omega, .inl HF.out, HT⟩⟩⟩, ?_⟩
              rw [HMS2.out, HMS.out]
              simp [intOf]; omega
            | false =>
              rw [hjf] at HI9
              cases hjc : Syn.is (Tk D.ys) j [44] with
              | true =>
                rw [hjc] at HJ9
                have HF := Lib.hid hjc
                clear hjf hjc
                go_wp2_with fail
                go_at_call 37
                refine HI9.out.mono ?_
                rintro e w' ⟨rfl, rfl⟩
                go_wp2_with fail
                go_at_call 37
                refine HJ9.out.mono ?_
                rintro e w' ⟨rfl, rfl⟩
                go_wp2_with fail
                refine ⟨⟨q9, c9, n + 1, _, _, 0, a2, false, rfl, rfl, rfl, HO9, by omega, HC9, HD9, .inl ⟨rfl, _, j, rfl, hj, by omega, HG9, .inr ⟨rfl, f, by omega, .inr HF.out, HT⟩⟩⟩, ?_⟩
                rw [HMS2.out, HMS.out]
                simp [intOf]; omega
              | false =>
                rw [hjc] at HJ9
                have HE := Lib.hid (show RR = .error (50, j) from by
                  rw [← HT.out]
                  unfold tailF
                  rw [if_neg (by rw [hjf]; simp), if_neg (by rw [hjc]; simp)])
                have HB := Lib.hid (bad_d HD9.out 50 j)
                clear hjf hjc
                go_wp2_with fail
                go_at_call 37
                refine HI9.out.mono ?_
                rintro e w' ⟨rfl, rfl⟩
                go_wp2_with fail
                go_at_call 37
                refine HJ9.out.mono ?_
                rintro e w' ⟨rfl, rfl⟩
                go_wp2_with fail
                go_at_call 39
                refine HB.out.mono ?_
                rintro e w8 ⟨rfl, hc8, hd8⟩
                have HO8 := Lib.hid (own_chg HO9.out hc8 (fun k hk e => by subst e; exact hnb9.out hk))
                have HC8 := Lib.hid (HC9.out.then hc8)
                have HD8 := Lib.hid hd8
                have HMS3 := Lib.hid (fun iv => lvMs_f (iv := iv) hd8 (by decide))
                clear hc8 hd8
                go_wp2_with fail
                refine ⟨⟨q9, c9, n + 1, _, _, 50, _, false, rfl, rfl, rfl, HO8, by omega, HC8, HD8, .inr ⟨by decide, Lib.hid ⟨50, j, HE.out, rfl, by decide, rfl⟩⟩⟩, ?_⟩
                rw [HMS3.out, HMS.out]
                simp [intOf]; omega
        · obtain rfl : i + 1 = p := by simpa using hp
          have HX1 := Lib.hid (HX.out (i + 1) hil)
          have HW := Lib.hid (wantD_yes (s := ⟨#[44]⟩) HD.out hil h44)
          clear hp hpl h44
          go_wp2_with (first | (go_at_call 37; refine HI.out.mono ?_; rintro e w' ⟨rfl, rfl⟩) | (go_at_call 41; refine HW.out.mono ?_; rintro e w' ⟨rfl, rfl⟩))
          go_at_call 89
          refine HX1.out.mono ?_
          rintro e w1 ⟨q1, c1, x, z1, er1, a2, rfl, ho1, hp1, hc1, hC1, hd1, hm1⟩
          have hnb := own_not HD.out HO.out (by decide)
          have hro := own_chg HO.out hC1 (fun k hk e => by subst e; exact hnb hk)
          have hnew := row_new w1 [.slice q1 x.length c1] 49
          have hone := one_slice q1 x.length c1
          have hwsz := HC.out.size
          have hws1 := hC1.size
          have HM1 := Lib.hid hm1
          have HD1 := Lib.hid hd1
          have HO1 := Lib.hid ho1
          have HC1 := Lib.hid hC1
          clear hm1 hd1 ho1 hC1 hnb
          go_wp2_with (at_builtin; refine wpList_append_own_at _ rfl _ _ 45 rfl w.heap.size 49 j0 _ 1 24 Tryz.underlying45 hj0 hy0 hy1 hy2 rfl (by decide) _ _ _ rfl (hro.alloc _) ⟨w1.heap.size, 0, none⟩ 1 1 [.slice q1 x.length c1] rfl rfl hnew hone (by unfold maxLen; omega) (by omega) (by simp; omega) ?_)
          intro v9 w9 ho9 hg9 hxx hat9
          obtain ⟨q9, c9, rfl⟩ := own_shape ho9
          have HD9 := Lib.hid (HD1.out.grown hro (by decide) (by decide) ((Chg.refl _ _).alloc _) hg9)
          have hC9 : Chg (fun k => k = D.bt) w w9 := (HC.out.then HC1.out).trans (((Chg.refl (fun k => (Value.slice q n c).ownBlock = some k) w1).alloc _).then (grown_chg hg9 (fun k hk => .inl hk))) (fun k hk => .inr (hro.lt k hk).1)
          have HC9 := Lib.hid hC9
          have HG9 := Lib.hid (lt_end (m := m) HBT.out hwsz HO.out HG.out HC1.out HO1.out hg9 (by simpa using hat9))
          have HO9 := Lib.hid ho9
          have hnb9 := Lib.hid (own_not HD9.out ho9 (by decide))
          clear hxx hat9 hg9 hro hnew hC9 ho9
          cases hpx : Syn.expr (Tk D.ys) (D.ys.length + 1) (i + 1) with
          | error qq =>
            have hh := HL.out
            have hm1 := HM1.out
            rw [hpx] at hh hm1
            obtain ⟨k, t⟩ := qq
            obtain ⟨rfl, her, h2⟩ := hm1
            have HE := Lib.hid (show ∃ k t, RR = .error (k, t) ∧ er1 = k ∧ k ≠ 0 ∧ a2 = (tk D.ys D.len t).a from ⟨er1, t, hh.symm, rfl, her, h2⟩)
            have HIF := Lib.hid (fun z s => is_f HD9.out her z s)
            have HBF := Lib.hid (fun x z => bad_f HD9.out her x z)
            have HMS2 := Lib.hid (fun iv => lvMs_f (iv := iv) HD9.out her)
            clear hh hpx h2
            go_wp2_with fail
            go_at_call 37
            refine (HIF.out _ _).mono ?_
            rintro e w' ⟨rfl, rfl⟩
            go_wp2_with fail
            go_at_call 37
            refine (HIF.out _ _).mono ?_
            rintro e w' ⟨rfl, rfl⟩
            go_wp2_with fail
            go_at_call 39
            refine (HBF.out _ _).mono ?_
            rintro e w' ⟨rfl, rfl⟩
            go_wp2_with fail
            refine ⟨⟨q9, c9, n + 1, _, z1, er1, a2, false, rfl, rfl, rfl, HO9, by omega, HC9, HD9, .inr ⟨her, HE⟩⟩, ?_⟩
            rw [HMS2.out, HMS.out]
            simp [intOf]; omega
          | ok qq =>
            obtain ⟨x0, j⟩ := qq
            have hcn := Syn.expr_cnt (T := Tk D.ys) (F := D.ys.length + 1) 12 _ _ _ hpx
            have hft := (Syn.expr_fit (tk_nones D.ys) (F := D.ys.length + 1) (by omega) 12 (i + 1) (by omega)).1
            have hh := HL.out
            have hm1 := HM1.out
            have hpx2 : Syn.exprD (Tk D.ys) (D.ys.length + 1) 12 (i + 1) = .ok (x0, j) := hpx
            rw [hpx2] at hft
            have hj : j ≤ D.ys.length := hft
            rw [hpx] at hh hm1
            obtain ⟨rfl, rfl, rfl⟩ := hm1
            have hh : tailF (Tk D.ys) (Syn.expr (Tk D.ys) (D.ys.length + 1)) (bl s) f (acc ++ [x]) j = RR := hh
            have HT := Lib.hid hh
            have HMS2 := Lib.hid (lvMs_0 (iv := .int .i64 (j : Nat)) HD9.out)
            clear hh hpx hpx2 hft
            have HI9 := Lib.hid (is_d HD9.out j s)
            have HJ9 := Lib.hid (is_d HD9.out j ⟨#[44]⟩)
            have hIC : bl ⟨#[44]⟩ = ([44] : List Nat) := rfl
            rw [hIC] at HJ9
            cases hjf : Syn.is (Tk D.ys) j (bl s) with
            | true =>
              rw [hjf] at HI9
              have HF := Lib.hid hjf
              clear hjf
              go_wp2_with (go_at_call 37; refine HI9.out.mono ?_; rintro e w' ⟨rfl, rfl⟩)
              refine ⟨⟨q9, c9, n + 1, _, _, 0, a2, false, rfl, rfl, rfl, HO9, by omega, HC9, HD9, .inl ⟨rfl, _, j, rfl, hj, by omega, HG9, .inr ⟨rfl, f, by omega, .inl HF.out, HT⟩⟩⟩, ?_⟩
              rw [HMS2.out, HMS.out]
              simp [intOf]; omega
            | false =>
              rw [hjf] at HI9
              cases hjc : Syn.is (Tk D.ys) j [44] with
              | true =>
                rw [hjc] at HJ9
                have HF := Lib.hid hjc
                clear hjf hjc
                go_wp2_with fail
                go_at_call 37
                refine HI9.out.mono ?_
                rintro e w' ⟨rfl, rfl⟩
                go_wp2_with fail
                go_at_call 37
                refine HJ9.out.mono ?_
                rintro e w' ⟨rfl, rfl⟩
                go_wp2_with fail
                refine ⟨⟨q9, c9, n + 1, _, _, 0, a2, false, rfl, rfl, rfl, HO9, by omega, HC9, HD9, .inl ⟨rfl, _, j, rfl, hj, by omega, HG9, .inr ⟨rfl, f, by omega, .inr HF.out, HT⟩⟩⟩, ?_⟩
                rw [HMS2.out, HMS.out]
                simp [intOf]; omega
              | false =>
                rw [hjc] at HJ9
                have HE := Lib.hid (show RR = .error (50, j) from by
                  rw [← HT.out]
                  unfold tailF
                  rw [if_neg (by rw [hjf]; simp), if_neg (by rw [hjc]; simp)])
                have HB := Lib.hid (bad_d HD9.out 50 j)
                clear hjf hjc
                go_wp2_with fail
                go_at_call 37
                refine HI9.out.mono ?_
                rintro e w' ⟨rfl, rfl⟩
                go_wp2_with fail
                go_at_call 37
                refine HJ9.out.mono ?_
                rintro e w' ⟨rfl, rfl⟩
                go_wp2_with fail
                go_at_call 39
                refine HB.out.mono ?_
                rintro e w8 ⟨rfl, hc8, hd8⟩
                have HO8 := Lib.hid (own_chg HO9.out hc8 (fun k hk e => by subst e; exact hnb9.out hk))
                have HC8 := Lib.hid (HC9.out.then hc8)
                have HD8 := Lib.hid hd8
                have HMS3 := Lib.hid (fun iv => lvMs_f (iv := iv) hd8 (by decide))
                clear hc8 hd8
                go_wp2_with fail
                refine ⟨⟨q9, c9, n + 1, _, _, 50, _, false, rfl, rfl, rfl, HO8, by omega, HC8, HD8, .inr ⟨by decide, Lib.hid ⟨50, j, HE.out, rfl, by decide, rfl⟩⟩⟩, ?_⟩
                rw [HMS3.out, HMS.out]
                simp [intOf]; omega
    · have e0 : ((er : Int) == 0) = false := by simp; omega
      have HW := Lib.hid (fun z s => wantD_f HD.out her z s)
      go_wp2_with (go_at_call 41; refine (HW.out _ _).mono ?_; rintro e w' ⟨⟨z2, rfl⟩, rfl⟩)
      go_ret2
      obtain ⟨k, t, hr, h1, h2, h3⟩ := HE.out
      exact ⟨q, c, n, cs, _, er, a1, rfl, HO.out, HC.out, HD.out, by rw [hr]; exact ⟨h1, h2, h3⟩⟩
end
end Go.Proofs.YtnmcjkabihihiaaGreatDoor

/- The document's lists and blocks in either mode; a block that would be too deep. -/
namespace Go.Proofs.YtnmcjkabihihiaaGreatDoor
open Go Go.RowKit Go.Proofs.Mm

section
variable {D : DC} {nv bv : Value} {er a : Nat} {w : World} {α : Type}
theorem listFl (h : DS D nv bv er a w) (he : er ≠ 0) (z : Int) (s : ByteArray) : Calls Tryz.prog 69 #[PB D, .int .i64 z, .string s] w fun e w' => (∃ z : Int, e = .returned (.tuple #[.slice none 0 0, .int .i64 z])) ∧ w = w' := by
  have HW := Lib.hid (fun z s => wantD_f h he z s)
  obtain ⟨qr, _, _, x2, _⟩ := h.raw
  have e0 : ((er : Int) == 0) = false := by simp; omega
  clear h
  go_enter Tryz.func69, Tryz.ntmps69
  go_wp2_with fail
  go_loopw [8, 1, 9] (fun lv iv fv wr => lv = .slice none 0 0 ∧ (∃ z : Int, iv = .int .i64 z) ∧ (∃ b : Bool, fv = .bool b) ∧ wr = w) (fun _ _ _ _ => 0)
  case atStart => exact ⟨rfl, ⟨_, rfl⟩, ⟨_, rfl⟩, rfl⟩
  case round =>
    obtain ⟨rfl, ⟨z3, rfl⟩, ⟨b, rfl⟩, rfl⟩ := hrel
    go_wp2_with (go_at_call 41; refine (HW.out _ _).mono ?_; rintro e w' ⟨⟨z2, rfl⟩, rfl⟩)
    go_ret2
    exact ⟨⟨_, rfl⟩, rfl⟩
/-- Expressions, in either mode. -/
theorem listA {m : Mem} {r : Syn.R α} {z : Int} (h : DS D nv bv er a w) (hm : Has w m) (hbm : m D.bt = none) (hr : Cu D r z er a) (s : ByteArray) :
    Calls Tryz.prog 69 #[PB D, .int .i64 z, .string s] w fun e w' => ∃ q c n cs z' er' a', e = .returned (.tuple #[.slice q n c, .int .i64 z']) ∧ w'.ownsRow w.heap.size 49 1 (.slice q n c) n cs ∧ Chg (fun k => k = D.bt) w w' ∧ DS D nv bv er' a' w' ∧ Cu D (r.on fun x i => (Syn.list (Tk D.ys) (D.ys.length + 1) (bl s) i).on fun l j => .ok ((x, l), j)) z' er' a' ∧
      ∀ x l j, (r.on fun x i => (Syn.list (Tk D.ys) (D.ys.length + 1) (bl s) i).on fun l j => (.ok ((x, l), j) : Syn.R (α × List (List Syn.Tm)))) = .ok ((x, l), j) → ExG D m w q n c cs l w' := by
  have hfew := h.few
  rcases hr.cases with ⟨x, j, rfl, rfl, rfl, hj⟩ | ⟨k, t, rfl, rfl, hk, rfl⟩
  · refine (listD h hm hbm hj s).mono ?_
    rintro e w' ⟨q, c, n, cs, z', er', a', rfl, h1, h2, h3, h4⟩
    refine ⟨q, c, n, cs, z', er', a', rfl, h1, h2, h3, ?_⟩
    have hft := Syn.list_fit (tk_nones D.ys) (F := D.ys.length + 1) (by omega) (bl s) hj
    change Cu D ((Syn.list (Tk D.ys) (D.ys.length + 1) (bl s) j).on fun l j => .ok ((x, l), j)) z' er' a' ∧ ∀ x0 l0 j0, ((Syn.list (Tk D.ys) (D.ys.length + 1) (bl s) j).on fun l j => (.ok ((x, l), j) : Syn.R (α × List (List Syn.Tm)))) = .ok ((x0, l0), j0) → ExG D m w q n c cs l0 w'
    cases hR : Syn.list (Tk D.ys) (D.ys.length + 1) (bl s) j with
    | error qq =>
      rw [hR] at h4
      obtain ⟨k, t⟩ := qq
      exact ⟨h4, fun x0 l0 j0 e => by cases e⟩
    | ok qq =>
      rw [hR] at h4 hft
      obtain ⟨l1, j1⟩ := qq
      obtain ⟨rfl, rfl, hg⟩ := h4
      refine ⟨⟨rfl, rfl, hft⟩, fun x0 l0 j0 e => ?_⟩
      injection e with e; injection e with e _; injection e with _ e
      rw [← e]; exact hg
  · refine (listFl h hk z s).mono ?_
    rintro e w' ⟨⟨z', rfl⟩, rfl⟩
    exact ⟨none, 0, 0, [], z', er, _, rfl, World.ownsRow_nil _ _ _ _, Chg.refl _ _, h, ⟨rfl, hk, rfl⟩, fun x0 l0 j0 e => by cases e⟩
set_option maxRecDepth 100000 in
theorem block_deepD {m : Mem} {w0 : World} {N : Nat} (hN : 65536 ≤ N) :
    SdD D nv m w0 N 90 (fun i => #[PB D, .int .i64 (i : Nat), .int .i64 ((13 : Nat) : Int)]) (Syn.block (Tk D.ys) (D.ys.length + 1) none) := by
  intro W acc i q c n cs a hi hn hr hg h hsz
  have hfew := h.few
  have HNB := Lib.hid (own_not h hr (by decide))
  have HR := Lib.hid hr
  have HI := Lib.hid (is_d h i ⟨#[123]⟩)
  have key : ∀ (er : Nat) (w1 : World) (e : Nat) (_ : er ≠ 0) (_ : Chg (fun k => k = D.bt) W w1) (_ : DS D nv (.slice q n c) er (tk D.ys D.len i).a w1) (_ : Syn.block (Tk D.ys) (D.ys.length + 1) none i = .error (er, i)) (z : Int), SdR D nv m w0 N acc (Syn.block (Tk D.ys) (D.ys.length + 1) none i) W (.returned (.int .i64 z)) w1 := by
    intro er w1 _ he hc hd hE z
    refine ⟨q, c, n, cs, z, er, _, rfl, own_chg HR.out hc (fun k hk e => by subst e; exact HNB.out hk), by omega, hc.mono (fun k e => .inl (.inl e)), hd, ?_⟩
    rw [hE]; exact ⟨rfl, he, rfl⟩
  have KEY := Lib.hid key
  cases hx : Syn.is (Tk D.ys) i (bl ⟨#[123]⟩) with
  | true =>
    have HE := Lib.hid (show Syn.block (Tk D.ys) (D.ys.length + 1) none i = .error (51, i) from by
      unfold Syn.block
      simp only
      rw [if_pos (by rw [show ([123] : List Nat) = bl ⟨#[123]⟩ from rfl]; exact hx)])
    rw [hx] at HI
    have HB := Lib.hid (bad_d h 51 i)
    have hdd : (12 : Int) < ((13 : Nat) : Int) := by decide
    clear h hx hr hg key
    go_enter Tryz.func90, Tryz.ntmps90
    go_wp2_with (first | (go_at_call 37; refine HI.out.mono ?_; rintro e w' ⟨rfl, rfl⟩))
    go_at_call 39
    refine HB.out.mono ?_
    rintro e w1 ⟨rfl, hc1, hd1⟩
    have HWF := Lib.hid (fun z s => wantD_f hd1 (by decide) z s)
    have HC1 := Lib.hid hc1
    have HD1 := Lib.hid hd1
    obtain ⟨qr, _, _, x2, _⟩ := hd1.raw
    have e0 : (((51 : Nat) : Int) == 0) = false := by decide
    clear hc1 hd1
    go_wp2_with (go_at_call 41; refine (HWF.out _ _).mono ?_; rintro e w' ⟨⟨z2, rfl⟩, rfl⟩)
    go_loopw [1] (fun iv wr => (∃ z : Int, iv = .int .i64 z) ∧ wr = w1) (fun _ _ => 0)
    case atStart => exact ⟨⟨_, rfl⟩, rfl⟩
    case round =>
      obtain ⟨⟨z3, rfl⟩, rfl⟩ := hrel
      go_wp2_with (go_at_call 41; refine (HWF.out _ _).mono ?_; rintro e w' ⟨⟨z2, rfl⟩, rfl⟩)
      go_ret
      exact KEY.out 51 _ 0 (by decide) HC1.out HD1.out HE.out _
  | false =>
    have HE := Lib.hid (show Syn.block (Tk D.ys) (D.ys.length + 1) none i = .error (50, i) from by
      unfold Syn.block
      simp only
      rw [if_neg (by rw [show ([123] : List Nat) = bl ⟨#[123]⟩ from rfl, hx]; simp)])
    rw [hx] at HI
    have HW := Lib.hid (wantD_no h (by omega) hx)
    clear h hx hr hg key
    go_enter Tryz.func90, Tryz.ntmps90
    go_wp2_with (first | (go_at_call 37; refine HI.out.mono ?_; rintro e w' ⟨rfl, rfl⟩))
    go_at_call 41
    refine HW.out.mono ?_
    rintro e w1 ⟨⟨z1, rfl⟩, hc1, hd1⟩
    have HWF := Lib.hid (fun z s => wantD_f hd1 (by decide) z s)
    have HC1 := Lib.hid hc1
    have HD1 := Lib.hid hd1
    obtain ⟨qr, _, _, x2, _⟩ := hd1.raw
    have e0 : (((50 : Nat) : Int) == 0) = false := by decide
    clear hc1 hd1
    go_wp2_with fail
    go_loopw [1] (fun iv wr => (∃ z : Int, iv = .int .i64 z) ∧ wr = w1) (fun _ _ => 0)
    case atStart => exact ⟨⟨_, rfl⟩, rfl⟩
    case round =>
      obtain ⟨⟨z3, rfl⟩, rfl⟩ := hrel
      go_wp2_with (go_at_call 41; refine (HWF.out _ _).mono ?_; rintro e w' ⟨⟨z2, rfl⟩, rfl⟩)
      go_ret
      exact KEY.out 50 _ 0 (by decide) HC1.out HD1.out HE.out _
/-- A block, in either mode. -/
theorem blockA {m : Mem} {w0 W : World} {N : Nat} {acc : List Syn.St} {args : Nat → Array Value} {d : Int} {p : Nat → Syn.R (List Syn.St)} (hargs : ∀ i : Nat, args i = #[PB D, .int .i64 (i : Nat), .int .i64 d]) (hB : SdD D nv m w0 N 90 args p) (hfit : ∀ i, i ≤ D.ys.length → Syn.Fit D.ys.length (p i))
    {r : Syn.R α} {z : Int} {q : Option Addr} {n c : Nat} {cs : List Value} (hro : W.ownsRow w0.heap.size 47 4 (.slice q n c) n cs) (hnN : n ≤ N) (h : DS D nv (.slice q n c) er a W) (hsz : w0.heap.size ≤ W.heap.size) (hr : Cu D r z er a)
    (hg : ∀ x i, r = .ok (x, i) → n ≤ i ∧ BdG D m w0 q n c cs acc W) :
    Calls Tryz.prog 90 #[PB D, .int .i64 z, .int .i64 d] W fun e W' => ∃ q' c' n' cs' z' er' a', e = .returned (.int .i64 z') ∧ W'.ownsRow w0.heap.size 47 4 (.slice q' n' c') n' cs' ∧ n' ≤ N ∧ Chg (fun k => k = D.bt ∨ w0.heap.size ≤ k) W W' ∧ DS D nv (.slice q' n' c') er' a' W' ∧ Cu D (r.on fun x i => (p i).on fun l j => .ok ((x, l), j)) z' er' a' ∧
      ∀ x l j, (r.on fun x i => (p i).on fun l j => (.ok ((x, l), j) : Syn.R (α × List Syn.St))) = .ok ((x, l), j) → BdG D m w0 q' n' c' cs' (acc ++ l) W' := by
  rcases hr.cases with ⟨x, j, rfl, rfl, rfl, hj⟩ | ⟨k, t, rfl, rfl, hk, rfl⟩
  · obtain ⟨g1, g2⟩ := hg x j rfl
    have := hB W acc j q c n cs a hj g1 hro g2 h hsz
    rw [hargs] at this
    refine this.mono ?_
    rintro e w' ⟨q', c', n', cs', z', er', a', rfl, h1, h2, h3, h4, h5⟩
    refine ⟨q', c', n', cs', z', er', a', rfl, h1, h2, h3, h4, ?_⟩
    have hft := hfit j hj
    change Cu D ((p j).on fun l j => .ok ((x, l), j)) z' er' a' ∧ ∀ x0 l0 j0, ((p j).on fun l j => (.ok ((x, l), j) : Syn.R (α × List Syn.St))) = .ok ((x0, l0), j0) → BdG D m w0 q' n' c' cs' (acc ++ l0) w'
    cases hR : p j with
    | error qq =>
      rw [hR] at h5
      obtain ⟨k, t⟩ := qq
      exact ⟨h5, fun x0 l0 j0 e => by cases e⟩
    | ok qq =>
      rw [hR] at h5 hft
      obtain ⟨l1, j1⟩ := qq
      obtain ⟨rfl, rfl, hg⟩ := h5
      refine ⟨⟨rfl, rfl, hft⟩, fun x0 l0 j0 e => ?_⟩
      injection e with e; injection e with e _; injection e with _ e
      rw [← e]; exact hg
  · refine (blockF h hk z d).mono ?_
    rintro e w' ⟨⟨z', rfl⟩, rfl⟩
    exact ⟨q, c, n, cs, z', er, _, rfl, hro, hnN, Chg.refl _ _, h, ⟨rfl, hk, rfl⟩, fun x0 l0 j0 e => by cases e⟩
/-- Where the reading stands, and what is known of what has been read. -/
def CuP (D : DC) (r : Syn.R α) (P : α → Prop) (z : Int) (er a : Nat) : Prop := Cu D r z er a ∧ ∀ x j, r = .ok (x, j) → P x
theorem CuP.start (x : α) {i : Nat} (hi : i ≤ D.ys.length) {P : α → Prop} (hP : P x) (a : Nat) : CuP D (.ok (x, i)) P (i : Nat) 0 a := ⟨⟨rfl, rfl, hi⟩, fun y j e => by injection e with e; injection e with e _; rw [← e]; exact hP⟩
theorem wantP {r : Syn.R α} {P : α → Prop} {z : Int} (h : DS D nv bv er a w) (hr : CuP D r P z er a) (s : ByteArray) : Calls Tryz.prog 41 #[PB D, .int .i64 z, .string s] w fun e w' => ∃ z' er' a', e = .returned (.int .i64 z') ∧ Chg (fun k => k = D.bt) w w' ∧ DS D nv bv er' a' w' ∧ CuP D (r.on fun x i => (Syn.want (Tk D.ys) i (bl s)).on fun _ j => .ok (x, j)) P z' er' a' := by
  refine (wantA h hr.1 s).mono ?_
  rintro e w' ⟨z', er', a', h1, h2, h3, h4⟩
  refine ⟨z', er', a', h1, h2, h3, h4, fun x j e => ?_⟩
  obtain ⟨x1, i1, k1, k2⟩ := Syn.R.on_ok e
  obtain ⟨u, i2, k3, k4⟩ := Syn.R.on_ok k2
  injection k4 with k4; injection k4 with k4 _
  rw [← k4]; exact hr.2 _ _ k1
theorem nameP {r : Syn.R α} {P : α → Prop} {z : Int} (h : DS D nv bv er a w) (hr : CuP D r P z er a) : Calls Tryz.prog 40 #[PB D, .int .i64 z] w fun e w' => ∃ (t : ByteArray) (z' : Int) (er' a' : Nat), e = .returned (.tuple #[.string t, .int .i64 z']) ∧ Chg (fun k => k = D.bt) w w' ∧ DS D nv bv er' a' w' ∧ CuP D (r.on fun x i => (Syn.name (Tk D.ys) i).on fun t j => .ok ((x, t), j)) (fun y => P y.1 ∧ y.2 = bl t) z' er' a' := by
  refine (nameA h hr.1).mono ?_
  rintro e w' ⟨t, z', er', a', h1, h2, h3, h4, h5⟩
  refine ⟨t, z', er', a', h1, h2, h3, h4, fun y j e => ?_⟩
  have h6 := h5 y.1 y.2 j e
  obtain ⟨x1, i1, k1, k2⟩ := Syn.R.on_ok e
  obtain ⟨u, i2, k3, k4⟩ := Syn.R.on_ok k2
  injection k4 with k4; injection k4 with k4 _
  refine ⟨?_, h6⟩
  rw [← k4]; exact hr.2 _ _ k1
theorem levelP {r : Syn.R α} {P : α → Prop} {z : Int} (h : DS D nv bv er a w) (hr : CuP D r P z er a) : Calls Tryz.prog 89 #[PB D, .int .i64 z, .int .i64 0, .int .i64 0] w fun e w' => ∃ q c l z' er' a', e = .returned (.tuple #[.slice q l.length c, .int .i64 z']) ∧ w'.ownsRow w.heap.size 77 3 (.slice q l.length c) l.length (tmCells l) ∧ 0 < l.length ∧ Chg (fun k => k = D.bt) w w' ∧ DS D nv bv er' a' w' ∧ CuP D (r.on fun x i => (Syn.expr (Tk D.ys) (D.ys.length + 1) i).on fun l j => .ok ((x, l), j)) (fun y => P y.1 ∧ y.2 = l) z' er' a' := by
  refine (levelA h hr.1).mono ?_
  rintro e w' ⟨q, c, l, z', er', a', h1, h2, h3, h4, h5, h6, h7, h8⟩
  refine ⟨q, c, l, z', er', a', h1, h2, h3, h5, h6, h7, fun y j e => ?_⟩
  have h9 := h8 y.1 y.2 j e
  obtain ⟨x1, i1, k1, k2⟩ := Syn.R.on_ok e
  obtain ⟨u, i2, k3, k4⟩ := Syn.R.on_ok k2
  injection k4 with k4; injection k4 with k4 _
  refine ⟨?_, h9⟩
  rw [← k4]; exact hr.2 _ _ k1
theorem listP {m : Mem} {r : Syn.R α} {P : α → Prop} {z : Int} (h : DS D nv bv er a w) (hm : Has w m) (hbm : m D.bt = none) (hr : CuP D r P z er a) (s : ByteArray) :
    Calls Tryz.prog 69 #[PB D, .int .i64 z, .string s] w fun e w' => ∃ q c n cs z' er' a', e = .returned (.tuple #[.slice q n c, .int .i64 z']) ∧ w'.ownsRow w.heap.size 49 1 (.slice q n c) n cs ∧ Chg (fun k => k = D.bt) w w' ∧ DS D nv bv er' a' w' ∧ CuP D (r.on fun x i => (Syn.list (Tk D.ys) (D.ys.length + 1) (bl s) i).on fun l j => .ok ((x, l), j)) (fun y => P y.1 ∧ ExG D m w q n c cs y.2 w') z' er' a' := by
  refine (listA h hm hbm hr.1 s).mono ?_
  rintro e w' ⟨q, c, n, cs, z', er', a', h1, h2, h3, h4, h5, h6⟩
  refine ⟨q, c, n, cs, z', er', a', h1, h2, h3, h4, h5, fun y j e => ?_⟩
  have h7 := h6 y.1 y.2 j e
  obtain ⟨x1, i1, k1, k2⟩ := Syn.R.on_ok e
  obtain ⟨u, i2, k3, k4⟩ := Syn.R.on_ok k2
  injection k4 with k4; injection k4 with k4 _
  refine ⟨?_, h7⟩
  rw [← k4]; exact hr.2 _ _ k1
theorem on_okk {α β : Type} (x : α) (i : Nat) (f : α → Nat → Syn.R β) : Syn.R.on (.ok (x, i)) f = f x i := rfl
theorem sd_end {m : Mem} {w0 W : World} {acc : List Syn.St} {r : Syn.R α} {P : α → Prop} {z : Int} {q : Option Addr} {n c : Nat} {cs : List Value} (hcu : CuP D r P z er a) (G : α → List Syn.St) (hG : ∀ x, P x → BdG D m w0 q n c cs (acc ++ G x) W) :
    SdM D m w0 acc (r.on fun x j => .ok (G x, j)) q n c cs z er a W := by
  obtain ⟨h1, h2⟩ := hcu
  rcases h1.cases with ⟨x, j, rfl, h4, h5, h6⟩ | ⟨k, t, rfl, h4, h5, h6⟩
  · exact ⟨h4, h5, hG x (h2 x j rfl)⟩
  · exact ⟨h4, h5, h6⟩
end
end Go.Proofs.YtnmcjkabihihiaaGreatDoor

/- The document's functions: their small parts in either mode. -/
namespace Go.Proofs.YtnmcjkabihihiaaGreatDoor
open Go Go.RowKit Go.Proofs.Mm

section
variable {D : DC} {nv bv : Value} {er a : Nat} {w : World} {ns : List (List Nat)} {α β : Type}
theorem labelP {r : Syn.R α} {P : α → Prop} {z : Int} (h : DS D nv bv er a w) (hn : NR w nv ns) (hr : CuP D r P z er a) : Calls Tryz.prog 43 #[PB D, .int .i64 z] w fun e w' => ∃ l z' er' a', e = .returned (.tuple #[.int .u64 ((l : Nat) : Int), .int .i64 z']) ∧ l < 18446744073709551616 ∧ Chg (fun k => k = D.bt) w w' ∧ DS D nv bv er' a' w' ∧
    CuP D (r.on fun x i => (Syn.label (Tk D.ys) (D.ys.length + 1) ns i).on fun l j => .ok ((x, l), j)) (fun y => P y.1 ∧ y.2 = l) z' er' a' := by
  have hfew := h.few
  obtain ⟨hr1, hr2⟩ := hr
  rcases hr1.cases with ⟨x, j, rfl, rfl, rfl, hj⟩ | ⟨k, t, rfl, rfl, hk, rfl⟩
  · refine (labelD h hn hj).mono ?_
    have hft := Syn.label_fit (tk_nones D.ys) (F := D.ys.length + 1) (by omega) ns hj
    rintro e w' ⟨hc, ⟨l, j', hx, hl, rfl, hd⟩ | ⟨k, t, l, z, hx, hk, hl, rfl, hd⟩⟩
    · rw [hx] at hft
      refine ⟨l, _, 0, a, rfl, hl, hc, hd, ?_⟩
      rw [on_okk, hx]
      exact ⟨⟨rfl, rfl, hft⟩, fun y j e => by injection e with e; injection e with e _; rw [← e]; exact ⟨hr2 _ _ rfl, rfl⟩⟩
    · refine ⟨l, z, k, _, rfl, hl, hc, hd, ?_⟩
      rw [on_okk, hx]
      exact ⟨⟨rfl, hk, rfl⟩, fun y j e => by cases e⟩
  · refine (labelF h hk z).mono ?_
    rintro e w' ⟨⟨z', rfl⟩, rfl⟩
    exact ⟨0, z', er, _, rfl, by decide, Chg.refl _ _, h, ⟨rfl, hk, rfl⟩, fun y j e => by cases e⟩
theorem declP {r : Syn.R α} {P : α → Prop} {z : Int} (h : DS D nv bv er a w) (hn : NR w nv ns) (hr : CuP D r P z er a) : Calls Tryz.prog 42 #[PB D, .int .i64 z] w fun e w' => ∃ (d : Syn.De) (z' : Int) (er' a' : Nat), e = .returned (.tuple #[.agg #[.string (sb d.name), .int .u64 (d.label : Nat)], .int .i64 z']) ∧ d.label < 18446744073709551616 ∧ Chg (fun k => k = D.bt) w w' ∧ DS D nv bv er' a' w' ∧
    CuP D (r.on fun x i => (Syn.decl (Tk D.ys) (D.ys.length + 1) ns i).on fun l j => .ok ((x, l), j)) (fun y => P y.1 ∧ y.2 = d) z' er' a' := by
  have hfew := h.few
  obtain ⟨hr1, hr2⟩ := hr
  rcases hr1.cases with ⟨x, j, rfl, rfl, rfl, hj⟩ | ⟨k, t, rfl, rfl, hk, rfl⟩
  · refine (declD h hn hj).mono ?_
    have hft := Syn.decl_fit (tk_nones D.ys) (F := D.ys.length + 1) (by omega) ns hj
    rintro e w' ⟨hc, ⟨d, j', hx, hl, rfl, hd⟩ | ⟨k, t, l, s, z, hx, hk, hl, rfl, hd⟩⟩
    · rw [hx] at hft
      refine ⟨d, _, 0, a, rfl, hl, hc, hd, ?_⟩
      rw [on_okk, hx]
      exact ⟨⟨rfl, rfl, hft⟩, fun y j e => by injection e with e; injection e with e _; rw [← e]; exact ⟨hr2 _ _ rfl, rfl⟩⟩
    · refine ⟨⟨bl s, l⟩, z, k, _, by rw [sb_bl], hl, hc, hd, ?_⟩
      rw [on_okk, hx]
      exact ⟨⟨rfl, hk, rfl⟩, fun y j e => by cases e⟩
  · refine (declF h hk z).mono ?_
    rintro e w' ⟨⟨z', rfl⟩, hc⟩
    refine ⟨⟨[], 0⟩, z', er, _, rfl, by decide, hc.mono (fun _ e => e.elim), h.chg hc (fun e => e) (fun e => e), ⟨rfl, hk, rfl⟩, fun y j e => by cases e⟩
/-- A fault, unless there is one. -/
theorem badP {r : Syn.R α} {P : α → Prop} {z : Int} (h : DS D nv bv er a w) (hr : CuP D r P z er a) : Calls Tryz.prog 39 #[PB D, .int .i64 50, .int .i64 z] w fun e w' => ∃ er' a', e = .returned (.tuple #[]) ∧ Chg (fun k => k = D.bt) w w' ∧ DS D nv bv er' a' w' ∧ er' ≠ 0 ∧ Cu D (r.on fun _ i => (.error (50, i) : Syn.R β)) z er' a' := by
  rcases hr.1.cases with ⟨x, j, rfl, rfl, rfl, hj⟩ | ⟨k, t, rfl, rfl, hk, rfl⟩
  · refine (bad_d h 50 j).mono ?_
    rintro e w' ⟨rfl, hc, hd⟩
    exact ⟨50, _, rfl, hc, hd, by decide, rfl, by decide, rfl⟩
  · refine (bad_f h hk 50 z).mono ?_
    rintro e w' ⟨rfl, rfl⟩
    exact ⟨er, _, rfl, Chg.refl _ _, h, hk, rfl, hk, rfl⟩
/-- What has been read ahead, and what the last call has read. -/
theorem CuP.pair {r : Syn.R α} {P : α → Prop} {q : Nat → Syn.R β} {Q : β → Prop} {z : Int} (hP : ∀ x j, r = .ok (x, j) → P x) (h : CuP D (r.on fun _ i => q i) Q z er a) : CuP D (r.on fun x i => (q i).on fun y j => .ok ((x, y), j)) (fun y => P y.1 ∧ Q y.2) z er a := by
  cases r with
  | error e => exact ⟨h.1, fun y j e => by cases e⟩
  | ok p =>
    obtain ⟨x, i⟩ := p
    rw [on_okk] at h ⊢
    cases hq : q i with
    | error e =>
      rw [hq] at h
      exact ⟨h.1, fun y j e => by cases e⟩
    | ok p2 =>
      obtain ⟨y, j⟩ := p2
      rw [hq] at h
      exact ⟨h.1, fun y' j' e => by
        injection e with e; injection e with e _
        rw [← e]; exact ⟨hP x i rfl, h.2 _ _ rfl⟩⟩
/-- A row that grows in a field of the function's block at g, from the world W1 on. -/
def RoW (R : List Value → β → Prop) (E : TypeId) (size : Nat) (arr : Value → Array Value) (T : TypeId) (g : Nat) (D : DC) (nv bv : Value) (ns : List (List Nat)) (W1 : World) (q : Option Addr) (c : Nat) (acc : List β) (er a : Nat) (wr : World) : Prop :=
  wr.heap[g]? = some (.cells (arr (.slice q acc.length c)) T (0, 0)) ∧ (∃ cs, wr.ownsRow W1.heap.size E size (.slice q acc.length c) acc.length cs ∧ Enc R cs acc) ∧ Chg (fun k => k = D.bt ∨ k = g) W1 wr ∧ DS D nv bv er a wr ∧ NR wr nv ns
/-- Which rows may grow. -/
structure Tyd (T E : TypeId) : Prop where
  te : T ≠ E
  es : E ≠ 9
  ts : T ≠ 9
  ew : E ≠ 104
  tw : T ≠ 104
  ep : E ≠ 66
  tp : T ≠ 66
theorem tyd_de : Tyd 41 75 := ⟨by decide, by decide, by decide, by decide, by decide, by decide, by decide⟩
theorem tyd_la : Tyd 41 37 := ⟨by decide, by decide, by decide, by decide, by decide, by decide, by decide⟩
section
variable {R : List Value → β → Prop} {E : TypeId} {size : Nat} {arr : Value → Array Value} {T : TypeId} {g : Nat} {W1 wr w1 w9 : World} {q q9 : Option Addr} {c c9 : Nat} {acc : List β}
/-- Behind a call of the parser. -/
theorem RoW.next (h : RoW R E size arr T g D nv bv ns W1 q c acc er a wr) (ht : Tyd T E) {er' a' : Nat} (hc : Chg (fun k => k = D.bt) wr w1) (hd : DS D nv bv er' a' w1) : RoW R E size arr T g D nv bv ns W1 q c acc er' a' w1 := by
  obtain ⟨h1, ⟨cs, h2, h3⟩, h4, h5, h6⟩ := h
  refine ⟨hc.heap h1 (blk_ne h1 h5.st ht.tp), ⟨cs, own_chg h2 hc (fun k hk e => by subst e; exact own_not h5 h2 ht.ep hk), h3⟩, h4.trans hc (fun k e => .inl (.inl e)), hd, ⟨own_chg h6.1 hc (fun k hk e => by subst e; exact own_not h5 h6.1 (by decide) hk), h6.2⟩⟩
/-- One more. -/
theorem RoW.add {kf : Nat} {x : β} {news cs : List Value} {o : Obj} (h : RoW R E size arr T g D nv bv ns W1 q c acc er a w1) (ht : Tyd T E) (harr : ∀ v v', (arr v).setIfInBounds kf v' = arr v') (hR : R news x) (he : Enc R cs acc)
    (hown9 : w9.ownsRow W1.heap.size E size (.slice q9 (acc.length + 1) c9) (acc.length + 1) (cs ++ news)) (hgrow9 : (w1.alloc o).grownBy w9 (Value.ownBlock (.slice q acc.length c))) :
    RoW R E size arr T g D nv bv ns W1 q9 c9 (acc ++ [x]) er a (w9.setCell ⟨g, kf, none⟩ (.slice q9 (acc.length + 1) c9)) ∧ w9.heap[g]? = some (.cells (arr (.slice q acc.length c)) T (0, 0)) := by
  obtain ⟨h1, ⟨cs0, h2, h3⟩, h4, h5, h6⟩ := h
  have hll : (acc ++ [x]).length = acc.length + 1 := by simp
  have hg0 : Chg (fun k => Value.ownBlock (.slice q acc.length c) = some k) w1 w9 := ((Chg.refl _ w1).alloc o).then (grown_chg hgrow9 (fun k e => .inl e))
  have g1 : w9.heap[g]? = some (.cells (arr (.slice q acc.length c)) T (0, 0)) := hg0.heap h1 (fun e => blk_own h1 h2 ht.te e)
  have hcs : Chg (fun k => k = g) w9 (w9.setCell ⟨g, kf, none⟩ (.slice q9 (acc.length + 1) c9)) := (Chg.refl (fun k => k = g) w9).setCell (p := ⟨g, kf, none⟩) (.inl rfl) _
  have hall : Chg (fun k => Value.ownBlock (.slice q acc.length c) = some k ∨ k = g) w1 (w9.setCell ⟨g, kf, none⟩ (.slice q9 (acc.length + 1) c9)) := (hg0.mono (fun k e => .inl (.inl e))).then (hcs.mono (fun k e => .inl (.inr e)))
  refine ⟨⟨?_, ⟨cs ++ news, ?_, he.app (Enc.one hR)⟩, ?_, ?_, ?_⟩, g1⟩
  · have := heap_set g1 kf (.slice q9 (acc.length + 1) c9)
    rw [harr] at this
    rw [hll]; exact this
  · rw [hll]
    exact own_chg hown9 hcs (fun k hk e => by subst e; exact blk_own g1 hown9 ht.te hk)
  · refine h4.trans hall (fun k e => ?_)
    rcases e with e | e
    · exact .inr (h2.lt k e).1
    · exact .inl (.inr e)
  · refine h5.chg2 hall (fun e => ?_) (fun hn e => ?_)
    · rcases e with e | e
      · exact own_not h5 h2 ht.ep e
      · exact blk_ne h1 h5.st ht.tp e.symm
    · rcases e with e | e
      · exact own_notW h5 h2 ht.ew hn e
      · obtain ⟨_, arr2, e1, _⟩ := h5.tok.resolve_left hn
        exact blk_ne h1 e1 ht.tw e.symm
  · refine ⟨own_chg h6.1 hall (fun k hk e => ?_), h6.2⟩
    rcases e with e | e
    · exact own_own h6.1 h2 ht.es.symm k hk e
    · subst e; exact blk_own h1 h6.1 ht.ts hk
end
end
end Go.Proofs.YtnmcjkabihihiaaGreatDoor

/- The document's functions. -/
namespace Go.Proofs.YtnmcjkabihihiaaGreatDoor
open Go Go.RowKit Go.Proofs.Mm

section
variable {D : DC} {nv bv : Value} {er a : Nat} {w : World} {ns : List (List Nat)} {α β : Type}
theorem func_chain (T : Nat → Option Syn.K) (F : Nat) (ns : List (List Nat)) (i : Nat) : Syn.func T F ns i =
    ((((((((((((Syn.R.on (.ok ((), i)) fun x i => (Syn.name T i).on fun t j => .ok ((x, t), j)).on fun x i => (Syn.label T F ns i).on fun l j => .ok ((x, l), j)).on fun x i => (Syn.want T i [40]).on fun _ j => .ok (x, j)).on fun x i => (ls T F (Syn.decl T F ns) [41] i).on fun l j => .ok ((x, l), j)).on fun x i => (Syn.want T i [40]).on fun _ j => .ok (x, j)).on
      fun x i => (ls T F (Syn.label T F ns) [41] i).on fun l j => .ok ((x, l), j)).on fun x i => (Syn.want T i [123]).on fun _ j => .ok (x, j)).on fun x i => (Syn.varsF T F ns F [] i).on fun l j => .ok ((x, l), j)).on fun x i => (Syn.stmtsF T (Syn.stmtD T F 12) (Syn.tx "return") F [] i).on fun l j => .ok ((x, l), j)).on
      fun x i => (Syn.list T F [59] i).on fun l j => .ok ((x, l), j)).on fun x i => (Syn.want T i [125]).on fun _ j => .ok (x, j)).on fun x j => (.ok (⟨x.1.1.1.1.1.1.2, x.1.1.1.1.1.2, x.1.1.1.1.2, x.1.1.1.2, x.1.1.2, x.1.2 ++ [⟨9, [], [], x.2⟩]⟩, j) : Syn.R Syn.Fn)) := by
  unfold Syn.func
  simp only [row_split, on_on, on_okk]
/-- Where a loop over parameters or results stands. -/
def PmI (p : Nat → Syn.R β) (RR : Syn.R (List β)) (R : List Value → β → Prop) (E : TypeId) (size : Nat) (arr : Value → Array Value) (T : TypeId) (g : Nat) (D : DC) (nv bv : Value) (ns : List (List Nat)) (W1 : World) (iv fv : Value) (wr : World) : Prop :=
  ∃ q c acc z er a b, iv = .int .i64 z ∧ fv = .bool b ∧ Hid (RoW R E size arr T g D nv bv ns W1 q c acc er a wr) ∧ acc.length ≤ 65537 ∧
    ((er = 0 ∧ ∃ i, z = (i : Nat) ∧ i ≤ D.ys.length ∧ acc.length ≤ i ∧
        ((b = true ∧ acc = [] ∧ Hid (ls (Tk D.ys) (D.ys.length + 1) p [41] i = RR)) ∨
         (b = false ∧ ∃ f, D.ys.length < f + i + 1 ∧ (Syn.is (Tk D.ys) i [41] = true ∨ Syn.is (Tk D.ys) i [44] = true) ∧ Hid (tailF (Tk D.ys) p [41] f acc i = RR)))) ∨
     (er ≠ 0 ∧ Hid (∃ k t, RR = .error (k, t) ∧ er = k ∧ k ≠ 0 ∧ a = (tk D.ys D.len t).a)))
/-- At a loop's head: it goes on, from p0 on, or it ends. -/
theorem pm_head {p : Nat → Syn.R β} {RR : Syn.R (List β)} {acc : List β} {z : Int} {b : Bool} (hrel : (er = 0 ∧ ∃ i, z = (i : Nat) ∧ i ≤ D.ys.length ∧ acc.length ≤ i ∧
        ((b = true ∧ acc = [] ∧ Hid (ls (Tk D.ys) (D.ys.length + 1) p [41] i = RR)) ∨
         (b = false ∧ ∃ f, D.ys.length < f + i + 1 ∧ (Syn.is (Tk D.ys) i [41] = true ∨ Syn.is (Tk D.ys) i [44] = true) ∧ Hid (tailF (Tk D.ys) p [41] f acc i = RR)))) ∨
     (er ≠ 0 ∧ Hid (∃ k t, RR = .error (k, t) ∧ er = k ∧ k ≠ 0 ∧ a = (tk D.ys D.len t).a))) :
    (∃ i p0 f, er = 0 ∧ z = (i : Nat) ∧ i ≤ D.ys.length ∧ acc.length ≤ i ∧ Syn.is (Tk D.ys) i [41] = false ∧ p0 ≤ D.ys.length ∧ ((b = true ∧ p0 = i) ∨ (b = false ∧ i < D.ys.length ∧ Syn.is (Tk D.ys) i [44] = true ∧ i + 1 = p0)) ∧ D.ys.length < f + 1 + p0 ∧ (p p0).on (fun x j => tailF (Tk D.ys) p [41] f (acc ++ [x]) j) = RR) ∨
    ((er = 0 ∧ ∃ i : Nat, z = (i : Nat) ∧ i < D.ys.length ∧ Syn.is (Tk D.ys) i [41] = true ∧ RR = .ok (acc, i + 1)) ∨ (er ≠ 0 ∧ ∃ k t, RR = .error (k, t) ∧ er = k ∧ k ≠ 0 ∧ a = (tk D.ys D.len t).a)) := by
  rcases hrel with ⟨rfl, i, rfl, hi, hni, hst⟩ | ⟨her, HE⟩
  · cases hf : Syn.is (Tk D.ys) i [41] with
    | true =>
      refine .inr (.inl ⟨rfl, i, rfl, Syn.is_lt (tk_nones D.ys) hf, hf, ?_⟩)
      rcases hst with ⟨_, rfl, HL⟩ | ⟨_, f, _, _, HL⟩
      · rw [← HL.out]; exact if_pos hf
      · rw [← HL.out]; exact if_pos hf
    | false =>
      refine .inl ?_
      rcases hst with ⟨rfl, rfl, HL⟩ | ⟨rfl, f, hf2, hor, HL⟩
      · refine ⟨i, i, D.ys.length, rfl, rfl, hi, hni, hf, hi, .inl ⟨rfl, rfl⟩, by omega, ?_⟩
        have := HL.out
        unfold ls at this
        rw [if_neg (by rw [hf]; simp)] at this
        exact this
      · rw [hf] at hor
        have hor := hor.resolve_left (by simp)
        have hil : i < D.ys.length := Syn.is_lt (tk_nones D.ys) hor
        obtain ⟨f, rfl⟩ : ∃ f', f = f' + 1 := ⟨f - 1, by omega⟩
        refine ⟨i, i + 1, f, rfl, rfl, hi, hni, hf, hil, .inr ⟨rfl, hil, hor, rfl⟩, by omega, ?_⟩
        have := HL.out
        unfold tailF at this
        rw [if_neg (by rw [hf]; simp), if_pos hor] at this
        exact this
  · exact .inr (.inr ⟨her, HE.out⟩)
/-- At a loop's end: what closes it. -/
theorem pm_want {RR : Syn.R (List β)} {acc : List β} {z : Int} (h : DS D nv bv er a w) (hx : (er = 0 ∧ ∃ i : Nat, z = (i : Nat) ∧ i < D.ys.length ∧ Syn.is (Tk D.ys) i [41] = true ∧ RR = .ok (acc, i + 1)) ∨ (er ≠ 0 ∧ ∃ k t, RR = .error (k, t) ∧ er = k ∧ k ≠ 0 ∧ a = (tk D.ys D.len t).a)) :
    Calls Tryz.prog 41 #[PB D, .int .i64 z, .string ⟨#[41]⟩] w fun e w' => ∃ z' er' a', e = .returned (.int .i64 z') ∧ Chg (fun k => k = D.bt) w w' ∧ DS D nv bv er' a' w' ∧ CuP D RR (fun x => x = acc) z' er' a' := by
  rcases hx with ⟨rfl, i, rfl, hi, hf, hR⟩ | ⟨her, k, t, hR, h1, h2, h3⟩
  · refine (wantD_yes (s := ⟨#[41]⟩) h hi hf).mono ?_
    rintro e w' ⟨rfl, rfl⟩
    refine ⟨_, 0, a, rfl, Chg.refl _ _, h, ?_⟩
    rw [hR]
    exact ⟨⟨rfl, rfl, hi⟩, fun x j e => by injection e with e; injection e with e _; exact e.symm⟩
  · refine (wantD_f h her z _).mono ?_
    rintro e w' ⟨⟨z', rfl⟩, rfl⟩
    refine ⟨z', er, a, rfl, Chg.refl _ _, h, ?_⟩
    rw [hR]
    exact ⟨⟨h1, h2, h3⟩, fun x j e => by cases e⟩
theorem pm_start {α : Type} {r : Syn.R α} {P : α → Prop} {p : Nat → Syn.R β} {z : Int} (hr : CuP D r P z er a) : (er = 0 ∧ ∃ i, z = (i : Nat) ∧ i ≤ D.ys.length ∧ ([] : List β).length ≤ i ∧
        ((true = true ∧ ([] : List β) = [] ∧ Hid (ls (Tk D.ys) (D.ys.length + 1) p [41] i = r.on fun _ i => ls (Tk D.ys) (D.ys.length + 1) p [41] i)) ∨
         (true = false ∧ ∃ f, D.ys.length < f + i + 1 ∧ (Syn.is (Tk D.ys) i [41] = true ∨ Syn.is (Tk D.ys) i [44] = true) ∧ Hid (tailF (Tk D.ys) p [41] f [] i = r.on fun _ i => ls (Tk D.ys) (D.ys.length + 1) p [41] i)))) ∨
     (er ≠ 0 ∧ Hid (∃ k t, (r.on fun _ i => ls (Tk D.ys) (D.ys.length + 1) p [41] i) = .error (k, t) ∧ er = k ∧ k ≠ 0 ∧ a = (tk D.ys D.len t).a)) := by
  rcases hr.1.cases with ⟨x, j, rfl, rfl, rfl, hj⟩ | ⟨k, t, rfl, h1, h2, h3⟩
  · exact .inl ⟨rfl, j, rfl, hj, Nat.zero_le _, .inl ⟨rfl, rfl, Lib.hid rfl⟩⟩
  · exact .inr ⟨by omega, Lib.hid ⟨k, t, rfl, h1, h2, h3⟩⟩
/-- Behind one more: the loop goes on, or a fault. -/
theorem pm_next {p : Nat → Syn.R β} {RR : Syn.R (List β)} {acc : List β} {x0 : β} {z : Int} {p0 f : Nat} (hL : (p p0).on (fun x j => tailF (Tk D.ys) p [41] f (acc ++ [x]) j) = RR) (hcu : CuP D (p p0) (fun y => y = x0) z er a) (hlt : ∀ x j, p p0 = .ok (x, j) → p0 < j) (hf : D.ys.length < f + 1 + p0) (hacc : acc.length ≤ p0)
    (hb : isB D (p p0) [41] = true ∨ isB D (p p0) [44] = true) :
    er = 0 ∧ ∃ i : Nat, z = (i : Nat) ∧ i ≤ D.ys.length ∧ (acc ++ [x0]).length ≤ i ∧ p0 < i ∧ ((false = true ∧ acc ++ [x0] = [] ∧ Hid (ls (Tk D.ys) (D.ys.length + 1) p [41] i = RR)) ∨ (false = false ∧ ∃ f, D.ys.length < f + i + 1 ∧ (Syn.is (Tk D.ys) i [41] = true ∨ Syn.is (Tk D.ys) i [44] = true) ∧ Hid (tailF (Tk D.ys) p [41] f (acc ++ [x0]) i = RR))) := by
  cases hp : p p0 with
  | error e => rw [hp] at hb; rcases hb with h | h <;> cases h
  | ok q =>
    obtain ⟨x, j⟩ := q
    rw [hp] at hb hcu hL
    obtain ⟨⟨h1, h2, h3⟩, h4⟩ := hcu
    have hx : x = x0 := h4 x j rfl
    subst hx
    have := hlt x j hp
    exact ⟨h1, j, h2, h3, by simp; omega, this, .inr ⟨rfl, f, by omega, hb, Lib.hid hL⟩⟩
theorem pm_bad {p : Nat → Syn.R β} {RR : Syn.R (List β)} {acc : List β} {z : Int} {p0 f : Nat} (hL : (p p0).on (fun x j => tailF (Tk D.ys) p [41] f (acc ++ [x]) j) = RR) (h1 : isB D (p p0) [41] = false) (h2 : isB D (p p0) [44] = false)
    (hcu : Cu D ((p p0).on fun _ i => (.error (50, i) : Syn.R Unit)) z er a) : ∃ k t, RR = .error (k, t) ∧ er = k ∧ k ≠ 0 ∧ a = (tk D.ys D.len t).a := by
  cases hp : p p0 with
  | error e =>
    rw [hp] at hcu hL
    obtain ⟨k, t⟩ := e
    exact ⟨k, t, hL.symm, hcu⟩
  | ok q =>
    obtain ⟨x, j⟩ := q
    rw [hp] at hcu hL h1 h2
    have h1 : Syn.is (Tk D.ys) j [41] = false := h1
    have h2 : Syn.is (Tk D.ys) j [44] = false := h2
    rw [on_okk] at hL hcu
    unfold tailF at hL
    rw [if_neg (by rw [h1]; simp), if_neg (by rw [h2]; simp)] at hL
    exact ⟨50, j, hL.symm, hcu⟩
end
end Go.Proofs.YtnmcjkabihihiaaGreatDoor

/- The document's statements: a store. -/
namespace Go.Proofs.YtnmcjkabihihiaaGreatDoor
open Go Go.RowKit Go.Proofs.Mm

section
variable {D : DC} {nv bv : Value} {er a : Nat} {w : World}
theorem store_chain (T : Nat → Option Syn.K) (F : Nat) (s : List Nat) (i : Nat) : oneP (storeP T F s i) = ((((((Syn.R.on (.ok ((), i)) fun x i => (Syn.expr T F i).on fun l j => .ok ((x, l), j)).on fun x i => (Syn.want T i [93]).on fun _ j => .ok (x, j)).on fun x i => (Syn.want T i [61]).on fun _ j => .ok (x, j)).on fun x i => (Syn.expr T F i).on fun l j => .ok ((x, l), j)).on fun x i => (Syn.want T i [59]).on fun _ j => .ok (x, j)).on fun x j => (.ok ([⟨2, s, [], [x.1.2, x.2]⟩], j) : Syn.R (List Syn.St))) := by
  unfold oneP storeP
  simp only [on_on, on_okk]
theorem b_59 : bl ⟨#[59]⟩ = ([59] : List Nat) := rfl
theorem b_93 : bl ⟨#[93]⟩ = ([93] : List Nat) := rfl
theorem b_61 : bl ⟨#[61]⟩ = ([61] : List Nat) := rfl
theorem ne_if {D : DC} {i : Nat} (h : Syn.named (Tk D.ys) i = true) (s : List Nat) : Syn.is (Tk D.ys) i s = false := by
  unfold Syn.named at h
  unfold Syn.is
  cases hT : Tk D.ys i with
  | none => rfl
  | some k =>
    rw [hT] at h
    simp only [beq_iff_eq] at h
    simp [h]
/-- Two rows in a block of the call's own: what a store holds. -/
theorem st_two (k : Nat) (nt : ByteArray) (q : Option Addr) (n c : Nat) (qt : Option Addr) (tn tc : Nat) : ∀ u ∈ [Value.int .i64 (k : Nat), .string nt, .slice qt tn tc, .slice q n c], u.oneCell' = true := by
  intro u hu
  simp only [List.mem_cons, List.not_mem_nil, or_false] at hu
  rcases hu with rfl | rfl | rfl | rfl <;> rfl
set_option maxRecDepth 100000 in
set_option maxHeartbeats 4000000 in
theorem storeD {m : Mem} {w0 : World} {d N : Nat} (hN : 65540 ≤ N) (hN2 : N ≤ 100000) (hbt : D.bt < w0.heap.size) {s : Option (Nat → Syn.R (List Syn.St))} {W : World} {acc : List Syn.St} {i : Nat} {q : Option Addr} {n c : Nat} {cs : List Value} {a : Nat}
    (_hi : i ≤ D.ys.length) (hn : n ≤ i) (hr : W.ownsRow w0.heap.size 47 4 (.slice q n c) n cs) (hg : BdG D m w0 q n c cs acc W) (h : DS D nv (.slice q n c) 0 a W) (hsz : w0.heap.size ≤ W.heap.size)
    (hnm : Syn.named (Tk D.ys) i = true) (hb : Syn.is (Tk D.ys) (i + 1) (bl ⟨#[91]⟩) = true) :
    Calls Tryz.prog 68 #[PB D, .int .i64 (i : Nat), .int .i64 (d : Nat)] W (SdR D nv m w0 N acc (Syn.stmtOf (Tk D.ys) (D.ys.length + 1) s i) W) := by
  have hfew := h.few
  have hil : i < D.ys.length := Syn.named_lt (tk_nones D.ys) hnm
  have hil2 : i + 1 < D.ys.length := Syn.is_lt (tk_nones D.ys) hb
  have hwi : IntKind.i64.wrap (((i + 1 : Nat) : Int) + 1) = ((i + 2 : Nat) : Int) := by rw [IntKind.wrap_i64]; omega
  obtain ⟨j0, hj0, hy0, hy1, hy2⟩ := infoSt
  have HI1 := Lib.hid (is_d h i ⟨#[105, 102]⟩)
  have HI2 := Lib.hid (is_d h i ⟨#[119, 104, 105, 108, 101]⟩)
  have HI3 := Lib.hid (is_d h i ⟨#[115, 101, 110, 100]⟩)
  have HI4 := Lib.hid (is_d h (i + 1) ⟨#[91]⟩)
  rw [ne_if hnm] at HI1 HI2 HI3
  rw [hb] at HI4
  have HNM := Lib.hid (nameD_yes h hnm)
  have HST := Lib.hid (show Syn.stmtOf (Tk D.ys) (D.ys.length + 1) s i = oneP (storeP (Tk D.ys) (D.ys.length + 1) (bl (tk D.ys D.len i).t) (i + 2)) from by
    rw [stmtOf_eq, tx_if, tx_while, tx_send, if_neg (by rw [ne_if hnm]; simp), if_neg (by rw [ne_if hnm]; simp), if_neg (by rw [ne_if hnm]; simp)]
    unfold namedP
    rw [name_yes D.len hnm, on_ok']
    exact congrArg oneP (if_pos hb))
  have HL1 := Lib.hid (levelP h (CuP.start (D := D) () (i := i + 2) (by omega) (P := fun _ => True) trivial a))
  have HR0 := Lib.hid hr
  have HG0 := Lib.hid hg
  have HNB := Lib.hid (own_not h hr (by decide))
  clear h hr hg hnm hb
  generalize (tk D.ys D.len i).t = nt at *
  go_enter Tryz.func68, Tryz.ntmps68
  go_wp2_with fail
  go_at_call 37
  refine HI1.out.mono ?_
  rintro e w' ⟨rfl, rfl⟩
  go_wp2_with fail
  go_at_call 37
  refine HI2.out.mono ?_
  rintro e w' ⟨rfl, rfl⟩
  go_wp2_with fail
  go_at_call 37
  refine HI3.out.mono ?_
  rintro e w' ⟨rfl, rfl⟩
  go_wp2_with fail
  go_at_call 40
  refine HNM.out.mono ?_
  rintro e w' ⟨rfl, rfl⟩
  go_wp2_with fail
  go_at_call 37
  refine HI4.out.mono ?_
  rintro e w' ⟨rfl, rfl⟩
  go_wp2_with fail
  go_at_call 89
  refine HL1.out.mono ?_
  rintro e w1 ⟨q1, c1, l1, z1, er1, a1, rfl, ho1, hp1, hc1, hd1, hcu1⟩
  have hs1 := hc1.size
  have HO1 := Lib.hid ho1
  have HC1 := Lib.hid hc1
  have HW1 := Lib.hid (wantP hd1 hcu1 ⟨#[93]⟩)
  clear ho1 hc1 hd1 hcu1
  go_wp2_with fail
  go_at_call 41
  refine HW1.out.mono ?_
  rintro e w2 ⟨z2, er2, a2, rfl, hc2, hd2, hcu2⟩
  have hs2 := hc2.size
  have HC2 := Lib.hid hc2
  have HW2 := Lib.hid (wantP hd2 hcu2 ⟨#[61]⟩)
  clear hc2 hd2 hcu2
  go_wp2_with fail
  go_at_call 41
  refine HW2.out.mono ?_
  rintro e w3 ⟨z3, er3, a3, rfl, hc3, hd3, hcu3⟩
  have hs3 := hc3.size
  have HC3 := Lib.hid (HC2.out.then hc3)
  have HL3 := Lib.hid (levelP hd3 hcu3)
  clear hc3 hd3 hcu3
  go_wp2_with fail
  go_at_call 89
  refine HL3.out.mono ?_
  rintro e w4 ⟨q4, c4, l4, z4, er4, a4, rfl, ho4, hp4, hc4, hd4, hcu4⟩
  have hs4 := hc4.size
  have HO4 := Lib.hid ho4
  have HC4 := Lib.hid hc4
  have HD4 := Lib.hid hd4
  have HCU4 := Lib.hid hcu4
  have hcc : Chg (fun k => k = D.bt) W w4 := (HC1.out.then HC3.out).then hc4
  have HCC := Lib.hid hcc
  have hr4 := own_chg HR0.out hcc (fun k hk e => by subst e; exact HNB.out hk)
  obtain ⟨qr, _, _, _, _, _, x5, hz, hltb, _⟩ := hd4.raw
  have z5 := hz 5
  clear ho4 hc4 hd4 hcu4 hcc hz
  go_upto_region 24 with (fail)
  have hnew : ∀ (j : Nat) (u : Value), [Value.int .i64 2, .string nt, .slice none 0 0, .slice (some ⟨w4.heap.size, 0, none⟩) 2 2][j]? = some u → ((w4.alloc (.cells #[.slice q1 l1.length c1, .slice q4 l4.length c4] 49)).alloc (.cells #[.int .i64 2, .string nt, .slice none 0 0, .slice (some ⟨w4.heap.size, 0, none⟩) 2 2] 47)).cell? ((⟨w4.heap.size + 1, 0, none⟩ : Addr).add j) = some u := by
    have := row_new (w4.alloc (.cells #[.slice q1 l1.length c1, .slice q4 l4.length c4] 49)) [Value.int .i64 2, .string nt, .slice none 0 0, .slice (some ⟨w4.heap.size, 0, none⟩) 2 2] 47
    simpa only [World.size_alloc] using this
  have hone := st_two 2 nt (some ⟨w4.heap.size, 0, none⟩) 2 2 none 0 0
  go_wp2_with (at_builtin; refine wpList_append_own_at _ rfl _ _ 39 rfl w0.heap.size 47 j0 _ 4 72 Tryz.underlying39 hj0 hy0 hy1 hy2 rfl (by decide) _ _ _ rfl ((hr4.alloc _).alloc _) ⟨w4.heap.size + 1, 0, none⟩ 1 1 [Value.int .i64 2, .string nt, .slice none 0 0, .slice (some ⟨w4.heap.size, 0, none⟩) 2 2] rfl rfl hnew hone (by unfold maxLen; omega) (by omega) (by simp; omega) ?_)
  intro v9 w9 ho9 hg9 hxx hat9
  obtain ⟨q9, c9, rfl⟩ := own_shape ho9
  have h02 : Chg (fun _ => False) w4 ((w4.alloc (.cells #[.slice q1 l1.length c1, .slice q4 l4.length c4] 49)).alloc (.cells #[.int .i64 2, .string nt, .slice none 0 0, .slice (some ⟨w4.heap.size, 0, none⟩) 2 2] 47)) := ((Chg.refl _ w4).alloc _).alloc _
  have hd9 := HD4.out.grown hr4 (by decide) (by decide) h02 hg9
  obtain ⟨_, _, _, _, _, _, y5, hz9, hlt9, _⟩ := hd9.raw
  have y6 := hz9 5
  obtain ⟨s1, s2, s3⟩ := bd_store (by omega) hr4 HD4.out h02 hg9 ho9
  have HS1 := Lib.hid s1
  have HS2 := Lib.hid s2
  have HS3 := Lib.hid s3
  have HG9 := Lib.hid (And.intro hg9 (And.intro hat9 hxx))
  have HW := Lib.hid (wantP s1 HCU4.out ⟨#[59]⟩)
  clear s1 s2 s3 hg9 hat9 hxx h02 hd9 ho9 hnew hone hz9
  go_wp2_with fail
  go_at_call 41
  refine HW.out.mono ?_
  rintro e w11 ⟨z7, er7, a7, rfl, hc7, hd7, hcu7⟩
  have HC7 := Lib.hid hc7
  have HD7 := Lib.hid hd7
  have HCU7 := Lib.hid hcu7
  clear hc7 hd7 hcu7
  go_wp2_with fail
  go_ret
  obtain ⟨g1, m', g2⟩ := HG0.out
  have b0 : BdM D m w0 q n c cs acc m' W := ⟨g1, g2⟩
  obtain ⟨m1, e1, b1, e2, e3⟩ := bd_row hbt (by omega) b0 HR0.out HC1.out HO1.out
  have b2 := b1.chg HC3.out
  have hr3 := own_chg HR0.out (HC1.out.then HC3.out) (fun k hk e => by subst e; exact HNB.out hk)
  obtain ⟨m2, e4, b3, e5, e6⟩ := bd_row hbt (by omega) b2 hr3 HC4.out HO4.out
  obtain ⟨b4, e7, e8⟩ := bd_put hbt (by omega) b3 hr4 (.cells #[.slice q1 l1.length c1, .slice q4 l4.length c4] 49)
  obtain ⟨hg9, hat9, hxx⟩ := HG9.out
  have hsm : StM (m2.put w4.heap.size (.cells #[.slice q1 l1.length c1, .slice q4 l4.length c4] 49)) [Value.int .i64 2, .string nt, .slice none 0 0, .slice (some ⟨w4.heap.size, 0, none⟩) 2 2] ⟨2, bl nt, [], [l1, l4]⟩ :=
    ⟨_, _, by rw [sb_bl]; rfl, str_nil _, ex_two e8 (RowM.le e2 (e4.trans e7)) (RowM.le e5 e7)⟩
  have hend := bd_end hbt (by simp; omega) b4 (hr4.alloc _) ((Chg.refl (fun _ => False) (w4.alloc (.cells #[.slice q1 l1.length c1, .slice q4 l4.length c4] 49))).alloc (.cells #[.int .i64 2, .string nt, .slice none 0 0, .slice (some ⟨w4.heap.size, 0, none⟩) 2 2] 47)) hsm hg9 (q9 := q9) (c9 := c9) (by
    rcases hat9 with e | e
    · exact .inl e
    · exact .inr ⟨_, by simp, e⟩)
  refine ⟨q9, c9, n + 1, _, z7, er7, a7, rfl, own_chg HS2.out HC7.out (fun k hk e => by subst e; exact own_not HS1.out HS2.out (by decide) hk), by omega, ((HCC.out.mono (fun k e => .inl (.inl e))).then HS3.out).then (HC7.out.mono (fun k e => .inl (.inl e))), HD7.out, ?_⟩
  rw [HST.out, store_chain]
  have hcu := HCU7.out
  simp only [b_59, b_93, b_61] at hcu
  refine sd_end hcu (fun x => [⟨2, bl nt, [], [x.1.2, x.2]⟩]) ?_
  rintro x ⟨⟨_, x1⟩, x2⟩
  simp only [x1, x2]
  exact hend.chg HC7.out
end
end Go.Proofs.YtnmcjkabihihiaaGreatDoor
