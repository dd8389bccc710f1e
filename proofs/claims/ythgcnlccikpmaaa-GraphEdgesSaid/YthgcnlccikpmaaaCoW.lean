/- A module that comes in, as it reads in memory, with a mark behind each row or without. -/
import Derived.Test.YthgcnlccikpmaaaCoS
import Derived.Test.YthgcnlccikpmaaaIHx
namespace Go.Proofs.Ythgcnlccikpmaaa
open Go Go.RowKit Go.Proofs.Mm Go.ChangeShapes Go.WideShapes Go.ChangeAt

structure FnM where
  level : Int
  params : List Int
  results : List Int
  locals : Int
  stack : Int
  code : List (Int × Int)
structure MoM where
  globals : List Int
  arrays : List (Int × Int)
  channels : List Int
  funcs : List FnM
instance : Inhabited FnM := ⟨⟨0, [], [], 0, 0, []⟩⟩
def FnM.lens (f : FnM) : FnL := ⟨f.params.length, f.results.length, f.locals, f.code.length⟩
def mkL (lt : Bool) : List Value := if lt then [.int .u64 7171] else []
def mkI (lt : Bool) : List Value := if lt then [.int .i64 (-71), .int .i64 0] else []
def mkA (lt : Bool) : List Value := if lt then [.int .i64 (-71), .int .u64 0] else []
def mkF (lt : Bool) : List Value := if lt then [.int .u64 0, .slice none 0 0, .slice none 0 0, .int .i64 0, .int .i64 (-71), .slice none 0 0] else []
abbrev laR (c : List Value) (x : Int) : Prop := c = [.int .u64 x]
abbrev inR (c : List Value) (x : Int × Int) : Prop := c = [.int .i64 x.1, .int .i64 x.2]
abbrev arR (c : List Value) (x : Int × Int) : Prop := c = [.int .i64 x.1, .int .u64 x.2]
def LasR (lt : Bool) (C : Cl) (v : Value) (l : List Int) : Prop := SlX (mkL lt) 8 C laR v l
def CdR (lt : Bool) (C : Cl) (v : Value) (l : List (Int × Int)) : Prop := SlX (mkI lt) 16 C inR v l
def ArsR (lt : Bool) (C : Cl) (v : Value) (l : List (Int × Int)) : Prop := SlX (mkA lt) 16 C arR v l
def FnR1 (lt : Bool) (C : Cl) (c : List Value) (f : FnM) : Prop :=
  ∃ vp vr vc, c = [.int .u64 f.level, vp, vr, .int .i64 f.locals, .int .i64 f.stack, vc] ∧ LasR lt C vp f.params ∧ LasR lt C vr f.results ∧ CdR lt C vc f.code
def FnsR (lt : Bool) (C : Cl) (v : Value) (l : List FnM) : Prop := SlX (mkF lt) 96 C (FnR1 lt C) v l
def MoR (lt : Bool) (C : Cl) (v : Value) (m : MoM) : Prop :=
  ∃ v1 v2 v3 v4, v = .agg #[v1, v2, v3, v4] ∧ LasR lt C v1 m.globals ∧ ArsR lt C v2 m.arrays ∧ LasR lt C v3 m.channels ∧ FnsR lt C v4 m.funcs
theorem la_len (c : List Value) (x : Int) (h : laR c x) : c.length = 1 := by rw [h]; rfl
theorem in_len (c : List Value) (x : Int × Int) (h : inR c x) : c.length = 2 := by rw [h]; rfl
theorem ar_len (c : List Value) (x : Int × Int) (h : arR c x) : c.length = 2 := by rw [h]; rfl
section
variable {lt : Bool} {C D : Cl}
theorem fn_len (c : List Value) (f : FnM) (h : FnR1 lt C c f) : c.length = 6 := by obtain ⟨a, b, e, rfl, _⟩ := h; rfl
theorem LasR.le {v : Value} {l : List Int} (h : LasR lt C v l) (hc : CLe C D) : LasR lt D v l := SlX.mono h hc fun _ _ e => e
theorem CdR.le {v : Value} {l : List (Int × Int)} (h : CdR lt C v l) (hc : CLe C D) : CdR lt D v l := SlX.mono h hc fun _ _ e => e
theorem ArsR.le {v : Value} {l : List (Int × Int)} (h : ArsR lt C v l) (hc : CLe C D) : ArsR lt D v l := SlX.mono h hc fun _ _ e => e
theorem FnR1.le {c : List Value} {f : FnM} (h : FnR1 lt C c f) (hc : CLe C D) : FnR1 lt D c f := by
  obtain ⟨vp, vr, vc, e, h1, h2, h3⟩ := h
  exact ⟨vp, vr, vc, e, h1.le hc, h2.le hc, h3.le hc⟩
theorem FnsR.le {v : Value} {l : List FnM} (h : FnsR lt C v l) (hc : CLe C D) : FnsR lt D v l := SlX.mono h hc fun _ _ e => e.le hc
end
theorem slx_shape {α : Type} {mk : List Value} {bs : Nat} {C : Cl} {R : List Value → α → Prop} {v : Value} {l : List α} (h : SlX mk bs C R v l) : ∃ q c, v = .slice q l.length c := let ⟨q, c, _, e, _⟩ := h; ⟨q, c, e⟩
theorem slx_max {α : Type} {mk : List Value} {bs : Nat} {C : Cl} {R : List Value → α → Prop} {v : Value} {l : List α} (h : SlX mk bs C R v l) : l.length ≤ maxLen := by
  obtain ⟨_, _, _, _, _, _, _, _, h1, _, h2⟩ := h; omega
section
variable {lt : Bool} {C : Cl} {q : Option Addr} {n c : Nat}
theorem slx_at {α : Type} {mk : List Value} {bs : Nat} {R : List Value → α → Prop} {l : List α} {size : Nat} (h : SlX mk (bs + 1) C R (.slice q n c) l) (hs : 0 < size) (hR : ∀ c x, R c x → c.length = size) :
    ∀ j (hj : j < l.length), ∃ g o e, q = some ⟨g, o, none⟩ ∧ R e l[j] ∧ ∀ r u, r < size → e[r]? = some u → C ⟨g, o + j * size + r, none⟩ = some u := by
  intro j hj
  obtain ⟨q', c', e1, _, _, _, ha, _⟩ := h.at hs hR
  obtain ⟨rfl, _, _⟩ : q = q' ∧ n = l.length ∧ c = c' := by injection e1 with a b c; exact ⟨a, b, c⟩
  obtain ⟨g, o, e, h1, h2, h3⟩ := ha j hj
  exact ⟨g, o, e, h1, h2, fun r u hr hu => by rw [Nat.add_assoc]; exact h3 r u hr hu⟩
/-- The cells of functions in a row, of which only lengths are looked at. -/
def FnC0 (c : List Value) (f : FnL) : Prop := ∃ lv qp cp qr cr stk qc cc, c = [.int .u64 lv, .slice qp f.np cp, .slice qr f.nr cr, .int .i64 f.loc, .int .i64 stk, .slice qc f.nc cc] ∧ f.np ≤ maxLen
theorem fnc_len (c : List Value) (f : FnL) (h : FnC0 c f) : c.length = 6 := by obtain ⟨_, _, _, _, _, _, _, _, rfl, _⟩ := h; rfl
theorem FnR1.c0 {c : List Value} {f : FnM} (h : FnR1 lt C c f) : FnC0 c f.lens := by
  obtain ⟨vp, vr, vc, rfl, h1, h2, h3⟩ := h
  have hm := slx_max h1
  obtain ⟨qp, cp, rfl⟩ := slx_shape h1
  obtain ⟨qr, cr, rfl⟩ := slx_shape h2
  obtain ⟨qc, cc, rfl⟩ := slx_shape h3
  exact ⟨_, qp, cp, qr, cr, _, qc, cc, rfl, hm⟩
theorem enc_map {α β : Type} {R : List Value → α → Prop} {S : List Value → β → Prop} (f : α → β) (h : ∀ c x, R c x → S c (f x)) : ∀ {l : List α} {cs : List Value}, Enc R cs l → Enc S cs (l.map f)
  | [], _, e => e
  | x :: _l, _cs, ⟨c, r, e, h1, h2⟩ => ⟨c, r, e, h c x h1, enc_map f h h2⟩
theorem FnsAt_of {fs : List FnL} {cs : List Value} (he : Enc FnC0 cs fs) {g o : Nat} (hc : ∀ j u, cs[j]? = some u → C ⟨g, o + j, none⟩ = some u) : FnsAt C (some ⟨g, o, none⟩) fs := by
  intro j hj
  obtain ⟨_, ha⟩ := encZ_at fnc_len he
  obtain ⟨c, ⟨lv, qp, cp, qr, cr, stk, qc, cc, rfl, hm⟩, h2⟩ := ha j hj
  have hk : ∀ r u, ([.int .u64 lv, .slice qp fs[j].np cp, .slice qr fs[j].nr cr, .int .i64 fs[j].loc, .int .i64 stk, .slice qc fs[j].nc cc] : List Value)[r]? = some u → C ⟨g, o + j * 6 + r, none⟩ = some u := fun r u hu => by
    have hr : r < 6 := (List.getElem?_eq_some_iff.1 hu).1
    have := hc (j * 6 + r) u (by rw [h2 r hr]; exact hu)
    rwa [← Nat.add_assoc] at this
  exact ⟨g, o, lv, qp, cp, qr, cr, stk, qc, cc, rfl, hk 0 _ rfl, hk 1 _ rfl, hk 2 _ rfl, hk 3 _ rfl, hk 4 _ rfl, hk 5 _ rfl, hm⟩
theorem FnsR.at {fs : List FnM} (h : FnsR lt C (.slice q n c) fs) : FnsAt C q (fs.map FnM.lens) := by
  obtain ⟨q', c', cs, e, _, hr, he, _⟩ := h
  injection e with e1 e2 e3
  subst e1
  rcases hr with hr | ⟨g, o, hq, hr⟩
  · intro j hj
    have hcs := (List.append_eq_nil_iff.1 hr).1
    subst hcs
    obtain ⟨hl, _⟩ := encZ_at fn_len he
    simp at hl hj
    have : fs.length = 0 := by omega
    omega
  · rw [hq]
    exact FnsAt_of (enc_map FnM.lens (fun _ _ h => h.c0) he) (fun j u hu => hr j u (by rw [List.getElem?_append_left (List.getElem?_eq_some_iff.1 hu).1]; exact hu))
end
/-! ## Opened -/
section
set_option maxRecDepth 100000
variable {H : Type} {enc : TypeId × Value → H} {w : World} {n : Nat} {cs : List Value} {d : DataW H} {p : List MemPlace}
theorem lab_open (h : DataW.trod enc Try.prog w 0 (fun _ => true) true n 23 cs = some (d, p)) : ∃ l : Int, laR cs l := by
  obtain ⟨a, ha, _⟩ := DataW.trod_int (k := .u64) (by kernel_rfl) h
  exact ⟨a, ha⟩
theorem las_open (h : DataW.trod enc Try.prog w 0 (fun _ => true) true n 24 cs = some (d, p)) (hw : Wt 24 d) : ∃ v l, cs = [v] ∧ LasR false (wC w) v l :=
  open_sl (size := 1) (bs := 8) (R := laR) (e := 23) (by kernel_rfl) (by kernel_rfl) (by decide) (by kernel_rfl) la_len (fun _ _ _ _ _ h _ => lab_open h) h hw
theorem cds_open (h : DataW.trod enc Try.prog w 0 (fun _ => true) true n 25 cs = some (d, p)) (hw : Wt 25 d) : ∃ v l, cs = [v] ∧ CdR false (wC w) v l :=
  open_sl (size := 2) (bs := 16) (R := inR) (e := 46) (by kernel_rfl) (by kernel_rfl) (by decide) (by kernel_rfl) in_len (fun _ _ _ _ hl h _ => by
    obtain ⟨op, a, e, _⟩ := ins_open hl h
    exact ⟨(op, a), e⟩) h hw
theorem fn_open (hl : cs.length = 6) (h : DataW.trod enc Try.prog w 0 (fun _ => true) true n 27 cs = some (d, p)) (hw : Wt 27 d) : ∃ f : FnM, FnR1 false (wC w) cs f := by
  obtain ⟨c0, c1, c2, c3, c4, c5, rfl⟩ : ∃ c0 c1 c2 c3 c4 c5, cs = [c0, c1, c2, c3, c4, c5] := by
    match cs, hl with
    | [c0, c1, c2, c3, c4, c5], _ => exact ⟨c0, c1, c2, c3, c4, c5, rfl⟩
  obtain ⟨xs, n', rfl, hx, _, hlen, hf⟩ := DataW.trod_struct Try.underlying27 h
  have h0 := hf 0 _ rfl
  have h1 := hf 1 _ rfl
  have h2 := hf 2 _ rfl
  have h3 := hf 3 _ rfl
  have h4 := hf 4 _ rfl
  have h5 := hf 5 _ rfl
  injection hx with hd _
  subst hd
  have lk : xs.length = 6 := hlen
  have hwe : ∀ j (hj : j < 6) t, ([23, 24, 24, 3, 3, 25] : List TypeId)[j]? = some t → Wt t (xs[j]'(by omega)).1 := fun j hj t ht x hx => hw x (by
    simp only [DataW.weights, Try.underlying27]
    refine DataW.weights_mem_each (j := j) (t := t) ?_ ?_ x hx
    · exact ht
    · rw [List.getElem?_map, List.getElem?_eq_getElem (by omega)]; rfl)
  rw [List.getElem?_eq_getElem (by omega)] at h0 h1 h2 h3 h4 h5
  obtain ⟨v0, e0⟩ := lab_open h0
  obtain ⟨w1, v1, e1, r1⟩ := las_open (d := (xs[1]'(by omega)).1) (p := (xs[1]'(by omega)).2) h1 (hwe 1 (by omega) _ rfl)
  obtain ⟨w2, v2, e2, r2⟩ := las_open (d := (xs[2]'(by omega)).1) (p := (xs[2]'(by omega)).2) h2 (hwe 2 (by omega) _ rfl)
  obtain ⟨v3, e3, _⟩ := DataW.trod_int (k := .i64) (by kernel_rfl) h3
  obtain ⟨v4, e4, _⟩ := DataW.trod_int (k := .i64) (by kernel_rfl) h4
  obtain ⟨w5, v5, e5, r5⟩ := cds_open (d := (xs[5]'(by omega)).1) (p := (xs[5]'(by omega)).2) h5 (hwe 5 (by omega) _ rfl)
  have z0 : [c0] = [.int .u64 v0] := e0
  injection z0 with y0
  have z1 : [c1] = [w1] := e1
  injection z1 with y1
  have z2 : [c2] = [w2] := e2
  injection z2 with y2
  have z3 : [c3] = [.int .i64 v3] := e3
  injection z3 with y3
  have z4 : [c4] = [.int .i64 v4] := e4
  injection z4 with y4
  have z5 : [c5] = [w5] := e5
  injection z5 with y5
  subst y0 y1 y2 y3 y4 y5
  exact ⟨⟨v0, v1, v2, v3, v4, v5⟩, c1, c2, c5, rfl, r1, r2, r5⟩
set_option maxRecDepth 100000 in
theorem in_fn {H : Type} {enc : TypeId × Value → H} {W : World} {b0 : Nat} {v : Value} {d : DataW H} {ps : List MemPlace} (hval : Value.okWide Try.prog W .any b0 27 v) (hd : DataW.Trod enc Try.prog W 0 (fun _ => true) true 27 v d ps) (hw : Wt 27 d) :
    ∃ (cs : List Value) (f : FnM), v = .agg cs.toArray ∧ FnR1 false (wC W) cs f := by
  obtain ⟨cs0, rfl, hcs⟩ := okWide_struct Try.underlying27 hval
  obtain ⟨fuel, hf⟩ := hd
  have hc4 : cs0.toList.length = 6 := by rw [Array.length_toList, hcs]; kernel_rfl
  obtain ⟨m, hm⟩ := fn_open hc4 hf hw
  exact ⟨cs0.toList, m, by rw [Array.toArray_toList], hm⟩
end
end Go.Proofs.Ythgcnlccikpmaaa
