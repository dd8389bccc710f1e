/- The document's parser: its state in memory, and its smallest calls, while there is no fault and behind one. -/
import Derived.Test.YtnmcjkabihihiaaDoorEI
namespace Go.Proofs.YtnmcjkabihihiaaDoor
open Go Go.RowKit Go.Proofs.Mm

theorem tkC_cons (x : It) (l : List It) : tokCells (x :: l) = .int .i64 (x.k : Nat) :: .string x.t :: .int .i64 (x.v : Nat) :: .int .i64 (x.a : Nat) :: tokCells l := by simp [tokCells]
theorem tkC_at : ∀ (l : List It) (j : Nat) (h : j < l.length), (tokCells l)[4 * j]? = some (.int .i64 (l[j].k : Nat)) ∧ (tokCells l)[4 * j + 1]? = some (.string l[j].t) ∧ (tokCells l)[4 * j + 2]? = some (.int .i64 (l[j].v : Nat)) ∧ (tokCells l)[4 * j + 3]? = some (.int .i64 (l[j].a : Nat))
  | [], j, h => absurd h (by simp)
  | x :: l, 0, _ => by rw [tkC_cons]; exact ⟨rfl, rfl, rfl, rfl⟩
  | x :: l, j + 1, h => by
    have := tkC_at l j (by simpa using h)
    rw [tkC_cons]
    simp only [show 4 * (j + 1) = 4 * j + 1 + 1 + 1 + 1 by omega, show 4 * j + 1 + 1 + 1 + 1 + 1 = (4 * j + 1) + 1 + 1 + 1 + 1 by omega, show 4 * j + 1 + 1 + 1 + 1 + 2 = (4 * j + 2) + 1 + 1 + 1 + 1 by omega, show 4 * j + 1 + 1 + 1 + 1 + 3 = (4 * j + 3) + 1 + 1 + 1 + 1 by omega, List.getElem?_cons_succ, List.getElem_cons_succ]
    exact this
/-- What stays: the words, the text's length, where all that lies. -/
structure DC where
  ys : List It
  len : Nat
  bt : Nat
  bw : Nat
  cq : Nat
  q : Option Addr
/-- The document's parser lies at bt; er: its fault (0: none), a: where; nv: its principals, bv: its statements so far. -/
structure DS (D : DC) (nv bv : Value) (er a : Nat) (w : World) : Prop where
  st : w.heap[D.bt]? = some (.cells #[.slice D.q D.ys.length D.cq, .int .i64 (D.len : Nat), .int .i64 (er : Nat), .int .i64 (a : Nat), nv, bv] 40 (0, 0))
  tok : D.ys = [] ∨ D.q = some ⟨D.bw, 0, none⟩ ∧ ∃ arr : Array Value, w.heap[D.bw]? = some (.cells arr 65 (0, 0)) ∧ ∀ (j : Nat) (u : Value), (tokCells D.ys)[j]? = some u → arr[j]? = some u
  few : D.ys.length ≤ 65536
section
variable {D : DC} {nv bv : Value} {er a : Nat} {w : World}
theorem DS.ne (h : DS D nv bv er a w) (hn : D.ys ≠ []) : D.bw ≠ D.bt := by
  obtain ⟨_, arr, h1, _⟩ := h.tok.resolve_left hn
  intro e
  have h2 := h.st
  rw [← e, h1] at h2
  simp at h2
theorem DS.chg (h : DS D nv bv er a w) {S : Nat → Prop} {w' : World} (hc : Chg S w w') (h1 : ¬ S D.bt) (h2 : ¬ S D.bw) : DS D nv bv er a w' :=
  ⟨hc.heap h.st h1, by
    rcases h.tok with e | ⟨e0, arr, e1, e2⟩
    · exact .inl e
    · exact .inr ⟨e0, arr, hc.heap e1 h2, e2⟩, h.few⟩
/-- The parser's own block turned. -/
theorem DS.turn (h : DS D nv bv er a w) {w' : World} (hc : Chg (fun k => k = D.bt) w w') {er' a' : Nat} {nv' bv' : Value} (h1 : w'.heap[D.bt]? = some (.cells #[.slice D.q D.ys.length D.cq, .int .i64 (D.len : Nat), .int .i64 (er' : Nat), .int .i64 (a' : Nat), nv', bv'] 40 (0, 0))) : DS D nv' bv' er' a' w' :=
  ⟨h1, by
    by_cases hn : D.ys = []
    · exact .inl hn
    · obtain ⟨e0, arr, e1, e2⟩ := h.tok.resolve_left hn
      exact .inr ⟨e0, arr, hc.heap e1 (h.ne hn), e2⟩, h.few⟩
/-- What the walk wants of the state. -/
theorem DS.raw (h : DS D nv bv er a w) : ∃ q, w.cell? ⟨D.bt, 0, none⟩ = some (.slice q D.ys.length D.cq) ∧ w.cell? ⟨D.bt, 1, none⟩ = some (.int .i64 (D.len : Nat)) ∧ w.cell? ⟨D.bt, 2, none⟩ = some (.int .i64 (er : Nat)) ∧ w.cell? ⟨D.bt, 3, none⟩ = some (.int .i64 (a : Nat)) ∧ w.cell? ⟨D.bt, 4, none⟩ = some nv ∧ w.cell? ⟨D.bt, 5, none⟩ = some bv ∧
    (∀ j, w.frozen? ⟨D.bt, j, none⟩ = false) ∧ D.bt < w.heap.size ∧
    ∀ i, i < D.ys.length → q = some ⟨D.bw, 0, none⟩ ∧ D.bw < w.heap.size ∧ D.bw ≠ D.bt ∧ w.cell? ⟨D.bw, i * 4, none⟩ = some (.int .i64 ((tk D.ys D.len i).k : Nat)) ∧ w.cell? ⟨D.bw, i * 4 + 1, none⟩ = some (.string (tk D.ys D.len i).t) ∧ w.cell? ⟨D.bw, i * 4 + 2, none⟩ = some (.int .i64 ((tk D.ys D.len i).v : Nat)) ∧ w.cell? ⟨D.bw, i * 4 + 3, none⟩ = some (.int .i64 ((tk D.ys D.len i).a : Nat)) := by
  refine ⟨_, cell_of h.st rfl, cell_of h.st rfl, cell_of h.st rfl, cell_of h.st rfl, cell_of h.st rfl, cell_of h.st rfl, fun j => free_of h.st, heap_lt h.st, fun i hi => ?_⟩
  have hn : D.ys ≠ [] := by intro e; rw [e] at hi; simp at hi
  obtain ⟨e0, arr, e1, e2⟩ := h.tok.resolve_left hn
  obtain ⟨c0, c1, c2, c3⟩ := tkC_at D.ys i hi
  have ht : tk D.ys D.len i = D.ys[i] := by unfold tk; rw [List.getD_eq_getElem?_getD, List.getElem?_eq_getElem hi]; rfl
  rw [ht, Nat.mul_comm i 4]
  exact ⟨e0, heap_lt e1, h.ne hn, cell_of e1 (e2 _ _ c0), cell_of e1 (e2 _ _ c1), cell_of e1 (e2 _ _ c2), cell_of e1 (e2 _ _ c3)⟩
end

section
variable {D : DC} {nv bv : Value} {er a : Nat} {w : World}
abbrev PB (D : DC) : Value := .pointer (some ⟨D.bt, 0, none⟩)
theorem is_key {D : DC} {i : Nat} (hi : i < D.ys.length) (s : ByteArray) : Syn.is (Tk D.ys) i (bl s) = (((((tk D.ys D.len i).k : Nat) : Int) == 2 || (((tk D.ys D.len i).k : Nat) : Int) == 4) && (tk D.ys D.len i).t.toList == s.toList) := by
  unfold Syn.is
  rw [Tk_some (len := D.len) hi]
  simp only [keyOf]
  rw [eq_text]
  congr 1
  congr 1
  · rw [Bool.eq_iff_iff, beq_iff_eq, beq_iff_eq]; omega
  · rw [Bool.eq_iff_iff, beq_iff_eq, beq_iff_eq]; omega
theorem is_d (h : DS D nv bv 0 a w) (i : Nat) (s : ByteArray) : Calls Tryd.prog 21 #[PB D, .int .i64 (i : Nat), .string s] w fun e w' => e = .returned (.bool (Syn.is (Tk D.ys) i (bl s))) ∧ w = w' := by
  obtain ⟨q, x0, _, x2, _, _, _, _, _, hx⟩ := h.raw
  by_cases hi : i < D.ys.length
  · obtain ⟨rfl, _, _, y0, y1, _, _⟩ := hx i hi
    rw [is_key hi]
    generalize tk D.ys D.len i = x at *
    obtain ⟨b1, h1⟩ : ∃ b, (((x.k : Nat) : Int) == 2) = b := ⟨_, rfl⟩
    obtain ⟨b2, h2⟩ : ∃ b, (((x.k : Nat) : Int) == 4) = b := ⟨_, rfl⟩
    obtain ⟨b3, h3⟩ : ∃ b, (x.t.toList == s.toList) = b := ⟨_, rfl⟩
    rw [h1, h2, h3]
    have hii : (i : Int) < (D.ys.length : Nat) := by omega
    have e0 : ((((0 : Nat) : Int)) == 0) = true := rfl
    clear hx hi h
    generalize D.ys.length = n at *
    cases b1 <;> cases b2 <;> cases b3
    all_goals
      go_enter Tryd.func21, Tryd.ntmps21
      go_wp2
      go_ret
      exact ⟨rfl, rfl⟩
  · have hf : Syn.is (Tk D.ys) i (bl s) = false := by unfold Syn.is; rw [Tk_none (by omega)]
    rw [hf]
    have hii : ¬ ((i : Int) < (D.ys.length : Nat)) := by omega
    clear hx hi h
    generalize D.ys.length = n at *
    go_enter Tryd.func21, Tryd.ntmps21
    go_wp2
    go_ret
    exact ⟨rfl, rfl⟩
theorem is_f (h : DS D nv bv er a w) (he : er ≠ 0) (z : Int) (s : ByteArray) : Calls Tryd.prog 21 #[PB D, .int .i64 z, .string s] w fun e w' => e = .returned (.bool false) ∧ w = w' := by
  obtain ⟨q, x0, _, x2, _, _, _, _, _, hx⟩ := h.raw
  have e0 : ((er : Int) == 0) = false := by simp; omega
  clear hx h
  go_enter Tryd.func21, Tryd.ntmps21
  go_wp2
  go_ret
  exact ⟨rfl, rfl⟩
set_option maxRecDepth 100000 in
theorem bad_d (h : DS D nv bv 0 a w) (er i : Nat) : Calls Tryd.prog 11 #[PB D, .int .i64 (er : Nat), .int .i64 (i : Nat)] w fun e w' => e = .returned (.tuple #[]) ∧ Chg (fun k => k = D.bt) w w' ∧ DS D nv bv er (tk D.ys D.len i).a w' := by
  obtain ⟨q, x0, x1, x2, x3, _, _, hz, hlt, hx⟩ := h.raw
  have z2 := hz 2
  have z3 := hz 3
  have HS := Lib.hid h.st
  have e0 : (((0 : Nat) : Int) == 0) = true := rfl
  have e1 : (((0 : Nat) : Int) != 0) = false := rfl
  by_cases hi : i < D.ys.length
  · obtain ⟨rfl, hb, hne, y0, y1, y2, y3⟩ := hx i hi
    have hii : (i : Int) < (D.ys.length : Nat) := by omega
    have HT := Lib.hid (fun w' hc h1 => h.turn (w' := w') hc (er' := er) (a' := (tk D.ys D.len i).a) (nv' := nv) (bv' := bv) h1)
    have hne2 : ¬ D.bt = D.bw := fun e => hne e.symm
    clear hx h hz
    generalize tk D.ys D.len i = x at *
    generalize hnn : D.ys.length = n at *
    clear hnn
    go_enter Tryd.func11, Tryd.ntmps11
    go_wp2
    go_end0
    have hC := (((Chg.refl (fun k => k = D.bt) w).setCell (p := ⟨D.bt, 2, none⟩) (.inl rfl) (.int .i64 (er : Nat))).setCell (p := ⟨D.bt, 3, none⟩) (.inl rfl) (.int .i64 (D.len : Nat))).setCell (p := ⟨D.bt, 3, none⟩) (.inl rfl) (.int .i64 (x.a : Nat))
    exact ⟨rfl, hC, HT.out _ hC (heap_set (heap_set (heap_set HS.out 2 _) 3 _) 3 _)⟩
  · have ht : (tk D.ys D.len i).a = D.len := by rw [tk_end D.ys D.len (by omega)]
    rw [ht]
    have hii : ¬ ((i : Int) < (D.ys.length : Nat)) := by omega
    have HT := Lib.hid (fun w' hc h1 => h.turn (w' := w') hc (er' := er) (a' := D.len) (nv' := nv) (bv' := bv) h1)
    clear hx h hz
    generalize hnn : D.ys.length = n at *
    clear hnn
    go_enter Tryd.func11, Tryd.ntmps11
    go_wp2
    go_end0
    have hC := ((Chg.refl (fun k => k = D.bt) w).setCell (p := ⟨D.bt, 2, none⟩) (.inl rfl) (.int .i64 (er : Nat))).setCell (p := ⟨D.bt, 3, none⟩) (.inl rfl) (.int .i64 (D.len : Nat))
    exact ⟨rfl, hC, HT.out _ hC (heap_set (heap_set HS.out 2 _) 3 _)⟩
theorem bad_f (h : DS D nv bv er a w) (he : er ≠ 0) (x z : Int) : Calls Tryd.prog 11 #[PB D, .int .i64 x, .int .i64 z] w fun e w' => e = .returned (.tuple #[]) ∧ w = w' := by
  obtain ⟨q, x0, _, x2, _, _, _, _, _, hx⟩ := h.raw
  have e0 : ((er : Int) == 0) = false := by simp; omega
  have e1 : ((er : Int) != 0) = true := by simp; omega
  clear hx h
  go_enter Tryd.func11, Tryd.ntmps11
  go_wp2
  first | go_end0 | ((try simp only [Exit.inBlock, Exit.then]); refine bodyPost_ret (results_none rfl _ _ _) rfl ?_)
  exact ⟨rfl, rfl⟩
theorem wantD_yes (h : DS D nv bv 0 a w) {i : Nat} {s : ByteArray} (hi : i < D.ys.length) (hs : Syn.is (Tk D.ys) i (bl s) = true) : Calls Tryd.prog 28 #[PB D, .int .i64 (i : Nat), .string s] w fun e w' => e = .returned (.int .i64 ((i + 1 : Nat) : Int)) ∧ w = w' := by
  have HI := Lib.hid (is_d h i s)
  have hw : IntKind.i64.wrap ((i : Int) + 1) = (i : Int) + 1 := by rw [IntKind.wrap_i64]; have := h.few; omega
  go_enter Tryd.func28, Tryd.ntmps28
  go_wp2_with (go_at_call 21; refine HI.out.mono ?_; rintro e w' ⟨rfl, rfl⟩)
  go_ret
  exact ⟨by push_cast; rfl, rfl⟩
theorem wantD_no (h : DS D nv bv 0 a w) {i : Nat} {s : ByteArray} (hi : i ≤ 1000000) (hs : Syn.is (Tk D.ys) i (bl s) = false) : Calls Tryd.prog 28 #[PB D, .int .i64 (i : Nat), .string s] w fun e w' => (∃ z : Int, e = .returned (.int .i64 z)) ∧ Chg (fun k => k = D.bt) w w' ∧ DS D nv bv 50 (tk D.ys D.len i).a w' := by
  have HI := Lib.hid (is_d h i s)
  have HB := Lib.hid (bad_d h 50 i)
  have hw : IntKind.i64.wrap ((i : Int) + 1) = (i : Int) + 1 := by rw [IntKind.wrap_i64]; omega
  clear h
  go_enter Tryd.func28, Tryd.ntmps28
  go_wp2_with (first | (go_at_call 21; refine HI.out.mono ?_; rintro e w' ⟨rfl, rfl⟩) | (go_at_call 11; refine HB.out.mono ?_; rintro e w' ⟨rfl, hc, hd⟩))
  go_ret
  exact ⟨⟨_, rfl⟩, hc, hd⟩
theorem wantD_f (h : DS D nv bv er a w) (he : er ≠ 0) (z : Int) (s : ByteArray) : Calls Tryd.prog 28 #[PB D, .int .i64 z, .string s] w fun e w' => (∃ z : Int, e = .returned (.int .i64 z)) ∧ w = w' := by
  have HI := Lib.hid (is_f h he z s)
  have HB := Lib.hid (bad_f h he 50 z)
  clear h
  go_enter Tryd.func28, Tryd.ntmps28
  go_wp2_with (first | (go_at_call 21; refine HI.out.mono ?_; rintro e w' ⟨rfl, rfl⟩) | (go_at_call 11; refine HB.out.mono ?_; rintro e w' ⟨rfl, rfl⟩))
  go_ret
  exact ⟨⟨_, rfl⟩, rfl⟩
theorem nameD_yes (h : DS D nv bv 0 a w) {i : Nat} (hn : Syn.named (Tk D.ys) i = true) : Calls Tryd.prog 29 #[PB D, .int .i64 (i : Nat)] w fun e w' => e = .returned (.tuple #[.string (tk D.ys D.len i).t, .int .i64 ((i + 1 : Nat) : Int)]) ∧ w = w' := by
  have hi : i < D.ys.length := Syn.named_lt (tk_nones D.ys) hn
  have hk := named_kind D.ys D.len i
  rw [hn] at hk
  obtain ⟨q, x0, _, x2, _, _, _, _, _, hx⟩ := h.raw
  obtain ⟨rfl, _, _, y0, y1, _, _⟩ := hx i hi
  have hw : IntKind.i64.wrap ((i : Int) + 1) = (i : Int) + 1 := by rw [IntKind.wrap_i64]; have := h.few; omega
  have hii : (i : Int) < (D.ys.length : Nat) := by omega
  have hg : ¬ ((D.ys.length : Nat) : Int) ≤ (i : Int) := by omega
  have e0 : (((0 : Nat) : Int) != 0) = false := rfl
  have hk2 : (((tk D.ys D.len i).k : Int) != 1) = false := by rw [bne, hk]; rfl
  clear hx h
  generalize tk D.ys D.len i = x at *
  generalize D.ys.length = n at *
  go_enter Tryd.func29, Tryd.ntmps29
  go_wp2
  go_ret2
  exact ⟨by push_cast; rfl, rfl⟩
theorem nameD_no (h : DS D nv bv 0 a w) {i : Nat} (hi : i ≤ 1000000) (hn : Syn.named (Tk D.ys) i = false) : Calls Tryd.prog 29 #[PB D, .int .i64 (i : Nat)] w fun e w' => (∃ z : Int, e = .returned (.tuple #[.string ⟨#[]⟩, .int .i64 z])) ∧ Chg (fun k => k = D.bt) w w' ∧ DS D nv bv 50 (tk D.ys D.len i).a w' := by
  have HB := Lib.hid (bad_d h 50 i)
  have hk := named_kind D.ys D.len i
  rw [hn] at hk
  obtain ⟨q, x0, _, x2, _, _, _, _, _, hx⟩ := h.raw
  have hw : IntKind.i64.wrap ((i : Int) + 1) = (i : Int) + 1 := by rw [IntKind.wrap_i64]; omega
  have e0 : (((0 : Nat) : Int) != 0) = false := rfl
  have hk2 : (((tk D.ys D.len i).k : Int) != 1) = true := by rw [bne, hk]; rfl
  by_cases hi : i < D.ys.length
  · obtain ⟨rfl, _, _, y0, y1, _, _⟩ := hx i hi
    have hii : (i : Int) < (D.ys.length : Nat) := by omega
    have hg : ¬ ((D.ys.length : Nat) : Int) ≤ (i : Int) := by omega
    clear hx h
    generalize (tk D.ys D.len i).t = xt at *
    generalize (tk D.ys D.len i).k = xk at *
    generalize D.ys.length = n at *
    go_enter Tryd.func29, Tryd.ntmps29
    go_wp2_with (go_at_call 11; refine HB.out.mono ?_; rintro e w' ⟨rfl, hc, hd⟩)
    go_ret2
    exact ⟨⟨_, rfl⟩, hc, hd⟩
  · have hg : ((D.ys.length : Nat) : Int) ≤ (i : Int) := by omega
    clear hx h hk hk2
    generalize D.ys.length = n at *
    go_enter Tryd.func29, Tryd.ntmps29
    go_wp2_with (go_at_call 11; refine HB.out.mono ?_; rintro e w' ⟨rfl, hc, hd⟩)
    go_ret2
    exact ⟨⟨_, rfl⟩, hc, hd⟩
theorem nameD_f (h : DS D nv bv er a w) (he : er ≠ 0) (z : Int) : Calls Tryd.prog 29 #[PB D, .int .i64 z] w fun e w' => (∃ z : Int, e = .returned (.tuple #[.string ⟨#[]⟩, .int .i64 z])) ∧ w = w' := by
  have HB := Lib.hid (bad_f h he 50 z)
  obtain ⟨q, x0, _, x2, _, _, _, _, _, hx⟩ := h.raw
  have e1 : ((er : Int) != 0) = true := by simp; omega
  have e0 : ((er : Int) == 0) = false := by simp; omega
  clear hx h
  go_enter Tryd.func29, Tryd.ntmps29
  go_wp2_with (go_at_call 11; refine HB.out.mono ?_; rintro e w' ⟨rfl, rfl⟩)
  go_ret2
  exact ⟨⟨_, rfl⟩, rfl⟩
end
end Go.Proofs.YtnmcjkabihihiaaDoor
