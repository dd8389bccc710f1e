/- The document's parser: its state in memory, and its smallest calls, while there is no fault and behind one. -/
import Derived.Test.YtnmcjkabihihiaaGreatDoorQ4
import Derived.Deep.Cut
import Derived.Test.YtnmcjkabihihiaaGreatDoorQ10
import Derived.Deep.QuietTactic
import Derived.BigQuiet
import Derived.Laws.Bits64b
import Derived.Test.YtnmcjkabihihiaaGreatDoorQ3
import Derived.Deep.AppendLies
namespace Go.Proofs.YtnmcjkabihihiaaGreatDoor
open Go Go.RowKit Go.Proofs.Mm

theorem tkC_cons (x : It) (l : List It) : tokCells (x :: l) = .int .i64 (x.k : Nat) :: .string x.t :: .int .i64 (x.v : Nat) :: .int .i64 (x.a : Nat) :: tokCells l := by simp [tokCells]
theorem tkC_at : ∀ (l : List It) (j : Nat) (h : j < l.length), (tokCells l)[4 * j]? = some (.int .i64 (l[j].k : Nat)) ∧ (tokCells l)[4 * j + 1]? = some (.string l[j].t) ∧ (tokCells l)[4 * j + 2]? = some (.int .i64 (l[j].v : Nat)) ∧ (tokCells l)[4 * j + 3]? = some (.int .i64 (l[j].a : Nat))
  | [], j, h => absurd h (by simp)
  | x :: l, 0, _ => by rw [tkC_cons]; exact ⟨rfl, rfl, rfl, rfl⟩
  | x :: l, j + 1, h => by
    have := tkC_at l j (by simpa using h)
    rw [tkC_cons]
    simp only [show 4 * (j + 1) = 4 * j + 1 + 1 + 1 + 1 by omega, show 4 * j + 1 + 1 + 1 + 1 + 1 = (4 * j + 1) + 1 + 1 + 1 + 1 by omega, show 4 * j + 1 + 1 + 1 + 1 + 2 = (4 * j + 2) + 1 + 1 + 1 + 1 by omega, show 4 * j + 1 + 1 + 1 + 1 + 3 = (4 * j + 3) + 1 + 1 + 1 + 1 by omega, List.getElem?_cons_succ, List.getElem_cons_succ]
    exact this
/-- What stays: the words, the text's length, where all that lies. -/
structure DC where
  ys : List It
  len : Nat
  bt : Nat
  bw : Nat
  cq : Nat
  q : Option Addr
/-- The document's parser lies at bt; er: its fault (0: none), a: where; nv: its principals, bv: its statements so far. -/
structure DS (D : DC) (nv bv : Value) (er a : Nat) (w : World) : Prop where
  st : w.heap[D.bt]? = some (.cells #[.slice D.q D.ys.length D.cq, .int .i64 (D.len : Nat), .int .i64 (er : Nat), .int .i64 (a : Nat), nv, bv] 66 (0, 0))
  tok : D.ys = [] ∨ D.q = some ⟨D.bw, 0, none⟩ ∧ ∃ arr : Array Value, w.heap[D.bw]? = some (.cells arr 104 (0, 0)) ∧ ∀ (j : Nat) (u : Value), (tokCells D.ys)[j]? = some u → arr[j]? = some u
  few : D.ys.length ≤ 65536
section
variable {D : DC} {nv bv : Value} {er a : Nat} {w : World}
theorem DS.ne (h : DS D nv bv er a w) (hn : D.ys ≠ []) : D.bw ≠ D.bt := by
  obtain ⟨_, arr, h1, _⟩ := h.tok.resolve_left hn
  intro e
  have h2 := h.st
  rw [← e, h1] at h2
  simp at h2
theorem DS.chg (h : DS D nv bv er a w) {S : Nat → Prop} {w' : World} (hc : Chg S w w') (h1 : ¬ S D.bt) (h2 : ¬ S D.bw) : DS D nv bv er a w' :=
  ⟨hc.heap h.st h1, by
    rcases h.tok with e | ⟨e0, arr, e1, e2⟩
    · exact .inl e
    · exact .inr ⟨e0, arr, hc.heap e1 h2, e2⟩, h.few⟩
/-- The parser's own block turned. -/
theorem DS.turn (h : DS D nv bv er a w) {w' : World} (hc : Chg (fun k => k = D.bt) w w') {er' a' : Nat} {nv' bv' : Value} (h1 : w'.heap[D.bt]? = some (.cells #[.slice D.q D.ys.length D.cq, .int .i64 (D.len : Nat), .int .i64 (er' : Nat), .int .i64 (a' : Nat), nv', bv'] 66 (0, 0))) : DS D nv' bv' er' a' w' :=
  ⟨h1, by
    by_cases hn : D.ys = []
    · exact .inl hn
    · obtain ⟨e0, arr, e1, e2⟩ := h.tok.resolve_left hn
      exact .inr ⟨e0, arr, hc.heap e1 (h.ne hn), e2⟩, h.few⟩
/-- What the walk wants of the state. -/
theorem DS.raw (h : DS D nv bv er a w) : ∃ q, w.cell? ⟨D.bt, 0, none⟩ = some (.slice q D.ys.length D.cq) ∧ w.cell? ⟨D.bt, 1, none⟩ = some (.int .i64 (D.len : Nat)) ∧ w.cell? ⟨D.bt, 2, none⟩ = some (.int .i64 (er : Nat)) ∧ w.cell? ⟨D.bt, 3, none⟩ = some (.int .i64 (a : Nat)) ∧ w.cell? ⟨D.bt, 4, none⟩ = some nv ∧ w.cell? ⟨D.bt, 5, none⟩ = some bv ∧
    (∀ j, w.frozen? ⟨D.bt, j, none⟩ = false) ∧ D.bt < w.heap.size ∧
    ∀ i, i < D.ys.length → q = some ⟨D.bw, 0, none⟩ ∧ D.bw < w.heap.size ∧ D.bw ≠ D.bt ∧ w.cell? ⟨D.bw, i * 4, none⟩ = some (.int .i64 ((tk D.ys D.len i).k : Nat)) ∧ w.cell? ⟨D.bw, i * 4 + 1, none⟩ = some (.string (tk D.ys D.len i).t) ∧ w.cell? ⟨D.bw, i * 4 + 2, none⟩ = some (.int .i64 ((tk D.ys D.len i).v : Nat)) ∧ w.cell? ⟨D.bw, i * 4 + 3, none⟩ = some (.int .i64 ((tk D.ys D.len i).a : Nat)) := by
  refine ⟨_, cell_of h.st rfl, cell_of h.st rfl, cell_of h.st rfl, cell_of h.st rfl, cell_of h.st rfl, cell_of h.st rfl, fun j => free_of h.st, heap_lt h.st, fun i hi => ?_⟩
  have hn : D.ys ≠ [] := by intro e; rw [e] at hi; simp at hi
  obtain ⟨e0, arr, e1, e2⟩ := h.tok.resolve_left hn
  obtain ⟨c0, c1, c2, c3⟩ := tkC_at D.ys i hi
  have ht : tk D.ys D.len i = D.ys[i] := by unfold tk; rw [List.getD_eq_getElem?_getD, List.getElem?_eq_getElem hi]; rfl
  rw [ht, Nat.mul_comm i 4]
  exact ⟨e0, heap_lt e1, h.ne hn, cell_of e1 (e2 _ _ c0), cell_of e1 (e2 _ _ c1), cell_of e1 (e2 _ _ c2), cell_of e1 (e2 _ _ c3)⟩
end

section
variable {D : DC} {nv bv : Value} {er a : Nat} {w : World}
abbrev PB (D : DC) : Value := .pointer (some ⟨D.bt, 0, none⟩)
theorem is_key {D : DC} {i : Nat} (hi : i < D.ys.length) (s : ByteArray) : Syn.is (Tk D.ys) i (bl s) = (((((tk D.ys D.len i).k : Nat) : Int) == 2 || (((tk D.ys D.len i).k : Nat) : Int) == 4) && (tk D.ys D.len i).t.toList == s.toList) := by
  unfold Syn.is
  rw [Tk_some (len := D.len) hi]
  simp only [keyOf]
  rw [eq_text]
  congr 1
  congr 1
  · rw [Bool.eq_iff_iff, beq_iff_eq, beq_iff_eq]; omega
  · rw [Bool.eq_iff_iff, beq_iff_eq, beq_iff_eq]; omega
theorem is_d (h : DS D nv bv 0 a w) (i : Nat) (s : ByteArray) : Calls Tryz.prog 37 #[PB D, .int .i64 (i : Nat), .string s] w fun e w' => e = .returned (.bool (Syn.is (Tk D.ys) i (bl s))) ∧ w = w' := by
  obtain ⟨q, x0, _, x2, _, _, _, _, _, hx⟩ := h.raw
  by_cases hi : i < D.ys.length
  · obtain ⟨rfl, _, _, y0, y1, _, _⟩ := hx i hi
    rw [is_key hi]
    generalize tk D.ys D.len i = x at *
    obtain ⟨b1, h1⟩ : ∃ b, (((x.k : Nat) : Int) == 2) = b := ⟨_, rfl⟩
    obtain ⟨b2, h2⟩ : ∃ b, (((x.k : Nat) : Int) == 4) = b := ⟨_, rfl⟩
    obtain ⟨b3, h3⟩ : ∃ b, (x.t.toList == s.toList) = b := ⟨_, rfl⟩
    rw [h1, h2, h3]
    have hii : (i : Int) < (D.ys.length : Nat) := by omega
    have e0 : ((((0 : Nat) : Int)) == 0) = true := rfl
    clear hx hi h
    generalize D.ys.length = n at *
    cases b1 <;> cases b2 <;> cases b3
    all_goals
      go_enter Tryz.func37, Tryz.ntmps37
      go_wp2
      go_ret
      exact ⟨rfl, rfl⟩
  · have hf : Syn.is (Tk D.ys) i (bl s) = false := by unfold Syn.is; rw [Tk_none (by omega)]
    rw [hf]
    have hii : ¬ ((i : Int) < (D.ys.length : Nat)) := by omega
    clear hx hi h
    generalize D.ys.length = n at *
    go_enter Tryz.func37, Tryz.ntmps37
    go_wp2
    go_ret
    exact ⟨rfl, rfl⟩
theorem is_f (h : DS D nv bv er a w) (he : er ≠ 0) (z : Int) (s : ByteArray) : Calls Tryz.prog 37 #[PB D, .int .i64 z, .string s] w fun e w' => e = .returned (.bool false) ∧ w = w' := by
  obtain ⟨q, x0, _, x2, _, _, _, _, _, hx⟩ := h.raw
  have e0 : ((er : Int) == 0) = false := by simp; omega
  clear hx h
  go_enter Tryz.func37, Tryz.ntmps37
  go_wp2
  go_ret
  exact ⟨rfl, rfl⟩
set_option maxRecDepth 100000 in
theorem bad_d (h : DS D nv bv 0 a w) (er i : Nat) : Calls Tryz.prog 39 #[PB D, .int .i64 (er : Nat), .int .i64 (i : Nat)] w fun e w' => e = .returned (.tuple #[]) ∧ Chg (fun k => k = D.bt) w w' ∧ DS D nv bv er (tk D.ys D.len i).a w' := by
  obtain ⟨q, x0, x1, x2, x3, _, _, hz, hlt, hx⟩ := h.raw
  have z2 := hz 2
  have z3 := hz 3
  have HS := Lib.hid h.st
  have e0 : (((0 : Nat) : Int) == 0) = true := rfl
  have e1 : (((0 : Nat) : Int) != 0) = false := rfl
  by_cases hi : i < D.ys.length
  · obtain ⟨rfl, hb, hne, y0, y1, y2, y3⟩ := hx i hi
    have hii : (i : Int) < (D.ys.length : Nat) := by omega
    have HT := Lib.hid (fun w' hc h1 => h.turn (w' := w') hc (er' := er) (a' := (tk D.ys D.len i).a) (nv' := nv) (bv' := bv) h1)
    have hne2 : ¬ D.bt = D.bw := fun e => hne e.symm
    clear hx h hz
    generalize tk D.ys D.len i = x at *
    generalize hnn : D.ys.length = n at *
    clear hnn
    go_enter Tryz.func39, Tryz.ntmps39
    go_wp2
    go_end0
    have hC := (((Chg.refl (fun k => k = D.bt) w).setCell (p := ⟨D.bt, 2, none⟩) (.inl rfl) (.int .i64 (er : Nat))).setCell (p := ⟨D.bt, 3, none⟩) (.inl rfl) (.int .i64 (D.len : Nat))).setCell (p := ⟨D.bt, 3, none⟩) (.inl rfl) (.int .i64 (x.a : Nat))
    exact ⟨rfl, hC, HT.out _ hC (heap_set (heap_set (heap_set HS.out 2 _) 3 _) 3 _)⟩
  · have ht : (tk D.ys D.len i).a = D.len := by rw [tk_end D.ys D.len (by omega)]
    rw [ht]
    have hii : ¬ ((i : Int) < (D.ys.length : Nat)) := by omega
    have HT := Lib.hid (fun w' hc h1 => h.turn (w' := w') hc (er' := er) (a' := D.len) (nv' := nv) (bv' := bv) h1)
    clear hx h hz
    generalize hnn : D.ys.length = n at *
    clear hnn
    go_enter Tryz.func39, Tryz.ntmps39
    go_wp2
    go_end0
    have hC := ((Chg.refl (fun k => k = D.bt) w).setCell (p := ⟨D.bt, 2, none⟩) (.inl rfl) (.int .i64 (er : Nat))).setCell (p := ⟨D.bt, 3, none⟩) (.inl rfl) (.int .i64 (D.len : Nat))
    exact ⟨rfl, hC, HT.out _ hC (heap_set (heap_set HS.out 2 _) 3 _)⟩
theorem bad_f (h : DS D nv bv er a w) (he : er ≠ 0) (x z : Int) : Calls Tryz.prog 39 #[PB D, .int .i64 x, .int .i64 z] w fun e w' => e = .returned (.tuple #[]) ∧ w = w' := by
  obtain ⟨q, x0, _, x2, _, _, _, _, _, hx⟩ := h.raw
  have e0 : ((er : Int) == 0) = false := by simp; omega
  have e1 : ((er : Int) != 0) = true := by simp; omega
  clear hx h
  go_enter Tryz.func39, Tryz.ntmps39
  go_wp2
  first | go_end0 | ((try simp only [Exit.inBlock, Exit.then]); refine bodyPost_ret (results_none rfl _ _ _) rfl ?_)
  exact ⟨rfl, rfl⟩
theorem wantD_yes (h : DS D nv bv 0 a w) {i : Nat} {s : ByteArray} (hi : i < D.ys.length) (hs : Syn.is (Tk D.ys) i (bl s) = true) : Calls Tryz.prog 41 #[PB D, .int .i64 (i : Nat), .string s] w fun e w' => e = .returned (.int .i64 ((i + 1 : Nat) : Int)) ∧ w = w' := by
  have HI := Lib.hid (is_d h i s)
  have hw : IntKind.i64.wrap ((i : Int) + 1) = (i : Int) + 1 := by rw [IntKind.wrap_i64]; have := h.few; omega
  go_enter Tryz.func41, Tryz.ntmps41
  go_wp2_with (go_at_call 37; refine HI.out.mono ?_; rintro e w' ⟨rfl, rfl⟩)
  go_ret
  exact ⟨by push_cast; rfl, rfl⟩
theorem wantD_no (h : DS D nv bv 0 a w) {i : Nat} {s : ByteArray} (hi : i ≤ 1000000) (hs : Syn.is (Tk D.ys) i (bl s) = false) : Calls Tryz.prog 41 #[PB D, .int .i64 (i : Nat), .string s] w fun e w' => (∃ z : Int, e = .returned (.int .i64 z)) ∧ Chg (fun k => k = D.bt) w w' ∧ DS D nv bv 50 (tk D.ys D.len i).a w' := by
  have HI := Lib.hid (is_d h i s)
  have HB := Lib.hid (bad_d h 50 i)
  have hw : IntKind.i64.wrap ((i : Int) + 1) = (i : Int) + 1 := by rw [IntKind.wrap_i64]; omega
  clear h
  go_enter Tryz.func41, Tryz.ntmps41
  go_wp2_with (first | (go_at_call 37; refine HI.out.mono ?_; rintro e w' ⟨rfl, rfl⟩) | (go_at_call 39; refine HB.out.mono ?_; rintro e w' ⟨rfl, hc, hd⟩))
  go_ret
  exact ⟨⟨_, rfl⟩, hc, hd⟩
theorem wantD_f (h : DS D nv bv er a w) (he : er ≠ 0) (z : Int) (s : ByteArray) : Calls Tryz.prog 41 #[PB D, .int .i64 z, .string s] w fun e w' => (∃ z : Int, e = .returned (.int .i64 z)) ∧ w = w' := by
  have HI := Lib.hid (is_f h he z s)
  have HB := Lib.hid (bad_f h he 50 z)
  clear h
  go_enter Tryz.func41, Tryz.ntmps41
  go_wp2_with (first | (go_at_call 37; refine HI.out.mono ?_; rintro e w' ⟨rfl, rfl⟩) | (go_at_call 39; refine HB.out.mono ?_; rintro e w' ⟨rfl, rfl⟩))
  go_ret
  exact ⟨⟨_, rfl⟩, rfl⟩
theorem nameD_yes (h : DS D nv bv 0 a w) {i : Nat} (hn : Syn.named (Tk D.ys) i = true) : Calls Tryz.prog 40 #[PB D, .int .i64 (i : Nat)] w fun e w' => e = .returned (.tuple #[.string (tk D.ys D.len i).t, .int .i64 ((i + 1 : Nat) : Int)]) ∧ w = w' := by
  have hi : i < D.ys.length := Syn.named_lt (tk_nones D.ys) hn
  have hk := named_kind D.ys D.len i
  rw [hn] at hk
  obtain ⟨q, x0, _, x2, _, _, _, _, _, hx⟩ := h.raw
  obtain ⟨rfl, _, _, y0, y1, _, _⟩ := hx i hi
  have hw : IntKind.i64.wrap ((i : Int) + 1) = (i : Int) + 1 := by rw [IntKind.wrap_i64]; have := h.few; omega
  have hii : (i : Int) < (D.ys.length : Nat) := by omega
  have hg : ¬ ((D.ys.length : Nat) : Int) ≤ (i : Int) := by omega
  have e0 : (((0 : Nat) : Int) != 0) = false := rfl
  have hk2 : (((tk D.ys D.len i).k : Int) != 1) = false := by rw [bne, hk]; rfl
  clear hx h
  generalize tk D.ys D.len i = x at *
  generalize D.ys.length = n at *
  go_enter Tryz.func40, Tryz.ntmps40
  go_wp2
  go_ret2
  exact ⟨by push_cast; rfl, rfl⟩
theorem nameD_no (h : DS D nv bv 0 a w) {i : Nat} (hi : i ≤ 1000000) (hn : Syn.named (Tk D.ys) i = false) : Calls Tryz.prog 40 #[PB D, .int .i64 (i : Nat)] w fun e w' => (∃ z : Int, e = .returned (.tuple #[.string ⟨#[]⟩, .int .i64 z])) ∧ Chg (fun k => k = D.bt) w w' ∧ DS D nv bv 50 (tk D.ys D.len i).a w' := by
  have HB := Lib.hid (bad_d h 50 i)
  have hk := named_kind D.ys D.len i
  rw [hn] at hk
  obtain ⟨q, x0, _, x2, _, _, _, _, _, hx⟩ := h.raw
  have hw : IntKind.i64.wrap ((i : Int) + 1) = (i : Int) + 1 := by rw [IntKind.wrap_i64]; omega
  have e0 : (((0 : Nat) : Int) != 0) = false := rfl
  have hk2 : (((tk D.ys D.len i).k : Int) != 1) = true := by rw [bne, hk]; rfl
  by_cases hi : i < D.ys.length
  · obtain ⟨rfl, _, _, y0, y1, _, _⟩ := hx i hi
    have hii : (i : Int) < (D.ys.length : Nat) := by omega
    have hg : ¬ ((D.ys.length : Nat) : Int) ≤ (i : Int) := by omega
    clear hx h
    generalize (tk D.ys D.len i).t = xt at *
    generalize (tk D.ys D.len i).k = xk at *
    generalize D.ys.length = n at *
    go_enter Tryz.func40, Tryz.ntmps40
    go_wp2_with (go_at_call 39; refine HB.out.mono ?_; rintro e w' ⟨rfl, hc, hd⟩)
    go_ret2
    exact ⟨⟨_, rfl⟩, hc, hd⟩
  · have hg : ((D.ys.length : Nat) : Int) ≤ (i : Int) := by omega
    clear hx h hk hk2
    generalize D.ys.length = n at *
    go_enter Tryz.func40, Tryz.ntmps40
    go_wp2_with (go_at_call 39; refine HB.out.mono ?_; rintro e w' ⟨rfl, hc, hd⟩)
    go_ret2
    exact ⟨⟨_, rfl⟩, hc, hd⟩
theorem nameD_f (h : DS D nv bv er a w) (he : er ≠ 0) (z : Int) : Calls Tryz.prog 40 #[PB D, .int .i64 z] w fun e w' => (∃ z : Int, e = .returned (.tuple #[.string ⟨#[]⟩, .int .i64 z])) ∧ w = w' := by
  have HB := Lib.hid (bad_f h he 50 z)
  obtain ⟨q, x0, _, x2, _, _, _, _, _, hx⟩ := h.raw
  have e1 : ((er : Int) != 0) = true := by simp; omega
  have e0 : ((er : Int) == 0) = false := by simp; omega
  clear hx h
  go_enter Tryz.func40, Tryz.ntmps40
  go_wp2_with (go_at_call 39; refine HB.out.mono ?_; rintro e w' ⟨rfl, rfl⟩)
  go_ret2
  exact ⟨⟨_, rfl⟩, rfl⟩
end
end Go.Proofs.YtnmcjkabihihiaaGreatDoor

/- The document's expressions, behind a fault: a name without a text, and nothing else turns. -/
namespace Go.Proofs.YtnmcjkabihihiaaGreatDoor
open Go Go.RowKit Go.Proofs.Mm

section
variable {D : DC} {nv bv : Value} {er a : Nat} {w : World}
theorem own_not {B n size : Nat} {E : TypeId} {v : Value} {xs : List Value} (h : DS D nv bv er a w) (hr : w.ownsRow B E size v n xs) (hE : E ≠ 66) : v.ownBlock ≠ some D.bt := by
  intro e
  obtain ⟨cur, hc⟩ := own_type hr e
  have := h.st.symm.trans hc
  simp only [Option.some.injEq, Obj.cells.injEq] at this
  exact hE this.2.1.symm
theorem own_notW {B n size : Nat} {E : TypeId} {v : Value} {xs : List Value} (h : DS D nv bv er a w) (hr : w.ownsRow B E size v n xs) (hE : E ≠ 104) (hn : D.ys ≠ []) : v.ownBlock ≠ some D.bw := by
  intro e
  obtain ⟨cur, hc⟩ := own_type hr e
  obtain ⟨_, arr, h1, _⟩ := h.tok.resolve_left hn
  have := h1.symm.trans hc
  simp only [Option.some.injEq, Obj.cells.injEq] at this
  exact hE this.2.1.symm
/-- A row of another type grows: the state stays. -/
theorem DS.grown {B n size : Nat} {E : TypeId} {v : Value} {xs : List Value} (h : DS D nv bv er a w) (hr : w.ownsRow B E size v n xs) (h1 : E ≠ 66) (h2 : E ≠ 104) {w1 w' : World} (h0 : Chg (fun _ => False) w w1) (hg : w1.grownBy w' v.ownBlock) : DS D nv bv er a w' := by
  have hC : Chg (fun k => v.ownBlock = some k) w w' := (h0.mono (fun _ e => e.elim)).then (grown_chg hg (fun k hk => .inl hk))
  by_cases hn : D.ys = []
  · exact ⟨hC.heap h.st (own_not h hr h1), .inl hn, h.few⟩
  · exact h.chg hC (own_not h hr h1) (own_notW h hr h2 hn)
/-- What is answered behind a fault. -/
def FlR (D : DC) (nv bv : Value) (er a : Nat) (w : World) (e : Ending) (w' : World) : Prop :=
  ∃ q c z, e = .returned (.tuple #[.slice q 1 c, .int .i64 z]) ∧ w'.ownsRow w.heap.size 77 3 (.slice q 1 c) 1 (tmC ⟨2, 0, []⟩) ∧ DS D nv bv er a w' ∧ Chg (fun _ => False) w w'
set_option maxRecDepth 100000 in
set_option maxHeartbeats 1000000 in
theorem unary_f (h : DS D nv bv er a w) (he : er ≠ 0) (z d : Int) : Calls Tryz.prog 111 #[PB D, .int .i64 z, .int .i64 d] w (FlR D nv bv er a w) := by
  have HI := Lib.hid (fun s => is_f h he z s)
  have HN := Lib.hid (nameD_f h he z)
  have HIS := Lib.hid (fun z s => is_f h he z s)
  have HD := Lib.hid h
  obtain ⟨q, x0, _, x2, _, _, _, _, hlt, hx⟩ := h.raw
  have e0 : ((er : Int) == 0) = false := by simp; omega
  obtain ⟨j0, hj0, hy0, hy1, hy2⟩ := infoTm
  have hrow := World.ownsRow_nil w w.heap.size 77 3
  have hnew := row_new w [.int .i64 2, .int .i64 0, .string ⟨#[]⟩] 77
  have hone : ∀ u ∈ [Value.int .i64 2, .int .i64 0, .string ⟨#[]⟩], u.oneCell' = true := by
    intro u hu
    simp only [List.mem_cons, List.not_mem_nil, or_false] at hu
    rcases hu with rfl | rfl | rfl <;> rfl
  clear hx h
  go_enter Tryz.func111, Tryz.ntmps111
  go_wp2_with fail
  go_loopw [1, 8] (fun iv ov wr => iv = .int .i64 z ∧ ov = .slice none 0 0 ∧ wr = w) (fun _ _ _ => 0)
  case atStart => exact ⟨rfl, rfl, rfl⟩
  case round =>
    obtain ⟨rfl, rfl, rfl⟩ := hrel
    go_upto_region 29 with (first | (go_at_call 37; refine (HIS.out _ _).mono ?_; rintro e w' ⟨rfl, rfl⟩) | (go_at_call 40; refine HN.out.mono ?_; rintro e w' ⟨⟨z2, rfl⟩, rfl⟩))
    go_wp2_with (at_builtin; refine wpList_append_own_at _ rfl _ _ 49 rfl wr.heap.size 77 j0 _ 3 32 Tryz.underlying49 hj0 hy0 hy1 hy2 rfl (by decide) _ _ _ rfl (hrow.alloc _) ⟨wr.heap.size, 0, none⟩ 1 1 [.int .i64 2, .int .i64 0, .string ⟨#[]⟩] rfl rfl hnew hone (by unfold maxLen; omega) (by omega) (by simp) ?_)
    intro v2 w2 ho2 hg2 _ _
    obtain ⟨q2, c2, rfl⟩ := own_shape ho2
    have HD2 := Lib.hid (HD.out.grown hrow (by decide) (by decide) ((Chg.refl _ _).alloc _) hg2)
    have HC2 := Lib.hid (show Chg (fun _ => False) wr w2 from ((Chg.refl _ wr).alloc _).then (grown_chg hg2 (fun k hk => by cases hk)))
    have HO2 := Lib.hid ho2
    clear hg2 ho2 hrow hnew
    have hm1 : IntKind.i64.wrap ((0 : Int) - 1) = -1 := by decide
    go_wp2_with fail
    go_loopw [10, 17] (fun lv kv wv => lv = .slice q2 1 c2 ∧ kv = .int .i64 (-1) ∧ wv = w2) (fun _ _ _ => 0)
    case atStart => exact ⟨rfl, rfl, rfl⟩
    case round =>
      obtain ⟨rfl, rfl, rfl⟩ := hrel
      go_wp2_with fail
      go_ret2
      exact ⟨q2, c2, _, rfl, HO2.out, HD2.out, HC2.out⟩
set_option maxRecDepth 100000 in
set_option maxHeartbeats 1000000 in
theorem level_f (h : DS D nv bv er a w) (he : er ≠ 0) (z d : Int) : ∀ m : Nat, m ≤ 6 → Calls Tryz.prog 89 #[PB D, .int .i64 z, .int .i64 ((6 - m : Nat) : Int), .int .i64 d] w (FlR D nv bv er a w)
  | 0, _ => by
    have HU := Lib.hid (unary_f h he z d)
    have e6 : (((6 - 0 : Nat) : Int) == 6) = true := rfl
    go_enter Tryz.func89, Tryz.ntmps89
    go_wp2_with fail
    go_at_call 111
    refine HU.out.mono ?_
    rintro e w1 ⟨q, c, z1, rfl, ho, hd, hc⟩
    have HO := Lib.hid ho
    have HD := Lib.hid hd
    have HC := Lib.hid hc
    clear ho hd hc
    go_wp2_with fail
    go_ret2
    exact ⟨q, c, z1, rfl, HO.out, HD.out, HC.out⟩
  | m + 1, hm => by
    have HU := Lib.hid (level_f h he z d m (by omega))
    obtain ⟨l, hl⟩ : ∃ l, 6 - (m + 1) = l := ⟨_, rfl⟩
    have hl1 : ((6 - m : Nat) : Int) = (l : Int) + 1 := by omega
    rw [hl]
    rw [hl1] at HU
    have e6 : ((l : Int) == 6) = false := by simp; omega
    have hw1 : IntKind.i64.wrap ((l : Int) + 1) = (l : Int) + 1 := by rw [IntKind.wrap_i64]; omega
    have hef : ((er : Int) == 0) = false := by simp; omega
    clear hl hl1
    go_enter Tryz.func89, Tryz.ntmps89
    go_wp2_with fail
    go_at_call 89
    refine HU.out.mono ?_
    rintro e w1 ⟨q, c, z1, rfl, ho, hd, hc⟩
    have HO := Lib.hid ho
    have HD := Lib.hid hd
    have HC := Lib.hid hc
    obtain ⟨qr, _, _, x2, _⟩ := hd.raw
    clear ho hd hc
    go_wp2_with fail
    go_loopw [12, 1] (fun lv iv wv => lv = .slice q 1 c ∧ iv = .int .i64 z1 ∧ wv = w1) (fun _ _ _ => 0)
    case atStart => exact ⟨rfl, rfl, rfl⟩
    case round =>
      obtain ⟨rfl, rfl, rfl⟩ := hrel
      go_wp2_with fail
      go_ret2
      exact ⟨q, c, z1, rfl, HO.out, HD.out, HC.out⟩
end
end Go.Proofs.YtnmcjkabihihiaaGreatDoor

/- The document's labels and declarations. -/
namespace Go.Proofs.YtnmcjkabihihiaaGreatDoor
open Go Go.RowKit Go.Proofs.Mm

section
variable {D : DC} {nv bv : Value} {er a : Nat} {w : World} {ns : List (List Nat)}
theorem namedD (h : DS D nv bv 0 a w) (i : Nat) : Calls Tryz.prog 38 #[PB D, .int .i64 (i : Nat)] w fun e w' => e = .returned (.bool (Syn.named (Tk D.ys) i)) ∧ w = w' := by
  have hk := named_kind D.ys D.len i
  obtain ⟨q, x0, _, x2, _, _, _, _, _, hx⟩ := h.raw
  have e0 : (((0 : Nat) : Int) == 0) = true := rfl
  by_cases hi : i < D.ys.length
  · obtain ⟨rfl, _, _, y0, _, _, _⟩ := hx i hi
    have hii : (i : Int) < (D.ys.length : Nat) := by omega
    clear hx hi h
    generalize Syn.named (Tk D.ys) i = b at *
    generalize (tk D.ys D.len i).k = xk at *
    generalize D.ys.length = n at *
    cases b
    all_goals
      go_enter Tryz.func38, Tryz.ntmps38
      go_wp2
      go_ret
      exact ⟨rfl, rfl⟩
  · have hf : Syn.named (Tk D.ys) i = false := by unfold Syn.named; rw [Tk_none (by omega)]
    rw [hf]
    have hii : ¬ ((i : Int) < (D.ys.length : Nat)) := by omega
    clear hx hi h hk
    generalize D.ys.length = n at *
    go_enter Tryz.func38, Tryz.ntmps38
    go_wp2
    go_ret
    exact ⟨rfl, rfl⟩
theorem idx_at {t : List Nat} : ∀ {ns : List (List Nat)} {k : Nat} (hk : k < ns.length), (∀ x (hx : x < k), ns[x]'(Nat.lt_trans hx hk) ≠ t) → ns[k] = t → ns.idxOf t = k
  | [], k, hk, _, _ => absurd hk (by simp)
  | b :: ns, 0, _, _, he => by
    have he : b = t := he
    rw [List.idxOf_cons, he]; simp
  | b :: ns, k + 1, hk, h, he => by
    have h0 : b ≠ t := h 0 (by omega)
    rw [List.idxOf_cons, show (b == t) = false from by simpa using h0, idx_at (by simpa using hk) (fun x hx => h (x + 1) (by omega)) he]; rfl
theorem idx_none {t : List Nat} : ∀ {ns : List (List Nat)}, (∀ x (hx : x < ns.length), ns[x] ≠ t) → ns.idxOf t = ns.length
  | [], _ => rfl
  | b :: ns, h => by
    have h0 : b ≠ t := h 0 (by simp)
    rw [List.idxOf_cons, show (b == t) = false from by simpa using h0, idx_none (fun x hx => h (x + 1) (by simpa using hx))]; rfl
theorem DS.drewN (h : DS D nv bv er a w) (n : Nat) : DS D nv bv er a (w.drewN n) := ⟨h.st, h.tok, h.few⟩
theorem NR.drewN (h : NR w nv ns) (n : Nat) : NR (w.drewN n) nv ns := h
theorem namedF (h : DS D nv bv er a w) (he : er ≠ 0) (z : Int) : Calls Tryz.prog 38 #[PB D, .int .i64 z] w fun e w' => e = .returned (.bool false) ∧ w = w' := by
  obtain ⟨q, x0, _, x2, _, _, _, _, _, hx⟩ := h.raw
  have e0 : ((er : Int) == 0) = false := by simp; omega
  clear hx h
  go_enter Tryz.func38, Tryz.ntmps38
  go_wp2
  go_ret
  exact ⟨rfl, rfl⟩
theorem labelF (h : DS D nv bv er a w) (he : er ≠ 0) (z : Int) : Calls Tryz.prog 43 #[PB D, .int .i64 z] w fun e w' => (∃ z : Int, e = .returned (.tuple #[.int .u64 0, .int .i64 z])) ∧ w = w' := by
  have HW := Lib.hid (fun z s => wantD_f h he z s)
  have HN := Lib.hid (fun z => namedF h he z)
  clear h
  go_enter Tryz.func43, Tryz.ntmps43
  go_wp2_with (go_at_call 41; refine (HW.out _ _).mono ?_; rintro e w' ⟨⟨z1, rfl⟩, rfl⟩)
  go_loopw [1, 6] (fun iv lv wr => iv = .int .i64 z1 ∧ lv = .int .u64 0 ∧ wr = w) (fun _ _ _ => 0)
  case atStart => exact ⟨rfl, rfl, rfl⟩
  case round =>
    obtain ⟨rfl, rfl, rfl⟩ := hrel
    go_wp2_with (first | (go_at_call 38; refine (HN.out _).mono ?_; rintro e w' ⟨rfl, rfl⟩) | (go_at_call 41; refine (HW.out _ _).mono ?_; rintro e w' ⟨⟨z2, rfl⟩, rfl⟩))
    go_ret2
    exact ⟨⟨_, rfl⟩, rfl⟩
set_option maxRecDepth 100000 in
set_option maxHeartbeats 4000000 in
theorem labelD (h : DS D nv bv 0 a w) (hn : NR w nv ns) {i : Nat} (hi : i ≤ D.ys.length) : Calls Tryz.prog 43 #[PB D, .int .i64 (i : Nat)] w fun e w' => Chg (fun k => k = D.bt) w w' ∧
    ((∃ l j, Syn.label (Tk D.ys) (D.ys.length + 1) ns i = .ok (l, j) ∧ l < 18446744073709551616 ∧ e = .returned (.tuple #[.int .u64 (l : Nat), .int .i64 (j : Nat)]) ∧ DS D nv bv 0 a w') ∨
     (∃ (k t l : Nat) (z : Int), Syn.label (Tk D.ys) (D.ys.length + 1) ns i = .error (k, t) ∧ k ≠ 0 ∧ l < 18446744073709551616 ∧ e = .returned (.tuple #[.int .u64 (l : Nat), .int .i64 z]) ∧ DS D nv bv k (tk D.ys D.len t).a w')) := by
  have hfew := h.few
  have HD := Lib.hid h
  obtain ⟨qn, cn, hnv⟩ := own_shape hn.1
  have HNR := Lib.hid hn
  cases hx : Syn.is (Tk D.ys) i (bl ⟨#[123]⟩) with
  | false =>
    have HE := Lib.hid (show Syn.label (Tk D.ys) (D.ys.length + 1) ns i = .error (50, i) from by
      unfold Syn.label Syn.want
      rw [if_neg (by rw [show ([123] : List Nat) = bl ⟨#[123]⟩ from rfl, hx]; simp)]; rfl)
    have HW := Lib.hid (wantD_no h (by omega) hx)
    clear h hn hx
    go_enter Tryz.func43, Tryz.ntmps43
    go_wp2_with fail
    go_at_call 41
    refine HW.out.mono ?_
    rintro e w1 ⟨⟨z1, rfl⟩, hc1, hd1⟩
    have HWF := Lib.hid (fun z s => wantD_f hd1 (by decide) z s)
    have HNF := Lib.hid (fun z => namedF hd1 (by decide) z)
    have HD1 := Lib.hid hd1
    have HC1 := Lib.hid hc1
    clear hd1 hc1
    go_wp2_with fail
    go_loopw [1, 6] (fun iv lv wr => iv = .int .i64 z1 ∧ lv = .int .u64 0 ∧ wr = w1) (fun _ _ _ => 0)
    case atStart => exact ⟨rfl, rfl, rfl⟩
    case round =>
      obtain ⟨rfl, rfl, rfl⟩ := hrel
      go_wp2_with (first | (go_at_call 38; refine (HNF.out _).mono ?_; rintro e w' ⟨rfl, rfl⟩) | (go_at_call 41; refine (HWF.out _ _).mono ?_; rintro e w' ⟨⟨z2, rfl⟩, rfl⟩))
      go_ret2
      exact ⟨HC1.out, .inr ⟨50, i, 0, _, HE.out, by decide, by decide, rfl, HD1.out⟩⟩
  | true =>
    have hil : i < D.ys.length := Syn.is_lt (tk_nones D.ys) hx
    obtain ⟨RR, hRR⟩ : ∃ RR, Syn.label (Tk D.ys) (D.ys.length + 1) ns i = RR := ⟨_, rfl⟩
    have hR0 : labP (Tk D.ys) ns (D.ys.length + 1) 0 (i + 1) = RR := by
      rw [← hRR]
      unfold Syn.label Syn.want
      rw [if_pos (by rw [show ([123] : List Nat) = bl ⟨#[123]⟩ from rfl]; exact hx)]; rfl
    have HR0 := Lib.hid hR0
    have HW := Lib.hid (wantD_yes h hil hx)
    obtain ⟨n, hnn⟩ : ∃ n, ns.length = n := ⟨_, rfl⟩
    have HNN := Lib.hid hnn
    have hn64 : n ≤ 64 := by rw [← hnn]; exact hn.2.1
    rw [hRR]
    subst hnv
    rw [hnn] at HNR HD ⊢
    clear h hn hx hRR hR0 hnn
    go_enter Tryz.func43, Tryz.ntmps43
    go_wp2_with fail
    go_at_call 41
    refine HW.out.mono ?_
    rintro e w1 ⟨rfl, rfl⟩
    go_wp2_with fail
    go_loopw [1, 6] (fun iv lv wr => ∃ f l j nq, j ≤ D.ys.length ∧ D.ys.length < f + j ∧ iv = .int .i64 (j : Nat) ∧ lv = .int .u64 (l : Nat) ∧ l < 18446744073709551616 ∧ wr = w.drewN nq ∧ Hid (labP (Tk D.ys) ns f l j = RR)) (fun iv _ _ => D.ys.length + 1 - (intOf iv).toNat)
    case atStart => exact ⟨D.ys.length + 1, 0, i + 1, 0, hil, by omega, rfl, rfl, by decide, rfl, HR0⟩
    case round =>
      obtain ⟨f, l, j, nq, hj, hf, rfl, rfl, hl, rfl, HG⟩ := hrel
      obtain ⟨f, rfl⟩ : ∃ f', f = f' + 1 := ⟨f - 1, by omega⟩
      have HDW := Lib.hid (HD.out.drewN nq)
      have HNW := Lib.hid (HNR.out.drewN nq)
      obtain ⟨W, hW⟩ : ∃ W, w.drewN nq = W := ⟨_, rfl⟩
      rw [hW] at HDW HNW ⊢
      have HWW := Lib.hid hW
      clear hW
      cases hnm : Syn.named (Tk D.ys) j with
      | false =>
        have HND := Lib.hid (namedD HDW.out j)
        rw [hnm] at HND
        have HG2 := Lib.hid (show (Syn.want (Tk D.ys) j [125]).on (fun _ i => (.ok (l, i) : Syn.R Nat)) = RR from by
          have hh := HG.out
          unfold labP at hh
          have hlf : Syn.labelF (Tk D.ys) ns (f + 1) l j = .ok (l, j) := by
            unfold Syn.named at hnm
            rw [Syn.labelF]
            cases hT : Tk D.ys j with
            | none => rfl
            | some k => rw [hT] at hnm; exact if_neg (by simpa using hnm)
          rw [hlf] at hh
          exact hh)
        clear hnm HG
        go_wp2_with fail
        go_at_call 38
        refine HND.out.mono ?_
        rintro e w' ⟨rfl, rfl⟩
        cases hx : Syn.is (Tk D.ys) j (bl ⟨#[125]⟩) with
        | true =>
          have HRR := Lib.hid (show RR = .ok (l, j + 1) from by rw [← HG2.out]; unfold Syn.want; rw [if_pos (by rw [show ([125] : List Nat) = bl ⟨#[125]⟩ from rfl]; exact hx)]; rfl)
          have HWY := Lib.hid (wantD_yes HDW.out (Syn.is_lt (tk_nones D.ys) hx) hx)
          clear hx HG2
          go_wp2_with (go_at_call 41; refine HWY.out.mono ?_; rintro e w' ⟨rfl, rfl⟩)
          go_ret2
          rw [← HWW.out]
          exact ⟨(Chg.refl _ w).drewN nq, .inl ⟨l, j + 1, HRR.out, hl, rfl, HD.out.drewN nq⟩⟩
        | false =>
          have HRR := Lib.hid (show RR = .error (50, j) from by rw [← HG2.out]; unfold Syn.want; rw [if_neg (by rw [show ([125] : List Nat) = bl ⟨#[125]⟩ from rfl, hx]; simp)]; rfl)
          have HWY := Lib.hid (wantD_no HDW.out (by omega) hx)
          clear hx HG2
          go_wp2_with (go_at_call 41; refine HWY.out.mono ?_; rintro e w' ⟨⟨z2, rfl⟩, hc2, hd2⟩)
          go_ret2
          exact ⟨((by rw [← HWW.out]; exact (Chg.refl _ w).drewN nq) : Chg (fun k => k = D.bt) w W).then hc2, .inr ⟨50, j, l, _, HRR.out, by decide, hl, rfl, hd2⟩⟩
      | true =>
        have hjl : j < D.ys.length := Syn.named_lt (tk_nones D.ys) hnm
        have HND := Lib.hid (namedD HDW.out j)
        rw [hnm] at HND
        have HLF := Lib.hid (show (if ns.idxOf (bl (tk D.ys D.len j).t) < ns.length then labP (Tk D.ys) ns f (l ||| 1 <<< ns.idxOf (bl (tk D.ys D.len j).t)) (j + 1) else .error (10, j)) = RR from by
          have hh := HG.out
          unfold labP at hh ⊢
          rw [Syn.labelF, Tk_some (len := D.len) hjl] at hh
          unfold Syn.named at hnm
          rw [Tk_some (len := D.len) hjl] at hnm
          simp only at hh
          rw [if_pos (by simpa using hnm)] at hh
          simp only [keyOf] at hh
          rw [← hh]
          by_cases h : ns.idxOf (bl (tk D.ys D.len j).t) < ns.length
          · simp only [if_pos h]
            exact (congrArg (fun r : Syn.R Nat => r.on fun l i => (Syn.want (Tk D.ys) i [125]).on fun _ i => (.ok (l, i) : Syn.R Nat)) (if_pos h)).symm
          · simp only [if_neg h]
            refine Eq.trans (b := Syn.R.on (.error (10, j) : Syn.R Nat) (fun l i => (Syn.want (Tk D.ys) i [125]).on fun _ i => (.ok (l, i) : Syn.R Nat))) rfl ?_
            exact (congrArg (fun r : Syn.R Nat => r.on fun l i => (Syn.want (Tk D.ys) i [125]).on fun _ i => (.ok (l, i) : Syn.R Nat)) (if_neg h)).symm)
        have HBD := Lib.hid (fun n => bad_d (HDW.out.drewN n) 10 j)
        obtain ⟨qt, x0, _, x2, _, x4, _, _, _, hx⟩ := HDW.out.raw
        obtain ⟨rfl, _, _, _, y1, _, _⟩ := hx j hjl
        have hji : (j : Int) < (D.ys.length : Nat) := by omega
        have hwj : IntKind.i64.wrap ((j : Int) + 1) = ((j + 1 : Nat) : Int) := by rw [IntKind.wrap_i64]; omega
        clear hnm HG hx
        generalize (tk D.ys D.len j).t = nt at *
        go_wp2_with fail
        go_at_call 38
        refine HND.out.mono ?_
        rintro e w' ⟨rfl, rfl⟩
        go_wp2_with fail
        go_loopw [7] (fun kv wv => ∃ k nq2, k ≤ n ∧ kv = .int .i64 (k : Nat) ∧ wv = W.drewN nq2 ∧ Hid (∀ x (_ : x < k) (hx : x < ns.length), ns[x] ≠ bl nt)) (fun kv _ => n - (intOf kv).toNat)
        case atStart => exact ⟨0, 0, Nat.zero_le _, rfl, rfl, Lib.hid (fun x hx => absurd hx (by omega))⟩
        case round =>
          obtain ⟨k, nq2, hk, rfl, rfl, HK⟩ := hrel
          by_cases hkn : k < n
          · have hkm : k < ns.length := by rw [HNN.out]; exact hkn
            have hki : (k : Int) < (n : Int) := by omega
            obtain ⟨g, rfl, c0⟩ := nr_cell HNW.out k hkm
            have hcmp : ((sb ns[k]).toList == nt.toList) = (ns[k] == bl nt) := by rw [eq_text, HNR.out.2.2 _ (List.getElem_mem hkm)]
            by_cases heq : ns[k] = bl nt
            · have hix := idx_at hkm (fun x hx => HK.out x hx (by omega)) heq
              have HG2 := Lib.hid (show labP (Tk D.ys) ns f (l ||| 1 <<< k) (j + 1) = RR from by have := HLF.out; rwa [hix, if_pos hkm] at this)
              have c1 : ((sb ns[k]).toList == nt.toList) = true := by rw [hcmp]; simpa using heq
              have c2 : ((sb ns[k]).toList != nt.toList) = false := by rw [bne, c1]; rfl
              clear hcmp heq hix
              generalize sb ns[k] = nk at *
              have hp : (2 : Nat) ^ k < 18446744073709551616 := Nat.lt_of_lt_of_le (Nat.pow_lt_pow_right (by decide) (show k < 64 by omega)) (by decide)
              have hsh : bits BinOp.or IntKind.u64 (l : Int) (IntKind.u64.wrap (2 ^ k)) = ((l ||| 1 <<< k : Nat) : Int) := by
                have h1 : IntKind.u64.wrap ((2 : Int) ^ k) = ((2 ^ k : Nat) : Int) := by
                  rw [show ((2 : Int) ^ k) = ((2 ^ k : Nat) : Int) from by push_cast; rfl, IntKind.wrap_u64]
                  exact Int.emod_eq_of_lt (Int.natCast_nonneg _) (show ((2 ^ k : Nat) : Int) < ((18446744073709551616 : Nat) : Int) from Int.ofNat_lt.2 hp)
                rw [h1, bits_or_u64_nat _ _ hl hp, Nat.one_shiftLeft]
              have hl2 : l ||| 1 <<< k < 18446744073709551616 := by
                rw [Nat.one_shiftLeft]
                exact Nat.or_lt_two_pow (n := 64) hl hp
              have HSH := Lib.hid hsh
              have HL2 := Lib.hid hl2
              clear hp hsh hl2
              go_wp2
              go_quiet (fail)
              go_wp2_with fail
              exact ⟨⟨f, l ||| 1 <<< k, j + 1, _, hjl, by omega, by go_num, by rw [HSH.out], HL2.out, by rw [← HWW.out, World.drewN_drewN], HG2⟩, by simp [intOf]; omega⟩
            · have HK2 := Lib.hid (show ∀ x (_ : x < k + 1) (hx : x < ns.length), ns[x] ≠ bl nt from fun x hx hx2 => by
                by_cases h : x = k
                · subst h; exact heq
                · exact HK.out x (by omega) hx2)
              have c1 : ((sb ns[k]).toList == nt.toList) = false := by rw [hcmp]; simpa using heq
              have c2 : ((sb ns[k]).toList != nt.toList) = true := by rw [bne, c1]; rfl
              clear hcmp heq
              generalize sb ns[k] = nk at *
              go_wp2
              go_quiet (fail)
              go_wp2
              exact ⟨⟨k + 1, _, by omega, by go_num, by first | rfl | exact World.drewN_drewN .., HK2⟩, by simp [intOf]; omega⟩
          · obtain rfl : k = n := by omega
            have hix := idx_none (fun x hx => HK.out x (by rw [← HNN.out]; exact hx) hx)
            have HRR := Lib.hid (show RR = .error (10, j) from by have := HLF.out; rw [hix, if_neg (by omega)] at this; exact this.symm)
            have hkk : ¬ ((k : Int) < (k : Int)) := by omega
            clear hix
            go_wp2
            go_quiet (fail)
            go_wp2_with fail
            go_at_call 39
            refine (HBD.out _).mono ?_
            rintro e w2 ⟨rfl, hc2, hd2⟩
            go_wp2_with fail
            go_ret2
            refine ⟨((by rw [← HWW.out, World.drewN_drewN]; exact (Chg.refl _ w).drewN _) : Chg (fun k => k = D.bt) w (W.drewN (nq2 + _))).then hc2, .inr ⟨10, j, 0, _, HRR.out, by decide, by decide, rfl, hd2⟩⟩
end
end Go.Proofs.YtnmcjkabihihiaaGreatDoor

/- The document's declarations. -/
namespace Go.Proofs.YtnmcjkabihihiaaGreatDoor
open Go Go.RowKit Go.Proofs.Mm

section
variable {D : DC} {nv bv : Value} {er a : Nat} {w : World} {ns : List (List Nat)}
theorem DS.chg2 (h : DS D nv bv er a w) {S : Nat → Prop} {w' : World} (hc : Chg S w w') (h1 : ¬ S D.bt) (h2 : D.ys ≠ [] → ¬ S D.bw) : DS D nv bv er a w' := by
  by_cases hn : D.ys = []
  · exact ⟨hc.heap h.st h1, .inl hn, h.few⟩
  · exact h.chg hc h1 (h2 hn)
theorem DS.bwlt (h : DS D nv bv er a w) (hn : D.ys ≠ []) : D.bw < w.heap.size := by
  obtain ⟨_, arr, h1, _⟩ := h.tok.resolve_left hn
  exact heap_lt h1
theorem resultsDecl (tmps : Array Value) (w : World) (b5 : Nat) (v x y : Value) (T3 : TypeId) (h4 : tmps[4]?.getD undef = .pointer (some ⟨b5, 0, none⟩)) (h5 : tmps[5]?.getD undef = v)
    (c5 : w.heap[b5]? = some (.cells #[x, y] T3 (0, 0))) :
    (results Tryz.f42 tmps).run Tryz.prog w = .ok (.tuple #[.agg #[x, y], v]) w := by
  obtain ⟨q0, q1, _⟩ := two_cells c5
  simp [results, Tryz.results42, go_sem, h4, h5, q0, q1]
def dcO (x y : Value) : Obj := .cells #[x, y] 75
theorem declF (h : DS D nv bv er a w) (he : er ≠ 0) (z : Int) : Calls Tryz.prog 42 #[PB D, .int .i64 z] w fun e w' => (∃ z : Int, e = .returned (.tuple #[.agg #[.string ⟨#[]⟩, .int .u64 0], .int .i64 z])) ∧ Chg (fun _ => False) w w' := by
  have hC0 : Chg (fun _ => False) w (w.alloc (dcO (.string ⟨#[]⟩) (.int .u64 0))) := (Chg.refl _ w).alloc _
  have hd0 : DS D nv bv er a (w.alloc (dcO (.string ⟨#[]⟩) (.int .u64 0))) := h.chg hC0 (fun e => e) (fun e => e)
  have hnew := World.alloc_heap_new w (dcO (.string ⟨#[]⟩) (.int .u64 0))
  obtain ⟨W0, hW0⟩ : ∃ W0, w.alloc (dcO (.string ⟨#[]⟩) (.int .u64 0)) = W0 := ⟨_, rfl⟩
  have hW0' : w.alloc (.cells #[.string ⟨#[]⟩, .int .u64 0] 75) = W0 := hW0
  have HC := Lib.hid (chg_two hC0 (g := w.heap.size) (.inr (Nat.le_refl _)) (.string ⟨#[]⟩) (.int .u64 0))
  rw [hW0] at hd0 hnew HC
  have HN := Lib.hid (fun z => nameD_f hd0 he z)
  have HL := Lib.hid (fun z => labelF hd0 he z)
  obtain ⟨q0, q1, q2, q3⟩ := two_cells hnew
  have HE := Lib.hid (heap_set (heap_set hnew 0 (.string ⟨#[]⟩)) 1 (.int .u64 0))
  clear h hd0 hnew hC0
  go_enter Tryz.func42, Tryz.ntmps42
  go_wp2_with fail
  go_at_call 40
  refine (show Calls Tryz.prog _ _ W0 _ from HN.out _).mono ?_
  rintro e w' ⟨⟨z1, rfl⟩, rfl⟩
  go_wp2_with fail
  go_at_call 43
  refine (HL.out _).mono ?_
  rintro e w' ⟨⟨z2, rfl⟩, rfl⟩
  go_wp2_with fail
  exact bodyPost_ret (resultsDecl _ _ _ _ _ _ _ rfl rfl HE.out) rfl ⟨⟨_, rfl⟩, HC.out⟩
set_option maxRecDepth 100000 in
set_option maxHeartbeats 2000000 in
theorem declD (h : DS D nv bv 0 a w) (hn : NR w nv ns) {i : Nat} (hi : i ≤ D.ys.length) : Calls Tryz.prog 42 #[PB D, .int .i64 (i : Nat)] w fun e w' => Chg (fun k => k = D.bt) w w' ∧
    ((∃ d j, Syn.decl (Tk D.ys) (D.ys.length + 1) ns i = .ok (d, j) ∧ d.label < 18446744073709551616 ∧ e = .returned (.tuple #[.agg #[.string (sb d.name), .int .u64 (d.label : Nat)], .int .i64 (j : Nat)]) ∧ DS D nv bv 0 a w') ∨
     (∃ (k t l : Nat) (s : ByteArray) (z : Int), Syn.decl (Tk D.ys) (D.ys.length + 1) ns i = .error (k, t) ∧ k ≠ 0 ∧ l < 18446744073709551616 ∧ e = .returned (.tuple #[.agg #[.string s, .int .u64 (l : Nat)], .int .i64 z]) ∧ DS D nv bv k (tk D.ys D.len t).a w')) := by
  have hfew := h.few
  have hC0 : Chg (fun _ => False) w (w.alloc (dcO (.string ⟨#[]⟩) (.int .u64 0))) := (Chg.refl _ w).alloc _
  have hd0 : DS D nv bv 0 a (w.alloc (dcO (.string ⟨#[]⟩) (.int .u64 0))) := h.chg hC0 (fun e => e) (fun e => e)
  have hn0 : NR (w.alloc (dcO (.string ⟨#[]⟩) (.int .u64 0))) nv ns := ⟨own_chg hn.1 hC0 (fun _ _ e => e), hn.2⟩
  have hnew := World.alloc_heap_new w (dcO (.string ⟨#[]⟩) (.int .u64 0))
  have hbt := heap_lt h.st
  have HNW := Lib.hid hnew
  have HC0 := Lib.hid hC0
  have HD0 := Lib.hid hd0
  have HN0 := Lib.hid hn0
  obtain ⟨W0, hW0⟩ : ∃ W0, w.alloc (dcO (.string ⟨#[]⟩) (.int .u64 0)) = W0 := ⟨_, rfl⟩
  have hW0' : w.alloc (.cells #[.string ⟨#[]⟩, .int .u64 0] 75) = W0 := hW0
  have hfin : ∀ (W : World) (er a : Nat) (_ : Chg (fun k => k = D.bt) W0 W) (_ : DS D nv bv er a W) (x y : Value), W.heap[w.heap.size]? = some (dcO (.string ⟨#[]⟩) (.int .u64 0)) ∧ ((W.setCell ⟨w.heap.size, 0, none⟩ x).setCell ⟨w.heap.size, 1, none⟩ y).heap[w.heap.size]? = some (dcO x y) ∧ Chg (fun k => k = D.bt) w ((W.setCell ⟨w.heap.size, 0, none⟩ x).setCell ⟨w.heap.size, 1, none⟩ y) ∧ DS D nv bv er a ((W.setCell ⟨w.heap.size, 0, none⟩ x).setCell ⟨w.heap.size, 1, none⟩ y) := by
    intro W er a hc hd x y
    have hbw := fun hn => h.bwlt hn
    have h0 : W.heap[w.heap.size]? = some (dcO (.string ⟨#[]⟩) (.int .u64 0)) := hc.heap (by rw [← hW0]; exact hnew) (by omega)
    refine ⟨h0, heap_set (heap_set h0 0 x) 1 y, ?_, hd.chg2 (chg_two (Chg.refl (fun k => k = w.heap.size) W) (g := w.heap.size) (.inl rfl) x y) (by omega) (fun hn => by have := hbw hn; omega)⟩
    exact chg_two (((hC0.mono (fun _ e => e.elim)).trans (by rw [hW0]; exact hc) (fun k e => .inl e))) (g := w.heap.size) (.inr (Nat.le_refl _)) x y
  have HF := Lib.hid hfin
  rw [hW0] at HNW HC0 HD0 HN0
  clear hfin h hn hd0 hn0 hnew hC0
  cases hnm : Syn.named (Tk D.ys) i with
  | false =>
    have HE := Lib.hid (show Syn.decl (Tk D.ys) (D.ys.length + 1) ns i = .error (50, i) from by
      have hnme : Syn.name (Tk D.ys) i = .error (50, i) := by
        unfold Syn.named at hnm
        unfold Syn.name
        cases hT : Tk D.ys i with
        | none => rfl
        | some k => rw [hT] at hnm; exact if_neg (by simpa using hnm)
      unfold Syn.decl
      rw [hnme]; rfl)
    have HN := Lib.hid (nameD_no HD0.out (by omega) hnm)
    clear hnm
    go_enter Tryz.func42, Tryz.ntmps42
    go_wp2_with fail
    go_at_call 40
    refine (show Calls Tryz.prog _ _ W0 _ from HN.out).mono ?_
    rintro e w1 ⟨⟨z1, rfl⟩, hc1, hd1⟩
    have HFI := Lib.hid (HF.out w1 50 (tk D.ys D.len i).a hc1 hd1)
    have HL := Lib.hid (labelF hd1 (by decide) z1)
    clear hc1 hd1
    go_wp2_with fail
    go_at_call 43
    refine HL.out.mono ?_
    rintro e w' ⟨⟨z2, rfl⟩, rfl⟩
    obtain ⟨f0, f1, f2, f3⟩ := HFI.out (.string ⟨#[]⟩) (.int .u64 0)
    obtain ⟨q0, q1, q2, q3⟩ := two_cells f0
    have H1 := Lib.hid f1
    have H2 := Lib.hid (And.intro f2 f3)
    clear f0 f1 f2 f3
    go_wp2_with fail
    exact bodyPost_ret (resultsDecl _ _ _ _ _ _ _ rfl rfl H1.out) rfl ⟨H2.out.1, .inr ⟨50, i, 0, _, _, HE.out, by decide, by decide, rfl, H2.out.2⟩⟩
  | true =>
    have hil : i < D.ys.length := Syn.named_lt (tk_nones D.ys) hnm
    have hnme : Syn.name (Tk D.ys) i = .ok (bl (tk D.ys D.len i).t, i + 1) := by
      unfold Syn.named at hnm
      unfold Syn.name
      rw [Tk_some (len := D.len) hil] at hnm ⊢
      simp only [beq_iff_eq] at hnm
      exact if_pos hnm
    have HE := Lib.hid (show Syn.decl (Tk D.ys) (D.ys.length + 1) ns i = (Syn.label (Tk D.ys) (D.ys.length + 1) ns (i + 1)).on fun l j => .ok (⟨bl (tk D.ys D.len i).t, l⟩, j) from by
      unfold Syn.decl; rw [hnme]; rfl)
    have HN := Lib.hid (nameD_yes HD0.out hnm)
    have HL := Lib.hid (labelD HD0.out HN0.out (i := i + 1) hil)
    clear hnm hnme
    generalize (tk D.ys D.len i).t = nt at *
    go_enter Tryz.func42, Tryz.ntmps42
    go_wp2_with fail
    go_at_call 40
    refine (show Calls Tryz.prog _ _ W0 _ from HN.out).mono ?_
    rintro e w1 ⟨rfl, rfl⟩
    go_wp2_with fail
    go_at_call 43
    refine HL.out.mono ?_
    rintro e w1 ⟨hc1, ⟨l, j, hr, hl, rfl, hd1⟩ | ⟨k, t, l, z, hr, hk, hl, rfl, hd1⟩⟩
    · have HR := Lib.hid (show Syn.decl (Tk D.ys) (D.ys.length + 1) ns i = .ok (⟨bl nt, l⟩, j) from by rw [HE.out, hr]; rfl)
      obtain ⟨f0, f1, f2, f3⟩ := HF.out w1 0 a hc1 hd1 (.string nt) (.int .u64 (l : Nat))
      obtain ⟨q0, q1, q2, q3⟩ := two_cells f0
      have H1 := Lib.hid f1
      have H2 := Lib.hid (And.intro f2 f3)
      clear f0 f1 f2 f3 hr hc1 hd1
      go_wp2_with fail
      exact bodyPost_ret (resultsDecl _ _ _ _ _ _ _ rfl rfl H1.out) rfl ⟨H2.out.1, .inl ⟨⟨bl nt, l⟩, j, HR.out, hl, by rw [sb_bl]; rfl, H2.out.2⟩⟩
    · have HR := Lib.hid (show Syn.decl (Tk D.ys) (D.ys.length + 1) ns i = .error (k, t) from by rw [HE.out, hr]; rfl)
      obtain ⟨f0, f1, f2, f3⟩ := HF.out w1 k (tk D.ys D.len t).a hc1 hd1 (.string nt) (.int .u64 (l : Nat))
      obtain ⟨q0, q1, q2, q3⟩ := two_cells f0
      have H1 := Lib.hid f1
      have H2 := Lib.hid (And.intro f2 f3)
      clear f0 f1 f2 f3 hr hc1 hd1
      go_wp2_with fail
      exact bodyPost_ret (resultsDecl _ _ _ _ _ _ _ rfl rfl H1.out) rfl ⟨H2.out.1, .inr ⟨k, t, l, _, z, HR.out, hk, hl, rfl, H2.out.2⟩⟩
end
end Go.Proofs.YtnmcjkabihihiaaGreatDoor

/- Plain: the last of some marks that stands there is the first one, where no two are the same; unary operations one by one. -/
namespace Go.Proofs.Syn
section
variable {T : Nat → Option K} {F : Nat}
theorem is_one {i : Nat} {s s' : List Nat} (h : is T i s = true) (hn : s ≠ s') : is T i s' = false := by
  unfold is at h ⊢
  split
  · rename_i k hk
    rw [hk] at h
    simp only [Bool.and_eq_true, beq_iff_eq] at h
    rw [h.2]
    simp [hn]
  · rfl
/-- One more mark behind. -/
theorem opOf_snoc {ms : List (List Nat × Nat)} {m : List Nat × Nat} (hd : ∀ x ∈ ms, x.1 ≠ m.1) (i : Nat) : opOf T (ms ++ [m]) i = if is T i m.1 then m.2 else opOf T ms i := by
  unfold opOf
  rw [List.find?_append]
  by_cases h : is T i m.1 = true
  · have hnone : ms.find? (fun m => is T i m.1) = none := by
      rw [List.find?_eq_none]
      intro x hx
      rw [is_one h (fun e => hd x hx e.symm)]
      simp
    rw [hnone, if_pos h]
    simp [h]
  · rw [if_neg h]
    have h' : is T i m.1 = false := by simpa using h
    cases hf : ms.find? (fun m => is T i m.1) with
    | some x => simp
    | none => simp [h']
theorem opOf_nil (i : Nat) : opOf T [] i = 0 := rfl
theorem marks_apart (l : Nat) : ∀ (k : Nat) (h : k < (marks l).length), ∀ x ∈ (marks l).take k, x.1 ≠ ((marks l)[k]).1 := by
  have key : ∀ ms ∈ [marks 0, marks 1, marks 2, marks 3, marks 4, marks 5], (ms.map (·.1)).Nodup := by decide
  have hmem : marks l ∈ [marks 0, marks 1, marks 2, marks 3, marks 4, marks 5] := by
    match l with
    | 0 => simp
    | 1 => simp
    | 2 => simp
    | 3 => simp
    | 4 => simp
    | n + 5 => simp [marks]
  have hnd := key _ hmem
  intro k h x hx e
  obtain ⟨j, hj, rfl⟩ := List.mem_iff_getElem.1 hx
  have hj2 : j < k := by rw [List.length_take] at hj; omega
  rw [List.getElem_take] at e
  have hp := List.pairwise_iff_getElem.1 hnd j k (by simp; omega) (by simpa using h) hj2
  simp only [List.getElem_map] at hp
  exact hp e
/-- The operations that have been read, and what is still to be read of them. -/
def unGo (T : Nat → Option K) (f : Nat) (acc : List Nat) (i : Nat) : R (List Nat) := (unOps T f i).on fun l j => .ok (acc ++ l, j)
theorem unGo_start (f i : Nat) : unGo T f [] i = unOps T f i := by
  unfold unGo
  cases unOps T f i with
  | error e => rfl
  | ok p => rfl
def unMs : List (List Nat × Nat) := [([45], 15), ([33], 16), ([126], 17)]
theorem unGo_next {f i : Nat} {acc : List Nat} (h : opOf T unMs i ≠ 0) : unGo T (f + 1) acc i = unGo T f (acc ++ [opOf T unMs i]) (i + 1) := by
  unfold unGo
  rw [unOps, if_neg (show ¬ opOf T [([45], 15), ([33], 16), ([126], 17)] i = 0 from h)]
  cases unOps T f (i + 1) with
  | error e => rfl
  | ok p => simp [R.on, List.append_assoc, unMs]
theorem unGo_done {f i : Nat} {acc : List Nat} (h : opOf T unMs i = 0) : unGo T (f + 1) acc i = .ok (acc, i) := by
  unfold unGo
  rw [unOps, if_pos (show opOf T [([45], 15), ([33], 16), ([126], 17)] i = 0 from h)]
  simp [R.on]
theorem unOf {i : Nat} : opOf T unMs i = if is T i [126] then 17 else if is T i [33] then 16 else if is T i [45] then 15 else 0 := by
  have h1 := opOf_snoc (T := T) (ms := [([45], 15), ([33], 16)]) (m := ([126], 17)) (by decide) i
  have h2 := opOf_snoc (T := T) (ms := [([45], 15)]) (m := ([33], 16)) (by decide) i
  have h3 := opOf_snoc (T := T) (ms := []) (m := ([45], 15)) (by decide) i
  unfold unMs
  simp only [List.cons_append, List.nil_append] at h1 h2 h3
  rw [h1, h2, h3, opOf_nil]
end
end Go.Proofs.Syn

/- The document's marks; what its readers of expressions answer; its level, over the one above. -/
namespace Go.Proofs.YtnmcjkabihihiaaGreatDoor
open Go Go.RowKit Go.Proofs.Mm

def mkN (l : Nat) : List Value := (Syn.marks l).map fun m => .string (sb m.1)
def mkO (l : Nat) : List Value := (Syn.marks l).map fun m => .int .i64 (m.2 : Nat)
theorem marks_any (l : Nat) (hl : l ≤ 5) (w : World) : Calls Tryz.prog 112 #[.int .i64 (l : Nat)] w fun e w' =>
    e = .returned (.tuple #[.slice (some ⟨w.heap.size, 0, none⟩) (Syn.marks l).length (Syn.marks l).length, .slice (some ⟨w.heap.size + 1, 0, none⟩) (Syn.marks l).length (Syn.marks l).length]) ∧ w' = (w.alloc (.cells (mkN l).toArray 9)).alloc (.cells (mkO l).toArray 2) := by
  match l, hl with
  | 0, _ => go_enter Tryz.func112, Tryz.ntmps112; go_wp2; go_ret2; exact ⟨rfl, rfl⟩
  | 1, _ => go_enter Tryz.func112, Tryz.ntmps112; go_wp2; go_ret2; exact ⟨rfl, rfl⟩
  | 2, _ => go_enter Tryz.func112, Tryz.ntmps112; go_wp2; go_ret2; exact ⟨rfl, rfl⟩
  | 3, _ => go_enter Tryz.func112, Tryz.ntmps112; go_wp2; go_ret2; exact ⟨rfl, rfl⟩
  | 4, _ => go_enter Tryz.func112, Tryz.ntmps112; go_wp2; go_ret2; exact ⟨rfl, rfl⟩
  | 5, _ => go_enter Tryz.func112, Tryz.ntmps112; go_wp2; go_ret2; exact ⟨rfl, rfl⟩
section
variable {D : DC} {nv bv : Value} {er a : Nat} {w : World}
/-- What has been read, or where the fault is. -/
def LvM (D : DC) (r : Syn.R (List Syn.Tm)) (l : List Syn.Tm) (z : Int) (er a : Nat) : Prop :=
  match r with
  | .ok (l0, j) => l = l0 ∧ z = (j : Nat) ∧ er = 0
  | .error (k, t) => er = k ∧ k ≠ 0 ∧ a = (tk D.ys D.len t).a
def LvR (D : DC) (nv bv : Value) (r : Syn.R (List Syn.Tm)) (C : Nat) (w : World) (e : Ending) (w' : World) : Prop :=
  ∃ q c l z er a, e = .returned (.tuple #[.slice q l.length c, .int .i64 z]) ∧ w'.ownsRow w.heap.size 77 3 (.slice q l.length c) l.length (tmCells l) ∧ 0 < l.length ∧ l.length ≤ C ∧ Chg (fun k => k = D.bt) w w' ∧ DS D nv bv er a w' ∧ LvM D r l z er a
def RdD (D : DC) (nv bv : Value) (K : FuncId) (args : Nat → Array Value) (r : Nat → Syn.R (List Syn.Tm)) (C : Nat) : Prop :=
  ∀ w a i, i ≤ D.ys.length → DS D nv bv 0 a w → Calls Tryz.prog K (args i) w (LvR D nv bv (r i) C w)
/-- A read of terms that stays while other blocks turn. -/
def lvMs (D : DC) (iv : Value) (wr : World) : Nat := match wr.cell? ⟨D.bt, 2, none⟩ with
  | some (.int _ e) => if e = 0 then D.ys.length + 2 - (intOf iv).toNat else 0
  | _ => 0
theorem lvMs_0 {iv : Value} (h : DS D nv bv 0 a w) : lvMs D iv w = D.ys.length + 2 - (intOf iv).toNat := by
  obtain ⟨q, _, _, x2, _⟩ := h.raw
  unfold lvMs; rw [x2]; rfl
theorem lvMs_f {iv : Value} (h : DS D nv bv er a w) (he : er ≠ 0) : lvMs D iv w = 0 := by
  obtain ⟨q, _, _, x2, _⟩ := h.raw
  unfold lvMs; rw [x2]
  exact if_neg (by omega)
/-- Where the loop of a level stands. -/
def LvI (D : DC) (nv bv : Value) (p : Nat → Syn.R (List Syn.Tm)) (ms : List (List Nat × Nat)) (RR : Syn.R (List Syn.Tm)) (C : Nat) (w : World) (lv iv : Value) (wr : World) : Prop :=
  ∃ q c l z er a, lv = .slice q l.length c ∧ iv = .int .i64 z ∧ Hid (wr.ownsRow w.heap.size 77 3 (.slice q l.length c) l.length (tmCells l)) ∧ 0 < l.length ∧ l.length ≤ C + 65537 ∧ Hid (Chg (fun k => k = D.bt) w wr) ∧ Hid (DS D nv bv er a wr) ∧
    ((er = 0 ∧ ∃ f i, z = (i : Nat) ∧ i ≤ D.ys.length ∧ D.ys.length < f + i ∧ l.length ≤ i ∧ Hid (Syn.loopF (Tk D.ys) p ms f l i = RR)) ∨ (er ≠ 0 ∧ Hid (LvM D RR l z er a)))
theorem mk_bl (l : Nat) (hl : l ≤ 5) (k : Nat) (h : k < (Syn.marks l).length) : bl (sb ((Syn.marks l)[k]).1) = ((Syn.marks l)[k]).1 := by
  have : ∀ l : Fin 6, ∀ m ∈ Syn.marks l.val, bl (sb m.1) = m.1 := by decide
  exact this ⟨l, by omega⟩ _ (List.getElem_mem h)
theorem mk_len (l : Nat) (hl : l ≤ 5) : (Syn.marks l).length ≤ 4 := by
  have : ∀ l : Fin 6, (Syn.marks l.val).length ≤ 4 := by decide
  exact this ⟨l, by omega⟩
theorem mkN_at (l k : Nat) (h : k < (Syn.marks l).length) : (mkN l).toArray[k]? = some (.string (sb ((Syn.marks l)[k]).1)) := by
  unfold mkN
  rw [List.getElem?_toArray, List.getElem?_map, List.getElem?_eq_getElem h]; rfl
theorem mkO_at (l k : Nat) (h : k < (Syn.marks l).length) : (mkO l).toArray[k]? = some (.int .i64 (((Syn.marks l)[k]).2 : Nat)) := by
  unfold mkO
  rw [List.getElem?_toArray, List.getElem?_map, List.getElem?_eq_getElem h]; rfl
theorem tmC_one (l : List Syn.Tm) : ∀ u ∈ tmCells l, u.oneCell' = true := by
  intro u hu
  unfold tmCells at hu
  obtain ⟨t, _, ht⟩ := List.mem_flatMap.1 hu
  exact tm_one t u ht
set_option maxRecDepth 100000 in
set_option maxHeartbeats 4000000 in
theorem level_step {p : Nat → Syn.R (List Syn.Tm)} (hcnt : Syn.Cnt p) (hfit : Syn.FitP D.ys.length p) (l d : Nat) (hl : l ≤ 5) {C : Nat} (hCb : C ≤ 100000000)
    (hR : RdD D nv bv 89 (fun i => #[PB D, .int .i64 (i : Nat), .int .i64 ((l : Int) + 1), .int .i64 (d : Nat)]) p C) :
    RdD D nv bv 89 (fun i => #[PB D, .int .i64 (i : Nat), .int .i64 (l : Nat), .int .i64 (d : Nat)]) (fun i => (p i).on fun l1 j => Syn.loopF (Tk D.ys) p (Syn.marks l) (D.ys.length + 1) l1 j) (C + 65537) := by
  intro w a i hi h
  have hcall := hR w a i hi h
  have hfew := h.few
  obtain ⟨RR, hRR⟩ : ∃ RR, ((p i).on fun l1 j => Syn.loopF (Tk D.ys) p (Syn.marks l) (D.ys.length + 1) l1 j) = RR := ⟨_, rfl⟩
  show Calls _ _ _ _ (LvR D nv bv ((p i).on fun l1 j => Syn.loopF (Tk D.ys) p (Syn.marks l) (D.ys.length + 1) l1 j) (C + 65537) w)
  rw [hRR]
  have HR := Lib.hid hR
  have hl6 : ((l : Int) == 6) = false := by simp; omega
  have hw1 : IntKind.i64.wrap ((l : Int) + 1) = (l : Int) + 1 := by rw [IntKind.wrap_i64]; omega
  obtain ⟨j0, hj0, hy0, hy1, hy2⟩ := infoTm
  have HRR := Lib.hid hRR
  clear h hR hRR
  go_enter Tryz.func89, Tryz.ntmps89
  go_wp2_with fail
  go_at_call 89
  refine hcall.mono ?_
  rintro e w1 ⟨q1, c1, l1, z1, er1, a1, rfl, ho1, hp1, hc1, hC1, hd1, hm1⟩
  have H0 : LvI D nv bv p (Syn.marks l) RR C w (.slice q1 l1.length c1) (.int .i64 z1) w1 := by
    refine ⟨q1, c1, l1, z1, er1, a1, rfl, rfl, Lib.hid ho1, hp1, by omega, Lib.hid hC1, Lib.hid hd1, ?_⟩
    have hh := HRR.out
    cases hpi : p i with
    | error qq =>
      rw [hpi] at hm1 hh
      obtain ⟨k, t⟩ := qq
      obtain ⟨rfl, m1, m2⟩ := hm1
      exact .inr ⟨m1, Lib.hid (by rw [← hh]; exact ⟨rfl, m1, m2⟩)⟩
    | ok qq =>
      rw [hpi] at hm1 hh
      obtain ⟨l0, j⟩ := qq
      obtain ⟨rfl, rfl, rfl⟩ := hm1
      have hj := (hfit i hi).1
      rw [hpi] at hj
      have hj : j ≤ D.ys.length := hj
      have hcn := hcnt _ _ _ hpi
      exact .inl ⟨rfl, D.ys.length + 1, j, rfl, hj, by omega, by omega, Lib.hid hh⟩
  clear hm1 hd1 hC1 ho1 hcall
  go_wp2_with fail
  go_loopw [12, 1] (LvI D nv bv p (Syn.marks l) RR C w) (fun _ iv wr => lvMs D iv wr)
  case atStart => exact H0
  case round =>
    obtain ⟨q2, c2, l2, z2, er2, a2, rfl, rfl, HO, hp2, hc2, HC, HD, hrel⟩ := hrel
    clear H0 hp1 hc1
    obtain ⟨qr, _, _, x2, _⟩ := HD.out.raw
    rcases hrel with ⟨rfl, f, j, rfl, hj, hf, hlj, HL⟩ | ⟨her, HM⟩
    · have e0 : (((0 : Nat) : Int) == 0) = true := rfl
      have hms := lvMs_0 (iv := .int .i64 (j : Nat)) HD.out
      go_wp2_with fail
      go_at_call 112
      refine (marks_any l hl _).mono ?_
      rintro e w3 ⟨rfl, hw3⟩
      have hn4 := mk_len l hl
      have hN3 : w3.heap[wr.heap.size]? = some (.cells (mkN l).toArray 9 (0, 0)) := by rw [hw3]; exact heap_new _ _ (World.alloc_heap_new _ _)
      have hO3 : w3.heap[wr.heap.size + 1]? = some (.cells (mkO l).toArray 2 (0, 0)) := by
        rw [hw3]
        have := World.alloc_heap_new (wr.alloc (.cells (mkN l).toArray 9)) (.cells (mkO l).toArray 2)
        rwa [World.size_alloc] at this
      have hC3 : Chg (fun _ => False) wr w3 := by rw [hw3]; exact ((Chg.refl _ wr).alloc _).alloc _
      have HN3 := Lib.hid hN3
      have HO3 := Lib.hid hO3
      have HC3 := Lib.hid hC3
      have HD3 := Lib.hid (HD.out.chg hC3 (fun e => e) (fun e => e))
      obtain ⟨bn, hbn⟩ : ∃ bn, wr.heap.size = bn := ⟨_, rfl⟩
      have HBN := Lib.hid hbn
      rw [hbn] at HN3 HO3 ⊢
      obtain ⟨n, hnn⟩ : ∃ n, (Syn.marks l).length = n := ⟨_, rfl⟩
      have HNN := Lib.hid hnn
      rw [hnn] at hn4 ⊢
      have HMS := Lib.hid hms
      clear hN3 hO3 hC3 hw3 hbn hnn hms x2
      go_wp2_with fail
      go_loopw [15, 16] (fun ov kv wv => ∃ k, k ≤ n ∧ kv = .int .i64 (k : Nat) ∧ ov = .int .i64 (Syn.opOf (Tk D.ys) ((Syn.marks l).take k) j : Nat) ∧ wv = w3) (fun _ kv _ => n - (intOf kv).toNat)
      case atStart => exact ⟨0, Nat.zero_le _, rfl, rfl, rfl⟩
      case round =>
        obtain ⟨k, hk, rfl, rfl, hwv⟩ := hrel
        have hwv' := hwv.symm
        clear hwv
        subst hwv'
        by_cases hkn : k < n
        · have hkm : k < (Syn.marks l).length := by rw [HNN.out]; exact hkn
          have hki : (k : Int) < (n : Int) := by omega
          have y0 := cell_of HN3.out (mkN_at l k hkm)
          have y1 := cell_of HO3.out (mkO_at l k hkm)
          have hsn := Syn.opOf_snoc (T := Tk D.ys) (Syn.marks_apart l k hkm) j
          rw [← List.take_succ_eq_append_getElem hkm] at hsn
          have HIS := Lib.hid (is_d HD3.out j (sb ((Syn.marks l)[k]).1))
          rw [mk_bl l hl k hkm] at HIS
          have HSN := Lib.hid hsn
          clear hsn
          generalize ((Syn.marks l)[k]).1 = mt at *
          generalize ((Syn.marks l)[k]).2 = mo at *
          obtain ⟨b, hb⟩ : ∃ b, Syn.is (Tk D.ys) j mt = b := ⟨_, rfl⟩
          rw [hb] at HIS HSN
          clear hb
          cases b
          · have HS2 := Lib.hid (show Syn.opOf (Tk D.ys) ((Syn.marks l).take k) j = Syn.opOf (Tk D.ys) ((Syn.marks l).take (k + 1)) j from by have := HSN.out; rw [this]; rfl)
            go_wp2_with (go_at_call 37; refine HIS.out.mono ?_; rintro e w' ⟨rfl, rfl⟩)
            exact ⟨⟨k + 1, by omega, by go_num, by rw [← HS2.out], by first | rfl | trivial⟩, by simp [intOf]; omega⟩
          · have HS2 := Lib.hid (show mo = Syn.opOf (Tk D.ys) ((Syn.marks l).take (k + 1)) j from by have := HSN.out; rw [this]; rfl)
            go_wp2_with (go_at_call 37; refine HIS.out.mono ?_; rintro e w' ⟨rfl, rfl⟩)
            exact ⟨⟨k + 1, by omega, by go_num, by rw [← HS2.out], by first | rfl | trivial⟩, by simp [intOf]; omega⟩
        · obtain rfl : k = n := by omega
          rw [List.take_of_length_le (by rw [HNN.out]; exact Nat.le_refl _)]
          obtain ⟨o, ho⟩ : ∃ o, Syn.opOf (Tk D.ys) (Syn.marks l) j = o := ⟨_, rfl⟩
          rw [ho]
          have HOO := Lib.hid ho
          clear ho
          obtain ⟨f, rfl⟩ : ∃ f', f = f' + 1 := ⟨f - 1, by omega⟩
          have HLL := Lib.hid (show (if o = 0 then .ok (l2, j) else (p (j + 1)).on fun r j => Syn.loopF (Tk D.ys) p (Syn.marks l) f (l2 ++ r ++ [⟨5, o, []⟩]) j) = RR from by have := HL.out; rw [Syn.loopF, HOO.out] at this; exact this)
          clear HL
          by_cases ho0 : o = 0
          · subst ho0
            have HR2 := Lib.hid (show RR = .ok (l2, j) from by rw [← HLL.out, if_pos rfl])
            have ez : (((0 : Nat) : Int) == 0) = true := rfl
            go_wp2_with fail
            go_ret2
            refine ⟨q2, c2, l2, _, 0, a2, rfl, own_chg HO.out HC3.out (fun _ _ e => e), hp2, by omega, HC.out.then (HC3.out.mono (fun _ e => e.elim)), HD3.out, ?_⟩
            rw [HR2.out]; exact ⟨rfl, rfl, rfl⟩
          · have HR2 := Lib.hid (show ((p (j + 1)).on fun r j => Syn.loopF (Tk D.ys) p (Syn.marks l) f (l2 ++ r ++ [⟨5, o, []⟩]) j) = RR from by have := HLL.out; rwa [if_neg ho0] at this)
            have hjl : j < D.ys.length := Syn.opOf_lt (tk_nones D.ys) (by rw [HOO.out]; exact ho0)
            have ez : ((o : Int) == 0) = false := by simp; omega
            have hwj : IntKind.i64.wrap ((j : Int) + 1) = ((j + 1 : Nat) : Int) := by rw [IntKind.wrap_i64]; omega
            have hcall := HR.out w3 a2 (j + 1) hjl HD3.out
            clear HLL
            go_wp2_with fail
            go_at_call 89
            refine hcall.mono ?_
            rintro e w4 ⟨q4, c4, r, z4, er4, a4, rfl, ho4, hp4, hc4, hC4, hd4, hm4⟩
            obtain ⟨g4, cap4, hv4, hb4, hlt4⟩ := ho4.form hp4
            have hq4 : q4 = some ⟨g4, 0, none⟩ := by injection hv4
            clear hv4
            subst hq4
            have hch : Chg (fun k => k = D.bt) wr w4 := (HC3.out.mono (fun _ e => e.elim)).then hC4
            have hnb := own_not HD.out HO.out (by decide)
            have hro4 := own_chg HO.out hch (fun k hk e => by subst e; exact hnb hk)
            have hrl : (tmCells r).length = r.length * 3 := ho4.1
            have hcl : ∀ i u, (tmCells r)[i]? = some u → w4.cell? ((⟨g4, 0, none⟩ : Addr).add i) = some u := by
              intro i u hu
              rw [show ((⟨g4, 0, none⟩ : Addr).add i) = ⟨g4, i, none⟩ from by simp [Addr.add]; intro h; exact h.symm]
              rw [ho4.cellAt i (by have := (List.getElem?_eq_some_iff.1 hu).1; omega)]
              exact hu
            have hro := tmC_one r
            have hws := HC.out.size
            have hws3 := hch.size
            have HD4 := Lib.hid hd4
            have HM4 := Lib.hid hm4
            have HCH := Lib.hid (HC.out.then hch)
            clear hm4 hcall ho4 hd4 hnb hch hC4
            have hlb : (l2.length + r.length) * 32 ≤ 140737488355328 := by omega
            go_wp2_with (at_builtin; refine wpList_append_own_at _ rfl _ _ 49 rfl w.heap.size 77 j0 _ 3 32 Tryz.underlying49 hj0 hy0 hy1 hy2 rfl (by decide) _ _ _ rfl hro4 ⟨g4, 0, none⟩ r.length c4 (tmCells r) rfl hrl hcl hro (by unfold maxLen; omega) hlb (by omega) ?_)
            intro v5 w5 ho5 hg5 _ _
            obtain ⟨q5, c5, rfl⟩ := own_shape ho5
            have HD5 := Lib.hid (HD4.out.grown hro4 (by decide) (by decide) (Chg.refl _ _) hg5)
            have hC5 : Chg (fun k => k = D.bt) w w5 := HCH.out.trans (grown_chg (S := fun k => (Value.slice q2 l2.length c2).ownBlock = some k) hg5 (fun k hk => .inl hk)) (fun k hk => .inr (hro4.lt k hk).1)
            have HC5 := Lib.hid hC5
            have hs5 := hC5.size
            have hnew := row_new w5 [.int .i64 5, .int .i64 (o : Nat), .string ⟨#[]⟩] 77
            have hone : ∀ u ∈ [Value.int .i64 5, .int .i64 (o : Nat), .string ⟨#[]⟩], u.oneCell' = true := by
              intro u hu
              simp only [List.mem_cons, List.not_mem_nil, or_false] at hu
              rcases hu with rfl | rfl | rfl <;> rfl
            clear hg5 hcl hro hro4 hC5
            go_wp2_with (at_builtin; refine wpList_append_own_at _ rfl _ _ 49 rfl w.heap.size 77 j0 _ 3 32 Tryz.underlying49 hj0 hy0 hy1 hy2 rfl (by decide) _ _ _ rfl (ho5.alloc _) ⟨w5.heap.size, 0, none⟩ 1 1 [.int .i64 5, .int .i64 (o : Nat), .string ⟨#[]⟩] rfl rfl hnew hone (by unfold maxLen; omega) (by omega) (by simp; omega) ?_)
            intro v6 w6 ho6 hg6 _ _
            obtain ⟨q6, c6, rfl⟩ := own_shape ho6
            have HD6 := Lib.hid (HD5.out.grown ho5 (by decide) (by decide) ((Chg.refl _ _).alloc _) hg6)
            have hC6 : Chg (fun k => k = D.bt) w w6 := HC5.out.trans (((Chg.refl (fun k => (Value.slice q5 (l2.length + r.length) c5).ownBlock = some k) w5).alloc _).then (grown_chg hg6 (fun k hk => .inl hk))) (fun k hk => .inr (ho5.lt k hk).1)
            have HC6 := Lib.hid hC6
            have hll : (l2 ++ r ++ [⟨5, o, []⟩] : List Syn.Tm).length = l2.length + r.length + 1 := by simp; omega
            have HO6 := Lib.hid (show w6.ownsRow w.heap.size 77 3 (.slice q6 (l2 ++ r ++ [⟨5, o, []⟩] : List Syn.Tm).length c6) (l2 ++ r ++ [⟨5, o, []⟩] : List Syn.Tm).length (tmCells (l2 ++ r ++ [⟨5, o, []⟩])) by
              rw [hll, tmCells_app, tmCells_app, tmCells_one, List.append_assoc]; exact ho6)
            have HMS2 := Lib.hid (fun iv (h : er4 = 0) => lvMs_0 (iv := iv) (show DS D nv bv 0 a4 w6 by rw [← h]; exact HD6.out))
            have HMS3 := Lib.hid (fun iv (h : er4 ≠ 0) => lvMs_f (iv := iv) HD6.out h)
            clear hg6 hC6 ho6 ho5
            go_wp2_with fail
            have hh := HR2.out
            have hm4 := HM4.out
            cases hpj : p (j + 1) with
            | error qq =>
              rw [hpj] at hh hm4
              obtain ⟨k, t⟩ := qq
              obtain ⟨rfl, m1, m2⟩ := hm4
              refine ⟨⟨q6, c6, _, z4, er4, a4, by rw [hll], rfl, HO6, by rw [hll]; omega, by rw [hll]; omega, HC6, HD6, .inr ⟨m1, Lib.hid (by rw [← hh]; exact ⟨rfl, m1, m2⟩)⟩⟩, ?_⟩
              rw [HMS3.out _ m1, HMS.out]
              simp [intOf]; omega
            | ok qq =>
              obtain ⟨r0, j'⟩ := qq
              have hcn := hcnt _ _ _ hpj
              have hft := hfit (j + 1) hjl
              have hle2 := hft.2 _ _ hpj
              have hj' := hft.1
              rw [hpj] at hh hm4 hj'
              have hj' : j' ≤ D.ys.length := hj'
              obtain ⟨rfl, rfl, rfl⟩ := hm4
              refine ⟨⟨q6, c6, _, _, 0, a4, by rw [hll], rfl, HO6, by rw [hll]; omega, by rw [hll]; omega, HC6, HD6, .inl ⟨rfl, f, j', rfl, hj', by omega, by rw [hll]; omega, Lib.hid hh⟩⟩, ?_⟩
              rw [HMS2.out _ rfl, HMS.out]
              simp [intOf]; omega
    · have e0 : ((er2 : Int) == 0) = false := by simp; omega
      go_wp2_with fail
      go_ret2
      exact ⟨q2, c2, l2, z2, er2, a2, rfl, HO.out, hp2, hc2, HC.out, HD.out, HM.out⟩
end
end Go.Proofs.YtnmcjkabihihiaaGreatDoor

/- The document's unary: operations, and what they are of. -/
namespace Go.Proofs.YtnmcjkabihihiaaGreatDoor
open Go Go.RowKit Go.Proofs.Mm

section
variable {D : DC} {nv bv : Value} {er a : Nat} {w : World}
def nmC (l : List Nat) : List Value := l.map fun (o : Nat) => Value.int .i64 (o : Nat)
theorem level_f0 (h : DS D nv bv er a w) (he : er ≠ 0) (z d : Int) : Calls Tryz.prog 89 #[PB D, .int .i64 z, .int .i64 0, .int .i64 d] w (FlR D nv bv er a w) := by
  have h := level_f h he z d 6 (by decide)
  rwa [show ((6 - 6 : Nat) : Int) = 0 from rfl] at h
theorem atom_else (e : Option (Nat → Syn.R (List Syn.Tm))) {j : Nat} (hnk : ¬ (j < D.ys.length ∧ (tk D.ys D.len j).k = 3)) : Syn.atom (Tk D.ys) e j = if Syn.is (Tk D.ys) j [40] = true then Syn.brack (Tk D.ys) e (fun l => l) [41] j else Syn.atomN (Tk D.ys) e j := by
  by_cases hj : j < D.ys.length
  · unfold Syn.atom
    rw [Tk_some (len := D.len) hj]
    exact if_neg (fun h => hnk ⟨hj, h⟩)
  · have h0 : Syn.is (Tk D.ys) j [40] = false := by unfold Syn.is; rw [Tk_none (by omega)]
    rw [if_neg (by rw [h0]; simp)]
    unfold Syn.atom Syn.atomN Syn.name
    rw [Tk_none (by omega)]
    rfl
/-- A term more, in the first row of a call. -/
theorem app_one {wr W w9 : World} {l : List Syn.Tm} {q : Option Addr} {c : Nat} {v9 : Value} {o : Obj} {t : Syn.Tm} (hrow : W.ownsRow wr.heap.size 77 3 (.slice q l.length c) l.length (tmCells l)) (hC : Chg (fun k => k = D.bt) wr W) (hD : DS D nv bv er a W)
    (ho : w9.ownsRow wr.heap.size 77 3 v9 (l.length + 1) (tmCells l ++ tmC t)) (hg : (W.alloc o).grownBy w9 (Value.slice q l.length c).ownBlock) :
    ∃ q9 c9, v9 = .slice q9 (l.length + 1) c9 ∧ Hid (w9.ownsRow wr.heap.size 77 3 (.slice q9 (l ++ [t]).length c9) (l ++ [t]).length (tmCells (l ++ [t]))) ∧ Hid (Chg (fun k => k = D.bt) wr w9) ∧ Hid (DS D nv bv er a w9) := by
  obtain ⟨q9, c9, rfl⟩ := own_shape ho
  have hll : (l ++ [t]).length = l.length + 1 := by simp
  refine ⟨q9, c9, rfl, Lib.hid (by rw [hll, tmCells_app, tmCells_one]; exact ho), Lib.hid ?_, Lib.hid (hD.grown hrow (by decide) (by decide) ((Chg.refl _ _).alloc _) hg)⟩
  exact hC.trans (((Chg.refl (fun k => (Value.slice q l.length c).ownBlock = some k) W).alloc _).then (grown_chg hg (fun k hk => .inl hk))) (fun k hk => .inr (hrow.lt k hk).1)
theorem app_row {wr W w9 : World} {r : List Syn.Tm} {v9 : Value} (_hs : wr.heap.size ≤ W.heap.size) (hC : Chg (fun k => k = D.bt) wr W) (hD : DS D nv bv er a W)
    (ho : w9.ownsRow wr.heap.size 77 3 v9 (0 + r.length) ([] ++ tmCells r)) (hg : W.grownBy w9 (Value.slice none 0 0).ownBlock) :
    ∃ q9 c9, v9 = .slice q9 r.length c9 ∧ Hid (w9.ownsRow wr.heap.size 77 3 (.slice q9 r.length c9) r.length (tmCells r)) ∧ Hid (Chg (fun k => k = D.bt) wr w9) ∧ Hid (DS D nv bv er a w9) := by
  rw [Nat.zero_add, List.nil_append] at ho
  obtain ⟨q9, c9, rfl⟩ := own_shape ho
  refine ⟨q9, c9, rfl, Lib.hid ho, Lib.hid ?_, Lib.hid (hD.grown (World.ownsRow_nil W wr.heap.size 77 3) (by decide) (by decide) (Chg.refl _ _) hg)⟩
  exact hC.trans (grown_chg (S := fun _ => False) hg (fun k hk => by cases hk)) (fun k hk => hk.elim)
/-- What is appended out of a row of a call's own. -/
theorem row_src {W : World} {B : Nat} {q : Option Addr} {c : Nat} {r : List Syn.Tm} (h : W.ownsRow B 77 3 (.slice q r.length c) r.length (tmCells r)) (hp : 0 < r.length) :
    ∃ g, q = some ⟨g, 0, none⟩ ∧ (tmCells r).length = r.length * 3 ∧ ∀ i u, (tmCells r)[i]? = some u → W.cell? ((⟨g, 0, none⟩ : Addr).add i) = some u := by
  obtain ⟨g, cap, hv, _, _⟩ := h.form hp
  have hq : q = some ⟨g, 0, none⟩ := by injection hv
  clear hv
  subst hq
  have hrl : (tmCells r).length = r.length * 3 := h.1
  refine ⟨g, rfl, hrl, fun i u hu => ?_⟩
  rw [show ((⟨g, 0, none⟩ : Addr).add i) = ⟨g, i, none⟩ from by simp [Addr.add]; intro h; exact h.symm]
  rw [h.cellAt i (by have := (List.getElem?_eq_some_iff.1 hu).1; omega)]
  exact hu
/-- Where the loop over the operations stands. -/
def UnI (D : DC) (nv bv : Value) (a : Nat) (RR : Syn.R (List Nat)) (w : World) (iv ov : Value) (wr : World) : Prop :=
  ∃ f i acc q c, iv = .int .i64 (i : Nat) ∧ ov = .slice q acc.length c ∧ i ≤ D.ys.length ∧ D.ys.length < f + i ∧ acc.length ≤ i ∧ Hid (wr.ownsRow w.heap.size 2 1 (.slice q acc.length c) acc.length (nmC acc)) ∧ Hid (Chg (fun _ => False) w wr) ∧ Hid (DS D nv bv 0 a wr) ∧ Hid (Syn.unGo (Tk D.ys) f acc i = RR)
/-- What the operand has come to. -/
def AtJ (D : DC) (nv bv : Value) (r : Syn.R (List Syn.Tm)) (C : Nat) (w0 : World) (iv lv : Value) (wr : World) : Prop :=
  ∃ q c l z er a, iv = .int .i64 z ∧ lv = .slice q l.length c ∧ Hid (wr.ownsRow w0.heap.size 77 3 (.slice q l.length c) l.length (tmCells l)) ∧ 0 < l.length ∧ l.length ≤ C ∧ Hid (Chg (fun k => k = D.bt) w0 wr) ∧ Hid (DS D nv bv er a wr) ∧ Hid (LvM D r l z er a)
theorem own_mono2 {V : World} {B B' e size m : Nat} {v : Value} {xs : List Value} (h : V.ownsRow B e size v m xs) (hb : B' ≤ B) : V.ownsRow B' e size v m xs := by
  refine ⟨h.1, ?_⟩
  rcases h.2 with h | ⟨g, cap, cur, h1, h2, h3⟩
  · exact .inl h
  · exact .inr ⟨g, cap, cur, h1, Nat.le_trans hb h2, h3⟩
theorem info64 : ∃ i, Tryz.prog.info? 2 = some i ∧ i.zero = some (.int .i64 0) ∧ i.size = 1 ∧ i.bytes = 8 := by
  have h : (Tryz.prog.info? 2).map (fun i => (i.zero, i.size, i.bytes)) = some (some (.int .i64 0), 1, 8) := by kernel_rfl
  cases hi : Tryz.prog.info? 2 with
  | none => rw [hi] at h; cases h
  | some i =>
    rw [hi] at h
    simp only [Option.map_some, Option.some.injEq, Prod.mk.injEq] at h
    exact ⟨i, rfl, h.1, h.2.1, h.2.2⟩
set_option maxRecDepth 100000 in
set_option maxHeartbeats 16000000 in
theorem unary_d {e : Option (Nat → Syn.R (List Syn.Tm))} (d : Nat) (hd : d ≤ 12) {C : Nat} (hC0 : 1 ≤ C) (hCb : C ≤ 100000000)
    (he : match e with | none => d = 12 | some p => d < 12 ∧ Syn.Cnt p ∧ Syn.FitP D.ys.length p ∧ RdD D nv bv 89 (fun i => #[PB D, .int .i64 (i : Nat), .int .i64 0, .int .i64 ((d : Int) + 1)]) p C) :
    RdD D nv bv 111 (fun i => #[PB D, .int .i64 (i : Nat), .int .i64 (d : Nat)]) (Syn.unary (Tk D.ys) (D.ys.length + 1) e) (C + 65537) := by
  intro w a i hi h
  have hfew := h.few
  obtain ⟨RR, hRR⟩ : ∃ RR, Syn.unOps (Tk D.ys) (D.ys.length + 1) i = RR := ⟨_, rfl⟩
  obtain ⟨j0, hj0, hy0, hy1, hy2⟩ := infoTm
  obtain ⟨k0, hk0, hx0, hx1, hx2⟩ := info64
  have HE := Lib.hid he
  have HRR := Lib.hid hRR
  have H0 : UnI D nv bv a RR w (.int .i64 (i : Nat)) (.slice none 0 0) w := ⟨D.ys.length + 1, i, [], none, 0, rfl, rfl, hi, by omega, Nat.zero_le _, Lib.hid (World.ownsRow_nil _ _ _ _), Lib.hid (Chg.refl _ _), Lib.hid h, Lib.hid (by rw [Syn.unGo_start]; exact hRR)⟩
  show Calls _ _ _ _ (LvR D nv bv (Syn.unary (Tk D.ys) (D.ys.length + 1) e i) (C + 65537) w)
  clear h he hRR
  go_enter Tryz.func111, Tryz.ntmps111
  go_wp2_with fail
  go_loopw [1, 8] (UnI D nv bv a RR w) (fun iv _ _ => D.ys.length + 1 - (intOf iv).toNat)
  case atStart => exact H0
  case round =>
    obtain ⟨f, j, acc, q, c, rfl, rfl, hj, hf, hacc, HO, HC, HD, HG⟩ := hrel
    clear H0
    have HIS := Lib.hid (fun s => is_d HD.out j s)
    obtain ⟨f, rfl⟩ : ∃ f', f = f' + 1 := ⟨f - 1, by omega⟩
    have hun := Syn.unOf (T := Tk D.ys) (i := j)
    obtain ⟨b1, h1⟩ : ∃ b, Syn.is (Tk D.ys) j (bl ⟨#[45]⟩) = b := ⟨_, rfl⟩
    obtain ⟨b2, h2⟩ : ∃ b, Syn.is (Tk D.ys) j (bl ⟨#[33]⟩) = b := ⟨_, rfl⟩
    obtain ⟨b3, h3⟩ : ∃ b, Syn.is (Tk D.ys) j (bl ⟨#[126]⟩) = b := ⟨_, rfl⟩
    rw [show ([126] : List Nat) = bl ⟨#[126]⟩ from rfl, show ([33] : List Nat) = bl ⟨#[33]⟩ from rfl, show ([45] : List Nat) = bl ⟨#[45]⟩ from rfl, h1, h2, h3] at hun
    by_cases hany : b1 = false ∧ b2 = false ∧ b3 = false
    · obtain ⟨rfl, rfl, rfl⟩ := hany
      have HR2 := Lib.hid (show RR = .ok (acc, j) from by rw [← HG.out]; exact Syn.unGo_done (by rw [hun]; rfl))
      clear hun HG
      go_upto_region 11 with (first | (go_at_call 37; refine (HIS.out _).mono ?_; rintro e w' ⟨rfl, rfl⟩))
      have HRAW := Lib.hid HD.out.raw
      obtain ⟨k3, hk3⟩ : ∃ b : Bool, decide (j < D.ys.length ∧ (tk D.ys D.len j).k = 3) = b := ⟨_, rfl⟩
      have HK3 := Lib.hid hk3
      clear hk3
      go_cut [67] from 43 to 68 (fun iv wx => iv = .bool k3 ∧ wx = wr)
      case first =>
        obtain ⟨qr, x0, _, x2, _, _, _, _, _, hx⟩ := HRAW.out
        have e0 : (((0 : Nat) : Int) == 0) = true := rfl
        by_cases hjl : j < D.ys.length
        · obtain ⟨rfl, _, _, y0, _⟩ := hx j hjl
          have hji : (j : Int) < (D.ys.length : Nat) := by omega
          have hkk : (((tk D.ys D.len j).k : Int) == 3) = k3 := by
            rw [← HK3.out]
            by_cases h : (tk D.ys D.len j).k = 3
            · simp [h, hjl]
            · have : ¬ (((tk D.ys D.len j).k : Int) = 3) := by omega
              simp [h, this]
          clear hx
          generalize (tk D.ys D.len j).k = xk at *
          cases k3
          all_goals
            go_wp2
            go_meet
            exact ⟨rfl, rfl⟩
        · have hkk : k3 = false := by rw [← HK3.out]; simp [hjl]
          have hji : ¬ ((j : Int) < (D.ys.length : Nat)) := by omega
          subst hkk
          clear hx
          go_wp2
          go_meet
          exact ⟨rfl, rfl⟩
      case rest =>
      obtain ⟨rfl, hwc⟩ := hcut
      have hwc' := hwc.symm
      clear hwc
      subst hwc'
      go_upto_if 67 with (fail)
      go_cut [1, 10] from 68 to 144 (fun iv lv wx => AtJ D nv bv (Syn.atom (Tk D.ys) e j) (C + 1) wr iv lv wx)
      case first =>
        have hD0 := HD.out
        have hwj : IntKind.i64.wrap ((j : Int) + 1) = ((j + 1 : Nat) : Int) := by rw [IntKind.wrap_i64]; omega
        have hwj2 : IntKind.i64.wrap (((j + 1 : Nat) : Int) + 1) = ((j + 2 : Nat) : Int) := by rw [IntKind.wrap_i64]; omega
        have hwd : IntKind.i64.wrap ((d : Int) + 1) = (d : Int) + 1 := by rw [IntKind.wrap_i64]; omega
        have hnil := World.ownsRow_nil wr wr.heap.size 77 3
        clear h1 h2 h3
        cases k3 with
        | true =>
          have hb := of_decide_eq_true HK3.out
          obtain ⟨hjl, hkk⟩ := hb
          have hat : Syn.atom (Tk D.ys) e j = .ok ([⟨1, (tk D.ys D.len j).v, []⟩], j + 1) := by
            unfold Syn.atom
            rw [Tk_some (len := D.len) hjl]
            exact if_pos hkk
          have HAT := Lib.hid hat
          obtain ⟨qr, x0, _, x2, _, _, _, _, _, hx⟩ := HRAW.out
          obtain ⟨rfl, _, _, y0, y1, y2, y3⟩ := hx j hjl
          have hji : (j : Int) < (D.ys.length : Nat) := by omega
          clear hx hat
          generalize (tk D.ys D.len j).v = tv at *
          have hnewA := row_new wr [.int .i64 1, .int .i64 (tv : Nat), .string ⟨#[]⟩] 77
          have honeA : ∀ u ∈ [Value.int .i64 1, .int .i64 (tv : Nat), .string ⟨#[]⟩], u.oneCell' = true := by
            intro u hu
            simp only [List.mem_cons, List.not_mem_nil, or_false] at hu
            rcases hu with rfl | rfl | rfl <;> rfl
          go_wp2_with (at_builtin; refine wpList_append_own_at _ rfl _ _ 49 rfl wr.heap.size 77 j0 _ 3 32 Tryz.underlying49 hj0 hy0 hy1 hy2 rfl (by decide) _ _ _ rfl (hnil.alloc _) ⟨wr.heap.size, 0, none⟩ 1 1 [.int .i64 1, .int .i64 (tv : Nat), .string ⟨#[]⟩] rfl rfl hnewA honeA (by unfold maxLen; omega) (by omega) (by simp <;> omega) ?_)
          intro v9 w9 ho9 hg9 _ _
          obtain ⟨q9, c9, rfl, HO9, HC9, HD9⟩ := app_one (l := []) (t := ⟨1, tv, []⟩) hnil (Chg.refl _ _) hD0 ho9 hg9
          clear ho9 hg9 hnil hD0
          go_wp2_with fail
          go_meet
          exact ⟨q9, c9, _, _, 0, a, by go_num, rfl, HO9, by simp, by simp, HC9, HD9, Lib.hid (by rw [HAT.out]; exact ⟨rfl, by first | rfl | (push_cast; rfl), rfl⟩)⟩
        | false =>
          have hnk : ¬ (j < D.ys.length ∧ (tk D.ys D.len j).k = 3) := of_decide_eq_false HK3.out
          have HAE := Lib.hid (atom_else e hnk)
          have HIS := Lib.hid (fun s => is_d hD0 j s)
          obtain ⟨b4, hb4⟩ : ∃ b, Syn.is (Tk D.ys) j (bl ⟨#[40]⟩) = b := ⟨_, rfl⟩
          have HB4 := Lib.hid hb4
          cases b4 with
          | true =>
            have hjl : j < D.ys.length := Syn.is_lt (tk_nones D.ys) hb4
            have hat : Syn.atom (Tk D.ys) e j = Syn.brack (Tk D.ys) e (fun l => l) [41] j := by rw [HAE.out]; exact if_pos hb4
            have HAT := Lib.hid hat
            clear hat hnk
            cases e with
            | none =>
              have hd12 : d = 12 := HE.out
              have ed : ((d : Int) == 12) = true := by simp; omega
              clear hd12
              go_wp2_with (first | (go_at_call 37; refine (HIS.out _).mono ?_; rintro e w' ⟨rfl, rfl⟩) | (go_at_call 39; refine (bad_d hD0 51 j).mono ?_; rintro e w1 ⟨rfl, hc1, hd1⟩))
              go_at_call 89
              refine (level_f0 hd1 (by decide) _ _).mono ?_
              rintro e w2 ⟨q2, c2, z2, rfl, ho2, hd2, hc2⟩
              obtain ⟨g2, rfl, hrl, hcl⟩ := row_src (r := [⟨2, 0, []⟩]) (by rw [tmCells_one]; exact ho2) (by decide)
              have hro := tmC_one [⟨2, 0, []⟩]
              have hC2 := hc1.then (hc2.mono (fun _ e => e.elim))
              have hs2 := hC2.size
              clear hc1 hd1 hc2 ho2
              go_wp2_with (at_builtin; refine wpList_append_own_at _ rfl _ _ 49 rfl wr.heap.size 77 j0 _ 3 32 Tryz.underlying49 hj0 hy0 hy1 hy2 rfl (by decide) _ 0 [] rfl (World.ownsRow_nil w2 wr.heap.size 77 3) ⟨g2, 0, none⟩ 1 c2 (tmCells [⟨2, 0, []⟩]) rfl hrl hcl hro (by unfold maxLen; omega) (by omega) (by omega) ?_)
              intro v9 w9 ho9 hg9 _ _
              obtain ⟨q9, c9, rfl, HO9, HC9, HD9⟩ := app_row (r := [⟨2, 0, []⟩]) hs2 hC2 hd2 ho9 hg9
              clear ho9 hg9 hcl hC2 hd2
              go_wp2_with (go_at_call 41; refine (wantD_f HD9.out (by decide) _ _).mono ?_; rintro e w' ⟨⟨z3, rfl⟩, rfl⟩)
              go_meet
              exact ⟨q9, c9, _, _, 51, _, rfl, rfl, HO9, by simp, by simp, HC9, HD9, Lib.hid (by rw [HAT.out]; exact ⟨rfl, by decide, rfl⟩)⟩
            | some p =>
              obtain ⟨hd12, hcnt, hfit, hR⟩ := HE.out
              have ed : ((d : Int) == 12) = false := by simp; omega
              have hcall := hR wr a (j + 1) hjl hD0
              clear hd12 hR
              go_wp2_with (first | (go_at_call 37; refine (HIS.out _).mono ?_; rintro e w' ⟨rfl, rfl⟩))
              go_at_call 89
              refine hcall.mono ?_
              rintro e w1 ⟨q1, c1, r, z1, er1, a1, rfl, ho1, hp1, hc1, hC1, hd1, hm1⟩
              obtain ⟨g2, rfl, hrl, hcl⟩ := row_src ho1 hp1
              have hro := tmC_one r
              have hs2 := hC1.size
              clear hcall ho1
              go_wp2_with (at_builtin; refine wpList_append_own_at _ rfl _ _ 49 rfl wr.heap.size 77 j0 _ 3 32 Tryz.underlying49 hj0 hy0 hy1 hy2 rfl (by decide) _ 0 [] rfl (World.ownsRow_nil w1 wr.heap.size 77 3) ⟨g2, 0, none⟩ r.length c1 (tmCells r) rfl hrl hcl hro (by unfold maxLen; omega) (by omega) (by omega) ?_)
              intro v9 w9 ho9 hg9 _ _
              obtain ⟨q9, c9, rfl, HO9, HC9, HD9⟩ := app_row hs2 hC1 hd1 (by rw [Nat.zero_add, List.nil_append]; exact ho9) hg9
              have HM1 := Lib.hid hm1
              clear ho9 hg9 hcl hC1 hd1 hm1 hrl hro
              go_wp2_with fail
              go_at_call 41
              cases hpj : p (j + 1) with
              | error qq =>
                obtain ⟨k, t⟩ := qq
                have hm1 := HM1.out
                rw [hpj] at hm1
                obtain ⟨rfl, m1, m2⟩ := hm1
                have HPJ := Lib.hid hpj
                have HM := Lib.hid m2
                clear hpj m2 HM1
                refine (wantD_f HD9.out m1 _ _).mono ?_
                rintro e w' ⟨⟨z3, rfl⟩, rfl⟩
                go_wp2_with fail
                go_meet
                exact ⟨q9, c9, r, _, er1, a1, rfl, rfl, HO9, hp1, by omega, HC9, HD9, Lib.hid (by rw [HAT.out]; unfold Syn.brack; simp only [HPJ.out]; exact ⟨rfl, m1, HM.out⟩)⟩
              | ok qq =>
                obtain ⟨r0, j2⟩ := qq
                have hm1 := HM1.out
                rw [hpj] at hm1
                obtain ⟨rfl, rfl, rfl⟩ := hm1
                have hj2 := (hfit (j + 1) hjl).1
                rw [hpj] at hj2
                have hj2 : j2 ≤ D.ys.length := hj2
                have HPJ := Lib.hid hpj
                clear hpj HM1
                cases hx : Syn.is (Tk D.ys) j2 (bl ⟨#[41]⟩) with
                | true =>
                  have HW := Lib.hid (show Syn.want (Tk D.ys) j2 [41] = .ok ((), j2 + 1) from if_pos hx)
                  refine (wantD_yes HD9.out (Syn.is_lt (tk_nones D.ys) hx) hx).mono ?_
                  rintro e w' ⟨rfl, rfl⟩
                  clear hx
                  go_wp2_with fail
                  go_meet
                  exact ⟨q9, c9, r, _, 0, a1, rfl, rfl, HO9, hp1, by omega, HC9, HD9, Lib.hid (by rw [HAT.out]; unfold Syn.brack; simp only [HPJ.out, Syn.R.on, HW.out]; exact ⟨rfl, rfl, rfl⟩)⟩
                | false =>
                  have HW := Lib.hid (show Syn.want (Tk D.ys) j2 [41] = .error (50, j2) from if_neg (by rw [show ([41] : List Nat) = bl ⟨#[41]⟩ from rfl, hx]; simp))
                  refine (wantD_no HD9.out (by omega) hx).mono ?_
                  rintro e w7 ⟨⟨z3, rfl⟩, hc7, hd7⟩
                  have HD7 := Lib.hid hd7
                  have HO7 := Lib.hid (own_chg HO9.out hc7 (fun k hk e => by subst e; exact own_not HD9.out HO9.out (by decide) hk))
                  have HC7 := Lib.hid (HC9.out.then hc7)
                  clear hx hd7 hc7
                  go_wp2_with fail
                  go_meet
                  exact ⟨q9, c9, r, _, 50, _, rfl, rfl, HO7, hp1, by omega, HC7, HD7, Lib.hid (by rw [HAT.out]; unfold Syn.brack; simp only [HPJ.out, Syn.R.on, HW.out]; exact ⟨rfl, by decide, rfl⟩)⟩
          | false =>
            have hat : Syn.atom (Tk D.ys) e j = Syn.atomN (Tk D.ys) e j := by rw [HAE.out]; exact if_neg (by rw [show ([40] : List Nat) = bl ⟨#[40]⟩ from rfl, hb4]; simp)
            have HAT := Lib.hid hat
            clear hat hnk
            cases hnm : Syn.named (Tk D.ys) j with
            | false =>
              have hnme : Syn.name (Tk D.ys) j = .error (50, j) := by
                unfold Syn.named at hnm
                unfold Syn.name
                cases hT : Tk D.ys j with
                | none => rfl
                | some k =>
                  rw [hT] at hnm
                  simp only [beq_eq_false_iff_ne] at hnm
                  exact if_neg hnm
              have HNE := Lib.hid hnme
              have HNN := Lib.hid (nameD_no hD0 (by omega) hnm)
              clear hnme hnm
              go_wp2_with (first | (go_at_call 37; refine (HIS.out _).mono ?_; rintro e w' ⟨rfl, rfl⟩))
              go_at_call 40
              refine HNN.out.mono ?_
              rintro e w1 ⟨⟨z1, rfl⟩, hc1, hd1⟩
              have HIF := Lib.hid (fun z s => is_f hd1 (by decide) z s)
              have hnil1 := World.ownsRow_nil w1 wr.heap.size 77 3
              have hs1 := hc1.size
              go_upto_region 29 with (first | (go_at_call 37; refine (HIF.out _ _).mono ?_; rintro e w' ⟨rfl, rfl⟩))
              have hnewB := row_new w1 [.int .i64 2, .int .i64 0, .string ⟨#[]⟩] 77
              have honeB : ∀ u ∈ [Value.int .i64 2, .int .i64 0, .string ⟨#[]⟩], u.oneCell' = true := by
                intro u hu
                simp only [List.mem_cons, List.not_mem_nil, or_false] at hu
                rcases hu with rfl | rfl | rfl <;> rfl
              go_wp2_with (at_builtin; refine wpList_append_own_at _ rfl _ _ 49 rfl wr.heap.size 77 j0 _ 3 32 Tryz.underlying49 hj0 hy0 hy1 hy2 rfl (by decide) _ _ _ rfl (hnil1.alloc _) ⟨w1.heap.size, 0, none⟩ 1 1 [.int .i64 2, .int .i64 0, .string ⟨#[]⟩] rfl rfl hnewB honeB (by unfold maxLen; omega) (by omega) (by simp <;> omega) ?_)
              intro v9 w9 ho9 hg9 _ _
              obtain ⟨q9, c9, rfl, HO9, HC9, HD9⟩ := app_one (l := []) (t := ⟨2, 0, []⟩) hnil1 hc1 hd1 ho9 hg9
              clear ho9 hg9 hc1 hd1 hnil1
              go_wp2_with fail
              go_meet
              exact ⟨q9, c9, _, _, 50, _, rfl, rfl, HO9, by simp, by simp, HC9, HD9, Lib.hid (by rw [HAT.out]; unfold Syn.atomN; rw [HNE.out]; exact ⟨rfl, by decide, rfl⟩)⟩
            | true =>
              have hjl : j < D.ys.length := Syn.named_lt (tk_nones D.ys) hnm
              have hnme : Syn.name (Tk D.ys) j = .ok (bl (tk D.ys D.len j).t, j + 1) := by
                unfold Syn.named at hnm
                unfold Syn.name
                rw [Tk_some (len := D.len) hjl] at hnm ⊢
                simp only [beq_iff_eq] at hnm
                exact if_pos hnm
              have HNE := Lib.hid hnme
              have HNY := Lib.hid (nameD_yes hD0 hnm)
              have HIS2 := Lib.hid (fun s => is_d hD0 (j + 1) s)
              clear hnme hnm
              obtain ⟨b5, hb5⟩ : ∃ b, Syn.is (Tk D.ys) (j + 1) (bl ⟨#[91]⟩) = b := ⟨_, rfl⟩
              have HB5 := Lib.hid hb5
              generalize (tk D.ys D.len j).t = nt at *
              have htm : ∀ x : Nat, tmC ⟨x, 0, bl nt⟩ = [.int .i64 (x : Nat), .int .i64 0, .string nt] := fun x => by simp [tmC, sb_bl]
              have HTM := Lib.hid htm
              clear htm
              go_wp2_with (first | (go_at_call 37; refine (HIS.out _).mono ?_; rintro e w' ⟨rfl, rfl⟩))
              go_at_call 40
              refine HNY.out.mono ?_
              rintro e w1 ⟨rfl, rfl⟩
              cases b5 with
              | false =>
                have HA2 := Lib.hid (show Syn.atomN (Tk D.ys) e j = .ok ([⟨2, 0, bl nt⟩], j + 1) from by
                  unfold Syn.atomN; rw [HNE.out]; exact if_neg (by rw [show ([91] : List Nat) = bl ⟨#[91]⟩ from rfl, HB5.out]; simp))
                go_upto_region 29 with (first | (go_at_call 37; refine (HIS2.out _).mono ?_; rintro e w' ⟨rfl, rfl⟩))
                have hnewB := row_new wr [.int .i64 2, .int .i64 0, .string nt] 77
                have honeB : ∀ u ∈ [Value.int .i64 2, .int .i64 0, .string nt], u.oneCell' = true := by
                  intro u hu
                  simp only [List.mem_cons, List.not_mem_nil, or_false] at hu
                  rcases hu with rfl | rfl | rfl <;> rfl
                go_wp2_with (at_builtin; refine wpList_append_own_at _ rfl _ _ 49 rfl wr.heap.size 77 j0 _ 3 32 Tryz.underlying49 hj0 hy0 hy1 hy2 rfl (by decide) _ _ _ rfl (hnil.alloc _) ⟨wr.heap.size, 0, none⟩ 1 1 [.int .i64 2, .int .i64 0, .string nt] rfl rfl hnewB honeB (by unfold maxLen; omega) (by omega) (by simp <;> omega) ?_)
                intro v9 w9 ho9 hg9 _ _
                obtain ⟨q9, c9, rfl, HO9, HC9, HD9⟩ := app_one (l := []) (t := ⟨2, 0, bl nt⟩) hnil (Chg.refl _ _) hD0 (by rw [HTM.out 2]; exact ho9) hg9
                clear ho9 hg9
                go_wp2_with fail
                go_meet
                exact ⟨q9, c9, _, _, 0, a, rfl, rfl, HO9, by simp, by simp, HC9, HD9, Lib.hid (by rw [HAT.out, HA2.out]; exact ⟨rfl, rfl, rfl⟩)⟩
              | true =>
                have hj1 : j + 1 < D.ys.length := Syn.is_lt (tk_nones D.ys) hb5
                have HA2 := Lib.hid (show Syn.atomN (Tk D.ys) e j = Syn.brack (Tk D.ys) e (fun l => l ++ [⟨3, 0, bl nt⟩]) [93] (j + 1) from by
                  unfold Syn.atomN; rw [HNE.out]; exact if_pos HB5.out)
                cases e with
                | none =>
                  have hd12 : d = 12 := HE.out
                  have ed : ((d : Int) == 12) = true := by simp; omega
                  clear hd12
                  go_wp2_with (first | (go_at_call 37; refine (HIS2.out _).mono ?_; rintro e w' ⟨rfl, rfl⟩) | (go_at_call 39; refine (bad_d hD0 51 (j + 1)).mono ?_; rintro e w1 ⟨rfl, hc1, hd1⟩))
                  go_at_call 89
                  refine (level_f0 hd1 (by decide) _ _).mono ?_
                  rintro e w2 ⟨q2, c2, z2, rfl, ho2, hd2, hc2⟩
                  obtain ⟨g2, rfl, hrl, hcl⟩ := row_src (r := [⟨2, 0, []⟩]) (by rw [tmCells_one]; exact ho2) (by decide)
                  have hro := tmC_one [⟨2, 0, []⟩]
                  have hC2 := hc1.then (hc2.mono (fun _ e => e.elim))
                  have hs2 := hC2.size
                  clear hc1 hd1 hc2 ho2
                  go_wp2_with (at_builtin; refine wpList_append_own_at _ rfl _ _ 49 rfl wr.heap.size 77 j0 _ 3 32 Tryz.underlying49 hj0 hy0 hy1 hy2 rfl (by decide) _ 0 [] rfl (World.ownsRow_nil w2 wr.heap.size 77 3) ⟨g2, 0, none⟩ 1 c2 (tmCells [⟨2, 0, []⟩]) rfl hrl hcl hro (by unfold maxLen; omega) (by omega) (by omega) ?_)
                  intro v8 w8 ho8 hg8 _ _
                  obtain ⟨q8, c8, rfl, HO8, HC8, HD8⟩ := app_row (r := [⟨2, 0, []⟩]) hs2 hC2 hd2 ho8 hg8
                  clear ho8 hg8 hcl hC2 hd2 hrl hro hs2
                  have hr8 : w8.ownsRow wr.heap.size 77 3 (.slice q8 1 c8) 1 (tmCells [⟨2, 0, []⟩]) := HO8.out
                  have hs8 := HC8.out.size
                  go_upto_region 27 with (fail)
                  have hnewB := row_new w8 [.int .i64 3, .int .i64 0, .string nt] 77
                  have honeB : ∀ u ∈ [Value.int .i64 3, .int .i64 0, .string nt], u.oneCell' = true := by
                    intro u hu
                    simp only [List.mem_cons, List.not_mem_nil, or_false] at hu
                    rcases hu with rfl | rfl | rfl <;> rfl
                  go_wp2_with (at_builtin; refine wpList_append_own_at _ rfl _ _ 49 rfl wr.heap.size 77 j0 _ 3 32 Tryz.underlying49 hj0 hy0 hy1 hy2 rfl (by decide) _ _ _ rfl (hr8.alloc _) ⟨w8.heap.size, 0, none⟩ 1 1 [.int .i64 3, .int .i64 0, .string nt] rfl rfl hnewB honeB (by unfold maxLen; omega) (by omega) (by simp <;> omega) ?_)
                  intro v9 w9 ho9 hg9 _ _
                  obtain ⟨q9, c9, rfl, HO9, HC9, HD9⟩ := app_one (l := [⟨2, 0, []⟩]) (t := ⟨3, 0, bl nt⟩) hr8 HC8.out HD8.out (by rw [HTM.out 3]; exact ho9) hg9
                  clear ho9 hg9 hr8
                  go_wp2_with (go_at_call 41; refine (wantD_f HD9.out (by decide) _ _).mono ?_; rintro e w' ⟨⟨z3, rfl⟩, rfl⟩)
                  go_meet
                  exact ⟨q9, c9, _, _, 51, _, rfl, rfl, HO9, by simp, by simp; omega, HC9, HD9, Lib.hid (by rw [HAT.out, HA2.out]; exact ⟨rfl, by decide, rfl⟩)⟩
                | some p =>
                  obtain ⟨hd12, hcnt, hfit, hR⟩ := HE.out
                  have ed : ((d : Int) == 12) = false := by simp; omega
                  have hcall := hR wr a (j + 2) hj1 hD0
                  clear hd12 hR
                  go_wp2_with (first | (go_at_call 37; refine (HIS2.out _).mono ?_; rintro e w' ⟨rfl, rfl⟩))
                  go_at_call 89
                  refine (show Calls Tryz.prog _ _ _ _ from hcall).mono ?_
                  rintro e w1 ⟨q1, c1, r, z1, er1, a1, rfl, ho1, hp1, hc1, hC1, hd1, hm1⟩
                  obtain ⟨g2, rfl, hrl, hcl⟩ := row_src ho1 hp1
                  have hro := tmC_one r
                  have hs2 := hC1.size
                  clear hcall ho1
                  go_wp2_with (at_builtin; refine wpList_append_own_at _ rfl _ _ 49 rfl wr.heap.size 77 j0 _ 3 32 Tryz.underlying49 hj0 hy0 hy1 hy2 rfl (by decide) _ 0 [] rfl (World.ownsRow_nil w1 wr.heap.size 77 3) ⟨g2, 0, none⟩ r.length c1 (tmCells r) rfl hrl hcl hro (by unfold maxLen; omega) (by omega) (by omega) ?_)
                  intro v8 w8 ho8 hg8 _ _
                  obtain ⟨q8, c8, rfl, HO8, HC8, HD8⟩ := app_row hs2 hC1 hd1 (by rw [Nat.zero_add, List.nil_append]; exact ho8) hg8
                  have HM1 := Lib.hid hm1
                  clear ho8 hg8 hcl hC1 hd1 hm1 hrl hro hs2
                  have hr8 := HO8.out
                  have hs8 := HC8.out.size
                  go_upto_region 27 with (fail)
                  have hnewB := row_new w8 [.int .i64 3, .int .i64 0, .string nt] 77
                  have honeB : ∀ u ∈ [Value.int .i64 3, .int .i64 0, .string nt], u.oneCell' = true := by
                    intro u hu
                    simp only [List.mem_cons, List.not_mem_nil, or_false] at hu
                    rcases hu with rfl | rfl | rfl <;> rfl
                  go_wp2_with (at_builtin; refine wpList_append_own_at _ rfl _ _ 49 rfl wr.heap.size 77 j0 _ 3 32 Tryz.underlying49 hj0 hy0 hy1 hy2 rfl (by decide) _ _ _ rfl (hr8.alloc _) ⟨w8.heap.size, 0, none⟩ 1 1 [.int .i64 3, .int .i64 0, .string nt] rfl rfl hnewB honeB (by unfold maxLen; omega) (by omega) (by simp <;> omega) ?_)
                  intro v9 w9 ho9 hg9 _ _
                  obtain ⟨q9, c9, rfl, HO9, HC9, HD9⟩ := app_one (t := ⟨3, 0, bl nt⟩) hr8 HC8.out HD8.out (by rw [HTM.out 3]; exact ho9) hg9
                  clear ho9 hg9 hr8
                  go_wp2_with fail
                  go_at_call 41
                  have hll : (r ++ [⟨3, 0, bl nt⟩] : List Syn.Tm).length = r.length + 1 := by simp
                  have HLL := Lib.hid hll
                  clear hll
                  cases hpj : p (j + 2) with
                  | error qq =>
                    obtain ⟨k, t⟩ := qq
                    have hm1 := HM1.out
                    rw [hpj] at hm1
                    obtain ⟨rfl, m1, m2⟩ := hm1
                    have HPJ := Lib.hid hpj
                    have HM := Lib.hid m2
                    clear hpj m2 HM1
                    refine (wantD_f HD9.out m1 _ _).mono ?_
                    rintro e w' ⟨⟨z3, rfl⟩, rfl⟩
                    go_wp2_with fail
                    go_meet
                    exact ⟨q9, c9, _, _, er1, a1, rfl, by rw [HLL.out], HO9, by rw [HLL.out]; omega, by rw [HLL.out]; omega, HC9, HD9, Lib.hid (by rw [HAT.out, HA2.out]; unfold Syn.brack; simp only [HPJ.out]; exact ⟨rfl, m1, HM.out⟩)⟩
                  | ok qq =>
                    obtain ⟨r0, j2⟩ := qq
                    have hm1 := HM1.out
                    rw [hpj] at hm1
                    obtain ⟨rfl, rfl, rfl⟩ := hm1
                    have hj2 := (hfit (j + 2) hj1).1
                    rw [hpj] at hj2
                    have hj2 : j2 ≤ D.ys.length := hj2
                    have HPJ := Lib.hid hpj
                    clear hpj HM1
                    cases hx : Syn.is (Tk D.ys) j2 (bl ⟨#[93]⟩) with
                    | true =>
                      have HW := Lib.hid (show Syn.want (Tk D.ys) j2 [93] = .ok ((), j2 + 1) from if_pos hx)
                      refine (wantD_yes HD9.out (Syn.is_lt (tk_nones D.ys) hx) hx).mono ?_
                      rintro e w' ⟨rfl, rfl⟩
                      clear hx
                      go_wp2_with fail
                      go_meet
                      exact ⟨q9, c9, _, _, 0, a1, rfl, by rw [HLL.out], HO9, by rw [HLL.out]; omega, by rw [HLL.out]; omega, HC9, HD9, Lib.hid (by rw [HAT.out, HA2.out]; unfold Syn.brack; simp only [HPJ.out, Syn.R.on, HW.out]; exact ⟨rfl, rfl, rfl⟩)⟩
                    | false =>
                      have HW := Lib.hid (show Syn.want (Tk D.ys) j2 [93] = .error (50, j2) from if_neg (by rw [show ([93] : List Nat) = bl ⟨#[93]⟩ from rfl, hx]; simp))
                      refine (wantD_no HD9.out (by omega) hx).mono ?_
                      rintro e w7 ⟨⟨z3, rfl⟩, hc7, hd7⟩
                      have HD7 := Lib.hid hd7
                      have HO7 := Lib.hid (own_chg HO9.out hc7 (fun k hk e => by subst e; exact own_not HD9.out HO9.out (by decide) hk))
                      have HC7 := Lib.hid (HC9.out.then hc7)
                      clear hx hd7 hc7
                      go_wp2_with fail
                      go_meet
                      exact ⟨q9, c9, _, _, 50, _, rfl, by rw [HLL.out], HO7, by rw [HLL.out]; omega, by rw [HLL.out]; omega, HC7, HD7, Lib.hid (by rw [HAT.out, HA2.out]; unfold Syn.brack; simp only [HPJ.out, Syn.R.on, HW.out]; exact ⟨rfl, by decide, rfl⟩)⟩
      case rest =>
        generalize wr = V at *
        obtain ⟨q5, c5, l, z, er, a5, rfl, rfl, HO5, hp5, hc5, HC5, HD5, HM5⟩ := hcut
        have hnb := own_not HD.out HO.out (by decide)
        have HNB := Lib.hid hnb
        clear hnb h1 h2 h3
        have hwa : IntKind.i64.wrap (((acc.length : Nat) : Int) - 1) = ((acc.length : Nat) : Int) - 1 := by rw [IntKind.wrap_i64]; omega
        have hd0 : acc.drop acc.length = [] := List.drop_length
        have H9 : ∃ k l' q6 c6, k ≤ acc.length ∧ (Value.int .i64 (((acc.length : Nat) : Int) - 1)) = .int .i64 ((k : Int) - 1) ∧ (Value.slice q5 l.length c5) = .slice q6 l'.length c6 ∧ Hid (l' = l ++ (acc.drop k).reverse.map fun o => (⟨4, o, []⟩ : Syn.Tm)) ∧ l'.length + k = l.length + acc.length ∧ Hid (wc.ownsRow V.heap.size 77 3 (.slice q6 l'.length c6) l'.length (tmCells l')) ∧ Hid (Chg (fun k => k = D.bt) V wc) ∧ Hid (DS D nv bv er a5 wc) :=
          ⟨acc.length, l, q5, c5, Nat.le_refl _, rfl, rfl, Lib.hid (by rw [hd0]; simp), rfl, HO5, HC5, HD5⟩
        clear hd0
        go_wp2_with fail
        go_loopw [10, 17] (fun lv kv wv => ∃ k l' q6 c6, k ≤ acc.length ∧ kv = .int .i64 ((k : Int) - 1) ∧ lv = .slice q6 l'.length c6 ∧ Hid (l' = l ++ (acc.drop k).reverse.map fun o => (⟨4, o, []⟩ : Syn.Tm)) ∧ l'.length + k = l.length + acc.length ∧ Hid (wv.ownsRow V.heap.size 77 3 (.slice q6 l'.length c6) l'.length (tmCells l')) ∧ Hid (Chg (fun k => k = D.bt) V wv) ∧ Hid (DS D nv bv er a5 wv)) (fun _ kv _ => (intOf kv + 1).toNat)
        case atStart =>
          obtain ⟨k, l', q6, c6, g1, g2, g3, g4⟩ := H9
          exact ⟨k, l', q6, c6, g1, g2, g3, g4⟩
        case round =>
          obtain ⟨k, l', q6, c6, hk, rfl, rfl, HL, hlen, HO6, HC6, HD6⟩ := hrel
          clear H9
          cases k with
          | zero =>
            have hm1 : ((0 : Nat) : Int) - 1 = -1 := rfl
            have hU : Syn.unary (Tk D.ys) (D.ys.length + 1) e i = (Syn.atom (Tk D.ys) e j).on fun l i => .ok (l ++ acc.reverse.map fun o => ⟨4, o, []⟩, i) := by rw [Syn.unary_atom, HRR.out, HR2.out]; rfl
            have HU := Lib.hid hU
            clear hU
            go_wp2_with fail
            go_ret2
            refine ⟨q6, c6, l', z, er, a5, rfl, own_mono2 HO6.out HC.out.size, by omega, by omega, (HC.out.mono (fun _ e => e.elim)).then HC6.out, HD6.out, ?_⟩
            rw [HU.out]
            have hl' : l' = l ++ acc.reverse.map fun o => (⟨4, o, []⟩ : Syn.Tm) := HL.out
            have hm5 := HM5.out
            cases hat : Syn.atom (Tk D.ys) e j with
            | error qq => rw [hat] at hm5; exact hm5
            | ok qq =>
              rw [hat] at hm5
              obtain ⟨rfl, rfl, rfl⟩ := hm5
              exact ⟨hl', rfl, rfl⟩
          | succ m =>
            have hm1 : ((m + 1 : Nat) : Int) - 1 = (m : Int) := by omega
            have hOw := own_chg HO.out HC6.out (fun k hk e => by subst e; exact HNB.out hk)
            obtain ⟨g, cap, hv, _, hg⟩ := hOw.form (by omega)
            have hq : q = some ⟨g, 0, none⟩ := by injection hv
            clear hv
            subst hq
            have hmm : m < acc.length := by omega
            have y0 : wr.cell? ⟨g, m, none⟩ = some (.int .i64 (acc[m] : Nat)) := by
              rw [hOw.cellAt m (by omega)]
              unfold nmC
              rw [List.getElem?_map, List.getElem?_eq_getElem hmm]; rfl
            have HL2 := Lib.hid (show l' ++ [⟨4, acc[m], []⟩] = l ++ (acc.drop m).reverse.map fun o => (⟨4, o, []⟩ : Syn.Tm) from by
              rw [HL.out, List.drop_eq_getElem_cons hmm, List.reverse_cons, List.map_append, ← List.append_assoc]; rfl)
            have hmi : (m : Int) < (acc.length : Nat) := by omega
            have hm0 : (0 : Int) ≤ (m : Int) := by omega
            have hwm : IntKind.i64.wrap ((m : Int) - 1) = (m : Int) - 1 := by rw [IntKind.wrap_i64]; omega
            have hrow := HO6.out
            have hs6 := HC6.out.size
            have hnew := row_new wr [.int .i64 4, .int .i64 (acc[m] : Nat), .string ⟨#[]⟩] 77
            have hone : ∀ u ∈ [Value.int .i64 4, .int .i64 (acc[m] : Nat), .string ⟨#[]⟩], u.oneCell' = true := by
              intro u hu
              simp only [List.mem_cons, List.not_mem_nil, or_false] at hu
              rcases hu with rfl | rfl | rfl <;> rfl
            clear hOw hg
            go_wp2_with (at_builtin; refine wpList_append_own_at _ rfl _ _ 49 rfl V.heap.size 77 j0 _ 3 32 Tryz.underlying49 hj0 hy0 hy1 hy2 rfl (by decide) _ _ _ rfl (hrow.alloc _) ⟨wr.heap.size, 0, none⟩ 1 1 [.int .i64 4, .int .i64 (acc[m] : Nat), .string ⟨#[]⟩] rfl rfl hnew hone (by unfold maxLen; omega) (by omega) (by simp; omega) ?_)
            intro v7 w7 ho7 hg7 _ _
            obtain ⟨q7, c7, rfl⟩ := own_shape ho7
            have HD7 := Lib.hid (HD6.out.grown hrow (by decide) (by decide) ((Chg.refl _ _).alloc _) hg7)
            have HC7 := Lib.hid (show Chg (fun k => k = D.bt) V w7 from HC6.out.trans (((Chg.refl (fun k => (Value.slice q6 l'.length c6).ownBlock = some k) wr).alloc _).then (grown_chg hg7 (fun k hk => .inl hk))) (fun k hk => .inr (hrow.lt k hk).1))
            have hll : (l' ++ [⟨4, acc[m], []⟩] : List Syn.Tm).length = l'.length + 1 := by simp
            have HO7 := Lib.hid (show w7.ownsRow V.heap.size 77 3 (.slice q7 (l' ++ [⟨4, acc[m], []⟩] : List Syn.Tm).length c7) (l' ++ [⟨4, acc[m], []⟩] : List Syn.Tm).length (tmCells (l' ++ [⟨4, acc[m], []⟩])) by
              rw [hll, tmCells_app, tmCells_one]; exact ho7)
            clear hg7 ho7 hrow hnew
            go_wp2_with fail
            exact ⟨⟨m, _, q7, c7, by omega, by go_num, by rw [hll], HL2, by rw [hll]; omega, HO7, HC7, HD7⟩, by simp [intOf] <;> omega⟩
    · have hne : (if b3 = true then 17 else if b2 = true then 16 else if b1 = true then 15 else 0 : Nat) ≠ 0 := by cases b1 <;> cases b2 <;> cases b3 <;> simp_all
      have hjl : j < D.ys.length := Syn.opOf_lt (tk_nones D.ys) (by rw [hun]; exact hne)
      obtain ⟨o, ho⟩ : ∃ o, (if b3 = true then 17 else if b2 = true then 16 else if b1 = true then 15 else 0 : Nat) = o := ⟨_, rfl⟩
      have HG2 := Lib.hid (show Syn.unGo (Tk D.ys) f (acc ++ [o]) (j + 1) = RR from by
        rw [← HG.out, Syn.unGo_next (by rw [hun]; exact hne), hun, ho])
      have hwj : IntKind.i64.wrap ((j : Int) + 1) = ((j + 1 : Nat) : Int) := by rw [IntKind.wrap_i64]; omega
      have hrow := HO.out
      have hws := HC.out.size
      have hnew := row_new wr [.int .i64 (o : Nat)] 2
      have hone : ∀ u ∈ [Value.int .i64 (o : Nat)], u.oneCell' = true := by intro u hu; rw [List.mem_singleton.1 hu]; rfl
      clear hun HG hne
      cases b1 <;> cases b2 <;> cases b3
      case false.false.false => exact absurd ⟨rfl, rfl, rfl⟩ hany
      all_goals
        simp only [if_true, Bool.false_eq_true, if_false] at ho
        clear hany
        subst ho
        go_wp2_with (first | (go_at_call 37; refine (HIS.out _).mono ?_; rintro e w' ⟨rfl, rfl⟩) | (at_builtin; refine wpList_append_own_at _ rfl _ _ 159 rfl w.heap.size 2 k0 _ 1 8 Tryz.underlying159 hk0 hx0 hx1 hx2 rfl (by decide) _ _ _ rfl (hrow.alloc _) ⟨wr.heap.size, 0, none⟩ 1 1 [.int .i64 (_ : Nat)] rfl rfl hnew hone (by unfold maxLen; omega) (by omega) (by simp; omega) ?_))
        intro v2 w2 ho2 hg2 _ _
        obtain ⟨q2, c2, rfl⟩ := own_shape ho2
        have HD2 := Lib.hid (HD.out.grown hrow (by decide) (by decide) ((Chg.refl _ _).alloc _) hg2)
        have HC2 := Lib.hid (show Chg (fun _ => False) w w2 from HC.out.trans (((Chg.refl (fun k => (Value.slice q acc.length c).ownBlock = some k) wr).alloc _).then (grown_chg hg2 (fun k hk => .inl hk))) (fun k hk => .inr (hrow.lt k hk).1))
        clear hg2 hrow hnew
        go_wp2_with fail
        refine ⟨⟨f, j + 1, _, q2, c2, by go_num, ?_, hjl, by omega, ?_, ?_, HC2, HD2, HG2⟩, by simp [intOf]; omega⟩
        · simp
        · simp; omega
        · refine Lib.hid ?_
          have hll : ∀ o : Nat, (acc ++ [o]).length = acc.length + 1 := fun o => by simp
          rw [hll]
          unfold nmC
          rw [List.map_append]
          exact ho2
end
end Go.Proofs.YtnmcjkabihihiaaGreatDoor
