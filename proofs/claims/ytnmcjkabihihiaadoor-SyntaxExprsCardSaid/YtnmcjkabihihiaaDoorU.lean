/- The parser's state in memory: its words and where it stands. -/
import Derived.Test.YtnmcjkabihihiaaDoorZ
import Derived.Test.YtnmcjkabihihiaaDoorMem
import Derived.Test.YtnmcjkabihihiaaDoorSynE
import Derived.WalkLawsBesides
namespace Go.Proofs.YtnmcjkabihihiaaDoor
open Go Go.RowKit Go.Proofs.Mm

/-- A row of bytes as a string. -/
def sb (l : List Nat) : ByteArray := ⟨(l.map UInt8.ofNat).toArray⟩
theorem sb_bl (t : ByteArray) : sb (bl t) = t := by
  unfold sb bl
  rw [List.map_map]
  have : (UInt8.ofNat ∘ UInt8.toNat) = id := by funext x; simp
  rw [this, List.map_id]
theorem eq_text (t s : ByteArray) : (t.toList == s.toList) = (bl t == bl s) := by
  rw [Bool.eq_iff_iff, beq_iff_eq, beq_iff_eq, Lib.toList_data, Lib.toList_data]
  constructor
  · intro h; unfold bl; rw [h]
  · intro h; rw [bl_inj h]

/-- The words of a text as the grammar sees them; the word at a place, and behind them all one of no kind. -/
def keyOf (x : It) : Syn.K := ⟨x.k, bl x.t, x.v⟩
def Tk (ys : List It) (i : Nat) : Option Syn.K := (ys[i]?).map keyOf
def tk (ys : List It) (len i : Nat) : It := ys.getD i ⟨0, ⟨#[]⟩, 0, len, 0⟩
/-- Words as package lex tells them. -/
def Ws (ys : List It) : Prop := (∀ x ∈ ys, Good x.k (bl x.t) x.v) ∧ ys.length ≤ 65536
theorem Tk_none {ys : List It} {i : Nat} (h : ys.length ≤ i) : Tk ys i = none := by unfold Tk; rw [List.getElem?_eq_none h]; rfl
theorem Tk_some {ys : List It} {len i : Nat} (h : i < ys.length) : Tk ys i = some (keyOf (tk ys len i)) := by
  unfold Tk tk; rw [List.getElem?_eq_getElem h, List.getD_eq_getElem?_getD, List.getElem?_eq_getElem h]; rfl
theorem tk_end (ys : List It) (len : Nat) {i : Nat} (h : ys.length ≤ i) : tk ys len i = ⟨0, ⟨#[]⟩, 0, len, 0⟩ := by
  unfold tk; rw [List.getD_eq_getElem?_getD, List.getElem?_eq_none h]; rfl
theorem tk_good {ys : List It} (hw : Ws ys) (len : Nat) {i : Nat} (h : i < ys.length) : Good (tk ys len i).k (bl (tk ys len i).t) (tk ys len i).v := by
  refine hw.1 _ ?_
  unfold tk; rw [List.getD_eq_getElem?_getD, List.getElem?_eq_getElem h]; exact List.getElem_mem h
/-- A text that only a keyword or a mark has. -/
def Mk (s : List Nat) : Bool := s != [] && (wordL s).1 == s.length && ((wordL s).2 == 2 || (wordL s).2 == 4)
theorem is_text {ys : List It} (hw : Ws ys) (len i : Nat) {s : List Nat} (hs : Mk s = true) : (bl (tk ys len i).t == s) = Syn.is (Tk ys) i s := by
  unfold Mk at hs
  simp only [Bool.and_eq_true, bne_iff_ne, beq_iff_eq, Bool.or_eq_true] at hs
  by_cases h : i < ys.length
  · have hg := tk_good hw len h
    unfold Syn.is
    rw [Tk_some (len := len) h]
    simp only [keyOf]
    by_cases he : bl (tk ys len i).t = s
    · have hk := hg.word
      rw [he] at hk
      rw [hk] at hs
      rw [he]
      rcases hs.2 with e | e <;> simp only at e <;> simp [e]
    · simp [he]
  · rw [tk_end ys len (by omega)]
    unfold Syn.is
    rw [Tk_none (by omega)]
    rw [beq_eq_false_iff_ne]
    intro e
    exact hs.1.1 e.symm
theorem named_kind (ys : List It) (len i : Nat) : (((tk ys len i).k : Int) == 1) = Syn.named (Tk ys) i := by
  by_cases h : i < ys.length
  · unfold Syn.named; rw [Tk_some (len := len) h]; simp only [keyOf]; rw [Bool.eq_iff_iff, beq_iff_eq, beq_iff_eq]; omega
  · rw [tk_end ys len (by omega)]; unfold Syn.named; rw [Tk_none (by omega)]; rfl

/-- The parser at bp stands at word i of the words that lie at bw; vp: its principals. -/
structure PS (ys : List It) (len bp bw : Nat) (vp : Value) (w : World) (i : Nat) : Prop where
  st : ∃ c, w.heap[bp]? = some (.cells #[.slice (some ⟨bw, 4 * i, none⟩) (ys.length + 1 - i) c, vp] 56 (0, 0)) ∧ ys.length + 1 - i ≤ c ∧ c ≤ maxLen
  toks : ∃ arr, w.heap[bw]? = some (.cells arr 54 (0, 0)) ∧ ∀ j, j ≤ ys.length → arr[4 * j]? = some (.int .i64 ((tk ys len j).k : Nat)) ∧ arr[4 * j + 1]? = some (.string (tk ys len j).t) ∧ arr[4 * j + 2]? = some (.int .i64 ((tk ys len j).v : Nat)) ∧ arr[4 * j + 3]? = some (.int .i64 ((tk ys len j).a : Nat))
  le : i ≤ ys.length
  few : ys.length ≤ 65536

theorem cell_of {w : World} {b j : Nat} {arr : Array Value} {T : TypeId} {v : Value} (h : w.heap[b]? = some (.cells arr T (0, 0))) (hv : arr[j]? = some v) : w.cell? ⟨b, j, none⟩ = some v := by
  rw [cell_of_row w b j arr T (0, 0) h]; exact hv
theorem free_of {w : World} {b j : Nat} {arr : Array Value} {T : TypeId} (h : w.heap[b]? = some (.cells arr T (0, 0))) : w.frozen? ⟨b, j, none⟩ = false := by
  simp [World.frozen?, h]
theorem heap_set {w : World} {b : Nat} {arr : Array Value} {T : TypeId} (h : w.heap[b]? = some (.cells arr T (0, 0))) (j : Nat) (v : Value) : (w.setCell ⟨b, j, none⟩ v).heap[b]? = some (.cells (arr.setIfInBounds j v) T (0, 0)) := by
  have hlt := (Array.getElem?_eq_some_iff.1 h).1
  simp only [World.setCell, Array.getElem?_modify, h, Option.map_some, if_true]
  rfl
theorem heap_new (w : World) (o : Obj) {k : Nat} {x : Obj} (h : w.heap[k]? = some x) : (w.alloc o).heap[k]? = some x := by
  rw [Below.heap_alloc _ _ _ (heap_lt h)]; exact h
theorem heap_other {w : World} {b j k : Nat} {v : Value} {x : Obj} (h : w.heap[k]? = some x) (hn : k ≠ b) : (w.setCell ⟨b, j, none⟩ v).heap[k]? = some x := by
  rw [Below.heap_setCell _ _ _ _ hn]; exact h

theorem PS.ne {ys : List It} {len bp bw i : Nat} {vp : Value} {w : World} (h : PS ys len bp bw vp w i) : bw ≠ bp := by
  obtain ⟨c, h1, _⟩ := h.st
  obtain ⟨arr, h2, _⟩ := h.toks
  rintro rfl
  have := h1.symm.trans h2
  simp at this
/-- What the walk wants of the state. -/
theorem PS.raw {ys : List It} {len bp bw i : Nat} {vp : Value} {w : World} (h : PS ys len bp bw vp w i) :
    ∃ c, w.cell? ⟨bp, 0, none⟩ = some (.slice (some ⟨bw, 4 * i, none⟩) (ys.length + 1 - i) c) ∧ w.frozen? ⟨bp, 0, none⟩ = false ∧ ys.length + 1 - i ≤ c ∧ c ≤ 9223372036854775807 ∧
      w.cell? ⟨bw, 4 * i, none⟩ = some (.int .i64 ((tk ys len i).k : Nat)) ∧ w.cell? ⟨bw, 4 * i + 1, none⟩ = some (.string (tk ys len i).t) ∧ w.cell? ⟨bw, 4 * i + 2, none⟩ = some (.int .i64 ((tk ys len i).v : Nat)) ∧ w.cell? ⟨bw, 4 * i + 3, none⟩ = some (.int .i64 ((tk ys len i).a : Nat)) := by
  obtain ⟨c, h1, h2, h3⟩ := h.st
  obtain ⟨arr, h4, h5⟩ := h.toks
  obtain ⟨a0, a1, a2, a3⟩ := h5 i h.le
  exact ⟨c, cell_of h1 rfl, free_of h1, h2, by simpa [maxLen] using h3, cell_of h4 a0, cell_of h4 a1, cell_of h4 a2, cell_of h4 a3⟩
theorem PS.chg {ys : List It} {len bp bw i : Nat} {vp : Value} {w w' : World} (h : PS ys len bp bw vp w i) {S : Nat → Prop} (hc : Chg S w w') (h1 : ¬ S bp) (h2 : ¬ S bw) : PS ys len bp bw vp w' i := by
  obtain ⟨⟨c, a1, a2⟩, ⟨arr, b1, b2⟩, h3, h4⟩ := h
  exact ⟨⟨c, hc.heap a1 h1, a2⟩, ⟨arr, hc.heap b1 h2, b2⟩, h3, h4⟩
theorem PS.lt {ys : List It} {len bp bw i : Nat} {vp : Value} {w : World} (h : PS ys len bp bw vp w i) : bp < w.heap.size ∧ bw < w.heap.size := by
  obtain ⟨⟨c, a1, a2⟩, ⟨arr, b1, b2⟩, h3, h4⟩ := h
  exact ⟨heap_lt a1, heap_lt b1⟩

/-- What the parser throws. -/
def gv (er a : Int) : List PanicEntry := [{ v := .iface 52 (.agg #[.int .i64 er, .int .i64 (-1), .int .i64 a]), recovered := false }]
/-- How a reader ends: with what it reads, or it gives up at a word. -/
def Ret {α : Type} (ys : List It) (len : Nat) (S : Nat → Prop) (w : World) (r : Syn.R α) (ok : α → Nat → Ending → World → Prop) (e : Ending) (w' : World) : Prop :=
  Chg S w w' ∧ match r with
  | .error (er, k) => e = .panicked (gv er ((tk ys len k).a : Nat))
  | .ok (x, j) => ok x j e w'
theorem Ret.err {α : Type} {ys : List It} {len : Nat} {S : Nat → Prop} {w : World} {er k : Nat} {ok : α → Nat → Ending → World → Prop} {e : Ending} {w' : World} (h : Ret ys len S w (.error (er, k) : Syn.R α) ok e w') : Chg S w w' ∧ e = .panicked (gv er ((tk ys len k).a : Nat)) := h
theorem Ret.ok {α : Type} {ys : List It} {len : Nat} {S : Nat → Prop} {w : World} {x : α} {j : Nat} {ok : α → Nat → Ending → World → Prop} {e : Ending} {w' : World} (h : Ret ys len S w (.ok (x, j) : Syn.R α) ok e w') : Chg S w w' ∧ ok x j e w' := h

/-! ## The smallest -/
section
variable {ys : List It} {len bp bw i : Nat} {vp : Value} {w : World}

theorem is_ps (h : PS ys len bp bw vp w i) (s : ByteArray) : Calls Tryd.prog 49 #[.pointer (some ⟨bp, 0, none⟩), .string s] w fun e w' => e = .returned (.bool ((tk ys len i).t.toList == s.toList)) ∧ w = w' := by
  obtain ⟨c, h0, hf, hc, hc2, h1, h2, h3, h4⟩ := h.raw
  have hle := h.le
  have hm : 0 < ys.length + 1 - i := by omega
  clear h hf hc hc2 h1 h3 h4
  generalize ys.length + 1 - i = m at *
  generalize 4 * i = o at *
  go_enter Tryd.func49, Tryd.ntmps49
  go_wp2
  go_ret
  exact ⟨rfl, rfl⟩
theorem isKind_ps (h : PS ys len bp bw vp w i) (s : Int) : Calls Tryd.prog 48 #[.pointer (some ⟨bp, 0, none⟩), .int .i64 s] w fun e w' => e = .returned (.bool (((tk ys len i).k : Int) == s)) ∧ w = w' := by
  obtain ⟨c, h0, hf, hc, hc2, h1, h2, h3, h4⟩ := h.raw
  have hle := h.le
  have hm : 0 < ys.length + 1 - i := by omega
  clear h hf hc hc2 h2 h3 h4
  generalize ys.length + 1 - i = m at *
  generalize 4 * i = o at *
  go_enter Tryd.func48, Tryd.ntmps48
  go_wp2
  go_ret
  exact ⟨rfl, rfl⟩
theorem ps_next (h : PS ys len bp bw vp w i) (hi : i < ys.length) {w' : World} (hc : Chg (fun k => k = bp) w w')
    (h0 : ∃ c, w'.heap[bp]? = some (.cells #[.slice (some ⟨bw, 4 * i + 4, none⟩) (ys.length + 1 - i - 1) c, vp] 56 (0, 0)) ∧ ys.length + 1 - i - 1 ≤ c ∧ c ≤ maxLen) : PS ys len bp bw vp w' (i + 1) := by
  obtain ⟨c, h0, h1, h2⟩ := h0
  obtain ⟨arr, h4, h5⟩ := h.toks
  refine ⟨⟨c, ?_, by omega, h2⟩, ⟨arr, hc.heap h4 h.ne, h5⟩, hi, h.few⟩
  rw [h0, show 4 * (i + 1) = 4 * i + 4 by omega, show ys.length + 1 - (i + 1) = ys.length + 1 - i - 1 by omega]
theorem take_ps (h : PS ys len bp bw vp w i) (hi : i < ys.length) : Calls Tryd.prog 36 #[.pointer (some ⟨bp, 0, none⟩)] w fun e w' => e = .returned (.agg #[.int .i64 ((tk ys len i).k : Nat), .string (tk ys len i).t, .int .i64 ((tk ys len i).v : Nat), .int .i64 ((tk ys len i).a : Nat)]) ∧ Chg (fun k => k = bp) w w' ∧ PS ys len bp bw vp w' (i + 1) := by
  obtain ⟨c, h0, hf, hc, hc2, h1, h2, h3, h4⟩ := h.raw
  obtain ⟨hlt, hlb⟩ := h.lt
  have hfew := h.few
  obtain ⟨c', g0, g1, g2⟩ := h.st
  have hcc : c' = c := by
    have := (cell_of g0 (j := 0) rfl).symm.trans h0
    simpa using this
  subst hcc
  have HP := Lib.hid (fun w' hc h0 => ps_next (w' := w') h hi hc h0)
  have HG := Lib.hid g0
  have hm : 2 ≤ ys.length + 1 - i := by omega
  clear h g0 g1
  have hm2 : ys.length + 1 - i ≤ 100000 := by omega
  generalize ys.length + 1 - i = m at *
  generalize 4 * i = o at *
  have hm1 : 0 < m := by omega
  have hm3 : 1 ≤ m := by omega
  have hm4 : 1 ≤ c' := by omega
  have hm5 : ¬ c' = 1 := by omega
  go_enter Tryd.func36, Tryd.ntmps36
  go_wp2
  refine bodyPost_ret (v := .agg #[.int .i64 ((tk ys len i).k : Nat), .string (tk ys len i).t, .int .i64 ((tk ys len i).v : Nat), .int .i64 ((tk ys len i).a : Nat)]) (by simp [results, Tryd.results36, go_sem]) rfl ?_
  have hC := (((Chg.refl (fun k => k = bp) w).setCell (p := ⟨bp, 0, none⟩) (.inl rfl) (.slice (some ⟨bw, o + 4, none⟩) (m - 1) (c' - 1))).alloc (.cells #[.int .i64 ((tk ys len i).k : Nat), .string (tk ys len i).t, .int .i64 ((tk ys len i).v : Nat), .int .i64 ((tk ys len i).a : Nat)] 54)).alloc (.cells #[.int .i64 ((tk ys len i).k : Nat), .string (tk ys len i).t, .int .i64 ((tk ys len i).v : Nat), .int .i64 ((tk ys len i).a : Nat)] 54)
  refine ⟨rfl, hC, HP.out _ hC ⟨c' - 1, heap_new _ _ (heap_new _ _ (heap_set HG.out 0 _)), by omega, by omega⟩⟩
theorem faultAt_any (a er : Int) (w : World) :
    Calls Tryd.prog 14 #[.int .i64 a, .int .i64 er] w fun e w' => e = .returned (.agg #[.int .i64 er, .int .i64 (-1), .int .i64 a]) ∧ w' = w.alloc (.cells #[.int .i64 er, .int .i64 (-1), .int .i64 a] 25) := by
  go_enter Tryd.func14, Tryd.ntmps14
  go_wp2
  exact bodyPost_ret (v := .agg #[.int .i64 er, .int .i64 (-1), .int .i64 a]) (by simp [results, Tryd.results14, go_sem]) rfl ⟨rfl, rfl⟩
theorem fail_ps (h : PS ys len bp bw vp w i) (er : Int) (S : Nat → Prop) : Calls Tryd.prog 23 #[.pointer (some ⟨bp, 0, none⟩), .int .i64 er] w fun e w' => e = .panicked (gv er ((tk ys len i).a : Nat)) ∧ Chg S w w' := by
  obtain ⟨c, h0, hf, hc, hc2, h1, h2, h3, h4⟩ := h.raw
  have hle := h.le
  have hm : 0 < ys.length + 1 - i := by omega
  clear h hf hc hc2 h1 h2 h3
  generalize ys.length + 1 - i = m at *
  generalize 4 * i = o at *
  generalize (((tk ys len i).a : Nat) : Int) = a at *
  go_enter Tryd.func23, Tryd.ntmps23
  go_wp2_with (go_at_call 14; refine (faultAt_any _ _ _).mono ?_; rintro e w' ⟨rfl, rfl⟩)
  exact ⟨rfl, rfl, (Chg.refl S w).alloc _⟩

theorem skip_yes (h : PS ys len bp bw vp w i) (hi : i < ys.length) (s : ByteArray) (ht : ((tk ys len i).t.toList == s.toList) = true) :
    Calls Tryd.prog 71 #[.pointer (some ⟨bp, 0, none⟩), .string s] w fun e w' => e = .returned (.bool true) ∧ Chg (fun k => k = bp) w w' ∧ PS ys len bp bw vp w' (i + 1) := by
  have h1 := is_ps h s
  rw [ht] at h1
  clear ht
  go_enter Tryd.func71, Tryd.ntmps71
  go_wp2_with (go_at_call 49; refine h1.mono ?_; rintro e w' ⟨rfl, rfl⟩)
  go_at_call 36
  refine (take_ps h hi).mono ?_
  rintro e w' ⟨rfl, hc, hp⟩
  go_wp2
  go_ret
  exact ⟨rfl, hc, hp⟩
theorem skip_no (h : PS ys len bp bw vp w i) (s : ByteArray) (ht : ((tk ys len i).t.toList == s.toList) = false) :
    Calls Tryd.prog 71 #[.pointer (some ⟨bp, 0, none⟩), .string s] w fun e w' => e = .returned (.bool false) ∧ w = w' := by
  have h1 := is_ps h s
  rw [ht] at h1
  clear ht
  go_enter Tryd.func71, Tryd.ntmps71
  go_wp2_with (go_at_call 49; refine h1.mono ?_; rintro e w' ⟨rfl, rfl⟩)
  go_ret
  exact ⟨rfl, rfl⟩
theorem want_yes (h : PS ys len bp bw vp w i) (hi : i < ys.length) (s : ByteArray) (ht : ((tk ys len i).t.toList == s.toList) = true) :
    Calls Tryd.prog 66 #[.pointer (some ⟨bp, 0, none⟩), .string s] w fun e w' => e = .returned (.tuple #[]) ∧ Chg (fun k => k = bp) w w' ∧ PS ys len bp bw vp w' (i + 1) := by
  have h1 := skip_yes h hi s ht
  clear ht
  go_enter Tryd.func66, Tryd.ntmps66
  go_wp2_with (go_at_call 71; refine h1.mono ?_; rintro e w' ⟨rfl, hc, hp⟩)
  go_end0
  exact ⟨rfl, hc, hp⟩
theorem want_no (h : PS ys len bp bw vp w i) (s : ByteArray) (ht : ((tk ys len i).t.toList == s.toList) = false) (S : Nat → Prop) :
    Calls Tryd.prog 66 #[.pointer (some ⟨bp, 0, none⟩), .string s] w fun e w' => e = .panicked (gv 50 ((tk ys len i).a : Nat)) ∧ Chg S w w' := by
  have h1 := skip_no h s ht
  clear ht
  go_enter Tryd.func66, Tryd.ntmps66
  go_wp2_with (go_at_call 71; refine h1.mono ?_; rintro e w' ⟨rfl, rfl⟩)
  go_at_call 23
  refine (fail_ps h 50 S).mono ?_
  rintro e w' ⟨rfl, hc⟩
  go_wp2
  exact ⟨rfl, rfl, hc⟩
theorem PS.alloc (h : PS ys len bp bw vp w i) (o : Obj) : PS ys len bp bw vp (w.alloc o) i := h.chg (S := fun _ => False) ((Chg.refl _ _).alloc o) id id
theorem chg_set4 {S : Nat → Prop} {a w : World} (h : Chg S a w) {g : Nat} (hg : S g ∨ a.heap.size ≤ g) (x0 x1 x2 x3 : Value) :
    Chg S a ((((w.setCell ⟨g, 0, none⟩ x0).setCell ⟨g, 1, none⟩ x1).setCell ⟨g, 2, none⟩ x2).setCell ⟨g, 3, none⟩ x3) :=
  (((h.setCell (p := ⟨g, 0, none⟩) hg _).setCell (p := ⟨g, 1, none⟩) hg _).setCell (p := ⟨g, 2, none⟩) hg _).setCell (p := ⟨g, 3, none⟩) hg _
theorem wantKind_yes (h : PS ys len bp bw vp w i) (hi : i < ys.length) (k : Int) (ht : (((tk ys len i).k : Int) == k) = true) :
    Calls Tryd.prog 67 #[.pointer (some ⟨bp, 0, none⟩), .int .i64 k] w fun e w' => e = .returned (.agg #[.int .i64 ((tk ys len i).k : Nat), .string (tk ys len i).t, .int .i64 ((tk ys len i).v : Nat), .int .i64 ((tk ys len i).a : Nat)]) ∧ Chg (fun k => k = bp) w w' ∧ PS ys len bp bw vp w' (i + 1) := by
  obtain ⟨hlt, hlb⟩ := h.lt
  have h' := h.alloc (.cells #[.int .i64 0, .string ⟨#[]⟩, .int .i64 0, .int .i64 0] 54)
  have h1 := isKind_ps h' k
  rw [ht] at h1
  clear ht
  go_enter Tryd.func67, Tryd.ntmps67
  go_wp2_with (go_at_call 48; refine h1.mono ?_; rintro e w' ⟨rfl, rfl⟩)
  go_at_call 36
  refine (take_ps h' hi).mono ?_
  rintro e w' ⟨rfl, hc, hp⟩
  have hT : TokB w' w.heap.size 0 ⟨#[]⟩ 0 0 := hc.heap (World.alloc_heap_new w _) (by omega)
  obtain ⟨k0, k1, k2, k3, f0, f1, f2, f3⟩ := hT.at_
  have hn : w.heap.size ≠ bp := by omega
  have hC : Chg (fun k => k = bp) w w' := ((Chg.refl _ w).alloc _).then (hc.mono (by intro i q; exact .inl q))
  have HC := Lib.hid hC
  have HP := Lib.hid hp
  clear hc hp hC h1 h'
  go_wp2
  exact bodyPost_ret (v := .agg #[.int .i64 ((tk ys len i).k : Nat), .string (tk ys len i).t, .int .i64 ((tk ys len i).v : Nat), .int .i64 ((tk ys len i).a : Nat)]) (by simp [results, Tryd.results67, go_sem, k0, k1, k2, k3]) rfl ⟨rfl, chg_set4 HC.out (.inr (Nat.le_refl _)) _ _ _ _, HP.out.chg (chg_set4 (Chg.refl (fun k => k = w.heap.size) _) (.inl rfl) _ _ _ _) (by omega) (by omega)⟩
theorem wantKind_no (h : PS ys len bp bw vp w i) (k : Int) (ht : (((tk ys len i).k : Int) == k) = false) (S : Nat → Prop) :
    Calls Tryd.prog 67 #[.pointer (some ⟨bp, 0, none⟩), .int .i64 k] w fun e w' => e = .panicked (gv 50 ((tk ys len i).a : Nat)) ∧ Chg S w w' := by
  have h' := h.alloc (.cells #[.int .i64 0, .string ⟨#[]⟩, .int .i64 0, .int .i64 0] 54)
  have h1 := isKind_ps h' k
  rw [ht] at h1
  clear ht
  go_enter Tryd.func67, Tryd.ntmps67
  go_wp2_with (go_at_call 48; refine h1.mono ?_; rintro e w' ⟨rfl, rfl⟩)
  go_at_call 23
  refine (fail_ps h' 50 S).mono ?_
  rintro e w' ⟨rfl, hc⟩
  go_wp2
  exact ⟨rfl, rfl, ((Chg.refl S w).alloc _).then (hc.mono (fun i q => .inl q))⟩
theorem tok_text (k v a : Int) (t : ByteArray) (w : World) : (Instr.field 54 (.agg #[.int .i64 k, .string t, .int .i64 v, .int .i64 a]) 1).run Tryd.prog w = .ok (.string t) w := by kernel_rfl
theorem tok_value (k v a : Int) (t : ByteArray) (w : World) : (Instr.field 54 (.agg #[.int .i64 k, .string t, .int .i64 v, .int .i64 a]) 2).run Tryd.prog w = .ok (.int .i64 v) w := by kernel_rfl
attribute [local go_sem] tok_text tok_value
set_option maxRecDepth 100000 in
/-- A name is read, or it gives up. -/
theorem name_ps (h : PS ys len bp bw vp w i) :
    Calls Tryd.prog 51 #[.pointer (some ⟨bp, 0, none⟩)] w (Ret ys len (fun k => k = bp) w (Syn.name (Tk ys) i) fun x j e w' => e = .returned (.string (sb x)) ∧ PS ys len bp bw vp w' j) := by
  by_cases hn : Syn.named (Tk ys) i = true
  · have hi : i < ys.length := by
      rcases Nat.lt_or_ge i ys.length with q | q
      · exact q
      · rw [Syn.named, Tk_none q] at hn; cases hn
    have hr : Syn.name (Tk ys) i = .ok (bl (tk ys len i).t, i + 1) := by
      rw [Syn.named, Tk_some (len := len) hi] at hn
      unfold Syn.name
      rw [Tk_some (len := len) hi]
      exact if_pos (by simpa using hn)
    rw [hr]
    have h1 := wantKind_yes h hi 1 (by rw [named_kind]; exact hn)
    clear hr hn
    go_enter Tryd.func51, Tryd.ntmps51
    go_wp2_with (go_at_call 67; refine h1.mono ?_; rintro e w' ⟨rfl, hc, hp⟩)
    go_ret
    exact ⟨hc, by rw [sb_bl]; rfl, hp⟩
  · have hr : Syn.name (Tk ys) i = .error (50, i) := by
      unfold Syn.named at hn
      unfold Syn.name
      split
      · rename_i k hk
        rw [hk] at hn
        simp only [beq_iff_eq] at hn
        rw [if_neg hn]
      · rfl
    rw [hr]
    have h1 := wantKind_no h 1 (by rw [named_kind]; simpa using hn) (fun k => k = bp)
    clear hr hn
    go_enter Tryd.func51, Tryd.ntmps51
    go_wp2_with (go_at_call 67; refine h1.mono ?_; rintro e w' ⟨rfl, hc⟩)
    exact ⟨rfl, hc, rfl⟩
end
end Go.Proofs.YtnmcjkabihihiaaDoor
