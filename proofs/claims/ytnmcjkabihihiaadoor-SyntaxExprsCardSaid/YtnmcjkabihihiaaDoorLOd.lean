/- What a text is read as, an expression alone, plain; wantEnd; the deferred closure of read. -/
import Derived.Test.YtnmcjkabihihiaaDoorEI
import Derived.Test.YtnmcjkabihihiaaDoorLAd
import Derived.Defers
import Derived.Recover
import Derived.Maps.AppendAt
namespace Go.Proofs.YtnmcjkabihihiaaDoor
open Go Go.RowKit Go.Proofs.Mm

/-! ## A text's words -/
def itsOf (s : ByteArray) : List It := (allItems s).map fun x => ⟨x.1.kind, sb x.1.text, x.1.value, x.1.at_, x.2⟩
theorem its_of {s : ByteArray} {ys : List It} (h : ys.map It.key = allItems s) : itsOf s = ys := by
  unfold itsOf
  rw [← h, List.map_map]
  conv => rhs; rw [← List.map_id ys]
  congr 1
  funext x
  simp only [Function.comp, It.key, sb_bl, id]
theorem its_key {s : ByteArray} (h : ∀ x ∈ allItems s, bl (sb x.1.text) = x.1.text) : (itsOf s).map It.key = allItems s := by
  unfold itsOf
  rw [List.map_map]
  conv => rhs; rw [← List.map_id (allItems s)]
  refine List.map_congr_left fun x hx => ?_
  simp only [Function.comp, It.key, id, h x hx]
/-- The first fault of a text's words. -/
def faultOf (s : ByteArray) : Option (Nat × Nat) := ((itsOf s).find? fun x => x.e != 0).map fun x => (x.e, x.a)
/-- What a text is read as, by a reader of words. -/
def readOf {α : Type} (r : (Nat → Option Syn.K) → Nat → Syn.R α) (s : ByteArray) : Except (Nat × Nat) α :=
  match faultOf s with
  | some q => .error q
  | none => match r (Tk (itsOf s)) ((itsOf s).length + 1) with
    | .error (er, k) => .error (er, (tk (itsOf s) s.size k).a)
    | .ok (x, _) => .ok x
def expOf (s : ByteArray) : Except (Nat × Nat) (List Syn.Tm) := readOf Syn.whole1 s
theorem faultOf_none {s : ByteArray} {ys : List It} (h : ys.map It.key = allItems s) (h0 : ∀ x ∈ ys, x.e = 0) : faultOf s = none := by
  unfold faultOf
  rw [its_of h, List.find?_eq_none.2 (fun x hx => by simp [h0 x hx])]
  rfl
/-- The error stands at the end of what a text's words are told as. -/
theorem items_err_last (ts : List Tok) (e : Option (Tok × Nat)) (l : List (Tok × Nat)) (x : Tok × Nat) (h : (l ++ [x]) <+: ts.map (fun t => (t, 0)) ++ e.toList) (hx : x.2 ≠ 0) : e = some x ∧ l = ts.map (fun t => (t, 0)) := by
  obtain ⟨r, hr⟩ := h
  rcases List.append_eq_append_iff.1 hr with ⟨a, h1, h2⟩ | ⟨a, h1, h2⟩
  · -- all of l ++ [x] stands among the words
    have : x ∈ ts.map (fun t => (t, 0)) := by rw [h1]; simp
    obtain ⟨t, _, ht⟩ := List.mem_map.1 this
    exact (hx (by rw [← ht])).elim
  · cases e with
    | none =>
      have ha : a = [] := by
        have := congrArg List.length h2; simp at this; exact List.eq_nil_of_length_eq_zero (by omega)
      rw [ha, List.append_nil] at h1
      have : x ∈ ts.map (fun t => (t, 0)) := by rw [← h1]; simp
      obtain ⟨t, _, ht⟩ := List.mem_map.1 this
      exact (hx (by rw [← ht])).elim
    | some y =>
      cases a with
      | nil =>
        rw [List.append_nil] at h1
        have : x ∈ ts.map (fun t => (t, 0)) := by rw [← h1]; simp
        obtain ⟨t, _, ht⟩ := List.mem_map.1 this
        exact (hx (by rw [← ht])).elim
      | cons b a =>
        simp only [Option.toList, List.cons_append, List.cons.injEq] at h2
        obtain ⟨h2, h3⟩ := h2
        have ha : a = [] := by
          have := congrArg List.length h3; simp at this; exact List.eq_nil_of_length_eq_zero (by omega)
        subst ha
        subst h2
        obtain ⟨h4, h5⟩ := List.append_inj' h1 rfl
        injection h5 with h5
        exact ⟨by rw [h5], h4⟩
theorem faultOf_some {s : ByteArray} {pr : List It} {x : It} (h : (pr ++ [x]).map It.key <+: allItems s) (hx : x.e ≠ 0) : faultOf s = some (x.e, x.a) := by
  have hlast : ∃ (ts : List Tok) (e : Option (Tok × Nat)), allItems s = ts.map (fun t => (t, 0)) ++ e.toList := by
    unfold allItems itemsOf
    split
    · exact ⟨[], some _, rfl⟩
    · split
      · exact ⟨_, none, rfl⟩
      · exact ⟨_, some _, rfl⟩
  obtain ⟨ts, e, he⟩ := hlast
  rw [he, List.map_append, List.map_singleton] at h
  obtain ⟨h1, _⟩ := items_err_last ts e _ _ h hx
  unfold faultOf itsOf
  rw [he, h1, List.map_append, List.map_map, List.find?_append, List.find?_eq_none.2 (by
    intro y hy
    obtain ⟨t, _, ht⟩ := List.mem_map.1 hy
    rw [← ht]; simp)]
  simp only [Option.toList, List.map_singleton, Option.none_or, List.find?_cons, It.key]
  rw [show (x.e != 0) = true from by simpa using hx]
  rfl
theorem all_short {s : ByteArray} {ys : List It} (h : ys.map It.key = allItems s) (h0 : ∀ x ∈ ys, x.e = 0) : s.size ≤ 65536 ∧ allItems s = itemsOf (scanL (bl s) 0) ∧ (scanL (bl s) 0).2.2 = 0 := by
  have hs : s.size ≤ 65536 := by
    rcases Nat.lt_or_ge 65536 s.size with q | q
    · rw [allItems, if_pos q] at h
      cases ys with
      | nil => cases h
      | cons x l =>
        simp only [List.map_cons, List.cons.injEq] at h
        have := h0 x (List.mem_cons_self ..)
        have h2 := congrArg Prod.snd h.1
        simp only [It.key] at h2
        omega
    · exact q
  have ha : allItems s = itemsOf (scanL (bl s) 0) := by rw [allItems, if_neg (by omega)]
  refine ⟨hs, ha, ?_⟩
  rcases Nat.eq_zero_or_pos (scanL (bl s) 0).2.2 with q | q
  · exact q
  · rw [ha] at h
    unfold itemsOf at h
    rw [if_neg (by omega)] at h
    have hm : ((⟨0, [], 0, (scanL (bl s) 0).2.1⟩ : Tok), (scanL (bl s) 0).2.2) ∈ ys.map It.key := by rw [h]; simp
    obtain ⟨y, hy, e⟩ := List.mem_map.1 hm
    have := h0 y hy
    have h2 := congrArg Prod.snd e
    simp only [It.key] at h2
    omega
/-- Words as package lex tells them are as the parser wants them. -/
theorem ws_of {s : ByteArray} {ys : List It} (h : ys.map It.key = allItems s) (h0 : ∀ x ∈ ys, x.e = 0) : Ws ys := by
  obtain ⟨hs, ha, hz⟩ := all_short h h0
  have hm : ys.map It.key = (scanL (bl s) 0).1.map fun t => (t, 0) := by rw [h, ha]; unfold itemsOf; rw [if_pos hz, List.append_nil]
  refine ⟨fun x hx => ?_, ?_⟩
  · have : x.key ∈ ys.map It.key := List.mem_map_of_mem hx
    rw [hm] at this
    obtain ⟨t, ht, e⟩ := List.mem_map.1 this
    have hg := scanL_all _ (bl s) (Nat.le_refl _) 0 t ht
    have h1 := congrArg Prod.fst e
    simp only [It.key] at h1
    rw [h1] at hg
    exact hg
  · have := congrArg List.length hm
    rw [List.length_map, List.length_map] at this
    have h2 := scan_count _ (bl s) (Nat.le_refl _) 0
    rw [bl_length] at h2
    omega

theorem chg_two {S : Nat → Prop} {a w : World} (h : Chg S a w) {g : Nat} (hg : S g ∨ a.heap.size ≤ g) (x0 x1 : Value) : Chg S a ((w.setCell ⟨g, 0, none⟩ x0).setCell ⟨g, 1, none⟩ x1) :=
  (h.setCell (p := ⟨g, 0, none⟩) hg _).setCell (p := ⟨g, 1, none⟩) hg _
theorem chg_three {S : Nat → Prop} {a w : World} (h : Chg S a w) {g : Nat} (hg : S g ∨ a.heap.size ≤ g) (x0 x1 x2 : Value) : Chg S a (((w.setCell ⟨g, 0, none⟩ x0).setCell ⟨g, 1, none⟩ x1).setCell ⟨g, 2, none⟩ x2) :=
  (chg_two h hg x0 x1).setCell (p := ⟨g, 2, none⟩) hg _
theorem three_cells {W : World} {g : Nat} {x0 x1 x2 : Value} {T : TypeId} (h : W.heap[g]? = some (.cells #[x0, x1, x2] T (0, 0))) :
    W.cell? ⟨g, 0, none⟩ = some x0 ∧ W.cell? ⟨g, 1, none⟩ = some x1 ∧ W.cell? ⟨g, 2, none⟩ = some x2 ∧ W.frozen? ⟨g, 0, none⟩ = false ∧ W.frozen? ⟨g, 1, none⟩ = false ∧ W.frozen? ⟨g, 2, none⟩ = false := ⟨cell_of h rfl, cell_of h rfl, cell_of h rfl, free_of h, free_of h, free_of h⟩
section
variable {ys : List It} {len bp bw i : Nat} {vp : Value} {w : World} {α : Type}
theorem done_none {v : Value} {m m' : Mem} (h : ∀ k, m' k ≠ none → m k ≠ none ∨ v.ownBlock = some k) {k : Nat} (h1 : m k = none) (h2 : ¬ v.ownBlock = some k) : m' k = none := by
  cases e : m' k with
  | none => rfl
  | some o => rcases h k (by rw [e]; simp) with e2 | e2; exact (e2 h1).elim; exact (h2 e2).elim
theorem ret_cases {K : FuncId} {args : Array Value} {S : Nat → Prop} {r : Syn.R α} {ok : α → Nat → Ending → World → Prop} (h : Calls Tryd.prog K args w (Ret ys len S w r ok)) :
    Calls Tryd.prog K args w fun e w' => Chg S w w' ∧ ((∃ er k, r = .error (er, k) ∧ e = .panicked (gv er ((tk ys len k).a : Nat))) ∨ ∃ x j, r = .ok (x, j) ∧ ok x j e w') := by
  refine h.mono fun e w' ⟨h1, h2⟩ => ⟨h1, ?_⟩
  cases r with
  | error q => exact .inl ⟨q.1, q.2, rfl, h2⟩
  | ok q => exact .inr ⟨q.1, q.2, rfl, h2⟩
theorem ret_err {S : Nat → Prop} {r : Syn.R α} {ok : α → Nat → Ending → World → Prop} {w' : World} {er k : Nat} (h : r = .error (er, k)) (hC : Chg S w w') : Ret ys len S w r ok (.panicked (gv er ((tk ys len k).a : Nat))) w' := by
  rw [h]; exact ⟨hC, rfl⟩
theorem ret_ok {S : Nat → Prop} {r : Syn.R α} {ok : α → Nat → Ending → World → Prop} {w' : World} {x : α} {j : Nat} {e : Ending} (h : r = .ok (x, j)) (hC : Chg S w w') (h2 : ok x j e w') : Ret ys len S w r ok e w' := by
  rw [h]; exact ⟨hC, h2⟩
end
theorem on_ok2 {α β : Type} {x : α} {i : Nat} (f : α → Nat → Syn.R β) : Syn.R.on (.ok (x, i)) f = f x i := rfl
section
variable (T : Nat → Option Syn.K)
/-- Nothing behind it. -/
def endP {α : Type} (s : α) (i : Nat) : Syn.R α := if (T i).isSome then .error (50, i) else .ok (s, i)
end
/-! ## The end, and what catches -/
section
variable {ys : List It} {len bp bw i : Nat} {vp : Value} {w : World} {α : Type}
set_option maxRecDepth 100000 in
theorem wantEnd_ps (h : PS ys len bp bw vp w i) (x : α) :
    Calls Tryd.prog 16 #[.pointer (some ⟨bp, 0, none⟩)] w (Ret ys len (fun k => k = bp) w (endP (Tk ys) x i) fun _ _ e w' => e = .returned (.tuple #[]) ∧ w = w') := by
  obtain ⟨c, h0, hf, hc, hc2, h1, h2, h3, h4⟩ := h.raw
  have hle := h.le
  have hfew := h.few
  rcases Nat.lt_or_ge i ys.length with q | q
  · have HE := Lib.hid (show endP (Tk ys) x i = .error (50, i) from if_pos (by rw [Tk_some (len := len) q]; rfl))
    have HF := Lib.hid (fail_ps h 50 (fun k => k = bp))
    have hg : decide ((1 : Int) < ((ys.length + 1 - i : Nat) : Int)) = true := by simp; omega
    have hg2 : decide (((ys.length + 1 - i : Nat) : Int) > 1) = true := by simp; omega
    clear h hf hc hc2 h1 h2 h3 h4 q
    generalize ys.length + 1 - i = m at *
    generalize 4 * i = o at *
    have hm1 : (1 : Int) < (m : Int) := by simpa using hg
    go_enter Tryd.func16, Tryd.ntmps16
    go_wp2_with fail
    go_at_call 23
    refine HF.out.mono ?_
    rintro e w' ⟨rfl, hc⟩
    exact ⟨rfl, ret_err HE.out hc⟩
  · have HE := Lib.hid (show endP (Tk ys) x i = .ok (x, i) from if_neg (by rw [Tk_none q]; simp))
    have hm : ys.length + 1 - i = 1 := by omega
    rw [hm] at h0 hc
    have HC := Lib.hid (Chg.refl (fun k => k = bp) w)
    clear h hf hc hc2 h1 h2 h3 h4 q hm
    generalize 4 * i = o at *
    go_enter Tryd.func16, Tryd.ntmps16
    go_wp2
    go_end0
    exact ret_ok HE.out HC.out ⟨rfl, rfl⟩
end
theorem free3 {w : World} {b : Nat} {x y z : Value} {T : TypeId} (h : w.heap[b]? = some (.cells #[x, y, z] T (0, 0))) : w.frozen? ⟨b, 0, none⟩ = false ∧ w.frozen? ⟨b, 1, none⟩ = false ∧ w.frozen? ⟨b, 2, none⟩ = false := ⟨free_of h, free_of h, free_of h⟩
theorem gu_assert (er a : Int) (w : World) : (Instr.typeAssert (.iface 52 (.agg #[.int .i64 er, .int .i64 (-1), .int .i64 a])) 20 52 false).run Tryd.prog w = .ok (.agg #[.int .i64 er, .int .i64 (-1), .int .i64 a]) w := by kernel_rfl
theorem gu_field (er a : Int) (w : World) : (Instr.field 52 (.agg #[.int .i64 er, .int .i64 (-1), .int .i64 a]) 0).run Tryd.prog w = .ok (.agg #[.int .i64 er, .int .i64 (-1), .int .i64 a]) w := by kernel_rfl
theorem catchT_fail (b : Nat) (x y z : Value) (er a : Int) (w : World) (h : w.heap[b]? = some (.cells #[x, y, z] 25 (0, 0))) :
    CallsD Tryd.prog 15 #[.pointer (some ⟨b, 0, none⟩)] (.panicking (gv er a)) w fun e u' w' =>
      e = .returned (.tuple #[]) ∧ u' = .panicking [{ v := .iface 52 (.agg #[.int .i64 er, .int .i64 (-1), .int .i64 a]), recovered := true }] ∧ w' = ((w.setCell ⟨b, 0, none⟩ (.int .i64 er)).setCell ⟨b, 1, none⟩ (.int .i64 (-1))).setCell ⟨b, 2, none⟩ (.int .i64 a) := by
  obtain ⟨f0, f1, f2⟩ := free3 h
  obtain ⟨c0, c1, c2, _⟩ := three_cells h
  refine callsD_of_wpS Tryd.func15 rfl fun c₀ cs hu => ?_
  unfold gv at hu
  apply wpS_seq
  apply wpS_region
  simp [wpOpsS, go_sem, recoverD, hu, Tryd.ntmps15, Exit.thenS]
  apply wpS_seq
  apply wpS_region
  simp [wpOpsS, go_sem, Exit.thenS]
  refine wpS_cond (t := true) (by simp [Act.eval]) ?_
  simp only [if_true]
  apply wpS_region
  simp [wpOpsS, go_sem, gu_assert, gu_field, c0, c1, c2, f0, f1, f2, bodyPostS, results, Tryd.results15]
theorem catchT_idle (b : Nat) (w : World) :
    CallsD Tryd.prog 15 #[.pointer (some ⟨b, 0, none⟩)] .returning w fun e u' w' => e = .returned (.tuple #[]) ∧ u' = .returning ∧ w' = w := by
  refine callsD_of_wpS Tryd.func15 rfl fun c₀ cs hu => ?_
  apply wpS_seq
  apply wpS_region
  simp [wpOpsS, go_sem, recoverD, hu, Tryd.ntmps15, Exit.thenS]
  apply wpS_seq
  apply wpS_region
  simp [wpOpsS, go_sem, Exit.thenS]
  refine wpS_cond (t := false) (by simp [Act.eval]) ?_
  simp only [Bool.false_eq_true, if_false]
  refine wpS_of_wp (wp_skip ?_)
  cases c₀
  simp_all [bodyPostS, results, Tryd.results15]


attribute [local go_sem] Oper.semAt_some

theorem tokCells_cons (x : It) (l : List It) : tokCells (x :: l) = .int .i64 (x.k : Nat) :: .string x.t :: .int .i64 (x.v : Nat) :: .int .i64 (x.a : Nat) :: tokCells l := by simp [tokCells]
theorem tokCells_at : ∀ (l : List It) (j : Nat) (h : j < l.length), (tokCells l)[4 * j]? = some (.int .i64 (l[j].k : Nat)) ∧ (tokCells l)[4 * j + 1]? = some (.string l[j].t) ∧ (tokCells l)[4 * j + 2]? = some (.int .i64 (l[j].v : Nat)) ∧ (tokCells l)[4 * j + 3]? = some (.int .i64 (l[j].a : Nat))
  | [], j, h => absurd h (by simp)
  | x :: l, 0, _ => by rw [tokCells_cons]; exact ⟨rfl, rfl, rfl, rfl⟩
  | x :: l, j + 1, h => by
    have := tokCells_at l j (by simpa using h)
    rw [tokCells_cons]
    simp only [show 4 * (j + 1) = 4 * j + 1 + 1 + 1 + 1 by omega, show 4 * j + 1 + 1 + 1 + 1 + 1 = (4 * j + 1) + 1 + 1 + 1 + 1 by omega, show 4 * j + 1 + 1 + 1 + 1 + 2 = (4 * j + 2) + 1 + 1 + 1 + 1 by omega, show 4 * j + 1 + 1 + 1 + 1 + 3 = (4 * j + 3) + 1 + 1 + 1 + 1 by omega, List.getElem?_cons_succ, List.getElem_cons_succ]
    exact this
/-- The word of no kind at a text's end. -/
def endIt (len : Nat) : It := ⟨0, ⟨#[]⟩, 0, len, 0⟩
theorem tk_snoc (ys : List It) (len j : Nat) (h : j < (ys ++ [endIt len]).length) : (ys ++ [endIt len])[j] = tk ys len j := by
  unfold tk
  rw [List.getD_eq_getElem?_getD]
  rcases Nat.lt_or_ge j ys.length with q | q
  · rw [List.getElem?_eq_getElem q, List.getElem_append_left q]; rfl
  · rw [List.getElem?_eq_none q, List.getElem_append_right q, List.getElem_singleton]; rfl
/-- The parser as read makes it. -/
theorem ps_new {ys : List It} {len B c9 : Nat} {q9 : Option Addr} {w9 : World} (hw : Ws ys) (h : w9.ownsRow B 54 4 (.slice q9 (ys.length + 1) c9) (ys.length + 1) (tokCells ys ++ [.int .i64 (0 : Nat), .string ⟨#[]⟩, .int .i64 (0 : Nat), .int .i64 (len : Nat)])) :
    ∃ g, q9 = some ⟨g, 0, none⟩ ∧ B ≤ g ∧ g < w9.heap.size ∧ PS ys len w9.heap.size g (.slice none 0 0) (w9.alloc (.cells #[.slice (some ⟨g, 0, none⟩) (ys.length + 1) c9, .slice none 0 0] 56)) 0 := by
  obtain ⟨h1, ⟨h2, h3⟩ | ⟨g, cap, cur, h2, hb, hg, h4, h5, h6, h7⟩⟩ := h
  · omega
  injection h2 with e1 _ e2
  subst e1; subst e2
  refine ⟨g, rfl, hb, heap_lt hg, ⟨c9, World.alloc_heap_new w9 _, by omega, h5⟩, ⟨cur, heap_new _ _ hg, fun j hj => ?_⟩, Nat.zero_le _, hw.2⟩
  have hj' : j < (ys ++ [endIt len]).length := by simp; omega
  have ha := tokCells_at _ j hj'
  rw [tokCells_snoc, tk_snoc ys len j hj'] at ha
  have hcur : ∀ k u, k < 4 * (ys.length + 1) → (tokCells ys ++ [Value.int .i64 (0 : Nat), .string ⟨#[]⟩, .int .i64 (0 : Nat), .int .i64 (len : Nat)])[k]? = some u → cur[k]? = some u := fun k u hk hu => by
    rw [← h7, List.getElem?_take, if_pos (by omega)] at hu
    simpa using hu
  exact ⟨hcur _ _ (by omega) ha.1, hcur _ _ (by omega) ha.2.1, hcur _ _ (by omega) ha.2.2.1, hcur _ _ (by omega) ha.2.2.2⟩
theorem read_eq {α : Type} {r : (Nat → Option Syn.K) → Nat → Syn.R α} {s : ByteArray} {ys : List It} (hy : ys.map It.key = allItems s) (hy0 : ∀ x ∈ ys, x.e = 0) :
    readOf r s = match r (Tk ys) (ys.length + 1) with
      | .error (er, k) => .error (er, (tk ys s.size k).a)
      | .ok (x, _) => .ok x := by
  unfold readOf; rw [faultOf_none hy hy0]; simp only; rw [its_of hy]
  all_goals
    cases r (Tk ys) (ys.length + 1) with
    | error q => rfl
    | ok q => rfl
theorem read_bad {α : Type} {r : (Nat → Option Syn.K) → Nat → Syn.R α} {s : ByteArray} {q : Nat × Nat} (h : faultOf s = some q) : readOf r s = .error q := by unfold readOf; rw [h]
def flZ : Obj := .cells #[.int .i64 0, .int .i64 0, .int .i64 0] 25
theorem rowM_shape {m : Mem} {E : TypeId} {size n : Nat} {v : Value} {xs : List Value} (h : RowM m E size v n xs) : ∃ q c, v = .slice q n c := by
  rcases h.2 with ⟨rfl, rfl⟩ | ⟨g, cap, cur, rfl, _⟩
  · exact ⟨_, _, rfl⟩
  · exact ⟨_, _, rfl⟩
theorem set3 {W : World} {b : Nat} {x y z x' y' z' : Value} {T : TypeId} (h : W.heap[b]? = some (.cells #[x, y, z] T (0, 0))) : (((W.setCell ⟨b, 0, none⟩ x').setCell ⟨b, 1, none⟩ y').setCell ⟨b, 2, none⟩ z').heap[b]? = some (.cells #[x', y', z'] T (0, 0)) := heap_set (heap_set (heap_set h 0 x') 1 y') 2 z'
theorem five_free {W : World} {g : Nat} {arr : Array Value} {T : TypeId} (h : W.heap[g]? = some (.cells arr T (0, 0))) : W.frozen? ⟨g, 0, none⟩ = false ∧ W.frozen? ⟨g, 1, none⟩ = false ∧ W.frozen? ⟨g, 2, none⟩ = false ∧ W.frozen? ⟨g, 3, none⟩ = false ∧ W.frozen? ⟨g, 4, none⟩ = false := ⟨free_of h, free_of h, free_of h, free_of h, free_of h⟩


end Go.Proofs.YtnmcjkabihihiaaDoor
