/- Rows of terms in memory; bracketed and plain of the parser, over a reader of what stands within brackets. -/
import Derived.Test.YtnmcjkabihihiaaDoorEB
import Derived.Maps.AppendAt
namespace Go.Proofs.YtnmcjkabihihiaaDoor
open Go Go.RowKit Go.Proofs.Mm

/-- A term's cells; a row of terms. -/
def tmC (t : Syn.Tm) : List Value := [.int .i64 (t.kind : Int), .int .i64 (t.value : Int), .string (sb t.name)]
def tmCells (l : List Syn.Tm) : List Value := l.flatMap tmC
theorem tmCells_app (l m : List Syn.Tm) : tmCells (l ++ m) = tmCells l ++ tmCells m := by unfold tmCells; rw [List.flatMap_append]
theorem tmCells_one (t : Syn.Tm) : tmCells [t] = tmC t := by simp [tmCells]
theorem infoTm : ∃ i, Tryd.prog.info? 46 = some i ∧ i.zero = some (.agg #[.int .i64 0, .int .i64 0, .string ⟨#[]⟩]) ∧ i.size = 3 ∧ i.bytes = 32 := by
  have h : (Tryd.prog.info? 46).map (fun i => (i.zero, i.size, i.bytes)) = some (some (.agg #[.int .i64 0, .int .i64 0, .string ⟨#[]⟩]), 3, 32) := by kernel_rfl
  cases hi : Tryd.prog.info? 46 with
  | none => rw [hi] at h; cases h
  | some i =>
    rw [hi] at h
    simp only [Option.map_some, Option.some.injEq, Prod.mk.injEq] at h
    obtain ⟨e1, e2, e3⟩ := h
    exact ⟨i, rfl, e1, e2, e3⟩
def TR (w : World) (v : Value) (l : List Syn.Tm) : Prop := w.ownsRow 0 46 3 v l.length (tmCells l)
theorem own_type {w : World} {B n size : Nat} {E : TypeId} {v : Value} {xs : List Value} (h : w.ownsRow B E size v n xs) {k : Nat} (hk : v.ownBlock = some k) : ∃ cur, w.heap[k]? = some (.cells cur E (0, 0)) := by
  rcases h.2 with ⟨rfl, _⟩ | ⟨g, cap, cur, rfl, _, hg, _⟩
  · cases hk
  · obtain rfl : g = k := by simpa [Value.ownBlock] using hk
    exact ⟨cur, hg⟩
theorem own_chg {w w' : World} {B n size : Nat} {E : TypeId} {v : Value} {xs : List Value} (h : w.ownsRow B E size v n xs) {S : Nat → Prop} (hc : Chg S w w') (hn : ∀ k, v.ownBlock = some k → ¬ S k) : w'.ownsRow B E size v n xs := by
  refine ⟨h.1, ?_⟩
  rcases h.2 with h0 | ⟨g, cap, cur, rfl, hb, hg, rest⟩
  · exact .inl h0
  · exact .inr ⟨g, cap, cur, rfl, hb, hc.heap hg (hn g rfl), rest⟩
theorem own_shape {w : World} {B n size : Nat} {E : TypeId} {v : Value} {xs : List Value} (h : w.ownsRow B E size v n xs) : ∃ q c, v = .slice q n c := by
  rcases h.2 with ⟨rfl, rfl⟩ | ⟨g, cap, cur, rfl, _⟩
  · exact ⟨_, _, rfl⟩
  · exact ⟨_, _, rfl⟩

/-- What a reader of terms may turn: the parser, and the row that it was handed. -/
def TS (bp : Nat) (v : Value) : Nat → Prop := fun k => k = bp ∨ v.ownBlock = some k
/-- What it hands back. -/
def TOk (ys : List It) (len bp bw : Nat) (vp : Value) (l0 : List Syn.Tm) (v : Value) (w : World) (l : List Syn.Tm) (j : Nat) (e : Ending) (w' : World) : Prop :=
  ∃ v', e = .returned v' ∧ TR w' v' (l0 ++ l) ∧ PS ys len bp bw vp w' j ∧ ∀ k, v'.ownBlock = some k → v.ownBlock = some k ∨ w.heap.size ≤ k
/-- A reader of terms: function K. -/
def RdT (ys : List It) (len bp bw : Nat) (vp : Value) (K : FuncId) (args : Value → Array Value) (Inv : World → Prop) (r : Nat → Syn.R (List Syn.Tm)) : Prop :=
  ∀ w i v l0, Inv w → PS ys len bp bw vp w i → TR w v l0 → l0.length + (ys.length - i) ≤ 131072 → Calls Tryd.prog K (args v) w (Ret ys len (TS bp v) w (r i) (TOk ys len bp bw vp l0 v w))

section
variable {ys : List It} {len bp bw i : Nat} {vp : Value} {w : World}
/-- The parser is no row of terms, and its words are none. -/
theorem ps_not_row (h : PS ys len bp bw vp w i) {v : Value} {l : List Syn.Tm} (hr : TR w v l) : v.ownBlock ≠ some bp ∧ v.ownBlock ≠ some bw := by
  obtain ⟨⟨c, a1, _⟩, ⟨arr, b1, _⟩, _, _⟩ := h
  constructor
  · intro e
    obtain ⟨cur, h2⟩ := own_type hr e
    have := a1.symm.trans h2
    simp at this
  · intro e
    obtain ⟨cur, h2⟩ := own_type hr e
    have := b1.symm.trans h2
    simp at this
theorem ts_bw (h : PS ys len bp bw vp w i) {v : Value} {l : List Syn.Tm} (hr : TR w v l) : ¬ TS bp v bw := by
  rintro (e | e)
  · exact h.ne e
  · exact (ps_not_row h hr).2 e
theorem tr_next (h : PS ys len bp bw vp w i) {v : Value} {l : List Syn.Tm} (hr : TR w v l) {w' : World} (hc : Chg (fun k => k = bp) w w') : TR w' v l :=
  own_chg hr hc (fun k hk e => by subst e; exact (ps_not_row h hr).1 hk)
theorem ts_le {v : Value} {w w' : World} (hc : Chg (fun k => k = bp) w w') : Chg (TS bp v) w w' := hc.mono fun _ e => .inl (.inl e)
/-- One term more behind a row. -/
theorem tr_app (h : PS ys len bp bw vp w i) {v v' : Value} {l : List Syn.Tm} (hr : TR w v l) {t : Syn.Tm} {w9 : World} (T : TypeId)
    (hown : w9.ownsRow 0 46 3 v' (l.length + 1) (tmCells l ++ tmC t)) (hg : (w.alloc (.cells (tmC t).toArray T)).grownBy w9 v.ownBlock) (hat : v'.ownBlock = v.ownBlock ∨ v'.ownBlock = some (w.heap.size + 1)) :
    TR w9 v' (l ++ [t]) ∧ PS ys len bp bw vp w9 i ∧ Chg (TS bp v) w w9 ∧ ∀ k, v'.ownBlock = some k → v.ownBlock = some k ∨ w.heap.size ≤ k := by
  have hC : Chg (TS bp v) w w9 := ((Chg.refl _ w).alloc _).then (grown_chg hg (fun k hk => .inl (.inr hk)))
  have hC2 : Chg (fun k => v.ownBlock = some k) w w9 := ((Chg.refl _ w).alloc _).then (grown_chg hg (fun k hk => .inl hk))
  refine ⟨?_, h.chg hC2 (ps_not_row h hr).1 (ps_not_row h hr).2, hC, fun k hk => ?_⟩
  · unfold TR
    rw [List.length_append, List.length_singleton, tmCells_app, tmCells_one]
    exact hown
  · rcases hat with e | e
    · rw [e] at hk; exact .inl hk
    · rw [e] at hk
      simp only [Option.some.injEq] at hk
      exact .inr (by omega)
theorem tm_new (w : World) (t : Syn.Tm) (T : TypeId) : ∀ j u, (tmC t)[j]? = some u → (w.alloc (.cells (tmC t).toArray T)).cell? ((⟨w.heap.size, 0, none⟩ : Addr).add j) = some u := row_new w (tmC t) T
theorem tm_one (t : Syn.Tm) : ∀ u ∈ tmC t, u.oneCell' = true := by
  intro u hu
  unfold tmC at hu
  rcases List.mem_cons.1 hu with rfl | hu
  · rfl
  rcases List.mem_cons.1 hu with rfl | hu
  · rfl
  rcases List.mem_cons.1 hu with rfl | hu
  · rfl
  · exact absurd hu (by simp)

/-- bracketed, where it would be too deep. -/
theorem bracketed_deep (h : PS ys len bp bw vp w i) (s : ByteArray) (v : Value) (S : Nat → Prop) :
    Calls Tryd.prog 50 #[.pointer (some ⟨bp, 0, none⟩), .string s, v, .int .i64 12] w fun e w' => e = .panicked (gv 51 ((tk ys len i).a : Nat)) ∧ Chg S w w' := by
  go_enter Tryd.func50, Tryd.ntmps50
  go_wp2_with (go_at_call 23; refine (fail_ps h 51 S).mono ?_; rintro e w' ⟨rfl, hc⟩)
  exact ⟨rfl, rfl, hc⟩
set_option maxRecDepth 100000 in
/-- bracketed, over a reader of what stands within. -/
theorem bracketed_some (hw : Ws ys) (h : PS ys len bp bw vp w i) (hi : i < ys.length) {d : Nat} (hd : d < 12) {r : Nat → Syn.R (List Syn.Tm)} (s : ByteArray) (hs : Mk (bl s) = true)
    (hR : RdT ys len bp bw vp 17 (fun v => #[.pointer (some ⟨bp, 0, none⟩), v, .int .i64 ((d : Int) + 1)]) (fun _ => True) r) {v : Value} {l0 : List Syn.Tm} (hr : TR w v l0) (hb : l0.length + (ys.length - i) ≤ 131072) :
    Calls Tryd.prog 50 #[.pointer (some ⟨bp, 0, none⟩), .string s, v, .int .i64 (d : Int)] w (Ret ys len (TS bp v) w (Syn.brack (Tk ys) (some r) (fun l => l) (bl s) i) (TOk ys len bp bw vp l0 v w)) := by
  have hne : ((d : Int) == 12) = false := by simp; omega
  have ht := take_ps h hi
  have HR := Lib.hid hR
  clear hR
  cases hri : r (i + 1) with
  | error q =>
    obtain ⟨er, k⟩ := q
    have hB : Syn.brack (Tk ys) (some r) (fun l => l) (bl s) i = .error (er, k) := by unfold Syn.brack; simp only [hri, Syn.R.on]
    rw [hB]
    clear hB
    have HRI := Lib.hid hri
    clear hri
    go_enter Tryd.func50, Tryd.ntmps50
    go_wp2_with (go_at_call 36; refine ht.mono ?_; rintro e w1 ⟨rfl, hc1, hp1⟩)
    have hcall := HR.out w1 (i + 1) v l0 trivial hp1 (tr_next h hr hc1) (by omega)
    rw [HRI.out] at hcall
    go_at_call 17
    refine hcall.mono ?_
    rintro e w2 ⟨hc2, rfl⟩
    exact ⟨rfl, (ts_le hc1).then hc2, rfl⟩
  | ok q =>
    obtain ⟨l, j⟩ := q
    by_cases hx : Syn.is (Tk ys) j (bl s) = true
    · have hj : j < ys.length := by
        rcases Nat.lt_or_ge j ys.length with q | q
        · exact q
        · rw [Syn.is, Tk_none q] at hx; cases hx
      have hB : Syn.brack (Tk ys) (some r) (fun l => l) (bl s) i = .ok (l, j + 1) := by
        unfold Syn.brack
        simp only [hri, Syn.R.on]
        rw [show Syn.want (Tk ys) j (bl s) = .ok ((), j + 1) from if_pos hx]
      rw [hB]
      clear hB
      have HRI := Lib.hid hri
      have hx2 : ((tk ys len j).t.toList == s.toList) = true := by rw [eq_text, is_text hw len j hs]; exact hx
      have HX := Lib.hid hx2
      clear hri hx hx2
      go_enter Tryd.func50, Tryd.ntmps50
      go_wp2_with (go_at_call 36; refine ht.mono ?_; rintro e w1 ⟨rfl, hc1, hp1⟩)
      have hcall := HR.out w1 (i + 1) v l0 trivial hp1 (tr_next h hr hc1) (by omega)
      rw [HRI.out] at hcall
      have hsz := hc1.size
      go_at_call 17
      refine hcall.mono ?_
      rintro e w2 ⟨hc2, v', rfl, hr2, hp2, hob⟩
      have hwt := want_yes hp2 hj s HX.out
      go_wp2_with (go_at_call 66; refine hwt.mono ?_; rintro e w3 ⟨rfl, hc3, hp3⟩)
      go_ret
      exact ⟨((ts_le hc1).then hc2).then (ts_le hc3), v', rfl, tr_next hp2 hr2 hc3, hp3, fun k hk => by rcases hob k hk with q | q <;> first | exact .inl q | exact .inr (by omega)⟩
    · have hB : Syn.brack (Tk ys) (some r) (fun l => l) (bl s) i = .error (50, j) := by
        unfold Syn.brack
        simp only [hri, Syn.R.on]
        rw [show Syn.want (Tk ys) j (bl s) = .error (50, j) from if_neg hx]
      rw [hB]
      clear hB
      have HRI := Lib.hid hri
      have hx2 : ((tk ys len j).t.toList == s.toList) = false := by rw [eq_text, is_text hw len j hs]; simpa using hx
      have HX := Lib.hid hx2
      clear hri hx hx2
      go_enter Tryd.func50, Tryd.ntmps50
      go_wp2_with (go_at_call 36; refine ht.mono ?_; rintro e w1 ⟨rfl, hc1, hp1⟩)
      have hcall := HR.out w1 (i + 1) v l0 trivial hp1 (tr_next h hr hc1) (by omega)
      rw [HRI.out] at hcall
      go_at_call 17
      refine hcall.mono ?_
      rintro e w2 ⟨hc2, v', rfl, hr2, hp2, hob⟩
      have hwt := want_no hp2 s HX.out (TS bp v)
      go_wp2_with (go_at_call 66; refine hwt.mono ?_; rintro e w3 ⟨rfl, hc3⟩)
      exact ⟨rfl, ((ts_le hc1).then hc2).then (hc3.mono fun _ q => .inl q), rfl⟩
end
end Go.Proofs.YtnmcjkabihihiaaDoor
