/- plain of the parser: what a unary expression's operand is. -/
import Derived.Test.YtnmcjkabihihiaaDoorEC
namespace Go.Proofs.YtnmcjkabihihiaaDoor
open Go Go.RowKit Go.Proofs.Mm

/-- What reads within brackets, d deep. -/
def EOk (ys : List It) (len bp bw : Nat) (vp : Value) (d : Nat) (e : Option (Nat → Syn.R (List Syn.Tm))) : Prop :=
  (d = 12 ∧ e = none) ∨ (d < 12 ∧ ∃ r, e = some r ∧ Syn.Cnt r ∧ Syn.FitP ys.length r ∧ RdT ys len bp bw vp 17 (fun v => #[.pointer (some ⟨bp, 0, none⟩), v, .int .i64 ((d : Int) + 1)]) (fun _ => True) r)
theorem EOk.cnt {ys : List It} {len bp bw d : Nat} {vp : Value} {e : Option (Nat → Syn.R (List Syn.Tm))} (h : EOk ys len bp bw vp d e) : ∀ p, e = some p → Syn.Cnt p := by
  rcases h with ⟨_, rfl⟩ | ⟨_, r, rfl, h, _⟩
  · intro p hp; cases hp
  · intro p hp; cases hp; exact h
theorem EOk.fit {ys : List It} {len bp bw d : Nat} {vp : Value} {e : Option (Nat → Syn.R (List Syn.Tm))} (h : EOk ys len bp bw vp d e) : ∀ p, e = some p → Syn.FitP ys.length p := by
  rcases h with ⟨_, rfl⟩ | ⟨_, r, rfl, _, h, _⟩
  · intro p hp; cases hp
  · intro p hp; cases hp; exact h
theorem tk_nones (ys : List It) : ∀ i, ys.length ≤ i → Tk ys i = none := fun _ h => Tk_none h
theorem lt_of_is {ys : List It} {i : Nat} {s : List Nat} (h : Syn.is (Tk ys) i s = true) : i < ys.length := Syn.is_lt (tk_nones ys) h
theorem lt_of_named {ys : List It} {i : Nat} (h : Syn.named (Tk ys) i = true) : i < ys.length := Syn.named_lt (tk_nones ys) h

/-! ## The operand, way by way -/
theorem brack_g {T : Nat → Option Syn.K} (e : Option (Nat → Syn.R (List Syn.Tm))) (g : List Syn.Tm → List Syn.Tm) (s : List Nat) (i : Nat) :
    Syn.brack T e g s i = (Syn.brack T e (fun l => l) s i).on fun l j => .ok (g l, j) := by
  unfold Syn.brack
  cases e with
  | none => rfl
  | some r =>
    simp only
    cases r (i + 1) with
    | error q => rfl
    | ok q =>
      simp only [Syn.R.on]
      cases Syn.want T q.2 s with
      | error q => rfl
      | ok q => rfl
def isNum (T : Nat → Option Syn.K) (i : Nat) : Bool := match T i with | some k => k.kind == 3 | none => false
theorem num_kind (ys : List It) (len i : Nat) : (((tk ys len i).k : Int) == 3) = isNum (Tk ys) i := by
  by_cases h : i < ys.length
  · unfold isNum; rw [Tk_some (len := len) h]; simp only [keyOf]; rw [Bool.eq_iff_iff, beq_iff_eq, beq_iff_eq]; omega
  · rw [tk_end ys len (by omega)]; unfold isNum; rw [Tk_none (by omega)]; rfl
theorem lt_of_num {ys : List It} {i : Nat} (h : isNum (Tk ys) i = true) : i < ys.length := by
  rcases Nat.lt_or_ge i ys.length with q | q
  · exact q
  · rw [isNum, Tk_none q] at h; cases h
theorem atom_num {ys : List It} (len : Nat) {i : Nat} (e : Option (Nat → Syn.R (List Syn.Tm))) (h : isNum (Tk ys) i = true) : Syn.atom (Tk ys) e i = .ok ([⟨1, (tk ys len i).v, []⟩], i + 1) := by
  have hi := lt_of_num h
  unfold isNum at h
  unfold Syn.atom
  rw [Tk_some (len := len) hi] at h ⊢
  exact if_pos (by simpa using h)
theorem atom_rest {ys : List It} {i : Nat} (e : Option (Nat → Syn.R (List Syn.Tm))) (h : isNum (Tk ys) i = false) : Syn.atom (Tk ys) e i = if Syn.is (Tk ys) i [40] then Syn.brack (Tk ys) e (fun l => l) [41] i else Syn.atomN (Tk ys) e i := by
  unfold isNum at h
  unfold Syn.atom
  cases hT : Tk ys i with
  | none =>
    simp only [Syn.is, hT, Bool.false_eq_true, if_false, Syn.atomN, Syn.name, Syn.R.on]
  | some k =>
    rw [hT] at h
    simp only
    rw [if_neg (by simpa using h)]
theorem name_no {ys : List It} {i : Nat} (h : Syn.named (Tk ys) i = false) : Syn.name (Tk ys) i = .error (50, i) := by
  unfold Syn.named at h
  unfold Syn.name
  cases hT : Tk ys i with
  | none => rfl
  | some k => rw [hT] at h; exact if_neg (by simpa using h)
theorem name_yes {ys : List It} (len : Nat) {i : Nat} (h : Syn.named (Tk ys) i = true) : Syn.name (Tk ys) i = .ok (bl (tk ys len i).t, i + 1) := by
  have hi := lt_of_named h
  unfold Syn.named at h
  unfold Syn.name
  rw [Tk_some (len := len) hi] at h ⊢
  exact if_pos (by simpa using h)

section
variable {ys : List It} {len bp bw i : Nat} {vp : Value} {w : World}
theorem bracketed_any (hw : Ws ys) (h : PS ys len bp bw vp w i) (hi : i < ys.length) {d : Nat} {e : Option (Nat → Syn.R (List Syn.Tm))} (he : EOk ys len bp bw vp d e) (s : ByteArray) (hs : Mk (bl s) = true) {v : Value} {l0 : List Syn.Tm} (hr : TR w v l0) (hb : l0.length + (ys.length - i) ≤ 131072) :
    Calls Tryd.prog 50 #[.pointer (some ⟨bp, 0, none⟩), .string s, v, .int .i64 (d : Int)] w (Ret ys len (TS bp v) w (Syn.brack (Tk ys) e (fun l => l) (bl s) i) (TOk ys len bp bw vp l0 v w)) := by
  rcases he with ⟨rfl, rfl⟩ | ⟨hd, r, rfl, _, _, hR⟩
  · exact (bracketed_deep h s v (TS bp v)).mono fun e w' ⟨h1, h2⟩ => ⟨h2, h1⟩
  · exact bracketed_some hw h hi hd s hs hR hr hb
theorem name_one (h : PS ys len bp bw vp w i) (hn : Syn.named (Tk ys) i = true) : Calls Tryd.prog 51 #[.pointer (some ⟨bp, 0, none⟩)] w fun e w' => e = .returned (.string (tk ys len i).t) ∧ Chg (fun k => k = bp) w w' ∧ PS ys len bp bw vp w' (i + 1) := by
  have h1 := name_ps h
  rw [name_yes len hn] at h1
  refine h1.mono fun e w' ⟨a, b, c⟩ => ⟨by rw [b, sb_bl], a, c⟩
theorem name_none (h : PS ys len bp bw vp w i) (hn : Syn.named (Tk ys) i = false) (S : Nat → Prop) (hS : S bp) : Calls Tryd.prog 51 #[.pointer (some ⟨bp, 0, none⟩)] w fun e w' => e = .panicked (gv 50 ((tk ys len i).a : Nat)) ∧ Chg S w w' := by
  have h1 := name_ps h
  rw [name_no hn] at h1
  exact h1.mono fun e w' ⟨a, b⟩ => ⟨b, a.mono fun _ q => .inl (by subst q; exact hS)⟩

attribute [local go_sem] tok_text tok_value
set_option maxRecDepth 100000 in
theorem plain_num (h : PS ys len bp bw vp w i) (hn : isNum (Tk ys) i = true) (d : Int) {v : Value} {l0 : List Syn.Tm} (hr : TR w v l0) (hb : l0.length + (ys.length - i) ≤ 131072) :
    Calls Tryd.prog 38 #[.pointer (some ⟨bp, 0, none⟩), v, .int .i64 d] w fun e w' => Chg (TS bp v) w w' ∧ TOk ys len bp bw vp l0 v w [⟨1, (tk ys len i).v, []⟩] (i + 1) e w' := by
  have hi := lt_of_num hn
  obtain ⟨i0, hi0, hz0, hz1, hz2⟩ := infoTm
  have h1 := isKind_ps h 3
  rw [num_kind, hn] at h1
  have ht := take_ps h hi
  go_enter Tryd.func38, Tryd.ntmps38
  go_wp2_with (go_at_call 48; refine h1.mono ?_; rintro e w' ⟨rfl, rfl⟩)
  go_at_call 36
  refine ht.mono ?_
  rintro e w1 ⟨rfl, hc1, hp1⟩
  have hr1 := tr_next h hr hc1
  go_wp2_with (at_builtin; refine wpList_append_own_at _ rfl _ _ 22 rfl 0 46 i0 _ 3 32 Tryd.underlying22 hi0 hz0 hz1 hz2 rfl (by decide) _ _ _ rfl (hr1.alloc _) ⟨w1.heap.size, 0, none⟩ 1 1 (tmC ⟨1, (tk ys len i).v, []⟩) rfl rfl (tm_new w1 ⟨1, (tk ys len i).v, []⟩ 46) (tm_one _) (by unfold maxLen; omega) (by omega) (Nat.zero_le _) ?_)
  intro v' w9 hown9 hgrow9 _ hat9
  obtain ⟨a1, a2, a3, a4⟩ := tr_app hp1 hr1 46 hown9 hgrow9 hat9
  have hsz := hc1.size
  clear hown9 hgrow9 hat9
  go_wp2
  go_ret
  exact ⟨(ts_le hc1).then a3, v', rfl, a1, a2, fun k hk => by rcases a4 k hk with q | q <;> first | exact .inl q | exact .inr (by omega)⟩

theorem mk_40 : Mk (bl ⟨#[40]⟩) = true := by decide
theorem mk_41 : Mk (bl ⟨#[41]⟩) = true := by decide
theorem mk_91 : Mk (bl ⟨#[91]⟩) = true := by decide
theorem mk_93 : Mk (bl ⟨#[93]⟩) = true := by decide
set_option maxRecDepth 100000 in
theorem plain_par (hw : Ws ys) (h : PS ys len bp bw vp w i) (hn : isNum (Tk ys) i = false) (hp : Syn.is (Tk ys) i [40] = true) {d : Nat} {e : Option (Nat → Syn.R (List Syn.Tm))} (he : EOk ys len bp bw vp d e) {v : Value} {l0 : List Syn.Tm} (hr : TR w v l0) (hb : l0.length + (ys.length - i) ≤ 131072) :
    Calls Tryd.prog 38 #[.pointer (some ⟨bp, 0, none⟩), v, .int .i64 (d : Int)] w (Ret ys len (TS bp v) w (Syn.brack (Tk ys) e (fun l => l) [41] i) (TOk ys len bp bw vp l0 v w)) := by
  have hi := lt_of_is hp
  have h1 := isKind_ps h 3
  rw [num_kind, hn] at h1
  have h2 := is_ps h ⟨#[40]⟩
  rw [eq_text, is_text hw len i mk_40, show bl ⟨#[40]⟩ = [40] from rfl, hp] at h2
  have h3 := bracketed_any hw h hi he ⟨#[41]⟩ mk_41 hr hb
  rw [show bl ⟨#[41]⟩ = [41] from rfl] at h3
  clear hn hp
  cases hB : Syn.brack (Tk ys) e (fun l => l) [41] i with
  | error q =>
    obtain ⟨er, k⟩ := q
    rw [hB] at h3
    have HB := Lib.hid hB
    clear hB
    go_enter Tryd.func38, Tryd.ntmps38
    go_wp2_with (first | (go_at_call 48; refine h1.mono ?_; rintro e w' ⟨rfl, rfl⟩) | (go_at_call 49; refine h2.mono ?_; rintro e w' ⟨rfl, rfl⟩))
    go_at_call 50
    refine h3.mono ?_
    rintro e w1 ⟨hc1, rfl⟩
    exact ⟨rfl, hc1, rfl⟩
  | ok q =>
    obtain ⟨l, j⟩ := q
    rw [hB] at h3
    have HB := Lib.hid hB
    clear hB
    go_enter Tryd.func38, Tryd.ntmps38
    go_wp2_with (first | (go_at_call 48; refine h1.mono ?_; rintro e w' ⟨rfl, rfl⟩) | (go_at_call 49; refine h2.mono ?_; rintro e w' ⟨rfl, rfl⟩))
    go_at_call 50
    refine h3.mono ?_
    rintro e w1 ⟨hc1, v', rfl, a1, a2, a3⟩
    go_wp2
    go_ret
    exact ⟨hc1, v', rfl, a1, a2, a3⟩
set_option maxRecDepth 100000 in
theorem plain_none (hw : Ws ys) (h : PS ys len bp bw vp w i) (hn : isNum (Tk ys) i = false) (hp : Syn.is (Tk ys) i [40] = false) (hm : Syn.named (Tk ys) i = false) (d : Int) (v : Value) :
    Calls Tryd.prog 38 #[.pointer (some ⟨bp, 0, none⟩), v, .int .i64 d] w fun e w' => Chg (TS bp v) w w' ∧ e = .panicked (gv 50 ((tk ys len i).a : Nat)) := by
  have h1 := isKind_ps h 3
  rw [num_kind, hn] at h1
  have h2 := is_ps h ⟨#[40]⟩
  rw [eq_text, is_text hw len i mk_40, show bl ⟨#[40]⟩ = [40] from rfl, hp] at h2
  have h3 := name_none h hm (TS bp v) (.inl rfl)
  clear hn hp hm
  go_enter Tryd.func38, Tryd.ntmps38
  go_wp2_with (first | (go_at_call 48; refine h1.mono ?_; rintro e w' ⟨rfl, rfl⟩) | (go_at_call 49; refine h2.mono ?_; rintro e w' ⟨rfl, rfl⟩))
  go_at_call 51
  refine h3.mono ?_
  rintro e w1 ⟨rfl, hc1⟩
  exact ⟨rfl, hc1, rfl⟩
set_option maxRecDepth 100000 in
theorem plain_name (hw : Ws ys) (h : PS ys len bp bw vp w i) (hn : isNum (Tk ys) i = false) (hp : Syn.is (Tk ys) i [40] = false) (hm : Syn.named (Tk ys) i = true) (hq : Syn.is (Tk ys) (i + 1) [91] = false) (d : Int) {v : Value} {l0 : List Syn.Tm} (hr : TR w v l0) (hb : l0.length + (ys.length - i) ≤ 131072) :
    Calls Tryd.prog 38 #[.pointer (some ⟨bp, 0, none⟩), v, .int .i64 d] w fun e w' => Chg (TS bp v) w w' ∧ TOk ys len bp bw vp l0 v w [⟨2, 0, bl (tk ys len i).t⟩] (i + 1) e w' := by
  have hi := lt_of_named hm
  obtain ⟨i0, hi0, hz0, hz1, hz2⟩ := infoTm
  have h1 := isKind_ps h 3
  rw [num_kind, hn] at h1
  have h2 := is_ps h ⟨#[40]⟩
  rw [eq_text, is_text hw len i mk_40, show bl ⟨#[40]⟩ = [40] from rfl, hp] at h2
  have h3 := name_one h hm
  have h4 := Lib.hid (fun w1 (hp1 : PS ys len bp bw vp w1 (i + 1)) => by
    have := is_ps hp1 ⟨#[91]⟩
    rw [eq_text, is_text hw len (i + 1) mk_91, show bl ⟨#[91]⟩ = [91] from rfl, hq] at this
    exact this)
  have HC := Lib.hid (show tmC ⟨2, 0, bl (tk ys len i).t⟩ = [.int .i64 2, .int .i64 0, .string (tk ys len i).t] from by unfold tmC; rw [sb_bl]; rfl)
  clear hn hp hm hq
  go_enter Tryd.func38, Tryd.ntmps38
  go_wp2_with (first | (go_at_call 48; refine h1.mono ?_; rintro e w' ⟨rfl, rfl⟩) | (go_at_call 49; refine h2.mono ?_; rintro e w' ⟨rfl, rfl⟩))
  go_at_call 51
  refine h3.mono ?_
  rintro e w1 ⟨rfl, hc1, hp1⟩
  have hr1 := tr_next h hr hc1
  have h5 := h4.out w1 hp1
  have hnew := tm_new w1 ⟨2, 0, bl (tk ys len i).t⟩ 46
  have hone := tm_one ⟨2, 0, bl (tk ys len i).t⟩
  have happ := Lib.hid (fun v' w9 => tr_app (t := ⟨2, 0, bl (tk ys len i).t⟩) (v' := v') (w9 := w9) hp1 hr1 46)
  rw [HC.out] at hnew hone happ
  go_wp2_with (first | (go_at_call 49; refine h5.mono ?_; rintro e w' ⟨rfl, rfl⟩) | (at_builtin; refine wpList_append_own_at _ rfl _ _ 22 rfl 0 46 i0 _ 3 32 Tryd.underlying22 hi0 hz0 hz1 hz2 rfl (by decide) _ _ _ rfl (hr1.alloc _) ⟨w1.heap.size, 0, none⟩ 1 1 [.int .i64 2, .int .i64 0, .string (tk ys len i).t] rfl rfl hnew hone (by unfold maxLen; omega) (by omega) (Nat.zero_le _) ?_))
  intro v' w9 hown9 hgrow9 _ hat9
  obtain ⟨a1, a2, a3, a4⟩ := happ.out v' w9 hown9 hgrow9 hat9
  have hsz := hc1.size
  clear hown9 hgrow9 hat9
  go_wp2
  go_ret
  exact ⟨(ts_le hc1).then a3, v', rfl, a1, a2, fun k hk => by rcases a4 k hk with q | q <;> first | exact .inl q | exact .inr (by omega)⟩

set_option maxRecDepth 100000 in
theorem plain_index_bad (hw : Ws ys) (h : PS ys len bp bw vp w i) (hn : isNum (Tk ys) i = false) (hp : Syn.is (Tk ys) i [40] = false) (hm : Syn.named (Tk ys) i = true) (hq : Syn.is (Tk ys) (i + 1) [91] = true) {d : Nat} {e : Option (Nat → Syn.R (List Syn.Tm))} (he : EOk ys len bp bw vp d e) {v : Value} {l0 : List Syn.Tm} (hr : TR w v l0) (hb : l0.length + (ys.length - i) ≤ 131072)
    {er k : Nat} (hB : Syn.brack (Tk ys) e (fun l => l) [93] (i + 1) = .error (er, k)) :
    Calls Tryd.prog 38 #[.pointer (some ⟨bp, 0, none⟩), v, .int .i64 (d : Int)] w fun e w' => Chg (TS bp v) w w' ∧ e = .panicked (gv er ((tk ys len k).a : Nat)) := by
  have hi := lt_of_is hq
  have h1 := isKind_ps h 3
  rw [num_kind, hn] at h1
  have h2 := is_ps h ⟨#[40]⟩
  rw [eq_text, is_text hw len i mk_40, show bl ⟨#[40]⟩ = [40] from rfl, hp] at h2
  have h3 := name_one h hm
  have h4 := Lib.hid (fun w1 (hp1 : PS ys len bp bw vp w1 (i + 1)) => by
    have := is_ps hp1 ⟨#[91]⟩
    rw [eq_text, is_text hw len (i + 1) mk_91, show bl ⟨#[91]⟩ = [91] from rfl, hq] at this
    exact this)
  have h6 := Lib.hid (fun w1 (hp1 : PS ys len bp bw vp w1 (i + 1)) (hr1 : TR w1 v l0) => by
    have := bracketed_any hw hp1 hi he ⟨#[93]⟩ mk_93 hr1 (by omega)
    rw [show bl ⟨#[93]⟩ = [93] from rfl, hB] at this
    exact this)
  clear hn hp hm hq hB
  go_enter Tryd.func38, Tryd.ntmps38
  go_wp2_with (first | (go_at_call 48; refine h1.mono ?_; rintro e w' ⟨rfl, rfl⟩) | (go_at_call 49; refine h2.mono ?_; rintro e w' ⟨rfl, rfl⟩))
  go_at_call 51
  refine h3.mono ?_
  rintro e w1 ⟨rfl, hc1, hp1⟩
  have hr1 := tr_next h hr hc1
  have h5 := h4.out w1 hp1
  go_wp2_with (go_at_call 49; refine h5.mono ?_; rintro e w' ⟨rfl, rfl⟩)
  go_at_call 50
  refine (h6.out w1 hp1 hr1).mono ?_
  rintro e w2 ⟨hc2, rfl⟩
  exact ⟨rfl, (ts_le hc1).then hc2, rfl⟩
set_option maxRecDepth 100000 in
theorem plain_index (hw : Ws ys) (h : PS ys len bp bw vp w i) (hn : isNum (Tk ys) i = false) (hp : Syn.is (Tk ys) i [40] = false) (hm : Syn.named (Tk ys) i = true) (hq : Syn.is (Tk ys) (i + 1) [91] = true) {d : Nat} {e : Option (Nat → Syn.R (List Syn.Tm))} (he : EOk ys len bp bw vp d e) {v : Value} {l0 : List Syn.Tm} (hr : TR w v l0) (hb : l0.length + (ys.length - i) ≤ 131072)
    {l : List Syn.Tm} {j : Nat} (hB : Syn.brack (Tk ys) e (fun l => l) [93] (i + 1) = .ok (l, j)) (hlj : l.length + (i + 1) ≤ j) (hj : j ≤ ys.length) :
    Calls Tryd.prog 38 #[.pointer (some ⟨bp, 0, none⟩), v, .int .i64 (d : Int)] w fun e w' => Chg (TS bp v) w w' ∧ TOk ys len bp bw vp l0 v w (l ++ [⟨3, 0, bl (tk ys len i).t⟩]) j e w' := by
  have hi := lt_of_is hq
  obtain ⟨i0, hi0, hz0, hz1, hz2⟩ := infoTm
  have h1 := isKind_ps h 3
  rw [num_kind, hn] at h1
  have h2 := is_ps h ⟨#[40]⟩
  rw [eq_text, is_text hw len i mk_40, show bl ⟨#[40]⟩ = [40] from rfl, hp] at h2
  have h3 := name_one h hm
  have h4 := Lib.hid (fun w1 (hp1 : PS ys len bp bw vp w1 (i + 1)) => by
    have := is_ps hp1 ⟨#[91]⟩
    rw [eq_text, is_text hw len (i + 1) mk_91, show bl ⟨#[91]⟩ = [91] from rfl, hq] at this
    exact this)
  have h6 := Lib.hid (fun w1 (hp1 : PS ys len bp bw vp w1 (i + 1)) (hr1 : TR w1 v l0) => by
    have := bracketed_any hw hp1 hi he ⟨#[93]⟩ mk_93 hr1 (by omega)
    rw [show bl ⟨#[93]⟩ = [93] from rfl, hB] at this
    exact this)
  have HC := Lib.hid (show tmC ⟨3, 0, bl (tk ys len i).t⟩ = [.int .i64 3, .int .i64 0, .string (tk ys len i).t] from by unfold tmC; rw [sb_bl]; rfl)
  clear hn hp hm hq hB
  go_enter Tryd.func38, Tryd.ntmps38
  go_wp2_with (first | (go_at_call 48; refine h1.mono ?_; rintro e w' ⟨rfl, rfl⟩) | (go_at_call 49; refine h2.mono ?_; rintro e w' ⟨rfl, rfl⟩))
  go_at_call 51
  refine h3.mono ?_
  rintro e w1 ⟨rfl, hc1, hp1⟩
  have hr1 := tr_next h hr hc1
  have h5 := h4.out w1 hp1
  have hsz1 := hc1.size
  go_wp2_with (go_at_call 49; refine h5.mono ?_; rintro e w' ⟨rfl, rfl⟩)
  go_at_call 50
  refine (h6.out w1 hp1 hr1).mono ?_
  rintro e w2 ⟨hc2, v2, rfl, hr2, hp2, hob2⟩
  have hsz2 := hc2.size
  have hnew := tm_new w2 ⟨3, 0, bl (tk ys len i).t⟩ 46
  have hone := tm_one ⟨3, 0, bl (tk ys len i).t⟩
  have happ := Lib.hid (fun v' w9 => tr_app (t := ⟨3, 0, bl (tk ys len i).t⟩) (v' := v') (w9 := w9) hp2 hr2 46)
  have hlen : (l0 ++ l).length ≤ 131072 := by rw [List.length_append]; omega
  rw [HC.out] at hnew hone happ
  go_wp2_with (at_builtin; refine wpList_append_own_at _ rfl _ _ 22 rfl 0 46 i0 _ 3 32 Tryd.underlying22 hi0 hz0 hz1 hz2 rfl (by decide) _ _ _ rfl (hr2.alloc _) ⟨w2.heap.size, 0, none⟩ 1 1 [.int .i64 3, .int .i64 0, .string (tk ys len i).t] rfl rfl hnew hone (by unfold maxLen; omega) (by omega) (Nat.zero_le _) ?_)
  intro v' w9 hown9 hgrow9 _ hat9
  obtain ⟨a1, a2, a3, a4⟩ := happ.out v' w9 (by rw [List.length_append]; exact hown9) hgrow9 hat9
  rw [List.append_assoc] at a1
  clear hown9 hgrow9 hat9
  go_wp2
  go_ret
  refine ⟨((ts_le hc1).then hc2).trans a3 (fun k hk => ?_), v', rfl, a1, a2, fun k hk => ?_⟩
  · rcases hk with q | q
    · exact .inl (.inl q)
    · rcases hob2 k q with q | q
      · exact .inl (.inr q)
      · exact .inr (by omega)
  · rcases a4 k hk with q | q
    · rcases hob2 k q with q | q
      · exact .inl q
      · exact .inr (by omega)
    · exact .inr (by omega)

/-- **plain.** -/
theorem plain_any (hw : Ws ys) {d : Nat} {e : Option (Nat → Syn.R (List Syn.Tm))} (he : EOk ys len bp bw vp d e) : RdT ys len bp bw vp 38 (fun v => #[.pointer (some ⟨bp, 0, none⟩), v, .int .i64 (d : Int)]) (fun _ => True) (Syn.atom (Tk ys) e) := by
  intro w i v l0 _ h hr hb
  cases hn : isNum (Tk ys) i with
  | true => rw [atom_num len e hn]; exact plain_num h hn d hr hb
  | false =>
    rw [atom_rest e hn]
    cases hp : Syn.is (Tk ys) i [40] with
    | true => rw [if_pos rfl]; exact plain_par hw h hn hp he hr hb
    | false =>
      rw [if_neg (by simp)]
      unfold Syn.atomN
      cases hm : Syn.named (Tk ys) i with
      | false => rw [name_no hm]; exact plain_none hw h hn hp hm d v
      | true =>
        rw [name_yes len hm]
        simp only [Syn.R.on]
        cases hq : Syn.is (Tk ys) (i + 1) [91] with
        | false => rw [if_neg (by simp)]; exact plain_name hw h hn hp hm hq d hr hb
        | true =>
          rw [if_pos rfl, brack_g]
          cases hB : Syn.brack (Tk ys) e (fun l => l) [93] (i + 1) with
          | error q => exact plain_index_bad hw h hn hp hm hq he hr hb hB
          | ok q =>
            obtain ⟨l, j⟩ := q
            have hc := Syn.brack_cnt he.cnt (g := fun l => l) (fun l => Nat.le_succ _) hB
            have hf := (Syn.brack_fit (tk_nones ys) he.fit (fun l => l) [93] (lt_of_is hq)).pos hB
            exact plain_index hw h hn hp hm hq he hr hb hB hc hf
end
end Go.Proofs.YtnmcjkabihihiaaDoor
