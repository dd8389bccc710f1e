/- Plain: of a row of n tokens every fault's place is one of them, or the end; a reader never runs out of rounds, and stands within the row. -/
import Derived.Test.YtnmcjkabihihiaaDoorSynA
namespace Go.Proofs.Syn

/-- A fault of the grammar's, at a token or at the end; or what is read ends there. -/
def Fit {α : Type} (n : Nat) : R α → Prop
  | .error e => (e.1 = 50 ∨ e.1 = 10 ∨ e.1 = 74 ∨ e.1 = 51) ∧ e.2 ≤ n
  | .ok x => x.2 ≤ n
theorem Fit.on {α β : Type} {n : Nat} {r : R α} {f : α → Nat → R β} (h : Fit n r) (hf : ∀ x j, r = .ok (x, j) → j ≤ n → Fit n (f x j)) : Fit n (r.on f) := by
  match r, h, hf with
  | .error e, h, _ => exact h
  | .ok (x, j), h, hf => exact hf x j rfl h
theorem Fit.ok {α : Type} {n j : Nat} (x : α) (h : j ≤ n) : Fit n (.ok (x, j) : R α) := h
theorem Fit.err {α : Type} {n j : Nat} (h : j ≤ n) : Fit n (.error (50, j) : R α) := ⟨.inl rfl, h⟩
theorem Fit.sw {α : Type} {n : Nat} {c : Prop} [Decidable c] {a b : R α} (ha : c → Fit n a) (hb : ¬ c → Fit n b) : Fit n (if c then a else b) := by
  split
  · rename_i h; exact ha h
  · rename_i h; exact hb h

section
variable {T : Nat → Option K} {F n : Nat} (hN : ∀ i, n ≤ i → T i = none)
include hN
theorem is_lt {i : Nat} {s : List Nat} (h : is T i s = true) : i < n := by
  by_cases hi : n ≤ i
  · unfold is at h; rw [hN i hi] at h; cases h
  · omega
theorem named_lt {i : Nat} (h : named T i = true) : i < n := by
  by_cases hi : n ≤ i
  · unfold named at h; rw [hN i hi] at h; cases h
  · omega
theorem some_lt {i : Nat} {k : K} (h : T i = some k) : i < n := by
  by_cases hi : n ≤ i
  · rw [hN i hi] at h; cases h
  · omega
theorem opOf_lt {i : Nat} {ms : List (List Nat × Nat)} (h : opOf T ms i ≠ 0) : i < n := by
  unfold opOf at h
  split at h
  · rename_i x hx
    exact is_lt hN (s := x.1) (by simpa using List.find?_some hx)
  · exact absurd rfl h
theorem want_fit {i : Nat} (s : List Nat) (h : i ≤ n) : Fit n (want T i s) := Fit.sw (fun hc => Fit.ok _ (is_lt hN hc)) (fun _ => Fit.err h)
theorem name_fit {i : Nat} (h : i ≤ n) : Fit n (name T i) := by
  unfold name; split
  · rename_i k hk
    exact Fit.sw (fun _ => Fit.ok _ (some_lt hN hk)) (fun _ => Fit.err h)
  · exact Fit.err h
theorem number_fit {i : Nat} (h : i ≤ n) : Fit n (number T i) := by
  unfold number; split
  · rename_i k hk
    exact Fit.sw (fun _ => Fit.ok _ (some_lt hN hk)) (fun _ => Fit.err h)
  · exact Fit.err h
theorem labelF_fit (ns : List (List Nat)) : ∀ (f l i : Nat), i ≤ n → n < f + i → Fit n (labelF T ns f l i)
  | 0, _, _, h, hf => by omega
  | f + 1, l, i, h, hf => by
    rw [labelF]; split
    · rename_i k hk
      have := some_lt hN hk
      exact Fit.sw (fun _ => Fit.sw (fun _ => labelF_fit ns f _ _ (by omega) (by omega)) (fun _ => ⟨.inr (.inl rfl), h⟩)) (fun _ => Fit.ok _ h)
    · exact Fit.ok _ h
theorem label_fit (hF : n < F) (ns : List (List Nat)) {i : Nat} (h : i ≤ n) : Fit n (label T F ns i) :=
  (want_fit hN _ h).on fun _ _ _ h => (labelF_fit hN ns F 0 _ h (by omega)).on fun _ _ _ h => (want_fit hN _ h).on fun _ _ _ h => Fit.ok _ h
theorem decl_fit (hF : n < F) (ns : List (List Nat)) {i : Nat} (h : i ≤ n) : Fit n (decl T F ns i) :=
  (name_fit hN h).on fun _ _ _ h => (label_fit hN hF ns h).on fun _ _ _ h => Fit.ok _ h

/-- p stands within the row, and goes on. -/
def FitP {α : Type} (n : Nat) (p : Nat → R α) : Prop := ∀ i, i ≤ n → Fit n (p i) ∧ ∀ x j, p i = .ok (x, j) → i ≤ j
theorem loop_fit {p : Nat → R (List Tm)} (hp : FitP n p) (ms : List (List Nat × Nat)) : ∀ (f : Nat) (l : List Tm) (i : Nat), i ≤ n → n < f + i → Fit n (loopF T p ms f l i)
  | 0, _, _, h, hf => by omega
  | f + 1, l, i, h, hf => by
    rw [loopF]
    refine Fit.sw (fun _ => Fit.ok _ h) fun ho => ?_
    have := opOf_lt hN ho
    exact (hp (i + 1) this).1.on fun r j hr hj => loop_fit hp ms f _ j hj (by have := (hp (i + 1) this).2 _ _ hr; omega)
theorem tower_fit (hF : n < F) {u : Nat → R (List Tm)} (hu : FitP n u) : ∀ k, FitP n (tower T F u k)
  | 0 => hu
  | k + 1 => fun i hi => by
    have hk := tower_fit hF hu k
    refine ⟨?_, fun x j hx => ?_⟩
    · rw [tower]
      exact (hk i hi).1.on fun l j _ hj => loop_fit hN hk _ F l j hj (by omega)
    · rw [tower] at hx
      obtain ⟨l, j1, h1, h2⟩ := R.on_ok hx
      have a := (hk i hi).2 _ _ h1
      have hj1 : j1 ≤ n := by have := (hk i hi).1; rw [h1] at this; exact this
      have b : ∀ (f : Nat) (l : List Tm) (i : Nat) (l' : List Tm) (j : Nat), i ≤ n → loopF T (tower T F u k) (marks (5 - k)) f l i = .ok (l', j) → i ≤ j := by
        intro f
        induction f with
        | zero => intro l i l' j _ h; cases h
        | succ f ih =>
          intro l i l' j hi h
          rw [loopF] at h
          split at h
          · injection h with h; injection h with _ h; omega
          · rename_i ho
            have hlt := opOf_lt hN ho
            obtain ⟨r, i2, h3, h4⟩ := R.on_ok h
            have c := (hk (i + 1) hlt).2 _ _ h3
            have hi2 : i2 ≤ n := by have := (hk (i + 1) hlt).1; rw [h3] at this; exact this
            have := ih _ _ _ _ hi2 h4
            omega
      have := b _ _ _ _ _ hj1 h2
      omega
theorem unOps_fit : ∀ (f i : Nat), i ≤ n → n < f + i → Fit n (unOps T f i)
  | 0, _, h, hf => by omega
  | f + 1, i, h, hf => by
    rw [unOps]
    refine Fit.sw (fun _ => Fit.ok _ h) fun ho => ?_
    have := opOf_lt hN ho
    exact (unOps_fit f (i + 1) this (by omega)).on fun _ _ _ hj => Fit.ok _ hj
theorem brack_fit {e : Option (Nat → R (List Tm))} (he : ∀ p, e = some p → FitP n p) (g : List Tm → List Tm) (s : List Nat) {i : Nat} (h : i < n) : Fit n (brack T e g s i) := by
  unfold brack; split
  · exact ⟨.inr (.inr (.inr rfl)), by show i ≤ n; omega⟩
  · exact (he _ rfl (i + 1) h).1.on fun _ _ _ hj => (want_fit hN _ hj).on fun _ _ _ hj => Fit.ok _ hj
theorem atom_fit {e : Option (Nat → R (List Tm))} (he : ∀ p, e = some p → FitP n p) {i : Nat} (h : i ≤ n) : Fit n (atom T e i) := by
  unfold atom; split
  · exact Fit.err h
  · rename_i k hk
    exact Fit.sw (fun _ => Fit.ok _ (some_lt hN hk)) fun _ => Fit.sw (fun hi => brack_fit hN he _ _ (is_lt hN hi)) fun _ =>
      (name_fit hN h).on fun s j _ hj => Fit.sw (fun hi => brack_fit hN he _ _ (is_lt hN hi)) fun _ => Fit.ok _ hj
theorem unary_fit (hF : n < F) {e : Option (Nat → R (List Tm))} (he : ∀ p, e = some p → FitP n p) (hg : ∀ p, e = some p → Good p) : FitP n (unary T F e) := fun i hi => by
  refine ⟨?_, fun x j hx => Nat.le_of_lt (unary_good hg _ _ _ hx).2⟩
  rw [unary_atom]
  exact (unOps_fit hN F i hi (by omega)).on fun _ _ _ hj => (atom_fit hN he hj).on fun _ _ _ hj => Fit.ok _ hj
theorem expr_fit (hF : n < F) : ∀ d, FitP n (exprD T F d)
  | 0 => tower_fit hN hF (unary_fit hN hF (fun p h => by cases h) (fun p h => by cases h)) 6
  | d + 1 => tower_fit hN hF (unary_fit hN hF (fun p h => by cases h; exact expr_fit hF d) (fun p h => by cases h; exact expr_good d)) 6
theorem listF_fit {e : Nat → R (List Tm)} (he : FitP n e) (s : List Nat) : ∀ (f : Nat) (l : List (List Tm)) (i : Nat), i ≤ n → n < f + i → Fit n (listF T e s f l i)
  | 0, _, _, h, hf => by omega
  | f + 1, l, i, h, hf => by
    rw [listF]
    refine (he i h).1.on fun x j hx hj => Fit.sw (fun hi => Fit.ok _ (is_lt hN hi)) fun _ => Fit.sw (fun hi => listF_fit he s f _ _ (is_lt hN hi) ?_) fun _ => Fit.err hj
    have := (he i h).2 _ _ hx
    omega
theorem list_fit (hF : n < F) (s : List Nat) {i : Nat} (h : i ≤ n) : Fit n (list T F s i) :=
  Fit.sw (fun hi => Fit.ok _ (is_lt hN hi)) fun _ => listF_fit hN (expr_fit hN hF 12) s _ _ _ h (by omega)
theorem targetsF_fit : ∀ (f : Nat) (l : List (List Nat)) (i : Nat), i ≤ n → n < f + i → Fit n (targetsF T f l i)
  | 0, _, _, h, hf => by omega
  | f + 1, l, i, h, hf => by
    rw [targetsF]
    exact Fit.sw (fun hi => (name_fit hN (is_lt hN hi)).on fun s j hs hj => targetsF_fit f _ j hj (by have := (name_ok hs).2.1; omega)) fun _ => Fit.ok _ h
theorem stmtsF_fit {s : Nat → R (List St)} (hs : ∀ i, i ≤ n → Fit n (s i)) (hg : GoodS s) (e : List Nat) : ∀ (f : Nat) (l : List St) (i : Nat), i ≤ n → n < f + i → Fit n (stmtsF T s e f l i)
  | 0, _, _, h, hf => by omega
  | f + 1, l, i, h, hf => by
    rw [stmtsF]
    exact Fit.sw (fun hi => Fit.ok _ (is_lt hN hi)) fun _ => (hs i h).on fun x j hx hj => stmtsF_fit hs hg e f _ j hj (by have := (hg _ _ _ hx).2.2; omega)
theorem block_fit (hF : n < F) {s : Option (Nat → R (List St))} (hs : ∀ p, s = some p → ∀ i, i ≤ n → Fit n (p i)) (hg : ∀ p, s = some p → GoodS p) {i : Nat} (h : i ≤ n) : Fit n (block T F s i) := by
  unfold block; split
  · exact Fit.sw (fun _ => ⟨.inr (.inr (.inr rfl)), h⟩) fun _ => Fit.err h
  · exact (want_fit hN _ h).on fun _ j _ hj => stmtsF_fit hN (hs _ rfl) (hg _ rfl) _ F _ j hj (by omega)
theorem call_fit (hF : n < F) (ts : List (List Nat)) (s : List Nat) {i : Nat} (h : i ≤ n) : Fit n (call T F ts s i) :=
  (want_fit hN _ h).on fun _ _ _ h => (list_fit hN hF _ h).on fun _ _ _ h => (want_fit hN _ h).on fun _ _ _ h => Fit.ok _ h
theorem plain_fit (hF : n < F) {i : Nat} (h : i ≤ n) : Fit n (plain T F i) :=
  (name_fit hN h).on fun s j _ h => Fit.sw
    (fun hi => (expr_fit hN hF 12 (j + 1) (is_lt hN hi)).1.on fun _ _ _ h => (want_fit hN _ h).on fun _ _ _ h => (want_fit hN _ h).on fun _ j _ h => (expr_fit hN hF 12 j h).1.on fun _ _ _ h => (want_fit hN _ h).on fun _ _ _ h => Fit.ok _ h)
    fun _ => Fit.sw (fun _ => call_fit hN hF _ _ h) fun _ => (targetsF_fit hN F _ j h (by omega)).on fun ts _ _ h => (want_fit hN _ h).on fun _ j _ h => Fit.sw
      (fun _ => (expr_fit hN hF 12 j h).1.on fun _ _ _ h => (want_fit hN _ h).on fun _ _ _ h => Fit.ok _ h)
      fun _ => (name_fit hN h).on fun _ _ _ h => call_fit hN hF _ _ h
theorem stmtOf_fit (hF : n < F) {s : Option (Nat → R (List St))} (hs : ∀ p, s = some p → ∀ i, i ≤ n → Fit n (p i)) (hg : ∀ p, s = some p → GoodS p) {i : Nat} (h : i ≤ n) : Fit n (stmtOf T F s i) :=
  Fit.sw (fun hi => (expr_fit hN hF 12 (i + 1) (is_lt hN hi)).1.on fun _ _ _ h => (block_fit hN hF hs hg h).on fun _ _j _ h => Fit.sw
      (fun hi => (block_fit hN hF hs hg (is_lt hN hi)).on fun _ _ _ h => Fit.ok _ h) fun _ => Fit.ok _ h)
    fun _ => Fit.sw (fun hi => (expr_fit hN hF 12 (i + 1) (is_lt hN hi)).1.on fun _ _ _ h => (block_fit hN hF hs hg h).on fun _ _ _ h => Fit.ok _ h)
    fun _ => Fit.sw (fun hi => (name_fit hN (is_lt hN hi)).on fun _ j _ h => (expr_fit hN hF 12 j h).1.on fun _ _ _ h => (want_fit hN _ h).on fun _ _ _ h => Fit.ok _ h)
    fun _ => plain_fit hN hF h
theorem stmt_fit (hF : n < F) : ∀ d i, i ≤ n → Fit n (stmtD T F d i)
  | 0, _, h => stmtOf_fit hN hF (fun p h => by cases h) (fun p h => by cases h) h
  | d + 1, _, h => stmtOf_fit hN hF (fun p h => by cases h; exact stmt_fit hF d) (fun p h => by cases h; exact stmt_good d) h
theorem rowF_fit {α : Type} {p : Nat → R α} (hp : FitP n p) : ∀ (f : Nat) (l : List α) (i : Nat), i ≤ n → n < f + i → Fit n (rowF T p f l i)
  | 0, _, _, h, hf => by omega
  | f + 1, l, i, h, hf => by
    rw [rowF]
    refine (hp i h).1.on fun x j hx hj => Fit.sw (fun hi => Fit.ok _ (is_lt hN hi)) fun _ => Fit.sw (fun hi => rowF_fit hp f _ _ (is_lt hN hi) ?_) fun _ => Fit.err hj
    have := (hp i h).2 _ _ hx
    omega
theorem row_fit (hF : n < F) {α : Type} {p : Nat → R α} (hp : FitP n p) {i : Nat} (h : i ≤ n) : Fit n (row T F p i) :=
  (want_fit hN _ h).on fun _ j _ h => Fit.sw (fun hi => Fit.ok _ (is_lt hN hi)) fun _ => rowF_fit hN hp F _ j h (by omega)
omit hN in
theorem on_from {α : Type} {p : Nat → R α} (h : ∀ i, i ≤ fin (p i)) : ∀ i x j, p i = .ok (x, j) → i ≤ j := fun i x j hx => by
  have := h i
  rwa [hx] at this
theorem label_fitP (hF : n < F) (ns : List (List Nat)) : FitP n (label T F ns) := fun i hi => ⟨label_fit hN hF ns hi, on_from (fun i => (label_loc (T' := T) (m := 0) (fun _ _ => rfl) ns i).1) i⟩
theorem decl_fitP (hF : n < F) (ns : List (List Nat)) : FitP n (decl T F ns) := fun i hi => ⟨decl_fit hN hF ns hi, on_from (fun i => (decl_loc (T' := T) (m := 0) (fun _ _ => rfl) ns i).1) i⟩
theorem varsF_fit (hF : n < F) (ns : List (List Nat)) : ∀ (f : Nat) (l : List De) (i : Nat), i ≤ n → n < f + i → Fit n (varsF T F ns f l i)
  | 0, _, _, h, hf => by omega
  | f + 1, l, i, h, hf => by
    rw [varsF]
    refine Fit.sw (fun hi => (decl_fit hN hF ns (is_lt hN hi)).on fun d j hd hj => (want_fit hN _ hj).on fun _ k hk hkn => varsF_fit hF ns f _ k hkn ?_) fun _ => Fit.ok _ h
    have := (decl_fitP hN hF ns (i + 1) (is_lt hN hi)).2 _ _ hd
    have := (want_ok hk).2
    omega
theorem func_fit (hF : n < F) (ns : List (List Nat)) {i : Nat} (h : i ≤ n) : Fit n (func T F ns i) :=
  (name_fit hN h).on fun _ _ _ h => (label_fit hN hF ns h).on fun _ _ _ h => (row_fit hN hF (decl_fitP hN hF ns) h).on fun _ _ _ h => (row_fit hN hF (label_fitP hN hF ns) h).on fun _ _ _ h =>
    (want_fit hN _ h).on fun _ j _ h => (varsF_fit hN hF ns F _ j h (by omega)).on fun _ j _ h => (stmtsF_fit hN (stmt_fit hN hF 12) (stmt_good 12) _ F _ j h (by omega)).on fun _ _ _ h =>
      (list_fit hN hF _ h).on fun _ _ _ h => (want_fit hN _ h).on fun _ _ _ h => Fit.ok _ h
theorem namesF_fit : ∀ (f : Nat) (l : List (List Nat)) (i : Nat), i ≤ n → n < f + i → Fit n (namesF T f l i)
  | 0, _, _, h, hf => by omega
  | f + 1, l, i, h, hf => by
    rw [namesF]
    exact (name_fit hN h).on fun s j hs hj => Fit.sw (fun _ => ⟨.inr (.inr (.inl rfl)), h⟩) fun _ => Fit.sw (fun _ => namesF_fit f _ j hj (by have := (name_ok hs).2.1; omega)) fun _ => Fit.ok _ hj
theorem principalsF_fit (hF : n < F) : ∀ (f : Nat) (l : List (List Nat)) (i : Nat), i ≤ n → n < f + i → Fit n (principalsF T F f l i)
  | 0, _, _, h, hf => by omega
  | f + 1, l, i, h, hf => by
    rw [principalsF]
    refine Fit.sw (fun hi => (namesF_fit hN F l (i + 1) (is_lt hN hi) (by omega)).on fun d j hd hj => (want_fit hN _ hj).on fun _ k hk hkn => principalsF_fit hF f _ k hkn ?_) fun _ => Fit.ok _ h
    have := on_from (p := namesF T F l) (fun i => (namesF_loc (T' := T) (m := 0) (fun _ _ => rfl) F l i).1) _ _ _ hd
    have := (want_ok hk).2
    omega
theorem declsF_fit (hF : n < F) (ns : List (List Nat)) : ∀ (f : Nat) (s : So) (i : Nat), i ≤ n → n < f + i → Fit n (declsF T F ns f s i)
  | 0, _, _, h, hf => by omega
  | f + 1, s, i, h, hf => by
    rw [declsF]; split
    · exact Fit.ok _ h
    · refine Fit.sw (fun hi => (decl_fit hN hF ns (is_lt hN hi)).on fun d j hd hj => (want_fit hN _ hj).on fun _ k hk hkn => declsF_fit hF ns f _ k hkn ?_) fun _ =>
        Fit.sw (fun hi => (decl_fit hN hF ns (is_lt hN hi)).on fun d j hd hj => (want_fit hN _ hj).on fun _ k hk hkn => declsF_fit hF ns f _ k hkn ?_) fun _ =>
        Fit.sw (fun hi => (name_fit hN (is_lt hN hi)).on fun nm j hm hj => (number_fit hN hj).on fun v j2 hv hj2 => (label_fit hN hF ns hj2).on fun l j3 hl hj3 => (want_fit hN _ hj3).on fun _ k hk hkn => declsF_fit hF ns f _ k hkn ?_) fun _ =>
        Fit.sw (fun hi => (func_fit hN hF ns (is_lt hN hi)).on fun g j hg hj => declsF_fit hF ns f _ j hj ?_) fun _ => Fit.err h
      · have := (decl_fitP hN hF ns (i + 1) (is_lt hN hi)).2 _ _ hd
        have := (want_ok hk).2
        omega
      · have := (decl_fitP hN hF ns (i + 1) (is_lt hN hi)).2 _ _ hd
        have := (want_ok hk).2
        omega
      · have := (name_ok hm).2.1
        have := on_from (p := number T) (fun i => (number_loc (T' := T) (m := 0) (fun _ _ => rfl) i).1) _ _ _ hv
        have := (label_fitP hN hF ns j2 hj2).2 _ _ hl
        have := (want_ok hk).2
        omega
      · have := on_from (p := func T F ns) (fun i => (func_loc (T' := T) (m := 0) (fun _ _ => rfl) (by omega) ns i).1) _ _ _ hg
        omega
/-- A source's fault is one of the grammar's four, at a token or at the end. -/
theorem source_fit (hF : n < F) : Fit n (source T F) :=
  (principalsF_fit hN hF F [] 0 (by omega) (by omega)).on fun ns j _ hj => declsF_fit hN hF ns F _ j hj (by omega)
theorem whole1_fit (hF : n < F) : Fit n (whole1 T F) :=
  (expr_fit hN hF 12 0 (by omega)).1.on fun _ _ _ hj => Fit.sw (fun _ => Fit.err hj) fun _ => Fit.ok _ hj
end
end Go.Proofs.Syn
