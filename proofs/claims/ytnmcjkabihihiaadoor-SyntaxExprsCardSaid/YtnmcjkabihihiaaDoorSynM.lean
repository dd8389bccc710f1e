/- Plain: what a row of tokens is read as, by the document's grammar: the first fault and the number of its token, or what is read and the number of the token behind. No bytes, no memory. -/
namespace Go.Proofs.Syn

/-- A token, as the grammar sees it: its kind (1 name, 2 keyword, 3 number, 4 mark), its text, its number. -/
structure K where
  kind : Nat
  text : List Nat
  value : Nat
deriving DecidableEq
/-- A term of an expression told backward. -/
structure Tm where
  kind : Nat
  value : Nat
  name : List Nat
deriving DecidableEq
structure St where
  kind : Nat
  name : List Nat
  targets : List (List Nat)
  exprs : List (List Tm)
deriving DecidableEq
structure De where
  name : List Nat
  label : Nat
deriving DecidableEq
structure Ar where
  name : List Nat
  len : Nat
  label : Nat
deriving DecidableEq
structure Fn where
  name : List Nat
  level : Nat
  params : List De
  results : List Nat
  vars : List De
  body : List St
deriving DecidableEq
structure So where
  principals : List (List Nat)
  globals : List De
  arrays : List Ar
  channels : List De
  funcs : List Fn
deriving DecidableEq

/-- What is read and the place behind, or the fault and its token's place. -/
abbrev R (α : Type) := Except (Nat × Nat) (α × Nat)
/-- Read on. -/
def R.on {α β : Type} (r : R α) (f : α → Nat → R β) : R β :=
  match r with
  | .error e => .error e
  | .ok (x, i) => f x i

/-- A byte string's numbers. -/
def tx (s : String) : List Nat := s.toUTF8.data.toList.map UInt8.toNat

section
variable (T : Nat → Option K) (F : Nat)

def is (i : Nat) (s : List Nat) : Bool :=
  match T i with
  | some k => (k.kind == 2 || k.kind == 4) && k.text == s
  | none => false
def named (i : Nat) : Bool :=
  match T i with
  | some k => k.kind == 1
  | none => false
def want (i : Nat) (s : List Nat) : R Unit := if is T i s then .ok ((), i + 1) else .error (50, i)
def name (i : Nat) : R (List Nat) :=
  match T i with
  | some k => if k.kind = 1 then .ok (k.text, i + 1) else .error (50, i)
  | none => .error (50, i)
def number (i : Nat) : R Nat :=
  match T i with
  | some k => if k.kind = 3 then .ok (k.value, i + 1) else .error (50, i)
  | none => .error (50, i)

/-! ## Labels -/
/-- The names of a label. -/
def labelF (ns : List (List Nat)) : Nat → Nat → Nat → R Nat
  | 0, _, i => .error (99, i)
  | f + 1, l, i =>
    match T i with
    | some k =>
      if k.kind = 1 then
        if ns.idxOf k.text < ns.length then labelF ns f (l ||| 1 <<< ns.idxOf k.text) (i + 1) else .error (10, i)
      else .ok (l, i)
    | none => .ok (l, i)
def label (ns : List (List Nat)) (i : Nat) : R Nat :=
  (want T i [123]).on fun _ i => (labelF T ns F 0 i).on fun l i => (want T i [125]).on fun _ i => .ok (l, i)
def decl (ns : List (List Nat)) (i : Nat) : R De :=
  (name T i).on fun s i => (label T F ns i).on fun l i => .ok (⟨s, l⟩, i)

/-! ## Expressions -/
/-- The operations of a level (of 0 to 5), and their numbers. -/
def marks : Nat → List (List Nat × Nat)
  | 0 => [([61, 61], 11), ([33, 61], 12), ([60], 13), ([60, 61], 14)]
  | 1 => [([124], 7), ([94], 8)]
  | 2 => [([38], 6)]
  | 3 => [([60, 60], 9), ([62, 62], 10)]
  | 4 => [([43], 1), ([45], 2)]
  | _ => [([42], 3), ([47], 4), ([37], 5)]
/-- Which operation of a list stands there? (0: none.) -/
def opOf (ms : List (List Nat × Nat)) (i : Nat) : Nat :=
  match ms.find? fun m => is T i m.1 with
  | some m => m.2
  | none => 0
/-- Binary operations of one level, from the left; p reads what stands between them. -/
def loopF (p : Nat → R (List Tm)) (ms : List (List Nat × Nat)) : Nat → List Tm → Nat → R (List Tm)
  | 0, _, i => .error (99, i)
  | f + 1, l, i => if opOf T ms i = 0 then .ok (l, i) else (p (i + 1)).on fun r j => loopF p ms f (l ++ r ++ [⟨5, opOf T ms i, []⟩]) j
/-- Levels: k of them above u. -/
def tower (u : Nat → R (List Tm)) : Nat → Nat → R (List Tm)
  | 0, i => u i
  | k + 1, i => (tower u k i).on fun l j => loopF T (tower u k) (marks (5 - k)) F l j
/-- The unary operations ahead. -/
def unOps : Nat → Nat → R (List Nat)
  | 0, i => .error (99, i)
  | f + 1, i => if opOf T [([45], 15), ([33], 16), ([126], 17)] i = 0 then .ok ([], i) else (unOps f (i + 1)).on fun l j => .ok (opOf T [([45], 15), ([33], 16), ([126], 17)] i :: l, j)
/-- Operations and what they are of; e reads what stands within brackets (none: they would be too deep). -/
def unary (e : Option (Nat → R (List Tm))) (i : Nat) : R (List Tm) :=
  (unOps T F i).on fun ops i =>
    R.on (β := List Tm)
      (match T i with
       | none => .error (50, i)
       | some k =>
         if k.kind = 3 then .ok ([⟨1, k.value, []⟩], i + 1)
         else if is T i [40] then
           match e with
           | none => .error (51, i)
           | some p => (p (i + 1)).on fun l i => (want T i [41]).on fun _ i => .ok (l, i)
         else (name T i).on fun s i =>
           if is T i [91] then
             match e with
             | none => .error (51, i)
             | some p => (p (i + 1)).on fun l i => (want T i [93]).on fun _ i => .ok (l ++ [⟨3, 0, s⟩], i)
           else .ok ([⟨2, 0, s⟩], i))
      fun l i => .ok (l ++ ops.reverse.map fun o => ⟨4, o, []⟩, i)
/-- An expression within brackets of which d more may follow. -/
def exprD : Nat → Nat → R (List Tm)
  | 0 => tower T F (unary T F none) 6
  | d + 1 => tower T F (unary T F (some (exprD d))) 6
def expr : Nat → R (List Tm) := exprD T F 12

/-! ## Statements -/
/-- Expressions with commas between, from the first on, and the mark behind them. -/
def listF (e : Nat → R (List Tm)) (fin : List Nat) : Nat → List (List Tm) → Nat → R (List (List Tm))
  | 0, _, i => .error (99, i)
  | f + 1, l, i => (e i).on fun x i =>
      if is T i fin then .ok (l ++ [x], i + 1) else if is T i [44] then listF e fin f (l ++ [x]) (i + 1) else .error (50, i)
def list (fin : List Nat) (i : Nat) : R (List (List Tm)) := if is T i fin then .ok ([], i + 1) else listF T (expr T F) fin F [] i
/-- More targets. -/
def targetsF : Nat → List (List Nat) → Nat → R (List (List Nat))
  | 0, _, i => .error (99, i)
  | f + 1, l, i => if is T i [44] then (name T (i + 1)).on fun s i => targetsF f (l ++ [s]) i else .ok (l, i)
/-- The statements up to a mark or keyword. -/
def stmtsF (s : Nat → R (List St)) (fin : List Nat) : Nat → List St → Nat → R (List St)
  | 0, _, i => .error (99, i)
  | f + 1, l, i => if is T i fin then .ok (l, i + 1) else (s i).on fun x i => stmtsF s fin f (l ++ x) i
/-- A block; s reads one of its statements (none: it would be too deep). -/
def block (s : Option (Nat → R (List St))) (i : Nat) : R (List St) :=
  match s with
  | none => if is T i [123] then .error (51, i) else .error (50, i)
  | some s => (want T i [123]).on fun _ i => stmtsF T s [125] F [] i
def call (ts : List (List Nat)) (s : List Nat) (i : Nat) : R (List St) :=
  (want T i [40]).on fun _ i => (list T F [41] i).on fun l i => (want T i [59]).on fun _ i => .ok ([⟨4, s, ts, l⟩], i)
/-- A statement that begins with a name. -/
def plain (i : Nat) : R (List St) :=
  (name T i).on fun s i =>
    if is T i [91] then
      (expr T F (i + 1)).on fun a i => (want T i [93]).on fun _ i => (want T i [61]).on fun _ i => (expr T F i).on fun b i => (want T i [59]).on fun _ i => .ok ([⟨2, s, [], [a, b]⟩], i)
    else if is T i [40] then call T F [] s i
    else (targetsF T F [s] i).on fun ts i => (want T i [61]).on fun _ i =>
      if ts.length = 1 ∧ ¬ (named T i = true ∧ is T (i + 1) [40] = true) then
        (expr T F i).on fun e i => (want T i [59]).on fun _ i => .ok ([⟨1, [], ts, [e]⟩], i)
      else (name T i).on fun s i => call T F ts s i
/-- A statement; s reads one a block deeper. -/
def stmtOf (s : Option (Nat → R (List St))) (i : Nat) : R (List St) :=
  if is T i (tx "if") then
    (expr T F (i + 1)).on fun e i => (block T F s i).on fun a i =>
      if is T i (tx "else") then (block T F s (i + 1)).on fun b i => .ok (⟨5, [], [], [e]⟩ :: a ++ ⟨6, [], [], []⟩ :: b ++ [⟨8, [], [], []⟩], i)
      else .ok (⟨5, [], [], [e]⟩ :: a ++ [⟨8, [], [], []⟩], i)
  else if is T i (tx "while") then
    (expr T F (i + 1)).on fun e i => (block T F s i).on fun a i => .ok (⟨7, [], [], [e]⟩ :: a ++ [⟨8, [], [], []⟩], i)
  else if is T i (tx "send") then
    (name T (i + 1)).on fun c i => (expr T F i).on fun e i => (want T i [59]).on fun _ i => .ok ([⟨3, c, [], [e]⟩], i)
  else plain T F i
/-- A statement in a block within which d more may nest. -/
def stmtD : Nat → Nat → R (List St)
  | 0 => stmtOf T F none
  | d + 1 => stmtOf T F (some (stmtD d))

/-! ## Functions and sources -/
/-- Parameters, or results, from the first on, with what closes them. -/
def rowF {α : Type} (p : Nat → R α) : Nat → List α → Nat → R (List α)
  | 0, _, i => .error (99, i)
  | f + 1, l, i => (p i).on fun x i =>
      if is T i [41] then .ok (l ++ [x], i + 1) else if is T i [44] then rowF p f (l ++ [x]) (i + 1) else .error (50, i)
def row {α : Type} (p : Nat → R α) (i : Nat) : R (List α) := (want T i [40]).on fun _ i => if is T i [41] then .ok ([], i + 1) else rowF T p F [] i
def varsF (ns : List (List Nat)) : Nat → List De → Nat → R (List De)
  | 0, _, i => .error (99, i)
  | f + 1, l, i => if is T i (tx "var") then (decl T F ns (i + 1)).on fun d i => (want T i [59]).on fun _ i => varsF ns f (l ++ [d]) i else .ok (l, i)
def func (ns : List (List Nat)) (i : Nat) : R Fn :=
  (name T i).on fun s i => (label T F ns i).on fun l i => (row T F (decl T F ns) i).on fun ps i => (row T F (label T F ns) i).on fun rs i =>
    (want T i [123]).on fun _ i => (varsF T F ns F [] i).on fun vs i => (stmtsF T (stmtD T F 12) (tx "return") F [] i).on fun b i =>
      (list T F [59] i).on fun es i => (want T i [125]).on fun _ i => .ok (⟨s, l, ps, rs, vs, b ++ [⟨9, [], [], es⟩]⟩, i)
/-- The names of one row of principals, from the first on. -/
def namesF : Nat → List (List Nat) → Nat → R (List (List Nat))
  | 0, _, i => .error (99, i)
  | f + 1, l, i => (name T i).on fun s j =>
      if l.length = 64 then .error (74, i) else if named T j then namesF f (l ++ [s]) j else .ok (l ++ [s], j)
def principalsF : Nat → List (List Nat) → Nat → R (List (List Nat))
  | 0, _, i => .error (99, i)
  | f + 1, l, i => if is T i (tx "principal") then (namesF T F l (i + 1)).on fun l i => (want T i [59]).on fun _ i => principalsF f l i else .ok (l, i)
def declsF (ns : List (List Nat)) : Nat → So → Nat → R So
  | 0, _, i => .error (99, i)
  | f + 1, s, i =>
    match T i with
    | none => .ok (s, i)
    | some _ =>
      if is T i (tx "global") then (decl T F ns (i + 1)).on fun d i => (want T i [59]).on fun _ i => declsF ns f { s with globals := s.globals ++ [d] } i
      else if is T i (tx "channel") then (decl T F ns (i + 1)).on fun d i => (want T i [59]).on fun _ i => declsF ns f { s with channels := s.channels ++ [d] } i
      else if is T i (tx "array") then
        (name T (i + 1)).on fun n i => (number T i).on fun v i => (label T F ns i).on fun l i => (want T i [59]).on fun _ i => declsF ns f { s with arrays := s.arrays ++ [⟨n, v, l⟩] } i
      else if is T i (tx "func") then (func T F ns (i + 1)).on fun g i => declsF ns f { s with funcs := s.funcs ++ [g] } i
      else .error (50, i)
/-- A source. -/
def source : R So := (principalsF T F F [] 0).on fun ns i => declsF T F ns F ⟨ns, [], [], [], []⟩ i
/-- One expression, and nothing behind it. -/
def whole1 : R (List Tm) := (expr T F 0).on fun l i => if (T i).isSome then .error (50, i) else .ok (l, i)
end

/-! ## What follows: each expression that is read is whole -/
/-- What a row of terms makes of n values. -/
def run : List Tm → Nat → Option Nat
  | [], n => some n
  | t :: l, n =>
    if t.kind = 1 ∨ t.kind = 2 then run l (n + 1)
    else if t.kind = 3 ∨ t.kind = 4 ∧ 15 ≤ t.value ∧ t.value ≤ 17 then (if n < 1 then none else run l n)
    else if t.kind = 5 ∧ 1 ≤ t.value ∧ t.value ≤ 14 then (if n < 2 then none else run l (n - 1))
    else none
/-- A row that makes one value more, whatever stands ahead and behind. -/
def Wh (l : List Tm) : Prop := ∀ (n : Nat) (r : List Tm), run (l ++ r) n = run r (n + 1)
theorem Wh.run {l : List Tm} (h : Wh l) : Syn.run l 0 = some 1 := by
  have := h 0 []
  rwa [List.append_nil] at this
theorem wh_num (v : Nat) : Wh [⟨1, v, []⟩] := fun n r => by simp [Syn.run]
theorem wh_name (s : List Nat) : Wh [⟨2, 0, s⟩] := fun n r => by simp [Syn.run]
theorem Wh.index {l : List Tm} (h : Wh l) (s : List Nat) : Wh (l ++ [⟨3, 0, s⟩]) := fun n r => by
  rw [List.append_assoc, h]; simp [Syn.run]
theorem Wh.un {l : List Tm} (h : Wh l) {o : Nat} (h1 : 15 ≤ o) (h2 : o ≤ 17) : Wh (l ++ [⟨4, o, []⟩]) := fun n r => by
  rw [List.append_assoc, h]; simp [Syn.run, h1, h2]
theorem Wh.bin {l r : List Tm} (h : Wh l) (h' : Wh r) {o : Nat} (h1 : 1 ≤ o) (h2 : o ≤ 14) : Wh (l ++ r ++ [⟨5, o, []⟩]) := fun n q => by
  rw [List.append_assoc, List.append_assoc, h, h']; simp [Syn.run, h1, h2]; intro; omega
theorem Wh.uns {l : List Tm} (h : Wh l) : ∀ (ops : List Nat), (∀ o ∈ ops, 15 ≤ o ∧ o ≤ 17) → Wh (l ++ ops.map fun o => ⟨4, o, []⟩)
  | [], _ => by rwa [List.map_nil, List.append_nil]
  | o :: ops, ho => by
    have h1 := ho o (List.mem_cons_self ..)
    have := Wh.uns (h.un h1.1 h1.2) ops (fun x hx => ho x (List.mem_cons_of_mem _ hx))
    rwa [List.append_assoc] at this

section
variable {T : Nat → Option K} {F : Nat}
theorem R.on_ok {α β : Type} {r : R α} {f : α → Nat → R β} {y : β} {j : Nat} (h : r.on f = .ok (y, j)) : ∃ x i, r = .ok (x, i) ∧ f x i = .ok (y, j) := by
  match r, h with
  | .ok (x, i), h => exact ⟨x, i, rfl, h⟩
theorem want_ok {i j : Nat} {s : List Nat} {u : Unit} (h : want T i s = .ok (u, j)) : is T i s = true ∧ j = i + 1 := by
  unfold want at h
  split at h
  · rename_i hi
    injection h with h; injection h with _ h
    exact ⟨hi, h.symm⟩
  · cases h
theorem name_ok {i j : Nat} {s : List Nat} (h : name T i = .ok (s, j)) : named T i = true ∧ j = i + 1 ∧ ∃ k, T i = some k ∧ k.text = s ∧ k.kind = 1 := by
  unfold name at h
  split at h
  · rename_i k hk
    split at h
    · rename_i h1
      injection h with h; injection h with h2 h
      exact ⟨by simp [named, hk, h1], h.symm, k, hk, h2, h1⟩
    · cases h
  · cases h
theorem opOf_mem {ms : List (List Nat × Nat)} {i : Nat} (h : opOf T ms i ≠ 0) : ∃ m ∈ ms, m.2 = opOf T ms i := by
  unfold opOf at h ⊢
  split
  · rename_i m hm
    exact ⟨m, List.mem_of_find?_eq_some hm, rfl⟩
  · rename_i hm
    rw [hm] at h
    exact absurd rfl h
theorem marks_ok (k : Nat) : ∀ m ∈ marks k, 1 ≤ m.2 ∧ m.2 ≤ 14 := by
  have : (marks k).all (fun m => decide (1 ≤ m.2 ∧ m.2 ≤ 14)) = true := by
    unfold marks
    split <;> decide
  intro m hm
  simpa using List.all_eq_true.1 this m hm
/-- p reads whole expressions, and goes on. -/
def Good (p : Nat → R (List Tm)) : Prop := ∀ i l j, p i = .ok (l, j) → Wh l ∧ i < j
theorem loop_good {p : Nat → R (List Tm)} (hp : Good p) (k : Nat) : ∀ (f : Nat) (l : List Tm) (i : Nat) (l' : List Tm) (j : Nat), Wh l → loopF T p (marks k) f l i = .ok (l', j) → Wh l' ∧ i ≤ j
  | 0, _, _, _, _, _, h => by cases h
  | f + 1, l, i, l', j, hl, h => by
    rw [loopF] at h
    split at h
    · injection h with h; injection h with h1 h2
      subst h1; subst h2
      exact ⟨hl, Nat.le_refl _⟩
    · rename_i ho
      obtain ⟨r, i2, h1, h2⟩ := R.on_ok h
      obtain ⟨hr, hi⟩ := hp _ _ _ h1
      obtain ⟨m, hm, he⟩ := opOf_mem ho
      have hb := marks_ok k m hm
      rw [he] at hb
      obtain ⟨a, b⟩ := loop_good hp k f _ i2 l' j (hl.bin hr hb.1 hb.2) h2
      exact ⟨a, by omega⟩
theorem tower_good {u : Nat → R (List Tm)} (hu : Good u) : ∀ k, Good (tower T F u k)
  | 0 => fun i l j h => hu i l j h
  | k + 1 => fun i l j h => by
    rw [tower] at h
    obtain ⟨l1, i1, h1, h2⟩ := R.on_ok h
    obtain ⟨a, b⟩ := tower_good hu k _ _ _ h1
    obtain ⟨c, d⟩ := loop_good (tower_good hu k) _ _ _ _ _ _ a h2
    exact ⟨c, by omega⟩
theorem unOps_good : ∀ (f i : Nat) (l : List Nat) (j : Nat), unOps T f i = .ok (l, j) → (∀ o ∈ l, 15 ≤ o ∧ o ≤ 17) ∧ i ≤ j
  | 0, _, _, _, h => by cases h
  | f + 1, i, l, j, h => by
    rw [unOps] at h
    split at h
    · injection h with h; injection h with h1 h2
      subst h1; subst h2
      exact ⟨fun _ hx => (by cases hx), Nat.le_refl _⟩
    · rename_i ho
      obtain ⟨l1, i1, h1, h2⟩ := R.on_ok h
      injection h2 with h2; injection h2 with h2 h3
      subst h2; subst h3
      obtain ⟨a, b⟩ := unOps_good f _ _ _ h1
      obtain ⟨m, hm, he⟩ := opOf_mem ho
      have hb : 15 ≤ m.2 ∧ m.2 ≤ 17 := by
        have : ([([45], 15), ([33], 16), ([126], 17)] : List (List Nat × Nat)).all (fun m => decide (15 ≤ m.2 ∧ m.2 ≤ 17)) = true := by decide
        simpa using List.all_eq_true.1 this m hm
      rw [he] at hb
      refine ⟨fun o hx => ?_, by omega⟩
      rcases List.mem_cons.1 hx with rfl | hx
      · exact hb
      · exact a o hx
theorem unary_good {e : Option (Nat → R (List Tm))} (he : ∀ p, e = some p → Good p) : Good (unary T F e) := by
  intro i l j h
  unfold unary at h
  obtain ⟨ops, i1, h1, h⟩ := R.on_ok h
  obtain ⟨ho, hi⟩ := unOps_good _ _ _ _ h1
  obtain ⟨l2, i2, h2, h⟩ := R.on_ok h
  injection h with h; injection h with h3 h4
  subst h3; subst h4
  have key : Wh l2 ∧ i1 < i2 := by
    split at h2
    · cases h2
    · split at h2
      · injection h2 with h2; injection h2 with h3 h4
        subst h3; subst h4
        exact ⟨wh_num _, by omega⟩
      · split at h2
        · split at h2
          · cases h2
          · obtain ⟨l3, i3, h3, h2⟩ := R.on_ok h2
            obtain ⟨_, i4, h4, h2⟩ := R.on_ok h2
            injection h2 with h2; injection h2 with h5 h6
            subst h5; subst h6
            obtain ⟨a, b⟩ := he _ rfl _ _ _ h3
            have := (want_ok h4).2
            exact ⟨a, by omega⟩
        · obtain ⟨s, i3, h3, h2⟩ := R.on_ok h2
          have hs := (name_ok h3).2.1
          split at h2
          · split at h2
            · cases h2
            · obtain ⟨l4, i4, h4, h2⟩ := R.on_ok h2
              obtain ⟨_, i5, h5, h2⟩ := R.on_ok h2
              injection h2 with h2; injection h2 with h6 h7
              subst h6; subst h7
              obtain ⟨a, b⟩ := he _ rfl _ _ _ h4
              have := (want_ok h5).2
              exact ⟨a.index s, by omega⟩
          · injection h2 with h2; injection h2 with h6 h7
            subst h6; subst h7
            exact ⟨wh_name s, by omega⟩
  exact ⟨key.1.uns _ (fun o hx => ho o (List.mem_reverse.1 hx)), by omega⟩
theorem expr_good : ∀ d, Good (exprD T F d)
  | 0 => tower_good (unary_good (fun p h => by cases h)) 6
  | d + 1 => tower_good (unary_good (fun p h => by cases h; exact expr_good d)) 6
end
end Go.Proofs.Syn
