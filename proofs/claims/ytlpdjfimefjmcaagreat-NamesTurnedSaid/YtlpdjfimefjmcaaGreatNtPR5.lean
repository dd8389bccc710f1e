/- Plain: names of a source: what a name stands for, whether a statement fits, the first fault. (The shapes of a source come from the text that it is put behind.) -/
import Derived.Test.YtlpdjfimefjmcaaGreatNtPR2
import Derived.Test.YtlpdjfimefjmcaaGreatNtPR4
import Derived.Lib.Strings
import Derived.Lib.Hide
import Derived.Deep.RegionWith
import Derived.Shelf.Abstract
namespace Go.Proofs.YtlpdjfimefjmcaaGreat
open Go

/-! ## Names -/
def nmB (c : Nat) : Bool := (decide (97 ≤ c) && decide (c ≤ 122)) || c == 95 || (decide (48 ≤ c) && decide (c ≤ 57))
def dgB (c : Nat) : Bool := decide (48 ≤ c) && decide (c ≤ 57)
/-- Is a text a name? -/
def nameZ (s : ByteArray) : Bool :=
  !(bl s).isEmpty && decide ((bl s).length ≤ 32) && !((bl s).head?.any dgB) && !decide (bl s ∈ keysL) && (bl s).all nmB
/-- The first one of a name. -/
def idxZ (l : List ByteArray) (n : ByteArray) : Option Nat := l.findIdx? fun x => decide (x = n)
def locZ (s : SoZ) (f : Int) (n : ByteArray) : Option Nat :=
  if f < 0 then none else
  match s.funcs[f.toNat]? with
  | none => none
  | some d => match idxZ (d.params.map DeZ.name) n with
    | some k => some k
    | none => (idxZ (d.vars.map DeZ.name) n).map (· + d.params.length)
/-- What a name stands for: its kind and its number. -/
def fndZ (s : SoZ) (f : Int) (n : ByteArray) : Option (Nat × Nat) :=
  match locZ s f n with
  | some k => some (1, k)
  | none => match idxZ (s.globals.map DeZ.name) n with
    | some k => some (2, k)
    | none => match idxZ (s.arrays.map ArZ.name) n with
      | some k => some (3, k)
      | none => match idxZ (s.channels.map DeZ.name) n with
        | some k => some (4, k)
        | none => (idxZ (s.funcs.map FnZ.name) n).map fun k => (5, k)
/-! ## Statements that fit -/
def goodT (t : TmZ) : Bool :=
  if t.kind = 1 then decide (0 ≤ t.value) && t.name.toList.isEmpty
  else if t.kind = 2 ∨ t.kind = 3 then decide (t.value = 0) && nameZ t.name
  else if t.kind = 4 then decide (15 ≤ t.value ∧ t.value ≤ 17) && t.name.toList.isEmpty
  else if t.kind = 5 then decide (1 ≤ t.value ∧ t.value ≤ 14) && t.name.toList.isEmpty
  else false
def tkT (t : TmZ) : Nat := if t.kind = 5 then 2 else if t.kind = 3 ∨ t.kind = 4 then 1 else 0
def whF : List TmZ → Nat → Bool
  | [], n => n == 1
  | t :: l, n => goodT t && decide (tkT t ≤ n) && whF l (n - tkT t + 1)
/-- Of a kind: is it named, how many targets and expressions (none: as many as there are). -/
def formZ (k : Int) : Option (Bool × Option Nat × Option Nat) :=
  if k = 1 then some (false, some 1, some 1) else if k = 2 then some (true, some 0, some 2) else if k = 3 then some (true, some 0, some 1)
  else if k = 4 then some (true, none, none) else if k = 5 ∨ k = 7 then some (false, some 0, some 1) else if k = 6 ∨ k = 8 then some (false, some 0, some 0)
  else if k = 9 then some (false, some 0, none) else none
def isC (n : Nat) (w : Option Nat) : Bool := match w with
  | none => true
  | some m => n == m
def fitZ (x : StZ) : Bool := match formZ x.kind with
  | none => false
  | some (nd, tg, ex) => (if nd then nameZ x.name else x.name.toList.isEmpty) && isC x.targets.length tg && isC x.exprs.length ex && x.targets.all nameZ && x.exprs.all fun e => whF e 0
/-! ## The first fault -/
/-- The first that is not 0. -/
def fst0 : List Nat → Nat
  | [] => 0
  | e :: l => if e = 0 then fst0 l else e
/-- Declarations of one kind: e tells what is wrong with the k-th one; the place and the error. -/
def grpF (most : Nat) (e : Nat → Nat) (base : Nat) : Nat → Nat → Option (Nat × Nat)
  | 0, _ => none
  | n + 1, k => if k = most then some (base + k, 74) else if e k = 0 then grpF most e base n (k + 1) else some (base + k, e k)
def unl (b : Bool) (e : Nat) : Nat := if b then 0 else e
def lblE (s : SoZ) (l : Nat) : Nat := unl (l >>> s.principals.length == 0) 10
/-- A name where it is declared. -/
def newE (n : ByteArray) (taken : Bool) : Nat := if nameZ n then unl (!taken) 70 else 1
def decE (s : SoZ) (n : ByteArray) (here : Nat × Nat) : Nat := newE n (fndZ s (-1) n != some here)
def prE (s : SoZ) (k : Nat) : Nat := match s.principals[k]? with
  | some n => newE n (idxZ s.principals n != some k)
  | none => 0
def glE (s : SoZ) (kd : Nat) (l : List DeZ) (k : Nat) : Nat := match l[k]? with
  | some d => fst0 [decE s d.name (kd, k), lblE s d.label]
  | none => 0
def arE (s : SoZ) (k : Nat) : Nat := match s.arrays[k]? with
  | some d => fst0 [decE s d.name (3, k), unl (decide (1 ≤ d.len ∧ d.len ≤ 256)) 1, lblE s d.label]
  | none => 0
def fuE (s : SoZ) (k : Nat) : Nat := match s.funcs[k]? with
  | some d => decE s d.name (5, k)
  | none => 0
def orO {α : Type} (a b : Option α) : Option α := match a with
  | some x => some x
  | none => b
def declsZE (s : SoZ) : Option (Nat × Nat) :=
  let n1 := s.principals.length
  let n2 := n1 + s.globals.length
  let n3 := n2 + s.arrays.length
  let n4 := n3 + s.channels.length
  orO (grpF 64 (prE s) 0 n1 0) (orO (grpF 32 (glE s 2 s.globals) n1 s.globals.length 0) (orO (grpF 16 (arE s) n2 s.arrays.length 0) (orO (grpF 16 (glE s 4 s.channels) n3 s.channels.length 0) (grpF 32 (fuE s) n4 s.funcs.length 0))))
/-- The locals of a function, one by one. -/
def locE (s : SoZ) (f : Nat) : List DeZ → Nat → Nat
  | [], _ => 0
  | d :: l, k => fst0 [newE d.name ((fndZ s (-1) d.name).isSome || locZ s f d.name != some k), lblE s d.label, locE s f l (k + 1)]
def deepZ : List StZ → Int → Int → Int
  | [], _, m => m
  | x :: l, d, m => if x.kind = 5 ∨ x.kind = 7 then deepZ l (d + 1) (max m (d + 1)) else if x.kind = 8 then deepZ l (d - 1) m else deepZ l d m
def onceZ (b : List StZ) : Bool := match b.findIdx? fun x => x.kind == 9 with
  | some k => k + 1 == b.length
  | none => false
/-- The names that a statement uses, with what each must stand for. -/
def usesT (l : List TmZ) : List (ByteArray × Nat) := l.flatMap fun t => if t.kind = 2 then [(t.name, 2)] else if t.kind = 3 then [(t.name, 3)] else []
def usesZ (x : StZ) : List (ByteArray × Nat) :=
  x.targets.map (fun n => (n, 2)) ++ ((if x.kind = 2 then [(x.name, 3)] else if x.kind = 3 then [(x.name, 4)] else if x.kind = 4 then [(x.name, 5)] else []) ++ x.exprs.flatMap usesT)
def useE (s : SoZ) (f : Nat) (u : ByteArray × Nat) : Nat := match fndZ s f u.1 with
  | none => 71
  | some (k, _) => unl (k == u.2 || (u.2 == 2 && k == 1)) 72
def usesE (s : SoZ) (f : Nat) (x : StZ) : Nat := fst0 ((usesZ x).map (useE s f))
def cntE (s : SoZ) (f : Nat) (x : StZ) : Nat :=
  if x.kind = 4 then
    match s.funcs[((fndZ s f x.name).getD (0, 0)).2]? with
    | some d => unl (x.exprs.length == d.params.length && (x.targets.length == 0 || x.targets.length == d.results.length)) 73
    | none => 0
  else if x.kind = 9 then
    match s.funcs[f]? with
    | some d => unl (x.exprs.length == d.results.length) 73
    | none => 0
  else 0
def stE (s : SoZ) (f : Nat) (x : StZ) : Nat := fst0 [unl (fitZ x) 50, unl (decide (x.exprs.length ≤ 8) && x.exprs.all fun l => decide (l.length ≤ 48)) 74, usesE s f x, cntE s f x]
def bodyF (s : SoZ) (f : Nat) : List StZ → Nat → Option (Int × Nat)
  | [], _ => none
  | x :: l, i => if stE s f x = 0 then bodyF s f l (i + 1) else some (i, stE s f x)
def lbsE (s : SoZ) : List Nat → Nat
  | [] => 0
  | l :: r => fst0 [lblE s l, lbsE s r]
section
variable (nest : List Int → Bool)
/-- A function's first fault (nest: do blocks of these kinds nest?): the statement's number, or -1, and the error. -/
def fnE (s : SoZ) (f : Nat) (d : FnZ) : Option (Int × Nat) :=
  let e := fst0 [unl (decide (d.params.length ≤ 8) && decide (d.results.length ≤ 4) && decide (d.vars.length ≤ 32) && decide (d.body.length ≤ 256)) 74, lblE s d.level, locE s f (d.params ++ d.vars) 0, lbsE s d.results, unl (nest (d.body.map StZ.kind) && decide (deepZ d.body 0 0 ≤ 12) && onceZ d.body) 50]
  if e = 0 then bodyF s f d.body 0 else some (-1, e)
def fnsF (s : SoZ) : List FnZ → Nat → Option (Nat × Int × Nat)
  | [], _ => none
  | d :: l, f => match fnE nest s f d with
    | some (a, e) => some (f, a, e)
    | none => fnsF s l (f + 1)
/-- **The first fault**: its error, function and place. -/
def chkZ (s : SoZ) : Int × Int × Int := match declsZE s with
  | some (a, e) => (e, -1, a)
  | none => match fnsF nest s s.funcs 0 with
    | some (f, a, e) => (e, f, a)
    | none => (0, 0, 0)
end
end Go.Proofs.YtlpdjfimefjmcaaGreat

/- Plain: names are only names: another one everywhere, which nothing has, changes no fault. -/
namespace Go.Proofs.YtlpdjfimefjmcaaGreat
open Go

section
variable (fr tw : ByteArray)
def ren (n : ByteArray) : ByteArray := if n = fr then tw else n
def rnD (d : DeZ) : DeZ := ⟨ren fr tw d.name, d.label⟩
def rnA (d : ArZ) : ArZ := ⟨ren fr tw d.name, d.len, d.label⟩
def rnT (t : TmZ) : TmZ := ⟨t.kind, t.value, ren fr tw t.name⟩
def rnX (x : StZ) : StZ := ⟨x.kind, ren fr tw x.name, x.targets.map (ren fr tw), x.exprs.map fun l => l.map (rnT fr tw)⟩
def rnF (f : FnZ) : FnZ := ⟨ren fr tw f.name, f.level, f.params.map (rnD fr tw), f.results, f.vars.map (rnD fr tw), f.body.map (rnX fr tw)⟩
def rnS (s : SoZ) : SoZ := ⟨s.principals, s.globals.map (rnD fr tw), s.arrays.map (rnA fr tw), s.channels.map (rnD fr tw), s.funcs.map (rnF fr tw)⟩
/-- The other name is nowhere. -/
def avX (x : StZ) : Prop := x.name ≠ tw ∧ (∀ n ∈ x.targets, n ≠ tw) ∧ ∀ l ∈ x.exprs, ∀ t ∈ l, t.name ≠ tw
def avF (f : FnZ) : Prop := f.name ≠ tw ∧ (∀ d ∈ f.params, d.name ≠ tw) ∧ (∀ d ∈ f.vars, d.name ≠ tw) ∧ ∀ x ∈ f.body, avX tw x
def avS (s : SoZ) : Prop := (∀ d ∈ s.globals, d.name ≠ tw) ∧ (∀ d ∈ s.arrays, d.name ≠ tw) ∧ (∀ d ∈ s.channels, d.name ≠ tw) ∧ ∀ f ∈ s.funcs, avF tw f
end
section
variable {fr tw : ByteArray} (hf : nameZ fr = true) (ht : nameZ tw = true)
theorem ren_inj {x y : ByteArray} (hx : x ≠ tw) (hy : y ≠ tw) : decide (ren fr tw x = ren fr tw y) = decide (x = y) := by
  unfold ren
  by_cases h1 : x = fr
  · by_cases h2 : y = fr
    · rw [if_pos h1, if_pos h2, h1, h2]; simp
    · rw [if_pos h1, if_neg h2, decide_eq_false (Ne.symm hy), decide_eq_false (by rw [h1]; exact Ne.symm h2)]
  · by_cases h2 : y = fr
    · rw [if_neg h1, if_pos h2, decide_eq_false hx, decide_eq_false (by rw [h2]; exact h1)]
    · rw [if_neg h1, if_neg h2]
theorem idx_ren {n : ByteArray} (hn : n ≠ tw) : ∀ {l : List ByteArray}, (∀ x ∈ l, x ≠ tw) → idxZ (l.map (ren fr tw)) (ren fr tw n) = idxZ l n
  | [], _ => rfl
  | x :: l, h => by
    have ih := idx_ren hn (l := l) fun y hy => h y (List.mem_cons_of_mem _ hy)
    unfold idxZ at ih ⊢
    rw [List.map_cons, List.findIdx?_cons, List.findIdx?_cons, ren_inj (h x (List.mem_cons_self ..)) hn, ih]
theorem name_ne {n : ByteArray} (h : nameZ n = true) : n.toList.isEmpty = false := by
  cases hh : n.toList.isEmpty with
  | false => rfl
  | true =>
    rw [List.isEmpty_iff, Lib.toList_data] at hh
    unfold nameZ bl at h
    rw [hh] at h
    cases h
include hf ht
theorem name_ren (n : ByteArray) : nameZ (ren fr tw n) = nameZ n := by
  unfold ren
  split
  · rename_i h; rw [ht, h, hf]
  · rfl
theorem empty_ren (n : ByteArray) : (ren fr tw n).toList.isEmpty = n.toList.isEmpty := by
  unfold ren
  split
  · rename_i h; rw [name_ne ht, h, name_ne hf]
  · rfl
theorem good_ren (t : TmZ) : goodT (rnT fr tw t) = goodT t := by
  unfold goodT rnT
  simp only [name_ren hf ht, empty_ren hf ht]
theorem whF_ren : ∀ (l : List TmZ) (n : Nat), whF (l.map (rnT fr tw)) n = whF l n
  | [], _ => rfl
  | t :: l, n => by
    rw [List.map_cons, whF, whF, good_ren hf ht, whF_ren l]; rfl
theorem fit_ren (x : StZ) : fitZ (rnX fr tw x) = fitZ x := by
  unfold fitZ rnX
  simp only [name_ren hf ht, empty_ren hf ht, List.length_map, List.all_map]
  split
  · rfl
  · congr 1
    · congr 1
      exact List.all_congr rfl fun n => name_ren hf ht n
    · exact List.all_congr rfl fun l => whF_ren hf ht l 0
omit hf ht in
theorem loc_ren {s : SoZ} (hs : avS tw s) (f : Int) {n : ByteArray} (hn : n ≠ tw) : locZ (rnS fr tw s) f (ren fr tw n) = locZ s f n := by
  unfold locZ
  split
  · rfl
  · show (match (s.funcs.map (rnF fr tw))[f.toNat]? with | none => none | some d => _) = _
    rw [List.getElem?_map]
    cases hd : s.funcs[f.toNat]? with
    | none => rfl
    | some d =>
      obtain ⟨_, h1, h2, _⟩ := hs.2.2.2 d (List.mem_of_getElem? hd)
      simp only [Option.map_some]
      have e1 : (rnF fr tw d).params.map DeZ.name = (d.params.map DeZ.name).map (ren fr tw) := by unfold rnF; simp only [List.map_map]; rfl
      have e2 : (rnF fr tw d).vars.map DeZ.name = (d.vars.map DeZ.name).map (ren fr tw) := by unfold rnF; simp only [List.map_map]; rfl
      have e3 : (rnF fr tw d).params.length = d.params.length := List.length_map ..
      rw [e1, e2, e3, idx_ren hn (by simpa using h1), idx_ren hn (by simpa using h2)]
omit hf ht in
theorem fnd_ren {s : SoZ} (hs : avS tw s) (f : Int) {n : ByteArray} (hn : n ≠ tw) : fndZ (rnS fr tw s) f (ren fr tw n) = fndZ s f n := by
  unfold fndZ
  rw [loc_ren hs f hn]
  have e1 : (rnS fr tw s).globals.map DeZ.name = (s.globals.map DeZ.name).map (ren fr tw) := by unfold rnS; simp only [List.map_map]; rfl
  have e2 : (rnS fr tw s).arrays.map ArZ.name = (s.arrays.map ArZ.name).map (ren fr tw) := by unfold rnS; simp only [List.map_map]; rfl
  have e3 : (rnS fr tw s).channels.map DeZ.name = (s.channels.map DeZ.name).map (ren fr tw) := by unfold rnS; simp only [List.map_map]; rfl
  have e4 : (rnS fr tw s).funcs.map FnZ.name = (s.funcs.map FnZ.name).map (ren fr tw) := by unfold rnS; simp only [List.map_map]; rfl
  rw [e1, e2, e3, e4, idx_ren hn (by simpa using hs.1), idx_ren hn (by simpa using hs.2.1), idx_ren hn (by simpa using hs.2.2.1), idx_ren hn (by simpa using fun f hf => (hs.2.2.2 f hf).1)]
theorem dec_ren {s : SoZ} (hs : avS tw s) {n : ByteArray} (hn : n ≠ tw) (h : Nat × Nat) : decE (rnS fr tw s) (ren fr tw n) h = decE s n h := by
  unfold decE newE; rw [fnd_ren hs _ hn, name_ren hf ht]
theorem gl_ren {s : SoZ} (hs : avS tw s) (kd : Nat) {l : List DeZ} (hl : ∀ d ∈ l, d.name ≠ tw) : glE (rnS fr tw s) kd (l.map (rnD fr tw)) = glE s kd l := by
  funext k
  unfold glE
  rw [List.getElem?_map]
  cases hd : l[k]? with
  | none => rfl
  | some d =>
    simp only [Option.map_some]
    show fst0 [decE (rnS fr tw s) (ren fr tw d.name) _, lblE s d.label] = _
    rw [dec_ren hf ht hs (hl d (List.mem_of_getElem? hd))]
theorem ar_ren {s : SoZ} (hs : avS tw s) : arE (rnS fr tw s) = arE s := by
  funext k
  unfold arE
  show (match (s.arrays.map (rnA fr tw))[k]? with | some d => _ | none => _) = _
  rw [List.getElem?_map]
  cases hd : s.arrays[k]? with
  | none => rfl
  | some d =>
    simp only [Option.map_some]
    show fst0 [decE (rnS fr tw s) (ren fr tw d.name) _, _, lblE s d.label] = _
    rw [dec_ren hf ht hs (hs.2.1 d (List.mem_of_getElem? hd))]; rfl
theorem fu_ren {s : SoZ} (hs : avS tw s) : fuE (rnS fr tw s) = fuE s := by
  funext k
  unfold fuE
  show (match (s.funcs.map (rnF fr tw))[k]? with | some d => _ | none => _) = _
  rw [List.getElem?_map]
  cases hd : s.funcs[k]? with
  | none => rfl
  | some d =>
    simp only [Option.map_some]
    exact dec_ren hf ht hs (hs.2.2.2 d (List.mem_of_getElem? hd)).1 _
theorem decls_ren {s : SoZ} (hs : avS tw s) : declsZE (rnS fr tw s) = declsZE s := by
  unfold declsZE
  have e1 : (rnS fr tw s).globals.length = s.globals.length := List.length_map ..
  have e2 : (rnS fr tw s).arrays.length = s.arrays.length := List.length_map ..
  have e3 : (rnS fr tw s).channels.length = s.channels.length := List.length_map ..
  have e4 : (rnS fr tw s).funcs.length = s.funcs.length := List.length_map ..
  have e5 : glE (rnS fr tw s) 2 (rnS fr tw s).globals = glE s 2 s.globals := gl_ren hf ht hs 2 hs.1
  have e6 : glE (rnS fr tw s) 4 (rnS fr tw s).channels = glE s 4 s.channels := gl_ren hf ht hs 4 hs.2.2.1
  simp only [e1, e2, e3, e4, e5, e6, ar_ren hf ht hs, fu_ren hf ht hs]
  rfl
theorem locE_ren {s : SoZ} (hs : avS tw s) (f : Nat) : ∀ (l : List DeZ) (k : Nat), (∀ d ∈ l, d.name ≠ tw) → locE (rnS fr tw s) f (l.map (rnD fr tw)) k = locE s f l k
  | [], _, _ => rfl
  | d :: l, k, h => by
    have hd := h d (List.mem_cons_self ..)
    rw [List.map_cons, locE, locE, locE_ren hs f l (k + 1) (fun x hx => h x (List.mem_cons_of_mem _ hx))]
    show fst0 [newE (ren fr tw d.name) ((fndZ (rnS fr tw s) (-1) (ren fr tw d.name)).isSome || locZ (rnS fr tw s) f (ren fr tw d.name) != some k), lblE s d.label, _] = _
    rw [fnd_ren hs _ hd, loc_ren hs _ hd]
    unfold newE
    rw [name_ren hf ht]
omit hf ht in
theorem deep_ren : ∀ (l : List StZ) (d m : Int), deepZ (l.map (rnX fr tw)) d m = deepZ l d m
  | [], _, _ => rfl
  | x :: l, d, m => by
    rw [List.map_cons, deepZ, deepZ, deep_ren l, deep_ren l, deep_ren l]; rfl
omit hf ht in
theorem once_ren (l : List StZ) : onceZ (l.map (rnX fr tw)) = onceZ l := by
  unfold onceZ
  rw [List.findIdx?_map, List.length_map]; rfl
omit hf ht in
theorem usesT_ren (l : List TmZ) : usesT (l.map (rnT fr tw)) = (usesT l).map fun u => (ren fr tw u.1, u.2) := by
  unfold usesT
  rw [List.flatMap_map, List.map_flatMap]
  congr 1
  funext t
  show (if t.kind = 2 then _ else if t.kind = 3 then _ else _) = _
  split
  · rfl
  · split <;> rfl
omit hf ht in
theorem uses_ren (x : StZ) : usesZ (rnX fr tw x) = (usesZ x).map fun u => (ren fr tw u.1, u.2) := by
  unfold usesZ
  rw [List.map_append, List.map_append, List.map_flatMap]
  show (x.targets.map (ren fr tw)).map _ ++ ((if x.kind = 2 then _ else if x.kind = 3 then _ else if x.kind = 4 then _ else _) ++ (x.exprs.map fun l => l.map (rnT fr tw)).flatMap usesT) = _
  rw [List.map_map, List.map_map, List.flatMap_map]
  congr 1
  congr 1
  · split
    · rfl
    · split
      · rfl
      · split <;> rfl
  · congr 1
    funext l
    exact usesT_ren l
omit hf ht in
theorem uses_av {x : StZ} (hx : avX tw x) : ∀ u ∈ usesZ x, u.1 ≠ tw := by
  intro u hu
  unfold usesZ at hu
  rcases List.mem_append.1 hu with hu | hu
  · obtain ⟨n, hn, rfl⟩ := List.mem_map.1 hu
    exact hx.2.1 n hn
  rcases List.mem_append.1 hu with hu | hu
  · have : u.1 = x.name := by
      split at hu
      · rw [List.mem_singleton.1 hu]
      · split at hu
        · rw [List.mem_singleton.1 hu]
        · split at hu
          · rw [List.mem_singleton.1 hu]
          · cases hu
    rw [this]; exact hx.1
  · obtain ⟨l, hl, hu⟩ := List.mem_flatMap.1 hu
    unfold usesT at hu
    obtain ⟨t, ht, hu⟩ := List.mem_flatMap.1 hu
    have : u.1 = t.name := by
      split at hu
      · rw [List.mem_singleton.1 hu]
      · split at hu
        · rw [List.mem_singleton.1 hu]
        · cases hu
    rw [this]; exact hx.2.2 l hl t ht
omit hf ht in
theorem usesE_ren {s : SoZ} (hs : avS tw s) (f : Nat) {x : StZ} (hx : avX tw x) : usesE (rnS fr tw s) f (rnX fr tw x) = usesE s f x := by
  unfold usesE
  rw [uses_ren, List.map_map]
  congr 1
  refine List.map_congr_left fun u hu => ?_
  show useE (rnS fr tw s) f (ren fr tw u.1, u.2) = useE s f u
  unfold useE
  rw [fnd_ren hs _ (uses_av hx u hu)]
omit hf ht in
theorem cntE_ren {s : SoZ} (hs : avS tw s) (f : Nat) {x : StZ} (hx : avX tw x) : cntE (rnS fr tw s) f (rnX fr tw x) = cntE s f x := by
  unfold cntE
  show (if x.kind = 4 then (match (s.funcs.map (rnF fr tw))[((fndZ (rnS fr tw s) f (ren fr tw x.name)).getD (0, 0)).2]? with | some d => _ | none => _) else if x.kind = 9 then (match (s.funcs.map (rnF fr tw))[f]? with | some d => _ | none => _) else _) = _
  rw [fnd_ren hs _ hx.1, List.getElem?_map, List.getElem?_map]
  have e1 : (rnX fr tw x).exprs.length = x.exprs.length := List.length_map ..
  have e2 : (rnX fr tw x).targets.length = x.targets.length := List.length_map ..
  have e3 : ∀ d, (rnF fr tw d).params.length = d.params.length := fun d => List.length_map ..
  rw [e1, e2]
  split
  · cases s.funcs[((fndZ s f x.name).getD (0, 0)).2]? with
    | none => rfl
    | some d => simp only [Option.map_some, e3]; rfl
  · split
    · cases s.funcs[f]? with
      | none => rfl
      | some d => rfl
    · rfl
theorem stE_ren {s : SoZ} (hs : avS tw s) (f : Nat) {x : StZ} (hx : avX tw x) : stE (rnS fr tw s) f (rnX fr tw x) = stE s f x := by
  unfold stE
  rw [fit_ren hf ht, usesE_ren hs f hx, cntE_ren hs f hx]
  have e1 : (rnX fr tw x).exprs.length = x.exprs.length := List.length_map ..
  have e2 : ((rnX fr tw x).exprs.all fun l => decide (l.length ≤ 48)) = x.exprs.all fun l => decide (l.length ≤ 48) := by
    unfold rnX
    rw [List.all_map]
    exact List.all_congr rfl fun l => by show decide ((l.map _).length ≤ 48) = _; rw [List.length_map]
  rw [e1, e2]
theorem body_ren {s : SoZ} (hs : avS tw s) (f : Nat) : ∀ (l : List StZ) (i : Nat), (∀ x ∈ l, avX tw x) → bodyF (rnS fr tw s) f (l.map (rnX fr tw)) i = bodyF s f l i
  | [], _, _ => rfl
  | x :: l, i, h => by
    rw [List.map_cons, bodyF, bodyF, stE_ren hf ht hs f (h x (List.mem_cons_self ..)), body_ren hs f l (i + 1) (fun y hy => h y (List.mem_cons_of_mem _ hy))]
omit hf ht in
theorem lbs_ren (s : SoZ) : ∀ l, lbsE (rnS fr tw s) l = lbsE s l
  | [] => rfl
  | l :: r => by rw [lbsE, lbsE, lbs_ren s r]; rfl
variable (nest : List Int → Bool)
theorem fnE_ren {s : SoZ} (hs : avS tw s) (f : Nat) {d : FnZ} (hd : avF tw d) : fnE nest (rnS fr tw s) f (rnF fr tw d) = fnE nest s f d := by
  unfold fnE
  have e1 : (rnF fr tw d).params ++ (rnF fr tw d).vars = (d.params ++ d.vars).map (rnD fr tw) := by rw [List.map_append]; rfl
  have e2 : (rnF fr tw d).body.map StZ.kind = d.body.map StZ.kind := by unfold rnF; simp only [List.map_map]; rfl
  have e3 : (rnF fr tw d).params.length = d.params.length := List.length_map ..
  have e4 : (rnF fr tw d).vars.length = d.vars.length := List.length_map ..
  have e5 : (rnF fr tw d).body.length = d.body.length := List.length_map ..
  have e6 : (rnF fr tw d).body = d.body.map (rnX fr tw) := rfl
  rw [e1, e2, e3, e4, e5, e6, locE_ren hf ht hs f _ 0 (fun x hx => by
    rcases List.mem_append.1 hx with hx | hx
    · exact hd.2.1 x hx
    · exact hd.2.2.1 x hx), deep_ren, once_ren, body_ren hf ht hs f _ 0 hd.2.2.2, lbs_ren]
  rfl
theorem fns_ren {s : SoZ} (hs : avS tw s) : ∀ (l : List FnZ) (f : Nat), (∀ d ∈ l, avF tw d) → fnsF nest (rnS fr tw s) (l.map (rnF fr tw)) f = fnsF nest s l f
  | [], _, _ => rfl
  | d :: l, f, h => by
    rw [List.map_cons, fnsF, fnsF, fnE_ren hf ht nest hs f (h d (List.mem_cons_self ..)), fns_ren hs l (f + 1) (fun y hy => h y (List.mem_cons_of_mem _ hy))]
/-- **Another name changes no fault.** -/
theorem chk_ren {s : SoZ} (hs : avS tw s) : chkZ nest (rnS fr tw s) = chkZ nest s := by
  have h1 := decls_ren hf ht hs
  have h2 := fns_ren hf ht nest hs s.funcs 0 hs.2.2.2
  have h3 : (rnS fr tw s).funcs = s.funcs.map (rnF fr tw) := rfl
  unfold chkZ
  rw [h1, h3, h2]
  all_goals rfl
end
end Go.Proofs.YtlpdjfimefjmcaaGreat

/- Plain: names that are turned in memory, one after another; where all are turned, it reads as the source with the other name. -/
namespace Go.Proofs.YtlpdjfimefjmcaaGreat
open Go Go.RowKit Go.Proofs.Mm

section
variable {fr tw : ByteArray}
theorem ren_ren (n : ByteArray) : ren fr tw (ren fr tw n) = ren fr tw n := by
  unfold ren
  by_cases h : n = fr
  · rw [if_pos h]
    split <;> rfl
  · rw [if_neg h, if_neg h]
theorem ren_tw : ren fr tw tw = tw := by unfold ren; split <;> rfl
/-- Of the cells L those of D are turned, others may be; hit: the other name was met. -/
structure Tw (fr tw : ByteArray) (L : Cl) (D : Addr → Prop) (hit : Bool) (V : World) : Prop where
  all : ∀ a v, L a = some v → V.cell? a = some v ∨ ∃ n, v = .string n ∧ V.cell? a = some (.string (ren fr tw n))
  done : ∀ a n, D a → L a = some (.string n) → V.cell? a = some (.string (ren fr tw n)) ∧ (hit = false → n ≠ tw)
theorem Tw.cur {L : Cl} {D : Addr → Prop} {hit : Bool} {V : World} (h : Tw fr tw L D hit V) {a : Addr} {n : ByteArray} (hL : L a = some (.string n)) : ∃ c, V.cell? a = some (.string c) ∧ ren fr tw c = ren fr tw n ∧ (c ≠ tw → n ≠ tw) := by
  rcases h.all a _ hL with e | ⟨n', e1, e2⟩
  · exact ⟨n, e, rfl, id⟩
  · injection e1 with e1
    subst e1
    exact ⟨_, e2, ren_ren _, fun hc hn => hc (by rw [hn]; exact ren_tw)⟩
theorem Tw.other {L : Cl} {D : Addr → Prop} {hit : Bool} {V : World} (h : Tw fr tw L D hit V) {a : Addr} {v : Value} (hL : L a = some v) (hv : ∀ n, v ≠ .string n) : V.cell? a = some v := by
  rcases h.all a _ hL with e | ⟨n', e1, _⟩
  · exact e
  · exact absurd e1 (hv n')
/-- One more is turned. -/
theorem Tw.step {L : Cl} {D : Addr → Prop} {hit h2 : Bool} {V V' : World} (h : Tw fr tw L D hit V) {a : Addr} {n c : ByteArray} (hL : L a = some (.string n)) (hc : V.cell? a = some (.string c)) (hcc : ren fr tw c = ren fr tw n) (hct : c ≠ tw → n ≠ tw)
    (hh : h2 = false → hit = false ∧ c ≠ tw) (ha : V'.cell? a = some (.string (ren fr tw c))) (ho : ∀ b v, b ≠ a → L b = some v → V'.cell? b = V.cell? b) : Tw fr tw L (fun b => D b ∨ b = a) h2 V' := by
  constructor
  · intro b v hb
    by_cases e : b = a
    · subst e
      rw [hL] at hb
      injection hb with hb
      subst hb
      exact .inr ⟨n, rfl, by rw [ha, hcc]⟩
    · rw [ho b v e hb]
      exact h.all b v hb
  · intro b m hD hb
    by_cases e : b = a
    · subst e
      rw [hL] at hb
      injection hb with hb
      injection hb with hb
      subst hb
      exact ⟨by rw [ha, hcc], fun hf => hct (hh hf).2⟩
    · rcases hD with hD | hD
      · obtain ⟨h1, h3⟩ := h.done b m hD hb
        exact ⟨by rw [ho b _ e hb]; exact h1, fun hf => h3 (hh hf).1⟩
      · exact absurd hD e
theorem Tw.same {L : Cl} {D : Addr → Prop} {hit : Bool} {V V' : World} (h : Tw fr tw L D hit V) (ho : ∀ b v, L b = some v → V'.cell? b = V.cell? b) : Tw fr tw L D hit V' :=
  ⟨fun a v hL => by rw [ho a v hL]; exact h.all a v hL, fun a n hD hL => by rw [ho a _ hL]; exact h.done a n hD hL⟩
theorem Tw.sub {L : Cl} {D D' : Addr → Prop} {hit : Bool} {V : World} (h : Tw fr tw L D hit V) (hD : ∀ a, D' a → D a) : Tw fr tw L D' hit V :=
  ⟨h.all, fun a n ha hL => h.done a n (hD a ha) hL⟩
end
/-! ## Rows built item by item -/
theorem enc_build {α : Type} {R : List Value → α → Prop} {size : Nat} : ∀ (l : List α) (P : Nat → List Value → Prop), (∀ j (hj : j < l.length), ∃ e, R e l[j] ∧ e.length = size ∧ P j e) → ∃ cs, Enc R cs l ∧ cs.length = l.length * size ∧ ∀ j, j < l.length → ∃ e, P j e ∧ ∀ r, r < size → cs[j * size + r]? = e[r]?
  | [], _, _ => ⟨[], Enc.nil, by simp, fun j hj => absurd hj (by simp)⟩
  | x :: l, P, h => by
    obtain ⟨e0, r0, l0, p0⟩ := h 0 (by simp)
    obtain ⟨cs, h1, h2, h3⟩ := enc_build l (fun j => P (j + 1)) (fun j hj => h (j + 1) (by simpa using hj))
    refine ⟨e0 ++ cs, ⟨e0, cs, rfl, r0, h1⟩, by rw [List.length_append, l0, h2, List.length_cons, Nat.succ_mul]; omega, fun j hj => ?_⟩
    cases j with
    | zero => exact ⟨e0, p0, fun r hr => by rw [Nat.zero_mul, Nat.zero_add, List.getElem?_append_left (by omega)]⟩
    | succ j =>
      obtain ⟨e, p, q⟩ := h3 j (by simpa using hj)
      refine ⟨e, p, fun r hr => ?_⟩
      rw [Nat.succ_mul, List.getElem?_append_right (by omega), l0, show j * size + size + r - size = j * size + r by omega]
      exact q r hr
theorem slx_build {α β : Type} {mk : List Value} {bs size n c : Nat} {C D : Cl} {R : List Value → α → Prop} {R' : List Value → β → Prop} {q : Option Addr} {l : List α} (f : α → β) (h : SlX mk bs C R (.slice q n c) l) (hs : 0 < size)
    (hq : ∀ j (hj : j < l.length), ∃ g o, q = some ⟨g, o, none⟩ ∧ ∃ e, R' e (f l[j]) ∧ e.length = size ∧ ∀ r u, r < size → e[r]? = some u → D ⟨g, o + j * size + r, none⟩ = some u) : SlX [] bs D R' (.slice q n c) (l.map f) := by
  obtain ⟨q', c', cs0, e, _, _, _, hb, hmax, hqn, hlc⟩ := h
  obtain ⟨rfl, rfl, rfl⟩ : q = q' ∧ n = l.length ∧ c = c' := by injection e with a b c; exact ⟨a, b, c⟩
  have hlm : (l.map f).length = l.length := List.length_map ..
  obtain ⟨cs, h1, h2, h3⟩ := enc_build (R := R') (size := size) (l.map f) (fun j e => ∀ g o, q = some ⟨g, o, none⟩ → ∀ r u, r < size → e[r]? = some u → D ⟨g, o + j * size + r, none⟩ = some u) (fun j hj => by
    obtain ⟨g, o, e1, e, h1, h2, h3⟩ := hq j (by omega)
    refine ⟨e, by rw [List.getElem_map]; exact h1, h2, fun g' o' e2 => ?_⟩
    rw [e1] at e2
    injection e2 with e2
    injection e2 with a b
    subst a b
    exact h3)
  rw [← hlm]
  refine ⟨q, c, cs, rfl, .inl rfl, ?_, h1, by rw [hlm]; exact hb, hmax, hqn, by rw [hlm]; exact hlc⟩
  rw [List.append_nil]
  by_cases hl : l.length = 0
  · left
    apply List.eq_nil_of_length_eq_zero
    rw [h2, hlm, hl, Nat.zero_mul]
  · right
    obtain ⟨g, o, e1, _⟩ := hq 0 (by omega)
    refine ⟨g, o, e1, fun i u hu => ?_⟩
    have hi := (List.getElem?_eq_some_iff.1 hu).1
    rw [h2, hlm] at hi
    have hj : i / size < l.length := Nat.div_lt_of_lt_mul (by rw [Nat.mul_comm]; exact hi)
    obtain ⟨e, p, q2⟩ := h3 (i / size) (by omega)
    have hr := Nat.mod_lt i hs
    have hdm : i / size * size + i % size = i := by rw [Nat.mul_comm]; exact Nat.div_add_mod i size
    have := q2 (i % size) hr
    rw [hdm, hu] at this
    have h9 := p g o e1 (i % size) u hr this.symm
    rwa [Nat.add_assoc, hdm] at h9
theorem slx_weak {α : Type} {mk : List Value} {bs : Nat} {C : Cl} {R : List Value → α → Prop} {v : Value} {l : List α} (h : SlX mk bs C R v l) : SlX [] bs C R v l := by
  obtain ⟨q, c, cs, h1, _, h3, h4⟩ := h
  exact ⟨q, c, cs, h1, .inl rfl, by rw [List.append_nil]; exact h3.left, h4⟩
/-- All items of a row, at a step and a place, are done. -/
def Pos (D : Addr → Prop) (q : Option Addr) (n step at' : Nat) : Prop := ∀ j, j < n → ∀ g o, q = some ⟨g, o, none⟩ → D ⟨g, o + j * step + at', none⟩
def PosX (D : Addr → Prop) (L : Cl) (_lt : Bool) (qe : Option Addr) (es : List (List TmZ)) : Prop := ∀ j (hj : j < es.length), ∀ g o, qe = some ⟨g, o, none⟩ → ∀ qt ct, L ⟨g, o + j, none⟩ = some (.slice qt es[j].length ct) → Pos D qt es[j].length 3 2
def PosB (D : Addr → Prop) (L : Cl) (lt : Bool) (qb : Option Addr) (b : List StZ) : Prop := Pos D qb b.length 4 1 ∧ ∀ j (hj : j < b.length), ∀ g o, qb = some ⟨g, o, none⟩ →
  (∀ qt ct, L ⟨g, o + j * 4 + 2, none⟩ = some (.slice qt b[j].targets.length ct) → Pos D qt b[j].targets.length 1 0) ∧ ∀ qe ce, L ⟨g, o + j * 4 + 3, none⟩ = some (.slice qe b[j].exprs.length ce) → PosX D L lt qe b[j].exprs
def PosF (D : Addr → Prop) (L : Cl) (lt : Bool) (qf : Option Addr) (l : List FnZ) : Prop := Pos D qf l.length 6 0 ∧ ∀ j (hj : j < l.length), ∀ g o, qf = some ⟨g, o, none⟩ →
  (∀ qt ct, L ⟨g, o + j * 6 + 2, none⟩ = some (.slice qt l[j].params.length ct) → Pos D qt l[j].params.length 2 0) ∧ (∀ qt ct, L ⟨g, o + j * 6 + 4, none⟩ = some (.slice qt l[j].vars.length ct) → Pos D qt l[j].vars.length 2 0) ∧ ∀ qb cb, L ⟨g, o + j * 6 + 5, none⟩ = some (.slice qb l[j].body.length cb) → PosB D L lt qb l[j].body
section
variable {fr tw : ByteArray} {lt : Bool} {L : Cl} {D : Addr → Prop} {V : World} {q : Option Addr} {n c : Nat}
theorem row2 {x y : Value} {P : Nat → Value → Prop} (h0 : P 0 x) (h1 : P 1 y) : ∀ r u, r < 2 → [x, y][r]? = some u → P r u := by
  intro r u hr hu
  rcases r with _ | _ | r
  · injection hu with hu; subst hu; exact h0
  · injection hu with hu; subst hu; exact h1
  · omega
theorem row3 {x y z : Value} {P : Nat → Value → Prop} (h0 : P 0 x) (h1 : P 1 y) (h2 : P 2 z) : ∀ r u, r < 3 → [x, y, z][r]? = some u → P r u := by
  intro r u hr hu
  rcases r with _ | _ | _ | r
  · injection hu with hu; subst hu; exact h0
  · injection hu with hu; subst hu; exact h1
  · injection hu with hu; subst hu; exact h2
  · omega
theorem row1 {x : Value} {P : Nat → Value → Prop} (h0 : P 0 x) : ∀ r u, r < 1 → [x][r]? = some u → P r u := by
  intro r u hr hu
  rcases r with _ | r
  · injection hu with hu; subst hu; exact h0
  · omega
theorem str_tw (T : Tw fr tw L D false V) {l : List ByteArray} (h : StrR lt L (.slice q n c) l) (hp : Pos D q l.length 1 0) : StrR false (wC V) (.slice q n c) (l.map (ren fr tw)) ∧ ∀ x ∈ l, x ≠ tw := by
  have key : ∀ j (hj : j < l.length), ∃ g o, q = some ⟨g, o, none⟩ ∧ wC V ⟨g, o + j * 1 + 0, none⟩ = some (.string (ren fr tw l[j])) ∧ l[j] ≠ tw := fun j hj => by
    obtain ⟨g, o, e, h0⟩ := h.cells j hj
    rw [show o + j = o + j * 1 + 0 by omega] at h0
    obtain ⟨a, b⟩ := T.done _ _ (hp j hj g o e) h0
    exact ⟨g, o, e, a, b rfl⟩
  refine ⟨slx_build (size := 1) (ren fr tw) h (by decide) fun j hj => ?_, fun x hx => ?_⟩
  · obtain ⟨g, o, e, h0, _⟩ := key j hj
    exact ⟨g, o, e, [.string (ren fr tw l[j])], rfl, rfl, row1 (P := fun r u => wC V ⟨g, o + j * 1 + r, none⟩ = some u) h0⟩
  · obtain ⟨j, hj, rfl⟩ := List.getElem_of_mem hx
    obtain ⟨_, _, _, _, h9⟩ := key j hj
    exact h9
theorem des_tw (T : Tw fr tw L D false V) {l : List DeZ} (h : DesR lt L (.slice q n c) l) (hp : Pos D q l.length 2 0) : DesR false (wC V) (.slice q n c) (l.map (rnD fr tw)) ∧ ∀ x ∈ l, x.name ≠ tw := by
  have key : ∀ j (hj : j < l.length), ∃ g o, q = some ⟨g, o, none⟩ ∧ wC V ⟨g, o + j * 2, none⟩ = some (.string (ren fr tw l[j].name)) ∧ wC V ⟨g, o + j * 2 + 1, none⟩ = some (.int .u64 (l[j].label : Nat)) ∧ l[j].label < u64B ∧ l[j].name ≠ tw := fun j hj => by
    obtain ⟨g, o, e, h0, h1, h2⟩ := h.cells j hj
    obtain ⟨a, b⟩ := T.done _ _ (hp j hj g o e) h0
    exact ⟨g, o, e, a, T.other h1 (fun _ e => by cases e), h2, b rfl⟩
  refine ⟨slx_build (size := 2) (rnD fr tw) h (by decide) fun j hj => ?_, fun x hx => ?_⟩
  · obtain ⟨g, o, e, h0, h1, h2, _⟩ := key j hj
    exact ⟨g, o, e, deZ (rnD fr tw l[j]), ⟨rfl, h2⟩, rfl, row2 (P := fun r u => wC V ⟨g, o + j * 2 + r, none⟩ = some u) h0 h1⟩
  · obtain ⟨j, hj, rfl⟩ := List.getElem_of_mem hx
    obtain ⟨_, _, _, _, _, _, h9⟩ := key j hj
    exact h9
theorem ars_tw (T : Tw fr tw L D false V) {l : List ArZ} (h : ArsR lt L (.slice q n c) l) (hp : Pos D q l.length 3 0) : ArsR false (wC V) (.slice q n c) (l.map (rnA fr tw)) ∧ ∀ x ∈ l, x.name ≠ tw := by
  have key : ∀ j (hj : j < l.length), ∃ g o, q = some ⟨g, o, none⟩ ∧ wC V ⟨g, o + j * 3, none⟩ = some (.string (ren fr tw l[j].name)) ∧ wC V ⟨g, o + j * 3 + 1, none⟩ = some (.int .i64 l[j].len) ∧ wC V ⟨g, o + j * 3 + 2, none⟩ = some (.int .u64 (l[j].label : Nat)) ∧ l[j].label < u64B ∧ l[j].name ≠ tw := fun j hj => by
    obtain ⟨g, o, e, h0, h1, h2, h3⟩ := h.cells j hj
    obtain ⟨a, b⟩ := T.done _ _ (hp j hj g o e) h0
    exact ⟨g, o, e, a, T.other h1 (fun _ e => by cases e), T.other h2 (fun _ e => by cases e), h3, b rfl⟩
  refine ⟨slx_build (size := 3) (rnA fr tw) h (by decide) fun j hj => ?_, fun x hx => ?_⟩
  · obtain ⟨g, o, e, h0, h1, h2, h3, _⟩ := key j hj
    exact ⟨g, o, e, arZv (rnA fr tw l[j]), ⟨rfl, h3⟩, rfl, row3 (P := fun r u => wC V ⟨g, o + j * 3 + r, none⟩ = some u) h0 h1 h2⟩
  · obtain ⟨j, hj, rfl⟩ := List.getElem_of_mem hx
    obtain ⟨_, _, _, _, _, _, _, h9⟩ := key j hj
    exact h9
theorem tms_tw (T : Tw fr tw L D false V) {l : List TmZ} (h : TmsR lt L (.slice q n c) l) (hp : Pos D q l.length 3 2) : TmsR false (wC V) (.slice q n c) (l.map (rnT fr tw)) ∧ ∀ x ∈ l, x.name ≠ tw := by
  have key : ∀ j (hj : j < l.length), ∃ g o, q = some ⟨g, o, none⟩ ∧ wC V ⟨g, o + j * 3, none⟩ = some (.int .i64 l[j].kind) ∧ wC V ⟨g, o + j * 3 + 1, none⟩ = some (.int .i64 l[j].value) ∧ wC V ⟨g, o + j * 3 + 2, none⟩ = some (.string (ren fr tw l[j].name)) ∧ l[j].name ≠ tw := fun j hj => by
    obtain ⟨g, o, e, h0, h1, h2⟩ := h.cells j hj
    obtain ⟨a, b⟩ := T.done _ _ (hp j hj g o e) h2
    exact ⟨g, o, e, T.other h0 (fun _ e => by cases e), T.other h1 (fun _ e => by cases e), a, b rfl⟩
  refine ⟨slx_build (size := 3) (rnT fr tw) h (by decide) fun j hj => ?_, fun x hx => ?_⟩
  · obtain ⟨g, o, e, h0, h1, h2, _⟩ := key j hj
    exact ⟨g, o, e, tmZ (rnT fr tw l[j]), rfl, rfl, row3 (P := fun r u => wC V ⟨g, o + j * 3 + r, none⟩ = some u) h0 h1 h2⟩
  · obtain ⟨j, hj, rfl⟩ := List.getElem_of_mem hx
    obtain ⟨_, _, _, _, _, _, h9⟩ := key j hj
    exact h9
theorem exs_tw (T : Tw fr tw L D false V) {l : List (List TmZ)} (h : ExsR lt L (.slice q n c) l) (hp : PosX D L lt q l) : ExsR false (wC V) (.slice q n c) (l.map fun e => e.map (rnT fr tw)) ∧ ∀ e ∈ l, ∀ t ∈ e, t.name ≠ tw := by
  have key : ∀ j (hj : j < l.length), ∃ g o, q = some ⟨g, o, none⟩ ∧ (∃ qe ce, wC V ⟨g, o + j * 1 + 0, none⟩ = some (.slice qe l[j].length ce) ∧ TmsR false (wC V) (.slice qe l[j].length ce) (l[j].map (rnT fr tw))) ∧ ∀ t ∈ l[j], t.name ≠ tw := fun j hj => by
    obtain ⟨g, o, qe, ce, e, h0, h1⟩ := h.cells j hj
    obtain ⟨a, b⟩ := tms_tw T h1 (hp j hj g o e qe ce h0)
    refine ⟨g, o, e, ⟨qe, ce, ?_, a⟩, b⟩
    rw [show o + j * 1 + 0 = o + j by omega]
    exact T.other h0 (fun _ e => by cases e)
  refine ⟨slx_build (size := 1) (fun e : List TmZ => e.map (rnT fr tw)) h (by decide) fun j hj => ?_, fun x hx => ?_⟩
  · obtain ⟨g, o, e, ⟨qe, ce, h0, h1⟩, _⟩ := key j hj
    exact ⟨g, o, e, [.slice qe l[j].length ce], ⟨_, rfl, h1⟩, rfl, row1 (P := fun r u => wC V ⟨g, o + j * 1 + r, none⟩ = some u) h0⟩
  · obtain ⟨j, hj, rfl⟩ := List.getElem_of_mem hx
    obtain ⟨_, _, _, _, h9⟩ := key j hj
    exact h9
theorem row4 {x y z t : Value} {P : Nat → Value → Prop} (h0 : P 0 x) (h1 : P 1 y) (h2 : P 2 z) (h3 : P 3 t) : ∀ r u, r < 4 → [x, y, z, t][r]? = some u → P r u := by
  intro r u hr hu
  rcases r with _ | _ | _ | _ | r
  · injection hu with hu; subst hu; exact h0
  · injection hu with hu; subst hu; exact h1
  · injection hu with hu; subst hu; exact h2
  · injection hu with hu; subst hu; exact h3
  · omega
theorem row6 {x y z t s v : Value} {P : Nat → Value → Prop} (h0 : P 0 x) (h1 : P 1 y) (h2 : P 2 z) (h3 : P 3 t) (h4 : P 4 s) (h5 : P 5 v) : ∀ r u, r < 6 → [x, y, z, t, s, v][r]? = some u → P r u := by
  intro r u hr hu
  rcases r with _ | _ | _ | _ | _ | _ | r
  · injection hu with hu; subst hu; exact h0
  · injection hu with hu; subst hu; exact h1
  · injection hu with hu; subst hu; exact h2
  · injection hu with hu; subst hu; exact h3
  · injection hu with hu; subst hu; exact h4
  · injection hu with hu; subst hu; exact h5
  · omega
theorem bd_tw (T : Tw fr tw L D false V) {l : List StZ} (h : BdR lt L (.slice q n c) l) (hp : PosB D L lt q l) : BdR false (wC V) (.slice q n c) (l.map (rnX fr tw)) ∧ ∀ x ∈ l, avX tw x := by
  have key : ∀ j (hj : j < l.length), ∃ g o, q = some ⟨g, o, none⟩ ∧ (∃ qt ct qe ce, wC V ⟨g, o + j * 4, none⟩ = some (.int .i64 l[j].kind) ∧ wC V ⟨g, o + j * 4 + 1, none⟩ = some (.string (ren fr tw l[j].name)) ∧ wC V ⟨g, o + j * 4 + 2, none⟩ = some (.slice qt l[j].targets.length ct) ∧ wC V ⟨g, o + j * 4 + 3, none⟩ = some (.slice qe l[j].exprs.length ce) ∧
      StrR false (wC V) (.slice qt l[j].targets.length ct) (l[j].targets.map (ren fr tw)) ∧ ExsR false (wC V) (.slice qe l[j].exprs.length ce) (l[j].exprs.map fun e => e.map (rnT fr tw))) ∧ avX tw l[j] := fun j hj => by
    obtain ⟨g, o, qt, ct, qe, ce, e, h0, h1, h2, h3, ht, he⟩ := h.cells j hj
    obtain ⟨a, b⟩ := T.done _ _ (hp.1 j hj g o e) h1
    obtain ⟨a1, b1⟩ := str_tw T ht ((hp.2 j hj g o e).1 qt ct h2)
    obtain ⟨a2, b2⟩ := exs_tw T he ((hp.2 j hj g o e).2 qe ce h3)
    exact ⟨g, o, e, ⟨qt, ct, qe, ce, T.other h0 (fun _ e => by cases e), a, T.other h2 (fun _ e => by cases e), T.other h3 (fun _ e => by cases e), a1, a2⟩, b rfl, b1, b2⟩
  refine ⟨slx_build (size := 4) (rnX fr tw) h (by decide) fun j hj => ?_, fun x hx => ?_⟩
  · obtain ⟨g, o, e, ⟨qt, ct, qe, ce, h0, h1, h2, h3, h4, h5⟩, _⟩ := key j hj
    exact ⟨g, o, e, [.int .i64 l[j].kind, .string (ren fr tw l[j].name), .slice qt l[j].targets.length ct, .slice qe l[j].exprs.length ce], ⟨_, _, rfl, by simpa [rnX] using h4, by simpa [rnX] using h5⟩, rfl, row4 (P := fun r u => wC V ⟨g, o + j * 4 + r, none⟩ = some u) h0 h1 h2 h3⟩
  · obtain ⟨j, hj, rfl⟩ := List.getElem_of_mem hx
    obtain ⟨_, _, _, _, h9⟩ := key j hj
    exact h9
theorem las_tw (T : Tw fr tw L D false V) {l : List Nat} (h : LasR lt L (.slice q n c) l) : LasR false (wC V) (.slice q n c) l := by
  have := slx_build (size := 1) (D := wC V) (R' := fun c x => c = laZ x ∧ x < u64B) id h (by decide) fun j hj => by
    obtain ⟨g, o, e, h0, h1⟩ := h.cells j hj
    rw [show o + j = o + j * 1 + 0 by omega] at h0
    exact ⟨g, o, e, laZ l[j], ⟨rfl, h1⟩, rfl, row1 (P := fun r u => wC V ⟨g, o + j * 1 + r, none⟩ = some u) (T.other h0 (fun _ e => by cases e))⟩
  rwa [List.map_id] at this
theorem fns_tw (T : Tw fr tw L D false V) {l : List FnZ} (h : FnsR lt L (.slice q n c) l) (hp : PosF D L lt q l) : FnsR false (wC V) (.slice q n c) (l.map (rnF fr tw)) ∧ ∀ f ∈ l, avF tw f := by
  have key : ∀ j (hj : j < l.length), ∃ g o, q = some ⟨g, o, none⟩ ∧ (∃ qp cp qr cr qv cv qb cb, wC V ⟨g, o + j * 6, none⟩ = some (.string (ren fr tw l[j].name)) ∧ wC V ⟨g, o + j * 6 + 1, none⟩ = some (.int .u64 (l[j].level : Nat)) ∧ wC V ⟨g, o + j * 6 + 2, none⟩ = some (.slice qp l[j].params.length cp) ∧ wC V ⟨g, o + j * 6 + 3, none⟩ = some (.slice qr l[j].results.length cr) ∧ wC V ⟨g, o + j * 6 + 4, none⟩ = some (.slice qv l[j].vars.length cv) ∧ wC V ⟨g, o + j * 6 + 5, none⟩ = some (.slice qb l[j].body.length cb) ∧ l[j].level < u64B ∧
      DesR false (wC V) (.slice qp l[j].params.length cp) (l[j].params.map (rnD fr tw)) ∧ LasR false (wC V) (.slice qr l[j].results.length cr) l[j].results ∧ DesR false (wC V) (.slice qv l[j].vars.length cv) (l[j].vars.map (rnD fr tw)) ∧ BdR false (wC V) (.slice qb l[j].body.length cb) (l[j].body.map (rnX fr tw))) ∧ avF tw l[j] := fun j hj => by
    obtain ⟨g, o, qp, cp, qr, cr, qv, cv, qb, cb, e, h0, h1, h2, h3, h4, h5, hl, hP, hR, hV, hB⟩ := h.cells j hj
    obtain ⟨a, b⟩ := T.done _ _ (hp.1 j hj g o e) h0
    obtain ⟨p1, p2, p3⟩ := hp.2 j hj g o e
    obtain ⟨a1, b1⟩ := des_tw T hP (p1 qp cp h2)
    obtain ⟨a2, b2⟩ := des_tw T hV (p2 qv cv h4)
    obtain ⟨a3, b3⟩ := bd_tw T hB (p3 qb cb h5)
    exact ⟨g, o, e, ⟨qp, cp, qr, cr, qv, cv, qb, cb, a, T.other h1 (fun _ e => by cases e), T.other h2 (fun _ e => by cases e), T.other h3 (fun _ e => by cases e), T.other h4 (fun _ e => by cases e), T.other h5 (fun _ e => by cases e), hl, a1, las_tw T hR, a2, a3⟩, b rfl, b1, b2, b3⟩
  refine ⟨slx_build (size := 6) (rnF fr tw) h (by decide) fun j hj => ?_, fun x hx => ?_⟩
  · obtain ⟨g, o, e, ⟨qp, cp, qr, cr, qv, cv, qb, cb, h0, h1, h2, h3, h4, h5, hl, a1, a2, a3, a4⟩, _⟩ := key j hj
    exact ⟨g, o, e, [.string (ren fr tw l[j].name), .int .u64 (l[j].level : Nat), .slice qp l[j].params.length cp, .slice qr l[j].results.length cr, .slice qv l[j].vars.length cv, .slice qb l[j].body.length cb], ⟨_, _, _, _, rfl, hl, by simpa [rnF] using a1, a2, by simpa [rnF] using a3, by simpa [rnF] using a4⟩, rfl, row6 (P := fun r u => wC V ⟨g, o + j * 6 + r, none⟩ = some u) h0 h1 h2 h3 h4 h5⟩
  · obtain ⟨j, hj, rfl⟩ := List.getElem_of_mem hx
    obtain ⟨_, _, _, _, h9⟩ := key j hj
    exact h9
end
end Go.Proofs.YtlpdjfimefjmcaaGreat

/- Package names: a text's bytes, keywords, and whether it is a name. -/
namespace Go.Proofs.YtlpdjfimefjmcaaGreat
open Go Go.RowKit Go.Proofs.Mm

/-- The call hands v back; what was there stays. -/
def RetB (v : Value) (W : World) (e : Ending) (w' : World) : Prop := e = .returned v ∧ Below W.heap.size W w'
theorem RetB.of_eq {v : Value} {W : World} {e : Ending} {w' : World} (h : e = .returned v ∧ W = w') : RetB v W e w' := by
  obtain ⟨rfl, rfl⟩ := h; exact ⟨rfl, Below.refl _ _⟩
theorem bl_al {W w : World} (h : Below W.heap.size W w) (o : Obj) : Below W.heap.size W (w.alloc o) := h.alloc h.size o
theorem bl_dr {W w : World} (h : Below W.heap.size W w) : Below W.heap.size W w.drew := h.drew
theorem bl_dN {W w : World} (h : Below W.heap.size W w) (n : Nat) : Below W.heap.size W (w.drewN n) := Go.below_drewN h n
theorem bl_tr {W w w' : World} (h : Below W.heap.size W w) (k : Below w.heap.size w w') : Below W.heap.size W w' := h.trans (k.mono h.size)
set_option maxRecDepth 100000 in
theorem isDigit_p (c : Nat) (W : World) : Calls Tryz.prog 21 #[.int .u8 (c : Int)] W fun e w' => e = .returned (.bool (dgB c)) ∧ W = w' := by
  unfold dgB
  by_cases h1 : 48 ≤ c
  · by_cases h2 : c ≤ 57
    · have e1 : (48 : Int) ≤ (c : Int) := by omega
      have e2 : (c : Int) ≤ 57 := by omega
      rw [decide_eq_true h1, decide_eq_true h2]
      go_enter Tryz.func21, Tryz.ntmps21
      go_wp2
      go_ret
      exact ⟨rfl, rfl⟩
    · have e1 : (48 : Int) ≤ (c : Int) := by omega
      have e2 : ¬ (c : Int) ≤ 57 := by omega
      rw [decide_eq_true h1, decide_eq_false h2]
      go_enter Tryz.func21, Tryz.ntmps21
      go_wp2
      go_ret
      exact ⟨rfl, rfl⟩
  · have e1 : ¬ (48 : Int) ≤ (c : Int) := by omega
    rw [decide_eq_false h1, Bool.false_and]
    go_enter Tryz.func21, Tryz.ntmps21
    go_wp2
    go_ret
    exact ⟨rfl, rfl⟩
theorem ret_bool {a b : Bool} (h : a = b) : Ending.returned (.bool a) = .returned (.bool b) := by rw [h]
theorem isOfName_p (c : Nat) (W : World) : Calls Tryz.prog 23 #[.int .u8 (c : Int)] W fun e w' => e = .returned (.bool (nmB c)) ∧ W = w' := by
  have hc : (97 ≤ c ∧ c ≤ 122) ∨ c = 95 ∨ (c < 97 ∧ ¬ c = 95) ∨ 122 < c := by omega
  have h1 := isDigit_p c W
  rcases hc with ⟨h2, h3⟩ | rfl | ⟨h2, h3⟩ | h2
  all_goals
    go_enter Tryz.func23, Tryz.ntmps23
    go_wp2_with (go_at_call 21; refine h1.mono ?_; rintro e w' ⟨rfl, rfl⟩)
    all_goals
      go_ret
      exact ⟨ret_bool (by
        unfold nmB
        try unfold dgB
        first | decide | (rw [Bool.eq_iff_iff]; simp; omega)), rfl⟩
theorem ne_lit {s : ByteArray} {L : List (List Nat)} {u : List UInt8} (h : bl s ∉ L) (hu : u.map UInt8.toNat ∈ L) : (s.toList == u) = false := by
  rw [beq_eq_false_iff_ne]
  intro e
  rw [Lib.toList_data] at e
  exact h (by unfold bl; rw [e]; exact hu)
set_option maxRecDepth 100000 in
set_option maxHeartbeats 1000000 in
theorem isKeyword_no (s : ByteArray) (h : bl s ∉ keysL) (w : World) : Calls Tryz.prog 22 #[.string s] w fun e w' => e = .returned (.bool false) ∧ w = w' := by
  have e0 : (s.toList == [112, 114, 105, 110, 99, 105, 112, 97, 108]) = false := ne_lit h (by decide)
  have e1 : (s.toList == [103, 108, 111, 98, 97, 108]) = false := ne_lit h (by decide)
  have e2 : (s.toList == [97, 114, 114, 97, 121]) = false := ne_lit h (by decide)
  have e3 : (s.toList == [99, 104, 97, 110, 110, 101, 108]) = false := ne_lit h (by decide)
  have e4 : (s.toList == [102, 117, 110, 99]) = false := ne_lit h (by decide)
  have e5 : (s.toList == [118, 97, 114]) = false := ne_lit h (by decide)
  have e6 : (s.toList == [105, 102]) = false := ne_lit h (by decide)
  have e7 : (s.toList == [101, 108, 115, 101]) = false := ne_lit h (by decide)
  have e8 : (s.toList == [119, 104, 105, 108, 101]) = false := ne_lit h (by decide)
  have e9 : (s.toList == [115, 101, 110, 100]) = false := ne_lit h (by decide)
  have e10 : (s.toList == [114, 101, 116, 117, 114, 110]) = false := ne_lit h (by decide)
  clear h
  go_enter Tryz.func22, Tryz.ntmps22
  go_wp2
  go_ret
  exact ⟨rfl, rfl⟩
set_option maxRecDepth 100000 in
set_option maxHeartbeats 1000000 in
theorem isKeyword_yes (s : ByteArray) (h : bl s ∈ keysL) (w : World) : Calls Tryz.prog 22 #[.string s] w fun e w' => e = .returned (.bool true) ∧ w = w' := by
  simp only [keysL, List.mem_cons, List.not_mem_nil, or_false] at h
  rcases h with h | h | h | h | h | h | h | h | h | h | h
  · obtain rfl : s = ⟨#[112, 114, 105, 110, 99, 105, 112, 97, 108]⟩ := bl_inj (h.trans (by decide))
    clear h
    go_enter Tryz.func22, Tryz.ntmps22
    go_wp2
    go_ret
    exact ⟨rfl, rfl⟩
  · obtain rfl : s = ⟨#[103, 108, 111, 98, 97, 108]⟩ := bl_inj (h.trans (by decide))
    clear h
    go_enter Tryz.func22, Tryz.ntmps22
    go_wp2
    go_ret
    exact ⟨rfl, rfl⟩
  · obtain rfl : s = ⟨#[97, 114, 114, 97, 121]⟩ := bl_inj (h.trans (by decide))
    clear h
    go_enter Tryz.func22, Tryz.ntmps22
    go_wp2
    go_ret
    exact ⟨rfl, rfl⟩
  · obtain rfl : s = ⟨#[99, 104, 97, 110, 110, 101, 108]⟩ := bl_inj (h.trans (by decide))
    clear h
    go_enter Tryz.func22, Tryz.ntmps22
    go_wp2
    go_ret
    exact ⟨rfl, rfl⟩
  · obtain rfl : s = ⟨#[102, 117, 110, 99]⟩ := bl_inj (h.trans (by decide))
    clear h
    go_enter Tryz.func22, Tryz.ntmps22
    go_wp2
    go_ret
    exact ⟨rfl, rfl⟩
  · obtain rfl : s = ⟨#[118, 97, 114]⟩ := bl_inj (h.trans (by decide))
    clear h
    go_enter Tryz.func22, Tryz.ntmps22
    go_wp2
    go_ret
    exact ⟨rfl, rfl⟩
  · obtain rfl : s = ⟨#[105, 102]⟩ := bl_inj (h.trans (by decide))
    clear h
    go_enter Tryz.func22, Tryz.ntmps22
    go_wp2
    go_ret
    exact ⟨rfl, rfl⟩
  · obtain rfl : s = ⟨#[101, 108, 115, 101]⟩ := bl_inj (h.trans (by decide))
    clear h
    go_enter Tryz.func22, Tryz.ntmps22
    go_wp2
    go_ret
    exact ⟨rfl, rfl⟩
  · obtain rfl : s = ⟨#[119, 104, 105, 108, 101]⟩ := bl_inj (h.trans (by decide))
    clear h
    go_enter Tryz.func22, Tryz.ntmps22
    go_wp2
    go_ret
    exact ⟨rfl, rfl⟩
  · obtain rfl : s = ⟨#[115, 101, 110, 100]⟩ := bl_inj (h.trans (by decide))
    clear h
    go_enter Tryz.func22, Tryz.ntmps22
    go_wp2
    go_ret
    exact ⟨rfl, rfl⟩
  · obtain rfl : s = ⟨#[114, 101, 116, 117, 114, 110]⟩ := bl_inj (h.trans (by decide))
    clear h
    go_enter Tryz.func22, Tryz.ntmps22
    go_wp2
    go_ret
    exact ⟨rfl, rfl⟩
theorem isKeyword_any (s : ByteArray) (w : World) : Calls Tryz.prog 22 #[.string s] w fun e w' => e = .returned (.bool (decide (bl s ∈ keysL))) ∧ w = w' := by
  by_cases h : bl s ∈ keysL
  · simpa [h] using isKeyword_yes s h w
  · simpa [h] using isKeyword_no s h w
theorem keyword_p (s : ByteArray) (W : World) : Calls Tryz.prog 22 #[.string s] W fun e w' => e = .returned (.bool (decide (bl s ∈ keysL))) ∧ W = w' := by
  by_cases h : bl s ∈ keysL
  · rw [decide_eq_true h]; exact isKeyword_yes s h W
  · rw [decide_eq_false h]; exact isKeyword_no s h W
theorem all_step {p : Nat → Bool} (l : List Nat) (k : Nat) (h : ∀ x ∈ l.take k, p x = true) (c : Nat) (hc : l[k]? = some c) (hp : p c = true) : ∀ x ∈ l.take (k + 1), p x = true := by
  rw [List.take_add_one, hc]
  intro x hx
  rcases List.mem_append.1 hx with h1 | h1
  · exact h x h1
  · obtain rfl : x = c := by simpa using h1
    exact hp
theorem name_head (s : ByteArray) (h : 0 < s.size) : (bl s).head? = some (s[0]).toNat := by
  rw [List.head?_eq_getElem?]; exact bl_get s 0 h
theorem nameZ_empty : nameZ ⟨#[]⟩ = false := rfl
theorem nameZ_long {s : ByteArray} (h : 32 < s.size) : nameZ s = false := by
  unfold nameZ
  rw [bl_length, decide_eq_false (by omega)]; simp
theorem nameZ_mid {s : ByteArray} (h0 : 0 < s.size) (h1 : s.size ≤ 32) : nameZ s = (!dgB (s[0]).toNat && !decide (bl s ∈ keysL) && (bl s).all nmB) := by
  unfold nameZ
  rw [bl_length, decide_eq_true h1, name_head s h0]
  have : (bl s).isEmpty = false := by
    rw [List.isEmpty_eq_false_iff]; intro e; have := bl_length s; rw [e] at this; simp at this; omega
  rw [this]; simp
set_option maxRecDepth 100000 in
set_option maxHeartbeats 1000000 in
theorem name_p (s : ByteArray) (W : World) : Calls Tryz.prog 8 #[.string s] W fun e w' => e = .returned (.bool (nameZ s)) ∧ W = w' := by
  by_cases h0 : s.size = 0
  · obtain rfl : s = ⟨#[]⟩ := bl_inj (by
      have := bl_length s; rw [h0] at this; rw [List.length_eq_zero_iff.1 this]; rfl)
    go_enter Tryz.func8, Tryz.ntmps8
    go_wp2
    go_ret
    exact ⟨rfl, rfl⟩
  have he : s.toList.isEmpty = false := by
    rw [Lib.toList_data]
    rw [List.isEmpty_eq_false_iff]; intro e
    have := bl_length s
    unfold bl at this
    rw [e] at this
    simp at this
    omega
  by_cases h1 : 32 < s.size
  · have HZ := Lib.hid (nameZ_long h1)
    have h1' : (32 : Int) < (s.size : Int) := by omega
    go_enter Tryz.func8, Tryz.ntmps8
    go_wp2
    go_ret
    exact ⟨ret_bool HZ.out.symm, rfl⟩
  have h0' : 0 < s.size := by omega
  have HZ := Lib.hid (nameZ_mid h0' (by omega))
  have h1' : ¬ (32 : Int) < (s.size : Int) := by omega
  have HD := Lib.hid (isDigit_p (s[0]).toNat W)
  have HK := Lib.hid (keyword_p s W)
  cases hd : dgB (s[0]).toNat
  · cases hk : decide (bl s ∈ keysL)
    · have HD2 := Lib.hid (hd ▸ HD.out)
      have HK2 := Lib.hid (hk ▸ HK.out)
      have HZ2 := Lib.hid (show nameZ s = (bl s).all nmB by rw [HZ.out, hd, hk]; rfl)
      clear hd hk
      have HL := Lib.hid (bl_length s)
      go_enter Tryz.func8, Tryz.ntmps8
      go_wp2_with (first | (go_at_call 21; refine HD2.out.mono ?_; rintro e w' ⟨rfl, rfl⟩) | (go_at_call 22; refine HK2.out.mono ?_; rintro e w' ⟨rfl, rfl⟩))
      go_loop [17] (fun i => ∃ k : Nat, k ≤ s.size ∧ i = .int .i64 k ∧ Hid (∀ x ∈ (bl s).take k, nmB x = true)) (fun i => s.size - (intOf i).toNat)
      case atStart => exact ⟨0, Nat.zero_le _, rfl, Lib.hid (by simp)⟩
      case round =>
        obtain ⟨k, hk, rfl, H⟩ := hrel
        by_cases hlt : k < s.size
        · have hb := Lib.hid (bl_get s k hlt)
          cases hp : nmB (s[k]).toNat
          · have hcall := hp ▸ isOfName_p (s[k]).toNat W
            have HP := Lib.hid hp
            clear hp
            go_wp2_with (go_at_call 23; refine hcall.mono ?_; rintro e w' ⟨rfl, rfl⟩)
            go_ret
            exact ⟨ret_bool (by
              rw [HZ2.out]
              symm
              rw [List.all_eq_false]
              exact ⟨_, List.mem_of_getElem? hb.out, by rw [HP.out]; decide⟩), rfl⟩
          · have hcall := hp ▸ isOfName_p (s[k]).toNat W
            have HP := Lib.hid hp
            clear hp
            go_wp2_with (go_at_call 23; refine hcall.mono ?_; rintro e w' ⟨rfl, rfl⟩)
            go_round
            case rel => exact ⟨k + 1, by omega, by go_num, Lib.hid (all_step _ k H.out _ hb.out HP.out)⟩
            case measure => simp [intOf]; omega
        · have HK := Lib.hid (show (bl s).all nmB = true by
            rw [List.all_eq_true]
            intro x hx
            exact H.out x (by rw [List.take_of_length_le (by rw [bl_length]; omega)]; exact hx))
          go_wp2
          go_ret
          exact ⟨ret_bool (by rw [HZ2.out, HK.out]), rfl⟩
    · have HD2 := Lib.hid (hd ▸ HD.out)
      have HK2 := Lib.hid (hk ▸ HK.out)
      have HZ2 := Lib.hid (show nameZ s = false by rw [HZ.out, hk]; simp)
      clear hd hk
      go_enter Tryz.func8, Tryz.ntmps8
      go_wp2_with (first | (go_at_call 21; refine HD2.out.mono ?_; rintro e w' ⟨rfl, rfl⟩) | (go_at_call 22; refine HK2.out.mono ?_; rintro e w' ⟨rfl, rfl⟩))
      go_ret
      exact ⟨ret_bool HZ2.out.symm, rfl⟩
  · have HD2 := Lib.hid (hd ▸ HD.out)
    have HZ2 := Lib.hid (show nameZ s = false by rw [HZ.out, hd]; simp)
    clear hd
    go_enter Tryz.func8, Tryz.ntmps8
    go_wp2_with (first | (go_at_call 21; refine HD2.out.mono ?_; rintro e w' ⟨rfl, rfl⟩))
    go_ret
    exact ⟨ret_bool HZ2.out.symm, rfl⟩
end Go.Proofs.YtlpdjfimefjmcaaGreat

/- What slices.IndexFunc answers: plain. -/
namespace Go.Proofs.YtlpdjfimefjmcaaGreat
open Go Go.RowKit Go.Proofs.Mm

/-- The number that is answered. -/
def ixI (x : Option Nat) : Int := match x with
  | some k => (k : Int)
  | none => -1
theorem ix_hit {α : Type} {l : List α} {p : α → Bool} {k : Nat} (hk : k < l.length) (h : ∀ j (hj : j < l.length), j < k → p l[j] = false) (hp : p l[k] = true) : l.findIdx? p = some k := by
  rw [List.findIdx?_eq_some_iff_getElem]
  exact ⟨hk, hp, fun j hj => by rw [h j (by omega) hj]; decide⟩
theorem ix_no {α : Type} {l : List α} {p : α → Bool} (h : ∀ j (hj : j < l.length), j < l.length → p l[j] = false) : l.findIdx? p = none := by
  rw [List.findIdx?_eq_none_iff]
  intro x hx
  obtain ⟨j, hj, rfl⟩ := List.getElem_of_mem hx
  exact h j hj hj
theorem ix_step {α : Type} {l : List α} {p : α → Bool} {k : Nat} (hk : k < l.length) (h : ∀ j (hj : j < l.length), j < k → p l[j] = false) (hp : p l[k] = false) : ∀ j (hj : j < l.length), j < k + 1 → p l[j] = false := by
  intro j hj h2
  rcases Nat.lt_or_ge j k with h3 | h3
  · exact h j hj h3
  · obtain rfl : j = k := by omega
    exact hp
/-- A function value that can be called. -/
def Ent (K : Nat) : Prop := ∀ args w, (callFunc K args).run Tryz.prog w = .ok (.enter K args) w
end Go.Proofs.YtlpdjfimefjmcaaGreat

/- slices.IndexFunc at one type, over whatever is asked of an item. (Written by a program.) -/
namespace Go.Proofs.YtlpdjfimefjmcaaGreat
open Go Go.RowKit Go.Proofs.Mm

section
variable {C : Cl} {W : World} {q : Option Addr}
set_option maxRecDepth 100000 in
set_option maxHeartbeats 2000000 in
theorem ixSr_p {l : List ByteArray} {c : Nat} (hl : l.length ≤ 9223372036854775807) (hrow : StrAt C q l) (hC : CLe C (wC W)) {K : Nat} {ca : Array Value} (ek : Ent K) (p : ByteArray → Bool)
    (hcl : ∀ k (hk : k < l.length) W', Below W.heap.size W W' → Calls Tryz.prog K (#[] ++ #[.string l[k]] ++ ca) W' (RetB (.bool (p l[k])) W')) :
    Calls Tryz.prog 91 #[.slice q l.length c, .func (.func K) #[] ca] W (RetB (.int .i64 (ixI (l.findIdx? p))) W) := by
  have HA := Lib.hid hrow
  have HCC := Lib.hid hC
  have HCL := Lib.hid hcl
  obtain ⟨n, hn⟩ : ∃ n, l.length = n := ⟨_, rfl⟩
  have HN := Lib.hid hn
  unfold Ent at ek
  rw [hn] at hl ⊢
  clear hrow hC hn hcl
  go_enter Tryz.func91, Tryz.ntmps91
  go_wp2
  go_loopw [8] (fun i wr => ∃ k : Nat, k ≤ n ∧ i = .int .i64 k ∧ Hid (Below W.heap.size W wr) ∧ Hid (∀ j (hj : j < l.length), j < k → p l[j] = false)) (fun i _ => n - (intOf i).toNat)
  case atStart => exact ⟨0, Nat.zero_le _, rfl, Lib.hid (Below.refl _ _), Lib.hid (fun j hj h => absurd h (by omega))⟩
  case round =>
    obtain ⟨k, hk, rfl, HBW, HT⟩ := hrel
    by_cases hlt : k < n
    · have hk1 : k < l.length := by rw [HN.out]; exact hlt
      have HK := Lib.hid hk1
      obtain ⟨g, o, rfl, a0⟩ := HA.out k hk1
      have e0 : wr.cell? ⟨g, o + k, none⟩ = some (.string l[k]) := below_cle HBW.out _ _ (HCC.out _ _ a0)
      have HCALL := Lib.hid (HCL.out k hk1 wr HBW.out)
      clear a0
      generalize hpx : p l[k] = b at HCALL
      have HS0 := Lib.hid (fun h : b = false => ix_step HK.out HT.out (hpx.trans h))
      have HS1 := Lib.hid (fun h : b = true => ix_hit HK.out HT.out (hpx.trans h))
      clear hpx
      generalize l[k] = z0 at *
      clear hk1
      have hki : (k : Int) < (n : Int) := by omega
      go_wp2_with fail
      refine HCALL.out.mono ?_
      rintro e w2 ⟨rfl, hbel⟩
      have HB3 := Lib.hid (bl_tr HBW.out hbel)
      clear hbel HCALL
      cases b
      · have HT2 := Lib.hid (HS0.out rfl)
        go_wp2_with fail
        exact ⟨⟨k + 1, by omega, by go_num, HB3, HT2⟩, by simp [intOf]; omega⟩
      · have HT2 := Lib.hid (HS1.out rfl)
        go_wp2_with fail
        go_ret
        exact ⟨by rw [HT2.out]; rfl, HB3.out⟩
    · have HT2 := Lib.hid (ix_no (fun j hj _ => HT.out j hj (by have := HN.out; omega)))
      go_wp2
      go_ret
      exact ⟨by rw [HT2.out]; rfl, HBW.out⟩
end
end Go.Proofs.YtlpdjfimefjmcaaGreat

/- slices.IndexFunc at one type, over whatever is asked of an item. (Written by a program.) -/
namespace Go.Proofs.YtlpdjfimefjmcaaGreat
open Go Go.RowKit Go.Proofs.Mm

section
variable {C : Cl} {W : World} {q : Option Addr} {lt : Bool}
set_option maxRecDepth 100000 in
set_option maxHeartbeats 2000000 in
theorem ixEx_p {l : List (List TmZ)} {c : Nat} (hl : l.length ≤ 9223372036854775807) (hrow : ExAt lt C q l) (hC : CLe C (wC W)) {K : Nat} {ca : Array Value} (ek : Ent K) (p : (List TmZ) → Bool)
    (hcl : ∀ k (hk : k < l.length) (qe : Option Addr) (ce : Nat) (_ : TmsR lt C (.slice qe l[k].length ce) l[k]) W', Below W.heap.size W W' → Calls Tryz.prog K (#[] ++ #[.slice qe l[k].length ce] ++ ca) W' (RetB (.bool (p l[k])) W')) :
    Calls Tryz.prog 92 #[.slice q l.length c, .func (.func K) #[] ca] W (RetB (.int .i64 (ixI (l.findIdx? p))) W) := by
  have HA := Lib.hid hrow
  have HCC := Lib.hid hC
  have HCL := Lib.hid hcl
  obtain ⟨n, hn⟩ : ∃ n, l.length = n := ⟨_, rfl⟩
  have HN := Lib.hid hn
  unfold Ent at ek
  rw [hn] at hl ⊢
  clear hrow hC hn hcl
  go_enter Tryz.func92, Tryz.ntmps92
  go_wp2
  go_loopw [8] (fun i wr => ∃ k : Nat, k ≤ n ∧ i = .int .i64 k ∧ Hid (Below W.heap.size W wr) ∧ Hid (∀ j (hj : j < l.length), j < k → p l[j] = false)) (fun i _ => n - (intOf i).toNat)
  case atStart => exact ⟨0, Nat.zero_le _, rfl, Lib.hid (Below.refl _ _), Lib.hid (fun j hj h => absurd h (by omega))⟩
  case round =>
    obtain ⟨k, hk, rfl, HBW, HT⟩ := hrel
    by_cases hlt : k < n
    · have hk1 : k < l.length := by rw [HN.out]; exact hlt
      have HK := Lib.hid hk1
      obtain ⟨g, o, qe, ce, rfl, a0⟩ := HA.out k hk1
      have e0 : wr.cell? ⟨g, o + k, none⟩ = some (.slice qe l[k].length ce) := below_cle HBW.out _ _ (HCC.out _ _ a0.1)
      have HCALL := Lib.hid (HCL.out k hk1 qe ce a0.2 wr HBW.out)
      clear a0
      generalize hpx : p l[k] = b at HCALL
      have HS0 := Lib.hid (fun h : b = false => ix_step HK.out HT.out (hpx.trans h))
      have HS1 := Lib.hid (fun h : b = true => ix_hit HK.out HT.out (hpx.trans h))
      clear hpx
      generalize l[k].length = z0 at *
      clear hk1
      have hki : (k : Int) < (n : Int) := by omega
      go_wp2_with fail
      refine HCALL.out.mono ?_
      rintro e w2 ⟨rfl, hbel⟩
      have HB3 := Lib.hid (bl_tr HBW.out hbel)
      clear hbel HCALL
      cases b
      · have HT2 := Lib.hid (HS0.out rfl)
        go_wp2_with fail
        exact ⟨⟨k + 1, by omega, by go_num, HB3, HT2⟩, by simp [intOf]; omega⟩
      · have HT2 := Lib.hid (HS1.out rfl)
        go_wp2_with fail
        go_ret
        exact ⟨by rw [HT2.out]; rfl, HB3.out⟩
    · have HT2 := Lib.hid (ix_no (fun j hj _ => HT.out j hj (by have := HN.out; omega)))
      go_wp2
      go_ret
      exact ⟨by rw [HT2.out]; rfl, HBW.out⟩
end
end Go.Proofs.YtlpdjfimefjmcaaGreat

/- slices.IndexFunc at one type, over whatever is asked of an item. (Written by a program.) -/
namespace Go.Proofs.YtlpdjfimefjmcaaGreat
open Go Go.RowKit Go.Proofs.Mm

section
variable {C : Cl} {W : World} {q : Option Addr}
set_option maxRecDepth 100000 in
set_option maxHeartbeats 2000000 in
theorem ixLa_p {l : List Nat} {c : Nat} (hl : l.length ≤ 9223372036854775807) (hrow : LaAt C q l) (hC : CLe C (wC W)) {K : Nat} {ca : Array Value} (ek : Ent K) (p : Nat → Bool)
    (hcl : ∀ k (hk : k < l.length) W', Below W.heap.size W W' → Calls Tryz.prog K (#[] ++ #[.int .u64 (l[k] : Nat)] ++ ca) W' (RetB (.bool (p l[k])) W')) :
    Calls Tryz.prog 104 #[.slice q l.length c, .func (.func K) #[] ca] W (RetB (.int .i64 (ixI (l.findIdx? p))) W) := by
  have HA := Lib.hid hrow
  have HCC := Lib.hid hC
  have HCL := Lib.hid hcl
  obtain ⟨n, hn⟩ : ∃ n, l.length = n := ⟨_, rfl⟩
  have HN := Lib.hid hn
  unfold Ent at ek
  rw [hn] at hl ⊢
  clear hrow hC hn hcl
  go_enter Tryz.func104, Tryz.ntmps104
  go_wp2
  go_loopw [8] (fun i wr => ∃ k : Nat, k ≤ n ∧ i = .int .i64 k ∧ Hid (Below W.heap.size W wr) ∧ Hid (∀ j (hj : j < l.length), j < k → p l[j] = false)) (fun i _ => n - (intOf i).toNat)
  case atStart => exact ⟨0, Nat.zero_le _, rfl, Lib.hid (Below.refl _ _), Lib.hid (fun j hj h => absurd h (by omega))⟩
  case round =>
    obtain ⟨k, hk, rfl, HBW, HT⟩ := hrel
    by_cases hlt : k < n
    · have hk1 : k < l.length := by rw [HN.out]; exact hlt
      have HK := Lib.hid hk1
      obtain ⟨g, o, rfl, a0⟩ := HA.out k hk1
      have e0 : wr.cell? ⟨g, o + k, none⟩ = some (.int .u64 (l[k] : Nat)) := below_cle HBW.out _ _ (HCC.out _ _ a0.1)
      have HCALL := Lib.hid (HCL.out k hk1 wr HBW.out)
      clear a0
      generalize hpx : p l[k] = b at HCALL
      have HS0 := Lib.hid (fun h : b = false => ix_step HK.out HT.out (hpx.trans h))
      have HS1 := Lib.hid (fun h : b = true => ix_hit HK.out HT.out (hpx.trans h))
      clear hpx
      generalize l[k] = z0 at *
      clear hk1
      have hki : (k : Int) < (n : Int) := by omega
      go_wp2_with fail
      refine HCALL.out.mono ?_
      rintro e w2 ⟨rfl, hbel⟩
      have HB3 := Lib.hid (bl_tr HBW.out hbel)
      clear hbel HCALL
      cases b
      · have HT2 := Lib.hid (HS0.out rfl)
        go_wp2_with fail
        exact ⟨⟨k + 1, by omega, by go_num, HB3, HT2⟩, by simp [intOf]; omega⟩
      · have HT2 := Lib.hid (HS1.out rfl)
        go_wp2_with fail
        go_ret
        exact ⟨by rw [HT2.out]; rfl, HB3.out⟩
    · have HT2 := Lib.hid (ix_no (fun j hj _ => HT.out j hj (by have := HN.out; omega)))
      go_wp2
      go_ret
      exact ⟨by rw [HT2.out]; rfl, HBW.out⟩
end
end Go.Proofs.YtlpdjfimefjmcaaGreat

/- slices.IndexFunc at one type, over whatever is asked of an item. (Written by a program.) -/
namespace Go.Proofs.YtlpdjfimefjmcaaGreat
open Go Go.RowKit Go.Proofs.Mm

section
variable {C : Cl} {W : World} {q : Option Addr}
set_option maxRecDepth 100000 in
set_option maxHeartbeats 2000000 in
theorem ixDe_p {l : List DeZ} {c : Nat} (hl : l.length ≤ 9223372036854775807) (hrow : DeAt C q l) (hC : CLe C (wC W)) {K : Nat} {ca : Array Value} (ek : Ent K) (p : DeZ → Bool)
    (hcl : ∀ k (hk : k < l.length) W', Below W.heap.size W W' → Calls Tryz.prog K (#[] ++ #[.agg #[.string l[k].name, .int .u64 (l[k].label : Nat)]] ++ ca) W' (RetB (.bool (p l[k])) W')) :
    Calls Tryz.prog 85 #[.slice q l.length c, .func (.func K) #[] ca] W (RetB (.int .i64 (ixI (l.findIdx? p))) W) := by
  have HA := Lib.hid hrow
  have HCC := Lib.hid hC
  have HCL := Lib.hid hcl
  obtain ⟨n, hn⟩ : ∃ n, l.length = n := ⟨_, rfl⟩
  have HN := Lib.hid hn
  unfold Ent at ek
  rw [hn] at hl ⊢
  clear hrow hC hn hcl
  go_enter Tryz.func85, Tryz.ntmps85
  go_wp2
  go_loopw [8] (fun i wr => ∃ k : Nat, k ≤ n ∧ i = .int .i64 k ∧ Hid (Below W.heap.size W wr) ∧ Hid (∀ j (hj : j < l.length), j < k → p l[j] = false)) (fun i _ => n - (intOf i).toNat)
  case atStart => exact ⟨0, Nat.zero_le _, rfl, Lib.hid (Below.refl _ _), Lib.hid (fun j hj h => absurd h (by omega))⟩
  case round =>
    obtain ⟨k, hk, rfl, HBW, HT⟩ := hrel
    by_cases hlt : k < n
    · have hk1 : k < l.length := by rw [HN.out]; exact hlt
      have HK := Lib.hid hk1
      obtain ⟨g, o, rfl, a0⟩ := HA.out k hk1
      have e0 : wr.cell? ⟨g, o + k * 2, none⟩ = some (.string l[k].name) := below_cle HBW.out _ _ (HCC.out _ _ a0.1)
      have e1 : wr.cell? ⟨g, o + k * 2 + 1, none⟩ = some (.int .u64 (l[k].label : Nat)) := below_cle HBW.out _ _ (HCC.out _ _ a0.2.1)
      have HCALL := Lib.hid (HCL.out k hk1 wr HBW.out)
      clear a0
      generalize hpx : p l[k] = b at HCALL
      have HS0 := Lib.hid (fun h : b = false => ix_step HK.out HT.out (hpx.trans h))
      have HS1 := Lib.hid (fun h : b = true => ix_hit HK.out HT.out (hpx.trans h))
      clear hpx
      generalize l[k].label = z0 at *
      generalize l[k].name = z1 at *
      clear hk1
      have hki : (k : Int) < (n : Int) := by omega
      go_wp2_with fail
      refine HCALL.out.mono ?_
      rintro e w2 ⟨rfl, hbel⟩
      have HB3 := Lib.hid (bl_tr HBW.out hbel)
      clear hbel HCALL
      cases b
      · have HT2 := Lib.hid (HS0.out rfl)
        go_wp2_with fail
        exact ⟨⟨k + 1, by omega, by go_num, HB3, HT2⟩, by simp [intOf]; omega⟩
      · have HT2 := Lib.hid (HS1.out rfl)
        go_wp2_with fail
        go_ret
        exact ⟨by rw [HT2.out]; rfl, HB3.out⟩
    · have HT2 := Lib.hid (ix_no (fun j hj _ => HT.out j hj (by have := HN.out; omega)))
      go_wp2
      go_ret
      exact ⟨by rw [HT2.out]; rfl, HBW.out⟩
end
end Go.Proofs.YtlpdjfimefjmcaaGreat

/- slices.IndexFunc at one type, over whatever is asked of an item. (Written by a program.) -/
namespace Go.Proofs.YtlpdjfimefjmcaaGreat
open Go Go.RowKit Go.Proofs.Mm

section
variable {C : Cl} {W : World} {q : Option Addr}
set_option maxRecDepth 100000 in
set_option maxHeartbeats 2000000 in
theorem ixAr_p {l : List ArZ} {c : Nat} (hl : l.length ≤ 9223372036854775807) (hrow : ArAt C q l) (hC : CLe C (wC W)) {K : Nat} {ca : Array Value} (ek : Ent K) (p : ArZ → Bool)
    (hcl : ∀ k (hk : k < l.length) W', Below W.heap.size W W' → Calls Tryz.prog K (#[] ++ #[.agg #[.string l[k].name, .int .i64 l[k].len, .int .u64 (l[k].label : Nat)]] ++ ca) W' (RetB (.bool (p l[k])) W')) :
    Calls Tryz.prog 87 #[.slice q l.length c, .func (.func K) #[] ca] W (RetB (.int .i64 (ixI (l.findIdx? p))) W) := by
  have HA := Lib.hid hrow
  have HCC := Lib.hid hC
  have HCL := Lib.hid hcl
  obtain ⟨n, hn⟩ : ∃ n, l.length = n := ⟨_, rfl⟩
  have HN := Lib.hid hn
  unfold Ent at ek
  rw [hn] at hl ⊢
  clear hrow hC hn hcl
  go_enter Tryz.func87, Tryz.ntmps87
  go_wp2
  go_loopw [8] (fun i wr => ∃ k : Nat, k ≤ n ∧ i = .int .i64 k ∧ Hid (Below W.heap.size W wr) ∧ Hid (∀ j (hj : j < l.length), j < k → p l[j] = false)) (fun i _ => n - (intOf i).toNat)
  case atStart => exact ⟨0, Nat.zero_le _, rfl, Lib.hid (Below.refl _ _), Lib.hid (fun j hj h => absurd h (by omega))⟩
  case round =>
    obtain ⟨k, hk, rfl, HBW, HT⟩ := hrel
    by_cases hlt : k < n
    · have hk1 : k < l.length := by rw [HN.out]; exact hlt
      have HK := Lib.hid hk1
      obtain ⟨g, o, rfl, a0⟩ := HA.out k hk1
      have e0 : wr.cell? ⟨g, o + k * 3, none⟩ = some (.string l[k].name) := below_cle HBW.out _ _ (HCC.out _ _ a0.1)
      have e1 : wr.cell? ⟨g, o + k * 3 + 1, none⟩ = some (.int .i64 l[k].len) := below_cle HBW.out _ _ (HCC.out _ _ a0.2.1)
      have e2 : wr.cell? ⟨g, o + k * 3 + 2, none⟩ = some (.int .u64 (l[k].label : Nat)) := below_cle HBW.out _ _ (HCC.out _ _ a0.2.2.1)
      have HCALL := Lib.hid (HCL.out k hk1 wr HBW.out)
      clear a0
      generalize hpx : p l[k] = b at HCALL
      have HS0 := Lib.hid (fun h : b = false => ix_step HK.out HT.out (hpx.trans h))
      have HS1 := Lib.hid (fun h : b = true => ix_hit HK.out HT.out (hpx.trans h))
      clear hpx
      generalize l[k].label = z0 at *
      generalize l[k].name = z1 at *
      generalize l[k].len = z2 at *
      clear hk1
      have hki : (k : Int) < (n : Int) := by omega
      go_wp2_with fail
      refine HCALL.out.mono ?_
      rintro e w2 ⟨rfl, hbel⟩
      have HB3 := Lib.hid (bl_tr HBW.out hbel)
      clear hbel HCALL
      cases b
      · have HT2 := Lib.hid (HS0.out rfl)
        go_wp2_with fail
        exact ⟨⟨k + 1, by omega, by go_num, HB3, HT2⟩, by simp [intOf]; omega⟩
      · have HT2 := Lib.hid (HS1.out rfl)
        go_wp2_with fail
        go_ret
        exact ⟨by rw [HT2.out]; rfl, HB3.out⟩
    · have HT2 := Lib.hid (ix_no (fun j hj _ => HT.out j hj (by have := HN.out; omega)))
      go_wp2
      go_ret
      exact ⟨by rw [HT2.out]; rfl, HBW.out⟩
end
end Go.Proofs.YtlpdjfimefjmcaaGreat

/- slices.IndexFunc at one type, over whatever is asked of an item. (Written by a program.) -/
namespace Go.Proofs.YtlpdjfimefjmcaaGreat
open Go Go.RowKit Go.Proofs.Mm

section
variable {C : Cl} {W : World} {q : Option Addr} {lt : Bool}
set_option maxRecDepth 100000 in
set_option maxHeartbeats 2000000 in
theorem ixFn_p {l : List FnZ} {c : Nat} (hl : l.length ≤ 9223372036854775807) (hrow : FnAt lt C q l) (hC : CLe C (wC W)) {K : Nat} {ca : Array Value} (ek : Ent K) (p : FnZ → Bool)
    (hcl : ∀ k (hk : k < l.length) (qp : Option Addr) (cp : Nat) (qr : Option Addr) (cr : Nat) (qv : Option Addr) (cv : Nat) (qb : Option Addr) (cb : Nat) (_ : FnLies lt C l[k] qp cp qr cr qv cv qb cb) W', Below W.heap.size W W' → Calls Tryz.prog K (#[] ++ #[.agg #[.string l[k].name, .int .u64 (l[k].level : Nat), .slice qp l[k].params.length cp, .slice qr l[k].results.length cr, .slice qv l[k].vars.length cv, .slice qb l[k].body.length cb]] ++ ca) W' (RetB (.bool (p l[k])) W')) :
    Calls Tryz.prog 89 #[.slice q l.length c, .func (.func K) #[] ca] W (RetB (.int .i64 (ixI (l.findIdx? p))) W) := by
  have HA := Lib.hid hrow
  have HCC := Lib.hid hC
  have HCL := Lib.hid hcl
  obtain ⟨n, hn⟩ : ∃ n, l.length = n := ⟨_, rfl⟩
  have HN := Lib.hid hn
  unfold Ent at ek
  rw [hn] at hl ⊢
  clear hrow hC hn hcl
  go_enter Tryz.func89, Tryz.ntmps89
  go_wp2
  go_loopw [8] (fun i wr => ∃ k : Nat, k ≤ n ∧ i = .int .i64 k ∧ Hid (Below W.heap.size W wr) ∧ Hid (∀ j (hj : j < l.length), j < k → p l[j] = false)) (fun i _ => n - (intOf i).toNat)
  case atStart => exact ⟨0, Nat.zero_le _, rfl, Lib.hid (Below.refl _ _), Lib.hid (fun j hj h => absurd h (by omega))⟩
  case round =>
    obtain ⟨k, hk, rfl, HBW, HT⟩ := hrel
    by_cases hlt : k < n
    · have hk1 : k < l.length := by rw [HN.out]; exact hlt
      have HK := Lib.hid hk1
      obtain ⟨g, o, qp, cp, qr, cr, qv, cv, qb, cb, rfl, a0⟩ := HA.out k hk1
      have e0 : wr.cell? ⟨g, o + k * 6, none⟩ = some (.string l[k].name) := below_cle HBW.out _ _ (HCC.out _ _ a0.1)
      have e1 : wr.cell? ⟨g, o + k * 6 + 1, none⟩ = some (.int .u64 (l[k].level : Nat)) := below_cle HBW.out _ _ (HCC.out _ _ a0.2.1)
      have e2 : wr.cell? ⟨g, o + k * 6 + 2, none⟩ = some (.slice qp l[k].params.length cp) := below_cle HBW.out _ _ (HCC.out _ _ a0.2.2.1)
      have e3 : wr.cell? ⟨g, o + k * 6 + 3, none⟩ = some (.slice qr l[k].results.length cr) := below_cle HBW.out _ _ (HCC.out _ _ a0.2.2.2.1)
      have e4 : wr.cell? ⟨g, o + k * 6 + 4, none⟩ = some (.slice qv l[k].vars.length cv) := below_cle HBW.out _ _ (HCC.out _ _ a0.2.2.2.2.1)
      have e5 : wr.cell? ⟨g, o + k * 6 + 5, none⟩ = some (.slice qb l[k].body.length cb) := below_cle HBW.out _ _ (HCC.out _ _ a0.2.2.2.2.2.1)
      have HCALL := Lib.hid (HCL.out k hk1 qp cp qr cr qv cv qb cb a0.2.2.2.2.2.2 wr HBW.out)
      clear a0
      generalize hpx : p l[k] = b at HCALL
      have HS0 := Lib.hid (fun h : b = false => ix_step HK.out HT.out (hpx.trans h))
      have HS1 := Lib.hid (fun h : b = true => ix_hit HK.out HT.out (hpx.trans h))
      clear hpx
      generalize l[k].results.length = z0 at *
      generalize l[k].params.length = z1 at *
      generalize l[k].vars.length = z2 at *
      generalize l[k].body.length = z3 at *
      generalize l[k].level = z4 at *
      generalize l[k].name = z5 at *
      clear hk1
      have hki : (k : Int) < (n : Int) := by omega
      go_wp2_with fail
      refine HCALL.out.mono ?_
      rintro e w2 ⟨rfl, hbel⟩
      have HB3 := Lib.hid (bl_tr HBW.out hbel)
      clear hbel HCALL
      cases b
      · have HT2 := Lib.hid (HS0.out rfl)
        go_wp2_with fail
        exact ⟨⟨k + 1, by omega, by go_num, HB3, HT2⟩, by simp [intOf]; omega⟩
      · have HT2 := Lib.hid (HS1.out rfl)
        go_wp2_with fail
        go_ret
        exact ⟨by rw [HT2.out]; rfl, HB3.out⟩
    · have HT2 := Lib.hid (ix_no (fun j hj _ => HT.out j hj (by have := HN.out; omega)))
      go_wp2
      go_ret
      exact ⟨by rw [HT2.out]; rfl, HBW.out⟩
end
end Go.Proofs.YtlpdjfimefjmcaaGreat

/- Package names: the first declaration of a name, at each kind. (Written by a program.) -/
namespace Go.Proofs.YtlpdjfimefjmcaaGreat
open Go Go.RowKit Go.Proofs.Mm

theorem str_dec {a b : ByteArray} : (a.toList == b.toList) = decide (a = b) := by
  rw [Bool.eq_iff_iff, beq_iff_eq, decide_eq_true_iff, Lib.toList_data, Lib.toList_data]
  constructor
  · intro h
    exact ByteArray.ext (Array.toList_inj.1 h)
  · rintro rfl; rfl
theorem str_dec2 {a b : ByteArray} {x : Bool} (h : x = decide (a = b)) : Ending.returned (.bool (a.toList == b.toList)) = .returned (.bool x) := by rw [h, str_dec]
theorem cell_lt {w : World} {a : Addr} {v : Value} (h : w.cell? a = some v) : a.block < w.heap.size := World.block_lt_of_cell? _ _ h
/-- What was there is there still. -/
theorem cell_b {w w' : World} {a : Addr} {v : Value} (h : w.cell? a = some v) (hb : Below w.heap.size w w') : w'.cell? a = some v := below_cle hb _ _ h
theorem cell_b2 {_w0 w w' : World} {a : Addr} {v : Value} (h : w.cell? a = some v) (hb : Below w.heap.size w w') : w'.cell? a = some v := below_cle hb _ _ h
theorem ent_of {P : Program} {f : FuncId} {fn : Func} {c : Code} (hf : P.funcs[f]? = some fn) (hname : (fn.name == "runtime.NumGoroutine") = false) (hb : fn.body = some c) : ∀ args w, (callFunc f args).run P w = .ok (.enter f args) w := enters_of hf hname hb
theorem new_cell (W : World) (v : Value) (T : TypeId) : (W.alloc (.cells #[v] T)).cell? ⟨W.heap.size, 0, none⟩ = some v := by
  rw [World.cell?_alloc_new]; rfl
theorem new_cell' {W : World} {n : Nat} (v : Value) (T : TypeId) (h : W.heap.size = n) : (W.alloc (.cells #[v] T)).cell? ⟨n, 0, none⟩ = some v := by subst h; exact new_cell W v T

section
variable {lt : Bool} {C : Cl} {W : World} {q : Option Addr} {c : Nat}
set_option maxRecDepth 100000 in
theorem nmDe_p (d : DeZ) (W : World) : Calls Tryz.prog 43 #[.agg #[.string d.name, .int .u64 (d.label : Nat)]] W fun e w' => e = .returned (.string d.name) ∧ W.alloc (.cells #[.string d.name, .int .u64 (d.label : Nat)] 37) = w' := by
  go_enter Tryz.func43, Tryz.ntmps43
  go_wp2
  go_ret
  exact ⟨rfl, rfl⟩
set_option maxRecDepth 100000 in
set_option maxHeartbeats 1000000 in
theorem fcDe_p (d : DeZ) (nm : ByteArray) (W : World) (b1 b2 : Nat) (h1 : W.cell? ⟨b1, 0, none⟩ = some (.func (.func 43) #[] #[])) (h2 : W.cell? ⟨b2, 0, none⟩ = some (.string nm)) :
    Calls Tryz.prog 86 #[.agg #[.string d.name, .int .u64 (d.label : Nat)], .pointer (some ⟨b1, 0, none⟩), .pointer (some ⟨b2, 0, none⟩)] W (RetB (.bool (decide (d.name = nm))) W) := by
  have hn := nmDe_p d
  have ek : ∀ args w, (callFunc 43 args).run Tryz.prog w = .ok (.enter 43 args) w := ent_of Tryz.func43 (by kernel_rfl) rfl
  have hlt1 := cell_lt h1
  have hlt2 := cell_lt h2
  have HN := Lib.hid hn
  clear hn
  go_enter Tryz.func86, Tryz.ntmps86
  go_wp2_with fail
  go_region_with (first | (go_at_call 43; refine (HN.out _).mono ?_; rintro e w' ⟨rfl, rfl⟩))
  all_goals
    go_wp2
    go_ret
    refine ⟨str_dec2 rfl, ?_⟩
    repeat (first | exact Below.refl _ _ | refine bl_al ?_ _ | refine bl_dr ?_)
end

section
variable {lt : Bool} {C : Cl} {W : World} {q : Option Addr} {c : Nat}
set_option maxRecDepth 100000 in
theorem nmAr_p (d : ArZ) (W : World) : Calls Tryz.prog 45 #[.agg #[.string d.name, .int .i64 d.len, .int .u64 (d.label : Nat)]] W fun e w' => e = .returned (.string d.name) ∧ W.alloc (.cells #[.string d.name, .int .i64 d.len, .int .u64 (d.label : Nat)] 39) = w' := by
  go_enter Tryz.func45, Tryz.ntmps45
  go_wp2
  go_ret
  exact ⟨rfl, rfl⟩
set_option maxRecDepth 100000 in
set_option maxHeartbeats 1000000 in
theorem fcAr_p (d : ArZ) (nm : ByteArray) (W : World) (b1 b2 : Nat) (h1 : W.cell? ⟨b1, 0, none⟩ = some (.func (.func 45) #[] #[])) (h2 : W.cell? ⟨b2, 0, none⟩ = some (.string nm)) :
    Calls Tryz.prog 88 #[.agg #[.string d.name, .int .i64 d.len, .int .u64 (d.label : Nat)], .pointer (some ⟨b1, 0, none⟩), .pointer (some ⟨b2, 0, none⟩)] W (RetB (.bool (decide (d.name = nm))) W) := by
  have hn := nmAr_p d
  have ek : ∀ args w, (callFunc 45 args).run Tryz.prog w = .ok (.enter 45 args) w := ent_of Tryz.func45 (by kernel_rfl) rfl
  have hlt1 := cell_lt h1
  have hlt2 := cell_lt h2
  have HN := Lib.hid hn
  clear hn
  go_enter Tryz.func88, Tryz.ntmps88
  go_wp2_with fail
  go_region_with (first | (go_at_call 45; refine (HN.out _).mono ?_; rintro e w' ⟨rfl, rfl⟩))
  all_goals
    go_wp2
    go_ret
    refine ⟨str_dec2 rfl, ?_⟩
    repeat (first | exact Below.refl _ _ | refine bl_al ?_ _ | refine bl_dr ?_)
end

section
variable {lt : Bool} {C : Cl} {W : World} {q : Option Addr} {c : Nat}
set_option maxRecDepth 100000 in
theorem nmFn_p (d : FnZ) (qp : Option Addr) (cp : Nat) (qr : Option Addr) (cr : Nat) (qv : Option Addr) (cv : Nat) (qb : Option Addr) (cb : Nat) (W : World) : Calls Tryz.prog 47 #[.agg #[.string d.name, .int .u64 (d.level : Nat), .slice qp d.params.length cp, .slice qr d.results.length cr, .slice qv d.vars.length cv, .slice qb d.body.length cb]] W fun e w' => e = .returned (.string d.name) ∧ W.alloc (.cells #[.string d.name, .int .u64 (d.level : Nat), .slice qp d.params.length cp, .slice qr d.results.length cr, .slice qv d.vars.length cv, .slice qb d.body.length cb] 43) = w' := by
  go_enter Tryz.func47, Tryz.ntmps47
  go_wp2
  go_ret
  exact ⟨rfl, rfl⟩
set_option maxRecDepth 100000 in
set_option maxHeartbeats 1000000 in
theorem fcFn_p (d : FnZ) (qp : Option Addr) (cp : Nat) (qr : Option Addr) (cr : Nat) (qv : Option Addr) (cv : Nat) (qb : Option Addr) (cb : Nat) (nm : ByteArray) (W : World) (b1 b2 : Nat) (h1 : W.cell? ⟨b1, 0, none⟩ = some (.func (.func 47) #[] #[])) (h2 : W.cell? ⟨b2, 0, none⟩ = some (.string nm)) :
    Calls Tryz.prog 90 #[.agg #[.string d.name, .int .u64 (d.level : Nat), .slice qp d.params.length cp, .slice qr d.results.length cr, .slice qv d.vars.length cv, .slice qb d.body.length cb], .pointer (some ⟨b1, 0, none⟩), .pointer (some ⟨b2, 0, none⟩)] W (RetB (.bool (decide (d.name = nm))) W) := by
  have hn := nmFn_p d qp cp qr cr qv cv qb cb
  have ek : ∀ args w, (callFunc 47 args).run Tryz.prog w = .ok (.enter 47 args) w := ent_of Tryz.func47 (by kernel_rfl) rfl
  have hlt1 := cell_lt h1
  have hlt2 := cell_lt h2
  have HN := Lib.hid hn
  clear hn
  go_enter Tryz.func90, Tryz.ntmps90
  go_wp2_with fail
  go_region_with (first | (go_at_call 47; refine (HN.out _).mono ?_; rintro e w' ⟨rfl, rfl⟩))
  all_goals
    go_wp2
    go_ret
    refine ⟨str_dec2 rfl, ?_⟩
    repeat (first | exact Below.refl _ _ | refine bl_al ?_ _ | refine bl_dr ?_)
end

section
variable {lt : Bool} {C : Cl} {W : World} {q : Option Addr} {c : Nat}
set_option maxRecDepth 100000 in
set_option maxHeartbeats 1000000 in
theorem firstDe_p {l : List DeZ} (h : DesR lt C (.slice q l.length c) l) (hC : CLe C (wC W)) (nm : ByteArray) :
    Calls Tryz.prog 42 #[.slice q l.length c, .func (.func 43) #[] #[], .string nm] W (RetB (.int .i64 (ixI (idxZ (l.map DeZ.name) nm))) W) := by
  have hmf : ∀ (fn : Fn) (first cap : Array Value) (w : World), (Instr.makeFunc fn first cap).run Tryz.prog w = .ok (.func fn first cap) w := fun _ _ _ _ => rfl
  have ek : Ent 86 := ent_of Tryz.func86 (by kernel_rfl) rfl
  have hlen := slx_len h
  have HX := Lib.hid (show idxZ (l.map DeZ.name) nm = l.findIdx? (fun d => decide (d.name = nm)) by unfold idxZ; rw [List.findIdx?_map]; rfl)
  have HI := Lib.hid (fun (w : World) (b1 b2 : Nat) (hb : Below W.heap.size W w) (h1 : w.cell? ⟨b1, 0, none⟩ = some (.func (.func 43) #[] #[])) (h2 : w.cell? ⟨b2, 0, none⟩ = some (.string nm)) =>
    ixDe_p (W := w) (c := c) (by omega) (h.cells) (hC.trans (below_cle hb)) ek (ca := #[.pointer (some ⟨b1, 0, none⟩), .pointer (some ⟨b2, 0, none⟩)]) (fun d => decide (d.name = nm))
      (fun k hk w' hb' => fcDe_p l[k] nm w' b1 b2 (cell_b h1 hb') (cell_b h2 hb')))
  clear h hC hlen
  generalize l.length = n at *
  go_enter Tryz.func42, Tryz.ntmps42
  go_wp2_with (go_at_call 85; refine (HI.out _ W.heap.size (W.heap.size + 1) ?_ ?_ ?_).mono ?_)
  · repeat (first | exact Below.refl _ _ | refine bl_al ?_ _ | refine bl_dr ?_)
  · exact cell_b (new_cell W _ _) (bl_al (Below.refl _ _) _)
  · exact new_cell' _ _ (by simp)
  · rintro e w1 ⟨rfl, hb1⟩
    have HB := Lib.hid (bl_tr (bl_al (bl_al (Below.refl W.heap.size W) _) _) hb1)
    clear hb1
    go_wp2
    go_ret
    exact ⟨by rw [HX.out]; rfl, HB.out⟩
end

section
variable {lt : Bool} {C : Cl} {W : World} {q : Option Addr} {c : Nat}
set_option maxRecDepth 100000 in
set_option maxHeartbeats 1000000 in
theorem firstAr_p {l : List ArZ} (h : ArsR lt C (.slice q l.length c) l) (hC : CLe C (wC W)) (nm : ByteArray) :
    Calls Tryz.prog 44 #[.slice q l.length c, .func (.func 45) #[] #[], .string nm] W (RetB (.int .i64 (ixI (idxZ (l.map ArZ.name) nm))) W) := by
  have hmf : ∀ (fn : Fn) (first cap : Array Value) (w : World), (Instr.makeFunc fn first cap).run Tryz.prog w = .ok (.func fn first cap) w := fun _ _ _ _ => rfl
  have ek : Ent 88 := ent_of Tryz.func88 (by kernel_rfl) rfl
  have hlen := slx_len h
  have HX := Lib.hid (show idxZ (l.map ArZ.name) nm = l.findIdx? (fun d => decide (d.name = nm)) by unfold idxZ; rw [List.findIdx?_map]; rfl)
  have HI := Lib.hid (fun (w : World) (b1 b2 : Nat) (hb : Below W.heap.size W w) (h1 : w.cell? ⟨b1, 0, none⟩ = some (.func (.func 45) #[] #[])) (h2 : w.cell? ⟨b2, 0, none⟩ = some (.string nm)) =>
    ixAr_p (W := w) (c := c) (by omega) (h.cells) (hC.trans (below_cle hb)) ek (ca := #[.pointer (some ⟨b1, 0, none⟩), .pointer (some ⟨b2, 0, none⟩)]) (fun d => decide (d.name = nm))
      (fun k hk w' hb' => fcAr_p l[k] nm w' b1 b2 (cell_b h1 hb') (cell_b h2 hb')))
  clear h hC hlen
  generalize l.length = n at *
  go_enter Tryz.func44, Tryz.ntmps44
  go_wp2_with (go_at_call 87; refine (HI.out _ W.heap.size (W.heap.size + 1) ?_ ?_ ?_).mono ?_)
  · repeat (first | exact Below.refl _ _ | refine bl_al ?_ _ | refine bl_dr ?_)
  · exact cell_b (new_cell W _ _) (bl_al (Below.refl _ _) _)
  · exact new_cell' _ _ (by simp)
  · rintro e w1 ⟨rfl, hb1⟩
    have HB := Lib.hid (bl_tr (bl_al (bl_al (Below.refl W.heap.size W) _) _) hb1)
    clear hb1
    go_wp2
    go_ret
    exact ⟨by rw [HX.out]; rfl, HB.out⟩
end

section
variable {lt : Bool} {C : Cl} {W : World} {q : Option Addr} {c : Nat}
set_option maxRecDepth 100000 in
set_option maxHeartbeats 1000000 in
theorem firstFn_p {l : List FnZ} (h : FnsR lt C (.slice q l.length c) l) (hC : CLe C (wC W)) (nm : ByteArray) :
    Calls Tryz.prog 46 #[.slice q l.length c, .func (.func 47) #[] #[], .string nm] W (RetB (.int .i64 (ixI (idxZ (l.map FnZ.name) nm))) W) := by
  have hmf : ∀ (fn : Fn) (first cap : Array Value) (w : World), (Instr.makeFunc fn first cap).run Tryz.prog w = .ok (.func fn first cap) w := fun _ _ _ _ => rfl
  have ek : Ent 90 := ent_of Tryz.func90 (by kernel_rfl) rfl
  have hlen := slx_len h
  have HX := Lib.hid (show idxZ (l.map FnZ.name) nm = l.findIdx? (fun d => decide (d.name = nm)) by unfold idxZ; rw [List.findIdx?_map]; rfl)
  have HI := Lib.hid (fun (w : World) (b1 b2 : Nat) (hb : Below W.heap.size W w) (h1 : w.cell? ⟨b1, 0, none⟩ = some (.func (.func 47) #[] #[])) (h2 : w.cell? ⟨b2, 0, none⟩ = some (.string nm)) =>
    ixFn_p (W := w) (c := c) (by omega) (h.cells) (hC.trans (below_cle hb)) ek (ca := #[.pointer (some ⟨b1, 0, none⟩), .pointer (some ⟨b2, 0, none⟩)]) (fun d => decide (d.name = nm))
      (fun k hk qp cp qr cr qv cv qb cb _ w' hb' => fcFn_p l[k] qp cp qr cr qv cv qb cb nm w' b1 b2 (cell_b h1 hb') (cell_b h2 hb')))
  clear h hC hlen
  generalize l.length = n at *
  go_enter Tryz.func46, Tryz.ntmps46
  go_wp2_with (go_at_call 89; refine (HI.out _ W.heap.size (W.heap.size + 1) ?_ ?_ ?_).mono ?_)
  · repeat (first | exact Below.refl _ _ | refine bl_al ?_ _ | refine bl_dr ?_)
  · exact cell_b (new_cell W _ _) (bl_al (Below.refl _ _) _)
  · exact new_cell' _ _ (by simp)
  · rintro e w1 ⟨rfl, hb1⟩
    have HB := Lib.hid (bl_tr (bl_al (bl_al (Below.refl W.heap.size W) _) _) hb1)
    clear hb1
    go_wp2
    go_ret
    exact ⟨by rw [HX.out]; rfl, HB.out⟩
end
end Go.Proofs.YtlpdjfimefjmcaaGreat
