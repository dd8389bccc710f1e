/- Plain: in a source without a fault every use is found, as what it must be, and no two names are one. -/
import Derived.Test.YtlpdjfimefjmcaaGreatNfPR2
import Derived.Test.YtlpdjfimefjmcaaGreatNfPR10
import Derived.Test.YtlpdjfimefjmcaaGreatNfPR11
namespace Go.Proofs.YtlpdjfimefjmcaaGreat
open Go

theorem grp_none {most : Nat} {e : Nat → Nat} {base : Nat} : ∀ {n k : Nat}, k ≤ most → grpF most e base n k = none → (∀ j, k ≤ j → j < k + n → e j = 0) ∧ k + n ≤ most
  | 0, k, hk, _ => ⟨fun j h1 h2 => by omega, hk⟩
  | n + 1, k, hk, h => by
    rw [grpF] at h
    split at h
    · cases h
    · rename_i hne
      split at h
      · rename_i he
        obtain ⟨h1, h2⟩ := grp_none (n := n) (k := k + 1) (by omega) h
        refine ⟨fun j h3 h4 => ?_, by omega⟩
        by_cases hj : j = k
        · rw [hj]; exact he
        · exact h1 j (by omega) (by omega)
      · cases h
theorem orO_nn {α : Type} {a b : Option α} (h : orO a b = none) : a = none ∧ b = none := by
  cases a with
  | none => exact ⟨rfl, h⟩
  | some x => cases h
theorem grp_err {most : Nat} {e : Nat → Nat} {base : Nat} : ∀ {n k a er : Nat}, grpF most e base n k = some (a, er) → er ≠ 0
  | 0, _, _, _, h => by cases h
  | n + 1, k, a, er, h => by
    rw [grpF] at h
    split at h
    · injection h with h; injection h with _ h; omega
    · split at h
      · exact grp_err h
      · rename_i hne
        injection h with h; injection h with _ h; omega
theorem orO_err {a b : Option (Nat × Nat)} {x y : Nat} (h : orO a b = some (x, y)) (ha : ∀ u v, a = some (u, v) → v ≠ 0) (hb : ∀ u v, b = some (u, v) → v ≠ 0) : y ≠ 0 := by
  cases a with
  | none => exact hb _ _ h
  | some p => exact ha _ _ h
theorem decls_err {s : SoZ} {a e : Nat} (h : declsZE s = some (a, e)) : e ≠ 0 := by
  unfold declsZE at h
  refine orO_err h (fun _ _ => grp_err) fun _ _ h => orO_err h (fun _ _ => grp_err) fun _ _ h => orO_err h (fun _ _ => grp_err) fun _ _ h => orO_err h (fun _ _ => grp_err) fun _ _ => grp_err
theorem fst0_zero : ∀ {l : List Nat}, fst0 l = 0 → ∀ e ∈ l, e = 0
  | [], _, e, he => by cases he
  | x :: l, h, e, he => by
    rw [fst0] at h
    split at h
    · rename_i hx
      rcases List.mem_cons.1 he with rfl | he
      · exact hx
      · exact fst0_zero h e he
    · rename_i hx
      exact absurd h hx
theorem body_err {s : SoZ} {f : Nat} : ∀ {l : List StZ} {i : Nat} {a : Int} {e : Nat}, bodyF s f l i = some (a, e) → e ≠ 0
  | [], _, _, _, h => by cases h
  | x :: l, i, a, e, h => by
    rw [bodyF] at h
    split at h
    · exact body_err h
    · rename_i hx
      injection h with h; injection h with _ h; omega
theorem body_none {s : SoZ} {f : Nat} : ∀ {l : List StZ} {i : Nat}, bodyF s f l i = none → ∀ x ∈ l, stE s f x = 0
  | [], _, _, x, hx => by cases hx
  | y :: l, i, h, x, hx => by
    rw [bodyF] at h
    split at h
    · rename_i he
      rcases List.mem_cons.1 hx with rfl | hx
      · exact he
      · exact body_none h x hx
    · cases h
section
variable {nest : List Int → Bool}
theorem fnE_err {s : SoZ} {f : Nat} {d : FnZ} {a : Int} {e : Nat} (h : fnE nest s f d = some (a, e)) : e ≠ 0 := by
  unfold fnE at h
  simp only at h
  split at h
  · exact body_err h
  · rename_i hne
    injection h with h; injection h with _ h
    rw [← h]; exact hne
theorem fns_err {s : SoZ} : ∀ {l : List FnZ} {f g : Nat} {a : Int} {e : Nat}, fnsF nest s l f = some (g, a, e) → e ≠ 0
  | [], _, _, _, _, h => by cases h
  | d :: l, f, g, a, e, h => by
    rw [fnsF] at h
    split at h
    · rename_i a' e' he
      injection h with h; injection h with _ h; injection h with _ h
      rw [← h]; exact fnE_err he
    · exact fns_err h
theorem fns_none {s : SoZ} : ∀ {l : List FnZ} {f : Nat}, fnsF nest s l f = none → ∀ j (hj : j < l.length), fnE nest s (f + j) l[j] = none
  | [], _, _, j, hj => absurd hj (by simp)
  | d :: l, f, h, j, hj => by
    rw [fnsF] at h
    split at h
    · cases h
    · rename_i he
      cases j with
      | zero => exact he
      | succ j =>
        have := fns_none h j (by simpa using hj)
        rw [show f + (j + 1) = f + 1 + j by omega]
        exact this
theorem chk_zero {s : SoZ} (h : chkZ nest s = (0, 0, 0)) : declsZE s = none ∧ fnsF nest s s.funcs 0 = none := by
  unfold chkZ at h
  cases hd : declsZE s with
  | some p =>
    obtain ⟨a, e⟩ := p
    rw [hd] at h
    have := decls_err hd
    simp only [Prod.mk.injEq] at h
    omega
  | none =>
    rw [hd] at h
    cases hf : fnsF nest s s.funcs 0 with
    | none => exact ⟨rfl, rfl⟩
    | some p =>
      obtain ⟨f, a, e⟩ := p
      rw [hf] at h
      have := fns_err hf
      simp only [Prod.mk.injEq] at h
      omega
theorem unl_zero {b : Bool} {e : Nat} (he : e ≠ 0) (h : unl b e = 0) : b = true := by
  unfold unl at h
  split at h
  · assumption
  · exact absurd h he
theorem new_zero {n : ByteArray} {t : Bool} (h : newE n t = 0) : nameZ n = true ∧ t = false := by
  unfold newE at h
  split at h
  · rename_i hn
    have := unl_zero (by decide) h
    exact ⟨hn, by simpa using this⟩
  · cases h
theorem dec_zero {s : SoZ} {n : ByteArray} {p : Nat × Nat} (h : decE s n p = 0) : nameZ n = true ∧ fndZ s (-1) n = some p := by
  obtain ⟨h1, h2⟩ := new_zero h
  exact ⟨h1, by simpa using h2⟩
/-- What holds in a source without a fault. -/
structure Found (s : SoZ) : Prop where
  gl : ∀ k (h : k < s.globals.length), nameZ s.globals[k].name = true ∧ fndZ s (-1) s.globals[k].name = some (2, k)
  ar : ∀ k (h : k < s.arrays.length), nameZ s.arrays[k].name = true ∧ fndZ s (-1) s.arrays[k].name = some (3, k)
  ch : ∀ k (h : k < s.channels.length), nameZ s.channels[k].name = true ∧ fndZ s (-1) s.channels[k].name = some (4, k)
  fu : ∀ k (h : k < s.funcs.length), nameZ s.funcs[k].name = true ∧ fndZ s (-1) s.funcs[k].name = some (5, k)
  lo : ∀ f (h : f < s.funcs.length), ∀ k (hk : k < (s.funcs[f].params ++ s.funcs[f].vars).length), nameZ (s.funcs[f].params ++ s.funcs[f].vars)[k].name = true ∧ fndZ s (-1) (s.funcs[f].params ++ s.funcs[f].vars)[k].name = none ∧ locZ s f (s.funcs[f].params ++ s.funcs[f].vars)[k].name = some k
  bo : ∀ f (h : f < s.funcs.length), ∀ x ∈ s.funcs[f].body, fitZ x = true ∧ ∀ u ∈ usesZ x, ∃ kd n, fndZ s f u.1 = some (kd, n) ∧ (kd = u.2 ∨ u.2 = 2 ∧ kd = 1)
  sz : s.principals.length ≤ 64 ∧ s.globals.length ≤ 32 ∧ s.arrays.length ≤ 16 ∧ s.channels.length ≤ 16 ∧ s.funcs.length ≤ 32
  fz : ∀ f (h : f < s.funcs.length), s.funcs[f].params.length ≤ 8 ∧ s.funcs[f].vars.length ≤ 32 ∧ s.funcs[f].body.length ≤ 256
theorem loc_zero {s : SoZ} {f : Nat} : ∀ {l : List DeZ} {k : Nat}, locE s f l k = 0 → ∀ j (hj : j < l.length), nameZ l[j].name = true ∧ fndZ s (-1) l[j].name = none ∧ locZ s f l[j].name = some (k + j)
  | [], _, _, j, hj => absurd hj (by simp)
  | d :: l, k, h, j, hj => by
    rw [locE] at h
    have h0 := fst0_zero h
    cases j with
    | zero =>
      obtain ⟨h1, h2⟩ := new_zero (h0 _ (List.mem_cons_self ..))
      rw [Bool.or_eq_false_iff] at h2
      exact ⟨h1, by simpa using h2.1, by simpa using h2.2⟩
    | succ j =>
      have := loc_zero (h0 (locE s f l (k + 1)) (by simp)) j (by simpa using hj)
      rw [show k + (j + 1) = k + 1 + j by omega]
      exact this
/-- **In a source without a fault every use is found.** -/
theorem found {s : SoZ} (h : chkZ nest s = (0, 0, 0)) : Found s := by
  obtain ⟨hd, hf⟩ := chk_zero h
  unfold declsZE at hd
  simp only at hd
  obtain ⟨g1, hd⟩ := orO_nn hd
  obtain ⟨g2, hd⟩ := orO_nn hd
  obtain ⟨g3, hd⟩ := orO_nn hd
  obtain ⟨g4, g5⟩ := orO_nn hd
  obtain ⟨_, z1⟩ := grp_none (Nat.zero_le _) g1
  obtain ⟨e2, z2⟩ := grp_none (Nat.zero_le _) g2
  obtain ⟨e3, z3⟩ := grp_none (Nat.zero_le _) g3
  obtain ⟨e4, z4⟩ := grp_none (Nat.zero_le _) g4
  obtain ⟨e5, z5⟩ := grp_none (Nat.zero_le _) g5
  have hfn := fun f (hf' : f < s.funcs.length) => fns_none hf f hf'
  have hhd : ∀ f (h : f < s.funcs.length), (∀ e ∈ [unl (decide (s.funcs[f].params.length ≤ 8) && decide (s.funcs[f].results.length ≤ 4) && decide (s.funcs[f].vars.length ≤ 32) && decide (s.funcs[f].body.length ≤ 256)) 74, lblE s s.funcs[f].level, locE s f (s.funcs[f].params ++ s.funcs[f].vars) 0, lbsE s s.funcs[f].results, unl (nest (s.funcs[f].body.map StZ.kind) && decide (deepZ s.funcs[f].body 0 0 ≤ 12) && onceZ s.funcs[f].body) 50], e = 0) ∧ bodyF s f s.funcs[f].body 0 = none := by
    intro f h
    have := hfn f h
    rw [Nat.zero_add] at this
    unfold fnE at this
    simp only at this
    split at this
    · rename_i he
      exact ⟨fst0_zero he, this⟩
    · cases this
  refine ⟨fun k h => ?_, fun k h => ?_, fun k h => ?_, fun k h => ?_, fun f h k hk => ?_, fun f h x hx => ?_, by omega, fun f h => ?_⟩
  · have := e2 k (Nat.zero_le _) (by omega)
    unfold glE at this
    rw [List.getElem?_eq_getElem h] at this
    exact dec_zero (fst0_zero this _ (List.mem_cons_self ..))
  · have := e3 k (Nat.zero_le _) (by omega)
    unfold arE at this
    rw [List.getElem?_eq_getElem h] at this
    exact dec_zero (fst0_zero this _ (List.mem_cons_self ..))
  · have := e4 k (Nat.zero_le _) (by omega)
    unfold glE at this
    rw [List.getElem?_eq_getElem h] at this
    exact dec_zero (fst0_zero this _ (List.mem_cons_self ..))
  · have := e5 k (Nat.zero_le _) (by omega)
    unfold fuE at this
    rw [List.getElem?_eq_getElem h] at this
    exact dec_zero this
  · have := loc_zero ((hhd f h).1 (locE s f (s.funcs[f].params ++ s.funcs[f].vars) 0) (by simp)) k hk
    rwa [Nat.zero_add] at this
  · have h1 := fst0_zero (body_none (hhd f h).2 x hx)
    refine ⟨unl_zero (by decide) (h1 _ (List.mem_cons_self ..)), fun u hu => ?_⟩
    have h2 := fst0_zero (h1 (usesE s f x) (by simp)) (useE s f u) (List.mem_map_of_mem hu)
    unfold useE at h2
    split at h2
    · cases h2
    · rename_i kd n he
      refine ⟨kd, n, he, ?_⟩
      have := unl_zero (by decide) h2
      simp only [Bool.or_eq_true, Bool.and_eq_true, beq_iff_eq] at this
      exact this
  · have := unl_zero (by decide) ((hhd f h).1 _ (List.mem_cons_self ..))
    simp only [Bool.and_eq_true, decide_eq_true_eq] at this
    exact ⟨this.1.1.1, this.1.2, this.2⟩
end
/-! ## No two names are one -/
def allZ (s : SoZ) : List ByteArray := s.globals.map DeZ.name ++ (s.arrays.map ArZ.name ++ (s.channels.map DeZ.name ++ s.funcs.map FnZ.name))
def namesZ (s : SoZ) (d : FnZ) : List ByteArray := allZ s ++ (d.params ++ d.vars).map DeZ.name
theorem nd_of {l : List ByteArray} {g : ByteArray → Option (Nat × Nat)} {c : Nat} (h : ∀ k (hk : k < l.length), g l[k] = some (c, k)) : l.Nodup := by
  rw [List.Nodup, List.pairwise_iff_getElem]
  intro i j hi hj hij he
  have h1 := h i hi
  rw [he, h j hj] at h1
  injection h1 with h1
  injection h1 with _ h1
  omega
theorem mem_of {l : List ByteArray} {g : ByteArray → Option (Nat × Nat)} {c : Nat} (h : ∀ k (hk : k < l.length), g l[k] = some (c, k)) {x : ByteArray} (hx : x ∈ l) : ∃ k, g x = some (c, k) := by
  obtain ⟨k, hk, rfl⟩ := List.getElem_of_mem hx
  exact ⟨k, h k hk⟩
theorem nd_app {a b : List ByteArray} (ha : a.Nodup) (hb : b.Nodup) (h : ∀ x ∈ a, x ∉ b) : (a ++ b).Nodup := by
  rw [List.nodup_append]
  exact ⟨ha, hb, fun x hx y hy e => h x hx (e ▸ hy)⟩
/-- **No two names are one, and all are names.** -/
theorem names_nodup {s : SoZ} (h : Found s) {f : Nat} (hf : f < s.funcs.length) : (namesZ s s.funcs[f]).Nodup ∧ ∀ n ∈ namesZ s s.funcs[f], nameZ n = true := by
  have g1 : ∀ k (hk : k < (s.globals.map DeZ.name).length), fndZ s (-1) (s.globals.map DeZ.name)[k] = some (2, k) := fun k hk => by rw [List.getElem_map]; exact (h.gl k (by simpa using hk)).2
  have g2 : ∀ k (hk : k < (s.arrays.map ArZ.name).length), fndZ s (-1) (s.arrays.map ArZ.name)[k] = some (3, k) := fun k hk => by rw [List.getElem_map]; exact (h.ar k (by simpa using hk)).2
  have g3 : ∀ k (hk : k < (s.channels.map DeZ.name).length), fndZ s (-1) (s.channels.map DeZ.name)[k] = some (4, k) := fun k hk => by rw [List.getElem_map]; exact (h.ch k (by simpa using hk)).2
  have g4 : ∀ k (hk : k < (s.funcs.map FnZ.name).length), fndZ s (-1) (s.funcs.map FnZ.name)[k] = some (5, k) := fun k hk => by rw [List.getElem_map]; exact (h.fu k (by simpa using hk)).2
  have g5 : ∀ k (hk : k < ((s.funcs[f].params ++ s.funcs[f].vars).map DeZ.name).length), (fun n => (locZ s f n).map fun k => (1, k)) ((s.funcs[f].params ++ s.funcs[f].vars).map DeZ.name)[k] = some (1, k) := fun k hk => by
    simp only [List.getElem_map]
    rw [(h.lo f hf k (by simpa using hk)).2.2]; rfl
  have diff : ∀ {x : ByteArray} {a b c d : Nat}, a ≠ c → fndZ s (-1) x = some (a, b) → fndZ s (-1) x = some (c, d) → False := fun hne h1 h2 => by
    rw [h1] at h2
    injection h2 with h2
    injection h2 with h2 _
    exact hne h2
  have hall : ∀ x ∈ allZ s, ∃ p, fndZ s (-1) x = some p := by
    intro x hx
    unfold allZ at hx
    rcases List.mem_append.1 hx with hx | hx
    · obtain ⟨k, e⟩ := mem_of (g := fndZ s (-1)) g1 hx; exact ⟨_, e⟩
    rcases List.mem_append.1 hx with hx | hx
    · obtain ⟨k, e⟩ := mem_of (g := fndZ s (-1)) g2 hx; exact ⟨_, e⟩
    rcases List.mem_append.1 hx with hx | hx
    · obtain ⟨k, e⟩ := mem_of (g := fndZ s (-1)) g3 hx; exact ⟨_, e⟩
    · obtain ⟨k, e⟩ := mem_of (g := fndZ s (-1)) g4 hx; exact ⟨_, e⟩
  refine ⟨?_, ?_⟩
  · unfold namesZ
    refine nd_app ?_ (nd_of (g := fun n => (locZ s f n).map fun k => (1, k)) g5) ?_
    · unfold allZ
      refine nd_app (nd_of g1) (nd_app (nd_of g2) (nd_app (nd_of g3) (nd_of g4) ?_) ?_) ?_
      · intro x hx hy
        obtain ⟨_, e1⟩ := mem_of (g := fndZ s (-1)) g3 hx
        obtain ⟨_, e2⟩ := mem_of (g := fndZ s (-1)) g4 hy
        exact diff (by decide) e1 e2
      · intro x hx hy
        obtain ⟨_, e1⟩ := mem_of (g := fndZ s (-1)) g2 hx
        rcases List.mem_append.1 hy with hy | hy
        · obtain ⟨_, e2⟩ := mem_of (g := fndZ s (-1)) g3 hy; exact diff (by decide) e1 e2
        · obtain ⟨_, e2⟩ := mem_of (g := fndZ s (-1)) g4 hy; exact diff (by decide) e1 e2
      · intro x hx hy
        obtain ⟨_, e1⟩ := mem_of (g := fndZ s (-1)) g1 hx
        rcases List.mem_append.1 hy with hy | hy
        · obtain ⟨_, e2⟩ := mem_of (g := fndZ s (-1)) g2 hy; exact diff (by decide) e1 e2
        rcases List.mem_append.1 hy with hy | hy
        · obtain ⟨_, e2⟩ := mem_of (g := fndZ s (-1)) g3 hy; exact diff (by decide) e1 e2
        · obtain ⟨_, e2⟩ := mem_of (g := fndZ s (-1)) g4 hy; exact diff (by decide) e1 e2
    · intro x hx hy
      obtain ⟨p, e1⟩ := hall x hx
      obtain ⟨k, hk, rfl⟩ := List.getElem_of_mem hy
      rw [List.getElem_map, (h.lo f hf k (by simpa using hk)).2.1] at e1
      cases e1
  · intro n hn
    unfold namesZ allZ at hn
    rcases List.mem_append.1 hn with hn | hn
    · rcases List.mem_append.1 hn with hn | hn
      · obtain ⟨k, hk, rfl⟩ := List.getElem_of_mem hn
        rw [List.getElem_map]; exact (h.gl k (by simpa using hk)).1
      rcases List.mem_append.1 hn with hn | hn
      · obtain ⟨k, hk, rfl⟩ := List.getElem_of_mem hn
        rw [List.getElem_map]; exact (h.ar k (by simpa using hk)).1
      rcases List.mem_append.1 hn with hn | hn
      · obtain ⟨k, hk, rfl⟩ := List.getElem_of_mem hn
        rw [List.getElem_map]; exact (h.ch k (by simpa using hk)).1
      · obtain ⟨k, hk, rfl⟩ := List.getElem_of_mem hn
        rw [List.getElem_map]; exact (h.fu k (by simpa using hk)).1
    · obtain ⟨k, hk, rfl⟩ := List.getElem_of_mem hn
      rw [List.getElem_map]; exact (h.lo f hf k (by simpa using hk)).1
end Go.Proofs.YtlpdjfimefjmcaaGreat

/- Rows of texts of the law's own; in a source without a fault each statement is short. -/
namespace Go.Proofs.YtlpdjfimefjmcaaGreat
open Go Go.RowKit Go.Proofs.Mm

/-- In a source without a fault expressions are few and short. -/
theorem found_us {nest : List Int → Bool} {s : SoZ} (h : chkZ nest s = (0, 0, 0)) : ∀ f (hf : f < s.funcs.length), ∀ x ∈ s.funcs[f].body, x.exprs.length ≤ 8 ∧ ∀ e ∈ x.exprs, e.length ≤ 48 := by
  obtain ⟨_, hfn⟩ := chk_zero h
  intro f hf x hx
  have h1 := fns_none hfn f hf
  rw [Nat.zero_add] at h1
  unfold fnE at h1
  simp only at h1
  split at h1
  · have h2 := fst0_zero (body_none h1 x hx)
    have h3 := unl_zero (by decide) (h2 (unl (decide (x.exprs.length ≤ 8) && x.exprs.all fun l => decide (l.length ≤ 48)) 74) (by simp))
    simp only [Bool.and_eq_true, decide_eq_true_eq, List.all_eq_true] at h3
    exact h3
  · cases h1
def strs (L : List ByteArray) : List Value := L.map Value.string
theorem strs_snoc (L : List ByteArray) (n : ByteArray) : strs (L ++ [n]) = strs L ++ [.string n] := by unfold strs; simp
theorem strs_len (L : List ByteArray) : (strs L).length = L.length := by unfold strs; simp
theorem strs_one (L : List ByteArray) : ∀ u ∈ strs L, u.oneCell' = true := by
  intro u hu
  obtain ⟨x, _, rfl⟩ := List.mem_map.1 hu
  rfl
theorem strs_at {L : List ByteArray} {j : Nat} (h : j < L.length) : (strs L)[j]? = some (.string L[j]) := by unfold strs; simp [h]
/-- What a row of one's own is, for one who takes it over. -/
theorem own_take {w : World} {B size n c : Nat} {E : TypeId} {q : Option Addr} {xs : List Value} (h : w.ownsRow B E size (.slice q n c) n xs) : (q = none → c = 0) ∧ n ≤ c ∧ xs.length = n * size ∧ ∀ ad, q = some ad → ∀ j u, xs[j]? = some u → w.cell? (ad.add j) = some u := by
  have h0 := h
  obtain ⟨h1, ⟨h2, h3⟩ | ⟨g, cap, cur, h2, h3, h4, h5, h6, h7, h8⟩⟩ := h
  · injection h2 with a b c
    exact ⟨fun _ => c, by omega, h1, fun ad e => by rw [a] at e; cases e⟩
  · injection h2 with a b c
    subst c
    refine ⟨fun e => by (rw [a] at e; cases e), h5, h1, fun ad e j u hu => ?_⟩
    rw [a] at e
    injection e with e
    subst e
    rcases own_rd h0 with ⟨e1, _⟩ | ⟨g', e1, e2⟩
    · rw [a] at e1; cases e1
    · rw [a] at e1
      injection e1 with e1
      injection e1 with e1
      subst e1
      have := e2 j u hu
      rwa [show ((⟨g, 0, none⟩ : Addr).add j) = ⟨g, j, none⟩ from by simp [Addr.add]; intro h; exact h.symm]
/-- A row of texts, item by item. -/
theorem own_str {w : World} {B n c : Nat} {E : TypeId} {q : Option Addr} {L : List ByteArray} (h : w.ownsRow B E 1 (.slice q n c) n (strs L)) {j : Nat} (hj : j < L.length) : ∃ g, q = some ⟨g, 0, none⟩ ∧ w.cell? ⟨g, j, none⟩ = some (.string L[j]) := by
  rcases own_rd h with ⟨_, _, _, h4⟩ | ⟨g, e, hc⟩
  · have := congrArg List.length h4
    rw [strs_len] at this
    simp at this
    subst this
    exact absurd hj (by simp)
  · exact ⟨g, e, hc j _ (strs_at hj)⟩
theorem own_len {w : World} {B n : Nat} {E : TypeId} {v : Value} {L : List ByteArray} (h : w.ownsRow B E 1 v n (strs L)) : L.length = n := by
  have := h.1
  rw [strs_len] at this
  omega
/-- A row of uses and one of kinds, item by item. -/
theorem own_use {w : World} {B n c : Nat} {E : TypeId} {q : Option Addr} {U : List (ByteArray × Nat)} (h : w.ownsRow B E 1 (.slice q n c) n (nmRow U)) {j : Nat} (hj : j < U.length) : ∃ g, q = some ⟨g, 0, none⟩ ∧ w.cell? ⟨g, j, none⟩ = some (.string U[j].1) := by
  rcases own_rd h with ⟨_, _, _, h4⟩ | ⟨g, e, hc⟩
  · have := congrArg List.length h4
    unfold nmRow at this
    simp at this
    subst this
    exact absurd hj (by simp)
  · exact ⟨g, e, hc j _ (by unfold nmRow; simp [hj])⟩
theorem kdRow_len (U : List (ByteArray × Nat)) : (kdRow U).length = U.length * 2 := by
  unfold kdRow
  induction U with
  | nil => rfl
  | cons x U ih => rw [List.flatMap_cons, List.length_append, kd2_len, ih, List.length_cons]; omega
theorem own_kd {w : World} {B n c : Nat} {E : TypeId} {q : Option Addr} {U : List (ByteArray × Nat)} (h : w.ownsRow B E 2 (.slice q n c) n (kdRow U)) {j : Nat} (hj : j < U.length) : ∃ g, q = some ⟨g, 0, none⟩ ∧ ∀ r u, r < 2 → (kd2 U[j].2)[r]? = some u → w.cell? ⟨g, j * 2 + r, none⟩ = some u := by
  rcases own_rd h with ⟨_, _, _, h4⟩ | ⟨g, e, hc⟩
  · have := congrArg List.length h4
    rw [kdRow_len, List.length_nil] at this
    omega
  · refine ⟨g, e, fun r u hr hu => hc _ _ ?_⟩
    have e2 : (kdRow (U.take j)).length = j * 2 := by rw [kdRow_len, List.length_take, Nat.min_eq_left (by omega)]
    have e4 : U = U.take j ++ (U[j] :: U.drop (j + 1)) := by rw [← drop_next hj, List.take_append_drop]
    have e3 : kdRow U = kdRow (U.take j) ++ (kd2 U[j].2 ++ kdRow (U.drop (j + 1))) := by
      conv => lhs; rw [e4]
      unfold kdRow
      rw [List.flatMap_append, List.flatMap_cons]
    rw [e3, List.getElem?_append_right (by omega), e2, Nat.add_sub_cancel_left, List.getElem?_append_left (by rw [kd2_len]; exact hr)]
    exact hu
/-- What is found is what it may be. -/
theorem may_of {kd n : Nat} (h : kd = n ∨ n = 2 ∧ kd = 1) : ∃ a b : Nat, kd2 n = [.int .i64 (a : Int), .int .i64 (b : Int)] ∧ (kd = a ∨ ¬ kd = a ∧ kd = b) := by
  unfold kd2
  split
  · rename_i e
    refine ⟨1, 2, rfl, ?_⟩
    rcases h with h | h <;> omega
  · refine ⟨n, n, rfl, ?_⟩
    rcases h with h | h <;> omega
end Go.Proofs.YtlpdjfimefjmcaaGreat
