/- Rows of numbers and of truths, in memory of their own; the graph of a code, as lists. -/
import Derived.Test.YthgcnlccikpmaaaCoMo
import Derived.BigQuiet
import Derived.OneCell
namespace Go.Proofs.Ythgcnlccikpmaaa
open Go Go.RowKit Go.Proofs.Mm

def iV (n : Int) : Value := .int .i64 n
/-- Numbers, as cells. -/
def cI (l : List Nat) : List Value := l.map fun x => Value.int .i64 (x : Nat)
def cB (l : List Bool) : List Value := l.map Value.bool
theorem cI_len (l : List Nat) : (cI l).length = l.length := by simp [cI]
theorem cB_len (l : List Bool) : (cB l).length = l.length := by simp [cB]
theorem cI_app (a b : List Nat) : cI (a ++ b) = cI a ++ cI b := by simp [cI]
theorem cI_one (l : List Nat) : ∀ u ∈ cI l, u.oneCell' = true := by
  intro u hu; unfold cI at hu; obtain ⟨x, _, rfl⟩ := List.mem_map.1 hu; rfl
/-- A row of numbers of the call's own. -/
def OwnI (B : Nat) (w : World) (v : Value) (l : List Nat) : Prop := w.ownsRow B 3 1 v l.length (cI l)
def OwnT (B : Nat) (w : World) (v : Value) (l : List Bool) : Prop := w.ownsRow B 4 1 v l.length (cB l)
/-- What a slice reads as. -/
def ReI (C : Cl) (v : Value) (l : List Nat) : Prop := ∃ q c, v = .slice q l.length c ∧ l.length ≤ c ∧ c ≤ maxLen ∧ RdO C q (cI l)
def ReT (C : Cl) (v : Value) (l : List Bool) : Prop := ∃ q c, v = .slice q l.length c ∧ l.length ≤ c ∧ c ≤ maxLen ∧ RdO C q (cB l)
theorem ReI.le {C D : Cl} {v : Value} {l : List Nat} (h : ReI C v l) (hc : CLe C D) : ReI D v l := by
  obtain ⟨q, c, e, h1, h2, h3⟩ := h
  exact ⟨q, c, e, h1, h2, h3.le hc⟩
theorem ReT.le {C D : Cl} {v : Value} {l : List Bool} (h : ReT C v l) (hc : CLe C D) : ReT D v l := by
  obtain ⟨q, c, e, h1, h2, h3⟩ := h
  exact ⟨q, c, e, h1, h2, h3.le hc⟩
theorem own_read {w : World} {B n : Nat} {E : TypeId} {v : Value} {xs : List Value} (h : w.ownsRow B E 1 v n xs) : ∃ q c, v = .slice q n c ∧ n ≤ c ∧ c ≤ maxLen ∧ RdO (wC w) q xs := by
  obtain ⟨h1, ⟨rfl, rfl⟩ | ⟨g, cap, cur, rfl, hb, hg, h4, h5, h6, h7⟩⟩ := h
  · exact ⟨none, 0, rfl, Nat.le_refl _, by unfold maxLen; omega, .inl (List.eq_nil_of_length_eq_zero (by simpa using h1))⟩
  · refine ⟨_, cap, rfl, h4, h5, .inr ⟨g, 0, rfl, fun j u hu => ?_⟩⟩
    rw [Nat.zero_add]
    unfold wC
    rw [cell_of_row w g j cur E (0, 0) hg]
    rw [← h7, List.getElem?_take] at hu
    split at hu
    · simpa using hu
    · cases hu
theorem OwnI.re {B : Nat} {w : World} {v : Value} {l : List Nat} (h : OwnI B w v l) : ReI (wC w) v l := own_read h
theorem OwnT.re {B : Nat} {w : World} {v : Value} {l : List Bool} (h : OwnT B w v l) : ReT (wC w) v l := own_read h
theorem ReI.at {C : Cl} {q : Option Addr} {n c : Nat} {l : List Nat} (h : ReI C (.slice q n c) l) : n = l.length ∧ n ≤ c ∧ c ≤ maxLen ∧ ∀ j, j < l.length → ∃ g o, q = some ⟨g, o, none⟩ ∧ C ⟨g, o + j, none⟩ = some (.int .i64 ((l.getD j 0 : Nat) : Int)) := by
  obtain ⟨q', c', e, h1, h2, h3⟩ := h
  injection e with e1 e2 e3
  subst e1 e2 e3
  refine ⟨rfl, h1, h2, fun j hj => ?_⟩
  rcases h3 with h3 | ⟨g, o, e, h4⟩
  · have := congrArg List.length h3
    rw [cI_len, List.length_nil] at this
    omega
  · exact ⟨g, o, e, h4 j _ (by unfold cI; simp [hj])⟩
theorem ReT.at {C : Cl} {q : Option Addr} {n c : Nat} {l : List Bool} (h : ReT C (.slice q n c) l) : n = l.length ∧ n ≤ c ∧ c ≤ maxLen ∧ ∀ j, j < l.length → ∃ g o, q = some ⟨g, o, none⟩ ∧ C ⟨g, o + j, none⟩ = some (.bool (l.getD j false)) := by
  obtain ⟨q', c', e, h1, h2, h3⟩ := h
  injection e with e1 e2 e3
  subst e1 e2 e3
  refine ⟨rfl, h1, h2, fun j hj => ?_⟩
  rcases h3 with h3 | ⟨g, o, e, h4⟩
  · have := congrArg List.length h3
    rw [cB_len, List.length_nil] at this
    omega
  · exact ⟨g, o, e, h4 j _ (by unfold cB; simp [hj])⟩
theorem ReI.shape {C : Cl} {v : Value} {l : List Nat} (h : ReI C v l) : ∃ q c, v = .slice q l.length c := let ⟨q, c, e, _⟩ := h; ⟨q, c, e⟩
theorem ReT.shape {C : Cl} {v : Value} {l : List Bool} (h : ReT C v l) : ∃ q c, v = .slice q l.length c := let ⟨q, c, e, _⟩ := h; ⟨q, c, e⟩

/-! ## The graph of a code -/
abbrev Cd := List (Int × Int)
/-- A number, if it is an address. -/
def inN (n : Nat) (x : Int) : List Nat := if 0 ≤ x ∧ x < n then [x.toNat] else []
/-- Those of numbers that are addresses. -/
def flt (n : Nat) (xs : List Int) : List Nat := xs.flatMap (inN n)
/-- Of two numbers those that are addresses, rising, each once. -/
def twoN (n : Nat) (x y : Int) : List Nat := if x = y then inN n x else if x < y then inN n x ++ inN n y else inN n y ++ inN n x
/-- Where edges lead. -/
def nxt (c : Cd) (a : Int) : List Nat :=
  if 0 ≤ a ∧ a < c.length then
    if (c.getD a.toNat (0, 0)).1 = 43 then inN c.length (c.getD a.toNat (0, 0)).2
    else if (c.getD a.toNat (0, 0)).1 = 44 then twoN c.length (a + 1) (c.getD a.toNat (0, 0)).2
    else if (c.getD a.toNat (0, 0)).1 = 46 then [c.length]
    else inN c.length (a + 1)
  else []
theorem mem_inN {n : Nat} {x : Int} {b : Nat} : b ∈ inN n x ↔ x = b ∧ b < n := by
  unfold inN
  split
  · rw [List.mem_singleton]; omega
  · simp; omega
theorem mem_twoN {n : Nat} {x y : Int} {b : Nat} : b ∈ twoN n x y ↔ (x = b ∨ y = b) ∧ b < n := by
  unfold twoN
  split
  · rw [mem_inN]; omega
  · split <;> rw [List.mem_append, mem_inN, mem_inN] <;> omega
theorem nxt_le {c : Cd} {a : Int} {b : Nat} (h : b ∈ nxt c a) : b ≤ c.length := by
  unfold nxt at h
  split at h
  · split at h
    · rw [mem_inN] at h; omega
    · split at h
      · rw [mem_twoN] at h; omega
      · split at h
        · rw [List.mem_singleton] at h; omega
        · rw [mem_inN] at h; omega
  · cases h
theorem inN_len (n : Nat) (x : Int) : (inN n x).length ≤ 1 := by unfold inN; split <;> simp
theorem twoN_len (n : Nat) (x y : Int) : (twoN n x y).length ≤ 2 := by
  have := inN_len n x
  have := inN_len n y
  unfold twoN
  split
  · omega
  · split <;> rw [List.length_append] <;> omega
theorem nxt_len (c : Cd) (a : Int) : (nxt c a).length ≤ 2 := by
  unfold nxt
  split
  · split
    · have := inN_len c.length (c.getD a.toNat (0, 0)).2; omega
    · split
      · exact twoN_len _ _ _
      · split
        · simp
        · have := inN_len c.length (a + 1); omega
  · simp
theorem nxt_none {c : Cd} {a : Int} (h : ¬ (0 ≤ a ∧ a < c.length)) : nxt c a = [] := by unfold nxt; rw [if_neg h]
theorem nxt_nodup (c : Cd) (a : Int) : (nxt c a).Nodup := by
  have one : ∀ x, (inN c.length x).Nodup := fun x => by unfold inN; split <;> simp
  unfold nxt
  split
  · split
    · exact one _
    · split
      · unfold twoN
        split
        · exact one _
        · rename_i hne
          split <;> refine List.nodup_append.2 ⟨one _, one _, ?_⟩ <;> (intro u hu v hv; rw [mem_inN] at hu hv; omega)
      · split
        · simp
        · exact one _
  · simp
/-- Those with an edge to a node, rising. -/
def ahd (c : Cd) (a : Int) : List Nat := (List.range c.length).filter fun b => (nxt c b).any fun x => decide ((x : Int) = a)
theorem mem_ahd {c : Cd} {a : Int} {b : Nat} : b ∈ ahd c a ↔ b < c.length ∧ ∃ x ∈ nxt c b, (x : Int) = a := by
  unfold ahd
  rw [List.mem_filter, List.mem_range, List.any_eq_true]
  simp
theorem ahd_len (c : Cd) (a : Int) : (ahd c a).length ≤ c.length := by
  unfold ahd
  have := List.length_filter_le (fun b : Nat => (nxt c b).any fun x => decide ((x : Int) = a)) (List.range c.length)
  rwa [List.length_range] at this
/-- All edges. -/
def edg (c : Cd) : List (Nat × Nat) := (List.range c.length).flatMap fun (a : Nat) => (nxt c (a : Int)).map fun (b : Nat) => (a, b)
theorem mem_edg {c : Cd} {a b : Nat} : (a, b) ∈ edg c ↔ a < c.length ∧ b ∈ nxt c a := by
  unfold edg
  simp only [List.mem_flatMap, List.mem_range, List.mem_map, Prod.mk.injEq]
  constructor
  · rintro ⟨x, hx, y, hy, rfl, rfl⟩; exact ⟨hx, hy⟩
  · rintro ⟨h1, h2⟩; exact ⟨a, h1, b, h2, rfl, rfl⟩
/-- Is there a way? -/
inductive Way (nx : Nat → List Nat) (s : Nat) : Nat → Prop
  | here : Way nx s s
  | on {a b : Nat} : Way nx s a → b ∈ nx a → Way nx s b
theorem Way.trans {nx : Nat → List Nat} {a b c : Nat} (h : Way nx a b) (k : Way nx b c) : Way nx a c := by
  induction k with
  | here => exact h
  | on _ e ih => exact ih.on e
theorem Way.inv {nx : Nat → List Nat} {s : Nat} (S : Nat → Prop) (h0 : S s) (hs : ∀ a, S a → ∀ b ∈ nx a, S b) {b : Nat} (h : Way nx s b) : S b := by
  induction h with
  | here => exact h0
  | on _ e ih => exact hs _ ih _ e
theorem Way.back {nx pr : Nat → List Nat} (h : ∀ a b, b ∈ nx a → a ∈ pr b) {a b : Nat} (k : Way nx a b) : Way pr b a := by
  induction k with
  | here => exact .here
  | on _ e ih => exact ((Way.here).on (h _ _ e)).trans ih
open Classical in
/-- What is reached, node by node. -/
noncomputable def rch (nx : Nat → List Nat) (N s : Nat) : List Bool := (List.range N).map fun b => decide (Way nx s b)
theorem rch_len (nx : Nat → List Nat) (N s : Nat) : (rch nx N s).length = N := by simp [rch]
open Classical in
theorem rch_eq {nx : Nat → List Nat} {N s : Nat} {L : List Bool} (hl : L.length = N) (h : ∀ b, b < N → (L.getD b false = true ↔ Way nx s b)) : L = rch nx N s := by
  refine List.ext_getElem (by rw [hl, rch_len]) fun b h1 h2 => ?_
  have h3 := h b (by omega)
  rw [List.getD_eq_getElem?_getD, List.getElem?_eq_getElem h1, Option.getD_some] at h3
  simp only [rch, List.getElem_map, List.getElem_range]
  rw [Bool.eq_iff_iff, decide_eq_true_eq]
  exact h3
theorem rch_at {nx : Nat → List Nat} {N s b : Nat} (hb : b < N) : (rch nx N s).getD b false = true ↔ Way nx s b := by
  classical
  simp [rch, hb]
/-- A list that is closed and comes of what it begins with. -/
theorem rch_of {nx : Nat → List Nat} {N s : Nat} {L : List Bool} (hl : L.length = N) (h0 : L.getD s false = true) (hc : ∀ a, L.getD a false = true → ∀ b ∈ nx a, L.getD b false = true) (hw : ∀ b, b < N → L.getD b false = true → Way nx s b) : L = rch nx N s :=
  rch_eq hl fun b hb => ⟨hw b hb, fun h => h.inv (fun a => L.getD a false = true) h0 hc⟩
end Go.Proofs.Ythgcnlccikpmaaa
