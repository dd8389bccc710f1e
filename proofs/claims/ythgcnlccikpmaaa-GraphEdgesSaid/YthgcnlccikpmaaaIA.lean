/- Sources that are handed in: rows of statements and expressions, of whatever kinds and names, as they read in memory, with a mark behind each row or without. -/
import Derived.Test.YthgcnlccikpmaaaBs
namespace Go.Proofs.Ythgcnlccikpmaaa
open Go Go.RowKit Go.Proofs.Mm

/-- A term, a statement, of whatever kind. -/
structure TmZ where
  kind : Int
  value : Int
  name : ByteArray
structure StZ where
  kind : Int
  name : ByteArray
  targets : List ByteArray
  exprs : List (List TmZ)
instance : Inhabited TmZ := ⟨⟨0, 0, ⟨#[]⟩⟩⟩
instance : Inhabited StZ := ⟨⟨0, ⟨#[]⟩, [], []⟩⟩
/-- What cells can be read. -/
abbrev Cl := Addr → Option Value
def CLe (C D : Cl) : Prop := ∀ a v, C a = some v → D a = some v
theorem CLe.refl (C : Cl) : CLe C C := fun _ _ h => h
theorem CLe.trans {A B C : Cl} (h : CLe A B) (k : CLe B C) : CLe A C := fun a v e => k a v (h a v e)
def wC (w : World) : Cl := fun a => w.cell? a
/-- The cells of the blocks that are known. -/
def mC (m : Mem) : Cl := fun a => match m a.block with
  | some (.cells cur _ r) => if a.spot = none ∧ r = (0, 0) then cur[a.off]? else none
  | _ => none
theorem below_cle {w w' : World} (h : Below w.heap.size w w') : CLe (wC w) (wC w') := fun _ _ e => (h.cell (World.block_lt_of_cell? _ _ e)).trans e
theorem mle_cle {m m' : Mem} (h : m.le m') : CLe (mC m) (mC m') := by
  intro a v e
  unfold mC at e ⊢
  cases hm : m a.block with
  | none => rw [hm] at e; cases e
  | some o => rw [hm] at e; rw [h _ _ hm]; exact e
theorem has_cle {w : World} {m : Mem} (h : Has w m) : CLe (mC m) (wC w) := by
  intro a v e
  obtain ⟨b, o, s⟩ := a
  unfold mC at e
  simp only at e
  cases hm : m b with
  | none => rw [hm] at e; cases e
  | some ob =>
    rw [hm] at e
    cases ob with
    | cells cur T r =>
      simp only at e
      split at e
      · rename_i hs
        obtain ⟨hs, _⟩ := hs
        subst hs
        unfold wC
        rw [cell_of_row w b o cur T r (h _ _ hm)]
        exact e
      · cases e
    | _ => cases e
theorem has_free {w : World} {m : Mem} (h : Has w m) {a : Addr} {v : Value} (e : mC m a = some v) : w.frozen? a = false := by
  unfold mC at e
  cases hm : m a.block with
  | none => rw [hm] at e; cases e
  | some ob =>
    rw [hm] at e
    cases ob with
    | cells cur T r =>
      simp only at e
      split at e
      · rename_i hs
        have := h _ _ hm
        rw [hs.2] at this
        simp [World.frozen?, this]
      · cases e
    | _ => cases e
/-- A row of cells behind a slice. -/
def RdO (C : Cl) (q : Option Addr) (cs : List Value) : Prop := cs = [] ∨ ∃ g o, q = some ⟨g, o, none⟩ ∧ ∀ j u, cs[j]? = some u → C ⟨g, o + j, none⟩ = some u
theorem RdO.le {C D : Cl} {q : Option Addr} {cs : List Value} (h : RdO C q cs) (hc : CLe C D) : RdO D q cs := by
  rcases h with h | ⟨g, o, h1, h2⟩
  · exact .inl h
  · exact .inr ⟨g, o, h1, fun j u hu => hc _ _ (h2 j u hu)⟩
theorem RdO.left {C : Cl} {q : Option Addr} {cs ds : List Value} (h : RdO C q (cs ++ ds)) : RdO C q cs := by
  rcases h with h | ⟨g, o, h1, h2⟩
  · exact .inl (List.append_eq_nil_iff.1 h).1
  · exact .inr ⟨g, o, h1, fun j u hu => h2 j u (by rw [List.getElem?_append_left (by have := (List.getElem?_eq_some_iff.1 hu).1; exact this)]; exact hu)⟩
theorem RowM.rdO {m : Mem} {E : TypeId} {size n c : Nat} {q : Option Addr} {xs : List Value} (h : RowM m E size (.slice q n c) n xs) : RdO (mC m) q xs := by
  obtain ⟨h1, ⟨h2, rfl⟩ | ⟨g, cap, cur, h2, h3, h4, h5, h6, h7⟩⟩ := h
  · exact .inl (List.eq_nil_of_length_eq_zero (by simpa using h1))
  · injection h2 with h2 _ _
    refine .inr ⟨g, 0, h2, fun j u hu => ?_⟩
    rw [← h7, List.getElem?_take] at hu
    split at hu
    · unfold mC
      simp only [h3, Nat.zero_add]
      simpa using hu
    · cases hu
/-- A slice that reads as a list, with the cells mk behind. -/
def SlX {α : Type} (mk : List Value) (bs : Nat) (C : Cl) (R : List Value → α → Prop) (v : Value) (l : List α) : Prop :=
  ∃ q c cs, v = .slice q l.length c ∧ (mk = [] ∨ l.length + 1 ≤ c) ∧ RdO C q (cs ++ mk) ∧ Enc R cs l ∧ l.length * bs ≤ 140737488351232 ∧ c ≤ maxLen ∧ (q = none → c = 0) ∧ l.length ≤ c
theorem SlX.mono {α : Type} {mk : List Value} {bs : Nat} {C D : Cl} {R R' : List Value → α → Prop} {v : Value} {l : List α} (h : SlX mk bs C R v l) (hc : CLe C D) (hR : ∀ c x, R c x → R' c x) : SlX mk bs D R' v l := by
  obtain ⟨q, c, cs, h1, h2, h3, h4, h5, h6⟩ := h
  exact ⟨q, c, cs, h1, h2, h3.le hc, h4.mono hR, h5, h6⟩
def tmZ (t : TmZ) : List Value := [.int .i64 t.kind, .int .i64 t.value, .string t.name]
def mkS (lt : Bool) : List Value := if lt then [.string ⟨#[109, 97, 114, 107]⟩] else []
def mkT (lt : Bool) : List Value := if lt then [.int .i64 (-71), .int .i64 0, .string ⟨#[]⟩] else []
def mkE (lt : Bool) : List Value := if lt then [.slice none 0 0] else []
def mkB (lt : Bool) : List Value := if lt then [.int .i64 (-71), .string ⟨#[]⟩, .slice none 0 0, .slice none 0 0] else []
def StrR (lt : Bool) (C : Cl) (v : Value) (l : List ByteArray) : Prop := SlX (mkS lt) 16 C (fun c s => c = [Value.string s]) v l
def TmsR (lt : Bool) (C : Cl) (v : Value) (l : List TmZ) : Prop := SlX (mkT lt) 32 C (fun c t => c = tmZ t) v l
def ExR1 (lt : Bool) (C : Cl) (c : List Value) (t : List TmZ) : Prop := ∃ u, c = [u] ∧ TmsR lt C u t
def ExsR (lt : Bool) (C : Cl) (v : Value) (l : List (List TmZ)) : Prop := SlX (mkE lt) 24 C (ExR1 lt C) v l
def StR1 (lt : Bool) (C : Cl) (c : List Value) (s : StZ) : Prop := ∃ vt ve, c = [.int .i64 s.kind, .string s.name, vt, ve] ∧ StrR lt C vt s.targets ∧ ExsR lt C ve s.exprs
def BdR (lt : Bool) (C : Cl) (v : Value) (l : List StZ) : Prop := SlX (mkB lt) 72 C (StR1 lt C) v l
section
variable {lt : Bool} {C D : Cl}
theorem StrR.le {v : Value} {l : List ByteArray} (h : StrR lt C v l) (hc : CLe C D) : StrR lt D v l := SlX.mono h hc fun _ _ e => e
theorem TmsR.le {v : Value} {l : List TmZ} (h : TmsR lt C v l) (hc : CLe C D) : TmsR lt D v l := SlX.mono h hc fun _ _ e => e
theorem ExR1.le {c : List Value} {l : List TmZ} (h : ExR1 lt C c l) (hc : CLe C D) : ExR1 lt D c l := let ⟨u, e, k⟩ := h; ⟨u, e, k.le hc⟩
theorem ExsR.le {v : Value} {l : List (List TmZ)} (h : ExsR lt C v l) (hc : CLe C D) : ExsR lt D v l := SlX.mono h hc fun _ _ e => e.le hc
theorem StR1.le {c : List Value} {s : StZ} (h : StR1 lt C c s) (hc : CLe C D) : StR1 lt D c s := let ⟨vt, ve, e, a, b⟩ := h; ⟨vt, ve, e, a.le hc, b.le hc⟩
theorem BdR.le {v : Value} {l : List StZ} (h : BdR lt C v l) (hc : CLe C D) : BdR lt D v l := SlX.mono h hc fun _ _ e => e.le hc
end
theorem encZ_at {α : Type} {R : List Value → α → Prop} {size : Nat} (hR : ∀ c x, R c x → c.length = size) : ∀ {l : List α} {cs : List Value}, Enc R cs l → cs.length = l.length * size ∧ ∀ j (h : j < l.length), ∃ c, R c l[j] ∧ ∀ r, r < size → cs[j * size + r]? = c[r]?
  | [], cs, he => by obtain rfl : cs = [] := he; exact ⟨by simp, fun j h => absurd h (by simp)⟩
  | x :: l, cs, he => by
    obtain ⟨c, d, rfl, h1, h2⟩ := he
    have hc := hR _ _ h1
    obtain ⟨h5, h6⟩ := encZ_at hR h2
    refine ⟨by rw [List.length_append, hc, h5, List.length_cons, Nat.succ_mul]; omega, fun j h => ?_⟩
    cases j with
    | zero => exact ⟨c, h1, fun r hr => by rw [Nat.zero_mul, Nat.zero_add, List.getElem?_append_left (by omega)]⟩
    | succ j =>
      obtain ⟨c', h3, h4⟩ := h6 j (by simpa using h)
      refine ⟨c', h3, fun r hr => ?_⟩
      rw [show (j + 1) * size + r = c.length + (j * size + r) by rw [hc, Nat.succ_mul]; omega, List.getElem?_append_right (by omega), Nat.add_sub_cancel_left]
      exact h4 r hr
/-- What an element reads as. -/
theorem SlX.at {α : Type} {mk : List Value} {bs : Nat} {C : Cl} {R : List Value → α → Prop} {v : Value} {l : List α} {size : Nat} (h : SlX mk (bs + 1) C R v l) (hs : 0 < size) (hR : ∀ c x, R c x → c.length = size) :
    ∃ q c, v = .slice q l.length c ∧ (mk = [] ∨ l.length + 1 ≤ c) ∧ l.length ≤ 140737488351232 ∧ c ≤ maxLen ∧
      (∀ j (hj : j < l.length), ∃ g o e, q = some ⟨g, o, none⟩ ∧ R e l[j] ∧ ∀ r u, r < size → e[r]? = some u → C ⟨g, o + (j * size + r), none⟩ = some u) ∧
      (mk = [] ∨ ∃ g o, q = some ⟨g, o, none⟩ ∧ ∀ r u, mk[r]? = some u → C ⟨g, o + (l.length * size + r), none⟩ = some u) := by
  obtain ⟨q, c, cs, h1, h2, h3, h4, h5, h6, _⟩ := h
  obtain ⟨hl, ha⟩ := encZ_at hR h4
  refine ⟨q, c, h1, h2, Nat.le_trans (Nat.le_mul_of_pos_right _ (Nat.succ_pos _)) h5, h6, fun j hj => ?_, ?_⟩
  · obtain ⟨e, e1, e2⟩ := ha j hj
    have hle : j * size + size ≤ l.length * size := by rw [← Nat.succ_mul]; exact Nat.mul_le_mul_right _ hj
    rcases h3 with h3 | ⟨g, o, h3, h7⟩
    · have := (List.append_eq_nil_iff.1 h3).1
      rw [this] at hl
      simp only [List.length_nil] at hl
      omega
    · refine ⟨g, o, e, h3, e1, fun r u hr hu => h7 _ _ ?_⟩
      rw [List.getElem?_append_left (by omega), e2 r hr]
      exact hu
  · by_cases hm : mk = []
    · exact .inl hm
    · refine .inr ?_
      rcases h3 with h3 | ⟨g, o, h3, h7⟩
      · exact absurd (List.append_eq_nil_iff.1 h3).2 hm
      · refine ⟨g, o, h3, fun r u hu => h7 _ _ ?_⟩
        rw [List.getElem?_append_right (by omega), hl, Nat.add_sub_cancel_left]
        exact hu
end Go.Proofs.Ythgcnlccikpmaaa
