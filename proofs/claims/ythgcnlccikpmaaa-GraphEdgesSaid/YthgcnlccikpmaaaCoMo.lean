/- CodeMore: the law's walk. -/
import Derived.Test.YthgcnlccikpmaaaCoW
import Derived.Laws.AppendOwnNone
namespace Go.Proofs.Ythgcnlccikpmaaa
open Go Go.RowKit Go.Proofs.Mm Go.Sort

theorem infoOf {P : Program} {t : TypeId} {z : Value} {size bytes : Nat} (h : (P.info? t).map (fun i => (i.zero, i.size, i.bytes)) = some (some z, size, bytes)) : ∃ i, P.info? t = some i ∧ i.zero = some z ∧ i.size = size ∧ i.bytes = bytes := by
  cases hi : P.info? t with
  | none => rw [hi] at h; cases h
  | some i =>
    rw [hi] at h
    simp only [Option.map_some, Option.some.injEq, Prod.mk.injEq] at h
    exact ⟨i, rfl, h.1, h.2.1, h.2.2⟩
theorem infoL : ∃ i, Try.prog.info? 23 = some i ∧ i.zero = some (.int .u64 0) ∧ i.size = 1 ∧ i.bytes = 8 := infoOf (by kernel_rfl)
theorem und_L : Try.prog.underlying 24 = some (.slice 23) := by kernel_rfl
/-- A row of cells behind a slice that is handed on. -/
def RowIn (w : World) (q : Option Addr) (n c size : Nat) (cs : List Value) : Prop := cs.length = n * size ∧ (∀ u ∈ cs, u.oneCell' = true) ∧ ((q = none ∧ n = 0 ∧ c = 0) ∨ ∃ ad, q = some ad ∧ ∀ j u, cs[j]? = some u → w.cell? (ad.add j) = some u)
theorem RowIn.le {w w' : World} {q : Option Addr} {n c size : Nat} {cs : List Value} (h : RowIn w q n c size cs) (hb : Below w.heap.size w w') : RowIn w' q n c size cs :=
  ⟨h.1, h.2.1, h.2.2.imp id fun ⟨ad, e, hc⟩ => ⟨ad, e, fun j u hu => cell_b (hc j u hu) hb⟩⟩
theorem grown_refl (w : World) (r : Option Nat) : w.grownBy w r := ⟨rfl, rfl, rfl, Nat.le_refl _, fun _ _ _ => rfl⟩
theorem wpList_app {ops : Array Oper} {rest : List Oper} {o : Oper} {a : Act} {Q : Exit → Act → World → Prop} {w : World} (hgd : o.guard = none) (s x : Operand) (t : TypeId)
    (ho : o.op = .call { callee := .builtin .append, args := #[s, x], argTypes := #[t, t] })
    (base : Nat) (e : TypeId) (z : Value) (size bytes : Nat) (ht : Try.prog.underlying t = some (.slice e)) (hi : ∃ i, Try.prog.info? e = some i ∧ i.zero = some z ∧ i.size = size ∧ i.bytes = bytes) (hzs : z.cells.size = size) (hsz : 0 < size)
    (v : Value) (n : Nat) (xs : List Value) (hs : a.eval s = v) (hown : w.ownsRow base e size v n xs)
    (q : Option Addr) (m c : Nat) (news : List Value) (hx : a.eval x = .slice q m c) (hr : RowIn w q m c size news)
    (h63 : n + m ≤ maxLen) (hbytes : (n + m) * bytes ≤ 140737488355328) (hbase : base ≤ w.heap.size)
    (h : ∀ v' w', w'.ownsRow base e size v' (n + m) (xs ++ news) → w.grownBy w' v.ownBlock → wpList Try.prog ops Q rest (a.put o.dst v') w') : wpList Try.prog ops Q (o :: rest) a w := by
  obtain ⟨i, i1, i2, i3, i4⟩ := hi
  obtain ⟨hl, h1, ⟨rfl, rfl, rfl⟩ | ⟨ad, rfl, hc⟩⟩ := hr
  · have hn : news = [] := List.eq_nil_of_length_eq_zero (by rw [hl]; omega)
    subst hn
    refine wpList_append_own_none hgd s x t ho base e i size ht i1 v n xs hs hown hx ?_
    exact h v w (by simpa using hown) (grown_refl _ _)
  · exact wpList_append_own w hgd s x t ho base e i z size bytes ht i1 i2 i3 i4 hzs hsz v n xs hs hown ad m c news hx hl hc h1 h63 hbytes hbase fun v' w' a b _ => h v' w' a b
theorem one_enc {α : Type} {R : List Value → α → Prop} (hR : ∀ c x, R c x → ∀ u ∈ c, u.oneCell' = true) : ∀ {l : List α} {cs : List Value}, Enc R cs l → ∀ u ∈ cs, u.oneCell' = true
  | [], cs, e, u, hu => by
    obtain rfl : cs = [] := e
    cases hu
  | x :: l, cs, ⟨c, r, e, h1, h2⟩, u, hu => by
    subst e
    rcases List.mem_append.1 hu with hu | hu
    · exact hR c x h1 u hu
    · exact one_enc hR h2 u hu
theorem SlX.rowIn {α : Type} {bs size : Nat} {w : World} {R : List Value → α → Prop} {q : Option Addr} {n c : Nat} {l : List α} (h : SlX [] bs (wC w) R (.slice q n c) l) (hR : ∀ c x, R c x → c.length = size) (hone : ∀ c x, R c x → ∀ u ∈ c, u.oneCell' = true) :
    n = l.length ∧ n * bs ≤ 140737488351232 ∧ ∃ cs, Enc R cs l ∧ RowIn w q n c size cs := by
  obtain ⟨q', c', cs, e, _, hr, he, hb, _, hq, hlc⟩ := h
  injection e with e1 e2 e3
  subst e1 e2 e3
  refine ⟨rfl, hb, cs, he, (encZ_at hR he).1, one_enc hone he, ?_⟩
  rcases q with _ | ad
  · have h0 := hq rfl
    exact .inl ⟨rfl, by omega, h0⟩
  · refine .inr ⟨ad, rfl, ?_⟩
    rw [List.append_nil] at hr
    rcases hr with hr | ⟨g, o, hg, hr⟩
    · subst hr; intro j u hu; simp at hu
    · injection hg with hg
      subst hg
      intro j u hu
      rw [show ((⟨g, o, none⟩ : Addr).add j) = ⟨g, o + j, none⟩ from by unfold Addr.add; split <;> simp_all]
      exact hr j u hu
theorem la_one (c : List Value) (x : Int) (h : laR c x) : ∀ u ∈ c, u.oneCell' = true := by rw [h]; intro u hu; simp at hu; subst hu; rfl
theorem ar_one (c : List Value) (x : Int × Int) (h : arR c x) : ∀ u ∈ c, u.oneCell' = true := by rw [h]; intro u hu; simp at hu; rcases hu with rfl | rfl <;> rfl
theorem apartK {v u : Value} {a1 a2 b1 b2 : Nat} (h1 : ∀ k, v.ownBlock = some k → a1 ≤ k ∧ k < a2) (h2 : ∀ k, u.ownBlock = some k → b1 ≤ k ∧ k < b2) (h : a2 ≤ b1 ∨ b2 ≤ a1) : v.ownBlock = none ∨ v.ownBlock ≠ u.ownBlock := by
  cases hv : v.ownBlock with
  | none => exact .inl rfl
  | some k =>
    refine .inr fun e => ?_
    have := h1 k hv
    have := h2 k e.symm
    omega
theorem apartN (v : Value) : v.ownBlock = none ∨ v.ownBlock ≠ (Value.slice none 0 0).ownBlock := by
  cases v.ownBlock with
  | none => exact .inl rfl
  | some k => exact .inr (by simp [Value.ownBlock])
end Go.Proofs.Ythgcnlccikpmaaa
