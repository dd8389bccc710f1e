/- Rows that grow; a row that is taken over; the module's rows. -/
import Derived.Test.YtahnhohccbnhjaaCoLc
import Derived.Test.YtahnhohccbnhjaaCoLd
import Derived.RangeFuncRecord
namespace Go.Proofs.Ytahnhohccbnhjaa
open Go Go.RowKit Go.Proofs.Mm

theorem infoFn : ∃ i, Try.prog.info? 68 = some i ∧ i.zero = some (.agg #[.int .u64 0, .slice none 0 0, .slice none 0 0, .int .i64 0, .int .i64 0, .slice none 0 0]) ∧ i.size = 6 ∧ i.bytes = 96 := infoOf (by kernel_rfl)
theorem und_Fn : Try.prog.underlying 49 = some (.slice 68) := by kernel_rfl
theorem undMo : ∃ d, Try.prog.underlying 51 = some d ∧ (match d with | .struct _ | .array _ _ => true | _ => false) = true := undOf (by kernel_rfl)
theorem sizeMo : (Try.prog.info? 51).map (·.size) = some 4 := by kernel_rfl
/-- A row that grows element by element; what its elements lead to is known. -/
def RwI {α : Type} (E : TypeId) (size : Nat) (R : Mem → List Value → α → Prop) (w : World) (m : Mem) (n : Nat) (l : List α) (vF iV : Value) (wr : World) : Prop :=
  ∃ k q c cs m', k ≤ n ∧ iV = .int .i64 (k : Nat) ∧ vF = .slice q k c ∧ Hid (wr.ownsRow w.heap.size E size (.slice q k c) k cs) ∧ Hid (Enc (R m') cs (l.take k)) ∧ Hid (Has wr m') ∧ Hid (m.More w m') ∧ Hid (∀ b, (Value.slice q k c).ownBlock = some b → m' b = none) ∧ Hid (Below w.heap.size w wr)
theorem RwI.start {α : Type} {E : TypeId} {size : Nat} {R : Mem → List Value → α → Prop} {w : World} {m : Mem} {n : Nat} {l : List α} (h : Has w m) : RwI E size R w m n l (.slice none 0 0) (.int .i64 0) w :=
  ⟨0, none, 0, [], m, Nat.zero_le _, rfl, rfl, Lib.hid (World.ownsRow_nil _ _ _ _), Lib.hid Enc.nil, Lib.hid h, Lib.hid (Mem.More.refl _ _), Lib.hid (fun b hb => by cases hb), Lib.hid (Below.refl _ _)⟩
theorem rw_step {α : Type} {E : TypeId} {size : Nat} {R : Mem → List Value → α → Prop} {w wr w' w9 : World} {m m' m'' : Mem} {k c : Nat} {q : Option Addr} {l : List α} {cs news : List Value} {v9 : Value} {o : Obj} (hk : k < l.length)
    (hE : Enc (R m') cs (l.take k)) (hMo : m.More w m') (hFr : ∀ b, (Value.slice q k c).ownBlock = some b → m' b = none) (hB : Below w.heap.size w wr) (hrow : wr.ownsRow w.heap.size E size (.slice q k c) k cs)
    (hb : Below wr.heap.size wr w') (hmo : m'.More wr m'') (hH : Has w' m'') (hR : ∀ m m' : Mem, m.le m' → ∀ c x, R m c x → R m' c x) (hx : R m'' news l[k])
    (hown : w9.ownsRow w.heap.size E size v9 (k + 1) (cs ++ news)) (hg : (w'.alloc o).grownBy w9 (Value.slice q k c).ownBlock) (hat : v9.ownBlock = (Value.slice q k c).ownBlock ∨ v9.ownBlock = some (w'.heap.size + 1)) :
    ∃ q9 c9, v9 = .slice q9 (k + 1) c9 ∧ Hid (w9.ownsRow w.heap.size E size (.slice q9 (k + 1) c9) (k + 1) (cs ++ news)) ∧ Hid (Enc (R m'') (cs ++ news) (l.take (k + 1))) ∧ Hid (Has w9 m'') ∧ Hid (m.More w m'') ∧ Hid (∀ b, (Value.slice q9 (k + 1) c9).ownBlock = some b → m'' b = none) ∧ Hid (Below w.heap.size w w9) := by
  obtain ⟨q9, c9, rfl⟩ := own_shape hown
  have h1 := hB.size
  have h2 := hb.size
  have hfr : ∀ b, (Value.slice q k c).ownBlock = some b → m'' b = none := fun b e => hmo.new b (hFr b e) (hrow.lt b e).2
  have hC : Chg (fun b => (Value.slice q k c).ownBlock = some b) w' w9 := ((Chg.refl _ w').alloc _).then (grown_chg hg (fun b hb => .inl hb))
  refine ⟨q9, c9, rfl, Lib.hid hown, Lib.hid ?_, Lib.hid (hH.chg hC hfr), Lib.hid (hMo.trans hmo h1), Lib.hid (fun b hb => ?_), Lib.hid ?_⟩
  · rw [List.take_succ_eq_append_getElem hk]
    exact (hE.mono (hR _ _ hmo.le)).app (Enc.one hx)
  · rcases hat with hat | hat
    · exact hfr b (hat.symm.trans hb)
    · have := hat.symm.trans hb
      injection this with this
      exact hH.lt (by omega)
  · exact grown_below ((hB.trans (hb.mono h1)).alloc (by omega) _) (by simp; omega) hg (fun j hj => (hrow.lt j hj).1)
theorem rw_end {α : Type} {E : TypeId} {size bs : Nat} {R : Mem → List Value → α → Prop} {w wr w9 : World} {m m' : Mem} {n c : Nat} {q : Option Addr} {l : List α} {cs mk : List Value} {v9 : Value} {o : Obj} (hn : l.length = n)
    (hE : Enc (R m') cs (l.take n)) (hMo : m.More w m') (hFr : ∀ b, (Value.slice q n c).ownBlock = some b → m' b = none) (hB : Below w.heap.size w wr) (hrow : wr.ownsRow w.heap.size E size (.slice q n c) n cs) (hH : Has wr m') (hR : ∀ m m' : Mem, m.le m' → ∀ c x, R m c x → R m' c x)
    (hown : w9.ownsRow w.heap.size E size v9 (n + 1) (cs ++ mk)) (hg : (wr.alloc o).grownBy w9 (Value.slice q n c).ownBlock) (hat : v9.ownBlock = (Value.slice q n c).ownBlock ∨ v9.ownBlock = some (wr.heap.size + 1)) (hb : n * bs ≤ 140737488351232) :
    ∃ q9 c9, v9 = .slice q9 (n + 1) c9 ∧ n + 1 ≤ c9 ∧ (∃ g9, q9 = some ⟨g9, 0, none⟩) ∧ Hid (∃ m9, m.More w m9 ∧ Has w9 m9 ∧ SlX mk bs (mC m9) (R m9) (.slice q9 n c9) l) ∧ Hid (Below w.heap.size w w9) := by
  obtain ⟨q9, c9, rfl⟩ := own_shape hown
  have h1 := hB.size
  have hC : Chg (fun b => (Value.slice q n c).ownBlock = some b) wr w9 := ((Chg.refl _ wr).alloc _).then (grown_chg hg (fun b hb => .inl hb))
  have hcap : n + 1 ≤ c9 ∧ ∃ g9, q9 = some ⟨g9, 0, none⟩ := by
    rcases hown.2 with ⟨_, h0⟩ | ⟨g', cap', cur, h0, _, _, h1, _, _⟩
    · omega
    · injection h0 with h3 _ h4
      exact ⟨by omega, g', h3⟩
  obtain ⟨m9, d1, d2, d3⟩ := lent_done (w := w) (bs := bs) (R := R) (hH.chg hC hFr) (fun b hb => by
    rcases hat with hat | hat
    · exact hFr b (hat.symm.trans hb)
    · have := hat.symm.trans hb
      injection this with this
      exact hH.lt (by omega)) hown hn (by rwa [List.take_of_length_le (by omega)] at hE) hR hb
  exact ⟨q9, c9, rfl, hcap.1, hcap.2, Lib.hid ⟨m9, hMo.trans d1 (Nat.le_refl _), d2, d3⟩, Lib.hid (grown_below (hB.alloc h1 _) (by simp; omega) hg (fun j hj => (hrow.lt j hj).1))⟩
section
variable {P : Program}
/-- A row of nothing takes over a row that is read. -/
theorem wpList_append_rd {ops : Array Oper} {rest : List Oper} {o : Oper} {a : Act} {w : World} {Q : Exit → Act → World → Prop} (hgd : o.guard = none) (s x : Operand) (t : TypeId)
    (ho : o.op = .call { callee := .builtin .append, args := #[s, x], argTypes := #[t, t] })
    (e : TypeId) (i : TypeInfo) (z : Value) (size bytes : Nat) (ht : P.underlying t = some (.slice e)) (hi : P.info? e = some i) (hz : i.zero = some z)
    (hsize : i.size = size) (hby : i.bytes = bytes) (hzs : z.cells.size = size) (hsz : 0 < size)
    (hs : a.eval s = .slice none 0 0)
    (q : Option Addr) (m c : Nat) (news : List Value) (hx : a.eval x = .slice q m c) (hq : q = none → c = 0) (hmc : m ≤ c) (hl : news.length = m * size) (hnews : ∀ ad, q = some ad → ∀ j u, news[j]? = some u → w.cell? (ad.add j) = some u) (h1 : ∀ u ∈ news, u.oneCell' = true)
    (h63 : m ≤ maxLen) (hbytes : m * bytes ≤ 140737488355328)
    (h : ∀ q' c' w', w'.ownsRow w.heap.size e size (.slice q' m c') m news → Below w.heap.size w w' → wpList P ops Q rest (a.put o.dst (.slice q' m c')) w') :
    wpList P ops Q (o :: rest) a w := by
  have hnil := World.ownsRow_nil w w.heap.size e size
  rcases q with _ | ad
  · obtain rfl : c = 0 := hq rfl
    obtain rfl : m = 0 := by omega
    have hn : news = [] := List.eq_nil_of_length_eq_zero (by simpa using hl)
    subst hn
    exact wpList_append_own_none hgd s x t ho w.heap.size e i size ht hi _ 0 [] hs hnil hx (h none 0 w hnil (Below.refl _ w))
  · refine wpList_append_own w hgd s x t ho w.heap.size e i z size bytes ht hi hz hsize hby hzs hsz _ 0 [] hs hnil ad m c news hx hl (hnews ad rfl) h1 (by omega) (by rwa [Nat.zero_add]) (Nat.le_refl _) ?_
    intro v' w' hR hg _
    rw [Nat.zero_add, List.nil_append] at hR
    obtain ⟨q', c', rfl⟩ := own_shape hR
    exact h q' c' w' hR (grown_below (Below.refl _ w) (Nat.le_refl _) hg (fun j hj => by cases hj))
end
/-- What a row of arrays that is read is, for one who takes it over. -/
theorem ArsR.take {C : Cl} {q : Option Addr} {n c : Nat} {l : List (Int × Int)} (h : ArsR false C (.slice q n c) l) : ∃ cs, l.length = n ∧ (q = none → c = 0) ∧ n ≤ c ∧ cs.length = n * 2 ∧ (∀ ad, q = some ad → ∀ j u, cs[j]? = some u → C (ad.add j) = some u) ∧ (∀ u ∈ cs, u.oneCell' = true) ∧ n ≤ maxLen ∧ n * 16 ≤ 140737488351232 ∧ Enc arR cs l := by
  obtain ⟨q', c', cs, e, _, hr, he, hb, hmax, hqn, hlc⟩ := h
  obtain ⟨rfl, rfl, rfl⟩ : q = q' ∧ n = l.length ∧ c = c' := by injection e with a b c; exact ⟨a, b, c⟩
  obtain ⟨hcl, _⟩ := encZ_at ar_len he
  refine ⟨cs, rfl, hqn, hlc, hcl, ?_, one_enc ar_one he, by omega, hb, he⟩
  intro ad hq
  rcases hr with hr | ⟨g, o, hq2, hr⟩
  · have := (List.append_eq_nil_iff.1 hr).1
    subst this
    intro j u hu
    simp at hu
  · rw [hq] at hq2
    injection hq2 with hq2
    subst hq2
    exact enc_cells he (fun j u hu => hr j u (by rw [List.getElem?_append_left ((List.getElem?_eq_some_iff.1 hu).1)]; exact hu))
theorem fnR_mono : ∀ m m' : Mem, m.le m' → ∀ c x, FnR1 true (mC m) c x → FnR1 true (mC m') c x := fun _ _ h _ _ e => e.le (mle_cle h)
/-- The cells of the functions, with what each leads to. -/
def FnAt (lt : Bool) (C : Cl) (q : Option Addr) (l : List FnM) : Prop := ∀ j (hj : j < l.length), ∃ g o vp vr vc, q = some ⟨g, o, none⟩ ∧ FnR1 lt C [.int .u64 l[j].level, vp, vr, .int .i64 l[j].locals, .int .i64 l[j].stack, vc] l[j] ∧ C ⟨g, o + j * 6, none⟩ = some (.int .u64 l[j].level) ∧ C ⟨g, o + j * 6 + 1, none⟩ = some vp ∧ C ⟨g, o + j * 6 + 2, none⟩ = some vr ∧ C ⟨g, o + j * 6 + 3, none⟩ = some (.int .i64 l[j].locals) ∧ C ⟨g, o + j * 6 + 4, none⟩ = some (.int .i64 l[j].stack) ∧ C ⟨g, o + j * 6 + 5, none⟩ = some vc
theorem FnsR.cells {lt : Bool} {C : Cl} {q : Option Addr} {n c : Nat} {l : List FnM} (h : FnsR lt C (.slice q n c) l) : FnAt lt C q l := by
  intro j hj
  obtain ⟨g, o, e, h1, hF, h3⟩ := slx_at (size := 6) h (by decide) fn_len j hj
  obtain ⟨vp, vr, vc, rfl, k1, k2, k3⟩ := hF
  exact ⟨g, o, vp, vr, vc, h1, ⟨vp, vr, vc, rfl, k1, k2, k3⟩, h3 0 _ (by decide) rfl, h3 1 _ (by decide) rfl, h3 2 _ (by decide) rfl, h3 3 _ (by decide) rfl, h3 4 _ (by decide) rfl, h3 5 _ (by decide) rfl⟩
theorem slx_bytes {α : Type} {mk : List Value} {bs : Nat} {C : Cl} {R : List Value → α → Prop} {v : Value} {l : List α} (h : SlX mk bs C R v l) : l.length * bs ≤ 140737488351232 := by
  obtain ⟨_, _, _, _, _, _, _, h1, _⟩ := h; exact h1
end Go.Proofs.Ytahnhohccbnhjaa
