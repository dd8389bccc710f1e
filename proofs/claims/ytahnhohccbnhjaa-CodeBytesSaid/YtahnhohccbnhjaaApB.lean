/- ApartBytes of the statements' kit, of two lists that lie apart: what it goes by; in every memory. -/
import Derived.Test.YtahnhohccbnhjaaCoQ
import Derived.OneCell
import Derived.Deep.DeepCutAuto
import Derived.Deep.CutBlock
namespace Go.Proofs.Ytahnhohccbnhjaa
open Go Go.RowKit

/-- Nothing but block R has turned, of what there was. -/
structure But (R : Nat) (w w' : World) : Prop where
  os : w'.os = w.os
  tape : w'.tape = w.tape
  output : w'.output = w.output
  size : w.heap.size ≤ w'.heap.size
  block : ∀ k, k < w.heap.size → k ≠ R → w'.heap[k]? = w.heap[k]?
theorem But.of_below {R : Nat} {w w' : World} (h : Below w.heap.size w w') : But R w w' := ⟨h.os, h.tape, h.output, h.size, fun k hk _ => h.block k hk⟩
theorem But.trans {R : Nat} {a b c : World} (h : But R a b) (k : But R b c) : But R a c :=
  ⟨k.os.trans h.os, k.tape.trans h.tape, k.output.trans h.output, Nat.le_trans h.size k.size, fun i hi hne => (k.block i (Nat.lt_of_lt_of_le hi h.size) hne).trans (h.block i hi hne)⟩
theorem But.set {R : Nat} (w : World) (o : Nat) (u : Value) : But R w (w.setCell ⟨R, o, none⟩ u) :=
  ⟨rfl, rfl, rfl, by simp [World.setCell], fun k _ hk => Below.heap_setCell _ _ _ _ hk⟩
theorem But.low {R B : Nat} {w w' : World} (h : But R w w') (hB : B ≤ w.heap.size) (hR : B ≤ R) : Below B w w' :=
  ⟨h.os, h.tape, h.output, h.size, fun k hk => h.block k (by omega) (by omega)⟩
theorem But.cell {R : Nat} {w w' : World} {a : Addr} {v : Value} (h : But R w w') (hc : w.cell? a = some v) (hne : a.block ≠ R) : w'.cell? a = some v :=
  (World.cell?_of_block (h.block a.block (World.block_lt_of_cell? _ _ hc) hne)).trans hc
theorem But.frozen {R : Nat} {w w' : World} {a : Addr} {v : Value} (h : But R w w') (hc : w.cell? a = some v) (hf : w.frozen? a = false) (hne : a.block ≠ R) : w'.frozen? a = false :=
  (World.frozen?_of_block (h.block a.block (World.block_lt_of_cell? _ _ hc) hne)).trans hf


/-- An append, with what it leaves alone: all that there was, or all but the memory that it was made in. -/
theorem run_append_most {P : Program} (w : World) (base : Nat) (t ty e : TypeId) (i : TypeInfo) (z : Value) (size bytes : Nat) (ht : P.underlying t = some (.slice e)) (hi : P.info? e = some i) (hz : i.zero = some z)
    (hsize : i.size = size) (hby : i.bytes = bytes) (hzs : z.cells.size = size) (hsz : 0 < size)
    (v : Value) (n : Nat) (xs : List Value) (hown : w.ownsRow base e size v n xs)
    (a : Addr) (m c : Nat) (news : List Value) (hl : news.length = m * size) (hnews : ∀ j u, news[j]? = some u → w.cell? (a.add j) = some u) (h1 : ∀ u ∈ news, u.oneCell' = true)
    (h63 : n + m ≤ maxLen) (hbytes : (n + m) * bytes ≤ 140737488355328) (hbase : base ≤ w.heap.size) :
    ∃ v' w', (Builtin.append_ #[t, t] ty #[v, .slice (some a) m c]).run P w = .ok v' w' ∧ w'.ownsRow base e size v' (n + m) (xs ++ news) ∧
      ((v'.ownBlock = v.ownBlock ∧ w.grownBy w' v.ownBlock) ∨ ((∀ k, v'.ownBlock = some k → w.heap.size ≤ k) ∧ w.grownBy w' none)) := by
  obtain ⟨v', w', hr, r1, r2, _⟩ := run_append_own (P := P) w base t ty e i z size bytes ht hi hz hsize hby hzs hsz v n xs hown a m c news hl hnews h1 h63 hbytes hbase
  refine ⟨v', w', hr, r1, ?_⟩
  rcases hown.2 with ⟨rfl, rfl⟩ | ⟨g, cap, cur, rfl, hbg, hg, hnc, hcm, hcs, htake⟩
  · have hx : xs = [] := List.eq_nil_of_length_eq_zero (by simpa using hown.1)
    subst hx
    obtain ⟨v2, w2, hr2, q1, q2, _⟩ := run_append_own (P := P) w w.heap.size t ty e i z size bytes ht hi hz hsize hby hzs hsz (.slice none 0 0) 0 [] (World.ownsRow_nil w _ e size) a m c news hl hnews h1 h63 hbytes (Nat.le_refl _)
    rw [hr] at hr2
    injection hr2 with e1 e2
    subst e1 e2
    exact .inr ⟨fun k hk => (q1.lt k hk).1, q2⟩
  · by_cases hroom : n + m ≤ cap
    · subst hsize
      have hfit : n * i.size + news.length ≤ cur.size := by rw [hl, hcs, ← Nat.add_mul]; exact Nat.mul_le_mul_right _ hroom
      have hr2 := run_append_room (P := P) w t ty e i ht hi g n cap cur hg a m c news hl hnews h1 hroom hfit
      rw [hr] at hr2
      injection hr2 with e1 e2
      subst e1
      exact .inl ⟨rfl, r2⟩
    · have holds : ∀ j u, xs[j]? = some u → w.cell? ((⟨g, 0, none⟩ : Addr).add j) = some u := hown.cells (g := g) rfl
      obtain ⟨v2, w2, hr2, q1, q2⟩ := run_append_arg_grows (P := P) w t ty e i z size bytes ht hi hz hsize hby hzs hsz ⟨g, 0, none⟩ n cap xs hown.1 holds a m c news hl hnews (by omega) h63 hbytes
      rw [hr] at hr2
      injection hr2 with e1 e2
      subst e1 e2
      exact .inr ⟨fun k hk => (q1.lt k hk).1, q2⟩

theorem wpList_most {ops : Array Oper} {rest : List Oper} {o : Oper} {a : Act} {Q : Exit → Act → World → Prop} {w : World} (hgd : o.guard = none) (s x : Operand)
    (ho : o.op = .call { callee := .builtin .append, args := #[s, x], argTypes := #[35, 35] })
    (B : Nat) (v : Value) (l : List Nat) (hs : a.eval s = v) (hown : OwnB B w v l)
    (ad : Addr) (c : Nat) (news : List Nat) (hx : a.eval x = .slice (some ad) news.length c) (hnews : ∀ j u, (bv news)[j]? = some u → w.cell? (ad.add j) = some u)
    (hb : l.length + news.length ≤ 140737488355328) (hbase : B ≤ w.heap.size)
    (h : ∀ v' w', OwnB B w' v' (l ++ news) → ((v'.ownBlock = v.ownBlock ∧ w.grownBy w' v.ownBlock) ∨ ((∀ k, v'.ownBlock = some k → w.heap.size ≤ k) ∧ w.grownBy w' none)) → wpList Try.prog ops Q rest (a.put o.dst v') w') : wpList Try.prog ops Q (o :: rest) a w := by
  obtain ⟨i, h2, h3, h4, h5⟩ := info5
  obtain ⟨v', w', hr, r1, r2⟩ := run_append_most (P := Try.prog) w B 35 o.type 5 i (.int .u8 0) 1 1 Try.underlying35 h2 h3 h4 h5 rfl (by omega) v l.length (bv l) hown ad news.length c (bv news) (by simp [bv]) hnews (bv_one _) (by unfold maxLen; omega) (by omega) hbase
  have r1' : OwnB B w' v' (l ++ news) := by unfold OwnB; rw [List.length_append, bv_append]; exact r1
  refine wpList_plain hgd fun K hK => ?_
  unfold Oper.wp execOp
  simp only [ho, resolve, invoke, builtin, Sem.run_bind, Sem.run_pure, Result.andThen_ok, List.map_toArray, List.map_cons, List.map_nil, hs, hx, hr]
  exact hK _ _ (h v' w' r1' r2)

/-- Marks from b on. -/
def mk8 (b k : Nat) : List Nat := (List.range k).map (fun t => (b + t) % 256)
theorem mk8_succ (b k : Nat) : mk8 b (k + 1) = mk8 b k ++ [(b + k) % 256] := by simp [mk8, List.range_succ]
theorem mk8_length (b k : Nat) : (mk8 b k).length = k := by simp [mk8]
theorem mk8_at (b k j : Nat) (hj : j < k) : (mk8 b k).getD j 0 = (b + j) % 256 := by simp [mk8, List.getD_eq_getElem?_getD, hj]
theorem set_nextL (b k : Nat) (old : List Nat) (hk : k < old.length) : (mk8 b k ++ old.drop k).set k ((b + k) % 256) = mk8 b (k + 1) ++ old.drop (k + 1) := by
  have h := mk8_length b k
  rw [List.set_append_right _ _ (by omega), h, Nat.sub_self, List.drop_eq_getElem_cons hk, List.set_cons_zero, mk8_succ]
  simp
theorem bv_set (l : List Nat) (k x : Nat) : bv (l.set k x) = (bv l).set k (.int .u8 (x : Int)) := by simp [bv]

theorem OwnB.stored {B g n c : Nat} {w : World} {l : List Nat} (h : OwnB B w (.slice (some ⟨g, 0, none⟩) n c) l) (hn : n = l.length) (k x : Nat) : OwnB B (w.setCell ⟨g, k, none⟩ (.int .u8 (x : Int))) (.slice (some ⟨g, 0, none⟩) n c) (l.set k x) := by
  subst hn
  have := (World.ownsRow.stored h k (.int .u8 (x : Int))).1
  unfold OwnB
  rw [List.length_set, bv_set]
  exact this
theorem OwnB.elsewhere {B : Nat} {w : World} {v : Value} {l : List Nat} (h : OwnB B w v l) {a : Addr} (ha : v.ownBlock ≠ some a.block) (u : Value) : OwnB B (w.setCell a u) v l := ownsRow_setCell_other h ha u
theorem OwnB.block {B g n c : Nat} {w : World} {l : List Nat} (h : OwnB B w (.slice (some ⟨g, 0, none⟩) n c) l) : ∃ cur, w.heap[g]? = some (.cells cur 5 (0, 0)) ∧ B ≤ g ∧ n ≤ c ∧ c ≤ maxLen ∧ g < w.heap.size := by
  rcases h.2 with ⟨h2, _⟩ | ⟨g', cap', cur, hv, hg', hh, h3, h4, _⟩
  · simp at h2
  · simp only [Value.slice.injEq, Option.some.injEq, Addr.mk.injEq, and_true] at hv
    obtain ⟨rfl, rfl, rfl⟩ := hv
    exact ⟨cur, hh, hg', h3, h4, lt_of_block hh⟩
theorem OwnB.at {B g n c : Nat} {w : World} {l : List Nat} (h : OwnB B w (.slice (some ⟨g, 0, none⟩) n c) l) (hn : n = l.length) (k : Nat) (hk : k < n) : w.cell? ⟨g, k, none⟩ = some (.int .u8 ((l.getD k 0 : Nat) : Int)) ∧ w.frozen? ⟨g, k, none⟩ = false := by
  subst hn
  exact ⟨own_cell h k hk, World.ownsRow.frozenAt h k⟩

/-- Three lists, what they hold, and the list of the three. -/
structure Ap1 (G B : Nat) (bl m cp : Nat → Nat) (L : Nat → List Nat) (w0 wr : World) : Prop where
  all : ∀ q, q < 2 → wr.cell? ⟨G, q, none⟩ = some (.slice (some ⟨bl q, 0, none⟩) (m q) (cp q))
  row : ∀ q, q < 2 → OwnB B wr (.slice (some ⟨bl q, 0, none⟩) (m q) (cp q)) (L q)
  len : ∀ q, q < 2 → (L q).length = m q
  low : Below B w0 wr

theorem Ap1.store {G B : Nat} {bl m cp : Nat → Nat} {L L' : Nat → List Nat} {w0 wr : World} (h : Ap1 G B bl m cp L w0 wr) (hG : ∀ q, q < 2 → ¬ G = bl q) (hne : ∀ q r, q < 2 → r < 2 → bl q = bl r → q = r) {i k : Nat} (hi : i < 2) (x : Nat)
    (hi' : L' i = (L i).set k x) (ho : ∀ q, q < 2 → ¬ q = i → L' q = L q) : Ap1 G B bl m cp L' w0 (wr.setCell ⟨bl i, k, none⟩ (.int .u8 (x : Int))) := by
  refine ⟨fun q hq => ?_, fun q hq => ?_, fun q hq => ?_, ?_⟩
  · exact (World.cell?_of_block (a := ⟨G, q, none⟩) (Below.heap_setCell wr ⟨bl i, k, none⟩ _ G (hG i hi))).trans (h.all q hq)
  · by_cases hqi : q = i
    · subst hqi
      rw [hi']
      exact (h.row q hq).stored (h.len q hq).symm k x
    · rw [ho q hq hqi]
      refine (h.row q hq).elsewhere ?_ _
      simp only [Value.ownBlock, ne_eq, Option.some.injEq]
      exact fun e => hqi (hne q i hq hi e)
  · by_cases hqi : q = i
    · subst hqi; rw [hi', List.length_set]; exact h.len q hq
    · rw [ho q hq hqi]; exact h.len q hq
  · obtain ⟨_, _, hb, _⟩ := (h.row i hi).block
    exact h.low.setCell hb _

theorem info22 : ∃ i, Try.prog.info? 35 = some i ∧ i.zero = some (.slice none 0 0) ∧ i.size = 1 ∧ i.bytes = 24 := by
  have h : (Try.prog.info? 35).map (fun i => (i.zero, i.size, i.bytes)) = some (some (.slice none 0 0), 1, 24) := by kernel_rfl
  cases hi : Try.prog.info? 35 with
  | none => rw [hi] at h; cases h
  | some i =>
    rw [hi] at h
    simp only [Option.map_some, Option.some.injEq, Prod.mk.injEq] at h
    obtain ⟨e1, e2, e3⟩ := h
    exact ⟨i, rfl, e1, e2, e3⟩

/-- The lists gone on with, and the list of them. -/
def lsV (gs cs m : Nat → Nat) (j : Nat) : List Value := (List.range j).map (fun q => Value.slice (some ⟨gs q, 0, none⟩) (m q + 70) (cs q))
theorem lsV_succ (gs cs m : Nat → Nat) (j : Nat) : lsV gs cs m (j + 1) = lsV gs cs m j ++ [.slice (some ⟨gs j, 0, none⟩) (m j + 70) (cs j)] := by simp [lsV, List.range_succ]
theorem lsV_congr {gs cs gs' cs' m : Nat → Nat} {j : Nat} (h : ∀ q, q < j → gs q = gs' q ∧ cs q = cs' q) : lsV gs cs m j = lsV gs' cs' m j := by
  unfold lsV
  apply List.map_congr_left
  intro q hq
  obtain ⟨h1, h2⟩ := h q (List.mem_range.1 hq)
  rw [h1, h2]

/-- The first j of them have been gone on with. -/
structure Ap2 (G B N : Nat) (bl m cp : Nat → Nat) (j : Nat) (gs cs : Nat → Nat) (mv : Value) (w0 wr : World) : Prop where
  all : ∀ q, q < 2 → wr.cell? ⟨G, q, none⟩ = some (.slice (some ⟨bl q, 0, none⟩) (m q) (cp q))
  one : ∀ q, q < 2 → ∀ k, k < m q → wr.cell? ⟨bl q, k, none⟩ = some (.int .u8 (((37 * q + k) % 256 : Nat) : Int))
  own : ∀ q, q < 2 → j ≤ q → OwnB B wr (.slice (some ⟨bl q, 0, none⟩) (m q) (cp q)) (mk8 (37 * q) (m q))
  ls : wr.ownsRow N 35 1 mv j (lsV gs cs m j)
  two : ∀ q, q < j → OwnB B wr (.slice (some ⟨gs q, 0, none⟩) (m q + 70) (cs q)) (mk8 (37 * q) (m q) ++ mk8 (11 * q) 70)
  fresh : ∀ q, q < j → gs q = bl q ∨ N ≤ gs q
  big : N ≤ wr.heap.size
  low : Below B w0 wr

/-- One of them while it is gone on with. -/
structure Ap3 (B Ni b mj c1 c2 : Nat) (l : Value) (k : Nat) (wi wk : World) : Prop where
  own : OwnB B wk l (mk8 c1 mj ++ mk8 c2 k)
  blk : l.ownBlock = some b ∨ ∃ g, l.ownBlock = some g ∧ Ni ≤ g
  but : But b wi wk
  one : ∀ t, t < mj → wk.cell? ⟨b, t, none⟩ = some (.int .u8 (((c1 + t) % 256 : Nat) : Int))
theorem grown_but {b Ni : Nat} {wi wk W w' : World} {r : Option Nat} (h : But b wi wk) (hNi : Ni = wi.heap.size) (hW : Below wk.heap.size wk W) (hg : W.grownBy w' r) (hr : r = some b ∨ r = none ∨ ∃ g, r = some g ∧ Ni ≤ g) : But b wi w' := by
  refine ⟨hg.os.trans (hW.os.trans h.os), hg.tape.trans (hW.tape.trans h.tape), hg.output.trans (hW.output.trans h.output), Nat.le_trans h.size (Nat.le_trans hW.size hg.size), fun k hk hne => ?_⟩
  have hk2 : k < wk.heap.size := Nat.lt_of_lt_of_le hk h.size
  rw [hg.block k (Nat.lt_of_lt_of_le hk2 hW.size) ?_, hW.block k hk2, h.block k hk hne]
  rcases hr with rfl | rfl | ⟨g, rfl, hge⟩
  · exact fun e => hne (Option.some.inj e)
  · exact fun e => by cases e
  · exact fun e => by have := Option.some.inj e; omega
theorem Ap3.next {B Ni b mj c1 c2 k : Nat} {l v' : Value} {wi wk W w' : World} (h : Ap3 B Ni b mj c1 c2 l k wi wk) (hNi : Ni = wi.heap.size) (hb : b < Ni) (hW : Below wk.heap.size wk W)
    (hO : OwnB B w' v' ((mk8 c1 mj ++ mk8 c2 k) ++ [(c2 + k) % 256])) (hor : (v'.ownBlock = l.ownBlock ∧ W.grownBy w' l.ownBlock) ∨ ((∀ g, v'.ownBlock = some g → W.heap.size ≤ g) ∧ W.grownBy w' none)) : Ap3 B Ni b mj c1 c2 v' (k + 1) wi w' := by
  have hO' : OwnB B w' v' (mk8 c1 mj ++ mk8 c2 (k + 1)) := by rw [mk8_succ, ← List.append_assoc]; exact hO
  obtain ⟨g', d', rfl, _⟩ := row_form hO' (by simp [mk8]; omega)
  have hcell : ∀ t, t < mj → W.cell? ⟨b, t, none⟩ = some (.int .u8 (((c1 + t) % 256 : Nat) : Int)) := fun t ht => by
    have h1 := h.one t ht
    exact (hW.cell (World.block_lt_of_cell? _ _ h1)).trans h1
  refine ⟨hO', ?_, ?_, fun t ht => ?_⟩
  · rcases hor with ⟨he, _⟩ | ⟨hn, _⟩
    · rw [he]; exact h.blk
    · refine .inr ⟨g', rfl, ?_⟩
      have := hn g' rfl
      have := h.but.size
      have := hW.size
      omega
  · rcases hor with ⟨_, hg⟩ | ⟨_, hg⟩
    · exact grown_but h.but hNi hW hg (h.blk.imp id (fun ⟨g, a, c⟩ => .inr ⟨g, a, c⟩))
    · exact grown_but h.but hNi hW hg (.inr (.inl rfl))
  · rcases hor with ⟨he, hg⟩ | ⟨_, hg⟩
    · rcases h.blk with hbk | ⟨g, hgk, hge⟩
      · rw [hbk] at he
        obtain rfl : g' = b := Option.some.inj he
        have := (OwnB.at hO' rfl t (by simp [mk8]; omega)).1
        rw [this, List.getD_eq_getElem?_getD, List.getElem?_append_left (by rw [mk8_length]; exact ht), ← List.getD_eq_getElem?_getD, mk8_at _ _ _ ht]
      · exact hg.cell (hcell t ht) (by rw [hgk]; simp; omega)
    · exact hg.cell (hcell t ht) (by simp)

theorem own_but {b B n : Nat} {e : TypeId} {s : Nat} {v : Value} {xs : List Value} {w w' : World} (h : w.ownsRow B e s v n xs) (hb : But b w w') (hne : v.ownBlock ≠ some b) : w'.ownsRow B e s v n xs := by
  refine ⟨h.1, ?_⟩
  rcases h.2 with h2 | ⟨g', cap', cur, rfl, hg', hh, r⟩
  · exact .inl h2
  · exact .inr ⟨g', cap', cur, rfl, hg', by rw [hb.block g' (lt_of_block hh) (fun e => hne (by rw [e]; rfl))]; exact hh, r⟩
theorem own_nee {w : World} {B B2 : Nat} {e e2 : TypeId} {s s2 : Nat} {v v2 : Value} {n n2 : Nat} {xs ys : List Value} (h : w.ownsRow B e s v n xs) (h2 : w.ownsRow B2 e2 s2 v2 n2 ys) (hne : e ≠ e2) : v.ownBlock = none ∨ v.ownBlock ≠ v2.ownBlock := by
  rcases h.2 with ⟨rfl, _⟩ | ⟨g, cap, cur, rfl, _, hh, _⟩
  · exact .inl rfl
  · rcases h2.2 with ⟨rfl, _⟩ | ⟨g2, cap2, cur2, rfl, _, hh2, _⟩
    · exact .inr (by simp [Value.ownBlock])
    · refine .inr ?_
      simp only [Value.ownBlock, ne_eq, Option.some.injEq]
      intro e'
      subst e'
      rw [hh] at hh2
      simp only [Option.some.injEq, Obj.cells.injEq] at hh2
      exact hne hh2.2.1
theorem here_one (W : World) (v : Value) (t : TypeId) : ∀ (j : Nat) (u : Value), [v][j]? = some u → (W.alloc (.cells #[v] t)).cell? ((⟨W.heap.size, 0, none⟩ : Addr).add j) = some u := by
  intro j u h
  cases j with
  | zero =>
    obtain rfl : v = u := by simpa using h
    exact (cell_new W _ t).1
  | succ j => simp at h

/-- One more of them has been gone on with. -/
theorem Ap2.next {G B N : Nat} {bl m cp : Nat → Nat} {j : Nat} {gs cs : Nat → Nat} {mv mv' : Value} {w0 wi wr W w5 : World} {Ni g d n : Nat} (hP : Ap2 G B N bl m cp j gs cs mv w0 wi) (hNi : Ni = wi.heap.size) (hl : Ap3 B Ni (bl j) (m j) (37 * j) (11 * j) (.slice (some ⟨g, 0, none⟩) n d) 70 wi wr) (hn : n = m j + 70)
    (hW : Below wr.heap.size wr W) (hls2 : W.ownsRow N 35 1 mv j (lsV gs cs m j)) (hlt : j < 2) (hGN : G < N) (hbN : ∀ q, q < 2 → bl q < N) (hBN : B ≤ N) (hG : ∀ q, q < 2 → ¬ G = bl q) (hne : ∀ q r, q < 2 → r < 2 → bl q = bl r → q = r)
    (hR5 : w5.ownsRow N 35 1 mv' (j + 1) (lsV gs cs m j ++ [.slice (some ⟨g, 0, none⟩) (m j + 70) d])) (hg5 : W.grownBy w5 mv.ownBlock) :
    Ap2 G B N bl m cp (j + 1) (fun q => if q = j then g else gs q) (fun q => if q = j then d else cs q) mv' w0 w5 := by
  subst hn
  have hbig := hP.big
  have hb2 := hl.but
  have hmvN : ∀ k, mv.ownBlock = some k → N ≤ k := fun k hk => (hls2.lt k hk).1
  have hbW : But (bl j) wi W := hb2.trans (But.of_below hW)
  have cellN : ∀ (a : Addr) (v : Value), wi.cell? a = some v → a.block < N → a.block ≠ bl j → w5.cell? a = some v := fun a v hc ha hne' =>
    hg5.cell (hbW.cell hc hne') (fun e => by have := hmvN _ e.symm; omega)
  have ownW : ∀ {v : Value} {l : List Nat}, OwnB B wi v l → v.ownBlock ≠ some (bl j) → OwnB B w5 v l := fun {v l} h hv => by
    have h1 : W.ownsRow B 5 1 v l.length (bv l) := own_but h hbW hv
    exact h1.kept hg5 (own_nee h1 hls2 (by decide))
  have hown : OwnB B w5 (.slice (some ⟨g, 0, none⟩) (m j + 70) d) (mk8 (37 * j) (m j) ++ mk8 (11 * j) 70) := by
    have h1 : W.ownsRow B 5 1 (.slice (some ⟨g, 0, none⟩) (m j + 70) d) (mk8 (37 * j) (m j) ++ mk8 (11 * j) 70).length (bv (mk8 (37 * j) (m j) ++ mk8 (11 * j) 70)) := (OwnB.stay hl.own hW)
    exact h1.kept hg5 (own_nee h1 hls2 (by decide))
  refine ⟨fun q hq => ?_, fun q hq k hk => ?_, fun q hq hjq => ?_, ?_, fun q hq => ?_, fun q hq => ?_, ?_, ?_⟩
  · exact cellN _ _ (hP.all q hq) hGN (hG j hlt)
  · by_cases hqj : q = j
    · subst hqj
      have h1 := hl.one k hk
      have h2 := (hW.cell (World.block_lt_of_cell? _ _ h1)).trans h1
      exact hg5.cell h2 (fun e => by have := hmvN _ e.symm; have := hbN q hq; simp at *; omega)
    · exact cellN _ _ (hP.one q hq k hk) (hbN q hq) (fun e => hqj (hne q j hq hlt e))
  · exact ownW (hP.own q hq (by omega)) (by simp only [Value.ownBlock, ne_eq, Option.some.injEq]; exact fun e => by have := hne q j hq hlt e; omega)
  · rw [lsV_succ]
    simp only [if_true]
    rw [lsV_congr (gs' := gs) (cs' := cs) (fun q hq => by simp [Nat.ne_of_lt hq])]
    exact hR5
  · by_cases hqj : q = j
    · subst hqj
      simp only [if_true]
      exact hown
    · simp only [hqj, if_false]
      have hq2 : q < j := by omega
      refine ownW (hP.two q hq2) ?_
      simp only [Value.ownBlock, ne_eq, Option.some.injEq]
      intro e
      rcases hP.fresh q hq2 with h | h
      · have := hne q j (by omega) hlt (h ▸ e)
        omega
      · have := hbN j hlt
        omega
  · by_cases hqj : q = j
    · subst hqj
      simp only [if_true]
      rcases hl.blk with h | ⟨g2, h, hge⟩
      · exact .inl (Option.some.inj h)
      · obtain rfl : g = g2 := Option.some.inj h
        exact .inr (by omega)
    · simp only [hqj, if_false]
      exact hP.fresh q (by omega)
  · have := hg5.size
    have := hW.size
    have := hb2.size
    omega
  · have hBb : B ≤ bl j := by
      obtain ⟨_, _, h, _⟩ := (hP.own j hlt (Nat.le_refl _)).block
      exact h
    exact hP.low.trans ((hbW.low (by omega) hBb).trans (below_own hg5 (by have := hW.size; have := hb2.size; omega) (fun k hk => by have := hmvN k hk; omega)))

set_option maxRecDepth 100000 in
set_option maxHeartbeats 2000000 in
theorem apart_any (G B : Nat) (bl m cp : Nat → Nat) (old : Nat → List Nat) (hG : ∀ q, q < 2 → ¬ G = bl q) (hne : ∀ q r, q < 2 → r < 2 → bl q = bl r → q = r) (hm : ∀ q, q < 2 → m q + 70 ≤ 140737488355328) (c : Nat) (w : World) (hBw : B ≤ w.heap.size) (h0 : Ap1 G B bl m cp old w w) :
    Calls Try.prog 24 #[.slice (some ⟨G, 0, none⟩) 2 c] w fun e w' => e = .returned (.bool true) ∧ Below B w w' := by
  have HO := Lib.hid h0.len
  have HM := Lib.hid hm
  clear hm
  go_enter Try.func24, Try.ntmps24
  go_upto_block 0 with (fail)
  go_cut [0] (fun a wr => a = .slice (some ⟨G, 0, none⟩) 2 c ∧ Ap1 G B bl m cp (fun q => mk8 (37 * q) (m q)) w wr)
  case first =>
    go_wp2
    go_loopw [3] (fun x wr => ∃ i : Nat, i ≤ 2 ∧ x = .int .i64 i ∧ Ap1 G B bl m cp (fun q => if q < i then mk8 (37 * q) (m q) else old q) w wr) (fun x _ => 2 - (intOf x).toNat)
    case atStart => exact ⟨0, by omega, rfl, by simpa using h0⟩
    case round =>
      obtain ⟨i, hi, rfl, hA⟩ := hrel
      by_cases hlt : i < 2
      · have hii : (i : Int) < 2 := by omega
        have hall := hA.all i hlt
        have hcp := (h0.row i hlt).block.choose_spec.2.2
        have hmc : (m i : Int) ≤ (cp i : Int) := by have := hcp.1; omega
        have hcx := hcp.2.1
        unfold maxLen at hcx
        go_wp2
        go_loopw [4] (fun x wk => ∃ k : Nat, k ≤ m i ∧ x = .int .i64 k ∧ Ap1 G B bl m cp (fun q => if q = i then mk8 (37 * i) k ++ (old i).drop k else if q < i then mk8 (37 * q) (m q) else old q) w wk) (fun x _ => m i - (intOf x).toNat)
        case atStart =>
          refine ⟨0, by omega, rfl, ⟨hA.all, fun q hq => ?_, fun q hq => ?_, hA.low⟩⟩
          · have := hA.row q hq
            by_cases hqi : q = i
            · subst hqi
              simpa [mk8] using this
            · simpa [hqi] using this
          · have := hA.len q hq
            by_cases hqi : q = i
            · subst hqi
              simpa [mk8] using this
            · simpa [hqi] using this
        case round =>
          obtain ⟨k, hk, rfl, hK⟩ := hrel
          have hallk := hK.all i hlt
          by_cases hkm : k < m i
          · have hki : (k : Int) < (m i : Int) := by omega
            obtain ⟨hu, hf⟩ := (hK.row i hlt).at (hK.len i hlt).symm k hkm
            obtain ⟨val, hval⟩ : ∃ val : Nat, val = (37 * i + k) % 256 := ⟨_, rfl⟩
            have hst := Ap1.store hK hG hne hlt (k := k) val (L' := fun q => if q = i then mk8 (37 * i) (k + 1) ++ (old i).drop (k + 1) else if q < i then mk8 (37 * q) (m q) else old q) (by
              simp only [if_true]
              rw [hval, set_nextL _ _ _ (by rw [HO.out i hlt]; exact hkm)]) (fun q _ hqi => by simp [hqi])
            have hvi : wrap64 (37 * (i : Int) + (k : Int)) % 256 = (val : Int) := by
              have := HM.out i hlt
              rw [wrap_id (by omega) (by omega)]; omega
            have HST := Lib.hid hst
            generalize ((if i = i then mk8 (37 * i) k ++ (old i).drop k else if i < i then mk8 (37 * i) (m i) else old i).getD k 0) = u at hu
            clear hst hK hA h0 hval
            go_wp2
            exact ⟨⟨k + 1, by omega, by go_num, HST.out⟩, by simp [intOf]; omega⟩
          · obtain rfl : k = m i := by omega
            have hfin : Ap1 G B bl m cp (fun q => if q < i + 1 then mk8 (37 * q) (m q) else old q) w wr := by
              have hd : (old i).drop (m i) = [] := List.drop_of_length_le (by rw [HO.out i hlt]; exact Nat.le_refl _)
              have h2 : ∀ q, (if q < i + 1 then mk8 (37 * q) (m q) else old q) = (if q = i then mk8 (37 * i) (m i) ++ (old i).drop (m i) else if q < i then mk8 (37 * q) (m q) else old q) := by
                intro q
                by_cases hqi : q = i
                · subst hqi
                  rw [if_pos (by omega), if_pos rfl, hd, List.append_nil]
                · by_cases hq2 : q < i
                  · rw [if_pos (by omega), if_neg hqi, if_pos hq2]
                  · rw [if_neg (by omega), if_neg hqi, if_neg hq2]
              rw [funext h2]
              exact hK
            clear hK hA h0
            go_wp2
            exact ⟨⟨i + 1, by omega, by go_num, hfin⟩, by simp [intOf]; omega⟩
      · obtain rfl : i = 2 := by omega
        have hfin : Ap1 G B bl m cp (fun q => mk8 (37 * q) (m q)) w wr := ⟨hA.all, fun q hq => by simpa [hq] using hA.row q hq, fun q _ => mk8_length _ _, hA.low⟩
        clear hA h0
        go_wp2
        go_meet
        exact ⟨rfl, hfin⟩
  case rest =>
    obtain ⟨rfl, hA1⟩ := hcut
    obtain ⟨N, hN⟩ : ∃ N, N = wc.heap.size := ⟨_, rfl⟩
    have hGN : G < N := by rw [hN]; exact World.block_lt_of_cell? _ _ (hA1.all 0 (by omega))
    have hbN : ∀ q, q < 2 → bl q < N := fun q hq => by
      obtain ⟨cur, hh, _, _, _, hlt⟩ := (hA1.row q hq).block
      rw [hN]; exact hlt
    have hBN : B ≤ N := by rw [hN]; exact Nat.le_trans hBw hA1.low.size
    obtain ⟨i22, d2, d3, d4, d5⟩ := info22
    have HN := Lib.hid hN
    have hNle : N ≤ wc.heap.size := Nat.le_of_eq hN
    clear h0 hN
    go_upto_block 4 with (fail)
    go_cut [0, 5] (fun a mv wr => a = .slice (some ⟨G, 0, none⟩) 2 c ∧ ∃ gs cs, Ap2 G B N bl m cp 2 gs cs mv w wr)
    case first =>
      go_wp2
      go_loopw [5, 6] (fun mv0 x wr => ∃ (j : Nat) (gs cs : Nat → Nat) (mv : Value), j ≤ 2 ∧ x = .int .i64 j ∧ mv = mv0 ∧ Ap2 G B N bl m cp j gs cs mv w wr) (fun _ x _ => 2 - (intOf x).toNat)
      case atStart => exact ⟨0, fun _ => 0, fun _ => 0, _, by omega, rfl, rfl, ⟨hA1.all, fun q hq k hk => by rw [((hA1.row q hq).at (hA1.len q hq).symm k hk).1, mk8_at _ _ _ hk], fun q hq _ => hA1.row q hq, World.ownsRow_nil _ _ _ _, fun q hq => absurd hq (Nat.not_lt_zero _), fun q hq => absurd hq (Nat.not_lt_zero _), hNle, hA1.low⟩⟩
      case round =>
        obtain ⟨j, gs, cs, mv, hj, rfl, rfl, hP⟩ := hrel
        by_cases hlt : j < 2
        · have hji : (j : Int) < 2 := by omega
          have hall := hP.all j hlt
          clear hA1
          generalize wr = wi at *
          obtain ⟨Ni, hNi⟩ : ∃ Ni, Ni = wi.heap.size := ⟨_, rfl⟩
          have hbNi := hP.big
          rw [← hNi] at hbNi
          have HNi := Lib.hid hNi
          have HP := Lib.hid hP
          clear hNi hP
          go_wp2
          go_loopw [7, 8] (fun l x wk => ∃ k : Nat, k ≤ 70 ∧ x = .int .i64 k ∧ Ap3 B Ni (bl j) (m j) (37 * j) (11 * j) l k wi wk) (fun _ x _ => 70 - (intOf x).toNat)
          case atStart => exact ⟨0, by omega, rfl, by simpa [mk8] using HP.out.own j hlt (Nat.le_refl _), .inl rfl, But.of_below (Below.refl _ _), HP.out.one j hlt⟩
          case round =>
            obtain ⟨k, hk, rfl, hl⟩ := hrel
            have hlen : (mk8 (37 * j) (m j) ++ mk8 (11 * j) k).length = m j + k := by rw [List.length_append, mk8_length, mk8_length]
            obtain ⟨q, d, rfl⟩ := hl.own.slice
            rw [hlen] at hl ⊢
            by_cases hk70 : k < 70
            · have hki : (k : Int) < 70 := by omega
              obtain ⟨val, hval⟩ : ∃ val : Nat, (11 * j + k) % 256 = val := ⟨_, rfl⟩
              have hvi : 11 * (j : Int) + (k : Int) = (val : Int) := by omega
              have hA := hl.own.alloc (.cells #[.int .u8 (val : Int)] 5)
              have hWa : Below wr.heap.size wr (wr.alloc (.cells #[.int .u8 (val : Int)] 5)) := (Below.refl _ _).alloc (Nat.le_refl _) _
              have hbs : B ≤ wr.heap.size := by have := hl.but.size; have := HNi.out; omega
              have HL := Lib.hid (And.intro hlen hval)
              have HX := Lib.hid (fun (v' : Value) (w' : World) => Ap3.next (v' := v') (w' := w') hl HNi.out (Nat.lt_of_lt_of_le (hbN j hlt) hbNi) hWa)
              clear hl hall hlen hval
              generalize mk8 (37 * j) (m j) ++ mk8 (11 * j) k = ml at hA HL HX
              go_wp2_with (at_builtin; refine wpList_most rfl _ _ rfl B _ ml rfl hA ⟨_, 0, none⟩ 1 [val] rfl (one_cells _ _) (by have := HL.out.1; have := HM.out j hlt; simp; omega) (by simp; omega) ?_)
              intro v2 w2 hO2 hor
              rw [← HL.out.2] at hO2
              have HF := Lib.hid (HX.out v2 w2 hO2 (by simpa using hor))
              clear hO2 hor HX hA hWa
              go_wp2
              exact ⟨⟨k + 1, by omega, by go_num, HF.out⟩, by simp [intOf]; omega⟩
            · obtain rfl : k = 70 := by omega
              obtain ⟨g, d', e1, hBg⟩ := row_form hl.own (by rw [hlen]; omega)
              rw [hlen] at e1
              simp only [Value.slice.injEq, true_and] at e1
              obtain ⟨rfl, rfl⟩ := e1
              have hWa : Below wr.heap.size wr (wr.alloc (.cells #[.slice (some ⟨g, 0, none⟩) (m j + 70) d] 35)) := (Below.refl _ _).alloc (Nat.le_refl _) _
              have hsz : Ni ≤ wr.heap.size := by rw [HNi.out]; exact hl.but.size
              have hlsr : wr.ownsRow N 35 1 mv j (lsV gs cs m j) := by
                refine own_but HP.out.ls hl.but (fun e => ?_)
                have := (HP.out.ls.lt _ e).1
                have := hbN j hlt
                omega
              have hls2 := hlsr.alloc (.cells #[.slice (some ⟨g, 0, none⟩) (m j + 70) d] 35)
              have HNEW := Lib.hid (fun (mv' : Value) (w5 : World) => Ap2.next (mv' := mv') (w5 := w5) HP.out HNi.out hl rfl hWa hls2 hlt hGN hbN hBN hG hne)
              have HMj := Lib.hid (HM.out j hlt)
              clear hl hall hlen hlsr hWa
              go_wp2_with (at_builtin; refine wpList_append_own _ rfl _ _ 45 rfl N 35 i22 (.slice none 0 0) 1 24 Try.underlying45 d2 d3 d4 d5 rfl (by omega) _ j _ rfl hls2 ⟨_, 0, none⟩ 1 1 [.slice (some ⟨g, 0, none⟩) (m j + 70) d] rfl rfl (here_one _ _ _) (by simp [Value.oneCell']) (by unfold maxLen; omega) (by omega) (by simp; omega) ?_)
              intro mv' w5 hR5 hg5 _
              have hnew := HNEW.out mv' w5 hR5 hg5
              obtain ⟨gm, cm, rfl, _⟩ := row_form hR5 (by omega)
              have HF := Lib.hid hnew
              clear hR5 hg5 hls2 hnew HNEW
              go_wp2
              exact ⟨⟨j + 1, _, _, _, by omega, by go_num, rfl, HF.out⟩, by simp [intOf]; omega⟩
        · obtain rfl : j = 2 := by omega
          go_wp2
          go_meet
          exact ⟨rfl, gs, cs, hP⟩
    case rest =>
      obtain ⟨rfl, gs, cs, hP⟩ := hcut
      obtain ⟨gm, cm, rfl, _⟩ := row_form hP.ls (by omega)
      have hbel := hP.low
      have hlen : ∀ q, (mk8 (37 * q) (m q) ++ mk8 (11 * q) 70).length = m q + 70 := fun q => by rw [List.length_append, mk8_length, mk8_length]
      have hmo : ∀ q, q < 2 → wc.cell? ⟨gm, q, none⟩ = some (.slice (some ⟨gs q, 0, none⟩) (m q + 70) (cs q)) := fun q hq => by
        rw [hP.ls.cellAt q (by omega)]; simp [lsV, hq]
      have hcs : ∀ q, q < 2 → m q + 70 ≤ cs q ∧ cs q ≤ maxLen := fun q hq => by
        obtain ⟨_, _, _, h1, h2, _⟩ := (hP.two q hq).block
        exact ⟨h1, h2⟩
      have hm2 : ∀ q k, q < 2 → k < m q → wc.cell? ⟨gs q, k, none⟩ = some (.int .u8 (((37 * q + k) % 256 : Nat) : Int)) := fun q k hq hk => by
        rw [((hP.two q hq).at (hlen q).symm k (by omega)).1, List.getD_eq_getElem?_getD, List.getElem?_append_left (by rw [mk8_length]; exact hk), ← List.getD_eq_getElem?_getD, mk8_at _ _ _ hk]
      have hm3 : ∀ q k, q < 2 → k < 70 → wc.cell? ⟨gs q, m q + k, none⟩ = some (.int .u8 (((11 * q + k) % 256 : Nat) : Int)) := fun q k hq hk => by
        rw [((hP.two q hq).at (hlen q).symm (m q + k) (by omega)).1, List.getD_eq_getElem?_getD, List.getElem?_append_right (by rw [mk8_length]; omega), mk8_length, Nat.add_sub_cancel_left, ← List.getD_eq_getElem?_getD, mk8_at _ _ _ hk]
      have hcc : ∀ q, q < 2 → m q + 70 ≤ 140737488355328 := HM.out
      have H1 := Lib.hid hP.one
      have H2 := Lib.hid hm2
      have H3 := Lib.hid hm3
      have HMO := Lib.hid hmo
      have HA := Lib.hid hP.all
      have HC := Lib.hid hcs
      clear hm2 hm3 hmo hcs hP hA1 hlen hcc
      go_wp2
      go_loop [9] (fun x => ∃ i : Nat, i ≤ 2 ∧ x = .int .i64 i) (fun x => 2 - (intOf x).toNat)
      case atStart => exact ⟨0, by omega, rfl⟩
      case round =>
        obtain ⟨i, hi, rfl⟩ := hrel
        by_cases hlt : i < 2
        · have hii : (i : Int) < 2 := by omega
          have a1 := HA.out i hlt
          have a2 := HMO.out i hlt
          have a3 := (HC.out i hlt).1
          have a4 := HM.out i hlt
          go_wp2
          go_loop [11] (fun x => ∃ k : Nat, k ≤ m i ∧ x = .int .i64 k) (fun x => m i - (intOf x).toNat)
          case atStart => exact ⟨0, by omega, rfl⟩
          case round =>
            obtain ⟨k, hk, rfl⟩ := hrel
            by_cases hkm : k < m i
            · have hki : (k : Int) < (m i : Int) := by omega
              have b1 := H1.out i hlt k hkm
              have b2 := H2.out i k hlt hkm
              obtain ⟨val, hval⟩ : ∃ val : Nat, (37 * i + k) % 256 = val := ⟨_, rfl⟩
              have hvi : (37 * (i : Int) + (k : Int)) % 256 = (val : Int) := by omega
              rw [hval] at b1 b2
              clear hval
              go_wp2
              exact ⟨⟨k + 1, by omega, by go_num⟩, by simp [intOf]; omega⟩
            · obtain rfl : k = m i := by omega
              go_wp2
              go_loop [12] (fun x => ∃ t : Nat, t ≤ 70 ∧ x = .int .i64 t) (fun x => 70 - (intOf x).toNat)
              case atStart => exact ⟨0, by omega, rfl⟩
              case round =>
                obtain ⟨t, ht, rfl⟩ := hrel
                by_cases ht70 : t < 70
                · have hti : (t : Int) < 70 := by omega
                  have b3 := H3.out i t hlt ht70
                  obtain ⟨val, hval⟩ : ∃ val : Nat, (11 * i + t) % 256 = val := ⟨_, rfl⟩
                  have hvi : 11 * (i : Int) + (t : Int) = (val : Int) := by omega
                  rw [hval] at b3
                  clear hval
                  go_wp2
                  exact ⟨⟨t + 1, by omega, by go_num⟩, by simp [intOf]; omega⟩
                · obtain rfl : t = 70 := by omega
                  go_wp2
                  exact ⟨⟨i + 1, by omega, by go_num⟩, by simp [intOf]; omega⟩
        · obtain rfl : i = 2 := by omega
          go_wp2
          go_ret
          exact ⟨rfl, hbel⟩
end Go.Proofs.Ytahnhohccbnhjaa
