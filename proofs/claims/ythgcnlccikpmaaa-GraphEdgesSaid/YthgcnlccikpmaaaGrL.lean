/- ApartInts of the statements' kit, of any number of rows that lie apart, of any lengths: it is true. -/
import Derived.Test.YthgcnlccikpmaaaGrA
import Derived.OneCell
import Derived.Deep.DeepCutAuto
import Derived.Deep.CutBlock
namespace Go.Proofs.Ythgcnlccikpmaaa
open Go Go.RowKit Go.Proofs.Mm

theorem infoN : ∃ i, Try.prog.info? 3 = some i ∧ i.zero = some (.int .i64 0) ∧ i.size = 1 ∧ i.bytes = 8 := infoOf (by kernel_rfl)
theorem und_N : Try.prog.underlying 31 = some (.slice 3) := by kernel_rfl
theorem own_rd {w : World} {B size n c : Nat} {E : TypeId} {q : Option Addr} {xs : List Value} (h : w.ownsRow B E size (.slice q n c) n xs) : (q = none ∧ n = 0 ∧ c = 0 ∧ xs = []) ∨ ∃ g, q = some ⟨g, 0, none⟩ ∧ ∀ j u, xs[j]? = some u → w.cell? ⟨g, j, none⟩ = some u := by
  obtain ⟨h1, ⟨h2, h0⟩ | ⟨g, cap, cur, h2, h3, h4, h5, h6, h7, h8⟩⟩ := h
  · injection h2 with a b c
    subst h0
    exact .inl ⟨a, rfl, c, List.eq_nil_of_length_eq_zero (by simpa using h1)⟩
  · injection h2 with a b c
    refine .inr ⟨g, a, fun j u hu => ?_⟩
    rw [← h8, List.getElem?_take] at hu
    split at hu
    · rw [cell_of_row w g j cur E (0, 0) h4]
      simpa using hu
    · cases hu
theorem cIx_len (L : List Nat) : (cI L).length = L.length := by unfold cI; simp
theorem own_lab {w : World} {B n c : Nat} {E : TypeId} {q : Option Addr} {L : List Nat} (h : w.ownsRow B E 1 (.slice q n c) n (cI L)) {j : Nat} (hj : j < L.length) : ∃ g, q = some ⟨g, 0, none⟩ ∧ w.cell? ⟨g, j, none⟩ = some (.int .i64 ((L.getD j 0 : Nat) : Int)) := by
  rcases own_rd h with ⟨_, _, _, h4⟩ | ⟨g, e, hc⟩
  · have := congrArg List.length h4
    rw [cIx_len, List.length_nil] at this
    omega
  · exact ⟨g, e, hc j _ (by unfold cI; simp [hj])⟩
/-- An append, with what it leaves alone: all that there was, or all but the memory that it was made in. -/
theorem run_append_most {P : Program} (w : World) (base : Nat) (t ty e : TypeId) (i : TypeInfo) (z : Value) (size bytes : Nat) (ht : P.underlying t = some (.slice e)) (hi : P.info? e = some i) (hz : i.zero = some z)
    (hsize : i.size = size) (hby : i.bytes = bytes) (hzs : z.cells.size = size) (hsz : 0 < size)
    (v : Value) (n : Nat) (xs : List Value) (hown : w.ownsRow base e size v n xs)
    (a : Addr) (m c : Nat) (news : List Value) (hl : news.length = m * size) (hnews : ∀ j u, news[j]? = some u → w.cell? (a.add j) = some u) (h1 : ∀ u ∈ news, u.oneCell' = true)
    (h63 : n + m ≤ maxLen) (hbytes : (n + m) * bytes ≤ 140737488355328) (hbase : base ≤ w.heap.size) :
    ∃ v' w', (Builtin.append_ #[t, t] ty #[v, .slice (some a) m c]).run P w = .ok v' w' ∧ w'.ownsRow base e size v' (n + m) (xs ++ news) ∧
      ((v'.ownBlock = v.ownBlock ∧ w.grownBy w' v.ownBlock) ∨ ((∀ k, v'.ownBlock = some k → w.heap.size ≤ k) ∧ w.grownBy w' none)) := by
  obtain ⟨v', w', hr, r1, r2, _⟩ := run_append_own (P := P) w base t ty e i z size bytes ht hi hz hsize hby hzs hsz v n xs hown a m c news hl hnews h1 h63 hbytes hbase
  refine ⟨v', w', hr, r1, ?_⟩
  rcases hown.2 with ⟨rfl, rfl⟩ | ⟨g, cap, cur, rfl, hbg, hg, hnc, hcm, hcs, htake⟩
  · have hx : xs = [] := List.eq_nil_of_length_eq_zero (by simpa using hown.1)
    subst hx
    obtain ⟨v2, w2, hr2, q1, q2, _⟩ := run_append_own (P := P) w w.heap.size t ty e i z size bytes ht hi hz hsize hby hzs hsz (.slice none 0 0) 0 [] (World.ownsRow_nil w _ e size) a m c news hl hnews h1 h63 hbytes (Nat.le_refl _)
    rw [hr] at hr2
    injection hr2 with e1 e2
    subst e1 e2
    exact .inr ⟨fun k hk => (q1.lt k hk).1, q2⟩
  · by_cases hroom : n + m ≤ cap
    · subst hsize
      have hfit : n * i.size + news.length ≤ cur.size := by rw [hl, hcs, ← Nat.add_mul]; exact Nat.mul_le_mul_right _ hroom
      have hr2 := run_append_room (P := P) w t ty e i ht hi g n cap cur hg a m c news hl hnews h1 hroom hfit
      rw [hr] at hr2
      injection hr2 with e1 e2
      subst e1
      exact .inl ⟨rfl, r2⟩
    · have holds : ∀ j u, xs[j]? = some u → w.cell? ((⟨g, 0, none⟩ : Addr).add j) = some u := hown.cells (g := g) rfl
      obtain ⟨v2, w2, hr2, q1, q2⟩ := run_append_arg_grows (P := P) w t ty e i z size bytes ht hi hz hsize hby hzs hsz ⟨g, 0, none⟩ n cap xs hown.1 holds a m c news hl hnews (by omega) h63 hbytes
      rw [hr] at hr2
      injection hr2 with e1 e2
      subst e1 e2
      exact .inr ⟨fun k hk => (q1.lt k hk).1, q2⟩
theorem cIx_one : ∀ (l : List Nat), ∀ u ∈ cI l, u.oneCell' = true := by
  intro l u hu
  unfold cI at hu
  obtain ⟨x, _, rfl⟩ := List.mem_map.1 hu
  rfl
theorem cIx_app (a b : List Nat) : cI (a ++ b) = cI a ++ cI b := by unfold cI; rw [List.map_append]
theorem wpList_most {ops : Array Oper} {rest : List Oper} {o : Oper} {a : Act} {Q : Exit → Act → World → Prop} {w : World} (hgd : o.guard = none) (s x : Operand)
    (ho : o.op = .call { callee := .builtin .append, args := #[s, x], argTypes := #[31, 31] })
    (B : Nat) (v : Value) (l : List Nat) (hs : a.eval s = v) (hown : OwnI B w v l)
    (ad : Addr) (c : Nat) (news : List Nat) (hx : a.eval x = .slice (some ad) news.length c) (hnews : ∀ j u, (cI news)[j]? = some u → w.cell? (ad.add j) = some u)
    (hb : (l.length + news.length) * 8 ≤ 140737488355328) (hbase : B ≤ w.heap.size)
    (h : ∀ v' w', OwnI B w' v' (l ++ news) → ((v'.ownBlock = v.ownBlock ∧ w.grownBy w' v.ownBlock) ∨ ((∀ k, v'.ownBlock = some k → w.heap.size ≤ k) ∧ w.grownBy w' none)) → wpList Try.prog ops Q rest (a.put o.dst v') w') : wpList Try.prog ops Q (o :: rest) a w := by
  obtain ⟨i, h2, h3, h4, h5⟩ := infoN
  obtain ⟨v', w', hr, r1, r2⟩ := run_append_most (P := Try.prog) w B 31 o.type 3 i (.int .i64 0) 1 8 und_N h2 h3 h4 h5 rfl (by omega) v l.length (cI l) hown ad news.length c (cI news) (by simp [cI]) hnews (cIx_one _) (by unfold maxLen; omega) (by omega) hbase
  have r1' : OwnI B w' v' (l ++ news) := by unfold OwnI; rw [List.length_append, cIx_app]; exact r1
  refine wpList_plain hgd fun K hK => ?_
  unfold Oper.wp execOp
  simp only [ho, resolve, invoke, builtin, Sem.run_bind, Sem.run_pure, Result.andThen_ok, List.map_toArray, List.map_cons, List.map_nil, hs, hx, hr]
  exact hK _ _ (h v' w' r1' r2)

/-- Marks from b on. -/
def mkU (b k : Nat) : List Nat := (List.range k).map (fun t => b + t)
theorem mkU_succ (b k : Nat) : mkU b (k + 1) = mkU b k ++ [b + k] := by simp [mkU, List.range_succ]
theorem mkU_length (b k : Nat) : (mkU b k).length = k := by simp [mkU]
theorem mkU_at (b k j : Nat) (hj : j < k) : (mkU b k).getD j 0 = b + j := by simp [mkU, List.getD_eq_getElem?_getD, hj]
theorem set_nextU (b k : Nat) (old : List Nat) (hk : k < old.length) : (mkU b k ++ old.drop k).set k (b + k) = mkU b (k + 1) ++ old.drop (k + 1) := by
  have h := mkU_length b k
  rw [List.set_append_right _ _ (by omega), h, Nat.sub_self, List.drop_eq_getElem_cons hk, List.set_cons_zero, mkU_succ]
  simp
theorem cIx_set (l : List Nat) (k x : Nat) : cI (l.set k x) = (cI l).set k (.int .i64 (x : Int)) := by unfold cI; rw [List.map_set]
theorem OwnI.stored {B g n c : Nat} {w : World} {l : List Nat} (h : OwnI B w (.slice (some ⟨g, 0, none⟩) n c) l) (hn : n = l.length) (k x : Nat) : OwnI B (w.setCell ⟨g, k, none⟩ (.int .i64 (x : Int))) (.slice (some ⟨g, 0, none⟩) n c) (l.set k x) := by
  subst hn
  have := (World.ownsRow.stored h k (.int .i64 (x : Int))).1
  unfold OwnI
  rw [List.length_set, cIx_set]
  exact this
theorem OwnI.at {B n c : Nat} {q : Option Addr} {w : World} {l : List Nat} (h : OwnI B w (.slice q n c) l) (hn : n = l.length) (k : Nat) (hk : k < n) : ∃ g, q = some ⟨g, 0, none⟩ ∧ w.cell? ⟨g, k, none⟩ = some (.int .i64 ((l.getD k 0 : Nat) : Int)) ∧ w.frozen? ⟨g, k, none⟩ = false ∧ n ≤ c ∧ c ≤ maxLen ∧ B ≤ g ∧ g < w.heap.size := by
  subst hn
  obtain ⟨g, rfl, hc⟩ := own_lab h hk
  rcases h.2 with ⟨h2, _⟩ | ⟨g', cap', cur, hv, hg', hh, h3, h4, _⟩
  · simp at h2
  · simp only [Value.slice.injEq, Option.some.injEq, Addr.mk.injEq, and_true, true_and] at hv
    obtain ⟨rfl, rfl⟩ := hv
    exact ⟨g, rfl, hc, World.ownsRow.frozenAt h k, h3, h4, hg', (h.lt g rfl).2⟩
theorem OwnI.len {B n c : Nat} {q : Option Addr} {w : World} {l : List Nat} (h : OwnI B w (.slice q n c) l) (hn : n = l.length) : n ≤ c ∧ c ≤ maxLen := by
  subst hn
  rcases h.2 with ⟨h2, h0⟩ | ⟨g', cap', cur, hv, hg', hh, h3, h4, _⟩
  · simp only [Value.slice.injEq] at h2
    obtain ⟨_, h2, h3⟩ := h2
    unfold maxLen
    omega
  · simp only [Value.slice.injEq] at hv
    obtain ⟨_, _, rfl⟩ := hv
    exact ⟨h3, h4⟩
/-- The rows' lists, and the list of them. -/
structure Ap1 (G B n : Nat) (rq : Nat → Option Addr) (m cp : Nat → Nat) (L : Nat → List Nat) (w0 wr : World) : Prop where
  all : ∀ q, q < n → wr.cell? ⟨G, q, none⟩ = some (.slice (rq q) (m q) (cp q))
  row : ∀ q, q < n → OwnI B wr (.slice (rq q) (m q) (cp q)) (L q)
  len : ∀ q, q < n → (L q).length = m q
  low : Below B w0 wr
def obk (q : Option Addr) : Option Nat := q.map Addr.block
theorem obk_own (q : Option Addr) (n c : Nat) : (Value.slice q n c).ownBlock = obk q := by cases q <;> rfl
theorem Ap1.store {G B n : Nat} {rq : Nat → Option Addr} {m cp : Nat → Nat} {L L' : Nat → List Nat} {w0 wr : World} (h : Ap1 G B n rq m cp L w0 wr) (hG : ∀ q, q < n → obk (rq q) ≠ some G) (hne : ∀ q r b, q < n → r < n → obk (rq q) = some b → obk (rq r) = some b → q = r) {i k g : Nat} (hi : i < n) (hg : rq i = some ⟨g, 0, none⟩) (hBg : B ≤ g) (x : Nat)
    (hi' : L' i = (L i).set k x) (ho : ∀ q, q < n → ¬ q = i → L' q = L q) : Ap1 G B n rq m cp L' w0 (wr.setCell ⟨g, k, none⟩ (.int .i64 (x : Int))) := by
  refine ⟨fun q hq => ?_, fun q hq => ?_, fun q hq => ?_, ?_⟩
  · have hGg : G ≠ g := fun e => hG i hi (by rw [hg, e]; rfl)
    exact (World.cell?_of_block (a := ⟨G, q, none⟩) (Below.heap_setCell wr ⟨g, k, none⟩ _ G hGg)).trans (h.all q hq)
  · by_cases hqi : q = i
    · subst hqi
      rw [hi']
      have h1 := h.row q hq
      rw [hg] at h1 ⊢
      exact h1.stored (h.len q hq).symm k x
    · rw [ho q hq hqi]
      refine ownsRow_setCell_other (h.row q hq) ?_ _
      rw [obk_own]
      exact fun e => hqi (hne q i g hq hi e (by rw [hg]; rfl))
  · by_cases hqi : q = i
    · subst hqi; rw [hi', List.length_set]; exact h.len q hq
    · rw [ho q hq hqi]; exact h.len q hq
  · exact h.low.setCell hBg _
theorem infoNs : ∃ i, Try.prog.info? 31 = some i ∧ i.zero = some (.slice none 0 0) ∧ i.size = 1 ∧ i.bytes = 24 := infoOf (by kernel_rfl)
theorem und_Nss : Try.prog.underlying 30 = some (.slice 31) := by kernel_rfl
/-- The lists gone on with, and the list of them. -/
def lsU (gs cs m : Nat → Nat) (j : Nat) : List Value := (List.range j).map (fun q => Value.slice (some ⟨gs q, 0, none⟩) (m q + 30) (cs q))
theorem lsU_succ (gs cs m : Nat → Nat) (j : Nat) : lsU gs cs m (j + 1) = lsU gs cs m j ++ [.slice (some ⟨gs j, 0, none⟩) (m j + 30) (cs j)] := by simp [lsU, List.range_succ]
theorem lsU_congr {gs cs gs' cs' m : Nat → Nat} {j : Nat} (h : ∀ q, q < j → gs q = gs' q ∧ cs q = cs' q) : lsU gs cs m j = lsU gs' cs' m j := by
  unfold lsU
  apply List.map_congr_left
  intro q hq
  obtain ⟨h1, h2⟩ := h q (List.mem_range.1 hq)
  rw [h1, h2]
/-- The first j of them have been gone on with. -/
structure Ap2 (G B N n : Nat) (rq : Nat → Option Addr) (m cp : Nat → Nat) (j : Nat) (gs cs : Nat → Nat) (mv : Value) (w0 wr : World) : Prop where
  all : ∀ q, q < n → wr.cell? ⟨G, q, none⟩ = some (.slice (rq q) (m q) (cp q))
  one : ∀ q, q < n → ∀ b, obk (rq q) = some b → ∀ k, k < m q → wr.cell? ⟨b, k, none⟩ = some (.int .i64 ((1000 * q + k : Nat) : Int))
  own : ∀ q, q < n → j ≤ q → OwnI B wr (.slice (rq q) (m q) (cp q)) (mkU (1000 * q) (m q))
  ls : wr.ownsRow N 31 1 mv j (lsU gs cs m j)
  two : ∀ q, q < j → OwnI B wr (.slice (some ⟨gs q, 0, none⟩) (m q + 30) (cs q)) (mkU (1000 * q) (m q) ++ mkU (500000 + 1000 * q) 30)
  fresh : ∀ q, q < j → obk (rq q) = some (gs q) ∨ N ≤ gs q
  big : N ≤ wr.heap.size
  low : Below B w0 wr
/-- One of them while it is gone on with. -/
structure Ap3 (B Ni : Nat) (ob : Option Nat) (mj c1 c2 : Nat) (l : Value) (k : Nat) (wi wk : World) : Prop where
  own : OwnI B wk l (mkU c1 mj ++ mkU c2 k)
  blk : l.ownBlock = ob ∨ ∃ g, l.ownBlock = some g ∧ Ni ≤ g
  but : Chg (fun b => ob = some b) wi wk
  one : ∀ b, ob = some b → ∀ t, t < mj → wk.cell? ⟨b, t, none⟩ = some (.int .i64 ((c1 + t : Nat) : Int))
theorem Ap3.next {B Ni mj c1 c2 k : Nat} {ob : Option Nat} {l v' : Value} {wi wk W w' : World} (h : Ap3 B Ni ob mj c1 c2 l k wi wk) (hNi : Ni = wi.heap.size) (hb : ∀ b, ob = some b → b < Ni) (hW : Below wk.heap.size wk W)
    (hO : OwnI B w' v' ((mkU c1 mj ++ mkU c2 k) ++ [c2 + k])) (hor : (v'.ownBlock = l.ownBlock ∧ W.grownBy w' l.ownBlock) ∨ ((∀ g, v'.ownBlock = some g → W.heap.size ≤ g) ∧ W.grownBy w' none)) : Ap3 B Ni ob mj c1 c2 v' (k + 1) wi w' := by
  have hO' : OwnI B w' v' (mkU c1 mj ++ mkU c2 (k + 1)) := by rw [mkU_succ, ← List.append_assoc]; exact hO
  have hlen : (mkU c1 mj ++ mkU c2 (k + 1)).length = mj + (k + 1) := by rw [List.length_append, mkU_length, mkU_length]
  obtain ⟨q, d, rfl⟩ := own_shape hO'
  obtain ⟨g', rfl, _⟩ := OwnI.at hO' rfl 0 (by omega)
  have hCW : Chg (fun b => ob = some b) wi W := h.but.then (Below.chg hW (Nat.le_refl _) _)
  have hszk := h.but.size
  have hcell : ∀ b, ob = some b → ∀ t, t < mj → W.cell? ⟨b, t, none⟩ = some (.int .i64 ((c1 + t : Nat) : Int)) := fun b hob t ht => by
    have h1 := h.one b hob t ht
    exact (hW.cell (World.block_lt_of_cell? _ _ h1)).trans h1
  refine ⟨hO', ?_, ?_, fun b hob t ht => ?_⟩
  · rcases hor with ⟨he, _⟩ | ⟨hn, _⟩
    · rw [he]; exact h.blk
    · refine .inr ⟨g', rfl, ?_⟩
      have := hn g' rfl
      have := hW.size
      omega
  · rcases hor with ⟨_, hg⟩ | ⟨_, hg⟩
    · refine hCW.trans (grown_chg hg (fun b hb => .inl hb)) fun b hb => ?_
      rcases h.blk with e | ⟨g, e, hge⟩
      · exact .inl (e ▸ hb)
      · rw [e] at hb
        injection hb with hb
        exact .inr (by omega)
    · exact hCW.trans (grown_chg (S := fun _ => False) hg (fun b hb => by cases hb)) fun b hb => hb.elim
  · have hbl := hb b hob
    rcases hor with ⟨he, hg⟩ | ⟨_, hg⟩
    · rcases h.blk with hbk | ⟨g, hgk, hge⟩
      · rw [hbk, hob] at he
        obtain rfl : g' = b := Option.some.inj he
        obtain ⟨g2, e2, h2, _⟩ := OwnI.at hO' rfl t (by omega)
        obtain rfl : g' = g2 := by injection e2 with e2; injection e2
        rw [h2, List.getD_eq_getElem?_getD, List.getElem?_append_left (by rw [mkU_length]; exact ht), ← List.getD_eq_getElem?_getD, mkU_at _ _ _ ht]
      · exact hg.cell (hcell b hob t ht) (by rw [hgk]; simp; omega)
    · exact hg.cell (hcell b hob t ht) (by simp)
theorem own_nee {w : World} {B B2 : Nat} {e e2 : TypeId} {s s2 : Nat} {v v2 : Value} {n n2 : Nat} {xs ys : List Value} (h : w.ownsRow B e s v n xs) (h2 : w.ownsRow B2 e2 s2 v2 n2 ys) (hne : e ≠ e2) : v.ownBlock = none ∨ v.ownBlock ≠ v2.ownBlock := by
  rcases h.2 with ⟨rfl, _⟩ | ⟨g, cap, cur, rfl, _, hh, _⟩
  · exact .inl rfl
  · rcases h2.2 with ⟨rfl, _⟩ | ⟨g2, cap2, cur2, rfl, _, hh2, _⟩
    · exact .inr (by simp [Value.ownBlock])
    · refine .inr ?_
      simp only [Value.ownBlock, ne_eq, Option.some.injEq]
      intro e'
      subst e'
      rw [hh] at hh2
      simp only [Option.some.injEq, Obj.cells.injEq] at hh2
      exact hne hh2.2.1
/-- One more of them has been gone on with. -/
theorem Ap2.next {G B N n : Nat} {rq : Nat → Option Addr} {m cp : Nat → Nat} {j : Nat} {gs cs : Nat → Nat} {mv mv' : Value} {w0 wi wr W w5 : World} {Ni g d : Nat} (hP : Ap2 G B N n rq m cp j gs cs mv w0 wi) (hNi : Ni = wi.heap.size) (hl : Ap3 B Ni (obk (rq j)) (m j) (1000 * j) (500000 + 1000 * j) (.slice (some ⟨g, 0, none⟩) (m j + 30) d) 30 wi wr)
    (hW : Below wr.heap.size wr W) (hls2 : W.ownsRow N 31 1 mv j (lsU gs cs m j)) (hlt : j < n) (hGN : G < N) (hbN : ∀ q b, q < n → obk (rq q) = some b → b < N ∧ B ≤ b) (hBN : B ≤ N) (hG : ∀ q, q < n → obk (rq q) ≠ some G) (hne : ∀ q r b, q < n → r < n → obk (rq q) = some b → obk (rq r) = some b → q = r)
    (hR5 : w5.ownsRow N 31 1 mv' (j + 1) (lsU gs cs m j ++ [.slice (some ⟨g, 0, none⟩) (m j + 30) d])) (hg5 : W.grownBy w5 mv.ownBlock) :
    Ap2 G B N n rq m cp (j + 1) (fun q => if q = j then g else gs q) (fun q => if q = j then d else cs q) mv' w0 w5 := by
  have hbig := hP.big
  have hmvN : ∀ k, mv.ownBlock = some k → N ≤ k := fun k hk => (hls2.lt k hk).1
  have hbW : Chg (fun b => obk (rq j) = some b) wi W := hl.but.then (Below.chg hW (Nat.le_refl _) _)
  have cellN : ∀ (a : Addr) (v : Value), wi.cell? a = some v → a.block < N → ¬ obk (rq j) = some a.block → w5.cell? a = some v := fun a v hc ha hne' =>
    hg5.cell (hbW.cell hc hne') (fun e => by have := hmvN _ e.symm; omega)
  have ownW : ∀ {v : Value} {l : List Nat}, OwnI B wi v l → (∀ b, v.ownBlock = some b → ¬ obk (rq j) = some b) → OwnI B w5 v l := fun {v l} h hv => by
    have h1 : W.ownsRow B 3 1 v l.length (cI l) := own_chg h hbW hv
    exact h1.kept hg5 (own_nee h1 hls2 (by decide))
  have hown : OwnI B w5 (.slice (some ⟨g, 0, none⟩) (m j + 30) d) (mkU (1000 * j) (m j) ++ mkU (500000 + 1000 * j) 30) := by
    have h1 : W.ownsRow B 3 1 (.slice (some ⟨g, 0, none⟩) (m j + 30) d) _ (cI (mkU (1000 * j) (m j) ++ mkU (500000 + 1000 * j) 30)) := own_chg hl.own (Below.chg hW (Nat.le_refl _) (fun _ => False)) (fun _ _ e => e)
    exact h1.kept hg5 (own_nee h1 hls2 (by decide))
  refine ⟨fun q hq => ?_, fun q hq b hb k hk => ?_, fun q hq hjq => ?_, ?_, fun q hq => ?_, fun q hq => ?_, ?_, ?_⟩
  · exact cellN _ _ (hP.all q hq) hGN (hG j hlt)
  · by_cases hqj : q = j
    · subst hqj
      have h1 := hl.one b hb k hk
      have h2 := (hW.cell (World.block_lt_of_cell? _ _ h1)).trans h1
      exact hg5.cell h2 (fun e => by have := hmvN _ e.symm; have := (hbN q b hq hb).1; simp at *; omega)
    · exact cellN _ _ (hP.one q hq b hb k hk) (hbN q b hq hb).1 (fun e => hqj (hne q j b hq hlt hb e))
  · exact ownW (hP.own q hq (by omega)) (fun b hb e => by rw [obk_own] at hb; have := hne q j b hq hlt hb e; omega)
  · rw [lsU_succ]
    simp only [if_true]
    rw [lsU_congr (gs' := gs) (cs' := cs) (fun q hq => by simp [Nat.ne_of_lt hq])]
    exact hR5
  · by_cases hqj : q = j
    · subst hqj
      simp only [if_true]
      exact hown
    · simp only [hqj, if_false]
      have hq2 : q < j := by omega
      refine ownW (hP.two q hq2) (fun b hb e => ?_)
      obtain rfl : gs q = b := Option.some.inj hb
      rcases hP.fresh q hq2 with h | h
      · have := hne q j _ (by omega) hlt h e
        omega
      · have := (hbN j _ hlt e).1
        omega
  · by_cases hqj : q = j
    · subst hqj
      simp only [if_true]
      rcases hl.blk with h | ⟨g2, h, hge⟩
      · exact .inl h.symm
      · obtain rfl : g = g2 := Option.some.inj h
        exact .inr (by omega)
    · simp only [hqj, if_false]
      exact hP.fresh q (by omega)
  · have := hg5.size
    have := hW.size
    have := hl.but.size
    omega
  · exact grown_below (hP.low.trans (hbW.below (by omega) (fun b hb => (hbN j b hlt hb).2))) (by have := hW.size; have := hl.but.size; omega) hg5 (fun k hk => by have := hmvN k hk; omega)
end Go.Proofs.Ythgcnlccikpmaaa
