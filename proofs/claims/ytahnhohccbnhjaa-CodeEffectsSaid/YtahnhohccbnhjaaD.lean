/- put of package leb, both kinds: bytes of the call's own with a number's form behind them; in every memory. -/
import Derived.Test.YtahnhohccbnhjaaC
namespace Go.Proofs.Ytahnhohccbnhjaa
open Go Go.RowKit

/-- What is appended to lies where it lay, or in memory that is new. -/
theorem run_append_more {P : Program} (w : World) (base : Nat) (t ty e : TypeId) (i : TypeInfo) (z : Value) (size bytes : Nat) (ht : P.underlying t = some (.slice e)) (hi : P.info? e = some i) (hz : i.zero = some z)
    (hsize : i.size = size) (hby : i.bytes = bytes) (hzs : z.cells.size = size) (hsz : 0 < size)
    (v : Value) (n : Nat) (xs : List Value) (hown : w.ownsRow base e size v n xs)
    (a : Addr) (m c : Nat) (news : List Value) (hl : news.length = m * size) (hnews : ∀ j u, news[j]? = some u → w.cell? (a.add j) = some u) (h1 : ∀ u ∈ news, u.oneCell' = true)
    (h63 : n + m ≤ maxLen) (hbytes : (n + m) * bytes ≤ 140737488355328) (hbase : base ≤ w.heap.size) :
    ∃ v' w', (Builtin.append_ #[t, t] ty #[v, .slice (some a) m c]).run P w = .ok v' w' ∧ w'.ownsRow base e size v' (n + m) (xs ++ news) ∧ w.grownBy w' v.ownBlock ∧
      (v'.ownBlock = v.ownBlock ∨ ∀ k, v'.ownBlock = some k → w.heap.size ≤ k) := by
  obtain ⟨v', w', hr, r1, r2, _⟩ := run_append_own (P := P) w base t ty e i z size bytes ht hi hz hsize hby hzs hsz v n xs hown a m c news hl hnews h1 h63 hbytes hbase
  refine ⟨v', w', hr, r1, r2, ?_⟩
  rcases hown.2 with ⟨rfl, rfl⟩ | ⟨g, cap, cur, rfl, hbg, hg, hnc, hcm, hcs, htake⟩
  · have hx : xs = [] := List.eq_nil_of_length_eq_zero (by simpa using hown.1)
    subst hx
    obtain ⟨v2, w2, hr2, q1, q2, _⟩ := run_append_own (P := P) w w.heap.size t ty e i z size bytes ht hi hz hsize hby hzs hsz (.slice none 0 0) 0 [] (World.ownsRow_nil w _ e size) a m c news hl hnews h1 h63 hbytes (Nat.le_refl _)
    rw [hr] at hr2
    injection hr2 with e1 e2
    subst e1 e2
    exact .inr fun k hk => (q1.lt k hk).1
  · by_cases hroom : n + m ≤ cap
    · subst hsize
      have hfit : n * i.size + news.length ≤ cur.size := by rw [hl, hcs, ← Nat.add_mul]; exact Nat.mul_le_mul_right _ hroom
      have hr2 := run_append_room (P := P) w t ty e i ht hi g n cap cur hg a m c news hl hnews h1 hroom hfit
      rw [hr] at hr2
      injection hr2 with e1 e2
      subst e1
      exact .inl rfl
    · have holds : ∀ j u, xs[j]? = some u → w.cell? ((⟨g, 0, none⟩ : Addr).add j) = some u := hown.cells (g := g) rfl
      obtain ⟨v2, w2, hr2, q1, q2⟩ := run_append_arg_grows (P := P) w t ty e i z size bytes ht hi hz hsize hby hzs hsz ⟨g, 0, none⟩ n cap xs hown.1 holds a m c news hl hnews (by omega) h63 hbytes
      rw [hr] at hr2
      injection hr2 with e1 e2
      subst e1 e2
      exact .inr fun k hk => (q1.lt k hk).1

/-- An append of bytes to bytes of the call's own, for the walk. -/
theorem wpList_bytes {ops : Array Oper} {rest : List Oper} {o : Oper} {a : Act} {Q : Exit → Act → World → Prop} {w : World} (hgd : o.guard = none) (s x : Operand)
    (ho : o.op = .call { callee := .builtin .append, args := #[s, x], argTypes := #[35, 35] })
    (B : Nat) (v : Value) (l : List Nat) (hs : a.eval s = v) (hown : OwnB B w v l)
    (ad : Addr) (c : Nat) (news : List Nat) (hx : a.eval x = .slice (some ad) news.length c) (hnews : ∀ j u, (bv news)[j]? = some u → w.cell? (ad.add j) = some u)
    (hb : l.length + news.length ≤ 140737488355328) (hbase : B ≤ w.heap.size)
    (h : ∀ v' w', OwnB B w' v' (l ++ news) → w.grownBy w' v.ownBlock → (v'.ownBlock = v.ownBlock ∨ ∀ k, v'.ownBlock = some k → w.heap.size ≤ k) → wpList Try.prog ops Q rest (a.put o.dst v') w') : wpList Try.prog ops Q (o :: rest) a w := by
  obtain ⟨i, h2, h3, h4, h5⟩ := info5
  obtain ⟨v', w', hr, r1, r2, r3⟩ := run_append_more (P := Try.prog) w B 35 o.type 5 i (.int .u8 0) 1 1 Try.underlying35 h2 h3 h4 h5 rfl (by omega) v l.length (bv l) hown ad news.length c (bv news) (by simp [bv]) hnews (bv_one _) (by unfold maxLen; omega) (by omega) hbase
  have r1' : OwnB B w' v' (l ++ news) := by unfold OwnB; rw [List.length_append, bv_append]; exact r1
  refine wpList_plain hgd fun K hK => ?_
  unfold Oper.wp execOp
  simp only [ho, resolve, invoke, builtin, Sem.run_bind, Sem.run_pure, Result.andThen_ok, List.map_toArray, List.map_cons, List.map_nil, hs, hx, hr]
  exact hK _ _ (h v' w' r1' r2 r3)

theorem byteU (n : Nat) : IntKind.u8.wrap (n : Int) = ((n % 256 : Nat) : Int) := by rw [IntKind.wrap_u8']; omega
theorem or128 (x : Nat) (h : x < 256) : bits .or .u8 (x : Int) 128 = ((x % 128 + 128 : Nat) : Int) := by
  have := u8_or_nat x 128 h (by omega)
  rw [show ((128 : Nat) : Int) = 128 from rfl] at this
  rw [this]
  congr 1
  by_cases hx : x < 128
  · rw [Nat.or_comm, nat_join 7 128 x (by decide) hx]; omega
  · have : x = 128 + x % 128 := by omega
    have h2 : 128 ||| x % 128 = 128 + x % 128 := nat_join 7 128 _ (by decide) (by omega)
    rw [this, ← h2, Nat.or_comm (128 ||| _), ← Nat.or_assoc, Nat.or_self, h2]; omega
theorem andNot128 (x : Nat) (h : x < 256) : bits .andNot .u8 (x : Int) 128 = ((x % 128 : Nat) : Int) := by
  have := u8_andNot_nat x 128 h (by omega)
  rw [show ((128 : Nat) : Int) = 128 from rfl] at this
  rw [this]
  congr 1
  exact Nat.and_two_pow_sub_one_eq_mod x 7

theorem OwnB.alloc {B : Nat} {w : World} {v : Value} {l : List Nat} (h : OwnB B w v l) (o : Obj) : OwnB B (w.alloc o) v l := World.ownsRow.alloc h o
theorem OwnB.lt {B : Nat} {w : World} {v : Value} {l : List Nat} (h : OwnB B w v l) : ∀ k, v.ownBlock = some k → B ≤ k ∧ k < w.heap.size := World.ownsRow.lt h
theorem laysU.own {g : Nat} {w w' : World} {r : Option Nat} (h : laysU g w) (hg : w.grownBy w' r) (h1 : r ≠ some g) (h2 : r ≠ some (g + 1)) : laysU g w' :=
  ⟨hg.cell (a := ⟨g, 0, none⟩) h.1 (fun e => h1 e.symm), hg.cell (a := ⟨g + 1, 0, none⟩) h.2 (fun e => h2 e.symm)⟩
theorem laysS.own {g : Nat} {w w' : World} {r : Option Nat} (h : laysS g w) (hg : w.grownBy w' r) (h1 : r ≠ some g) (h2 : r ≠ some (g + 1)) : laysS g w' :=
  ⟨hg.cell (a := ⟨g, 0, none⟩) h.1 (fun e => h1 e.symm), hg.cell (a := ⟨g + 1, 0, none⟩) h.2 (fun e => h2 e.symm)⟩
theorem apart_more {v v' : Value} {N g : Nat} (h : v'.ownBlock = v.ownBlock ∨ ∀ k, v'.ownBlock = some k → N ≤ k) (hv : v.ownBlock ≠ some g) (hn : g < N) : v'.ownBlock ≠ some g := by
  rcases h with h | h
  · rw [h]; exact hv
  · intro e; have := h g e; omega

set_option maxRecDepth 100000 in
set_option maxHeartbeats 2000000 in
theorem putU_any (g n B : Nat) (v : Value) (l : List Nat) (hl : l.length + (putU n).length ≤ 140737488355328) (w : World) (ho : OwnB B w v l) (hB : B ≤ w.heap.size) (hn : n < W64)
    (hg : laysU g w) (hgs : g + 1 < w.heap.size) (hap : v.ownBlock ≠ some g ∧ v.ownBlock ≠ some (g + 1)) :
    Calls Try.prog 52 #[v, .int .u64 n, endU g] w fun e w' => ∃ v', e = .returned v' ∧ OwnB B w' v' (l ++ putU n) ∧ Below B w w' := by
  obtain ⟨q, c, rfl⟩ := ho.slice
  unfold endU
  go_enter Try.func52, Try.ntmps52
  go_wp2
  go_loopw [0, 1] (fun b m wr => ∃ (k : Nat) (l' : List Nat), m = .int .u64 k ∧ k < W64 ∧ OwnB B wr b l' ∧ l ++ putU n = l' ++ putU k ∧ Below B w wr ∧ laysU g wr ∧ w.heap.size ≤ wr.heap.size ∧ b.ownBlock ≠ some g ∧ b.ownBlock ≠ some (g + 1)) (fun _ m _ => (intOf m).toNat)
  case atStart => exact ⟨n, l, rfl, hn, ho, rfl, Below.refl _ _, hg, Nat.le_refl _, hap⟩
  case round =>
    obtain ⟨k, l', rfl, hk, ho', hlist, hbl, hlay, hsz, ha1, ha2⟩ := hrel
    obtain ⟨q', c', rfl⟩ := ho'.slice
    have hlast := lastU_any g k wr hlay
    have hlen := congrArg List.length hlist
    rw [List.length_append, List.length_append] at hlen
    by_cases hk1 : k < 128
    · rw [decide_eq_true hk1] at hlast
      have HH := Lib.hid hlast
      rw [putU_small hk1] at hlist hlen
      have hb1 := byteU k
      rw [Nat.mod_eq_of_lt (show k < 256 by omega)] at hb1
      have hb2 := andNot128 k (by omega)
      rw [Nat.mod_eq_of_lt hk1] at hb2
      clear hlast ho hg hap
      go_wp2_with fail
      refine HH.out.mono ?_
      rintro e w' ⟨rfl, rfl⟩
      clear HH
      have hA := ho'.alloc (.cells #[.int .u8 (k : Int)] 5)
      have hBA : Below B w' (w'.alloc (.cells #[.int .u8 (k : Int)] 5)) := (Below.refl _ _).alloc (by omega) _
      clear ho'
      go_wp2_with (at_builtin; refine wpList_bytes rfl _ _ rfl B _ l' rfl hA ⟨_, 0, none⟩ 1 [k] rfl (one_cells _ k) (by simp at hlen ⊢; omega) (by simp; omega) ?_)
      intro v2 w2 hO hgr _
      have hB2 : Below B w w2 := hbl.trans (hBA.trans (below_own hgr (by simp; omega) (fun j hj => (hA.lt j hj).1)))
      rw [← hlist] at hO
      have HO := Lib.hid hO
      clear hO hA hBA hgr hlist hlay
      go_wp2
      go_ret
      exact ⟨_, rfl, HO.out, hB2⟩
    · rw [decide_eq_false hk1] at hlast
      have HH := Lib.hid hlast
      rw [putU_big hk1] at hlist hlen
      have hb2 := or128 (k % 256) (by omega)
      rw [show k % 256 % 128 + 128 = k % 128 + 128 from by omega, show ((k % 256 : Nat) : Int) = (k : Int) % 256 from by omega] at hb2
      generalize k % 128 + 128 = y at hlist hlen hb2
      have hsh : (k : Int) / 2 ^ 7 = ((k / 128 : Nat) : Int) := by omega
      clear hlast ho hg hap
      go_wp2_with fail
      refine HH.out.mono ?_
      rintro e w' ⟨rfl, rfl⟩
      clear HH
      have hA := ho'.alloc (.cells #[.int .u8 ((y : Nat) : Int)] 5)
      have hBA : Below B w' (w'.alloc (.cells #[.int .u8 ((y : Nat) : Int)] 5)) := (Below.refl _ _).alloc (by omega) _
      have hN : w'.heap.size ≤ (w'.alloc (.cells #[.int .u8 ((y : Nat) : Int)] 5)).heap.size := by simp
      have hlA := hlay.below (Below.alloc (Below.refl (w'.heap.size) w') (Nat.le_refl _) (.cells #[.int .u8 ((y : Nat) : Int)] 5)) (by omega)
      clear ho' hlay
      go_wp2_with (at_builtin; refine wpList_bytes rfl _ _ rfl B _ l' rfl hA ⟨_, 0, none⟩ 1 [y] rfl (one_cells _ _) (by simp at hlen ⊢; omega) (by simp; omega) ?_)
      intro v2 w2 hO hgr hmore
      have hB2 : Below B w w2 := hbl.trans (hBA.trans (below_own hgr (by simp; omega) (fun j hj => (hA.lt j hj).1)))
      have hl2 := hlA.own hgr ha1 ha2
      have hz2 : w.heap.size ≤ w2.heap.size := Nat.le_trans hsz (Nat.le_trans hN hgr.size)
      have hp1 := apart_more hmore ha1 (by omega)
      have hp2 := apart_more hmore ha2 (by omega)
      have HX := Lib.hid (show OwnB B w2 v2 (l' ++ [y]) ∧ l ++ putU n = (l' ++ [y]) ++ putU (k / 128) ∧ Below B w w2 ∧ laysU g w2 ∧ w.heap.size ≤ w2.heap.size ∧ v2.ownBlock ≠ some g ∧ v2.ownBlock ≠ some (g + 1) from
        ⟨hO, by rw [hlist]; simp, hB2, hl2, hz2, hp1, hp2⟩)
      clear hO hA hBA hgr hlist hl2 hlA hB2 hz2 hp1 hp2 hmore ha1 ha2 hbl
      go_wp2
      refine ⟨⟨k / 128, _, by go_num, by omega, HX.out⟩, ?_⟩
      simp [intOf]
      omega
set_option maxRecDepth 100000 in
set_option maxHeartbeats 2000000 in
theorem putS_any (g : Nat) (n : Int) (B : Nat) (v : Value) (l : List Nat) (hl : l.length + (putS n).length ≤ 140737488355328) (w : World) (ho : OwnB B w v l) (hB : B ≤ w.heap.size) (hn1 : -9223372036854775808 ≤ n) (hn2 : n < 9223372036854775808)
    (hg : laysS g w) (hgs : g + 1 < w.heap.size) (hap : v.ownBlock ≠ some g ∧ v.ownBlock ≠ some (g + 1)) :
    Calls Try.prog 49 #[v, .int .i64 n, endS g] w fun e w' => ∃ v', e = .returned v' ∧ OwnB B w' v' (l ++ putS n) ∧ Below B w w' := by
  obtain ⟨q, c, rfl⟩ := ho.slice
  unfold endS
  go_enter Try.func49, Try.ntmps49
  go_wp2
  go_loopw [0, 1] (fun b m wr => ∃ (k : Int) (l' : List Nat), m = .int .i64 k ∧ -9223372036854775808 ≤ k ∧ k < 9223372036854775808 ∧ OwnB B wr b l' ∧ l ++ putS n = l' ++ putS k ∧ Below B w wr ∧ laysS g wr ∧ w.heap.size ≤ wr.heap.size ∧ b.ownBlock ≠ some g ∧ b.ownBlock ≠ some (g + 1)) (fun _ m _ => (intOf m).natAbs)
  case atStart => exact ⟨n, l, rfl, hn1, hn2, ho, rfl, Below.refl _ _, hg, Nat.le_refl _, hap⟩
  case round =>
    obtain ⟨k, l', rfl, hk, hk', ho', hlist, hbl, hlay, hsz, ha1, ha2⟩ := hrel
    obtain ⟨q', c', rfl⟩ := ho'.slice
    have hlast := lastS_any g k wr hlay
    have hlen := congrArg List.length hlist
    rw [List.length_append, List.length_append] at hlen
    by_cases hk1 : -64 ≤ k ∧ k < 64
    · rw [decide_eq_true hk1] at hlast
      have HH := Lib.hid hlast
      rw [putS_small hk1] at hlist hlen
      have hb2 := andNot128 (k % 256).toNat (by omega)
      rw [show (k % 256).toNat % 128 = (k % 128).toNat from by omega, show (((k % 256).toNat : Nat) : Int) = k % 256 from by omega] at hb2
      generalize (k % 128).toNat = y at hlist hlen hb2
      clear hlast ho hg hap
      go_wp2_with fail
      refine HH.out.mono ?_
      rintro e w' ⟨rfl, rfl⟩
      clear HH
      have hA := ho'.alloc (.cells #[.int .u8 (y : Int)] 5)
      have hBA : Below B w' (w'.alloc (.cells #[.int .u8 (y : Int)] 5)) := (Below.refl _ _).alloc (by omega) _
      clear ho'
      go_wp2_with (at_builtin; refine wpList_bytes rfl _ _ rfl B _ l' rfl hA ⟨_, 0, none⟩ 1 [y] rfl (one_cells _ y) (by simp at hlen ⊢; omega) (by simp; omega) ?_)
      intro v2 w2 hO hgr _
      have hB2 : Below B w w2 := hbl.trans (hBA.trans (below_own hgr (by simp; omega) (fun j hj => (hA.lt j hj).1)))
      rw [← hlist] at hO
      have HO := Lib.hid hO
      clear hO hA hBA hgr hlist hlay
      go_wp2
      go_ret
      exact ⟨_, rfl, HO.out, hB2⟩
    · rw [decide_eq_false hk1] at hlast
      have HH := Lib.hid hlast
      rw [putS_big hk1] at hlist hlen
      have hb2 := or128 (k % 256).toNat (by omega)
      rw [show (k % 256).toNat % 128 + 128 = (k % 128).toNat + 128 from by omega, show (((k % 256).toNat : Nat) : Int) = k % 256 from by omega] at hb2
      generalize (k % 128).toNat + 128 = y at hlist hlen hb2
      clear hlast ho hg hap
      go_wp2_with fail
      refine HH.out.mono ?_
      rintro e w' ⟨rfl, rfl⟩
      clear HH
      have hA := ho'.alloc (.cells #[.int .u8 ((y : Nat) : Int)] 5)
      have hBA : Below B w' (w'.alloc (.cells #[.int .u8 ((y : Nat) : Int)] 5)) := (Below.refl _ _).alloc (by omega) _
      have hN : w'.heap.size ≤ (w'.alloc (.cells #[.int .u8 ((y : Nat) : Int)] 5)).heap.size := by simp
      have hlA := hlay.below (Below.alloc (Below.refl (w'.heap.size) w') (Nat.le_refl _) (.cells #[.int .u8 ((y : Nat) : Int)] 5)) (by omega)
      clear ho' hlay
      go_wp2_with (at_builtin; refine wpList_bytes rfl _ _ rfl B _ l' rfl hA ⟨_, 0, none⟩ 1 [y] rfl (one_cells _ _) (by simp at hlen ⊢; omega) (by simp; omega) ?_)
      intro v2 w2 hO hgr hmore
      have hB2 : Below B w w2 := hbl.trans (hBA.trans (below_own hgr (by simp; omega) (fun j hj => (hA.lt j hj).1)))
      have hl2 := hlA.own hgr ha1 ha2
      have hz2 : w.heap.size ≤ w2.heap.size := Nat.le_trans hsz (Nat.le_trans hN hgr.size)
      have hp1 := apart_more hmore ha1 (by omega)
      have hp2 := apart_more hmore ha2 (by omega)
      have HX := Lib.hid (show OwnB B w2 v2 (l' ++ [y]) ∧ l ++ putS n = (l' ++ [y]) ++ putS (k / 128) ∧ Below B w w2 ∧ laysS g w2 ∧ w.heap.size ≤ w2.heap.size ∧ v2.ownBlock ≠ some g ∧ v2.ownBlock ≠ some (g + 1) from
        ⟨hO, by rw [hlist]; simp, hB2, hl2, hz2, hp1, hp2⟩)
      clear hO hA hBA hgr hlist hl2 hlA hB2 hz2 hp1 hp2 hmore ha1 ha2 hbl
      go_wp2
      refine ⟨⟨k / 128, _, by go_num, by omega, by omega, HX.out⟩, ?_⟩
      simp [intOf]
      omega
end Go.Proofs.Ytahnhohccbnhjaa
