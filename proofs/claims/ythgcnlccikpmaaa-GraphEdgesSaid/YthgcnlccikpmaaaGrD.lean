/- addresses and Next, the document's too. -/
import Derived.Test.YthgcnlccikpmaaaGrCa
import Derived.Test.YthgcnlccikpmaaaGrL
import Derived.Test.YthgcnlccikpmaaaCoLb
namespace Go.Proofs.Ythgcnlccikpmaaa
open Go Go.RowKit Go.Proofs.Mm
abbrev fnV (lv : Int) (qp : Option Addr) (np cp : Nat) (qr : Option Addr) (nr cr : Nat) (lo stk : Int) (qc : Option Addr) (nc cc : Nat) : Value :=
  .agg #[.int .u64 lv, .slice qp np cp, .slice qr nr cr, .int .i64 lo, .int .i64 stk, .slice qc nc cc]
abbrev fnC (lv : Int) (qp : Option Addr) (np cp : Nat) (qr : Option Addr) (nr cr : Nat) (lo stk : Int) (qc : Option Addr) (nc cc : Nat) : Array Value :=
  #[.int .u64 lv, .slice qp np cp, .slice qr nr cr, .int .i64 lo, .int .i64 stk, .slice qc nc cc]
theorem flt_snoc (n : Nat) (xs : List Int) (x : Int) : flt n (xs ++ [x]) = flt n xs ++ inN n x := by simp [flt]
theorem flt_len (n : Nat) (xs : List Int) : (flt n xs).length ≤ xs.length := by
  induction xs with
  | nil => simp [flt]
  | cons x xs ih =>
    have := inN_len n x
    simp only [flt, List.flatMap_cons, List.length_append, List.length_cons] at ih ⊢
    omega
theorem take_snoc {l : List Int} {k : Nat} (hk : k < l.length) : l.take (k + 1) = l.take k ++ [l.getD k 0] := by
  rw [List.take_succ_eq_append_getElem hk]
  simp [hk]
def NumsAt (w : World) (q : Option Addr) (xs : List Int) : Prop := ∀ j, j < xs.length → ∃ g o, q = some ⟨g, o, none⟩ ∧ w.cell? ⟨g, o + j, none⟩ = some (.int .i64 (xs.getD j 0))
theorem own_neB {B b : Nat} {w : World} {v : Value} {l : List Nat} {cs : Array Value} {T : TypeId} (h : OwnI B w v l) (hi : InB w b cs T) (hT : T ≠ 3) : v.ownBlock ≠ some b := fun e => by
  obtain ⟨cur, h2⟩ := own_type h e
  rw [show w.heap[b]? = _ from hi] at h2
  simp only [Option.some.injEq, Obj.cells.injEq] at h2
  exact hT h2.2.1
/-- What an append leaves alone. -/
def Mst (W w' : World) (v v' : Value) : Prop := (v'.ownBlock = v.ownBlock ∧ W.grownBy w' v.ownBlock) ∨ ((∀ k, v'.ownBlock = some k → W.heap.size ≤ k) ∧ W.grownBy w' none)
theorem Mst.size {W w' : World} {v v' : Value} (h : Mst W w' v v') : W.heap.size ≤ w'.heap.size := by rcases h with ⟨_, h⟩ | ⟨_, h⟩ <;> exact h.size
theorem Mst.inB {W w' : World} {v v' : Value} {b : Nat} {cs : Array Value} {T : TypeId} (h : Mst W w' v v') (hi : InB W b cs T) (hv : v.ownBlock ≠ some b) : InB w' b cs T := by
  rcases h with ⟨_, h⟩ | ⟨_, h⟩
  · exact (h.block b (heap_lt hi) (fun e => hv e.symm)).trans hi
  · exact (h.block b (heap_lt hi) (fun e => by cases e)).trans hi
theorem Mst.below {W w' w0 : World} {B : Nat} {v v' : Value} (h : Mst W w' v v') (hB : Below B w0 W) (hs : B ≤ W.heap.size) (hv : ∀ k, v.ownBlock = some k → B ≤ k) : Below B w0 w' := by
  rcases h with ⟨_, h⟩ | ⟨_, h⟩
  · exact grown_below hB hs h hv
  · exact grown_below hB hs h (fun k e => by cases e)
theorem wpList_mst {ops : Array Oper} {rest : List Oper} {o : Oper} {a : Act} {Q : Exit → Act → World → Prop} {w : World} (hgd : o.guard = none) (s x : Operand)
    (ho : o.op = .call { callee := .builtin .append, args := #[s, x], argTypes := #[31, 31] })
    (B : Nat) (v : Value) (l : List Nat) (hs : a.eval s = v) (hown : OwnI B w v l)
    (ad : Addr) (c : Nat) (news : List Nat) (hx : a.eval x = .slice (some ad) news.length c) (hnews : ∀ j u, (cI news)[j]? = some u → w.cell? (ad.add j) = some u)
    (hb : (l.length + news.length) * 8 ≤ 140737488355328) (hbase : B ≤ w.heap.size)
    (h : ∀ v' w', OwnI B w' v' (l ++ news) → Mst w w' v v' → wpList Try.prog ops Q rest (a.put o.dst v') w') : wpList Try.prog ops Q (o :: rest) a w :=
  wpList_most hgd s x ho B v l hs hown ad c news hx hnews hb hbase h
section
variable (lv : Int) (qp : Option Addr) (np cp : Nat) (qr : Option Addr) (nr cr : Nat) (lo stk : Int) (qc : Option Addr) (nc cc : Nat)
set_option maxRecDepth 100000 in
set_option maxHeartbeats 1000000 in
theorem addresses_any {w : World} {q : Option Addr} {c : Nat} {xs : List Int} (hx : xs.length ≤ 2) (hq : NumsAt w q xs) :
    Calls Try.prog 27 #[fnV lv qp np cp qr nr cr lo stk qc nc cc, .slice q xs.length c] w fun e w' => ∃ v, e = .returned v ∧ OwnI w.heap.size w' v (uni (srt (flt nc xs))) ∧ Below w.heap.size w w' := by
  obtain ⟨n, hn⟩ : ∃ n, xs.length = n := ⟨_, rfl⟩
  have HN := Lib.hid hn
  have HQ := Lib.hid hq
  rw [hn] at hx ⊢
  clear hn hq
  go_enter Try.func27, Try.ntmps27
  go_wp2
  go_loopw [5, 10] (fun v i wr => ∃ k : Nat, k ≤ n ∧ i = .int .i64 k ∧ OwnI w.heap.size wr v (flt nc (xs.take k)) ∧ Below w.heap.size w wr ∧ InB wr w.heap.size (fnC lv qp np cp qr nr cr lo stk qc nc cc) 27) (fun _ i _ => n - (intOf i).toNat)
  case atStart => exact ⟨0, by omega, rfl, World.ownsRow_nil _ _ _ _, (Below.refl _ w).alloc (Nat.le_refl _) _, InB.new _ _ _⟩
  case round =>
    obtain ⟨k, hk, rfl, hO, hB, hF⟩ := hrel
    have g5 := hF.cell (j := 5) rfl
    by_cases hlt : k < n
    · obtain ⟨g, o, rfl, hc⟩ := HQ.out k (by rw [HN.out]; exact hlt)
      have hc' := (hB.cell (World.block_lt_of_cell? _ _ hc)).trans hc
      have hki : (k : Int) < (n : Int) := by omega
      have HS := Lib.hid (flt_snoc nc (xs.take k) (xs.getD k 0))
      have HT := Lib.hid (take_snoc (l := xs) (k := k) (by rw [HN.out]; exact hlt))
      have HL := Lib.hid (flt_len nc (xs.take k))
      have HL2 := Lib.hid (List.length_take_le k xs)
      generalize xs.getD k 0 = x at hc' HS HT
      clear hc
      obtain ⟨qv, cv, rfl⟩ := own_shape hO
      by_cases h1 : 0 ≤ x
      · by_cases h2 : x < (nc : Int)
        · have hin : inN nc x = [x.toNat] := by unfold inN; rw [if_pos ⟨h1, h2⟩]
          have hxt : ((x.toNat : Nat) : Int) = x := by omega
          have HIN := Lib.hid hin
          have HXT := Lib.hid hxt
          have HO := Lib.hid hO
          have HF := Lib.hid hF
          have HB := Lib.hid hB
          have hsz := hB.size
          clear hin hxt hO hF hB
          go_wp2_with (at_builtin; refine wpList_mst rfl _ _ rfl w.heap.size _ (flt nc (xs.take k)) rfl (World.ownsRow.alloc HO.out _) ⟨_, 0, none⟩ 1 [x.toNat] rfl (by rw [show cI [x.toNat] = [.int .i64 x] from by unfold cI; simp [HXT.out]]; exact row_new wr [.int .i64 x] 3) (by have := HL.out; have := HL2.out; simp; omega) (by simp; omega) ?_)
          intro v2 w2 hO2 hM
          obtain ⟨q2, c2, rfl⟩ := own_shape hO2
          have hnb := own_neB HO.out HF.out (by decide)
          have HFIN := Lib.hid (show OwnI w.heap.size w2 (.slice q2 (flt nc (xs.take k) ++ [x.toNat]).length c2) (flt nc (xs.take (k + 1))) ∧ Below w.heap.size w w2 ∧ InB w2 w.heap.size (fnC lv qp np cp qr nr cr lo stk qc nc cc) 27 from
            ⟨by rw [HT.out, HS.out, HIN.out]; exact hO2, hM.below (HB.out.alloc hsz _) (by simp; omega) (fun k e => (HO.out.lt k e).1), hM.inB (heap_new _ _ HF.out) hnb⟩)
          clear hM hO2 hnb
          go_wp2
          exact ⟨⟨k + 1, by omega, by go_num, HFIN.out⟩, by simp [intOf]; omega⟩
        · have hin : inN nc x = [] := by unfold inN; rw [if_neg (by omega)]
          go_wp2
          exact ⟨⟨k + 1, by omega, by go_num, by rw [HT.out, HS.out, hin, List.append_nil]; exact hO, hB, hF⟩, by simp [intOf]; omega⟩
      · have hin : inN nc x = [] := by unfold inN; rw [if_neg (by omega)]
        go_wp2
        exact ⟨⟨k + 1, by omega, by go_num, by rw [HT.out, HS.out, hin, List.append_nil]; exact hO, hB, hF⟩, by simp [intOf]; omega⟩
    · obtain rfl : k = n := by omega
      have hall : xs.take k = xs := List.take_of_length_le (by rw [HN.out]; exact Nat.le_refl _)
      rw [hall] at hO
      have h2 : (flt nc xs).length ≤ 2 := by have := flt_len nc xs; rw [HN.out] at this; omega
      have HSo := Lib.hid (sort_any hO h2)
      have hsl : (srt (flt nc xs)).length ≤ 2 := by
        unfold srt
        split
        · split <;> simp
        · exact h2
      have HB := Lib.hid hB
      have HO := Lib.hid hO
      have hsz := hB.size
      obtain ⟨qv, cv, rfl⟩ := own_shape hO
      clear hO hB hF hall h2
      go_wp2_with fail
      go_at_call 38
      refine HSo.out.mono ?_
      rintro e w3 ⟨⟨r, rfl⟩, hO3, hC3⟩
      have HCo := Lib.hid (compact_any hO3 hsl)
      have HC3 := Lib.hid hC3
      have HO3 := Lib.hid hO3
      clear hO3 hC3
      go_wp2_with fail
      go_at_call 39
      refine HCo.out.mono ?_
      rintro e w4 ⟨v4, rfl, hO4, hb4, hC4⟩
      go_wp2
      go_ret
      refine ⟨_, rfl, hO4, HB.out.trans (((HC3.out.then hC4).below hsz (fun i e => (HO.out.lt i e).1)))⟩
theorem uni_one {n : Nat} {x : Int} : uni (srt (flt n [x])) = inN n x := by
  simp only [flt, List.flatMap_cons, List.flatMap_nil, List.append_nil]
  unfold inN
  split <;> rfl
theorem uni_two {n : Nat} {x y : Int} : uni (srt (flt n [x, y])) = twoN n x y := by
  simp only [flt, List.flatMap_cons, List.flatMap_nil, List.append_nil]
  unfold twoN
  by_cases hx : 0 ≤ x ∧ x < n <;> by_cases hy : 0 ≤ y ∧ y < n
  · have e1 : inN n x = [x.toNat] := by unfold inN; rw [if_pos hx]
    have e2 : inN n y = [y.toNat] := by unfold inN; rw [if_pos hy]
    rw [e1, e2]
    show uni (if y.toNat < x.toNat then [y.toNat, x.toNat] else [x.toNat, y.toNat]) = _
    by_cases h1 : x = y
    · subst h1
      rw [if_neg (by omega), if_pos rfl]
      simp [uni]
    · rw [if_neg h1]
      by_cases h2 : x < y
      · rw [if_pos h2, if_neg (by omega)]
        simp only [uni]
        rw [if_neg (by omega)]
        rfl
      · rw [if_neg h2, if_pos (by omega)]
        simp only [uni]
        rw [if_neg (by omega)]
        rfl
  · have e1 : inN n x = [x.toNat] := by unfold inN; rw [if_pos hx]
    have e2 : inN n y = [] := by unfold inN; rw [if_neg hy]
    rw [e1, e2]
    rw [if_neg (by intro h; rw [h] at hx; exact hy hx)]
    split <;> rfl
  · have e1 : inN n x = [] := by unfold inN; rw [if_neg hx]
    have e2 : inN n y = [y.toNat] := by unfold inN; rw [if_pos hy]
    rw [e1, e2]
    rw [if_neg (by intro h; rw [← h] at hy; exact hx hy)]
    split <;> rfl
  · have e1 : inN n x = [] := by unfold inN; rw [if_neg hx]
    have e2 : inN n y = [] := by unfold inN; rw [if_neg hy]
    rw [e1, e2]
    split
    · rfl
    · split <;> rfl
end
end Go.Proofs.Ythgcnlccikpmaaa
