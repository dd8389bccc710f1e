/- The sequence of all edges. -/
import Derived.Test.YthgcnlccikpmaaaGrM
import Derived.OwnWalkIn
import Derived.RangeFuncCalls
import Derived.RangeFuncLeaves
import Derived.RangeFuncNested
import Derived.LoopNIn
import Derived.LoopIn
namespace Go.Proofs.Ythgcnlccikpmaaa
open Go Go.RowKit Go.Proofs.Mm
theorem grown_of_below {W W' : World} (hb : Below W.heap.size W W') : W.grownBy W' none := by
  obtain ⟨h1, h2, h3, h4, h5⟩ := hb
  exact ⟨h1, h2, h3, h4, fun k hk _ => h5 k hk⟩
/-- What a round keeps: all cells but those of the blocks S, and S takes in new blocks alone. -/
structure KpS (S : World → Nat → Prop) (A B : World) : Prop where
  cell : ∀ a v, A.cell? a = some v → ¬ S A a.block → B.cell? a = some v
  set : ∀ k, S B k → S A k ∨ A.heap.size ≤ k
  lt : (∀ k, S A k → k < A.heap.size) → ∀ k, S B k → k < B.heap.size
  size : A.heap.size ≤ B.heap.size
theorem KpS.trans {S : World → Nat → Prop} {A B C : World} (h : KpS S A B) (k : KpS S B C) : KpS S A C where
  cell := fun a v hc hn => k.cell a v (h.cell a v hc hn) (fun e => by
    rcases h.set _ e with e | e
    · exact hn e
    · have := World.block_lt_of_cell? _ _ hc; omega)
  set := fun i e => by
    rcases k.set i e with e | e
    · exact h.set i e
    · exact .inr (by have := h.size; omega)
  lt := fun hl => k.lt (h.lt hl)
  size := Nat.le_trans h.size k.size
theorem reI_kept {S : World → Nat → Prop} {A B : World} {g o n c : Nat} {l : List Nat} (h : ReI (wC A) (.slice (some ⟨g, o, none⟩) n c) l) (hk : KpS S A B) (hn : ¬ S A g) : ReI (wC B) (.slice (some ⟨g, o, none⟩) n c) l := by
  obtain ⟨q', c', e, h1, h2, h3⟩ := h
  injection e with e1 e2 e3
  subst e1 e2 e3
  refine ⟨_, _, rfl, h1, h2, ?_⟩
  rcases h3 with h3 | ⟨g', o', e, h3⟩
  · exact .inl h3
  · injection e with e; injection e with e1 e2 _; subst e1 e2
    exact .inr ⟨g, o, rfl, fun j u hu => hk.cell _ _ (h3 j u hu) hn⟩
/-- Edges up to a node. -/
def edgK (c : Cd) (i : Nat) : List (Nat × Nat) := (List.range i).flatMap fun (a : Nat) => (nxt c (a : Int)).map fun (b : Nat) => (a, b)
theorem edgK_succ (c : Cd) (i : Nat) : edgK c (i + 1) = edgK c i ++ (nxt c (i : Int)).map fun (b : Nat) => (i, b) := by
  unfold edgK
  rw [List.range_succ, List.flatMap_append]
  simp
theorem edgK_le (c : Cd) (i k : Nat) : (edgK c i).length ≤ (edgK c (i + k)).length := by
  induction k with
  | zero => exact Nat.le_refl _
  | succ k ih => rw [← Nat.add_assoc, edgK_succ, List.length_append]; omega
theorem edgK_len (c : Cd) (i : Nat) : (edgK c i).length ≤ 2 * i := by
  induction i with
  | zero => simp [edgK]
  | succ i ih =>
    rw [edgK_succ, List.length_append, List.length_map]
    have := nxt_len c (i : Int)
    omega
section
variable (lv : Int) (qp : Option Addr) (np cp : Nat) (qr : Option Addr) (nr cr : Nat) (lo stk : Int) (qc : Option Addr) (nc cc : Nat)
def CellsAt (w : World) (b : Nat) (cs : Array Value) : Prop := ∀ j v, cs[j]? = some v → w.cell? ⟨b, j, none⟩ = some v
/-- What the iterator reads. -/
structure Ed (S : World → Nat → Prop) (b0 : Nat) (code : Cd) (wr : World) : Prop where
  f : CellsAt wr b0 (fnC lv qp np cp qr nr cr lo stk qc nc cc)
  c : InAt (wC wr) qc code
  s : ∀ k, S wr k → k < wr.heap.size
  nf : ¬ S wr b0
  nc : ∀ i, i < code.length → ∀ g o, qc = some ⟨g, o, none⟩ → ¬ S wr g
variable {lv qp np cp qr nr cr lo stk qc nc cc}
theorem Ed.later {S : World → Nat → Prop} {b0 : Nat} {code : Cd} {A B : World} (h : Ed lv qp np cp qr nr cr lo stk qc nc cc S b0 code A) (hS : ∀ A B : World, Below A.heap.size A B → (∀ k, S A k → k < A.heap.size) → ∀ k, S B k → S A k) (hb : Below A.heap.size A B) : Ed lv qp np cp qr nr cr lo stk qc nc cc S b0 code B :=
  ⟨fun j v e => cell_b (h.f j v e) hb, inAt_le qc h.c hb, fun k e => Nat.lt_of_lt_of_le (h.s k (hS A B hb h.s k e)) hb.size, fun e => h.nf (hS A B hb h.s _ e), fun i hi g o e1 e2 => h.nc i hi g o e1 (hS A B hb h.s _ e2)⟩
theorem Ed.kept {S : World → Nat → Prop} {b0 : Nat} {code : Cd} {A B : World} (h : Ed lv qp np cp qr nr cr lo stk qc nc cc S b0 code A) (hk : KpS S A B) : Ed lv qp np cp qr nr cr lo stk qc nc cc S b0 code B := by
  have hb0 : b0 < A.heap.size := World.block_lt_of_cell? _ _ (h.f 0 _ rfl)
  refine ⟨fun j v e => hk.cell _ _ (h.f j v e) h.nf, fun i hi => ?_, hk.lt h.s, fun e => ?_, fun i hi g o e1 e2 => ?_⟩
  · obtain ⟨g, o, e, h1, h2⟩ := h.c i hi
    exact ⟨g, o, e, hk.cell _ _ h1 (h.nc i hi g o e), hk.cell _ _ h2 (h.nc i hi g o e)⟩
  · rcases hk.set _ e with e | e
    · exact h.nf e
    · omega
  · rcases hk.set _ e2 with e2 | e2
    · exact h.nc i hi g o e1 e2
    · obtain ⟨g', o', e', h1, _⟩ := h.c i hi
      rw [e1] at e'
      injection e' with e'
      injection e' with e' _ _
      subst e'
      have h2 : g < A.heap.size := World.block_lt_of_cell? _ _ h1
      omega
theorem edgK_room {c : Cd} {i ii : Nat} (hi : i < c.length) (hii : ii < (nxt c (i : Int)).length) : (edgK c i ++ ((nxt c (i : Int)).take ii).map fun (b : Nat) => (i, b)).length < (edgK c c.length).length := by
  have h1 := edgK_le c (i + 1) (c.length - (i + 1))
  rw [show i + 1 + (c.length - (i + 1)) = c.length by omega, edgK_succ, List.length_append, List.length_map] at h1
  rw [List.length_append, List.length_map, List.length_take]
  omega
variable (lv qp np cp qr nr cr lo stk qc nc cc)
set_option maxRecDepth 100000 in
set_option maxHeartbeats 2000000 in
theorem edges_stops (n : Nat) {S : World → Nat → Prop} {b0 : Nat} {code : Cd} {w : World} (hS : ∀ A B : World, Below A.heap.size A B → (∀ k, S A k → k < A.heap.size) → ∀ k, S B k → S A k) (hE : Ed lv qp np cp qr nr cr lo stk qc nc cc S b0 code w) (hn : code.length = nc) (hm : nc ≤ cc) (hm2 : cc ≤ maxLen) (hnc : nc ≤ 1000) :
    SeqStopsK Fence.wide n Try.prog 40 #[.pointer (some ⟨b0, 0, none⟩)] (fun x : Nat × Nat => #[Value.int .i64 (x.1 : Nat), Value.int .i64 (x.2 : Nat)]) (KpS S) (fun xs => xs = edgK code code.length) (fun _ => True) (edgK code code.length).length w := by
  intro l J Jx W hW hJ _ hY h0
  have HE := Lib.hid (hE.later hS hW)
  have HX := Lib.hid (fun (W' : World) (h : InAt (wC W') qc code) (k : Int) => next_any lv qp np cp qr nr cr lo stk qc nc cc h hn hm hm2 k)
  have HJ := Lib.hid hJ
  have HS := Lib.hid hS
  have HN := Lib.hid hn
  obtain ⟨NN, hNN⟩ : ∃ NN, (edgK code code.length).length = NN := ⟨_, rfl⟩
  rw [hNN] at hY
  have HNN := Lib.hid hNN
  have c5 := HE.out.f 5 _ rfl
  clear hW hJ hS hn hm hm2 hE hNN
  refine callsIn_of_wp Try.func40 rfl trivial ?_ rfl
  simp only [Try.ntmps40, List.size_toArray, List.length_cons, List.length_nil, Nat.reduceAdd, Nat.reduceSub, Array.replicate_succ, Array.replicate_zero, List.push_toArray, List.append_toArray, List.nil_append, List.cons_append]
  gi_wp2
  gi_loopw [9] (fun t wr => ∃ (pre : List (Nat × Nat)) (i : Nat), i ≤ nc ∧ t = .int .i64 i ∧ Hid (pre = edgK code i) ∧ Hid (Ed lv qp np cp qr nr cr lo stk qc nc cc S b0 code wr) ∧ J pre wr) (fun t _ => nc - (intOf t).toNat)
  case atStart => exact ⟨[], 0, by omega, rfl, Lib.hid rfl, HE, h0⟩
  case round =>
    obtain ⟨pre, i, hi, rfl, HP, HEd, hJr⟩ := hrel
    clear HE h0 c5
    by_cases hlt : i < nc
    · have hii : (i : Int) < (nc : Int) := by omega
      have d0 := HEd.out.f 0 _ rfl
      have d1 := HEd.out.f 1 _ rfl
      have d2 := HEd.out.f 2 _ rfl
      have d3 := HEd.out.f 3 _ rfl
      have d4 := HEd.out.f 4 _ rfl
      have d5 := HEd.out.f 5 _ rfl
      have HJr := Lib.hid hJr
      clear hJr
      gi_wp2
      refine ⟨trivial, (fun h => by cases h), (callsIn_wide.2 (HX.out wr HEd.out.c (i : Int))).mono ?_⟩
      rintro e w2 ⟨vl, rfl, hO, hB⟩
      obtain ⟨ql, cl, rfl⟩ := own_shape hO
      have HEd2 := Lib.hid (HEd.out.later HS.out hB)
      have HRe := Lib.hid hO.re
      have HNS := Lib.hid (show ∀ g o, ql = some ⟨g, o, none⟩ → ¬ S w2 g from fun g o e h => by
        have h1 := (hO.lt g (by rw [e]; rfl)).1
        have h2 := HEd.out.s g (HS.out _ _ hB HEd.out.s g h)
        omega)
      have HJ2 := Lib.hid (HJ.out pre wr w2 none HJr.out (grown_of_below hB) (fun r e => by cases e))
      obtain ⟨nl, hnl⟩ : ∃ nl, (nxt code (i : Int)).length = nl := ⟨_, rfl⟩
      rw [hnl] at HRe ⊢
      have HNL := Lib.hid hnl
      have hnl2 : nl ≤ 2 := by rw [← hnl]; exact nxt_len _ _
      have HP2 := Lib.hid (show pre = edgK code i ++ ((nxt code (i : Int)).take 0).map fun (b : Nat) => (i, b) by simpa using HP.out)
      clear hO hB d0 d1 d2 d3 d4 d5 HJr HEd HP hnl
      gi_wp2
      gi_loopw [16] (fun t wi => ∃ (pre' : List (Nat × Nat)) (ii : Nat), ii ≤ nl ∧ t = .int .i64 ii ∧ Hid (pre' = edgK code i ++ ((nxt code (i : Int)).take ii).map fun (b : Nat) => (i, b)) ∧ Hid (Ed lv qp np cp qr nr cr lo stk qc nc cc S b0 code wi) ∧ Hid (ReI (wC wi) (.slice ql nl cl) (nxt code (i : Int))) ∧ Hid (∀ g o, ql = some ⟨g, o, none⟩ → ¬ S wi g) ∧ Hid (J pre' wi)) (fun t _ => nl - (intOf t).toNat)
      case atStart => exact ⟨pre, 0, by omega, rfl, HP2, HEd2, HRe, HNS, HJ2⟩
      case round =>
        clear HP2 HEd2 HRe HNS HJ2
        obtain ⟨pre', ii, hii, rfl, HP, HEd, HRe, HNS, HJr⟩ := hrel
        by_cases hlt2 : ii < nl
        · obtain ⟨-, -, -, hat⟩ := HRe.out.at
          obtain ⟨g, o, rfl, hx⟩ := hat ii (by rw [HNL.out]; exact hlt2)
          have hx' : wr.cell? ⟨g, o + ii, none⟩ = some (.int .i64 (((nxt code (i : Int)).getD ii 0 : Nat) : Int)) := hx
          have hxs : (nxt code (i : Int)).take (ii + 1) = (nxt code (i : Int)).take ii ++ [(nxt code (i : Int)).getD ii 0] := by
            have : ii < (nxt code (i : Int)).length := by rw [HNL.out]; exact hlt2
            rw [List.take_succ_eq_append_getElem this]
            simp [this]
          generalize (nxt code (i : Int)).getD ii 0 = x at hx' hxs hx
          have hroom : pre'.length < NN := by
            rw [HP.out, ← HNN.out]
            exact edgK_room (by rw [HN.out]; exact hlt) (by rw [HNL.out]; exact hlt2)
          obtain ⟨fn, tmps, assign, body, hy, hR⟩ := hY pre' (i, x) wr HJr.out hroom
          have HP2 := Lib.hid (show pre' ++ [(i, x)] = edgK code i ++ ((nxt code (i : Int)).take (ii + 1)).map fun (b : Nat) => (i, b) by rw [hxs, List.map_append, HP.out, List.append_assoc]; rfl)
          have hii2 : (ii : Int) < (nl : Int) := by omega
          clear hat hxs hroom hx
          dsimp only at hy hR
          gi_wp2
          refine ⟨(fun h => by cases h), hR.mono ?_⟩
          have hgl : g < wr.heap.size := World.block_lt_of_cell? _ _ hx'
          rintro e W3 (⟨rfl, hJ3, hk3⟩ | ⟨rfl, hJx3⟩)
          · have HEd3 := Lib.hid (HEd.out.kept hk3)
            have HRe3 := Lib.hid (reI_kept HRe.out hk3 (HNS.out g o rfl))
            have HNS3 := Lib.hid (show ∀ g' o', (some ⟨g, o, none⟩ : Option Addr) = some ⟨g', o', none⟩ → ¬ S W3 g' from fun g' o' e h => by
              injection e with e; injection e with e _ _; subst e
              rcases hk3.set _ h with h | h
              · exact HNS.out g o rfl h
              · omega)
            have HJ3 := Lib.hid hJ3
            clear hk3 hJ3 HEd HRe HNS HJr hx' HP hR hy
            gi_wp2
            exact ⟨⟨pre' ++ [(i, x)], ii + 1, by omega, by go_num, HP2, HEd3, HRe3, HNS3, HJ3⟩, by simp [intOf]; omega⟩
          · clear HEd HRe HNS HJr hx' HP hR hy
            gi_wp2
            refine bodyPost_ret (results_none rfl _ _ _) rfl ?_
            exact ⟨⟨_, rfl⟩, .inr ⟨pre' ++ [(i, x)], trivial, hJx3⟩⟩
        · obtain rfl : ii = nl := by omega
          have HP2 := Lib.hid (show pre' = edgK code (i + 1) by rw [HP.out, edgK_succ, List.take_of_length_le (by rw [HNL.out]; exact Nat.le_refl _)])
          clear HP HRe HNS
          gi_wp2
          exact ⟨⟨pre', i + 1, by omega, by go_num, HP2, HEd, HJr.out⟩, by simp [intOf]; omega⟩
    · obtain rfl : i = nc := by omega
      gi_wp2
      go_end0
      exact ⟨⟨_, rfl⟩, .inl ⟨pre, by rw [HN.out]; exact HP.out, hJr⟩⟩
end
end Go.Proofs.Ythgcnlccikpmaaa
