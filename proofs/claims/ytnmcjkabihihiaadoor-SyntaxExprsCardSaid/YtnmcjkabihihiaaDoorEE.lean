/- slices.Backward's sequence over a row of numbers. -/
import Derived.Test.YtnmcjkabihihiaaDoorED
import Derived.OwnWalkIn
import Derived.RangeFuncCalls
import Derived.RangeFuncLeaves
import Derived.LoopNIn
import Derived.LoopIn
namespace Go.Proofs.YtnmcjkabihihiaaDoor
open Go Go.RowKit Go.Proofs.Mm

/-- A row of numbers lies at q; the box at Bx holds it. -/
def NumsAt (w : World) (q : Option Addr) (ops : List Nat) : Prop :=
  ∀ j (h : j < ops.length), ∃ g cur, q = some ⟨g, 0, none⟩ ∧ w.heap[g]? = some (.cells cur 3 (0, 0)) ∧ cur[j]? = some (.int .i64 (ops[j] : Nat))
/-- The blocks of a row and of its box are kept. -/
def KpB (Bx : Nat) (q : Option Addr) (A B : World) : Prop := B.heap[Bx]? = A.heap[Bx]? ∧ ∀ a, q = some a → B.heap[a.block]? = A.heap[a.block]?
theorem NumsAt.kept {A B : World} {Bx : Nat} {q : Option Addr} {ops : List Nat} (h : NumsAt A q ops) (hk : KpB Bx q A B) : NumsAt B q ops := fun j hj => by
  obtain ⟨g, cur, h1, h2, h3⟩ := h j hj
  exact ⟨g, cur, h1, (hk.2 _ h1).trans h2, h3⟩
theorem NumsAt.below {A B : World} {q : Option Addr} {ops : List Nat} (h : NumsAt A q ops) (hb : Below A.heap.size A B) : NumsAt B q ops := fun j hj => by
  obtain ⟨g, cur, h1, h2, h3⟩ := h j hj
  exact ⟨g, cur, h1, (hb.block g (heap_lt h2)).trans h2, h3⟩
theorem cast_sub_one (k : Nat) : (((k + 1 : Nat) : Int) - 1) = (k : Int) := by omega

set_option maxRecDepth 100000 in
set_option maxHeartbeats 1000000 in
theorem back_stops (n Bx : Nat) (q : Option Addr) (c : Nat) (ops : List Nat) (hlen : ops.length ≤ 131072) (w : World) (hB : w.heap[Bx]? = some (.cells #[.slice q ops.length c] 82 (0, 0))) (hN : NumsAt w q ops) :
    SeqStopsK Fence.wide n Tryd.prog 52 #[.pointer (some ⟨Bx, 0, none⟩)] (fun x : Nat × Nat => #[Value.int .i64 (x.1 : Int), Value.int .i64 (x.2 : Int)]) (KpB Bx q) (fun xs => xs.map Prod.snd = ops.reverse) (fun _ => True) ops.length w := by
  intro l J Jx W hW _ _ hY h0
  have hB1 := (hW.block Bx (heap_lt hB)).trans hB
  have hN1 := hN.below hW
  clear hB hN hW
  have hc0 := cell_of (j := 0) hB1 rfl
  obtain ⟨m0, hm0⟩ : ∃ m0, ops.length = m0 := ⟨_, rfl⟩
  rw [hm0] at hc0 hlen hY
  have HM := Lib.hid hm0
  clear hm0
  refine callsIn_of_wp Tryd.func52 rfl trivial ?_ rfl
  simp only [Tryd.ntmps52, List.size_toArray, List.length_cons, List.length_nil, Nat.reduceAdd, Nat.reduceSub, Array.replicate_succ, Array.replicate_zero, List.push_toArray, List.append_toArray, List.nil_append, List.cons_append]
  gi_wp2
  gi_loopw [3] (fun t wr => ∃ (pre : List (Nat × Nat)) (m : Nat), m ≤ m0 ∧ t = .int .i64 ((m : Int) - 1) ∧ Hid (pre.map Prod.snd = (ops.drop m).reverse) ∧ wr.heap[Bx]? = some (.cells #[.slice q m0 c] 82 (0, 0)) ∧ NumsAt wr q ops ∧ J pre wr)
    (fun t _ => (intOf t + 1).toNat)
  case atStart =>
    exact ⟨[], m0, Nat.le_refl _, rfl, Lib.hid (by rw [← HM.out]; simp), by rw [← HM.out]; exact hB1, hN1, h0⟩
  case round =>
    obtain ⟨pre, m, hm, rfl, HP, hBr, hNr, hJr⟩ := hrel
    clear hB1 hN1 h0 hc0
    have hcr := cell_of (j := 0) hBr rfl
    cases m with
    | zero =>
      gi_wp2
      go_end0
      exact ⟨⟨_, rfl⟩, .inl ⟨pre, by have := HP.out; simpa using this, hJr⟩⟩
    | succ k =>
      have hk : k < ops.length := by rw [HM.out]; omega
      obtain ⟨g, cur, rfl, hg, hcur⟩ := hNr k hk
      have hck := cell_of hg hcur
      have hpl : pre.length < m0 := by
        have h1 := congrArg List.length HP.out
        simp only [List.length_map, List.length_reverse, List.length_drop] at h1
        have := HM.out
        omega
      obtain ⟨fn, tmps, assign, body, hy, hR⟩ := hY pre (k, ops[k]) wr hJr hpl
      have HP2 := Lib.hid (show (pre ++ [(k, ops[k])]).map Prod.snd = (ops.drop k).reverse from by
        rw [List.map_append, HP.out, List.drop_eq_getElem_cons hk, List.reverse_cons]; rfl)
      have hNr2 := Lib.hid hNr
      have hBr2 := Lib.hid hBr
      clear HP hpl hcur hg hJr hNr hBr
      generalize ops[k] = ok at *
      rw [cast_sub_one]
      gi_wp2
      refine ⟨(fun h => by cases h), hR.mono ?_⟩
      rintro e W3 (⟨rfl, hJ3, hk3⟩ | ⟨rfl, hJx3⟩)
      · have hB3 := Lib.hid (hk3.1.trans hBr2.out)
        have hN3 := Lib.hid (hNr2.out.kept hk3)
        clear hk3
        gi_wp2
        exact ⟨⟨pre ++ [(k, ok)], k, by omega, rfl, HP2, hB3.out, hN3.out, hJ3⟩, by simp [intOf]⟩
      · gi_wp2
        refine bodyPost_ret (results_none rfl _ _ _) rfl ?_
        exact ⟨⟨_, rfl⟩, .inr ⟨pre ++ [(k, ok)], trivial, hJx3⟩⟩
end Go.Proofs.YtnmcjkabihihiaaDoor
