/- The sequence of all edges, with what the second node is. -/
import Derived.Test.YthgcnlccikpmaaaGrO
namespace Go.Proofs.Ythgcnlccikpmaaa
open Go Go.RowKit Go.Proofs.Mm
abbrev Eg (n : Nat) := { x : Nat × Nat // x.2 < n + 1 }
section
variable (lv : Int) (qp : Option Addr) (np cp : Nat) (qr : Option Addr) (nr cr : Nat) (lo stk : Int) (qc : Option Addr) (nc cc : Nat)
set_option maxRecDepth 100000 in
set_option maxHeartbeats 2000000 in
theorem edges_stopsB (n : Nat) {S : World → Nat → Prop} {b0 : Nat} {code : Cd} {w : World} (hS : ∀ A B : World, Below A.heap.size A B → (∀ k, S A k → k < A.heap.size) → ∀ k, S B k → S A k) (hE : Ed lv qp np cp qr nr cr lo stk qc nc cc S b0 code w) (hn : code.length = nc) (hm : nc ≤ cc) (hm2 : cc ≤ maxLen) (hnc : nc ≤ 1000) :
    SeqStopsK Fence.wide n Try.prog 40 #[.pointer (some ⟨b0, 0, none⟩)] (fun x : Eg nc => #[Value.int .i64 (x.1.1 : Nat), Value.int .i64 (x.1.2 : Nat)]) (KpS S) (fun xs => xs.map Subtype.val = edgK code code.length) (fun _ => True) (edgK code code.length).length w := by
  intro l J Jx W hW hJ _ hY h0
  have HE := Lib.hid (hE.later hS hW)
  have HX := Lib.hid (fun (W' : World) (h : InAt (wC W') qc code) (k : Int) => next_any lv qp np cp qr nr cr lo stk qc nc cc h hn hm hm2 k)
  have HJ := Lib.hid hJ
  have HS := Lib.hid hS
  have HN := Lib.hid hn
  obtain ⟨NN, hNN⟩ : ∃ NN, (edgK code code.length).length = NN := ⟨_, rfl⟩
  rw [hNN] at hY
  have HNN := Lib.hid hNN
  have c5 := HE.out.f 5 _ rfl
  clear hW hJ hS hn hm hm2 hE hNN
  refine callsIn_of_wp Try.func40 rfl trivial ?_ rfl
  simp only [Try.ntmps40, List.size_toArray, List.length_cons, List.length_nil, Nat.reduceAdd, Nat.reduceSub, Array.replicate_succ, Array.replicate_zero, List.push_toArray, List.append_toArray, List.nil_append, List.cons_append]
  gi_wp2
  gi_loopw [9] (fun t wr => ∃ (pre : List (Eg nc)) (i : Nat), i ≤ nc ∧ t = .int .i64 i ∧ Hid (pre.map Subtype.val = edgK code i) ∧ Hid (Ed lv qp np cp qr nr cr lo stk qc nc cc S b0 code wr) ∧ J pre wr) (fun t _ => nc - (intOf t).toNat)
  case atStart => exact ⟨[], 0, by omega, rfl, Lib.hid rfl, HE, h0⟩
  case round =>
    obtain ⟨pre, i, hi, rfl, HP, HEd, hJr⟩ := hrel
    clear HE h0 c5
    by_cases hlt : i < nc
    · have hii : (i : Int) < (nc : Int) := by omega
      have d0 := HEd.out.f 0 _ rfl
      have d1 := HEd.out.f 1 _ rfl
      have d2 := HEd.out.f 2 _ rfl
      have d3 := HEd.out.f 3 _ rfl
      have d4 := HEd.out.f 4 _ rfl
      have d5 := HEd.out.f 5 _ rfl
      have HJr := Lib.hid hJr
      clear hJr
      gi_wp2
      refine ⟨trivial, (fun h => by cases h), (callsIn_wide.2 (HX.out wr HEd.out.c (i : Int))).mono ?_⟩
      rintro e w2 ⟨vl, rfl, hO, hB⟩
      obtain ⟨ql, cl, rfl⟩ := own_shape hO
      have HEd2 := Lib.hid (HEd.out.later HS.out hB)
      have HRe := Lib.hid hO.re
      have HNS := Lib.hid (show ∀ g o, ql = some ⟨g, o, none⟩ → ¬ S w2 g from fun g o e h => by
        have h1 := (hO.lt g (by rw [e]; rfl)).1
        have h2 := HEd.out.s g (HS.out _ _ hB HEd.out.s g h)
        omega)
      have HJ2 := Lib.hid (HJ.out pre wr w2 none HJr.out (grown_of_below hB) (fun r e => by cases e))
      obtain ⟨nl, hnl⟩ : ∃ nl, (nxt code (i : Int)).length = nl := ⟨_, rfl⟩
      rw [hnl] at HRe ⊢
      have HNL := Lib.hid hnl
      have hnl2 : nl ≤ 2 := by rw [← hnl]; exact nxt_len _ _
      have HP2 := Lib.hid (show pre.map Subtype.val = edgK code i ++ ((nxt code (i : Int)).take 0).map fun (b : Nat) => (i, b) by simpa using HP.out)
      clear hO hB d0 d1 d2 d3 d4 d5 HJr HEd HP hnl
      gi_wp2
      gi_loopw [16] (fun t wi => ∃ (pre' : List (Eg nc)) (ii : Nat), ii ≤ nl ∧ t = .int .i64 ii ∧ Hid (pre'.map Subtype.val = edgK code i ++ ((nxt code (i : Int)).take ii).map fun (b : Nat) => (i, b)) ∧ Hid (Ed lv qp np cp qr nr cr lo stk qc nc cc S b0 code wi) ∧ Hid (ReI (wC wi) (.slice ql nl cl) (nxt code (i : Int))) ∧ Hid (∀ g o, ql = some ⟨g, o, none⟩ → ¬ S wi g) ∧ Hid (J pre' wi)) (fun t _ => nl - (intOf t).toNat)
      case atStart => exact ⟨pre, 0, by omega, rfl, HP2, HEd2, HRe, HNS, HJ2⟩
      case round =>
        clear HP2 HEd2 HRe HNS HJ2
        obtain ⟨pre', ii, hii, rfl, HP, HEd, HRe, HNS, HJr⟩ := hrel
        by_cases hlt2 : ii < nl
        · obtain ⟨-, -, -, hat⟩ := HRe.out.at
          obtain ⟨g, o, rfl, hx⟩ := hat ii (by rw [HNL.out]; exact hlt2)
          have hx' : wr.cell? ⟨g, o + ii, none⟩ = some (.int .i64 (((nxt code (i : Int)).getD ii 0 : Nat) : Int)) := hx
          have hxs : (nxt code (i : Int)).take (ii + 1) = (nxt code (i : Int)).take ii ++ [(nxt code (i : Int)).getD ii 0] := by
            have : ii < (nxt code (i : Int)).length := by rw [HNL.out]; exact hlt2
            rw [List.take_succ_eq_append_getElem this]
            simp [this]
          have hxn : ((nxt code (i : Int)).getD ii 0) < nc + 1 := by
            have h1 : ii < (nxt code (i : Int)).length := by rw [HNL.out]; exact hlt2
            have h2 : (nxt code (i : Int)).getD ii 0 ∈ nxt code (i : Int) := by rw [List.getD_eq_getElem?_getD, List.getElem?_eq_getElem h1, Option.getD_some]; exact List.getElem_mem _
            have := nxt_lt h2; rw [HN.out] at this; exact this
          generalize (nxt code (i : Int)).getD ii 0 = x at hx' hxs hx hxn
          have hroom : pre'.length < NN := by
            rw [← List.length_map (f := Subtype.val), HP.out, ← HNN.out]
            exact edgK_room (by rw [HN.out]; exact hlt) (by rw [HNL.out]; exact hlt2)
          obtain ⟨fn, tmps, assign, body, hy, hR⟩ := hY pre' ⟨(i, x), hxn⟩ wr HJr.out hroom
          have HP2 := Lib.hid (show (pre' ++ [(⟨(i, x), hxn⟩ : Eg nc)]).map Subtype.val = edgK code i ++ ((nxt code (i : Int)).take (ii + 1)).map fun (b : Nat) => (i, b) by rw [hxs, List.map_append, List.map_append, HP.out, List.append_assoc]; rfl)
          have hii2 : (ii : Int) < (nl : Int) := by omega
          clear hat hxs hroom hx
          dsimp only at hy hR
          gi_wp2
          refine ⟨(fun h => by cases h), hR.mono ?_⟩
          have hgl : g < wr.heap.size := World.block_lt_of_cell? _ _ hx'
          rintro e W3 (⟨rfl, hJ3, hk3⟩ | ⟨rfl, hJx3⟩)
          · have HEd3 := Lib.hid (HEd.out.kept hk3)
            have HRe3 := Lib.hid (reI_kept HRe.out hk3 (HNS.out g o rfl))
            have HNS3 := Lib.hid (show ∀ g' o', (some ⟨g, o, none⟩ : Option Addr) = some ⟨g', o', none⟩ → ¬ S W3 g' from fun g' o' e h => by
              injection e with e; injection e with e _ _; subst e
              rcases hk3.set _ h with h | h
              · exact HNS.out g o rfl h
              · omega)
            have HJ3 := Lib.hid hJ3
            clear hk3 hJ3 HEd HRe HNS HJr hx' HP hR hy
            gi_wp2
            exact ⟨⟨pre' ++ [⟨(i, x), hxn⟩], ii + 1, by omega, by go_num, HP2, HEd3, HRe3, HNS3, HJ3⟩, by simp [intOf]; omega⟩
          · clear HEd HRe HNS HJr hx' HP hR hy
            gi_wp2
            refine bodyPost_ret (results_none rfl _ _ _) rfl ?_
            exact ⟨⟨_, rfl⟩, .inr ⟨pre' ++ [⟨(i, x), hxn⟩], trivial, hJx3⟩⟩
        · obtain rfl : ii = nl := by omega
          have HP2 := Lib.hid (show pre'.map Subtype.val = edgK code (i + 1) by rw [HP.out, edgK_succ, List.take_of_length_le (by rw [HNL.out]; exact Nat.le_refl _)])
          clear HP HRe HNS
          gi_wp2
          exact ⟨⟨pre', i + 1, by omega, by go_num, HP2, HEd, HJr.out⟩, by simp [intOf]; omega⟩
    · obtain rfl : i = nc := by omega
      gi_wp2
      go_end0
      exact ⟨⟨_, rfl⟩, .inl ⟨pre, by rw [HN.out]; exact HP.out, hJr⟩⟩
end
end Go.Proofs.Ythgcnlccikpmaaa
