/- The law's code: a function of operations and operands. -/
import Derived.Test.YthgcnlccikpmaaaGrE
import Derived.Test.YthgcnlccikpmaaaGrKb
import Derived.Test.YthgcnlccikpmaaaCoLc
namespace Go.Proofs.Ythgcnlccikpmaaa
open Go Go.RowKit Go.Proofs.Mm
theorem step_mstI {o : Oper} {a : Act} {K : Act → World → Prop} {Q : Exit → Act → World → Prop} {w : World} (s x : Operand)
    (ho : o.op = .call { callee := .builtin .append, args := #[s, x], argTypes := #[25, 25] })
    (B : Nat) (v : Value) (n : Nat) (xs : List Value) (hs : a.eval s = v) (hown : w.ownsRow B 46 2 v n xs)
    (ad : Addr) (c : Nat) (u1 u2 : Value) (hx : a.eval x = .slice (some ad) 1 c) (hnews : ∀ j y, [u1, u2][j]? = some y → w.cell? (ad.add j) = some y) (h1 : u1.oneCell' = true) (h1' : u2.oneCell' = true)
    (hb : (n + 1) * 16 ≤ 140737488355328) (hbase : B ≤ w.heap.size)
    (h : ∀ v' w', w'.ownsRow B 46 2 v' (n + 1) (xs ++ [u1, u2]) → Mst w w' v v' → K (a.put o.dst v') w') : Oper.wp Try.prog o a w K Q := by
  obtain ⟨i, h2, h3, h4, h5⟩ := infoI
  obtain ⟨v', w', hr, r1, r2⟩ := run_append_most (P := Try.prog) w B 25 o.type 46 i (.agg #[.int .i64 0, .int .i64 0]) 2 16 und_I h2 h3 h4 h5 rfl (by omega) v n xs hown ad 1 c [u1, u2] rfl hnews (by
    intro y hy
    rcases List.mem_cons.1 hy with rfl | hy
    · exact h1
    · rw [List.mem_singleton.1 hy]; exact h1') (by unfold maxLen; omega) (by omega) hbase
  unfold Oper.wp execOp
  simp only [ho, resolve, invoke, builtin, Sem.run_bind, Sem.run_pure, Result.andThen_ok, List.map_toArray, List.map_cons, List.map_nil, hs, hx, hr]
  exact h v' w' r1 r2
theorem wrap_i64 (n : Int) : IntKind.i64.wrap n = wrap64 n := by
  unfold wrap64 IntKind.wrap
  simp [IntKind.bits, IntKind.signed] <;> omega
theorem wrapI_id {x : Int} (h1 : -9223372036854775808 ≤ x) (h2 : x < 9223372036854775808) : IntKind.i64.wrap x = x := by
  rw [wrap_i64]
  unfold wrap64
  omega
def cC (l : Cd) : List Value := l.flatMap fun x => [Value.int .i64 x.1, .int .i64 x.2]
theorem cC_snoc (l : Cd) (x : Int × Int) : cC (l ++ [x]) = cC l ++ [Value.int .i64 x.1, .int .i64 x.2] := by simp [cC]
theorem news_two {W : World} {b : Nat} {u1 u2 : Value} {T : TypeId} (hb : W.heap.size = b) : ∀ j y, [u1, u2][j]? = some y → (W.alloc (.cells #[u1, u2] T)).cell? ((⟨b, 0, none⟩ : Addr).add j) = some y := by
  subst hb
  exact row_new W [u1, u2] T
/-- The numbers of a code, one behind another. -/
def nmC (l : Cd) : List Int := l.flatMap fun x => [x.1, x.2]
abbrev fZ (v : Value) : Array Value := #[.int .u64 0, .slice none 0 0, .slice none 0 0, .int .i64 0, .int .i64 0, v]
theorem own_neG {B b size n : Nat} {E : TypeId} {w : World} {v : Value} {xs : List Value} {cs : Array Value} {T : TypeId} (h : w.ownsRow B E size v n xs) (hi : InB w b cs T) (hT : T ≠ E) : v.ownBlock ≠ some b := own_neT h hi hT
set_option maxRecDepth 100000 in
set_option maxHeartbeats 2000000 in
theorem code_any {w : World} {q : Option Addr} {c : Nat} (l : Cd) (hl : l.length ≤ 100) (hq : ∀ j, j < l.length → ∃ g o, q = some ⟨g, o, none⟩ ∧ w.cell? ⟨g, o + 2 * j, none⟩ = some (.int .i64 (l.getD j (0, 0)).1) ∧ w.cell? ⟨g, o + (2 * j + 1), none⟩ = some (.int .i64 (l.getD j (0, 0)).2)) :
    Calls Try.prog 23 #[.slice q (2 * l.length) c] w fun e w' => ∃ v, e = .returned (.agg (fZ v)) ∧ w'.ownsRow w.heap.size 46 2 v l.length (cC l) ∧ Below w.heap.size w w' := by
  obtain ⟨n, hn⟩ : ∃ n, l.length = n := ⟨_, rfl⟩
  have HN := Lib.hid hn
  have HQ := Lib.hid hq
  rw [hn] at hl ⊢
  obtain ⟨ln, hln⟩ : ∃ ln, 2 * n = ln := ⟨_, rfl⟩
  have HLN := Lib.hid hln
  rw [hln]
  have hln2 : ln ≤ 200 := by omega
  clear hn hq hln
  go_enter Try.func23, Try.ntmps23
  go_wp2
  go_loopw [4] (fun i wr => ∃ (k e : Nat) (v : Value), k ≤ n ∧ i = .int .i64 (e : Nat) ∧ Hid (e = 2 * k) ∧ Hid (InB wr w.heap.size (fZ (.slice none 0 0)) 27) ∧ Hid (InB wr (w.heap.size + 1) (fZ v) 27) ∧ Hid (wr.ownsRow w.heap.size 46 2 v k (cC (l.take k))) ∧ Hid (Below w.heap.size w wr)) (fun i _ => ln - (intOf i).toNat)
  case atStart => exact ⟨0, 0, .slice none 0 0, by omega, rfl, Lib.hid rfl, Lib.hid (heap_new _ _ (InB.new _ _ _)), Lib.hid (InB.new' _ _ (by simp)), Lib.hid (World.ownsRow_nil _ _ _ _), Lib.hid (bl_al (bl_al (Below.refl _ w) _) _)⟩
  case round =>
    obtain ⟨k, e, v, hk, rfl, HE, H0, H1, HO, HB⟩ := hrel
    obtain ⟨qv, cv, rfl⟩ := own_shape HO.out
    have c5 := H1.out.cell (j := 5) (v := .slice qv k cv) rfl
    by_cases hlt : k < n
    · obtain ⟨g, o, rfl, x1, x2⟩ := HQ.out k (by rw [HN.out]; exact hlt)
      have y1 := cell_b x1 HB.out
      have y2 := cell_b x2 HB.out
      rw [← HE.out] at y1 y2
      have hi1 : (e : Int) + 1 < (ln : Int) := by have := HE.out; have := HLN.out; omega
      have hi0 : (e : Int) < (ln : Int) := by omega
      clear x1 x2
      have hpre : l.take (k + 1) = l.take k ++ [l.getD k (0, 0)] := by
        have hkl : k < l.length := by rw [HN.out]; exact hlt
        rw [List.take_succ_eq_append_getElem hkl]
        simp [hkl]
      have HP := Lib.hid (show cC (l.take (k + 1)) = cC (l.take k) ++ [.int .i64 (l.getD k (0, 0)).1, .int .i64 (l.getD k (0, 0)).2] by rw [hpre, cC_snoc])
      generalize (l.getD k (0, 0)).1 = z1 at y1 HP
      generalize (l.getD k (0, 0)).2 = z2 at y2 HP
      clear hpre
      have hl1 := H1.out.lt
      have ht1 : ((e : Int) + 1).toNat = e + 1 := by omega
      have ht2 : 0 ≤ (e : Int) + 1 := by omega
      have hwr : IntKind.i64.wrap ((e : Int) + 1) = (e : Int) + 1 := wrapI_id (by omega) (by omega)
      have hgl := World.block_lt_of_cell? _ _ y1
      have hsz := HB.out.size
      go_wp2
      go_region_law
        (refine step_mstI (.tmp 13) (.tmp 24) rfl w.heap.size (.slice qv k cv) k (cC (l.take k)) (by rfl) (World.ownsRow.alloc (show wr.drew.ownsRow _ _ _ _ _ _ from HO.out) _) ⟨_, 0, none⟩ 1 (.int .i64 z1) (.int .i64 z2) (by rfl) (news_two rfl) rfl rfl (by omega) (by simp; omega) ?_
         intro v' w' hO2 hM
         obtain ⟨q', c', rfl⟩ := own_shape hO2
         have hH0 : InB w' w.heap.size (fZ (.slice none 0 0)) 27 := hM.inB (heap_new _ _ (show InB wr.drew _ _ _ from H0.out)) (own_neT HO.out H0.out (by decide))
         have hH1 : InB w' (w.heap.size + 1) (fZ (.slice qv k cv)) 27 := hM.inB (heap_new _ _ (show InB wr.drew _ _ _ from H1.out)) (own_neT HO.out H1.out (by decide))
         have hC : Chg (fun j => j = w.heap.size + 1) w' (w'.setCell ⟨w.heap.size + 1, 5, none⟩ (.slice q' (k + 1) c')) := (Chg.refl (fun j => j = w.heap.size + 1) w').setCell (.inl rfl) _
         have HF := Lib.hid (show InB (w'.setCell ⟨w.heap.size + 1, 5, none⟩ (.slice q' (k + 1) c')) w.heap.size (fZ (.slice none 0 0)) 27 ∧ InB (w'.setCell ⟨w.heap.size + 1, 5, none⟩ (.slice q' (k + 1) c')) (w.heap.size + 1) (fZ (.slice q' (k + 1) c')) 27 ∧ (w'.setCell ⟨w.heap.size + 1, 5, none⟩ (.slice q' (k + 1) c')).ownsRow w.heap.size 46 2 (.slice q' (k + 1) c') (k + 1) (cC (l.take (k + 1))) ∧ Below w.heap.size w (w'.setCell ⟨w.heap.size + 1, 5, none⟩ (.slice q' (k + 1) c')) from
           ⟨heap_other hH0 (by omega), heap_set hH1 5 _, own_chg (by rw [HP.out]; exact hO2) hC (fun j hj e => own_neT hO2 hH1 (by decide) (by rw [hj, e])), (hM.below ((show Below w.heap.size w wr.drew from ⟨HB.out.os, HB.out.tape, HB.out.output, HB.out.size, HB.out.block⟩).alloc (by simp; omega) _) (by simp; omega) (fun j e => (HO.out.lt j e).1)).setCell (by simp) _⟩)
         have t5 := hH1.cell (j := 5) (v := .slice qv k cv) rfl
         have f5 := hH1.free 5
         clear hO2 hM hH0 hH1 hC)
      all_goals
        go_wp2
        exact ⟨⟨k + 1, e + 2, _, by omega, by go_num, Lib.hid (by have := HE.out; omega), Lib.hid HF.out.1, Lib.hid HF.out.2.1, Lib.hid HF.out.2.2.1, Lib.hid HF.out.2.2.2⟩, by have := HE.out; have := HLN.out; simp [intOf]; omega⟩
    · obtain rfl : k = n := by omega
      have hall : l.take k = l := List.take_of_length_le (by rw [HN.out]; exact Nat.le_refl _)
      have h0 := H0.out
      have h1 := H1.out
      have hge : ¬ ((e : Int) + 1 < (ln : Int)) := by have := HE.out; have := HLN.out; omega
      rw [hall] at HO
      have hee : (e : Int) ≤ 200 := by have := HE.out; omega
      have k0 := h1.cell (j := 0) rfl
      have k1 := h1.cell (j := 1) rfl
      have k2 := h1.cell (j := 2) rfl
      have k3 := h1.cell (j := 3) rfl
      have k4 := h1.cell (j := 4) rfl
      have z0 := h0.cell (j := 0) rfl
      have z1 := h0.cell (j := 1) rfl
      have z2 := h0.cell (j := 2) rfl
      have z3 := h0.cell (j := 3) rfl
      have z4 := h0.cell (j := 4) rfl
      have z5 := h0.cell (j := 5) rfl
      have l0 := h0.free 0
      have l1 := h0.free 1
      have l2 := h0.free 2
      have l3 := h0.free 3
      have l4 := h0.free 4
      have l5 := h0.free 5
      clear h1
      go_wp2
      (try simp only [Exit.inBlock, Exit.then])
      obtain ⟨d9, u1, u2⟩ := undFn
      have hx3 := heap_set (heap_set (heap_set (heap_set (heap_set (heap_set h0 0 (.int .u64 0)) 1 (.slice none 0 0)) 2 (.slice none 0 0)) 3 (.int .i64 0)) 4 (.int .i64 0)) 5 (.slice qv k cv)
      refine bodyPost_ret (v := .agg (fZ (.slice qv k cv))) ?_ rfl ?_
      · exact results_cell_row rfl _ _ w.heap.size 27 (fZ (.slice qv k cv)) (0,0) d9 rfl hx3 u1 (by cases d9 <;> first | rfl | cases u2) sizeFn
      have hC : ∀ (W : World) i v, Chg (fun j => j = w.heap.size) W (W.setCell ⟨w.heap.size, i, none⟩ v) := fun W i v => (Chg.refl (fun j => j = w.heap.size) W).setCell (.inl rfl) _
      have hne : ∀ j, (Value.slice qv k cv).ownBlock = some j → ¬ j = w.heap.size := fun j hj e => own_neT HO.out h0 (by decide) (by rw [hj, e])
      refine ⟨.slice qv k cv, rfl, own_chg (own_chg (own_chg (own_chg (own_chg (own_chg HO.out (hC _ 0 _) hne) (hC _ 1 _) hne) (hC _ 2 _) hne) (hC _ 3 _) hne) (hC _ 4 _) hne) (hC _ 5 _) hne, ?_⟩
      exact (((((HB.out.setCell (Nat.le_refl _) _).setCell (Nat.le_refl _) _).setCell (Nat.le_refl _) _).setCell (Nat.le_refl _) _).setCell (Nat.le_refl _) _).setCell (Nat.le_refl _) _
end Go.Proofs.Ythgcnlccikpmaaa
