/- Going over a graph: visited. -/
import Derived.Test.YthgcnlccikpmaaaGrKb
import Derived.WalkMore
namespace Go.Proofs.Ythgcnlccikpmaaa
open Go Go.RowKit Go.Proofs.Mm
theorem mk_bools (n : Nat) (hn : n ≤ 1000000) (w : World) : (Instr.makeSlice 35 (.int .i64 (n : Int)) (.int .i64 (n : Int))).run Try.prog w = .ok (.slice (some ⟨w.heap.size, 0, none⟩) n n) (w.alloc (.cells (cB (List.replicate n false)).toArray 4)) := by
  obtain ⟨i, hi, hz, hs, hb⟩ := (infoOf (by kernel_rfl) : ∃ i, Try.prog.info? 4 = some i ∧ i.zero = some (.bool false) ∧ i.size = 1 ∧ i.bytes = 1)
  have := run_makeSlice (P := Try.prog) w 35 4 i (.bool false) Try.underlying35 hi hz .i64 .i64 (n : Int) (n : Int) (by omega) (Int.le_refl _) (by rw [hs]; omega) (by rw [hb]; omega) (by omega)
  rw [hs, Nat.mul_one] at this
  rw [show (cB (List.replicate n false)).toArray = madeCells #[.bool false] n from by rw [← Array.toList_inj, toList_madeCells_one]; simp [cB]]
  simpa [Value.cells] using this
theorem wrap64_id {x : Int} (h1 : -9223372036854775808 ≤ x) (h2 : x < 9223372036854775808) : wrap64 x = x := by
  unfold wrap64
  omega
theorem own_at {w : World} {B n c g j : Nat} {E : TypeId} {xs : List Value} {u : Value} (h : w.ownsRow B E 1 (.slice (some ⟨g, 0, none⟩) n c) n xs) (hu : xs[j]? = some u) : w.cell? ⟨g, j, none⟩ = some u ∧ w.frozen? ⟨g, j, none⟩ = false := by
  rcases own_rd h with ⟨h1, _⟩ | ⟨g', e, hc⟩
  · cases h1
  · injection e with e; injection e with e _ _; subst e
    exact ⟨hc j u hu, World.ownsRow.frozenAt h j⟩
theorem ReI.drop {C : Cl} {g o n c k : Nat} {l : List Nat} (h : ReI C (.slice (some ⟨g, o, none⟩) n c) l) (hk : k ≤ n) : ReI C (.slice (some ⟨g, o + k, none⟩) (n - k) (c - k)) (l.drop k) := by
  obtain ⟨q', c', e, h1, h2, h3⟩ := h
  injection e with e1 e2 e3
  subst e1 e2 e3
  refine ⟨_, _, by rw [List.length_drop], by rw [List.length_drop]; omega, by omega, ?_⟩
  rcases h3 with h3 | ⟨g', o', e, h3⟩
  · left
    have : l = [] := by unfold cI at h3; simpa using h3
    subst this; simp [cI]
  · injection e with e; injection e with e1 e2 _; subst e1 e2
    refine .inr ⟨g, o + k, rfl, fun j u hu => ?_⟩
    rw [Nat.add_assoc]
    refine h3 (k + j) u ?_
    unfold cI at hu ⊢
    rw [List.map_drop, List.getElem?_drop] at hu
    exact hu
theorem ReI.none {C : Cl} {q : Option Addr} {n c k : Nat} {l : List Nat} (h : ReI C (.slice q n c) l) (hk : k = n) (hc : c = n) : ReI C (.slice q (n - k) (c - k)) (l.drop k) := by
  obtain ⟨q', c', e, h1, h2, h3⟩ := h
  injection e with e1 e2 e3
  subst e1 e2 e3
  subst hk
  refine ⟨_, _, by rw [List.length_drop], by rw [List.length_drop]; omega, by omega, .inl ?_⟩
  rw [List.drop_length]; rfl
theorem rep_cB (N : Nat) : Array.replicate N (Value.bool false) = (cB (List.replicate N false)).toArray := by
  unfold cB
  rw [List.map_replicate, List.toArray_replicate]
theorem VS.begin {w : World} {m : Mem} {fv : Value} {N : Nat} (hm : Has w m) : VS m fv N w m (List.replicate N false) [] (.slice none 0 0) []
    ((((w.alloc (.cells #[fv] 55)).alloc (.cells (cB (List.replicate N false)).toArray 4)).alloc (.cells #[.slice (some ⟨w.heap.size + 1, 0, none⟩) N N] 35)).alloc (.cells #[.slice none 0 0] 30)) where
  nb := heap_new _ _ (heap_new _ _ (heap_new _ _ (InB.new _ _ _)))
  sb := heap_new _ _ (heap_new _ _ (InB.new' _ _ (by simp)))
  sx := heap_new _ _ (InB.new' _ _ (by simp))
  tx := InB.new' _ _ (by simp)
  row := World.ownsRow_nil _ _ _ _
  each := fun k hk => absurd hk (by simp)
  has := has_grown hm ((((Below.refl _ w).alloc (Nat.le_refl _) _).alloc (by simp) _ |>.alloc (by simp; omega) _).alloc (by simp; omega) _)
  le := Mem.le.refl _
  off := fun i _ => hm.lt (by omega)
  toff := fun k hk => by cases hk
  below := (((Below.refl _ w).alloc (Nat.le_refl _) _).alloc (by simp) _ |>.alloc (by simp; omega) _).alloc (by simp; omega) _
set_option maxRecDepth 100000 in
set_option maxHeartbeats 2000000 in
theorem visited_any {w : World} {m0 : Mem} {N s : Nat} {nx : Nat → List Nat} {K : Nat} {ca : Array Value} (hm : Has w m0) (hs : s < N) (hN : N ≤ 10000) (hlt : ∀ a, ∀ b ∈ nx a, b < N) (eg : ∀ args w, (callFunc K args).run Try.prog w = .ok (.enter K args) w) (hnx : NxOk m0 N nx w K ca) :
    Calls Try.prog 30 #[.int .i64 (N : Nat), .int .i64 (s : Nat), .func (.func K) #[] ca] w fun e w' => ∃ v, e = .returned v ∧ OwnT w.heap.size w' v (rch nx N s) ∧ Below w.heap.size w w' := by
  have hmk := fun W => mk_bools N (by omega) W
  have HB := Lib.hid (VS.begin (fv := .func (.func K) #[] ca) (N := N) hm)
  have HX := Lib.hid hnx
  have HE := Lib.hid eg
  have HLT := Lib.hid hlt
  clear hnx eg hlt hm
  go_enter Try.func30, Try.ntmps30
  go_wp2_with fail
  go_step3
  go_upto_region 4 with (fail)
  obtain ⟨W4, hW4⟩ : ∃ W4, ((((w.alloc (.cells #[.func (.func K) #[] ca] 55)).alloc (.cells (cB (List.replicate N false)).toArray 4)).alloc (.cells #[.slice (some ⟨w.heap.size + 1, 0, none⟩) N N] 35)).alloc (.cells #[.slice none 0 0] 30)) = W4 := ⟨_, rfl⟩
  rw [hW4] at HB ⊢
  clear hW4 hmk
  rw [show w.heap.size + 1 + 1 + 1 = w.heap.size + 3 from rfl, show w.heap.size + 1 + 1 = w.heap.size + 2 from rfl]
  have HVI := Lib.hid (visit_any HB.out hs (by simp) (by omega) HE.out HX.out (by simp))
  go_wp2_with fail
  go_at_call 41
  refine HVI.out.mono ?_
  rintro e w5 (⟨hc, -, -⟩ | ⟨-, rfl, m1, tv, v, hle, hV⟩)
  · simp [List.getD_eq_getElem?_getD, hs] at hc
  have HV := Lib.hid hV
  have HI := Lib.hid (Vi.start hs (HLT.out s))
  have hfr : Hid (fr ((List.replicate N false).set s true) + 1 ≤ N) := Lib.hid (by
    rw [fr_set (by simpa using hs) (by simp [List.getD_eq_getElem?_getD, hs])]
    unfold fr
    simp)
  clear hV hle HB HVI
  generalize (List.replicate N false).set s true = L1 at *
  go_wp2_with fail
  go_step3
  go_wp2_with fail
  go_loopw [10] (fun _ wr => ∃ m L td tv vs, Hid (VS m0 (.func (.func K) #[] ca) N w m L td tv vs wr) ∧ Hid (Vi nx N s L td) ∧ Hid (fr L + td.length ≤ N)) (fun _ wr => viMs w.heap.size wr)
  case atStart => exact ⟨m1, L1, _, tv, _, HV, HI, hfr⟩
  case round =>
    clear HV HI hfr
    obtain ⟨m, L, td, tv, vs, HV, HI, HF⟩ := hrel
    obtain ⟨q, c, rfl⟩ := own_shape HV.out.row
    have c8 := HV.out.tx.cell (j := 0) rfl
    rcases List.eq_nil_or_concat td with rfl | ⟨tdi, row, rfl⟩
    · have c7 := HV.out.sx.cell (j := 0) rfl
      have hz : ¬ (0 : Int) < (([] : List (List Nat)).length : Int) := by simp
      go_wp2_with fail
      go_ret
      have hd := HI.out.done
      subst hd
      have hl := rch_len nx N s
      exact ⟨.slice (some ⟨w.heap.size + 1, 0, none⟩) N N, rfl, ⟨by rw [cB_len]; simp, .inr ⟨_, N, _, by rw [hl], by omega, HV.out.sb, by omega, by unfold maxLen; omega, by simp [cB_len, hl], by simp [List.take_of_length_le, cB_len]⟩⟩, HV.out.below⟩
    · obtain ⟨u, hu, hRe⟩ := HV.out.each tdi.length (by simp)
      rw [List.concat_eq_append] at *
      have hrow : (tdi ++ [row]).getD tdi.length [] = row := by simp [List.getD_eq_getElem?_getD]
      rw [hrow] at hRe
      obtain ⟨qr, cr, rfl⟩ := hRe.shape
      obtain ⟨g, c', hg, -⟩ := row_form HV.out.row (by simp)
      injection hg with hg _ ec
      subst hg ec
      obtain ⟨cg, fg⟩ := own_at HV.out.row hu
      have hlen : (tdi ++ [row]).length = tdi.length + 1 := by simp
      have hcap := row_cap HV.out.row
      rw [hlen] at c8 hcap
      have hlim : tdi.length ≤ 10000 := by have := HF.out; rw [hlen] at this; omega
      unfold maxLen at hcap
      have h0 : (0 : Int) < ((tdi.length : Nat) : Int) + 1 := by omega
      have hw1 : wrap64 ((tdi.length : Nat) : Int) = ((tdi.length : Nat) : Int) := wrap64_id (by omega) (by omega)
      have HU := Lib.hid hu
      clear hrow hu
      have HRE := Lib.hid hRe
      clear hRe
      have hNN := HI.out.len
      go_wp2_with fail
      go_loopw [30] (fun kk wi => ∃ k : Nat, kk = .int .i64 k ∧ wi = wr ∧ k ≤ row.length ∧ Hid (Vi nx N s L (tdi ++ [row.drop k]))) (fun kk _ => row.length - (intOf kk).toNat)
      case atStart => exact ⟨0, rfl, rfl, by omega, by simpa using HI⟩
      case round =>
        clear HI
        obtain ⟨k, rfl, rfl, hk, HI⟩ := hrel
        by_cases hlt : k < row.length
        · obtain ⟨-, hnc, hcm, hat⟩ := HRE.out.at
          obtain ⟨gr, o, rfl, hx⟩ := hat k hlt
          unfold maxLen at hcm
          have hx' : wr.cell? ⟨gr, o + k, none⟩ = some (.int .i64 ((row.getD k 0 : Nat) : Int)) := has_cle HV.out.has _ _ hx
          have hdr : row.drop k = row.getD k 0 :: row.drop (k + 1) := by
            rw [List.drop_eq_getElem_cons hlt]; simp [hlt]
          have HI2 := Lib.hid (show Vi nx N s L (tdi ++ [row.getD k 0 :: row.drop (k + 1)]) by rw [← hdr]; exact HI.out)
          have hxN := (HI2.out.todo _ (List.mem_append_right _ (List.mem_singleton.2 rfl)) _ (List.mem_cons_self ..)).1
          generalize row.getD k 0 = x at hx' HI2 hxN
          have HVI := Lib.hid (visit_any HV.out hxN hNN (by omega) HE.out HX.out (by rw [hlen]; omega))
          have hki : (k : Int) < (row.length : Int) := by omega
          clear hx hdr HI hat
          go_wp2_with fail
          go_at_call 41
          refine HVI.out.mono ?_
          rintro e w6 (⟨hc, rfl, rfl⟩ | ⟨hc, rfl, m2, tv2, v2, hle, hV2⟩)
          · have HI3 := Lib.hid (HI2.out.skip hc)
            clear HI2 hc HVI
            go_wp2
            exact ⟨⟨k + 1, by go_num, trivial, by omega, HI3⟩, by simp [intOf]; omega⟩
          · have HI3 := Lib.hid (HI2.out.new hc (HLT.out x))
            have HFR := Lib.hid (fr_set (L := L) (k := x) (by omega) hc)
            obtain ⟨g2, c2, rfl, -⟩ := row_form hV2.row (by simp)
            have hvl := HV.out.lenv
            obtain ⟨cg2, fg2⟩ := own_at (j := tdi.length) (u := .slice (some ⟨gr, o, none⟩) row.length cr) hV2.row (by rw [List.getElem?_append_left (by rw [hvl]; simp)]; exact HU.out)
            have t8 := hV2.tx.cell (j := 0) rfl
            have hln2 : (tdi ++ [row] ++ [nx x]).length = tdi.length + 2 := by simp
            have hcap2 := row_cap hV2.row
            rw [hln2] at t8 hcap2
            unfold maxLen at hcap2
            have hset : ∀ r : List Nat, (tdi ++ [row] ++ [nx x]).set tdi.length r = tdi ++ [r] ++ [nx x] := fun r => by simp
            have hms := HV.out.ms
            have hRe2 := HRE.out.le (mle_cle hle)
            have HV2 := Lib.hid hV2
            have HGO := Lib.hid (show ∀ (td' : List (List Nat)) (vs' : List Value) (n2 : Nat) (W : World), Vi nx N s (L.set x true) td' → td'.length = tdi.length + 2 → VS m0 (.func (.func K) #[] ca) N w m2 (L.set x true) td' (.slice (some ⟨g2, 0, none⟩) n2 c2) vs' W →
              (∃ m L td tv vs, Hid (VS m0 (.func (.func K) #[] ca) N w m L td tv vs W.drew) ∧ Hid (Vi nx N s L td) ∧ Hid (fr L + td.length ≤ N)) ∧ viMs w.heap.size W.drew < viMs w.heap.size wr from fun td' vs' n2 W h1 h2 h3 => by
              have a1 := HFR.out
              have a2 := HF.out
              rw [hlen] at a2
              refine ⟨⟨m2, _, td', _, vs', Lib.hid h3.drew, Lib.hid h1, Lib.hid (by omega)⟩, ?_⟩
              rw [h3.drew.ms, hms, hlen]
              omega)
            clear c8 cg fg hx' hV2 hms hvl hc HVI HI2 hle HV
            by_cases hcc : cr = k + 1
            · have hT := HV2.out.turn (k := tdi.length) (by simp) (hRe2.none (k := k + 1) (by omega) (by omega)) rfl
              rw [hset, show cr - (k + 1) = 0 by omega] at hT
              have HT := Lib.hid hT
              clear hT hRe2 hset
              go_wp2_with fail
              go_region
              go_wp2
              exact HGO.out _ _ _ _ HI3.out (by simp) HT.out
            · have hT := HV2.out.turn (k := tdi.length) (by simp) (hRe2.drop (k := k + 1) (by omega)) rfl
              rw [hset] at hT
              have HT := Lib.hid hT
              clear hT hRe2 hset
              go_wp2_with fail
              go_region
              go_wp2
              exact HGO.out _ _ _ _ HI3.out (by simp) HT.out
        · obtain rfl : k = row.length := by omega
          rw [List.drop_length] at HI
          have HI3 := Lib.hid HI.out.pop
          have HP := Lib.hid HV.out.pop
          have f8 := HV.out.tx.free 0
          have HMS := Lib.hid HV.out.ms
          clear HI cg fg
          go_wp2_with fail
          refine ⟨⟨m, L, tdi, _, _, HP, HI3, Lib.hid (by have := HF.out; rw [hlen] at this; omega)⟩, ?_⟩
          rw [HP.out.ms, HMS.out, hlen]
          omega
end Go.Proofs.Ythgcnlccikpmaaa
