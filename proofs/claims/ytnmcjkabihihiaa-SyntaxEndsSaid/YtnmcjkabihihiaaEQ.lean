/- The document's Ends. -/
import Derived.Test.YtnmcjkabihihiaaEP
import Derived.Test.YtnmcjkabihihiaaSynZ
import Derived.Deep.Cut
namespace Go.Proofs.Ytnmcjkabihihiaa
open Go Go.RowKit Go.Proofs.Mm Go.Proofs.Syn

/-- The kinds of a body, wherever it lies. -/
def BodyK (w : World) (q : Option Addr) (zs : List Int) : Prop := ∀ j z, zs[j]? = some z → ∃ g o, q = some ⟨g, o, none⟩ ∧ w.cell? ⟨g, o + j * 4, none⟩ = some (.int .i64 z)
theorem BodyK.below {w w' : World} {q : Option Addr} {zs : List Int} (h : BodyK w q zs) (hb : Below w.heap.size w w') : BodyK w' q zs := by
  intro j z hz
  obtain ⟨g, o, h0, h1⟩ := h j z hz
  exact ⟨g, o, h0, (hb.cell (p := ⟨g, o + j * 4, none⟩) (World.block_lt_of_cell? _ _ h1)).trans h1⟩
theorem zeros_row {w : World} {g n : Nat} {B : Nat} (hn : n ≤ 2199023255552) (hB : B ≤ g) (h : w.heap[g]? = some (.cells (negs n 0).toArray 3 (0, 0))) : w.ownsRow B 3 1 (.slice (some ⟨g, 0, none⟩) n n) n (ivs (List.replicate n 0)) := by
  have e : (negs n 0) = ivs (List.replicate n 0) := by
    unfold negs ivs
    rw [List.map_replicate]
    simp only [List.replicate_zero, List.nil_append, Nat.sub_zero]
    rfl
  refine ⟨by simp [ivs], .inr ⟨g, n, (negs n 0).toArray, rfl, hB, h, Nat.le_refl _, by unfold maxLen; omega, by simp [negs], ?_⟩⟩
  rw [e]
  exact List.take_of_length_le (by simp [ivs])
theorem EnW.zeros {w : World} {n : Nat} (hn : n ≤ 2199023255552) : EnW w w.heap.size (w.heap.size + 1) (w.heap.size + 2) n ((w.alloc (.cells (negs n 0).toArray 3)).alloc (.cells (negs n 0).toArray 3)) (List.replicate n 0) (List.replicate n 0) [] (some ⟨w.heap.size, 0, none⟩) n (some ⟨w.heap.size + 1, 0, none⟩) n (.slice none 0 0) := by
  have h1 := heap_new (w.alloc (.cells (negs n 0).toArray 3)) (.cells (negs n 0).toArray 3) (World.alloc_heap_new w _)
  have h2 := World.alloc_heap_new (w.alloc (.cells (negs n 0).toArray 3)) (.cells (negs n 0).toArray 3)
  rw [World.size_alloc] at h2
  refine ⟨zeros_row hn (Nat.le_refl _) h1, zeros_row hn (Nat.le_refl _) h2, World.ownsRow_nil _ _ _ _, ((Below.refl _ w).alloc (Nat.le_refl _) _).alloc (by simp) _, Nat.le_refl _, by omega, by omega, by simp, ?_, ?_⟩
  · intro k hk
    have hk : w.heap.size = k := by injection hk
    omega
  · intro k hk
    have hk : w.heap.size + 1 = k := by injection hk
    omega
section
variable {w : World} {H1 H2 H3 n : Nat} {W : World} {E L : List Int} {op : List Nat} {q5 q6 : Option Addr} {c5 c6 g7 c7 t : Nat}
theorem EnW.oSet (h : EnW w H1 H2 H3 n W E L (t :: op) q5 c5 q6 c6 (.slice (some ⟨g7, 0, none⟩) (op.length + 1) c7)) (i : Nat) : EnW w H1 H2 H3 n (W.setCell ⟨g7, op.length, none⟩ (.int .i64 (i : Nat))) E L (i :: op) q5 c5 q6 c6 (.slice (some ⟨g7, 0, none⟩) (op.length + 1) c7) := by
  have ho := h.o
  have hs := ho.stored op.length (.int .i64 (i : Nat))
  have hx : (ops (t :: op)).set op.length (.int .i64 (i : Nat)) = ops (i :: op) := by
    have hlo : (ops op).length = op.length := by simp [ops]
    rw [show ops (t :: op) = ops op ++ [.int .i64 (t : Int)] from by simp [ops], show ops (i :: op) = ops op ++ [.int .i64 (i : Int)] from by simp [ops], List.set_append_right _ _ (by omega), hlo, Nat.sub_self]
    rfl
  rw [hx] at hs
  have hlt := ho.lt g7 rfl
  refine ⟨h.e.kept hs.2 (.inr fun e => ?_), h.l.kept hs.2 (.inr fun e => ?_), hs.1, h.b.setCell (p := ⟨g7, op.length, none⟩) (by have := h.h0; have := h.h1; have := h.h2; show w.heap.size ≤ g7; omega) _, h.h0, h.h1, h.h2, by simpa using h.h3, h.be, h.bl⟩
  · have := h.be g7 e; have := h.h2; omega
  · have := h.bl g7 e; omega
end
def EdI (w : World) (H1 H2 H3 n : Nat) (ks : List Nat) (R : Option (List Int × List Int)) (q5 : Option Addr) (c5 : Nat) (q6 : Option Addr) (c6 : Nat) (v5 iV : Value) (wr : World) : Prop :=
  ∃ i op E L, i ≤ n ∧ iV = .int .i64 (i : Nat) ∧ Hid (EnW w H1 H2 H3 n wr E L op q5 c5 q6 c6 v5) ∧ Hid (EJ n i op E L) ∧ Hid (goE ks (ks.drop i) i op (pad i E) (pad i L) = R)
set_option maxRecDepth 100000 in
set_option maxHeartbeats 4000000 in
theorem docEnds_any {w : World} {q : Option Addr} {c n : Nat} (zs : List Int) (hn : zs.length = n) (hb : BodyK w q zs) (hmax : n ≤ 2199023255552) :
    Calls Try.prog 6 #[.slice q n c] w fun e w' => Below w.heap.size w w' ∧ EndsR w n e w' (endsM (zs.map Int.toNat)) := by
  have HN := Lib.hid hn
  have HB := Lib.hid hb
  obtain ⟨ks, hks⟩ : ∃ ks, zs.map Int.toNat = ks := ⟨_, rfl⟩
  rw [hks]
  have HK := Lib.hid hks
  have HKL := Lib.hid (show ks.length = n by rw [← hks, List.length_map]; exact hn)
  have H0 := Lib.hid (EnW.zeros (w := w) hmax)
  have m1 := mk_ints n hmax w
  have m2 := mk_ints n hmax (w.alloc (.cells (negs n 0).toArray 3))
  rw [World.size_alloc] at m2
  clear hn hb hks
  go_enter Try.func6, Try.ntmps6
  go_wp2_with fail
  clear m1 m2
  obtain ⟨W0, hW0⟩ : ∃ W0, ((w.alloc (.cells (negs n 0).toArray 3)).alloc (.cells (negs n 0).toArray 3)) = W0 := ⟨_, rfl⟩
  rw [hW0] at H0 ⊢
  clear hW0
  obtain ⟨R, hR⟩ : ∃ R, goE ks ks 0 [] (List.replicate n (-1)) (List.replicate n (-1)) = R := ⟨_, rfl⟩
  have HR := Lib.hid hR
  clear hR
  obtain ⟨H1, hH1⟩ : ∃ H1, w.heap.size = H1 := ⟨_, rfl⟩
  have HH := Lib.hid hH1
  rw [hH1] at H0 ⊢
  obtain ⟨H2, hH2⟩ : ∃ H2, H1 + 1 = H2 := ⟨_, rfl⟩
  obtain ⟨H3, hH3⟩ : ∃ H3, H1 + 2 = H3 := ⟨_, rfl⟩
  rw [hH2, hH3] at H0
  rw [hH2]
  obtain ⟨q5, hq5⟩ : ∃ q5, (some (⟨H1, 0, none⟩ : Addr)) = q5 := ⟨_, rfl⟩
  obtain ⟨q6, hq6⟩ : ∃ q6, (some (⟨H2, 0, none⟩ : Addr)) = q6 := ⟨_, rfl⟩
  rw [hq5, hq6] at H0 ⊢
  clear hq5 hq6 hH1 hH2 hH3
  go_loopw [5, 8] (EdI w H1 H2 H3 n ks R q5 n q6 n) (fun _ i _ => n - (intOf i).toNat)
  case atStart => exact ⟨0, [], _, _, Nat.zero_le _, rfl, H0, Lib.hid (EJ.start n _ _ (by simp) (by simp)), Lib.hid (by rw [pad_0]; simpa using HR.out)⟩
  case round =>
    obtain ⟨i, op, E, L, hi, rfl, HE, HI, HG⟩ := hrel
    clear H0
    by_cases hlt : i < n
    · have hii : (i : Int) < (n : Int) := by omega
      obtain ⟨z, hz⟩ : ∃ z, zs[i]? = some z := ⟨_, List.getElem?_eq_getElem (by rw [HN.out]; exact hlt)⟩
      have HZ := Lib.hid (show ks[i]? = some z.toNat by rw [← HK.out, List.getElem?_map, hz]; rfl)
      obtain ⟨g5, rfl, hb5, e0, e1, e2⟩ := HE.out.eAt i hlt
      have HE1 := Lib.hid (e2 (-1))
      obtain ⟨g6, rfl, l0, l1, l2⟩ := HE1.out.lAt i hlt
      have HE2 := Lib.hid (l2 (-1))
      obtain ⟨q7, c7, rfl⟩ := own_shape HE.out.o
      have hI1 := HI.out.fill hlt
      have HI1 := Lib.hid hI1
      have HG1 := Lib.hid (show goE ks (ks.drop i) i op (pad (i + 1) (E.set i (-1))) (pad (i + 1) (L.set i (-1))) = R by
        rw [pad_next _ _ (by rw [HI.out.le]; exact hlt), pad_next _ _ (by rw [HI.out.ll]; exact hlt)]; exact HG.out)
      clear e2 l2 hI1
      go_upto_region 9 with (fail)
      obtain ⟨W2, hW2⟩ : ∃ W2, ((wr.setCell ⟨g5, i, none⟩ (.int .i64 (-1))).setCell ⟨g6, i, none⟩ (.int .i64 (-1))) = W2 := ⟨_, rfl⟩
      rw [hW2] at HE2 ⊢
      clear hW2 e0 e1 l0 l1 HE1 HE HG
      obtain ⟨E1, hE1⟩ : ∃ E1, E.set i (-1) = E1 := ⟨_, rfl⟩
      obtain ⟨L1, hL1⟩ : ∃ L1, L.set i (-1) = L1 := ⟨_, rfl⟩
      rw [hE1, hL1] at HE2 HI1 HG1
      have HEL := Lib.hid (And.intro hE1 hL1)
      clear hE1 hL1
      obtain ⟨g, o, rfl, k0⟩ := (HB.out.below HE2.out.b) i z hz
      have hglt : g < W2.heap.size := World.block_lt_of_cell? _ _ k0
      clear hz
      by_cases h57 : z = 5 ∨ z = 7
      · obtain ⟨i0, hi0, hz0, hz1, hz2⟩ := infoInt
        have hrow := HE2.out.o
        have hone : ∀ u ∈ [Value.int .i64 (i : Nat)], u.oneCell' = true := by intro u hu; rw [List.mem_singleton.1 hu]; rfl
        have HPU := Lib.hid (show EJ n (i + 1) (i :: op) E1 L1 by rw [← HEL.out.1, ← HEL.out.2]; exact HI.out.push hlt)
        have HGU := Lib.hid (goE_push HZ.out (by rcases h57 with rfl | rfl <;> simp) HG1.out)
        have h3 := HE2.out.h3
        have hnew := row_new W2 [.int .i64 (i : Nat)] 3
        have hol : op.length ≤ n := by have := HI.out.len; omega
        rcases h57 with rfl | rfl
        all_goals
          go_wp2_with (at_builtin; refine wpList_append_own_at _ rfl _ _ 24 rfl H3 3 i0 _ 1 8 und_ints hi0 hz0 hz1 hz2 rfl (by decide) _ _ _ rfl (hrow.alloc _) ⟨W2.heap.size, 0, none⟩ 1 1 [.int .i64 (i : Nat)] rfl rfl hnew hone (by unfold maxLen; omega) (by omega) (by simp; omega) ?_)
          intro v9 w9 hown9 hgrow9 _ _
          obtain ⟨q9, c9, rfl⟩ := own_shape hown9
          have HE9 := Lib.hid ((HE2.out.alloc _).push hown9 hgrow9)
          clear hown9 hgrow9
          go_wp2_with fail
          exact ⟨⟨i + 1, i :: op, E1, L1, by omega, by go_num, HE9, HPU, HGU⟩, by simp [intOf]; omega⟩
      by_cases h68 : z = 6 ∨ z = 8
      · rcases h68 with rfl | rfl
        · cases op with
          | nil =>
            have HGU := Lib.hid (goE_else_bad HZ.out (fun t op' e => by cases e) HG1.out)
            go_wp2_with fail
            go_ret3
            refine ⟨HE2.out.b, ?_⟩
            rw [show endsM ks = none from by unfold endsM; rw [HKL.out, HR.out, HGU.out]; rfl]
            rfl
          | cons t op =>
            obtain ⟨g7, c7', hv7, hc7, htop, _⟩ := HE2.out.top
            have htn : t < n := by have := HI.out.lt t (by simp); omega
            obtain ⟨gl, hgl, l0, l1, l2⟩ := HE2.out.lAt t htn
            have hgl' : g6 = gl := by injection hgl with h; injection h
            clear hgl
            subst hgl'
            injection hv7 with hv7 _ hv8
            subst hv7 hv8
            have hln : op.length ≤ n := by have := HI.out.len; simp at this; omega
            have hz0 : (((op.length : Int) + 1) == 0) = false := by simp; omega
            have hw1 : IntKind.i64.wrap ((op.length : Int) + 1 - 1) = op.length := by rw [IntKind.wrap_i64]; omega
            have htl : (op.length : Int) < (op.length : Int) + 1 := by omega
            have hg7 : g7 < W2.heap.size := World.block_lt_of_cell? _ _ htop
            have hg6 : g6 < W2.heap.size := World.block_lt_of_cell? _ _ l0
            have htn' : (t : Int) < (n : Int) := by omega
            obtain ⟨zt, hzt⟩ : ∃ z, zs[t]? = some z := ⟨_, List.getElem?_eq_getElem (by rw [HN.out]; exact htn)⟩
            have HZT := Lib.hid (show ks[t]? = some zt.toNat by rw [← HK.out, List.getElem?_map, hzt]; rfl)
            obtain ⟨g', o', hq, d0⟩ := (HB.out.below HE2.out.b) t zt hzt
            have hq' : g = g' ∧ o = o' := by injection hq with h; injection h with h1 h2; exact ⟨h1, h2⟩
            obtain ⟨rfl, rfl⟩ := hq'
            clear hzt hq
            by_cases h5 : zt = 5
            · subst h5
              have HGU := Lib.hid (goE_else HZ.out HZT.out HG1.out)
              have HPU := Lib.hid (show EJ n (i + 1) (i :: op) E1 (L1.set t i) by rw [← HEL.out.1, ← HEL.out.2]; exact HI.out.put hlt)
              have HL2 := Lib.hid (l2 i)
              have HO2 := Lib.hid (HL2.out.oSet i)
              have hfo : W2.frozen? ⟨g7, op.length, none⟩ = false := HE2.out.o.frozenAt op.length
              have h76 : ¬ g7 = g6 := by
                have h1 := (HE2.out.o.lt g7 rfl).1
                have h2 := HE2.out.bl g6 rfl
                omega
              have HG2 := Lib.hid (show goE ks (ks.drop (i + 1)) (i + 1) (i :: op) (pad (i + 1) E1) (pad (i + 1) (L1.set t i)) = R by
                rw [pad_set _ _ _ _ (by have := HI.out.lt t (by simp); omega) (by rw [HI1.out.ll]; omega)]; exact HGU.out)
              clear l2
              go_wp2_with fail
              exact ⟨⟨i + 1, i :: op, E1, _, by omega, by go_num, HO2, HPU, HG2⟩, by simp [intOf]; omega⟩
            · have HGU := Lib.hid (goE_else_bad HZ.out (fun t' op' e c => by
                injection e with e1 e2; subst e1
                rw [HZT.out] at c
                injection c with c
                omega) HG1.out)
              have e5 : (zt == 5) = false := by simp; omega
              have e5' : (zt != 5) = true := by simp; omega
              clear l2
              go_wp2_with fail
              go_ret3
              refine ⟨HE2.out.b, ?_⟩
              rw [show endsM ks = none from by unfold endsM; rw [HKL.out, HR.out, HGU.out]; rfl]
              rfl
        · cases op with
          | nil =>
            have HGU := Lib.hid (goE_end_bad HZ.out HG1.out)
            go_wp2_with fail
            go_ret3
            refine ⟨HE2.out.b, ?_⟩
            rw [show endsM ks = none from by unfold endsM; rw [HKL.out, HR.out, HGU.out]; rfl]
            rfl
          | cons t op =>
            obtain ⟨g7, c7', hv7, hc7, htop, _⟩ := HE2.out.top
            have htn : t < n := by have := HI.out.lt t (by simp); omega
            obtain ⟨gl, hgl, l0, l1, l3, l2⟩ := HE2.out.eAt t htn
            have hgl' : g5 = gl := by injection hgl with h; injection h
            clear hgl
            subst hgl'
            injection hv7 with hv7 _ hv8
            subst hv7 hv8
            have hln : op.length ≤ n := by have := HI.out.len; simp at this; omega
            have hz0 : (((op.length : Int) + 1) == 0) = false := by simp; omega
            have hw1 : IntKind.i64.wrap ((op.length : Int) + 1 - 1) = op.length := by rw [IntKind.wrap_i64]; omega
            have htl : (op.length : Int) < (op.length : Int) + 1 := by omega
            have hg7 : g7 < W2.heap.size := World.block_lt_of_cell? _ _ htop
            have hg5 : g5 < W2.heap.size := World.block_lt_of_cell? _ _ l1
            have htn' : (t : Int) < (n : Int) := by omega
            have HGU := Lib.hid (goE_end HZ.out HG1.out)
            have HPU := Lib.hid (HI1.out.pop (i : Int))
            have HP2 := Lib.hid ((l2 i).pop)
            have HG2 := Lib.hid (show goE ks (ks.drop (i + 1)) (i + 1) op (pad (i + 1) (E1.set t i)) (pad (i + 1) L1) = R by
                rw [pad_set _ _ _ _ (by have := HI.out.lt t (by simp); omega) (by rw [HI1.out.le]; omega)]; exact HGU.out)
            clear l2
            go_wp2_with fail
            exact ⟨⟨i + 1, op, _, L1, by omega, by go_num, HP2, HPU, HG2⟩, by simp [intOf]; omega⟩
      · have h6 : ¬ z = 6 := fun e => h68 (.inl e)
        have h8 : ¬ z = 8 := fun e => h68 (.inr e)
        have e5 : (z == 5) = false := by simp; omega
        have e6 : (z == 6) = false := by simp; omega
        have e7 : (z == 7) = false := by simp; omega
        have e8 : (z == 8) = false := by simp; omega
        have HGU := Lib.hid (goE_skip HZ.out (by omega) (by omega) (by omega) (by omega) HG1.out)
        go_wp2_with fail
        exact ⟨⟨i + 1, op, E1, L1, by omega, by go_num, HE2, HI1, HGU⟩, by simp [intOf]; omega⟩
    · obtain rfl : i = n := by omega
      have hg := HG.out
      rw [← HKL.out] at hg
      have HD := Lib.hid (goE_done hg)
      clear hg
      obtain ⟨q7, c7, rfl⟩ := own_shape HE.out.o
      have hel : E.length = i := HI.out.le
      have hll : L.length = i := HI.out.ll
      have HD2 := Lib.hid (show R = if op = [] then some (E, L) else none by have := HD.out; rw [HKL.out] at this; rw [this]; simp only [show pad i E = E from by rw [← hel]; exact pad_all E, show pad i L = L from by rw [← hll]; exact pad_all L])
      have HEL := Lib.hid (And.intro hel hll)
      clear hel hll HD
      cases op with
      | nil =>
        have HV := Lib.hid (show EnW w H1 H2 H3 i wr (viaN 0 E L) L [] q5 i q6 i (.slice q7 ([] : List Nat).length c7) by rw [viaN_0]; exact HE.out)
        go_wp2_with fail
        go_loopw [10] (fun jv wv => ∃ j, j ≤ i ∧ jv = .int .i64 (j : Nat) ∧ Hid (EnW w H1 H2 H3 i wv (viaN j E L) L [] q5 i q6 i (.slice q7 ([] : List Nat).length c7))) (fun j _ => i - (intOf j).toNat)
        case atStart => exact ⟨0, Nat.zero_le _, rfl, HV⟩
        case round =>
          obtain ⟨j, hj, rfl, hV⟩ := hrel
          clear HE HV
          have hvl : (viaN j E L).length = i := by rw [viaN_len j E L (by rw [HEL.out.1, HEL.out.2]) (by rw [HEL.out.1]; exact hj)]; exact HEL.out.1
          by_cases hjl : j < i
          · have hji : (j : Int) < (i : Int) := by omega
            have hst := viaN_step j E L (by rw [HEL.out.1, HEL.out.2]) (by rw [HEL.out.1]; exact hjl) (fun h => (HI.out.els j hjl h).1)
            obtain ⟨g5, rfl, hb5, e0, e1, e2⟩ := hV.out.eAt j hjl
            obtain ⟨g6, rfl, l0, l1, _⟩ := hV.out.lAt j hjl
            by_cases h0 : 0 ≤ gI L j
            · have hub := (HI.out.els j hjl h0).2
              obtain ⟨u, hu⟩ : ∃ u : Nat, gI L j = (u : Int) := ⟨_, (Int.toNat_of_nonneg h0).symm⟩
              rw [if_pos h0, hu] at hst
              rw [hu] at l0 hub
              have hun : u < i := by omega
              obtain ⟨gu, hgu, _, u0, _⟩ := hV.out.eAt u hun
              have hgu' : g5 = gu := by injection hgu with h; injection h
              subst hgu'
              have hui : (u : Int) < (i : Int) := by omega
              have hu0 : (0 : Int) ≤ (u : Int) := by omega
              have HV2 := Lib.hid (show EnW w H1 H2 H3 i (wr.setCell ⟨g5, j, none⟩ (.int .i64 (gI (viaN j E L) u))) (viaN (j + 1) E L) L [] (some ⟨g5, 0, none⟩) i (some ⟨g6, 0, none⟩) i (.slice q7 ([] : List Nat).length c7) by
                rw [hst, show ((u : Int)).toNat = u from by omega]; exact e2 _)
              clear hst hgu e2 h0 hu hub hvl
              go_wp2_with fail
              exact ⟨⟨j + 1, by omega, by go_num, HV2⟩, by simp [intOf]; omega⟩
            · have h1 : ¬ 0 ≤ gI L j := h0
              rw [if_neg h0] at hst
              have HV2 := Lib.hid (show EnW w H1 H2 H3 i wr (viaN (j + 1) E L) L [] (some ⟨g5, 0, none⟩) i (some ⟨g6, 0, none⟩) i (.slice q7 ([] : List Nat).length c7) by rw [hst]; exact hV.out)
              clear hst e2 hvl
              go_wp2_with fail
              exact ⟨⟨j + 1, by omega, by go_num, HV2⟩, by simp [intOf]; omega⟩
          · obtain rfl : j = i := by omega
            have HV2 := Lib.hid (show EnW w H1 H2 H3 j wr (viaElse E L) L [] q5 j q6 j (.slice q7 ([] : List Nat).length c7) by
              have := viaN_all E L (by rw [HEL.out.1, HEL.out.2])
              rw [HEL.out.1] at this
              rw [← this]; exact hV.out)
            clear hvl
            go_wp2_with fail
            go_ret3
            refine ⟨HV2.out.b, ?_⟩
            rw [show endsM ks = some (viaElse E L, L) from by unfold endsM; rw [HKL.out, HR.out, HD2.out]; simp]
            exact ⟨q5, j, q6, j, H2, rfl, own_mono HV2.out.e HV2.out.h0, own_mono HV2.out.l (by have := HV2.out.h0; have := HV2.out.h1; omega), HV2.out.be, fun k hk => (HV2.out.l.lt k hk).1⟩
      | cons t op =>
        go_wp2_with fail
        go_ret3
        refine ⟨HE.out.b, ?_⟩
        rw [show endsM ks = none from by unfold endsM; rw [HKL.out, HR.out, HD2.out]; rfl]
        rfl
end Go.Proofs.Ytnmcjkabihihiaa
