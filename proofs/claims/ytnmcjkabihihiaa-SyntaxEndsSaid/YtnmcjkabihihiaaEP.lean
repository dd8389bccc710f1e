/- Ends of the package: where blocks end. -/
import Derived.Test.YtnmcjkabihihiaaEO
namespace Go.Proofs.Ytnmcjkabihihiaa
open Go Go.RowKit Go.Proofs.Mm Go.Proofs.Syn

theorem ivs_negs (n : Nat) : ivs (List.replicate n (-1)) = negs n n := by rw [negs_all]; unfold ivs; rw [List.map_replicate]; rfl
def EndsR (w : World) (n : Nat) (e : Ending) (w' : World) : Option (List Int × List Int) → Prop
  | none => e = .returned (.tuple #[.slice none 0 0, .slice none 0 0, .bool false])
  | some (es, ls) => ∃ q5 c5 q6 c6 H, e = .returned (.tuple #[.slice q5 n c5, .slice q6 n c6, .bool true]) ∧ w'.ownsRow w.heap.size 3 1 (.slice q5 n c5) n (ivs es) ∧ w'.ownsRow w.heap.size 3 1 (.slice q6 n c6) n (ivs ls) ∧
      (∀ k, (Value.slice q5 n c5).ownBlock = some k → k < H) ∧ (∀ k, (Value.slice q6 n c6).ownBlock = some k → H ≤ k)
theorem EnW.start {w w2 w3 : World} {n : Nat} (hn : n ≤ 2199023255552) (h2 : w2.heap[w.heap.size + 1]? = some (.cells (negs n n).toArray 3 (0, 0))) (b2 : Below (w.heap.size + 1) (w.alloc (.cells #[.int .i64 (-1)] 3)) w2)
    {q : Option Addr} {c : Nat} (h3 : w3.ownsRow w2.heap.size 3 1 (.slice q n c) n (negs n n)) (b3 : Below w2.heap.size w2 w3) :
    EnW w (w.heap.size + 1) w2.heap.size w3.heap.size n w3 (List.replicate n (-1)) (List.replicate n (-1)) [] (some ⟨w.heap.size + 1, 0, none⟩) n q c (.slice none 0 0) := by
  have hlt : w.heap.size + 1 < w2.heap.size := by
    rcases Nat.lt_or_ge (w.heap.size + 1) w2.heap.size with h | h
    · exact h
    · rw [Array.getElem?_eq_none h] at h2; cases h2
  have hl : (negs n n).length = n := negs_len (Nat.le_refl _)
  refine ⟨⟨by simp [ivs], .inr ⟨w.heap.size + 1, n, (negs n n).toArray, rfl, Nat.le_refl _, ?_, Nat.le_refl _, by unfold maxLen; omega, by simp [hl], ?_⟩⟩, by rw [ivs_negs]; exact h3, World.ownsRow_nil _ _ _ _, ?_, by omega, by omega, b3.size, Nat.le_refl _, ?_, ?_⟩
  · rw [b3.block _ hlt]; exact h2
  · rw [ivs_negs]; exact List.take_of_length_le (by simp [hl])
  · exact (((Below.refl _ w).alloc (Nat.le_refl _) _).trans (b2.mono (by omega))).trans (b3.mono (by omega))
  · intro k hk
    injection hk with hk
    subst hk
    exact hlt
  · intro k hk
    exact (h3.lt k hk).2
theorem own_mono {V : World} {B B' e size m : Nat} {v : Value} {xs : List Value} (h : V.ownsRow B e size v m xs) (hb : B' ≤ B) : V.ownsRow B' e size v m xs := by
  refine ⟨h.1, ?_⟩
  rcases h.2 with h | ⟨g, cap, cur, h1, h2, h3⟩
  · exact .inl h
  · exact .inr ⟨g, cap, cur, h1, Nat.le_trans hb h2, h3⟩
section
variable {w : World} {H1 H2 H3 n : Nat} {W : World} {E L : List Int} {op : List Nat} {c5 : Nat} {q6 : Option Addr} {c6 : Nat} {g5 g7 c7 t : Nat}
theorem EnW.pop {q5 : Option Addr} (h : EnW w H1 H2 H3 n W E L (t :: op) q5 c5 q6 c6 (.slice (some ⟨g7, 0, none⟩) (op.length + 1) c7)) : EnW w H1 H2 H3 n W E L op q5 c5 q6 c6 (.slice (some ⟨g7, 0, none⟩) op.length c7) := by
  obtain ⟨g, c, e, _, _, h'⟩ := h.top
  injection e with e1 _ e2
  injection e1 with e1
  injection e1 with e1
  subst e1 e2
  exact h'
theorem EnW.setE {v7 : Value} (h : EnW w H1 H2 H3 n W E L op (some ⟨g5, 0, none⟩) c5 q6 c6 v7) (t : Nat) (ht : t < n) (z : Int) : EnW w H1 H2 H3 n (W.setCell ⟨g5, t, none⟩ (.int .i64 z)) (E.set t z) L op (some ⟨g5, 0, none⟩) c5 q6 c6 v7 := by
  obtain ⟨g, e, _, _, _, h'⟩ := h.eAt t ht
  injection e with e
  injection e with e
  subst e
  exact h' z
theorem EnW.close1 (h : EnW w H1 H2 H3 n W E L (t :: op) (some ⟨g5, 0, none⟩) c5 q6 c6 (.slice (some ⟨g7, 0, none⟩) (op.length + 1) c7)) (ht : t < n) (i : Nat) (hl : gI L t < 0) :
    EnW w H1 H2 H3 n (W.setCell ⟨g5, t, none⟩ (.int .i64 (i : Nat))) (closeP E L t i) L op (some ⟨g5, 0, none⟩) c5 q6 c6 (.slice (some ⟨g7, 0, none⟩) op.length c7) := by
  unfold closeP
  rw [if_neg (by omega)]
  exact (h.setE t ht i).pop
theorem EnW.close2 (h : EnW w H1 H2 H3 n W E L (t :: op) (some ⟨g5, 0, none⟩) c5 q6 c6 (.slice (some ⟨g7, 0, none⟩) (op.length + 1) c7)) (ht : t < n) (i : Nat) {u : Nat} (hu : u < n) (hl : gI L t = (u : Int)) :
    EnW w H1 H2 H3 n ((W.setCell ⟨g5, t, none⟩ (.int .i64 (i : Nat))).setCell ⟨g5, u, none⟩ (.int .i64 (i : Nat))) (closeP E L t i) L op (some ⟨g5, 0, none⟩) c5 q6 c6 (.slice (some ⟨g7, 0, none⟩) op.length c7) := by
  unfold closeP
  rw [if_pos (by omega), hl]
  exact ((h.setE t ht i).setE u hu i).pop
end
def EndI (w : World) (H1 H2 H3 n : Nat) (ks : List Nat) (q5 : Option Addr) (c5 : Nat) (q6 : Option Addr) (c6 : Nat) (v7 iV : Value) (wr : World) : Prop :=
  ∃ i op E L es, i ≤ n ∧ iV = .int .i64 (i : Nat) ∧ Hid (EnW w H1 H2 H3 n wr E L op q5 c5 q6 c6 v7) ∧ Hid (EI ks i op E L es) ∧ Hid (goP ks (ks.drop i) i op E L = endsM ks)
theorem drop_at {ks : List Nat} {i k : Nat} (hk : ks[i]? = some k) : ks.drop i = k :: ks.drop (i + 1) := by
  obtain ⟨h, e⟩ := List.getElem?_eq_some_iff.1 hk
  rw [List.drop_eq_getElem_cons h, e]
theorem goP_push {ks : List Nat} {i k : Nat} {op : List Nat} {E L : List Int} {r : Option (List Int × List Int)} (hk : ks[i]? = some k) (h57 : k = 5 ∨ k = 7) (h : goP ks (ks.drop i) i op E L = r) : goP ks (ks.drop (i + 1)) (i + 1) (i :: op) E L = r := by
  rw [drop_at hk, goP_cons, if_pos h57] at h; exact h
theorem goP_else {ks : List Nat} {i t : Nat} {op : List Nat} {E L : List Int} {r : Option (List Int × List Int)} (hk : ks[i]? = some 6) (ht : ks[t]? = some 5) (hl : gI L t < 0) (h : goP ks (ks.drop i) i (t :: op) E L = r) : goP ks (ks.drop (i + 1)) (i + 1) (t :: op) E (L.set t i) = r := by
  rw [drop_at hk, goP_cons, if_neg (by omega), if_pos rfl] at h
  simp only [if_pos (And.intro ht hl)] at h
  exact h
theorem goP_else_bad {ks : List Nat} {i : Nat} {op : List Nat} {E L : List Int} {r : Option (List Int × List Int)} (hk : ks[i]? = some 6) (hb : ∀ t op', op = t :: op' → ¬ (ks[t]? = some 5 ∧ gI L t < 0)) (h : goP ks (ks.drop i) i op E L = r) : r = none := by
  rw [drop_at hk, goP_cons, if_neg (by omega), if_pos rfl] at h
  cases op with
  | nil => exact h.symm
  | cons t op =>
    simp only [if_neg (hb t op rfl)] at h
    exact h.symm
theorem goP_end {ks : List Nat} {i t : Nat} {op : List Nat} {E L : List Int} {r : Option (List Int × List Int)} (hk : ks[i]? = some 8) (h : goP ks (ks.drop i) i (t :: op) E L = r) : goP ks (ks.drop (i + 1)) (i + 1) op (closeP E L t i) L = r := by
  rw [drop_at hk, goP_cons, if_neg (by omega), if_neg (by omega), if_pos rfl] at h
  exact h
theorem goP_end_bad {ks : List Nat} {i : Nat} {E L : List Int} {r : Option (List Int × List Int)} (hk : ks[i]? = some 8) (h : goP ks (ks.drop i) i [] E L = r) : r = none := by
  rw [drop_at hk, goP_cons, if_neg (by omega), if_neg (by omega), if_pos rfl] at h
  exact h.symm
theorem goP_skip {ks : List Nat} {i k : Nat} {op : List Nat} {E L : List Int} {r : Option (List Int × List Int)} (hk : ks[i]? = some k) (h5 : k ≠ 5) (h6 : k ≠ 6) (h7 : k ≠ 7) (h8 : k ≠ 8) (h : goP ks (ks.drop i) i op E L = r) : goP ks (ks.drop (i + 1)) (i + 1) op E L = r := by
  rw [drop_at hk, goP_cons, if_neg (by omega), if_neg h6, if_neg h8] at h
  exact h
theorem goP_done {ks : List Nat} {op : List Nat} {E L : List Int} {r : Option (List Int × List Int)} (h : goP ks (ks.drop ks.length) ks.length op E L = r) : r = if op = [] then some (E, L) else none := by
  rw [List.drop_length, goP_nil] at h
  exact h.symm
set_option maxRecDepth 100000 in
set_option maxHeartbeats 4000000 in
theorem ends_any {w : World} {q : Option Addr} {c n : Nat} (zs : List Int) (hn : zs.length = n) (hb : BodyR w q zs) (hmax : n ≤ 2199023255552) :
    Calls Try.prog 5 #[.slice q n c] w fun e w' => Below w.heap.size w w' ∧ EndsR w n e w' (endsM (zs.map Int.toNat)) := by
  have HN := Lib.hid hn
  have HR := Lib.hid (repeat_any n hmax (w.alloc (.cells #[.int .i64 (-1)] 3)) w.heap.size (cell_of (World.alloc_heap_new w _) rfl))
  have HB := Lib.hid hb
  obtain ⟨ks, hks⟩ : ∃ ks, zs.map Int.toNat = ks := ⟨_, rfl⟩
  rw [hks]
  have HK := Lib.hid hks
  clear hn hb hks
  go_enter Try.func5, Try.ntmps5
  go_wp2_with fail
  go_at_call 11
  refine HR.out.mono ?_
  rintro e w2 ⟨rfl, r1, r2⟩
  rw [World.size_alloc] at r1 r2
  have HC := Lib.hid (clone_ints (w.heap.size + 1) n hmax w2 r1)
  have HR1 := Lib.hid r1
  have HR2 := Lib.hid r2
  clear r1 r2
  go_wp2_with fail
  go_at_call 12
  refine HC.out.mono ?_
  rintro e w3 ⟨q6, c6, rfl, r3, r4⟩
  have H0 := Lib.hid (EnW.start hmax HR1.out HR2.out r3 r4)
  clear r3 r4
  go_wp2_with fail
  have HKL := Lib.hid (show ks.length = n by rw [← HK.out, List.length_map]; exact HN.out)
  generalize hH1 : w.heap.size + 1 = H1 at *
  obtain ⟨H2, hH2⟩ : ∃ H2, w2.heap.size = H2 := ⟨_, rfl⟩
  obtain ⟨H3, hH3⟩ : ∃ H3, w3.heap.size = H3 := ⟨_, rfl⟩
  rw [hH2, hH3] at H0
  obtain ⟨q5, hq5⟩ : ∃ q5, (some (⟨H1, 0, none⟩ : Addr)) = q5 := ⟨_, rfl⟩
  rw [hq5] at H0 ⊢
  clear hH2 hH3 HR1 HR2 HC hH1 hq5 HR
  go_loopw [7, 21] (EndI w H1 H2 H3 n ks q5 n q6 c6) (fun _ i _ => n - (intOf i).toNat)
  case atStart => exact ⟨0, [], _, _, _, Nat.zero_le _, rfl, H0, Lib.hid (HKL.out ▸ EI.start ks), Lib.hid (by have := goP_ends ks; rw [HKL.out] at this; exact this)⟩
  case round =>
    obtain ⟨i, op, E, L, es, hi, rfl, HE, HI, HG⟩ := hrel
    clear H0
    by_cases hlt : i < n
    · have hii : (i : Int) < (n : Int) := by omega
      obtain ⟨z, hz⟩ : ∃ z, zs[i]? = some z := ⟨_, List.getElem?_eq_getElem (by rw [HN.out]; exact hlt)⟩
      have HZ := Lib.hid (show ks[i]? = some z.toNat by rw [← HK.out, List.getElem?_map, hz]; rfl)
      obtain ⟨g, s, a1, n1, k1, a2, n2, k2, rfl, b0, b1, b2, b3⟩ := (HB.out.below HE.out.b) i z hz
      have hglt : g < wr.heap.size := World.block_lt_of_cell? _ _ b0
      obtain ⟨q7, c7, rfl⟩ := own_shape HE.out.o
      clear hz
      have hlen := HI.out.len
      by_cases h57 : z = 5 ∨ z = 7
      · obtain ⟨i0, hi0, hz0, hz1, hz2⟩ := infoInt
        have hrow := HE.out.o
        have hone : ∀ u ∈ [Value.int .i64 (i : Nat)], u.oneCell' = true := by intro u hu; rw [List.mem_singleton.1 hu]; rfl
        have HPU := Lib.hid (HI.out.push (by rw [HKL.out]; exact hlt) (by rw [HZ.out]; rcases h57 with rfl | rfl <;> simp))
        have HGU := Lib.hid (goP_push HZ.out (by rcases h57 with rfl | rfl <;> simp) HG.out)
        have h3 := HE.out.h3
        have hnew : ∀ o : Obj, ∀ (j : Nat) (u : Value), [Value.int .i64 (i : Nat)][j]? = some u → ((wr.alloc o).alloc (.cells #[.int .i64 (i : Nat)] 3)).cell? ((⟨wr.heap.size + 1, 0, none⟩ : Addr).add j) = some u := fun o => by
          have h := row_new (wr.alloc o) [.int .i64 (i : Nat)] 3
          rw [World.size_alloc] at h
          exact h
        rcases h57 with rfl | rfl
        all_goals
          go_wp2_with (at_builtin; refine wpList_append_own_at _ rfl _ _ 24 rfl H3 3 i0 _ 1 8 und_ints hi0 hz0 hz1 hz2 rfl (by decide) _ _ _ rfl ((hrow.alloc _).alloc _) ⟨wr.heap.size + 1, 0, none⟩ 1 1 [.int .i64 (i : Nat)] rfl rfl (hnew _) hone (by unfold maxLen; omega) (by omega) (by simp; omega) ?_)
          intro v9 w9 hown9 hgrow9 _ _
          obtain ⟨q9, c9, rfl⟩ := own_shape hown9
          have HE9 := Lib.hid (((HE.out.alloc _).alloc _).push hown9 hgrow9)
          clear hown9 hgrow9
          go_wp2_with fail
          exact ⟨⟨i + 1, i :: op, E, L, es, by omega, by go_num, HE9, HPU, HGU⟩, by simp [intOf]; omega⟩
      by_cases h68 : z = 6 ∨ z = 8
      · rcases h68 with rfl | rfl
        · cases op with
          | nil =>
            have HGU := Lib.hid (goP_else_bad HZ.out (fun t op' e => by cases e) HG.out)
            go_wp2_with fail
            go_ret3
            refine ⟨HE.out.b.alloc HE.out.b.size _, ?_⟩
            rw [HGU.out]
            rfl
          | cons t op =>
            obtain ⟨g7, c7', hv7, hc7, htop, _⟩ := HE.out.top
            have htn : t < n := by have := (HI.out.lt t (by simp)).1; omega
            obtain ⟨g5, rfl, hb5, he, hef, _⟩ := HE.out.eAt t htn
            obtain ⟨g6, rfl, hl, hlf, hls⟩ := HE.out.lAt t htn
            have HS := Lib.hid hls
            clear hls
            injection hv7 with hv7 _ hv8
            subst hv7 hv8
            have hg7 : g7 < wr.heap.size := World.block_lt_of_cell? _ _ htop
            have hg6 : g6 < wr.heap.size := World.block_lt_of_cell? _ _ hl
            have htn' : (t : Int) < (n : Int) := by omega
            obtain ⟨zt, hzt⟩ : ∃ z, zs[t]? = some z := ⟨_, List.getElem?_eq_getElem (by rw [HN.out]; exact htn)⟩
            have HZT := Lib.hid (show ks[t]? = some zt.toNat by rw [← HK.out, List.getElem?_map, hzt]; rfl)
            obtain ⟨g', s', x1, x2, x3, y1, y2, y3, hq, d0, _, _, _⟩ := (HB.out.below HE.out.b) t zt hzt
            injection hq with hq
            injection hq with hq
            subst hq
            clear hzt
            by_cases h5 : zt = 5
            · subst h5
              by_cases hu : 0 ≤ gI L t
              · have HGU := Lib.hid (goP_else_bad HZ.out (fun t' op' e c => by injection e with e1 e2; subst e1; have := c.2; omega) HG.out)
                go_wp2_with fail
                go_ret3
                refine ⟨HE.out.b.alloc HE.out.b.size _, ?_⟩
                rw [HGU.out]
                rfl
              · have hu1 : gI L t < 0 := by omega
                have HGU := Lib.hid (goP_else HZ.out HZT.out hu1 HG.out)
                have HPU := Lib.hid (HI.out.put (by rw [HKL.out]; exact hlt) HZ.out HZT.out hu1)
                go_wp2_with fail
                exact ⟨⟨i + 1, t :: op, E, _, es, by omega, by go_num, Lib.hid ((HS.out i).alloc _), HPU, HGU⟩, by simp [intOf]; omega⟩
            · have HGU := Lib.hid (goP_else_bad HZ.out (fun t' op' e c => by
                injection e with e1 e2; subst e1
                have h := c.1
                rw [HZT.out] at h
                injection h with h
                omega) HG.out)
              have e5 : (zt == 5) = false := by simp; omega
              have e5' : (zt != 5) = true := by simp; omega
              go_wp2_with fail
              go_ret3
              refine ⟨HE.out.b.alloc HE.out.b.size _, ?_⟩
              rw [HGU.out]
              rfl
        · cases op with
          | nil =>
            have HGU := Lib.hid (goP_end_bad HZ.out HG.out)
            go_wp2_with fail
            go_ret3
            refine ⟨HE.out.b.alloc HE.out.b.size _, ?_⟩
            rw [HGU.out]
            rfl
          | cons t op =>
            have HGU := Lib.hid (goP_end HZ.out HG.out)
            have HPU := Lib.hid (HI.out.pop (by rw [HKL.out]; exact hlt))
            obtain ⟨g7, c7', hv7, hc7, htop, _⟩ := HE.out.top
            have htn : t < n := by have := (HI.out.lt t (by simp)).1; omega
            obtain ⟨g5, rfl, hb5, he, hef, _⟩ := HE.out.eAt t htn
            obtain ⟨g6, rfl, hl, hlf, _⟩ := HE.out.lAt t htn
            injection hv7 with hv7 _ hv8
            subst hv7 hv8
            have hg7 : g7 < wr.heap.size := World.block_lt_of_cell? _ _ htop
            have hg5 : g5 < wr.heap.size := World.block_lt_of_cell? _ _ he
            have hg6 : g6 < wr.heap.size := World.block_lt_of_cell? _ _ hl
            have hn1 : ¬ g6 = g5 := by
              have h1 := HE.out.be g5 rfl
              have h2 := (HE.out.l.lt g6 rfl).1
              omega
            have htn' : (t : Int) < (n : Int) := by omega
            by_cases hu : 0 ≤ gI L t
            · have hel := HI.out.els t hu
              obtain ⟨u, hu'⟩ : ∃ u : Nat, gI L t = (u : Int) := ⟨_, (Int.toNat_of_nonneg hu).symm⟩
              have hun : u < n := by have := hel.1; rw [hu'] at this; omega
              have hut : ¬ u = t := by
                rintro rfl
                have h1 := hel.2.1
                rw [hu'] at h1
                have h2 := hel.2.2.1
                rw [show ((u : Int)).toNat = u from by omega, h2] at h1
                cases h1
              have hun' : (u : Int) < (n : Int) := by omega
              obtain ⟨g5', hq, _, he2, hef2, _⟩ := HE.out.eAt u hun
              injection hq with hq
              injection hq with hq
              subst hq
              have HC2 := Lib.hid (HE.out.close2 htn i hun hu')
              rw [hu'] at hl
              have hu0 : (0 : Int) ≤ (u : Int) := by omega
              clear hel hu hu'
              go_wp2_with fail
              exact ⟨⟨i + 1, op, _, L, _, by omega, by go_num, Lib.hid (HC2.out.alloc _), HPU, HGU⟩, by simp [intOf]; omega⟩
            · have hu1 : gI L t < 0 := by omega
              have HC2 := Lib.hid (HE.out.close1 htn i hu1)
              go_wp2_with fail
              exact ⟨⟨i + 1, op, _, L, _, by omega, by go_num, Lib.hid (HC2.out.alloc _), HPU, HGU⟩, by simp [intOf]; omega⟩
      · have h6 : ¬ z = 6 := fun e => h68 (.inl e)
        have h8 : ¬ z = 8 := fun e => h68 (.inr e)
        have e5 : (z == 5) = false := by simp; omega
        have e6 : (z == 6) = false := by simp; omega
        have e7 : (z == 7) = false := by simp; omega
        have e8 : (z == 8) = false := by simp; omega
        have HPU := Lib.hid (HI.out.skip (by rw [HKL.out]; exact hlt))
        have HGU := Lib.hid (goP_skip HZ.out (by omega) (by omega) (by omega) (by omega) HG.out)
        go_wp2_with fail
        exact ⟨⟨i + 1, op, E, L, es, by omega, by go_num, Lib.hid (HE.out.alloc _), HPU, HGU⟩, by simp [intOf]; omega⟩
    · obtain rfl : i = n := by omega
      have hg := HG.out
      rw [← HKL.out] at hg
      have HD := Lib.hid (goP_done hg)
      clear hg
      obtain ⟨q7, c7, rfl⟩ := own_shape HE.out.o
      cases op with
      | nil =>
        go_wp2_with fail
        go_ret3
        refine ⟨HE.out.b, ?_⟩
        rw [show endsM ks = some (E, L) from by rw [HD.out]; simp]
        exact ⟨q5, i, q6, c6, H2, rfl, own_mono HE.out.e HE.out.h0, own_mono HE.out.l (by have := HE.out.h0; have := HE.out.h1; omega), HE.out.be, fun k hk => (HE.out.l.lt k hk).1⟩
      | cons t op =>
        go_wp2_with fail
        go_ret3
        refine ⟨HE.out.b, ?_⟩
        rw [HD.out, if_neg (by simp)]
        rfl
end Go.Proofs.Ytnmcjkabihihiaa
