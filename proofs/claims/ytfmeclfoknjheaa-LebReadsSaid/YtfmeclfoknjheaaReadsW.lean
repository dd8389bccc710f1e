/- LebReads: the law's walk, in every memory. -/
import Derived.Test.YtfmeclfoknjheaaK
import Derived.Test.YtfmeclfoknjheaaKb
namespace Go.Proofs.Ytfmeclfoknjheaa
open Go Go.RowKit

theorem Rd.apart {B R T : Nat} {q : Option Addr} {cap : Nat} {l : List Nat} {pos e : Nat} {w w' : World} (h : Rd B R q cap l pos e w) (hb : But T w w') (hR : R ≠ T) (hq : ∀ a, q = some a → a.block ≠ T) : Rd B R q cap l pos e w' :=
  ⟨hb.cell h.c0 hR, hb.cell h.c1 hR, hb.cell h.c2 hR, hb.frozen h.c1 h.f1 hR, hb.frozen h.c2 h.f2 hR, h.le, h.lc, h.cm, h.nil, fun i hi => by
    obtain ⟨b, off, he, hlt, hc⟩ := h.row i hi
    exact ⟨b, off, he, hlt, hb.cell hc (hq ⟨b, off, none⟩ he)⟩, h.low⟩

/-- Both readers, and the bytes that were lent out. -/
structure Rs (w wr : World) (q0 R S : Nat) (q : Option Addr) (cap : Nat) (p : Option Addr) (c : Nat) (l : List Nat) (pos e : Nat) : Prop where
  low : Below w.heap.size w wr
  lent : ∀ i, i < l.length → (∃ x : Nat, wr.cell? ⟨q0, i, none⟩ = some (.int .u8 (x : Int))) ∧ wr.frozen? ⟨q0, i, none⟩ = false
  one : Rd R R q cap l pos e wr
  two : Rd w.heap.size S p c l pos e wr
  qn : ∀ a, q = some a → a.block ≠ q0
  oq : w.heap.size ≤ q0
  qR : q0 < R
  RS : R < S
theorem Rs.below {w wr w' : World} {q0 R S : Nat} {q : Option Addr} {cap : Nat} {p : Option Addr} {c : Nat} {l : List Nat} {pos e : Nat} (h : Rs w wr q0 R S q cap p c l pos e) (hb : Below wr.heap.size wr w') : Rs w w' q0 R S q cap p c l pos e :=
  ⟨h.low.trans (hb.mono h.low.size), fun i hi => by
    obtain ⟨⟨x, hx⟩, hf⟩ := h.lent i hi
    exact ⟨⟨x, (But.of_below (R := wr.heap.size) hb).cell hx (Nat.ne_of_lt (World.block_lt_of_cell? _ _ hx))⟩, (But.of_below (R := wr.heap.size) hb).frozen hx hf (Nat.ne_of_lt (World.block_lt_of_cell? _ _ hx))⟩,
    h.one.below hb, h.two.below hb, h.qn, h.oq, h.qR, h.RS⟩
theorem Rs.wrote {w wr : World} {q0 R S : Nat} {q : Option Addr} {cap : Nat} {p : Option Addr} {c : Nat} {l : List Nat} {pos e : Nat} (h : Rs w wr q0 R S q cap p c l pos e) (i x : Nat) (hi : i < l.length) : Rs w (wr.setCell ⟨q0, i, none⟩ (.int .u8 (x : Int))) q0 R S q cap p c l pos e := by
  have hb := But.set (R := q0) wr i (.int .u8 (x : Int))
  have h1 := h.oq
  have h2 := h.qR
  have h3 := h.RS
  refine ⟨h.low.setCell (p := ⟨q0, i, none⟩) h1 _, fun j hj => ?_, h.one.apart hb (by omega) h.qn, h.two.other hb (by omega) h1, h.qn, h1, h2, h3⟩
  obtain ⟨⟨y, hy⟩, hf⟩ := h.lent j hj
  obtain ⟨⟨y2, hy2⟩, _⟩ := h.lent i hi
  refine ⟨?_, by rw [World.frozen?_setCell]; exact hf⟩
  by_cases hij : i = j
  · subst hij
    exact ⟨x, World.cell?_setCell_same _ _ _ hy⟩
  · exact ⟨y, by rw [World.cell?_setCell_other _ _ _ _ (fun e => hij (congrArg Addr.off e))]; exact hy⟩
theorem Rs.stepped {w wr w1 w2 : World} {q0 R S : Nat} {q : Option Addr} {cap : Nat} {p : Option Addr} {c : Nat} {l : List Nat} {pos e pos' e' : Nat} (h : Rs w wr q0 R S q cap p c l pos e) (h1 : Rd R R q cap l pos' e' w1) (b1 : But R wr w1)
    (h2 : Rd w.heap.size S p c l pos' e' w2) (b2 : But S w1 w2) : Rs w w2 q0 R S q cap p c l pos' e' := by
  have g1 := h.oq
  have g2 := h.qR
  have g3 := h.RS
  have hsz := h.low.size
  refine ⟨h.low.trans ((b1.low hsz (by omega)).trans (b2.low (Nat.le_trans hsz b1.size) (by omega))), fun i hi => ?_, h1.other b2 (by omega) (by omega), h2, h.qn, g1, g2, g3⟩
  obtain ⟨⟨x, hx⟩, hf⟩ := h.lent i hi
  have n1 : (⟨q0, i, none⟩ : Addr).block ≠ R := by simp; omega
  have n2 : (⟨q0, i, none⟩ : Addr).block ≠ S := by simp; omega
  exact ⟨⟨x, b2.cell (b1.cell hx n1) n2⟩, b2.frozen (b1.cell hx n1) (b1.frozen hx hf n1) n2⟩
/-- The first of them alone has gone on. -/
theorem Rs.half {w wr w1 : World} {q0 R S : Nat} {q : Option Addr} {cap : Nat} {p : Option Addr} {c : Nat} {l : List Nat} {pos e : Nat} (h : Rs w wr q0 R S q cap p c l pos e) (b1 : But R wr w1) : Rd w.heap.size S p c l pos e w1 :=
  h.two.other b1 (by have := h.RS; omega) (by have := h.oq; have := h.qR; omega)

theorem lent_cell {w : World} {b g cap : Nat} {xs : List Nat} (h : w.ownsRow b 5 1 (.slice (some ⟨g, 0, none⟩) (xs.length + 1) cap) (xs.length + 1) (bv (xs ++ [markB]))) (i : Nat) (hi : i < xs.length) :
    w.cell? ⟨g, i, none⟩ = some (.int .u8 ((xs.getD i 0 : Nat) : Int)) := by
  obtain ⟨b', o', he, _, hc⟩ := (lent_row h).1 i hi
  cases he
  rwa [Nat.zero_add] at hc

set_option maxRecDepth 100000 in
set_option maxHeartbeats 4000000 in
theorem reads_any (p : Option Addr) (c : Nat) (ns : List Nat) (hp : (p = none ∧ ns = [] ∧ c = 0) ∨ ∃ ad, p = some ad ∧ (0 < c → ad.spot = none)) (hl : ns.length ≤ c) (hm : c ≤ maxLen) (hb : ns.length + 1 ≤ 140737488355328) (hx : bytesL ns)
    (p2 : Option Addr) (c2 : Nat) (sc : List Nat) (hl2 : sc.length ≤ maxLen) (w : World) (hs : ByIn w.heap.size w p ns) (hs2 : ByIn w.heap.size w p2 sc) :
    Calls Try.prog 5 #[.slice p ns.length c, .slice p2 sc.length c2] w fun e w' => e = .returned (.bool true) ∧ Below w.heap.size w w' := by
  have hp' : (p = none ∧ ns = [] ∧ c = 0) ∨ ∃ ad, p = some ad := hp.imp id (fun ⟨ad, h, _⟩ => ⟨ad, h⟩)
  have HP := Lib.hid hp
  have h1 := Lib.hid (lent_any p c ns hp' hb w hs)
  have h2 := Lib.hid (fun (w1 : World) (q : Nat) (cap : Nat) (hin : ByIn w1.heap.size w1 (some ⟨q, 0, none⟩) ns) => new_any (some ⟨q, 0, none⟩) cap ns (.inr ⟨_, rfl⟩) (by omega) w1 hin)
  have h4 := Lib.hid (fun (w1 : World) (q : Nat) (cap : Nat) (hB : Below w.heap.size w w1) (hin : ByIn w1.heap.size w1 (some ⟨q, 0, none⟩) ns) (hc : ns.length + 1 ≤ cap) (hcm : cap ≤ maxLen) (hq : q < w1.heap.size) (hk : w1.cell? ⟨q, ns.length, none⟩ = some (.int .u8 201)) =>
    kept_any q p cap c ns hc hcm w1 hin (hs.below hB (Nat.le_refl _) hB.size) hq hk)
  have HS := Lib.hid hs
  have HS2 := Lib.hid hs2
  clear hp hp' hs hs2
  obtain ⟨n, hn⟩ : ∃ n, ns.length = n := ⟨_, rfl⟩
  obtain ⟨m, hmm⟩ : ∃ m, sc.length = m := ⟨_, rfl⟩
  have HN := Lib.hid (And.intro hn hmm)
  rw [hn] at h1 h2 h4 hl hb ⊢
  rw [hmm] at hl2 ⊢
  clear hn hmm
  unfold maxLen at hl2
  have hmx := hm
  unfold maxLen at hmx
  go_enter Try.func5, Try.ntmps5
  go_wp2_with fail
  refine h1.out.mono ?_
  rintro e w1 ⟨q0, cap1, rfl, hq0, hcap1, hrow, hB1⟩
  have hrow' := hrow
  rw [← HN.out.1] at hrow'
  obtain ⟨hin, hk, hq, _, hcm⟩ := lent_row hrow'
  rw [HN.out.1] at hk
  have HROW := Lib.hid (And.intro hrow (And.intro hin hk))
  clear h1 hrow hrow' hin hk
  go_wp2_with fail
  refine (h2.out w1 q0 cap1 HROW.out.2.1).mono ?_
  rintro e w2 ⟨R, qr, capr, rfl, hRd, hRs, hqr, hB2⟩
  have HRD := Lib.hid (And.intro hRd (And.intro hqr hB2))
  clear hRd hqr hB2 h2
  go_wp2_with fail
  have hlow2 : Below w.heap.size w w2 := hB1.trans (HRD.out.2.2.mono hB1.size)
  have hB23 : Below w2.heap.size w2 (w2.alloc (.cells #[.slice p n c, .int .i64 0, .int .i64 0] 50)) := (Below.refl _ _).alloc (Nat.le_refl _) _
  have hcell : ∀ i v, (#[Value.slice p n c, .int .i64 0, .int .i64 0] : Array Value)[i]? = some v → (w2.alloc (.cells #[.slice p n c, .int .i64 0, .int .i64 0] 50)).cell? ⟨w2.heap.size, i, none⟩ = some v := fun i v h => by
    rw [World.cell?_alloc_new]; exact h
  have hfz : ∀ i, (w2.alloc (.cells #[.slice p n c, .int .i64 0, .int .i64 0] 50)).frozen? ⟨w2.heap.size, i, none⟩ = false := fun i => World.frozen?_alloc_new ..
  generalize w2.alloc (.cells #[.slice p n c, .int .i64 0, .int .i64 0] 50) = w3 at hB23 hcell hfz ⊢
  have hlow3 : Below w.heap.size w w3 := hlow2.trans (hB23.mono hlow2.size)
  have hB13 : Below w1.heap.size w1 w3 := HRD.out.2.2.trans (hB23.mono HRD.out.2.2.size)
  have hR2 : R < w2.heap.size := World.block_lt_of_cell? _ _ HRD.out.1.c0
  have hRs3 : Rs w w3 q0 R w2.heap.size qr capr p c ns 0 0 := by
    refine ⟨hlow3, fun i hi => ?_, HRD.out.1.below hB23, ?_, fun a ha => ?_, hq0, Nat.lt_of_lt_of_le hq hRs, hR2⟩
    · have hrow := HROW.out.1
      rw [← HN.out.1] at hrow
      have hcl := lent_cell hrow i (by omega)
      have hfr := hrow.frozenAt i
      have hne : (⟨q0, i, none⟩ : Addr).block ≠ w1.heap.size := Nat.ne_of_lt hq
      exact ⟨⟨_, (But.of_below (R := w1.heap.size) hB13).cell hcl hne⟩, (But.of_below (R := w1.heap.size) hB13).frozen hcl hfr hne⟩
    · refine ⟨by rw [HN.out.1]; exact hcell 0 _ rfl, hcell 1 _ rfl, hcell 2 _ rfl, hfz 1, hfz 2, Nat.zero_le _, by rw [HN.out.1]; exact hl, hm, HP.out, ?_, hlow2.size⟩
      intro i hi
      obtain ⟨b, off, he, hlt, hc⟩ := HS.out i hi
      exact ⟨b, off, he, hlt, (hlow3.cell (p := ⟨b, off + i, none⟩) hlt).trans hc⟩
    · have := HRD.out.2.1 a ha
      omega
  have hkp := h4.out w3 q0 cap1 hlow3 (HROW.out.2.1.below hB13 (Nat.le_refl _) hB13.size) hcap1 hcm (Nat.lt_of_lt_of_le hq hB13.size) ((hB13.cell (p := ⟨q0, n, none⟩) hq).trans HROW.out.2.2)
  have HKP := Lib.hid hkp
  have HRS := Lib.hid hRs3
  clear h4 hkp hRs3 HROW HRD hcell hfz hB23 hB13 hlow2 hlow3 HP hB1
  generalize w2.heap.size = S at HRS hR2 ⊢
  refine HKP.out.mono ?_
  rintro e w4 ⟨rfl, hB4⟩
  have HR4 := Lib.hid (HRS.out.below hB4)
  clear HKP HRS hB4
  have hcn : (n : Int) ≤ (cap1 : Int) := by omega
  go_wp2_with fail
  go_loopw [8] (fun i wr => ∃ j : Nat, j ≤ n ∧ i = .int .i64 j ∧ Rs w wr q0 R S qr capr p c ns 0 0) (fun i _ => n - (intOf i).toNat)
  case atStart => exact ⟨0, Nat.zero_le _, rfl, HR4.out⟩
  case round =>
    obtain ⟨j, hj, rfl, hRs⟩ := hrel
    by_cases hlt : j < n
    · have hji : (j : Int) < (n : Int) := by omega
      obtain ⟨⟨x, hxc⟩, hfr⟩ := hRs.lent j (by rw [HN.out.1]; exact hlt)
      obtain ⟨y, hy⟩ : ∃ y : Nat, ((x : Int) + 77) % 256 = (y : Int) := ⟨(x + 77) % 256, by omega⟩
      have HF := Lib.hid (hRs.wrote j y (by rw [HN.out.1]; exact hlt))
      clear hRs HR4
      go_wp2
      exact ⟨⟨j + 1, by omega, by go_num, HF.out⟩, by simp [intOf]; omega⟩
    · have hji : ¬ (j : Int) < (n : Int) := by omega
      have HRr := Lib.hid hRs
      clear hRs HR4
      go_wp2_with fail
      go_loopw [9] (fun i wr => ∃ (t pos e : Nat), t ≤ m ∧ i = .int .i64 t ∧ Rs w wr q0 R S qr capr p c ns pos e) (fun i _ => m - (intOf i).toNat)
      case atStart => exact ⟨0, 0, 0, Nat.zero_le _, rfl, HRr.out⟩
      case round =>
        obtain ⟨t, pos, e, ht, rfl, hRs⟩ := hrel
        by_cases htl : t < m
        · have hti : (t : Int) < (m : Int) := by omega
          obtain ⟨b, off, rfl, hblt, hc⟩ := HS2.out t (by rw [HN.out.2]; exact htl)
          have hcr := (hRs.low.cell (p := ⟨b, off + t, none⟩) hblt).trans hc
          generalize sc.getD t 0 = y at hcr
          have HT := Lib.hid hRs
          clear hRs HRr hc HS HS2 hblt
          go_upto_block 4 with (fail)
          go_cut [9] (fun a wx => a = .int .i64 (t : Int) ∧ ∃ pos' e' : Nat, Rs w wx q0 R S qr capr p c ns pos' e')
          case first =>
            by_cases hy0 : y = 0
            · subst hy0
              have C1 := Lib.hid (Unsigned_any HT.out.one hx)
              go_wp2_with fail
              refine C1.out.mono ?_
              rintro r w5 ⟨rfl, hA, hB⟩
              have C2 := Lib.hid (refUnsigned_any (HT.out.half hB) hx)
              have HA := Lib.hid (And.intro hA hB)
              clear C1 hA hB
              go_wp2_with fail
              refine C2.out.mono ?_
              rintro r w6 ⟨rfl, hA, hB⟩
              have HX := Lib.hid (HT.out.stepped HA.out.1 HA.out.2 hA hB)
              clear C2 hA hB HA HT
              go_wp2_with fail
              go_meet
              exact ⟨rfl, _, _, HX.out⟩
            · have hy0' : ((y : Int) == 0) = false := by simp; omega
              by_cases hy1 : y = 1
              · subst hy1
                have C1 := Lib.hid (Signed_any HT.out.one hx)
                clear hy0 hy0'
                go_wp2_with fail
                refine C1.out.mono ?_
                rintro r w5 ⟨rfl, hA, hB⟩
                have C2 := Lib.hid (refSigned_any (HT.out.half hB) hx)
                have HA := Lib.hid (And.intro hA hB)
                clear C1 hA hB
                go_wp2_with fail
                refine C2.out.mono ?_
                rintro r w6 ⟨rfl, hA, hB⟩
                have HX := Lib.hid (HT.out.stepped HA.out.1 HA.out.2 hA hB)
                clear C2 hA hB HA HT
                go_wp2_with fail
                go_meet
                exact ⟨rfl, _, _, HX.out⟩
              · have hy1' : ((y : Int) == 1) = false := by simp; omega
                have C1 := Lib.hid (Byte_any HT.out.one)
                clear hy0 hy1
                go_wp2_with fail
                refine C1.out.mono ?_
                rintro r w5 ⟨rfl, hA, hB⟩
                have C2 := Lib.hid (refByte_any (HT.out.half hB))
                have HA := Lib.hid (And.intro hA hB)
                clear C1 hA hB
                go_wp2_with fail
                refine C2.out.mono ?_
                rintro r w6 ⟨rfl, hA, hB⟩
                have HX := Lib.hid (HT.out.stepped HA.out.1 HA.out.2 hA hB)
                clear C2 hA hB HA HT
                go_wp2_with fail
                go_meet
                exact ⟨rfl, _, _, HX.out⟩
          case rest =>
            obtain ⟨rfl, pos', e', hR'⟩ := hcut
            clear HT hcr
            have k1 := hR'.two.c1
            have k2 := hR'.two.c2
            have hSlt := World.block_lt_of_cell? _ _ hR'.two.c0
            have hSlt' : S < wc.heap.size := hSlt
            have hle : (pos' : Int) ≤ (n : Int) := by have := hR'.two.le; rw [HN.out.1] at this; omega
            obtain ⟨d, hd⟩ : ∃ d : Nat, (n : Int) - (pos' : Int) = (d : Int) := ⟨n - pos', by omega⟩
            have hwd : IntKind.i64.wrap (d : Int) = (d : Int) := by rw [wrap_i64]; exact wrap_id (by omega) (by omega)
            have keep : ∀ W, Below wc.heap.size wc W → W.cell? ⟨S, 1, none⟩ = some (.int .i64 (pos' : Int)) ∧ W.cell? ⟨S, 2, none⟩ = some (.int .i64 (e' : Int)) ∧ Below wc.heap.size wc W := fun W hW =>
              ⟨(hW.cell (p := ⟨S, 1, none⟩) hSlt).trans k1, (hW.cell (p := ⟨S, 2, none⟩) hSlt).trans k2, hW⟩
            have HL := Lib.hid (fun (W : World) (hW : Below wc.heap.size wc W) => (Left_any (hR'.one.below hW)).mono (fun r w' (h : r = .returned (.int .i64 ((ns.length : Int) - (pos' : Int))) ∧ Below W.heap.size W w') =>
              show r = .returned (.int .i64 (d : Int)) ∧ w'.cell? ⟨S, 1, none⟩ = some (.int .i64 (pos' : Int)) ∧ w'.cell? ⟨S, 2, none⟩ = some (.int .i64 (e' : Int)) ∧ Below wc.heap.size wc w' from
                ⟨by rw [h.1, HN.out.1, hd], keep w' (hW.trans (h.2.mono hW.size))⟩))
            have HA := Lib.hid (fun (W : World) (hW : Below wc.heap.size wc W) => At_any (hR'.one.below hW))
            have HE := Lib.hid (fun (W : World) (hW : Below wc.heap.size wc W) => Err_any (hR'.one.below hW))
            have hd0 := keep wc.drew (Below.refl _ _).drew
            have HR2 := Lib.hid hR'
            have hmix : Try.prog.follows .mixedOrders = true := by kernel_rfl
            clear keep hR' k1 k2
            go_upto_region 22 with (fail)
            go_cut [91] (fun r wx => r = .bool false ∧ Below wc.heap.size wc wx)
            case first =>
              as_aux_lemma =>
                go_region_held3 (fun w' => w'.cell? ⟨S, 1, none⟩ = some (.int .i64 (pos' : Int)) ∧ w'.cell? ⟨S, 2, none⟩ = some (.int .i64 (e' : Int)) ∧ Below wc.heap.size wc w') (first | assumption)
                  (first
                    | (go_at_call 30; refine (HL.out _ (And.right (And.right (by assumption)))).mono ?_; rintro r w' ⟨rfl, hS⟩)
                    | (go_at_call 31; refine (HA.out _ (And.right (And.right (by assumption)))).mono ?_; rintro r w' ⟨rfl, rfl⟩)
                    | (go_at_call 32; refine (HE.out _ (And.right (And.right (by assumption)))).mono ?_; rintro r w' ⟨rfl, rfl⟩))
                all_goals
                  go_wp2
                  go_meet
                  exact ⟨rfl, And.right (And.right (by assumption))⟩
            case rest =>
              obtain ⟨rfl, hbf⟩ := hcut
              have HF := Lib.hid (HR2.out.below hbf)
              clear HL HA HE HR2 hbf hd0
              go_wp2
              exact ⟨⟨t + 1, pos', e', by omega, by go_num, HF.out⟩, by simp [intOf]; omega⟩
        · have hti : ¬ (t : Int) < (m : Int) := by omega
          have hR' := hRs
          have k1 := hR'.two.c1
          have hSlt := World.block_lt_of_cell? _ _ hR'.two.c0
          have hle : (pos : Int) ≤ (n : Int) := by have := hR'.two.le; rw [HN.out.1] at this; omega
          obtain ⟨d, hd⟩ : ∃ d : Nat, (n : Int) - (pos : Int) = (d : Int) := ⟨n - pos, by omega⟩
          have hwd : IntKind.i64.wrap (d : Int) = (d : Int) := by rw [wrap_i64]; exact wrap_id (by omega) (by omega)
          have keep : ∀ W, Below wr.heap.size wr W → W.cell? ⟨S, 1, none⟩ = some (.int .i64 (pos : Int)) ∧ Below wr.heap.size wr W := fun W hW =>
            ⟨(hW.cell (p := ⟨S, 1, none⟩) hSlt).trans k1, hW⟩
          have HL := Lib.hid (fun (W : World) (hW : Below wr.heap.size wr W) => (Left_any (hR'.one.below hW)).mono (fun r w' (h : r = .returned (.int .i64 ((ns.length : Int) - (pos : Int))) ∧ Below W.heap.size W w') =>
            show r = .returned (.int .i64 (d : Int)) ∧ w'.cell? ⟨S, 1, none⟩ = some (.int .i64 (pos : Int)) ∧ Below wr.heap.size wr w' from
              ⟨by rw [h.1, HN.out.1, hd], keep w' (hW.trans (h.2.mono hW.size))⟩))
          have HW := Lib.hid (fun (W : World) (hW : Below wr.heap.size wr W) => (awake_any W).mono (fun r w' (h : r = .returned (.bool true) ∧ Below W.heap.size W w') =>
            show r = .returned (.bool true) ∧ w'.cell? ⟨S, 1, none⟩ = some (.int .i64 (pos : Int)) ∧ Below wr.heap.size wr w' from
              ⟨h.1, keep w' (hW.trans (h.2.mono hW.size))⟩))
          have hd0 := keep wr.drew (Below.refl _ _).drew
          have HR2 := Lib.hid hR'.low
          have hmix : Try.prog.follows .mixedOrders = true := by kernel_rfl
          clear keep hR' k1 hRs HRr
          go_upto_region 24 with (fail)
          go_cut [4] (fun r wx => r = .bool true ∧ Below wr.heap.size wr wx)
          case first =>
            as_aux_lemma =>
              go_region_held3 (fun w' => w'.cell? ⟨S, 1, none⟩ = some (.int .i64 (pos : Int)) ∧ Below wr.heap.size wr w') (first | assumption)
                (first
                  | (go_at_call 30; refine (HL.out _ (And.right (by assumption))).mono ?_; rintro r w' ⟨rfl, hS⟩)
                  | (go_at_call 18; refine (HW.out _ (And.right (by assumption))).mono ?_; rintro r w' ⟨rfl, hS⟩))
              all_goals
                go_wp2
                go_meet
                exact ⟨rfl, And.right (by assumption)⟩
          case rest =>
            obtain ⟨rfl, hbf⟩ := hcut
            clear HL HW hd0
            go_wp2
            go_ret
            exact ⟨rfl, HR2.out.trans (hbf.mono HR2.out.size)⟩
end Go.Proofs.Ytfmeclfoknjheaa
