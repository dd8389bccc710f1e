/- The walk of SyntaxEnds. -/
import Derived.Test.YtnmcjkabihihiaaEQ
import Derived.Test.YtnmcjkabihihiaaIG
namespace Go.Proofs.Ytnmcjkabihihiaa
open Go Go.RowKit Go.Proofs.Mm

/-- A row of whole numbers that can be read. -/
def IntsRd (w : World) (q : Option Addr) (l : List Int) : Prop := ∀ j (hj : j < l.length), ∃ g, q = some ⟨g, 0, none⟩ ∧ w.cell? ⟨g, j, none⟩ = some (.int .i64 l[j])
theorem own_ints {w : World} {B n c : Nat} {q : Option Addr} {l : List Int} (h : w.ownsRow B 3 1 (.slice q n c) n (ivs l)) : l.length = n ∧ IntsRd w q l := by
  have hl : l.length = n := by have := h.1; simpa [ivs] using this
  refine ⟨hl, fun j hj => ?_⟩
  obtain ⟨g, rfl, _, _⟩ := own_not_zero h (by omega)
  refine ⟨g, rfl, ?_⟩
  rw [h.cellAt j (by omega)]
  unfold ivs
  rw [List.getElem?_map, List.getElem?_eq_getElem hj]; rfl
theorem IntsRd.below {w w' : World} {q : Option Addr} {l : List Int} (h : IntsRd w q l) (hb : Below w.heap.size w w') : IntsRd w' q l := fun j hj => by
  obtain ⟨g, h1, h2⟩ := h j hj
  exact ⟨g, h1, below_cle hb _ _ h2⟩
set_option maxRecDepth 100000 in
set_option maxHeartbeats 1000000 in
theorem ints_true {w : World} {q q' : Option Addr} {n c c' : Nat} {l : List Int} (hn : l.length = n) (hm : n ≤ 2199023255552) (ha : IntsRd w q l) (hb : IntsRd w q' l) : Calls Try.prog 7 #[.slice q n c, .slice q' n c'] w (Yes w) := by
  have HN := Lib.hid hn
  have HA := Lib.hid ha
  have HB := Lib.hid hb
  have hneq : ((n : Int) != (n : Int)) = false := by simp
  clear ha hb hn
  go_enter Try.func7, Try.ntmps7
  go_wp2
  go_loopw [5] (fun i wr => ∃ k nq : Nat, k ≤ n ∧ i = .int .i64 k ∧ wr = w.drewN nq) (fun i _ => n - (intOf i).toNat)
  case atStart => exact ⟨0, 0, Nat.zero_le _, rfl, rfl⟩
  case round =>
    obtain ⟨k, nq, hk, rfl, rfl⟩ := hrel
    by_cases hlt : k < n
    · have hk' : k < l.length := by rw [HN.out]; exact hlt
      obtain ⟨g, rfl, a1⟩ := HA.out k hk'
      obtain ⟨g', rfl, b1⟩ := HB.out k hk'
      generalize l[k] = z at *
      have hki : (k : Int) < (n : Int) := by omega
      have e1 : (z == z) = true := by simp
      have e2 : (z != z) = false := by simp
      go_wp2
      go_quiet (fail)
      go_wp2
      exact ⟨⟨k + 1, _, by omega, by go_num, rfl⟩, by simp [intOf]; omega⟩
    · obtain rfl : k = n := by omega
      go_wp2
      go_ret
      exact yes_1
theorem below_dN {B : Nat} {w w' : World} (h : Below B w w') (n : Nat) : Below B w (w'.drewN n) := ⟨h.os, h.tape, h.output, h.size, h.block⟩
theorem BdR.kinds {lt : Bool} {w : World} {v : Value} {l : List StZ} (h : BdR lt (wC w) v l) : ∃ q c, v = .slice q l.length c ∧ l.length ≤ 2199023255552 ∧ BodyK w q (l.map (·.kind)) := by
  obtain ⟨q, c, rfl, _, _, _, ha, _⟩ := h.at (by decide) st_len
  have hl : l.length ≤ 2199023255552 := by obtain ⟨_, _, _, _, _, _, _, h5, _⟩ := h; omega
  refine ⟨q, c, rfl, hl, fun j z hz => ?_⟩
  rw [List.getElem?_map] at hz
  obtain ⟨s, hs, rfl⟩ := Option.map_eq_some_iff.1 hz
  obtain ⟨hj, rfl⟩ := List.getElem?_eq_some_iff.1 hs
  obtain ⟨g, o, e, rfl, ⟨vt, ve, rfl, _, _⟩, a⟩ := ha j hj
  exact ⟨g, o, rfl, a 0 _ (by decide) rfl⟩
theorem BdR.rows {lt : Bool} {w : World} {g n c : Nat} {l : List StZ} (h : BdR lt (wC w) (.slice (some ⟨g, 0, none⟩) n c) l) : BodyR w (some ⟨g, 0, none⟩) (l.map (·.kind)) := by
  obtain ⟨q, c', e, _, _, _, ha, _⟩ := h.at (by decide) st_len
  have hq : some (⟨g, 0, none⟩ : Addr) = q := by injection e
  clear e
  subst hq
  intro j z hz
  rw [List.getElem?_map] at hz
  obtain ⟨s, hs, rfl⟩ := Option.map_eq_some_iff.1 hz
  obtain ⟨hj, rfl⟩ := List.getElem?_eq_some_iff.1 hs
  obtain ⟨g1, o1, e, hq, ⟨vt, ve, rfl, ht, hx⟩, a⟩ := ha j hj
  have hq' : g = g1 ∧ 0 = o1 := by injection hq with h; injection h with h1 h2; exact ⟨h1, h2⟩
  obtain ⟨rfl, rfl⟩ := hq'
  obtain ⟨qt, ct, rfl⟩ := SlX.shape ht
  obtain ⟨qe, ce, rfl⟩ := SlX.shape hx
  have a0 := a 0 _ (by decide) rfl
  have a1 := a 1 _ (by decide) rfl
  have a2 := a 2 _ (by decide) rfl
  have a3 := a 3 _ (by decide) rfl
  rw [Nat.zero_add] at a0 a1 a2 a3
  exact ⟨g, _, _, _, _, _, _, _, rfl, a0, a1, a2, a3⟩
set_option maxRecDepth 100000 in
set_option maxHeartbeats 4000000 in
theorem synEnds_any {w : World} {v : Value} {l : List StZ} (h : BdR false (wC w) v l) :
    Calls Try.prog 3 #[v] w fun e w' => e = .returned (.bool true) ∧ Below w.heap.size w w' := by
  obtain ⟨q, c, rfl, hmax, hk⟩ := h.kinds
  obtain ⟨n, hn⟩ : ∃ n, l.length = n := ⟨_, rfl⟩
  have HN := Lib.hid hn
  have HX := Lib.hid (show BdR false (wC w) (.slice q n c) l by rw [← hn]; exact h)
  have HK := Lib.hid hk
  have HL := Lib.hid (lentStmts_any (m := fun _ => none) h (fun _ _ e => by cases e))
  rw [hn] at hmax HL ⊢
  clear hn h hk
  go_enter Try.func3, Try.ntmps3
  go_wp2_with fail
  go_at_call 4
  refine HL.out.mono ?_
  rintro e w1 ⟨v1, m1, rfl, ⟨g1, c1, rfl⟩, hb1, -, hH1, hB1⟩
  have HR1 := Lib.hid (BdR.rows (hB1.le (has_cle hH1)))
  have HB1 := Lib.hid hb1
  have HD1 := Lib.hid (hB1.le (has_cle hH1))
  clear hb1 hB1 hH1
  go_wp2_with fail
  go_at_call 5
  refine (ends_any (c := c1) (l.map (·.kind)) (by rw [List.length_map]; exact HN.out) HR1.out hmax).mono ?_
  rintro e w2 ⟨hb2, hr2⟩
  have HB2 := Lib.hid (HB1.out.trans (hb2.mono HB1.out.size))
  have HD2 := Lib.hid (HD1.out.le (below_cle hb2))
  have HK2 := Lib.hid (HK.out.below HB2.out)
  have HDoc := Lib.hid (docEnds_any (w := w2) (c := c) (l.map (·.kind)) (by rw [List.length_map]; exact HN.out) HK2.out hmax)
  obtain ⟨R, hR⟩ : ∃ R, Syn.endsM ((l.map (·.kind)).map Int.toNat) = R := ⟨_, rfl⟩
  rw [hR] at hr2 HDoc
  clear hR hb2
  cases R with
  | none =>
    obtain rfl : e = _ := hr2
    go_wp2_with fail
    go_at_call 6
    refine HDoc.out.mono ?_
    rintro e w3 ⟨hb3, hr3⟩
    obtain rfl : e = _ := hr3
    have HB3 := Lib.hid (HB2.out.trans (hb3.mono HB2.out.size))
    have HKP := Lib.hid (fun j => keptStmts_true (w := w3.drewN j) (HD2.out.le (below_cle (below_dN hb3 j))) (HX.out.le (below_cle (below_dN HB3.out j))))
    have HI0 := Lib.hid (fun w3 => ints_true (w := w3) (q := none) (q' := none) (n := 0) (c := 0) (c' := 0) (l := []) rfl (by decide) (fun j hj => absurd hj (by simp)) (fun j hj => absurd hj (by simp)))
    clear hb3
    go_wp2_with fail
    go_at_call 7
    refine (HI0.out _).mono ?_
    rintro e w4 ⟨rfl, k4, rfl⟩
    go_wp2_with fail
    go_at_call 7
    refine (HI0.out _).mono ?_
    rintro e w5 ⟨rfl, k5, rfl⟩
    rw [World.drewN_drewN]
    go_wp2_with fail
    go_at_call 8
    refine (HKP.out _).mono ?_
    rintro e w6 ⟨rfl, k6, rfl⟩
    rw [World.drewN_drewN]
    go_wp2_with fail
    go_ret
    exact ⟨rfl, below_dN HB3.out _⟩
  | some p =>
    obtain ⟨es, ls⟩ := p
    obtain ⟨q5, c5, q6, c6, H, rfl, ho5, ho6, -, -⟩ := hr2
    obtain ⟨hl5, hi5⟩ := own_ints ho5
    obtain ⟨hl6, hi6⟩ := own_ints ho6
    have HL5 := Lib.hid hl5
    have HL6 := Lib.hid hl6
    have HI5 := Lib.hid hi5
    have HI6 := Lib.hid hi6
    clear hl5 hl6 hi5 hi6 ho5 ho6
    go_wp2_with fail
    go_at_call 6
    refine HDoc.out.mono ?_
    rintro e w3 ⟨hb3, q7, c7, q8, c8, H', rfl, ho7, ho8, -, -⟩
    obtain ⟨_, hi7⟩ := own_ints ho7
    obtain ⟨_, hi8⟩ := own_ints ho8
    have HB3 := Lib.hid (HB2.out.trans (hb3.mono HB2.out.size))
    have HKP := Lib.hid (fun j => keptStmts_true (w := w3.drewN j) (HD2.out.le (below_cle (below_dN hb3 j))) (HX.out.le (below_cle (below_dN HB3.out j))))
    have HI1 := Lib.hid (fun j => ints_true (w := w3.drewN j) (c := c5) (c' := c7) HL5.out hmax (HI5.out.below (below_dN hb3 j)) hi7)
    have HI2 := Lib.hid (fun j => ints_true (w := w3.drewN j) (c := c6) (c' := c8) HL6.out hmax (HI6.out.below (below_dN hb3 j)) hi8)
    clear hb3 hi7 hi8 ho7 ho8
    go_wp2_with fail
    go_at_call 7
    refine (HI1.out 0).mono ?_
    rintro e w4 ⟨rfl, k4, rfl⟩
    go_wp2_with fail
    try rw [World.drewN_drewN]
    go_at_call 7
    refine (HI2.out _).mono ?_
    rintro e w5 ⟨rfl, k5, rfl⟩
    rw [World.drewN_drewN]
    go_wp2_with fail
    go_at_call 8
    refine (HKP.out _).mono ?_
    rintro e w6 ⟨rfl, k6, rfl⟩
    rw [World.drewN_drewN]
    go_wp2_with fail
    go_ret
    exact ⟨rfl, below_dN HB3.out _⟩
end Go.Proofs.Ytnmcjkabihihiaa
