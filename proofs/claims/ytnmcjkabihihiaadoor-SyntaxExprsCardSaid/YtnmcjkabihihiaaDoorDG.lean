/- The walk of SyntaxExprs. -/
import Derived.Test.YtnmcjkabihihiaaDoorDF
import Derived.Test.YtnmcjkabihihiaaDoorLRd
namespace Go.Proofs.YtnmcjkabihihiaaDoor
open Go Go.RowKit Go.Proofs.Mm

theorem RdR.bel {w w' : World} {q : Option Addr} {xs : List Value} (h : RdR w q xs) (hb : Below w.heap.size w w') : RdR w' q xs :=
  h.same fun _ _ e => (hb.cell (World.block_lt_of_cell? _ _ e)).trans e
theorem own_rdR {w : World} {B n c size : Nat} {E : TypeId} {q : Option Addr} {xs : List Value} (h : w.ownsRow B E size (.slice q n c) n xs) : RdR w q xs := by
  by_cases hn : n = 0
  · have := h.1
    rw [hn, Nat.zero_mul] at this
    exact .inl (List.eq_nil_of_length_eq_zero this)
  · obtain ⟨g, cap, hv, _, _⟩ := h.form (by omega)
    have hq : q = some ⟨g, 0, none⟩ := by injection hv
    clear hv
    subst hq
    refine .inr ⟨g, rfl, fun j u hu => ?_⟩
    rw [h.cellAt j (by have := (List.getElem?_eq_some_iff.1 hu).1; rw [← h.1]; exact this)]
    exact hu
def fltO (x y z : Int) : Obj := .cells #[.int .i64 x, .int .i64 y, .int .i64 z] 25
set_option maxRecDepth 100000 in
set_option maxHeartbeats 4000000 in
theorem synExprs_any (s : ByteArray) (w : World) (hE : Env w) : Calls Tryd.prog 3 #[.string s] w fun e w' => e = .returned (.bool true) ∧ Below w.heap.size w w' := by
  have HP := Lib.hid (expr_of_any s w hE (m := fun _ => none) (fun _ _ e => by cases e))
  clear hE
  go_enter Tryd.func3, Tryd.ntmps3
  go_wp2_with fail
  go_at_call 4
  refine HP.out.mono ?_
  rintro e w1 hpr
  obtain ⟨hb1, ⟨er, a, hs, rfl⟩ | ⟨l, q1, c1, m', hs, rfl, h1, h2, h3⟩⟩ := hpr.cases
  · have HB1 := Lib.hid (hb1.alloc hb1.size (fltO (er : Nat) (-1) (a : Nat)))
    have HN1 := Lib.hid (World.alloc_heap_new w1 (fltO (er : Nat) (-1) (a : Nat)))
    have HS := Lib.hid hs
    clear hb1 hs hpr HP
    go_wp2_with fail
    go_at_call 5
    change Calls Tryd.prog _ _ (w1.alloc (fltO (er : Nat) (-1) (a : Nat))) _
    generalize hW : w1.alloc (fltO (er : Nat) (-1) (a : Nat)) = W at *
    refine (docExpr_any s W).mono ?_
    rintro e w2 ⟨hb2, ⟨er', a', hs', rfl⟩ | ⟨l', q', c', hs', rfl, _⟩⟩
    · have hse := hs'.symm.trans HS.out
      injection hse with hse
      have e1 : er' = er := congrArg Prod.fst hse
      have e2 : a' = a := congrArg Prod.snd hse
      subst e1 e2
      have hX : w2.heap[w1.heap.size]? = some (fltO (er' : Nat) (-1) (a' : Nat)) := by rw [hb2.block _ (heap_lt HN1.out)]; exact HN1.out
      have HB2 := Lib.hid (HB1.out.trans (hb2.mono HB1.out.size))
      have HX2 := Lib.hid (heap_new w2 (fltO (er' : Nat) (-1) (a' : Nat)) hX)
      have HY2 := Lib.hid (World.alloc_heap_new w2 (fltO (er' : Nat) (-1) (a' : Nat)))
      obtain ⟨x0, x1, x2, _⟩ := three_cells HX2.out
      obtain ⟨y0, y1, y2, _⟩ := three_cells HY2.out
      simp only [fltO] at x0 x1 x2 y0 y1 y2
      have HT := Lib.hid (fun W => terms_same (w := W) (q := none) (q' := none) (n := 0) (c := 0) (c' := 0) [] rfl (.inl rfl) (.inl rfl) (by decide))
      have HB3 := Lib.hid (HB2.out.alloc HB2.out.size (fltO (er' : Nat) (-1) (a' : Nat)))
      have b1 : (((er' : Nat) : Int) == ((er' : Nat) : Int)) = true := by simp
      have b2 : (((a' : Nat) : Int) == ((a' : Nat) : Int)) = true := by simp
      clear hb2 hs' hse hX hW HN1 HB1 HS
      go_wp2_with fail
      go_at_call 6
      refine (HT.out _).mono ?_
      rintro e w3 ⟨rfl, k, rfl⟩
      go_wp2_with fail
      go_ret
      exact ⟨rfl, below_drewN HB3.out _⟩
    · exact absurd (hs'.symm.trans HS.out) (by simp)
  · have HB1 := Lib.hid (hb1.alloc hb1.size (fltO 0 0 0))
    have HN1 := Lib.hid (World.alloc_heap_new w1 (fltO 0 0 0))
    have HS := Lib.hid hs
    have HR1 := Lib.hid ((RowM.rd h1 h3).bel ((Below.refl _ w1).alloc (Nat.le_refl _) (fltO 0 0 0)))
    have hmax : l.length ≤ 9223372036854775807 := by
      rcases h1.2 with ⟨_, e⟩ | ⟨_, cap, _, e, _, h4, h5, _⟩
      · omega
      · unfold maxLen at h5; omega
    clear hb1 hs hpr HP h1 h2 h3
    go_wp2_with fail
    go_at_call 5
    change Calls Tryd.prog _ _ (w1.alloc (fltO 0 0 0)) _
    generalize hW : w1.alloc (fltO 0 0 0) = W at *
    refine (docExpr_any s W).mono ?_
    rintro e w2 ⟨hb2, ⟨er', a', hs', rfl⟩ | ⟨l', q', c', hs', rfl, ho'⟩⟩
    · exact absurd (hs'.symm.trans HS.out) (by simp)
    · have hse := hs'.symm.trans HS.out
      injection hse with hse
      subst hse
      have hX : w2.heap[w1.heap.size]? = some (fltO 0 0 0) := by rw [hb2.block _ (heap_lt HN1.out)]; exact HN1.out
      have HB2 := Lib.hid (HB1.out.trans (hb2.mono HB1.out.size))
      have HX2 := Lib.hid (heap_new w2 (fltO 0 0 0) hX)
      have HY2 := Lib.hid (World.alloc_heap_new w2 (fltO 0 0 0))
      obtain ⟨x0, x1, x2, _⟩ := three_cells HX2.out
      obtain ⟨y0, y1, y2, _⟩ := three_cells HY2.out
      simp only [fltO] at x0 x1 x2 y0 y1 y2
      have hba := (Below.refl w2.heap.size w2).alloc (Nat.le_refl _) (fltO 0 0 0)
      have HT := Lib.hid (terms_same (c := c1) (c' := c') l' rfl ((HR1.out.bel hb2).bel hba) ((own_rdR ho').bel hba) hmax)
      have HB3 := Lib.hid (HB2.out.alloc HB2.out.size (fltO 0 0 0))
      clear hb2 hs' hX hW HN1 HB1 HS HR1 hba ho'
      generalize l'.length = n at *
      go_wp2_with fail
      go_at_call 6
      refine HT.out.mono ?_
      rintro e w3 ⟨rfl, k, rfl⟩
      go_wp2_with fail
      go_ret
      exact ⟨rfl, below_drewN HB3.out _⟩
end Go.Proofs.YtnmcjkabihihiaaDoor
