/- The document's expressions, behind a fault: a name without a text, and nothing else turns. -/
import Derived.Test.YtnmcjkabihihiaaDoorDA
import Derived.Deep.Cut
namespace Go.Proofs.YtnmcjkabihihiaaDoor
open Go Go.RowKit Go.Proofs.Mm

section
variable {D : DC} {nv bv : Value} {er a : Nat} {w : World}
theorem own_not {B n size : Nat} {E : TypeId} {v : Value} {xs : List Value} (h : DS D nv bv er a w) (hr : w.ownsRow B E size v n xs) (hE : E ≠ 40) : v.ownBlock ≠ some D.bt := by
  intro e
  obtain ⟨cur, hc⟩ := own_type hr e
  have := h.st.symm.trans hc
  simp only [Option.some.injEq, Obj.cells.injEq] at this
  exact hE this.2.1.symm
theorem own_notW {B n size : Nat} {E : TypeId} {v : Value} {xs : List Value} (h : DS D nv bv er a w) (hr : w.ownsRow B E size v n xs) (hE : E ≠ 65) (hn : D.ys ≠ []) : v.ownBlock ≠ some D.bw := by
  intro e
  obtain ⟨cur, hc⟩ := own_type hr e
  obtain ⟨_, arr, h1, _⟩ := h.tok.resolve_left hn
  have := h1.symm.trans hc
  simp only [Option.some.injEq, Obj.cells.injEq] at this
  exact hE this.2.1.symm
/-- A row of another type grows: the state stays. -/
theorem DS.grown {B n size : Nat} {E : TypeId} {v : Value} {xs : List Value} (h : DS D nv bv er a w) (hr : w.ownsRow B E size v n xs) (h1 : E ≠ 40) (h2 : E ≠ 65) {w1 w' : World} (h0 : Chg (fun _ => False) w w1) (hg : w1.grownBy w' v.ownBlock) : DS D nv bv er a w' := by
  have hC : Chg (fun k => v.ownBlock = some k) w w' := (h0.mono (fun _ e => e.elim)).then (grown_chg hg (fun k hk => .inl hk))
  by_cases hn : D.ys = []
  · exact ⟨hC.heap h.st (own_not h hr h1), .inl hn, h.few⟩
  · exact h.chg hC (own_not h hr h1) (own_notW h hr h2 hn)
/-- What is answered behind a fault. -/
def FlR (D : DC) (nv bv : Value) (er a : Nat) (w : World) (e : Ending) (w' : World) : Prop :=
  ∃ q c z, e = .returned (.tuple #[.slice q 1 c, .int .i64 z]) ∧ w'.ownsRow w.heap.size 46 3 (.slice q 1 c) 1 (tmC ⟨2, 0, []⟩) ∧ DS D nv bv er a w' ∧ Chg (fun _ => False) w w'
set_option maxRecDepth 100000 in
set_option maxHeartbeats 1000000 in
theorem unary_f (h : DS D nv bv er a w) (he : er ≠ 0) (z d : Int) : Calls Tryd.prog 19 #[PB D, .int .i64 z, .int .i64 d] w (FlR D nv bv er a w) := by
  have HI := Lib.hid (fun s => is_f h he z s)
  have HN := Lib.hid (nameD_f h he z)
  have HIS := Lib.hid (fun z s => is_f h he z s)
  have HD := Lib.hid h
  obtain ⟨q, x0, _, x2, _, _, _, _, hlt, hx⟩ := h.raw
  have e0 : ((er : Int) == 0) = false := by simp; omega
  obtain ⟨j0, hj0, hy0, hy1, hy2⟩ := infoTm
  have hrow := World.ownsRow_nil w w.heap.size 46 3
  have hnew := row_new w [.int .i64 2, .int .i64 0, .string ⟨#[]⟩] 46
  have hone : ∀ u ∈ [Value.int .i64 2, .int .i64 0, .string ⟨#[]⟩], u.oneCell' = true := by
    intro u hu
    simp only [List.mem_cons, List.not_mem_nil, or_false] at hu
    rcases hu with rfl | rfl | rfl <;> rfl
  clear hx h
  go_enter Tryd.func19, Tryd.ntmps19
  go_wp2_with fail
  go_loopw [1, 8] (fun iv ov wr => iv = .int .i64 z ∧ ov = .slice none 0 0 ∧ wr = w) (fun _ _ _ => 0)
  case atStart => exact ⟨rfl, rfl, rfl⟩
  case round =>
    obtain ⟨rfl, rfl, rfl⟩ := hrel
    go_upto_region 29 with (first | (go_at_call 21; refine (HIS.out _ _).mono ?_; rintro e w' ⟨rfl, rfl⟩) | (go_at_call 29; refine HN.out.mono ?_; rintro e w' ⟨⟨z2, rfl⟩, rfl⟩))
    go_wp2_with (at_builtin; refine wpList_append_own_at _ rfl _ _ 22 rfl wr.heap.size 46 j0 _ 3 32 Tryd.underlying22 hj0 hy0 hy1 hy2 rfl (by decide) _ _ _ rfl (hrow.alloc _) ⟨wr.heap.size, 0, none⟩ 1 1 [.int .i64 2, .int .i64 0, .string ⟨#[]⟩] rfl rfl hnew hone (by unfold maxLen; omega) (by omega) (by simp) ?_)
    intro v2 w2 ho2 hg2 _ _
    obtain ⟨q2, c2, rfl⟩ := own_shape ho2
    have HD2 := Lib.hid (HD.out.grown hrow (by decide) (by decide) ((Chg.refl _ _).alloc _) hg2)
    have HC2 := Lib.hid (show Chg (fun _ => False) wr w2 from ((Chg.refl _ wr).alloc _).then (grown_chg hg2 (fun k hk => by cases hk)))
    have HO2 := Lib.hid ho2
    clear hg2 ho2 hrow hnew
    have hm1 : IntKind.i64.wrap ((0 : Int) - 1) = -1 := by decide
    go_wp2_with fail
    go_loopw [10, 17] (fun lv kv wv => lv = .slice q2 1 c2 ∧ kv = .int .i64 (-1) ∧ wv = w2) (fun _ _ _ => 0)
    case atStart => exact ⟨rfl, rfl, rfl⟩
    case round =>
      obtain ⟨rfl, rfl, rfl⟩ := hrel
      go_wp2_with fail
      go_ret2
      exact ⟨q2, c2, _, rfl, HO2.out, HD2.out, HC2.out⟩
set_option maxRecDepth 100000 in
set_option maxHeartbeats 1000000 in
theorem level_f (h : DS D nv bv er a w) (he : er ≠ 0) (z d : Int) : ∀ m : Nat, m ≤ 6 → Calls Tryd.prog 10 #[PB D, .int .i64 z, .int .i64 ((6 - m : Nat) : Int), .int .i64 d] w (FlR D nv bv er a w)
  | 0, _ => by
    have HU := Lib.hid (unary_f h he z d)
    have e6 : (((6 - 0 : Nat) : Int) == 6) = true := rfl
    go_enter Tryd.func10, Tryd.ntmps10
    go_wp2_with fail
    go_at_call 19
    refine HU.out.mono ?_
    rintro e w1 ⟨q, c, z1, rfl, ho, hd, hc⟩
    have HO := Lib.hid ho
    have HD := Lib.hid hd
    have HC := Lib.hid hc
    clear ho hd hc
    go_wp2_with fail
    go_ret2
    exact ⟨q, c, z1, rfl, HO.out, HD.out, HC.out⟩
  | m + 1, hm => by
    have HU := Lib.hid (level_f h he z d m (by omega))
    obtain ⟨l, hl⟩ : ∃ l, 6 - (m + 1) = l := ⟨_, rfl⟩
    have hl1 : ((6 - m : Nat) : Int) = (l : Int) + 1 := by omega
    rw [hl]
    rw [hl1] at HU
    have e6 : ((l : Int) == 6) = false := by simp; omega
    have hw1 : IntKind.i64.wrap ((l : Int) + 1) = (l : Int) + 1 := by rw [IntKind.wrap_i64]; omega
    have hef : ((er : Int) == 0) = false := by simp; omega
    clear hl hl1
    go_enter Tryd.func10, Tryd.ntmps10
    go_wp2_with fail
    go_at_call 10
    refine HU.out.mono ?_
    rintro e w1 ⟨q, c, z1, rfl, ho, hd, hc⟩
    have HO := Lib.hid ho
    have HD := Lib.hid hd
    have HC := Lib.hid hc
    obtain ⟨qr, _, _, x2, _⟩ := hd.raw
    clear ho hd hc
    go_wp2_with fail
    go_loopw [12, 1] (fun lv iv wv => lv = .slice q 1 c ∧ iv = .int .i64 z1 ∧ wv = w1) (fun _ _ _ => 0)
    case atStart => exact ⟨rfl, rfl, rfl⟩
    case round =>
      obtain ⟨rfl, rfl, rfl⟩ := hrel
      go_wp2_with fail
      go_ret2
      exact ⟨q, c, z1, rfl, HO.out, HD.out, HC.out⟩
end
end Go.Proofs.YtnmcjkabihihiaaDoor
