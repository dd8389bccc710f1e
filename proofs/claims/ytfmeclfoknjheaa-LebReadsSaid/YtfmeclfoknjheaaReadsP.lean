/- LebReads returns true at every input: the law, the row. No condition. -/
import Derived.Test.YtfmeclfoknjheaaRow
import Derived.Test.YtfmeclfoknjheaaReadsW
namespace Go.Proofs.Ytfmeclfoknjheaa
open Go Go.ChangeShapes Go.WideShapes Go.ChangeAt Go.RowKit Go.Lib

set_option maxRecDepth 100000 in
/-- A list of bytes that came in and has room lies at no inner spot. -/
theorem in_spot {H : Type} {enc : TypeId × Value → H} {W : World} {b0 : Nat} {v : Value} {d : DataW H} {ps : List MemPlace} (hval : Value.okWide Try.prog W .any b0 22 v) (hd : DataW.Trod enc Try.prog W 0 (fun _ => true) true 22 v d ps) :
    ∀ a n c, v = .slice (some a) n c → 0 < c → a.spot = none := by
  intro a n c hv hc
  obtain ⟨a1, len, cap, rfl⟩ := okWide_slice Try.underlying22 hval
  obtain ⟨fuel, hf⟩ := hd
  simp only [Value.slice.injEq] at hv
  obtain ⟨rfl, rfl, rfl⟩ := hv
  rcases open_ints Try.underlying22 Try.underlying5 cells5 hf with ⟨hcs, _⟩ | ⟨a', len', cap', zs, hcs, _, hl, hm, hlen, hx, hcell, hwf⟩
  · simp [Value.cells] at hcs
  · have hcs' : (Value.slice (some a) len cap) = .slice (some a') len' cap' := by simpa [Value.cells] using hcs
    simp only [Value.slice.injEq, Option.some.injEq] at hcs'
    obtain ⟨rfl, rfl, rfl⟩ := hcs'
    rw [if_pos rfl] at hlen
    have h0 := hcell 0 (by omega)
    obtain ⟨b, off, sp⟩ := a
    rw [show (⟨b, off, sp⟩ : Addr).add 0 = ⟨b, off, sp⟩ from by simp [Addr.add]] at h0
    exact cell_spot h0

set_option maxRecDepth 100000 in
theorem lebReads_lifted (os : Os) (started : os.Started) (H : Type) (enc : TypeId × Value → H) :
    ReturnsInHanded {} Try.checked os 5 .any (Rows.lebReadsSpec.pre6 enc Try.prog Try.f5 Rows.lebReadsRow.domain false) (Rows.lebReadsSpec.post enc Try.prog Try.f5 false true false false) := by
  refine returnsInHanded_of_change_sized (C := Try.checked) own started (by kernel_rfl) Try.func5
    (ChangeSpec.witness6 (enc := enc) (C := Try.checked) false ⟨#[], #[.slice none 0 0, .slice none 0 0], []⟩ 8 (by kernel_rfl) (by kernel_rfl) (by kernel_rfl) (by kernel_rfl)) ?_
  intro W base args ds gs before hval0 hW hcnd hsz _
  have hval : ∀ (j : Nat) t v, Try.f5.params[j]? = some t → args[j]? = some v → Value.okWide Try.prog W .any base t v := hval0
  have hW' := hW
  obtain ⟨p, q, hA0, hV, rfl, hfz, hnd⟩ := hW
  have hA : DataW.TrodAll enc Try.prog W 0 (fun _ => true) true Try.f5.params.toList args.toList ds p := hA0
  rw [Try.params5] at hA hval hsz
  obtain ⟨v0, vs0, d0, ds0, p0, q0, hargs, rfl, rfl, h0, r0⟩ := trodAll_cons hA
  obtain ⟨v1, vs1, d1, ds1, p1, q1, rfl, rfl, rfl, h1, r1⟩ := trodAll_cons r0
  obtain ⟨rfl, rfl, rfl⟩ := trodAll_nil r1
  obtain rfl : args = #[v0, v1] := by cases args; simp_all
  obtain ⟨rfl, rfl⟩ := trodVars_none hV
  have hsp := in_spot (hval 0 22 v0 rfl rfl) h0
  obtain ⟨ad, c, ns, rfl, g1, g2, g3, g4, g5, g6⟩ := in_bytes (hval 0 22 v0 rfl rfl) h0
  obtain ⟨ad2, c2, ns2, rfl, k1, k2, k3, k4, k5, k6⟩ := in_bytes (hval 1 22 v1 rfl rfl) h1
  have hb := in_reach g6 (fun el sp e => sized_slice hsz (j := 0) (t := 22) rfl (by rw [e]; rfl) Try.underlying22)
  have hn : (ad = none ∧ ns = [] ∧ c = 0) ∨ ∃ a, ad = some a ∧ (0 < c → a.spot = none) := by
    rcases g3 with h | ⟨a, rfl⟩
    · exact .inl h
    · exact .inr ⟨a, rfl, hsp a _ c rfl⟩
  refine (reads_any ad c ns hn g1 g2 (by omega) g4 ad2 c2 ns2 (Nat.le_trans k1 k2) W g5 k5).mono fun e W' ⟨he, hb'⟩ => ⟨_, he, ?_⟩
  exact post_true rfl rfl (by rw [Try.params5]; intro t ht
                              obtain rfl : t = 22 := by simpa using ht
                              exact ⟨by kernel_rfl, of_decide_eq_true (by kernel_rfl)⟩) rfl hW' hb'

theorem lebReads_over : Rows.lebReadsRow.holds Try.pinned (OpenSpec.ofChange Rows.lebReadsSpec) :=
  OpenClaim.holds_of_wide 5 Try.f5 rfl rfl rfl rfl rfl rfl rfl ⟨rfl, rfl, rfl, rfl, rfl⟩ rfl rfl rfl rfl rfl (by kernel_rfl) Try.func5 (by kernel_rfl)
    (of_decide_eq_true (by kernel_rfl)) (by unfold Func.isWrapper; first | (rw [if_pos (by decide +kernel)]; kernel_rfl) | (rw [if_neg (by decide +kernel)]; exact ⟨rfl, rfl⟩))
    (fun os started H enc _ => lebReads_lifted os started H enc)

theorem lebReads_proved : Rows.LebReadsSaid :=
  lebReads_over
#print axioms lebReads_proved
end Go.Proofs.Ytfmeclfoknjheaa
