/- LebGets returns true at every input: the law, the row. No condition. -/
import Derived.Test.YtfmeclfoknjheaaRow
import Derived.Test.YtfmeclfoknjheaaGetsW
namespace Go.Proofs.Ytfmeclfoknjheaa
open Go Go.ChangeShapes Go.WideShapes Go.ChangeAt Go.RowKit Go.Lib

set_option maxRecDepth 100000 in
theorem lebGets_lifted (os : Os) (started : os.Started) (H : Type) (enc : TypeId × Value → H) :
    ReturnsInHanded {} Try.checked os 4 .any (Rows.lebGetsSpec.pre6 enc Try.prog Try.f4 Rows.lebGetsRow.domain false) (Rows.lebGetsSpec.post enc Try.prog Try.f4 false true false false) := by
  refine returnsInHanded_of_change_sized (C := Try.checked) own started (by kernel_rfl) Try.func4
    (ChangeSpec.witness6 (enc := enc) (C := Try.checked) false ⟨#[], #[.slice none 0 0], []⟩ 8 (by kernel_rfl) (by kernel_rfl) (by kernel_rfl) (by kernel_rfl)) ?_
  intro W base args ds gs before hval0 hW hcnd hsz _
  have hval : ∀ (j : Nat) t v, Try.f4.params[j]? = some t → args[j]? = some v → Value.okWide Try.prog W .any base t v := hval0
  have hW' := hW
  obtain ⟨p, q, hA0, hV, rfl, hfz, hnd⟩ := hW
  have hA : DataW.TrodAll enc Try.prog W 0 (fun _ => true) true Try.f4.params.toList args.toList ds p := hA0
  rw [Try.params4] at hA hval hsz
  obtain ⟨v0, vs0, d0, ds0, p0, q0, hargs, rfl, rfl, h0, r0⟩ := trodAll_cons hA
  obtain ⟨rfl, rfl, rfl⟩ := trodAll_nil r0
  obtain rfl : args = #[v0] := by cases args; simp_all
  obtain ⟨rfl, rfl⟩ := trodVars_none hV
  obtain ⟨ad, c, ns, rfl, g1, g2, g3, g4, g5, g6⟩ := in_bytes (hval 0 22 v0 rfl rfl) h0
  have hb := in_reach g6 (fun el sp e => sized_slice hsz (j := 0) (t := 22) rfl (by rw [e]; rfl) Try.underlying22)
  refine (gets_any ad c ns g3 g1 g2 (by omega) g4 W g5).mono fun e W' ⟨he, hb'⟩ => ⟨_, he, ?_⟩
  exact post_true rfl rfl (by rw [Try.params4]; intro t ht
                              obtain rfl : t = 22 := by simpa using ht
                              exact ⟨by kernel_rfl, of_decide_eq_true (by kernel_rfl)⟩) rfl hW' hb'

theorem lebGets_over : Rows.lebGetsRow.holds Try.pinned (OpenSpec.ofChange Rows.lebGetsSpec) :=
  OpenClaim.holds_of_wide 4 Try.f4 rfl rfl rfl rfl rfl rfl rfl ⟨rfl, rfl, rfl, rfl, rfl⟩ rfl rfl rfl rfl rfl (by kernel_rfl) Try.func4 (by kernel_rfl)
    (of_decide_eq_true (by kernel_rfl)) (by unfold Func.isWrapper; first | (rw [if_pos (by decide +kernel)]; kernel_rfl) | (rw [if_neg (by decide +kernel)]; exact ⟨rfl, rfl⟩))
    (fun os started H enc _ => lebGets_lifted os started H enc)

theorem lebGets_proved : Rows.LebGetsSaid :=
  lebGets_over
#print axioms lebGets_proved
end Go.Proofs.Ytfmeclfoknjheaa
