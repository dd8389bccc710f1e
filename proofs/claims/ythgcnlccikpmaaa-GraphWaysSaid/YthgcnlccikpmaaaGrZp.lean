/- GraphWays, at whatever function comes in. -/
import Derived.Test.YthgcnlccikpmaaaGrZ
namespace Go.Proofs.Ythgcnlccikpmaaa
open Go Go.RowKit Go.Proofs.Mm
theorem ways_law {w : World} {cs : List Value} {f : FnM} (h : FnR1 false (wC w) cs f) (s : Int) : Calls Try.prog 6 #[.agg cs.toArray, .int .i64 s] w fun e w' => e = .returned (.bool true) ∧ Below w.heap.size w w' := by
  obtain ⟨vp, vr, vc, rfl, hp, hr, hc⟩ := h
  obtain ⟨qp, cp, rfl⟩ := slx_shape hp
  obtain ⟨qr, cr, rfl⟩ := slx_shape hr
  obtain ⟨qc, cc, rfl⟩ := slx_shape hc
  have hcc : f.code.length ≤ cc ∧ cc ≤ maxLen := by
    obtain ⟨_, c', _, e, _, _, _, _, h6, _, h8⟩ := hc
    injection e with _ _ e
    subst e
    exact ⟨h8, h6⟩
  exact ways_any _ _ _ _ _ _ _ _ _ _ _ _ hc.cells rfl hcc.1 hcc.2 s
end Go.Proofs.Ythgcnlccikpmaaa
