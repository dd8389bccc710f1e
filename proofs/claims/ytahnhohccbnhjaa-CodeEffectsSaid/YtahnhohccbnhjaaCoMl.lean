/- CodeMore, of whatever module. -/
import Derived.Test.YtahnhohccbnhjaaCoMo
namespace Go.Proofs.Ytahnhohccbnhjaa
open Go Go.RowKit Go.Proofs.Mm Go.Sort Go.ChangeShapes Go.WideShapes Go.ChangeAt

theorem more_law {m : MoM} {v : Value} {w : World} (h : MoR false (wC w) v m) (f op a : Int) (ha : a < 9223372036854775808) :
    Calls Try.prog 8 #[v, .int .i64 f, inV op a] w fun e w' => e = .returned (.bool true) ∧ Below w.heap.size w w' := by
  obtain ⟨v1, v2, v3, v4, rfl, h1, h2, h3, h4⟩ := h
  obtain ⟨q1, c1, rfl⟩ := slx_shape h1
  obtain ⟨q2, c2, rfl⟩ := slx_shape h2
  obtain ⟨q3, c3, rfl⟩ := slx_shape h3
  have hmx := slx_max h4
  obtain ⟨q4, c4, rfl⟩ := slx_shape h4
  have hF := FnsR.at h4
  cases he : effE m.globals.length m.arrays.length m.channels.length (m.funcs.map FnM.lens) f op a with
  | mk x yb =>
    obtain ⟨y, b⟩ := yb
    cases b
    · have hl : (m.funcs.map FnM.lens).length = m.funcs.length := List.length_map ..
      have h := more_no q1 m.globals.length c1 q2 m.arrays.length c2 q3 m.channels.length c3 q4 c4 (m.funcs.map FnM.lens) (by rw [hl]; exact hmx) f op a ha w hF (by rw [he])
      rw [hl] at h
      exact h
    · exact more_yes q1 m.globals.length c1 q2 m.arrays.length c2 q3 m.channels.length c3 q4 c4 _ _ _ m.funcs h1 h2 h3 h4 f op a x y ha he
set_option maxRecDepth 100000 in
theorem in_mod {H : Type} {enc : TypeId × Value → H} {W : World} {b0 : Nat} {v : Value} {d : DataW H} {ps : List MemPlace} (hval : Value.okWide Try.prog W .any b0 51 v) (hd : DataW.Trod enc Try.prog W 0 (fun _ => true) true 51 v d ps) (hw : Wt 51 d) :
    ∃ m : MoM, MoR false (wC W) v m := by
  obtain ⟨cs0, rfl, hcs⟩ := okWide_struct Try.underlying51 hval
  obtain ⟨fuel, hf⟩ := hd
  have hc4 : cs0.toList.length = 4 := by rw [Array.length_toList, hcs]; kernel_rfl
  obtain ⟨m, hm⟩ := mod_open hc4 hf hw
  exact ⟨m, by rw [Array.toArray_toList] at hm; exact hm⟩
end Go.Proofs.Ytahnhohccbnhjaa
