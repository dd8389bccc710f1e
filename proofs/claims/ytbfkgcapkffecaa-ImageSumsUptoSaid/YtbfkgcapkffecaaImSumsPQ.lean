/- ImageSums returns true at every two rows of bytes, and what came in reads as it did. Condition: what comes in has a bulk of at most 1048576 (the second form). -/
import Derived.Test.YtbfkgcapkffecaaImSumsPR3
import Derived.Test.YtbfkgcapkffecaaImSumsPR9
import Derived.WalkKit
import Derived.ProofKit
import Derived.OpenShut
import Derived.JoinedCond
namespace Go.Proofs.Ytbfkgcapkffecaa
open Go Go.ChangeShapes Go.WideShapes Go.ChangeAt Go.RowKit Go.Lib

theorem bulk_pos {H : Type} (d : DataW H) : 1 ≤ Rows.uptoBulk d := by
  cases d with
  | lit l => cases l <;> simp [Rows.uptoBulk]
  | _ => simp [Rows.uptoBulk]
theorem bulk_len {H : Type} : ∀ (l : List (DataW H)), l.length ≤ Rows.uptoBulkAll l
  | [] => Nat.le_refl _
  | y :: l => by
    have := bulk_len l
    have := bulk_pos y
    simp only [Rows.uptoBulkAll, List.length_cons]
    omega
theorem bulk_bytes {H : Type} {c n : Nat} {d : DataW H} (h : c = 0 ∨ ∃ el sp, d = .slice el sp ∧ el.length + sp.length = c) (hn : n ≤ c) : n ≤ Rows.uptoBulk d := by
  rcases h with rfl | ⟨el, sp, rfl, he⟩
  · omega
  · have h1 := bulk_len el
    have h2 := bulk_len sp
    simp only [Rows.uptoBulk]
    omega
set_option maxRecDepth 100000 in
theorem imageSums_lifted (os : Os) (started : os.Started) (H : Type) (enc : TypeId × Value → H) (F : Stop.Interp) :
    ReturnsInHanded {} Try.checked os 5 .any ((Rows.OpenSpec.upto Rows.imageSumsSpec).pre6 enc Try.prog Try.f5 Rows.imageSumsUptoRow.domain false) (((Rows.OpenSpec.upto Rows.imageSumsSpec).at F).post enc Try.prog Try.f5 false true false false) := by
  refine returnsInHanded_of_cond (C := Try.checked) (s := Rows.OpenSpec.upto Rows.imageSumsSpec) (k := Rows.uptoSmall) rfl own started (by kernel_rfl) Try.func5
    (OpenSpec.witness (enc := enc) (C := Try.checked) (s := Rows.OpenSpec.upto Rows.imageSumsSpec) (k := Rows.uptoSmall) rfl false ⟨#[], #[.slice none 0 0, .slice none 0 0], []⟩ 8 (by kernel_rfl) (by kernel_rfl) (by kernel_rfl)
      (x := ([.nil, .nil], [], [])) (by kernel_rfl) rfl (by kernel_rfl)) ?_
  intro W base args ds gs before hval0 hW _ hk _
  have hval : ∀ (j : Nat) t v, Try.f5.params[j]? = some t → args[j]? = some v → Value.okWide Try.prog W .any base t v := hval0
  have hW' := hW
  obtain ⟨p, q, hA0, hV, rfl, _, _⟩ := hW
  have hA : DataW.TrodAll enc Try.prog W 0 (fun _ => true) true Try.f5.params.toList args.toList ds p := hA0
  rw [Try.params5] at hA hval
  obtain ⟨v0, vs0, d0, ds0, p0, q0, hargs0, rfl, rfl, h0, r0⟩ := trodAll_cons hA
  obtain ⟨v1, vs1, d1, ds1, p1, q1, hargs1, rfl, rfl, h1, r1⟩ := trodAll_cons r0
  obtain ⟨rfl, rfl, rfl⟩ := trodAll_nil r1
  subst hargs1
  obtain rfl : args = #[v0, v1] := by cases args; simp_all
  obtain ⟨rfl, rfl⟩ := trodVars_none hV
  have hk2 : Rows.uptoBulkAll [d0, d1] ≤ 1048576 := by
    have := hk
    unfold Rows.uptoSmall at this
    simpa using this
  simp only [Rows.uptoBulkAll] at hk2
  obtain ⟨ad0, c0, ns0, rfl, g01, g02, g03, g04, g05, g06⟩ := in_bytes (hval 0 28 v0 rfl rfl) h0
  obtain ⟨ad1, c1, ns1, rfl, g11, g12, g13, g14, g15, g16⟩ := in_bytes (hval 1 28 v1 rfl rfl) h1
  have hb0 := bulk_bytes g06 g01
  have hb1 := bulk_bytes g16 g11
  refine (sums_law ns0 ns1 g03 g05 g04 g01 g02 g13 g15 g14 g11 g12 (by omega) (by omega)).mono fun e W' ⟨he, hb'⟩ => ⟨_, he, ?_⟩
  exact post_true rfl rfl (by
    rw [Try.params5]; intro t ht
    have hm : t ∈ [28, 28] := by simpa using ht
    have hall : ([28, 28].all fun u => Try.prog.readableRec u && decide (u < Try.prog.types.size)) = true := by kernel_rfl
    have := List.all_eq_true.1 hall t hm
    rw [Bool.and_eq_true, decide_eq_true_eq] at this
    exact this) rfl hW' hb'
theorem imageSums_over : Rows.imageSumsUptoRow.holds Try.pinned (Rows.OpenSpec.upto Rows.imageSumsSpec) :=
  OpenClaim.holds_of_cond 5 Try.f5 rfl rfl rfl rfl rfl rfl rfl ⟨rfl, rfl, rfl, rfl, rfl⟩ rfl rfl rfl rfl rfl (by kernel_rfl) Try.func5 (by kernel_rfl)
    (of_decide_eq_true (by kernel_rfl)) (by unfold Func.isWrapper; first | (rw [if_pos (by decide +kernel)]; kernel_rfl) | (rw [if_neg (by decide +kernel)]; exact ⟨rfl, rfl⟩))
    (fun os started H enc _ F => imageSums_lifted os started H enc F)
/-- ImageSums returns true at every two rows of bytes of a bulk of at most 1048576, and what came in reads as it did. -/
theorem imageSums_holds : Rows.ImageSumsUptoSaid := imageSums_over
#print axioms imageSums_holds
end Go.Proofs.Ytbfkgcapkffecaa

