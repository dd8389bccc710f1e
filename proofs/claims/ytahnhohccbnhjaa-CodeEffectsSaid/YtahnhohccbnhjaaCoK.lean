/- The chapter's module and its effects, in every memory. -/
import Derived.Test.YtahnhohccbnhjaaCoJ
namespace Go.Proofs.Ytahnhohccbnhjaa
open Go Go.RowKit Go.Proofs.Mm Go.Sort

def gvL : List FnL := [⟨1, 2, 1, 3⟩, ⟨0, 1, 0, 0⟩]
theorem made3 (w : World) : (Instr.makeSlice 66 (.int .i64 3) (.int .i64 3)).run Try.prog w = .ok (.slice (some ⟨w.heap.size, 0, none⟩) 3 3) (w.alloc (.cells #[.int .i64 0, .int .i64 0, .int .i64 0, .int .i64 0, .int .i64 0, .int .i64 0] 23)) := by kernel_rfl
def GvRet (w : World) (e : Ending) (w' : World) : Prop := ∃ g1 a1 gf, e = .returned (moV (some ⟨g1, 0, none⟩) 1 1 (some ⟨a1, 0, none⟩) 1 1 none 0 0 (some ⟨gf, 0, none⟩) 2 2) ∧ FnsAt (wC w') (some ⟨gf, 0, none⟩) gvL ∧ Below w.heap.size w w'
set_option maxRecDepth 100000 in
set_option maxHeartbeats 1000000 in
theorem given_any (w : World) : Calls Try.prog 48 #[] w (GvRet w) := by
  have hm := made3
  go_enter Try.func48, Try.ntmps48
  go_wp2
  try simp only [Exit.inBlock, Exit.then]
  refine bodyPost_ret (v := moV (some ⟨w.heap.size + 1, 0, none⟩) 1 1 (some ⟨w.heap.size + 1 + 1, 0, none⟩) 1 1 none 0 0 (some ⟨w.heap.size + 1 + 1 + 1 + 1 + 1 + 1 + 1, 0, none⟩) 2 2) (by simp [results, Try.results48, go_sem]) rfl ⟨_, _, _, rfl, ?_, ?_⟩
  · have hI := fun (A : World) (h : A.heap.size = w.heap.size + 1 + 1 + 1 + 1 + 1 + 1 + 1) => InB.new' (w := A) #[.int .u64 0, .slice (some ⟨w.heap.size + 1 + 1 + 1, 0, none⟩) 1 1, .slice (some ⟨w.heap.size + 1 + 1 + 1 + 1, 0, none⟩) 2 2, .int .i64 1, .int .i64 0, .slice (some ⟨w.heap.size + 1 + 1 + 1 + 1 + 1, 0, none⟩) 3 3, .int .u64 0, .slice none 0 0, .slice (some ⟨w.heap.size + 1 + 1 + 1 + 1 + 1 + 1, 0, none⟩) 1 1, .int .i64 0, .int .i64 0, .slice none 0 0] 68 h
    intro j hj
    have h2 : j = 0 ∨ j = 1 := by
      have : j < 2 := hj
      omega
    rcases h2 with rfl | rfl
    · exact ⟨_, 0, 0, _, _, _, _, _, _, _, rfl, (hI _ (by simp)).cell (j := 0) rfl, (hI _ (by simp)).cell (j := 1) rfl, (hI _ (by simp)).cell (j := 2) rfl, (hI _ (by simp)).cell (j := 3) rfl, (hI _ (by simp)).cell (j := 4) rfl, (hI _ (by simp)).cell (j := 5) rfl, by show (1 : Nat) ≤ maxLen; decide⟩
    · exact ⟨_, 0, 0, _, _, _, _, _, _, _, rfl, (hI _ (by simp)).cell (j := 6) rfl, (hI _ (by simp)).cell (j := 7) rfl, (hI _ (by simp)).cell (j := 8) rfl, (hI _ (by simp)).cell (j := 9) rfl, (hI _ (by simp)).cell (j := 10) rfl, (hI _ (by simp)).cell (j := 11) rfl, by show (0 : Nat) ≤ maxLen; decide⟩
  · exact bl_al (bl_al (bl_al (bl_al (bl_al (bl_al (bl_al (bl_al (Below.refl _ w) _) _) _) _) _) _) _) _

theorem effE_false {ng na nh : Nat} {fs : List FnL} {f op a x y : Int} (h : effE ng na nh fs f op a = (x, y, false)) : x = 0 ∧ y = 0 := by
  unfold effE at h
  split at h
  · split at h
    · simp at h
    · split at h <;> simp at h
  · simp at h; exact ⟨h.1.symm, h.2.symm⟩
def efR (x : Int × Int × Bool) : Value := if x.2.2 then .agg #[.int .i64 x.1, .int .i64 x.2.1] else .agg #[.int .i64 9, .int .i64 9]
set_option maxRecDepth 100000 in
set_option maxHeartbeats 1000000 in
theorem effect_any (f op a : Int) (ha : a < 9223372036854775808) (w : World) : Calls Try.prog 31 #[.int .i64 f, .int .i64 op, .int .i64 a] w fun e w' => e = .returned (efR (effE 1 1 0 gvL f op a)) ∧ Below w.heap.size w w' := by
  have HE := Lib.hid (fun (q1 q2 q4 : Option Addr) (W : World) (h : FnsAt (wC W) q4 gvL) => Effect_any q1 1 1 q2 1 1 none 0 0 q4 2 gvL (by decide) f op a ha W h)
  cases he : effE 1 1 0 gvL f op a with
  | mk x yb =>
    obtain ⟨y, b⟩ := yb
    rw [he] at HE
    cases b
    · obtain ⟨rfl, rfl⟩ := effE_false he
      clear he
      rw [show efR (0, 0, false) = .agg #[.int .i64 9, .int .i64 9] from rfl]
      rw [show efV (0, 0, false) = .tuple #[.int .i64 0, .int .i64 0, .bool false] from rfl] at HE
      go_enter Try.func31, Try.ntmps31
      go_wp2_with fail
      refine (given_any _).mono ?_
      rintro e w1 ⟨g1, a1, gf, rfl, hfn, hb⟩
      have HB := Lib.hid hb
      have hl1 : w.heap.size < w1.heap.size := by have := hb.size; simp at this; omega
      have hI := (InB.new w #[.int .i64 0, .int .i64 0] 60).le hb
      have HFN := Lib.hid hfn
      clear hb hfn
      go_wp2_with fail
      refine (HE.out _ _ _ _ HFN.out).mono ?_
      rintro e w2 ⟨rfl, hb2⟩
      have hI2 := hI.le hb2
      have d0 := hI2.cell (j := 0) rfl
      have d1 := hI2.cell (j := 1) rfl
      have f0 := hI2.free 0
      have f1 := hI2.free 1
      have hl2 := hI2.lt
      have HB2 := Lib.hid (((bl_al (Below.refl _ w) _).trans (HB.out.mono (by simp))).trans (hb2.mono (by have := HB.out.size; simp at this; omega)))
      have HI2 := Lib.hid hI2
      clear hb2 hI hI2 hl1
      go_wp2
      refine bodyPost_ret (results_cell_row rfl _ _ w.heap.size 60 #[.int .i64 9, .int .i64 9] (0, 0) _ rfl (heap_set (heap_set HI2.out 0 (.int .i64 9)) 1 (.int .i64 9)) Try.underlying60 rfl (by kernel_rfl)) rfl ⟨rfl, HB2.out.set2 (Nat.le_refl _)⟩
    · clear he
      rw [show efR (x, y, true) = .agg #[.int .i64 x, .int .i64 y] from rfl]
      rw [show efV (x, y, true) = .tuple #[.int .i64 x, .int .i64 y, .bool true] from rfl] at HE
      go_enter Try.func31, Try.ntmps31
      go_wp2_with fail
      refine (given_any _).mono ?_
      rintro e w1 ⟨g1, a1, gf, rfl, hfn, hb⟩
      have HB := Lib.hid hb
      have hl1 : w.heap.size < w1.heap.size := by have := hb.size; simp at this; omega
      have hI := (InB.new w #[.int .i64 0, .int .i64 0] 60).le hb
      have HFN := Lib.hid hfn
      clear hb hfn
      go_wp2_with fail
      refine (HE.out _ _ _ _ HFN.out).mono ?_
      rintro e w2 ⟨rfl, hb2⟩
      have hI2 := hI.le hb2
      have d0 := hI2.cell (j := 0) rfl
      have d1 := hI2.cell (j := 1) rfl
      have f0 := hI2.free 0
      have f1 := hI2.free 1
      have hl2 := hI2.lt
      have HB2 := Lib.hid (((bl_al (Below.refl _ w) _).trans (HB.out.mono (by simp))).trans (hb2.mono (by have := HB.out.size; simp at this; omega)))
      have HI2 := Lib.hid hI2
      clear hb2 hI hI2 hl1
      go_wp2
      refine bodyPost_ret (results_cell_row rfl _ _ w.heap.size 60 #[.int .i64 x, .int .i64 y] (0, 0) _ rfl (heap_set (heap_set HI2.out 0 (.int .i64 x)) 1 (.int .i64 y)) Try.underlying60 rfl (by kernel_rfl)) rfl ⟨rfl, HB2.out.set2 (Nat.le_refl _)⟩
end Go.Proofs.Ytahnhohccbnhjaa
