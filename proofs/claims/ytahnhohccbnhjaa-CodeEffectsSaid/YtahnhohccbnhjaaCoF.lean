/- Effect of package code, in every memory. -/
import Derived.Test.YtahnhohccbnhjaaCoE
import Derived.Deep.RegionHeldLaw
import Derived.BigQuiet
namespace Go.Proofs.Ytahnhohccbnhjaa
open Go Go.RowKit Go.Proofs.Mm Go.Sort

/-- A row of functions as it lies. -/
def FnsAt (C : Cl) (q : Option Addr) (fs : List FnL) : Prop := ∀ j (hj : j < fs.length), ∃ g o lv qp cp qr cr stk qc cc, q = some ⟨g, o, none⟩ ∧ C ⟨g, o + j * 6, none⟩ = some (.int .u64 lv) ∧ C ⟨g, o + j * 6 + 1, none⟩ = some (.slice qp fs[j].np cp) ∧
  C ⟨g, o + j * 6 + 2, none⟩ = some (.slice qr fs[j].nr cr) ∧ C ⟨g, o + j * 6 + 3, none⟩ = some (.int .i64 fs[j].loc) ∧ C ⟨g, o + j * 6 + 4, none⟩ = some (.int .i64 stk) ∧ C ⟨g, o + j * 6 + 5, none⟩ = some (.slice qc fs[j].nc cc) ∧ fs[j].np ≤ maxLen
def effE (ng na nch : Nat) (fs : List FnL) (f op a : Int) : Int × Int × Bool :=
  if 0 ≤ f ∧ f < fs.length ∧ mayI op a = true ∧ thI ng na nch fs.length (fs.getD f.toNat default) (kiI op) a = true then
    (if op = 45 then ((fs.getD a.toNat default).np, (fs.getD a.toNat default).nr, true) else if op = 46 then ((fs.getD f.toNat default).nr, 0, true) else (poI op, puI op, true))
  else (0, 0, false)
def efV (x : Int × Int × Bool) : Value := .tuple #[.int .i64 x.1, .int .i64 x.2.1, .bool x.2.2]
theorem below_regrown' {w : World} (d : Nat) (os : Array Obj) : Below w.heap.size w (grow (redrawn w d) os) := below_regrown w d os
/-- What Effect has boxed. -/
structure BxW (w : World) (n : Nat) (m0 m1 m2 m3 : Value) (op a : Int) (W : World) : Prop where
  bl : Below w.heap.size w W
  c0 : W.cell? ⟨n, 0, none⟩ = some m0
  c1 : W.cell? ⟨n, 1, none⟩ = some m1
  c2 : W.cell? ⟨n, 2, none⟩ = some m2
  c3 : W.cell? ⟨n, 3, none⟩ = some m3
  i0 : W.cell? ⟨n + 1, 0, none⟩ = some (.int .i64 op)
  i1 : W.cell? ⟨n + 1, 1, none⟩ = some (.int .i64 a)
theorem BxW.new (w : World) (m0 m1 m2 m3 : Value) (op a : Int) (T U : TypeId) : BxW w w.heap.size m0 m1 m2 m3 op a ((w.alloc (.cells #[m0, m1, m2, m3] T)).alloc (.cells #[.int .i64 op, .int .i64 a] U)) := by
  have h0 : InB ((w.alloc (.cells #[m0, m1, m2, m3] T)).alloc (.cells #[.int .i64 op, .int .i64 a] U)) w.heap.size #[m0, m1, m2, m3] T := (InB.new _ _ _).le (bl_al (Below.refl _ _) _)
  have h1 : InB ((w.alloc (.cells #[m0, m1, m2, m3] T)).alloc (.cells #[.int .i64 op, .int .i64 a] U)) (w.heap.size + 1) #[.int .i64 op, .int .i64 a] U := InB.new' _ _ (by simp)
  exact ⟨bl_al (bl_al (Below.refl _ w) _) _, h0.cell rfl, h0.cell rfl, h0.cell rfl, h0.cell rfl, h1.cell rfl, h1.cell rfl⟩
theorem BxW.le {w : World} {n : Nat} {m0 m1 m2 m3 : Value} {op a : Int} {W V : World} (h : BxW w n m0 m1 m2 m3 op a W) (hb : Below W.heap.size W V) : BxW w n m0 m1 m2 m3 op a V :=
  ⟨bl_tr h.bl hb, cell_b h.c0 hb, cell_b h.c1 hb, cell_b h.c2 hb, cell_b h.c3 hb, cell_b h.i0 hb, cell_b h.i1 hb⟩
def exI (r p q op : Int) : Int × Int := if op = 45 then (p, q) else if op = 46 then (r, 0) else (poI op, puI op)
theorem ixe_1 (r p q : Int) (w : World) : (Instr.index 87 (.agg (efA r p q)) (.int .i64 1)).run Try.prog w = .ok (.agg #[.int .i64 2, .int .i64 1]) w := by kernel_rfl
theorem ixe_2 (r p q : Int) (w : World) : (Instr.index 87 (.agg (efA r p q)) (.int .i64 2)).run Try.prog w = .ok (.agg #[.int .i64 2, .int .i64 1]) w := by kernel_rfl
theorem ixe_3 (r p q : Int) (w : World) : (Instr.index 87 (.agg (efA r p q)) (.int .i64 3)).run Try.prog w = .ok (.agg #[.int .i64 2, .int .i64 1]) w := by kernel_rfl
theorem ixe_4 (r p q : Int) (w : World) : (Instr.index 87 (.agg (efA r p q)) (.int .i64 4)).run Try.prog w = .ok (.agg #[.int .i64 2, .int .i64 1]) w := by kernel_rfl
theorem ixe_5 (r p q : Int) (w : World) : (Instr.index 87 (.agg (efA r p q)) (.int .i64 5)).run Try.prog w = .ok (.agg #[.int .i64 2, .int .i64 1]) w := by kernel_rfl
theorem ixe_6 (r p q : Int) (w : World) : (Instr.index 87 (.agg (efA r p q)) (.int .i64 6)).run Try.prog w = .ok (.agg #[.int .i64 2, .int .i64 1]) w := by kernel_rfl
theorem ixe_7 (r p q : Int) (w : World) : (Instr.index 87 (.agg (efA r p q)) (.int .i64 7)).run Try.prog w = .ok (.agg #[.int .i64 2, .int .i64 1]) w := by kernel_rfl
theorem ixe_8 (r p q : Int) (w : World) : (Instr.index 87 (.agg (efA r p q)) (.int .i64 8)).run Try.prog w = .ok (.agg #[.int .i64 2, .int .i64 1]) w := by kernel_rfl
theorem ixe_9 (r p q : Int) (w : World) : (Instr.index 87 (.agg (efA r p q)) (.int .i64 9)).run Try.prog w = .ok (.agg #[.int .i64 2, .int .i64 1]) w := by kernel_rfl
theorem ixe_10 (r p q : Int) (w : World) : (Instr.index 87 (.agg (efA r p q)) (.int .i64 10)).run Try.prog w = .ok (.agg #[.int .i64 2, .int .i64 1]) w := by kernel_rfl
theorem ixe_11 (r p q : Int) (w : World) : (Instr.index 87 (.agg (efA r p q)) (.int .i64 11)).run Try.prog w = .ok (.agg #[.int .i64 2, .int .i64 1]) w := by kernel_rfl
theorem ixe_12 (r p q : Int) (w : World) : (Instr.index 87 (.agg (efA r p q)) (.int .i64 12)).run Try.prog w = .ok (.agg #[.int .i64 2, .int .i64 1]) w := by kernel_rfl
theorem ixe_13 (r p q : Int) (w : World) : (Instr.index 87 (.agg (efA r p q)) (.int .i64 13)).run Try.prog w = .ok (.agg #[.int .i64 2, .int .i64 1]) w := by kernel_rfl
theorem ixe_14 (r p q : Int) (w : World) : (Instr.index 87 (.agg (efA r p q)) (.int .i64 14)).run Try.prog w = .ok (.agg #[.int .i64 2, .int .i64 1]) w := by kernel_rfl
theorem ixe_15 (r p q : Int) (w : World) : (Instr.index 87 (.agg (efA r p q)) (.int .i64 15)).run Try.prog w = .ok (.agg #[.int .i64 1, .int .i64 1]) w := by kernel_rfl
theorem ixe_16 (r p q : Int) (w : World) : (Instr.index 87 (.agg (efA r p q)) (.int .i64 16)).run Try.prog w = .ok (.agg #[.int .i64 1, .int .i64 1]) w := by kernel_rfl
theorem ixe_17 (r p q : Int) (w : World) : (Instr.index 87 (.agg (efA r p q)) (.int .i64 17)).run Try.prog w = .ok (.agg #[.int .i64 1, .int .i64 1]) w := by kernel_rfl
theorem ixe_32 (r p q : Int) (w : World) : (Instr.index 87 (.agg (efA r p q)) (.int .i64 32)).run Try.prog w = .ok (.agg #[.int .i64 0, .int .i64 1]) w := by kernel_rfl
theorem ixe_33 (r p q : Int) (w : World) : (Instr.index 87 (.agg (efA r p q)) (.int .i64 33)).run Try.prog w = .ok (.agg #[.int .i64 0, .int .i64 1]) w := by kernel_rfl
theorem ixe_34 (r p q : Int) (w : World) : (Instr.index 87 (.agg (efA r p q)) (.int .i64 34)).run Try.prog w = .ok (.agg #[.int .i64 1, .int .i64 0]) w := by kernel_rfl
theorem ixe_35 (r p q : Int) (w : World) : (Instr.index 87 (.agg (efA r p q)) (.int .i64 35)).run Try.prog w = .ok (.agg #[.int .i64 0, .int .i64 1]) w := by kernel_rfl
theorem ixe_36 (r p q : Int) (w : World) : (Instr.index 87 (.agg (efA r p q)) (.int .i64 36)).run Try.prog w = .ok (.agg #[.int .i64 1, .int .i64 0]) w := by kernel_rfl
theorem ixe_37 (r p q : Int) (w : World) : (Instr.index 87 (.agg (efA r p q)) (.int .i64 37)).run Try.prog w = .ok (.agg #[.int .i64 1, .int .i64 1]) w := by kernel_rfl
theorem ixe_38 (r p q : Int) (w : World) : (Instr.index 87 (.agg (efA r p q)) (.int .i64 38)).run Try.prog w = .ok (.agg #[.int .i64 2, .int .i64 0]) w := by kernel_rfl
theorem ixe_39 (r p q : Int) (w : World) : (Instr.index 87 (.agg (efA r p q)) (.int .i64 39)).run Try.prog w = .ok (.agg #[.int .i64 1, .int .i64 2]) w := by kernel_rfl
theorem ixe_40 (r p q : Int) (w : World) : (Instr.index 87 (.agg (efA r p q)) (.int .i64 40)).run Try.prog w = .ok (.agg #[.int .i64 2, .int .i64 2]) w := by kernel_rfl
theorem ixe_41 (r p q : Int) (w : World) : (Instr.index 87 (.agg (efA r p q)) (.int .i64 41)).run Try.prog w = .ok (.agg #[.int .i64 1, .int .i64 0]) w := by kernel_rfl
theorem ixe_42 (r p q : Int) (w : World) : (Instr.index 87 (.agg (efA r p q)) (.int .i64 42)).run Try.prog w = .ok (.agg #[.int .i64 0, .int .i64 0]) w := by kernel_rfl
theorem ixe_43 (r p q : Int) (w : World) : (Instr.index 87 (.agg (efA r p q)) (.int .i64 43)).run Try.prog w = .ok (.agg #[.int .i64 0, .int .i64 0]) w := by kernel_rfl
theorem ixe_44 (r p q : Int) (w : World) : (Instr.index 87 (.agg (efA r p q)) (.int .i64 44)).run Try.prog w = .ok (.agg #[.int .i64 1, .int .i64 0]) w := by kernel_rfl
theorem ixe_45 (r p q : Int) (w : World) : (Instr.index 87 (.agg (efA r p q)) (.int .i64 45)).run Try.prog w = .ok (.agg #[.int .i64 p, .int .i64 q]) w := by kernel_rfl
theorem ixe_46 (r p q : Int) (w : World) : (Instr.index 87 (.agg (efA r p q)) (.int .i64 46)).run Try.prog w = .ok (.agg #[.int .i64 r, .int .i64 0]) w := by kernel_rfl
theorem ixe_47 (r p q : Int) (w : World) : (Instr.index 87 (.agg (efA r p q)) (.int .i64 47)).run Try.prog w = .ok (.agg #[.int .i64 1, .int .i64 0]) w := by kernel_rfl
theorem index_ef {op : Int} (hk : knI op = true) (r p q : Int) (w : World) : (Instr.index 87 (.agg (efA r p q)) (.int .i64 op)).run Try.prog w = .ok (.agg #[.int .i64 (exI r p q op).1, .int .i64 (exI r p q op).2]) w := by
  rcases knI_cases hk with rfl | rfl | rfl | rfl | rfl | rfl | rfl | rfl | rfl | rfl | rfl | rfl | rfl | rfl | rfl | rfl | rfl | rfl | rfl | rfl | rfl | rfl | rfl | rfl | rfl | rfl | rfl | rfl | rfl | rfl | rfl | rfl | rfl
  · exact ixe_1 r p q w
  · exact ixe_2 r p q w
  · exact ixe_3 r p q w
  · exact ixe_4 r p q w
  · exact ixe_5 r p q w
  · exact ixe_6 r p q w
  · exact ixe_7 r p q w
  · exact ixe_8 r p q w
  · exact ixe_9 r p q w
  · exact ixe_10 r p q w
  · exact ixe_11 r p q w
  · exact ixe_12 r p q w
  · exact ixe_13 r p q w
  · exact ixe_14 r p q w
  · exact ixe_15 r p q w
  · exact ixe_16 r p q w
  · exact ixe_17 r p q w
  · exact ixe_32 r p q w
  · exact ixe_33 r p q w
  · exact ixe_34 r p q w
  · exact ixe_35 r p q w
  · exact ixe_36 r p q w
  · exact ixe_37 r p q w
  · exact ixe_38 r p q w
  · exact ixe_39 r p q w
  · exact ixe_40 r p q w
  · exact ixe_41 r p q w
  · exact ixe_42 r p q w
  · exact ixe_43 r p q w
  · exact ixe_44 r p q w
  · exact ixe_45 r p q w
  · exact ixe_46 r p q w
  · exact ixe_47 r p q w
section
variable (qg : Option Addr) (ng cg : Nat) (qa : Option Addr) (na ca : Nat) (qh : Option Addr) (nh ch : Nat) (qf : Option Addr) (cf : Nat)
set_option maxRecDepth 100000 in
set_option maxHeartbeats 1000000 in
theorem Effect_no1 (n : Nat) (f op a : Int) (hf : f < 0 ∨ (n : Int) ≤ f) (w : World) :
    Calls Try.prog 26 #[moV qg ng cg qa na ca qh nh ch qf n cf, .int .i64 f, inV op a] w fun e w' => e = .returned (efV (0, 0, false)) ∧ Below w.heap.size w w' := by
  rw [show efV (0, 0, false) = .tuple #[.int .i64 0, .int .i64 0, .bool false] from rfl]
  by_cases h0 : f < 0
  · clear hf
    go_enter Try.func26, Try.ntmps26
    go_upto_region 1 with (fail)
    have hX := BxW.new w (.slice qg ng cg) (.slice qa na ca) (.slice qh nh ch) (.slice qf n cf) op a 51 23
    generalize ((w.alloc (Obj.cells #[.slice qg ng cg, .slice qa na ca, .slice qh nh ch, .slice qf n cf] 51)).alloc (Obj.cells #[.int .i64 op, .int .i64 a] 23)) = W at hX ⊢
    generalize w.heap.size = b at hX ⊢
    have k0 := cell_regrown hX.c0
    have k1 := cell_regrown hX.c1
    have k2 := cell_regrown hX.c2
    have k3 := cell_regrown hX.c3
    have k4 := cell_regrown hX.i0
    have k5 := cell_regrown hX.i1
    have HX := Lib.hid hX
    clear hX
    refine wp_region_quiet_below (by kernel_rfl) (by kernel_rfl) ?_
    iterate 25 (go_big_quiet_step (fail))
    refine wpQuiet_nil ?_
    intro _ hw'
    obtain ⟨⟨dq, osq⟩, hw''⟩ := hw'
    subst hw''
    clear k0 k1 k2 k3 k4 k5
    have hV := HX.out.le (below_regrown W dq osq)
    generalize grow (redrawn W dq) osq = V at hV ⊢
    have HV := Lib.hid hV
    clear hV HX
    go_wp2
    go_ret3
    exact ⟨rfl, HV.out.bl⟩
  · have h1 : (n : Int) ≤ f := hf.resolve_left h0
    clear hf
    go_enter Try.func26, Try.ntmps26
    go_upto_region 1 with (fail)
    have hX := BxW.new w (.slice qg ng cg) (.slice qa na ca) (.slice qh nh ch) (.slice qf n cf) op a 51 23
    generalize ((w.alloc (Obj.cells #[.slice qg ng cg, .slice qa na ca, .slice qh nh ch, .slice qf n cf] 51)).alloc (Obj.cells #[.int .i64 op, .int .i64 a] 23)) = W at hX ⊢
    generalize w.heap.size = b at hX ⊢
    have k0 := cell_regrown hX.c0
    have k1 := cell_regrown hX.c1
    have k2 := cell_regrown hX.c2
    have k3 := cell_regrown hX.c3
    have k4 := cell_regrown hX.i0
    have k5 := cell_regrown hX.i1
    have HX := Lib.hid hX
    clear hX
    refine wp_region_quiet_below (by kernel_rfl) (by kernel_rfl) ?_
    iterate 25 (go_big_quiet_step (fail))
    refine wpQuiet_nil ?_
    intro _ hw'
    obtain ⟨⟨dq, osq⟩, hw''⟩ := hw'
    subst hw''
    clear k0 k1 k2 k3 k4 k5
    have hV := HX.out.le (below_regrown W dq osq)
    generalize grow (redrawn W dq) osq = V at hV ⊢
    have HV := Lib.hid hV
    clear hV HX
    go_wp2
    go_ret3
    exact ⟨rfl, HV.out.bl⟩
set_option maxRecDepth 100000 in
set_option maxHeartbeats 1000000 in
theorem Effect_no2 (n : Nat) (f op a : Int) (h0 : ¬ f < 0) (h1 : ¬ (n : Int) ≤ f) (hm : mayI op a = false) (w : World) :
    Calls Try.prog 26 #[moV qg ng cg qa na ca qh nh ch qf n cf, .int .i64 f, inV op a] w fun e w' => e = .returned (efV (0, 0, false)) ∧ Below w.heap.size w w' := by
  rw [show efV (0, 0, false) = .tuple #[.int .i64 0, .int .i64 0, .bool false] from rfl]
  have HM := Lib.hid hm
  clear hm
  go_enter Try.func26, Try.ntmps26
  go_upto_region 1 with (fail)
  have hX := BxW.new w (.slice qg ng cg) (.slice qa na ca) (.slice qh nh ch) (.slice qf n cf) op a 51 23
  generalize ((w.alloc (Obj.cells #[.slice qg ng cg, .slice qa na ca, .slice qh nh ch, .slice qf n cf] 51)).alloc (Obj.cells #[.int .i64 op, .int .i64 a] 23)) = W at hX ⊢
  generalize w.heap.size = b at hX ⊢
  have k0 := cell_regrown hX.c0
  have k1 := cell_regrown hX.c1
  have k2 := cell_regrown hX.c2
  have k3 := cell_regrown hX.c3
  have k4 := cell_regrown hX.i0
  have k5 := cell_regrown hX.i1
  have HX := Lib.hid hX
  clear hX
  have cM : ∀ d os, Calls Try.prog 12 #[inV op a] (grow (redrawn W d) os) fun e w'' => e = .returned (.bool false) ∧ ∃ p : Regrown, w'' = grow (redrawn W p.d) p.os := fun d os => Calls.regrown_of (HM.out ▸ May_any op a _)
  refine wp_region_quiet_below (by kernel_rfl) (by kernel_rfl) ?_
  iterate 25 (go_big_quiet_step (exact cM _ _))
  refine wpQuiet_nil ?_
  intro _ hw'
  obtain ⟨⟨dq, osq⟩, hw''⟩ := hw'
  subst hw''
  clear k0 k1 k2 k3 k4 k5
  have hV := HX.out.le (below_regrown W dq osq)
  generalize grow (redrawn W dq) osq = V at hV ⊢
  have HV := Lib.hid hV
  clear hV HX
  go_wp2
  go_ret3
  exact ⟨rfl, HV.out.bl⟩
end
end Go.Proofs.Ytahnhohccbnhjaa
