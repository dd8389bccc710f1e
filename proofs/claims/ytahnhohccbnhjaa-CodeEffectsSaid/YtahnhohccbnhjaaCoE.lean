/- What an operand must find: finds of package code, there of the document's answer, in every memory. -/
import Derived.Test.YtahnhohccbnhjaaCoD
namespace Go.Proofs.Ytahnhohccbnhjaa
open Go Go.RowKit Go.Proofs.Mm

/-- What of a function is looked at. -/
structure FnL where
  np : Nat
  nr : Nat
  loc : Int
  nc : Nat
instance : Inhabited FnL := ⟨⟨0, 0, 0, 0⟩⟩
def thI (ng na nch nf : Nat) (f : FnL) (k a : Int) : Bool :=
  if k = 2 then decide (a < f.np) || decide (a - f.np < f.loc)
  else if k = 3 then decide (a < ng) else if k = 4 then decide (a < na) else if k = 5 then decide (a < f.nc) else if k = 6 then decide (a < nf) else if k = 7 then decide (a < nch) else true
abbrev moV (qg : Option Addr) (ng cg : Nat) (qa : Option Addr) (na ca : Nat) (qh : Option Addr) (nh ch : Nat) (qf : Option Addr) (nf cf : Nat) : Value :=
  .agg #[.slice qg ng cg, .slice qa na ca, .slice qh nh ch, .slice qf nf cf]
set_option maxRecDepth 100000 in
theorem finds1_any (n a : Int) (b : Nat) (w : World) (h : w.cell? ⟨b, 1, none⟩ = some (.int .i64 a)) : Calls Try.prog 60 #[.int .i64 n, .pointer (some ⟨b, 0, none⟩)] w fun e w' => e = .returned (.bool (decide (a < n))) ∧ w = w' := by
  go_enter Try.func60, Try.ntmps60
  go_wp2
  go_ret
  exact ⟨rfl, rfl⟩
section
variable (lv : Int) (qp : Option Addr) (np cp : Nat) (qr : Option Addr) (nr cr : Nat) (loc stk : Int) (qc : Option Addr) (nc cc : Nat)
variable (qg : Option Addr) (ng cg : Nat) (qa : Option Addr) (na ca : Nat) (qh : Option Addr) (nh ch : Nat) (qf : Option Addr) (nf cf : Nat)
theorem new_in {w : World} {n : Nat} (op a : Int) (T : TypeId) (h : w.heap.size = n) : (w.alloc (.cells #[.int .i64 op, .int .i64 a] T)).cell? ⟨n, 1, none⟩ = some (.int .i64 a) := by subst h; rw [World.cell?_alloc_new]; rfl
set_option maxRecDepth 100000 in
set_option maxHeartbeats 1000000 in
theorem finds_1 (a : Int) (w : World) : Calls Try.prog 43 #[moV qg ng cg qa na ca qh nh ch qf nf cf, fnV lv qp np cp qr nr cr loc stk qc nc cc, inV 1 a] w fun e w' => e = .returned (.bool (true)) ∧ Below w.heap.size w w' := by
  go_enter Try.func43, Try.ntmps43
  go_wp2_with (go_at_call 60; refine (finds1_any _ a _ _ (new_in _ _ _ (by simp))).mono ?_; rintro e w1 ⟨rfl, rfl⟩)
  go_ret
  exact ⟨rfl, bl_al (bl_al (bl_al (Below.refl _ w) _) _) _⟩
set_option maxRecDepth 100000 in
set_option maxHeartbeats 1000000 in
theorem finds_2 (a : Int) (w : World) : Calls Try.prog 43 #[moV qg ng cg qa na ca qh nh ch qf nf cf, fnV lv qp np cp qr nr cr loc stk qc nc cc, inV 2 a] w fun e w' => e = .returned (.bool (true)) ∧ Below w.heap.size w w' := by
  go_enter Try.func43, Try.ntmps43
  go_wp2_with (go_at_call 60; refine (finds1_any _ a _ _ (new_in _ _ _ (by simp))).mono ?_; rintro e w1 ⟨rfl, rfl⟩)
  go_ret
  exact ⟨rfl, bl_al (bl_al (bl_al (Below.refl _ w) _) _) _⟩
set_option maxRecDepth 100000 in
set_option maxHeartbeats 1000000 in
theorem finds_3 (a : Int) (w : World) : Calls Try.prog 43 #[moV qg ng cg qa na ca qh nh ch qf nf cf, fnV lv qp np cp qr nr cr loc stk qc nc cc, inV 3 a] w fun e w' => e = .returned (.bool (true)) ∧ Below w.heap.size w w' := by
  go_enter Try.func43, Try.ntmps43
  go_wp2_with (go_at_call 60; refine (finds1_any _ a _ _ (new_in _ _ _ (by simp))).mono ?_; rintro e w1 ⟨rfl, rfl⟩)
  go_ret
  exact ⟨rfl, bl_al (bl_al (bl_al (Below.refl _ w) _) _) _⟩
set_option maxRecDepth 100000 in
set_option maxHeartbeats 1000000 in
theorem finds_4 (a : Int) (w : World) : Calls Try.prog 43 #[moV qg ng cg qa na ca qh nh ch qf nf cf, fnV lv qp np cp qr nr cr loc stk qc nc cc, inV 4 a] w fun e w' => e = .returned (.bool (true)) ∧ Below w.heap.size w w' := by
  go_enter Try.func43, Try.ntmps43
  go_wp2_with (go_at_call 60; refine (finds1_any _ a _ _ (new_in _ _ _ (by simp))).mono ?_; rintro e w1 ⟨rfl, rfl⟩)
  go_ret
  exact ⟨rfl, bl_al (bl_al (bl_al (Below.refl _ w) _) _) _⟩
set_option maxRecDepth 100000 in
set_option maxHeartbeats 1000000 in
theorem finds_5 (a : Int) (w : World) : Calls Try.prog 43 #[moV qg ng cg qa na ca qh nh ch qf nf cf, fnV lv qp np cp qr nr cr loc stk qc nc cc, inV 5 a] w fun e w' => e = .returned (.bool (true)) ∧ Below w.heap.size w w' := by
  go_enter Try.func43, Try.ntmps43
  go_wp2_with (go_at_call 60; refine (finds1_any _ a _ _ (new_in _ _ _ (by simp))).mono ?_; rintro e w1 ⟨rfl, rfl⟩)
  go_ret
  exact ⟨rfl, bl_al (bl_al (bl_al (Below.refl _ w) _) _) _⟩
set_option maxRecDepth 100000 in
set_option maxHeartbeats 1000000 in
theorem finds_6 (a : Int) (w : World) : Calls Try.prog 43 #[moV qg ng cg qa na ca qh nh ch qf nf cf, fnV lv qp np cp qr nr cr loc stk qc nc cc, inV 6 a] w fun e w' => e = .returned (.bool (true)) ∧ Below w.heap.size w w' := by
  go_enter Try.func43, Try.ntmps43
  go_wp2_with (go_at_call 60; refine (finds1_any _ a _ _ (new_in _ _ _ (by simp))).mono ?_; rintro e w1 ⟨rfl, rfl⟩)
  go_ret
  exact ⟨rfl, bl_al (bl_al (bl_al (Below.refl _ w) _) _) _⟩
set_option maxRecDepth 100000 in
set_option maxHeartbeats 1000000 in
theorem finds_7 (a : Int) (w : World) : Calls Try.prog 43 #[moV qg ng cg qa na ca qh nh ch qf nf cf, fnV lv qp np cp qr nr cr loc stk qc nc cc, inV 7 a] w fun e w' => e = .returned (.bool (true)) ∧ Below w.heap.size w w' := by
  go_enter Try.func43, Try.ntmps43
  go_wp2_with (go_at_call 60; refine (finds1_any _ a _ _ (new_in _ _ _ (by simp))).mono ?_; rintro e w1 ⟨rfl, rfl⟩)
  go_ret
  exact ⟨rfl, bl_al (bl_al (bl_al (Below.refl _ w) _) _) _⟩
set_option maxRecDepth 100000 in
set_option maxHeartbeats 1000000 in
theorem finds_8 (a : Int) (w : World) : Calls Try.prog 43 #[moV qg ng cg qa na ca qh nh ch qf nf cf, fnV lv qp np cp qr nr cr loc stk qc nc cc, inV 8 a] w fun e w' => e = .returned (.bool (true)) ∧ Below w.heap.size w w' := by
  go_enter Try.func43, Try.ntmps43
  go_wp2_with (go_at_call 60; refine (finds1_any _ a _ _ (new_in _ _ _ (by simp))).mono ?_; rintro e w1 ⟨rfl, rfl⟩)
  go_ret
  exact ⟨rfl, bl_al (bl_al (bl_al (Below.refl _ w) _) _) _⟩
set_option maxRecDepth 100000 in
set_option maxHeartbeats 1000000 in
theorem finds_9 (a : Int) (w : World) : Calls Try.prog 43 #[moV qg ng cg qa na ca qh nh ch qf nf cf, fnV lv qp np cp qr nr cr loc stk qc nc cc, inV 9 a] w fun e w' => e = .returned (.bool (true)) ∧ Below w.heap.size w w' := by
  go_enter Try.func43, Try.ntmps43
  go_wp2_with (go_at_call 60; refine (finds1_any _ a _ _ (new_in _ _ _ (by simp))).mono ?_; rintro e w1 ⟨rfl, rfl⟩)
  go_ret
  exact ⟨rfl, bl_al (bl_al (bl_al (Below.refl _ w) _) _) _⟩
set_option maxRecDepth 100000 in
set_option maxHeartbeats 1000000 in
theorem finds_10 (a : Int) (w : World) : Calls Try.prog 43 #[moV qg ng cg qa na ca qh nh ch qf nf cf, fnV lv qp np cp qr nr cr loc stk qc nc cc, inV 10 a] w fun e w' => e = .returned (.bool (true)) ∧ Below w.heap.size w w' := by
  go_enter Try.func43, Try.ntmps43
  go_wp2_with (go_at_call 60; refine (finds1_any _ a _ _ (new_in _ _ _ (by simp))).mono ?_; rintro e w1 ⟨rfl, rfl⟩)
  go_ret
  exact ⟨rfl, bl_al (bl_al (bl_al (Below.refl _ w) _) _) _⟩
set_option maxRecDepth 100000 in
set_option maxHeartbeats 1000000 in
theorem finds_11 (a : Int) (w : World) : Calls Try.prog 43 #[moV qg ng cg qa na ca qh nh ch qf nf cf, fnV lv qp np cp qr nr cr loc stk qc nc cc, inV 11 a] w fun e w' => e = .returned (.bool (true)) ∧ Below w.heap.size w w' := by
  go_enter Try.func43, Try.ntmps43
  go_wp2_with (go_at_call 60; refine (finds1_any _ a _ _ (new_in _ _ _ (by simp))).mono ?_; rintro e w1 ⟨rfl, rfl⟩)
  go_ret
  exact ⟨rfl, bl_al (bl_al (bl_al (Below.refl _ w) _) _) _⟩
set_option maxRecDepth 100000 in
set_option maxHeartbeats 1000000 in
theorem finds_12 (a : Int) (w : World) : Calls Try.prog 43 #[moV qg ng cg qa na ca qh nh ch qf nf cf, fnV lv qp np cp qr nr cr loc stk qc nc cc, inV 12 a] w fun e w' => e = .returned (.bool (true)) ∧ Below w.heap.size w w' := by
  go_enter Try.func43, Try.ntmps43
  go_wp2_with (go_at_call 60; refine (finds1_any _ a _ _ (new_in _ _ _ (by simp))).mono ?_; rintro e w1 ⟨rfl, rfl⟩)
  go_ret
  exact ⟨rfl, bl_al (bl_al (bl_al (Below.refl _ w) _) _) _⟩
set_option maxRecDepth 100000 in
set_option maxHeartbeats 1000000 in
theorem finds_13 (a : Int) (w : World) : Calls Try.prog 43 #[moV qg ng cg qa na ca qh nh ch qf nf cf, fnV lv qp np cp qr nr cr loc stk qc nc cc, inV 13 a] w fun e w' => e = .returned (.bool (true)) ∧ Below w.heap.size w w' := by
  go_enter Try.func43, Try.ntmps43
  go_wp2_with (go_at_call 60; refine (finds1_any _ a _ _ (new_in _ _ _ (by simp))).mono ?_; rintro e w1 ⟨rfl, rfl⟩)
  go_ret
  exact ⟨rfl, bl_al (bl_al (bl_al (Below.refl _ w) _) _) _⟩
set_option maxRecDepth 100000 in
set_option maxHeartbeats 1000000 in
theorem finds_14 (a : Int) (w : World) : Calls Try.prog 43 #[moV qg ng cg qa na ca qh nh ch qf nf cf, fnV lv qp np cp qr nr cr loc stk qc nc cc, inV 14 a] w fun e w' => e = .returned (.bool (true)) ∧ Below w.heap.size w w' := by
  go_enter Try.func43, Try.ntmps43
  go_wp2_with (go_at_call 60; refine (finds1_any _ a _ _ (new_in _ _ _ (by simp))).mono ?_; rintro e w1 ⟨rfl, rfl⟩)
  go_ret
  exact ⟨rfl, bl_al (bl_al (bl_al (Below.refl _ w) _) _) _⟩
set_option maxRecDepth 100000 in
set_option maxHeartbeats 1000000 in
theorem finds_15 (a : Int) (w : World) : Calls Try.prog 43 #[moV qg ng cg qa na ca qh nh ch qf nf cf, fnV lv qp np cp qr nr cr loc stk qc nc cc, inV 15 a] w fun e w' => e = .returned (.bool (true)) ∧ Below w.heap.size w w' := by
  go_enter Try.func43, Try.ntmps43
  go_wp2_with (go_at_call 60; refine (finds1_any _ a _ _ (new_in _ _ _ (by simp))).mono ?_; rintro e w1 ⟨rfl, rfl⟩)
  go_ret
  exact ⟨rfl, bl_al (bl_al (bl_al (Below.refl _ w) _) _) _⟩
set_option maxRecDepth 100000 in
set_option maxHeartbeats 1000000 in
theorem finds_16 (a : Int) (w : World) : Calls Try.prog 43 #[moV qg ng cg qa na ca qh nh ch qf nf cf, fnV lv qp np cp qr nr cr loc stk qc nc cc, inV 16 a] w fun e w' => e = .returned (.bool (true)) ∧ Below w.heap.size w w' := by
  go_enter Try.func43, Try.ntmps43
  go_wp2_with (go_at_call 60; refine (finds1_any _ a _ _ (new_in _ _ _ (by simp))).mono ?_; rintro e w1 ⟨rfl, rfl⟩)
  go_ret
  exact ⟨rfl, bl_al (bl_al (bl_al (Below.refl _ w) _) _) _⟩
set_option maxRecDepth 100000 in
set_option maxHeartbeats 1000000 in
theorem finds_17 (a : Int) (w : World) : Calls Try.prog 43 #[moV qg ng cg qa na ca qh nh ch qf nf cf, fnV lv qp np cp qr nr cr loc stk qc nc cc, inV 17 a] w fun e w' => e = .returned (.bool (true)) ∧ Below w.heap.size w w' := by
  go_enter Try.func43, Try.ntmps43
  go_wp2_with (go_at_call 60; refine (finds1_any _ a _ _ (new_in _ _ _ (by simp))).mono ?_; rintro e w1 ⟨rfl, rfl⟩)
  go_ret
  exact ⟨rfl, bl_al (bl_al (bl_al (Below.refl _ w) _) _) _⟩
set_option maxRecDepth 100000 in
set_option maxHeartbeats 1000000 in
theorem finds_32 (a : Int) (w : World) : Calls Try.prog 43 #[moV qg ng cg qa na ca qh nh ch qf nf cf, fnV lv qp np cp qr nr cr loc stk qc nc cc, inV 32 a] w fun e w' => e = .returned (.bool (true)) ∧ Below w.heap.size w w' := by
  go_enter Try.func43, Try.ntmps43
  go_wp2_with (go_at_call 60; refine (finds1_any _ a _ _ (new_in _ _ _ (by simp))).mono ?_; rintro e w1 ⟨rfl, rfl⟩)
  go_ret
  exact ⟨rfl, bl_al (bl_al (bl_al (Below.refl _ w) _) _) _⟩
set_option maxRecDepth 100000 in
set_option maxHeartbeats 1000000 in
theorem finds_33a (a : Int) (h : a < np) (w : World) : Calls Try.prog 43 #[moV qg ng cg qa na ca qh nh ch qf nf cf, fnV lv qp np cp qr nr cr loc stk qc nc cc, inV 33 a] w fun e w' => e = .returned (.bool (true)) ∧ Below w.heap.size w w' := by
  have hd : decide (a < (np : Int)) = true := decide_eq_true h
  go_enter Try.func43, Try.ntmps43
  go_wp2_with (go_at_call 60; refine (finds1_any _ a _ _ (new_in _ _ _ (by simp))).mono ?_; rintro e w1 ⟨rfl, rfl⟩)
  all_goals
    go_ret
    first
      | exact ⟨rfl, bl_al (bl_al (bl_al (Below.refl _ w) _) _) _⟩
      | exact ⟨by simp [h2], bl_al (bl_al (bl_al (Below.refl _ w) _) _) _⟩
set_option maxRecDepth 100000 in
set_option maxHeartbeats 1000000 in
theorem finds_33b (a : Int) (h : ¬ a < np) (h2 : a - np < loc) (hw : wrap64 (a - np) = a - np) (w : World) : Calls Try.prog 43 #[moV qg ng cg qa na ca qh nh ch qf nf cf, fnV lv qp np cp qr nr cr loc stk qc nc cc, inV 33 a] w fun e w' => e = .returned (.bool (true)) ∧ Below w.heap.size w w' := by
  have hd : decide (a < (np : Int)) = false := decide_eq_false h
  go_enter Try.func43, Try.ntmps43
  go_wp2_with (go_at_call 60; refine (finds1_any _ a _ _ (new_in _ _ _ (by simp))).mono ?_; rintro e w1 ⟨rfl, rfl⟩)
  all_goals
    go_ret
    first
      | exact ⟨rfl, bl_al (bl_al (bl_al (Below.refl _ w) _) _) _⟩
      | exact ⟨by simp [h2], bl_al (bl_al (bl_al (Below.refl _ w) _) _) _⟩
set_option maxRecDepth 100000 in
set_option maxHeartbeats 1000000 in
theorem finds_33c (a : Int) (h : ¬ a < np) (h2 : ¬ a - np < loc) (hw : wrap64 (a - np) = a - np) (w : World) : Calls Try.prog 43 #[moV qg ng cg qa na ca qh nh ch qf nf cf, fnV lv qp np cp qr nr cr loc stk qc nc cc, inV 33 a] w fun e w' => e = .returned (.bool (false)) ∧ Below w.heap.size w w' := by
  have hd : decide (a < (np : Int)) = false := decide_eq_false h
  go_enter Try.func43, Try.ntmps43
  go_wp2_with (go_at_call 60; refine (finds1_any _ a _ _ (new_in _ _ _ (by simp))).mono ?_; rintro e w1 ⟨rfl, rfl⟩)
  all_goals
    go_ret
    first
      | exact ⟨rfl, bl_al (bl_al (bl_al (Below.refl _ w) _) _) _⟩
      | exact ⟨by simp [h2], bl_al (bl_al (bl_al (Below.refl _ w) _) _) _⟩
set_option maxRecDepth 100000 in
set_option maxHeartbeats 1000000 in
theorem finds_34a (a : Int) (h : a < np) (w : World) : Calls Try.prog 43 #[moV qg ng cg qa na ca qh nh ch qf nf cf, fnV lv qp np cp qr nr cr loc stk qc nc cc, inV 34 a] w fun e w' => e = .returned (.bool (true)) ∧ Below w.heap.size w w' := by
  have hd : decide (a < (np : Int)) = true := decide_eq_true h
  go_enter Try.func43, Try.ntmps43
  go_wp2_with (go_at_call 60; refine (finds1_any _ a _ _ (new_in _ _ _ (by simp))).mono ?_; rintro e w1 ⟨rfl, rfl⟩)
  all_goals
    go_ret
    first
      | exact ⟨rfl, bl_al (bl_al (bl_al (Below.refl _ w) _) _) _⟩
      | exact ⟨by simp [h2], bl_al (bl_al (bl_al (Below.refl _ w) _) _) _⟩
set_option maxRecDepth 100000 in
set_option maxHeartbeats 1000000 in
theorem finds_34b (a : Int) (h : ¬ a < np) (h2 : a - np < loc) (hw : wrap64 (a - np) = a - np) (w : World) : Calls Try.prog 43 #[moV qg ng cg qa na ca qh nh ch qf nf cf, fnV lv qp np cp qr nr cr loc stk qc nc cc, inV 34 a] w fun e w' => e = .returned (.bool (true)) ∧ Below w.heap.size w w' := by
  have hd : decide (a < (np : Int)) = false := decide_eq_false h
  go_enter Try.func43, Try.ntmps43
  go_wp2_with (go_at_call 60; refine (finds1_any _ a _ _ (new_in _ _ _ (by simp))).mono ?_; rintro e w1 ⟨rfl, rfl⟩)
  all_goals
    go_ret
    first
      | exact ⟨rfl, bl_al (bl_al (bl_al (Below.refl _ w) _) _) _⟩
      | exact ⟨by simp [h2], bl_al (bl_al (bl_al (Below.refl _ w) _) _) _⟩
set_option maxRecDepth 100000 in
set_option maxHeartbeats 1000000 in
theorem finds_34c (a : Int) (h : ¬ a < np) (h2 : ¬ a - np < loc) (hw : wrap64 (a - np) = a - np) (w : World) : Calls Try.prog 43 #[moV qg ng cg qa na ca qh nh ch qf nf cf, fnV lv qp np cp qr nr cr loc stk qc nc cc, inV 34 a] w fun e w' => e = .returned (.bool (false)) ∧ Below w.heap.size w w' := by
  have hd : decide (a < (np : Int)) = false := decide_eq_false h
  go_enter Try.func43, Try.ntmps43
  go_wp2_with (go_at_call 60; refine (finds1_any _ a _ _ (new_in _ _ _ (by simp))).mono ?_; rintro e w1 ⟨rfl, rfl⟩)
  all_goals
    go_ret
    first
      | exact ⟨rfl, bl_al (bl_al (bl_al (Below.refl _ w) _) _) _⟩
      | exact ⟨by simp [h2], bl_al (bl_al (bl_al (Below.refl _ w) _) _) _⟩
set_option maxRecDepth 100000 in
set_option maxHeartbeats 1000000 in
theorem finds_35 (a : Int) (w : World) : Calls Try.prog 43 #[moV qg ng cg qa na ca qh nh ch qf nf cf, fnV lv qp np cp qr nr cr loc stk qc nc cc, inV 35 a] w fun e w' => e = .returned (.bool (decide (a < ng))) ∧ Below w.heap.size w w' := by
  go_enter Try.func43, Try.ntmps43
  go_wp2_with (go_at_call 60; refine (finds1_any _ a _ _ (new_in _ _ _ (by simp))).mono ?_; rintro e w1 ⟨rfl, rfl⟩)
  go_ret
  exact ⟨rfl, bl_al (bl_al (bl_al (Below.refl _ w) _) _) _⟩
set_option maxRecDepth 100000 in
set_option maxHeartbeats 1000000 in
theorem finds_36 (a : Int) (w : World) : Calls Try.prog 43 #[moV qg ng cg qa na ca qh nh ch qf nf cf, fnV lv qp np cp qr nr cr loc stk qc nc cc, inV 36 a] w fun e w' => e = .returned (.bool (decide (a < ng))) ∧ Below w.heap.size w w' := by
  go_enter Try.func43, Try.ntmps43
  go_wp2_with (go_at_call 60; refine (finds1_any _ a _ _ (new_in _ _ _ (by simp))).mono ?_; rintro e w1 ⟨rfl, rfl⟩)
  go_ret
  exact ⟨rfl, bl_al (bl_al (bl_al (Below.refl _ w) _) _) _⟩
set_option maxRecDepth 100000 in
set_option maxHeartbeats 1000000 in
theorem finds_37 (a : Int) (w : World) : Calls Try.prog 43 #[moV qg ng cg qa na ca qh nh ch qf nf cf, fnV lv qp np cp qr nr cr loc stk qc nc cc, inV 37 a] w fun e w' => e = .returned (.bool (decide (a < na))) ∧ Below w.heap.size w w' := by
  go_enter Try.func43, Try.ntmps43
  go_wp2_with (go_at_call 60; refine (finds1_any _ a _ _ (new_in _ _ _ (by simp))).mono ?_; rintro e w1 ⟨rfl, rfl⟩)
  go_ret
  exact ⟨rfl, bl_al (bl_al (bl_al (Below.refl _ w) _) _) _⟩
set_option maxRecDepth 100000 in
set_option maxHeartbeats 1000000 in
theorem finds_38 (a : Int) (w : World) : Calls Try.prog 43 #[moV qg ng cg qa na ca qh nh ch qf nf cf, fnV lv qp np cp qr nr cr loc stk qc nc cc, inV 38 a] w fun e w' => e = .returned (.bool (decide (a < na))) ∧ Below w.heap.size w w' := by
  go_enter Try.func43, Try.ntmps43
  go_wp2_with (go_at_call 60; refine (finds1_any _ a _ _ (new_in _ _ _ (by simp))).mono ?_; rintro e w1 ⟨rfl, rfl⟩)
  go_ret
  exact ⟨rfl, bl_al (bl_al (bl_al (Below.refl _ w) _) _) _⟩
set_option maxRecDepth 100000 in
set_option maxHeartbeats 1000000 in
theorem finds_39 (a : Int) (w : World) : Calls Try.prog 43 #[moV qg ng cg qa na ca qh nh ch qf nf cf, fnV lv qp np cp qr nr cr loc stk qc nc cc, inV 39 a] w fun e w' => e = .returned (.bool (true)) ∧ Below w.heap.size w w' := by
  go_enter Try.func43, Try.ntmps43
  go_wp2_with (go_at_call 60; refine (finds1_any _ a _ _ (new_in _ _ _ (by simp))).mono ?_; rintro e w1 ⟨rfl, rfl⟩)
  go_ret
  exact ⟨rfl, bl_al (bl_al (bl_al (Below.refl _ w) _) _) _⟩
set_option maxRecDepth 100000 in
set_option maxHeartbeats 1000000 in
theorem finds_40 (a : Int) (w : World) : Calls Try.prog 43 #[moV qg ng cg qa na ca qh nh ch qf nf cf, fnV lv qp np cp qr nr cr loc stk qc nc cc, inV 40 a] w fun e w' => e = .returned (.bool (true)) ∧ Below w.heap.size w w' := by
  go_enter Try.func43, Try.ntmps43
  go_wp2_with (go_at_call 60; refine (finds1_any _ a _ _ (new_in _ _ _ (by simp))).mono ?_; rintro e w1 ⟨rfl, rfl⟩)
  go_ret
  exact ⟨rfl, bl_al (bl_al (bl_al (Below.refl _ w) _) _) _⟩
set_option maxRecDepth 100000 in
set_option maxHeartbeats 1000000 in
theorem finds_41 (a : Int) (w : World) : Calls Try.prog 43 #[moV qg ng cg qa na ca qh nh ch qf nf cf, fnV lv qp np cp qr nr cr loc stk qc nc cc, inV 41 a] w fun e w' => e = .returned (.bool (true)) ∧ Below w.heap.size w w' := by
  go_enter Try.func43, Try.ntmps43
  go_wp2_with (go_at_call 60; refine (finds1_any _ a _ _ (new_in _ _ _ (by simp))).mono ?_; rintro e w1 ⟨rfl, rfl⟩)
  go_ret
  exact ⟨rfl, bl_al (bl_al (bl_al (Below.refl _ w) _) _) _⟩
set_option maxRecDepth 100000 in
set_option maxHeartbeats 1000000 in
theorem finds_42 (a : Int) (w : World) : Calls Try.prog 43 #[moV qg ng cg qa na ca qh nh ch qf nf cf, fnV lv qp np cp qr nr cr loc stk qc nc cc, inV 42 a] w fun e w' => e = .returned (.bool (true)) ∧ Below w.heap.size w w' := by
  go_enter Try.func43, Try.ntmps43
  go_wp2_with (go_at_call 60; refine (finds1_any _ a _ _ (new_in _ _ _ (by simp))).mono ?_; rintro e w1 ⟨rfl, rfl⟩)
  go_ret
  exact ⟨rfl, bl_al (bl_al (bl_al (Below.refl _ w) _) _) _⟩
set_option maxRecDepth 100000 in
set_option maxHeartbeats 1000000 in
theorem finds_43 (a : Int) (w : World) : Calls Try.prog 43 #[moV qg ng cg qa na ca qh nh ch qf nf cf, fnV lv qp np cp qr nr cr loc stk qc nc cc, inV 43 a] w fun e w' => e = .returned (.bool (decide (a < nc))) ∧ Below w.heap.size w w' := by
  go_enter Try.func43, Try.ntmps43
  go_wp2_with (go_at_call 60; refine (finds1_any _ a _ _ (new_in _ _ _ (by simp))).mono ?_; rintro e w1 ⟨rfl, rfl⟩)
  go_ret
  exact ⟨rfl, bl_al (bl_al (bl_al (Below.refl _ w) _) _) _⟩
set_option maxRecDepth 100000 in
set_option maxHeartbeats 1000000 in
theorem finds_44 (a : Int) (w : World) : Calls Try.prog 43 #[moV qg ng cg qa na ca qh nh ch qf nf cf, fnV lv qp np cp qr nr cr loc stk qc nc cc, inV 44 a] w fun e w' => e = .returned (.bool (decide (a < nc))) ∧ Below w.heap.size w w' := by
  go_enter Try.func43, Try.ntmps43
  go_wp2_with (go_at_call 60; refine (finds1_any _ a _ _ (new_in _ _ _ (by simp))).mono ?_; rintro e w1 ⟨rfl, rfl⟩)
  go_ret
  exact ⟨rfl, bl_al (bl_al (bl_al (Below.refl _ w) _) _) _⟩
set_option maxRecDepth 100000 in
set_option maxHeartbeats 1000000 in
theorem finds_45 (a : Int) (w : World) : Calls Try.prog 43 #[moV qg ng cg qa na ca qh nh ch qf nf cf, fnV lv qp np cp qr nr cr loc stk qc nc cc, inV 45 a] w fun e w' => e = .returned (.bool (decide (a < nf))) ∧ Below w.heap.size w w' := by
  go_enter Try.func43, Try.ntmps43
  go_wp2_with (go_at_call 60; refine (finds1_any _ a _ _ (new_in _ _ _ (by simp))).mono ?_; rintro e w1 ⟨rfl, rfl⟩)
  go_ret
  exact ⟨rfl, bl_al (bl_al (bl_al (Below.refl _ w) _) _) _⟩
set_option maxRecDepth 100000 in
set_option maxHeartbeats 1000000 in
theorem finds_46 (a : Int) (w : World) : Calls Try.prog 43 #[moV qg ng cg qa na ca qh nh ch qf nf cf, fnV lv qp np cp qr nr cr loc stk qc nc cc, inV 46 a] w fun e w' => e = .returned (.bool (true)) ∧ Below w.heap.size w w' := by
  go_enter Try.func43, Try.ntmps43
  go_wp2_with (go_at_call 60; refine (finds1_any _ a _ _ (new_in _ _ _ (by simp))).mono ?_; rintro e w1 ⟨rfl, rfl⟩)
  go_ret
  exact ⟨rfl, bl_al (bl_al (bl_al (Below.refl _ w) _) _) _⟩
set_option maxRecDepth 100000 in
set_option maxHeartbeats 1000000 in
theorem finds_47 (a : Int) (w : World) : Calls Try.prog 43 #[moV qg ng cg qa na ca qh nh ch qf nf cf, fnV lv qp np cp qr nr cr loc stk qc nc cc, inV 47 a] w fun e w' => e = .returned (.bool (decide (a < nh))) ∧ Below w.heap.size w w' := by
  go_enter Try.func43, Try.ntmps43
  go_wp2_with (go_at_call 60; refine (finds1_any _ a _ _ (new_in _ _ _ (by simp))).mono ?_; rintro e w1 ⟨rfl, rfl⟩)
  go_ret
  exact ⟨rfl, bl_al (bl_al (bl_al (Below.refl _ w) _) _) _⟩
theorem finds_any (op a : Int) (ha : 0 ≤ a ∨ kiI op ≠ 2) (ha2 : a < 9223372036854775808) (hp : np ≤ maxLen) (hk : knI op = true) (w : World) :
    Calls Try.prog 43 #[moV qg ng cg qa na ca qh nh ch qf nf cf, fnV lv qp np cp qr nr cr loc stk qc nc cc, inV op a] w fun e w' => e = .returned (.bool (thI ng na nh nf ⟨np, nr, loc, nc⟩ (kiI op) a)) ∧ Below w.heap.size w w' := by
  unfold maxLen at hp
  rcases knI_cases hk with rfl | rfl | rfl | rfl | rfl | rfl | rfl | rfl | rfl | rfl | rfl | rfl | rfl | rfl | rfl | rfl | rfl | rfl | rfl | rfl | rfl | rfl | rfl | rfl | rfl | rfl | rfl | rfl | rfl | rfl | rfl | rfl | rfl
  · exact finds_1 lv qp np cp qr nr cr loc stk qc nc cc qg ng cg qa na ca qh nh ch qf nf cf a w
  · exact finds_2 lv qp np cp qr nr cr loc stk qc nc cc qg ng cg qa na ca qh nh ch qf nf cf a w
  · exact finds_3 lv qp np cp qr nr cr loc stk qc nc cc qg ng cg qa na ca qh nh ch qf nf cf a w
  · exact finds_4 lv qp np cp qr nr cr loc stk qc nc cc qg ng cg qa na ca qh nh ch qf nf cf a w
  · exact finds_5 lv qp np cp qr nr cr loc stk qc nc cc qg ng cg qa na ca qh nh ch qf nf cf a w
  · exact finds_6 lv qp np cp qr nr cr loc stk qc nc cc qg ng cg qa na ca qh nh ch qf nf cf a w
  · exact finds_7 lv qp np cp qr nr cr loc stk qc nc cc qg ng cg qa na ca qh nh ch qf nf cf a w
  · exact finds_8 lv qp np cp qr nr cr loc stk qc nc cc qg ng cg qa na ca qh nh ch qf nf cf a w
  · exact finds_9 lv qp np cp qr nr cr loc stk qc nc cc qg ng cg qa na ca qh nh ch qf nf cf a w
  · exact finds_10 lv qp np cp qr nr cr loc stk qc nc cc qg ng cg qa na ca qh nh ch qf nf cf a w
  · exact finds_11 lv qp np cp qr nr cr loc stk qc nc cc qg ng cg qa na ca qh nh ch qf nf cf a w
  · exact finds_12 lv qp np cp qr nr cr loc stk qc nc cc qg ng cg qa na ca qh nh ch qf nf cf a w
  · exact finds_13 lv qp np cp qr nr cr loc stk qc nc cc qg ng cg qa na ca qh nh ch qf nf cf a w
  · exact finds_14 lv qp np cp qr nr cr loc stk qc nc cc qg ng cg qa na ca qh nh ch qf nf cf a w
  · exact finds_15 lv qp np cp qr nr cr loc stk qc nc cc qg ng cg qa na ca qh nh ch qf nf cf a w
  · exact finds_16 lv qp np cp qr nr cr loc stk qc nc cc qg ng cg qa na ca qh nh ch qf nf cf a w
  · exact finds_17 lv qp np cp qr nr cr loc stk qc nc cc qg ng cg qa na ca qh nh ch qf nf cf a w
  · exact finds_32 lv qp np cp qr nr cr loc stk qc nc cc qg ng cg qa na ca qh nh ch qf nf cf a w
  · have ha' : 0 ≤ a := ha.resolve_right (by decide)
    by_cases h : a < np
    · rw [show thI ng na nh nf ⟨np, nr, loc, nc⟩ (kiI 33) a = true from by show (decide (a < (np : Int)) || decide (a - (np : Int) < loc)) = true; rw [decide_eq_true h]; rfl]
      exact finds_33a lv qp np cp qr nr cr loc stk qc nc cc qg ng cg qa na ca qh nh ch qf nf cf a h w
    · have hw : wrap64 (a - np) = a - np := by unfold wrap64; omega
      by_cases h2 : a - np < loc
      · rw [show thI ng na nh nf ⟨np, nr, loc, nc⟩ (kiI 33) a = true from by show (decide (a < (np : Int)) || decide (a - (np : Int) < loc)) = true; rw [decide_eq_true h2, Bool.or_true]]
        exact finds_33b lv qp np cp qr nr cr loc stk qc nc cc qg ng cg qa na ca qh nh ch qf nf cf a h h2 hw w
      · rw [show thI ng na nh nf ⟨np, nr, loc, nc⟩ (kiI 33) a = false from by show (decide (a < (np : Int)) || decide (a - (np : Int) < loc)) = false; rw [decide_eq_false h, decide_eq_false h2]; rfl]
        exact finds_33c lv qp np cp qr nr cr loc stk qc nc cc qg ng cg qa na ca qh nh ch qf nf cf a h h2 hw w
  · have ha' : 0 ≤ a := ha.resolve_right (by decide)
    by_cases h : a < np
    · rw [show thI ng na nh nf ⟨np, nr, loc, nc⟩ (kiI 34) a = true from by show (decide (a < (np : Int)) || decide (a - (np : Int) < loc)) = true; rw [decide_eq_true h]; rfl]
      exact finds_34a lv qp np cp qr nr cr loc stk qc nc cc qg ng cg qa na ca qh nh ch qf nf cf a h w
    · have hw : wrap64 (a - np) = a - np := by unfold wrap64; omega
      by_cases h2 : a - np < loc
      · rw [show thI ng na nh nf ⟨np, nr, loc, nc⟩ (kiI 34) a = true from by show (decide (a < (np : Int)) || decide (a - (np : Int) < loc)) = true; rw [decide_eq_true h2, Bool.or_true]]
        exact finds_34b lv qp np cp qr nr cr loc stk qc nc cc qg ng cg qa na ca qh nh ch qf nf cf a h h2 hw w
      · rw [show thI ng na nh nf ⟨np, nr, loc, nc⟩ (kiI 34) a = false from by show (decide (a < (np : Int)) || decide (a - (np : Int) < loc)) = false; rw [decide_eq_false h, decide_eq_false h2]; rfl]
        exact finds_34c lv qp np cp qr nr cr loc stk qc nc cc qg ng cg qa na ca qh nh ch qf nf cf a h h2 hw w
  · exact finds_35 lv qp np cp qr nr cr loc stk qc nc cc qg ng cg qa na ca qh nh ch qf nf cf a w
  · exact finds_36 lv qp np cp qr nr cr loc stk qc nc cc qg ng cg qa na ca qh nh ch qf nf cf a w
  · exact finds_37 lv qp np cp qr nr cr loc stk qc nc cc qg ng cg qa na ca qh nh ch qf nf cf a w
  · exact finds_38 lv qp np cp qr nr cr loc stk qc nc cc qg ng cg qa na ca qh nh ch qf nf cf a w
  · exact finds_39 lv qp np cp qr nr cr loc stk qc nc cc qg ng cg qa na ca qh nh ch qf nf cf a w
  · exact finds_40 lv qp np cp qr nr cr loc stk qc nc cc qg ng cg qa na ca qh nh ch qf nf cf a w
  · exact finds_41 lv qp np cp qr nr cr loc stk qc nc cc qg ng cg qa na ca qh nh ch qf nf cf a w
  · exact finds_42 lv qp np cp qr nr cr loc stk qc nc cc qg ng cg qa na ca qh nh ch qf nf cf a w
  · exact finds_43 lv qp np cp qr nr cr loc stk qc nc cc qg ng cg qa na ca qh nh ch qf nf cf a w
  · exact finds_44 lv qp np cp qr nr cr loc stk qc nc cc qg ng cg qa na ca qh nh ch qf nf cf a w
  · exact finds_45 lv qp np cp qr nr cr loc stk qc nc cc qg ng cg qa na ca qh nh ch qf nf cf a w
  · exact finds_46 lv qp np cp qr nr cr loc stk qc nc cc qg ng cg qa na ca qh nh ch qf nf cf a w
  · exact finds_47 lv qp np cp qr nr cr loc stk qc nc cc qg ng cg qa na ca qh nh ch qf nf cf a w
set_option maxRecDepth 100000 in
set_option maxHeartbeats 1000000 in
theorem there_any (k a : Int) (ha : 0 ≤ a ∨ k ≠ 2) (ha2 : a < 9223372036854775808) (hp : np ≤ maxLen) (w : World) :
    Calls Try.prog 45 #[moV qg ng cg qa na ca qh nh ch qf nf cf, fnV lv qp np cp qr nr cr loc stk qc nc cc, .int .i64 k, .int .i64 a] w fun e w' => e = .returned (.bool (thI ng na nh nf ⟨np, nr, loc, nc⟩ k a)) ∧ Below w.heap.size w w' := by
  unfold maxLen at hp
  unfold thI
  by_cases h2 : k = 2
  · subst h2
    have ha' : 0 ≤ a := ha.resolve_right (by decide)
    rw [if_pos rfl]
    simp only
    by_cases h : a < np
    · rw [decide_eq_true h, Bool.true_or]
      clear ha
      go_enter Try.func45, Try.ntmps45
      go_wp2
      all_goals
        go_ret
        exact ⟨rfl, bl_al (bl_al (Below.refl _ w) _) _⟩
    · have hw : wrap64 (a - np) = a - np := by unfold wrap64; omega
      rw [decide_eq_false h, Bool.false_or]
      by_cases h3 : a - np < loc
      all_goals
        clear ha
        go_enter Try.func45, Try.ntmps45
        go_wp2
        all_goals
          go_ret
          exact ⟨by simp [h3], bl_al (bl_al (Below.refl _ w) _) _⟩
  · rw [if_neg h2]
    clear ha
    by_cases h3 : k = 3
    · subst h3
      rw [if_pos rfl]
      go_enter Try.func45, Try.ntmps45
      go_wp2
      all_goals
        go_ret
        exact ⟨rfl, bl_al (bl_al (Below.refl _ w) _) _⟩
    rw [if_neg h3]
    by_cases h4 : k = 4
    · subst h4
      rw [if_pos rfl]
      go_enter Try.func45, Try.ntmps45
      go_wp2
      all_goals
        go_ret
        exact ⟨rfl, bl_al (bl_al (Below.refl _ w) _) _⟩
    rw [if_neg h4]
    by_cases h5 : k = 5
    · subst h5
      rw [if_pos rfl]
      go_enter Try.func45, Try.ntmps45
      go_wp2
      all_goals
        go_ret
        exact ⟨rfl, bl_al (bl_al (Below.refl _ w) _) _⟩
    rw [if_neg h5]
    by_cases h6 : k = 6
    · subst h6
      rw [if_pos rfl]
      go_enter Try.func45, Try.ntmps45
      go_wp2
      all_goals
        go_ret
        exact ⟨rfl, bl_al (bl_al (Below.refl _ w) _) _⟩
    rw [if_neg h6]
    by_cases h7 : k = 7
    · subst h7
      rw [if_pos rfl]
      go_enter Try.func45, Try.ntmps45
      go_wp2
      all_goals
        go_ret
        exact ⟨rfl, bl_al (bl_al (Below.refl _ w) _) _⟩
    rw [if_neg h7]
    go_enter Try.func45, Try.ntmps45
    go_wp2
    all_goals
      go_ret
      exact ⟨rfl, bl_al (bl_al (Below.refl _ w) _) _⟩
end
end Go.Proofs.Ytahnhohccbnhjaa
