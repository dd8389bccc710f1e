/- Package names: Check. -/
import Derived.Test.YtlpdjfimefjmcaaGreatNfPR4
import Derived.Test.YtlpdjfimefjmcaaGreatNfPR8
import Derived.Test.YtlpdjfimefjmcaaGreatNfPR2
import Derived.Lib.Hide
import Derived.Laws.AppendOwnNone
import Derived.RangeFuncRecord
import Derived.Laws.Rows
import Derived.Laws.OwnMore
import Derived.Deep.DeepAppendWide
namespace Go.Proofs.YtlpdjfimefjmcaaGreat
open Go Go.RowKit Go.Proofs.Mm

/-- A fault as a value. -/
def flA (x : Int × Int × Int) : Array Value := #[.int .i64 x.1, .int .i64 x.2.1, .int .i64 x.2.2]
/-- Nothing in it is too large. -/
def SmallZ (s : SoZ) : Prop := ∀ d ∈ s.funcs, ∀ x ∈ d.body, x.targets.length ≤ 8796093021952
/-- Whatever is read has no more targets than a row may have. -/
theorem small_of {lt : Bool} {C : Cl} {s : SoZ} {q1 : Option Addr} {c1 : Nat} {q2 : Option Addr} {c2 : Nat} {q3 : Option Addr} {c3 : Nat} {q4 : Option Addr} {c4 : Nat} {q5 : Option Addr} {c5 : Nat} (h : SrcO lt C s q1 c1 q2 c2 q3 c3 q4 c4 q5 c5) : SmallZ s := by
  intro d hd x hx
  obtain ⟨j, hj, rfl⟩ := List.getElem_of_mem hd
  obtain ⟨g, o, qp, cp, qr, cr, qv, cv, qb, cb, e, a0, a1, a2, a3, a4, a5, hl, hp, hr, hv, hb⟩ := h.fn.cells j hj
  obtain ⟨i, hi, rfl⟩ := List.getElem_of_mem hx
  obtain ⟨g, o, qt, ct, qe, ce, e, b0, b1, b2, b3, ht, he⟩ := hb.cells i hi
  have := slx_len ht
  omega
def resF : Option (Nat × Int × Nat) → Int × Int × Int
  | some (f, a, e) => ((e : Int), (f : Int), a)
  | none => (0, 0, 0)
theorem fnsF_next {nest : List Int → Bool} {s : SoZ} {k : Nat} (hk : k < s.funcs.length) (h : fnE nest s k s.funcs[k] = none) : fnsF nest s (s.funcs.drop k) k = fnsF nest s (s.funcs.drop (k + 1)) (k + 1) := by
  rw [List.drop_eq_getElem_cons hk, fnsF, h]
theorem fnsF_hit {nest : List Int → Bool} {s : SoZ} {k : Nat} {a : Int} {e : Nat} (hk : k < s.funcs.length) (h : fnE nest s k s.funcs[k] = some (a, e)) : fnsF nest s (s.funcs.drop k) k = some (k, a, e) := by
  rw [List.drop_eq_getElem_cons hk, fnsF, h]
theorem chk_none {s : SoZ} (h : declsZE s = none) : chkZ nstZ s = resF (fnsF nstZ s (s.funcs.drop 0) 0) := by
  unfold chkZ
  rw [h]
  show _ = resF (fnsF nstZ s s.funcs 0)
  cases fnsF nstZ s s.funcs 0 <;> rfl
theorem declsZE_ne {s : SoZ} {a e : Nat} (h : declsZE s = some (a, e)) : ¬ e = 0 := by
  have grp : ∀ (most : Nat) (ef : Nat → Nat) (base n k : Nat) (x : Nat × Nat), grpF most ef base n k = some x → ¬ x.2 = 0 := by
    intro most ef base n
    induction n with
    | zero => intro k x hx; cases hx
    | succ n ih =>
      intro k x hx
      rw [grpF] at hx
      split at hx
      · cases hx; show ¬ (74 : Nat) = 0; decide
      · split at hx
        · exact ih _ _ hx
        · rename_i h2; cases hx; exact h2
  have all : ∀ (gs : List (Nat × Nat × (Nat → Nat))) (base : Nat) (x : Nat × Nat), grpsF gs base = some x → ¬ x.2 = 0 := by
    intro gs
    induction gs with
    | nil => intro base x hx; cases hx
    | cons g gs ih =>
      intro base x hx
      rw [grpsF] at hx
      cases hg : grpF g.2.1 g.2.2 base g.1 0 with
      | none => rw [hg] at hx; exact ih _ _ hx
      | some y => rw [hg] at hx; cases hx; exact grp _ _ _ _ _ _ hg
  rw [decls_gs] at h
  exact all _ _ _ h
theorem fnE_ne {nest : List Int → Bool} {s : SoZ} {f : Nat} {d : FnZ} {a : Int} {e : Nat} (h : fnE nest s f d = some (a, e)) : ¬ e = 0 := by
  have bd : ∀ (l : List StZ) (i : Nat) (x : Int × Nat), bodyF s f l i = some x → ¬ x.2 = 0 := by
    intro l
    induction l with
    | nil => intro i x hx; cases hx
    | cons y l ih =>
      intro i x hx
      rw [bodyF] at hx
      split at hx
      · exact ih _ _ hx
      · rename_i h2; cases hx; exact h2
  unfold fnE at h
  simp only at h
  split at h
  · exact bd _ _ _ h
  · rename_i h2; cases h; exact h2
section
variable {lt : Bool} {C : Cl} {W : World} {s : SoZ} {q1 : Option Addr} {c1 : Nat} {q2 : Option Addr} {c2 : Nat} {q3 : Option Addr} {c3 : Nat} {q4 : Option Addr} {c4 : Nat} {q5 : Option Addr} {c5 : Nat}
set_option maxRecDepth 100000 in
set_option maxHeartbeats 8000000 in
theorem check_p (h : SrcO lt C s q1 c1 q2 c2 q3 c3 q4 c4 q5 c5) (hC : CLe C (wC W)) (hsm : SmallZ s) :
    Calls Tryz.prog 6 #[.agg (srV s q1 c1 q2 c2 q3 c3 q4 c4 q5 c5)] W (RetB (.agg (flA (chkZ nstZ s))) W) := by
  have HD := Lib.hid (fun (w : World) (hw : Below W.heap.size W w) => declarations_p (W := w) h (hC.trans (below_cle hw)))
  have HF := Lib.hid (fun (w : World) (hw : Below W.heap.size W w) f (hf : f < s.funcs.length) (m : Nat) (hm : m = s.funcs.length) => show Calls Tryz.prog 16 #[.agg #[.slice q1 s.principals.length c1, .slice q2 s.globals.length c2, .slice q3 s.arrays.length c3, .slice q4 s.channels.length c4, .slice q5 m c5], .int .i64 (f : Int)] w (RetB (fnV (fnE nstZ s f s.funcs[f])) w) from by subst hm; exact function_p (W := w) h (hC.trans (below_cle hw)) f hf (hsm _ (List.getElem_mem hf)))
  have HN := Lib.hid (fun (a e : Nat) hd => declsZE_ne (s := s) (a := a) (e := e) hd)
  have HFN := Lib.hid (fun f (hf : f < s.funcs.length) (a : Int) (e : Nat) (hh : fnE nstZ s f s.funcs[f] = some (a, e)) => fnE_ne (nest := nstZ) (s := s) (f := f) (d := s.funcs[f]) (a := a) (e := e) hh)
  have HX1 := Lib.hid (fun a e (hd : declsZE s = some (a, e)) => show chkZ nstZ s = ((e : Int), -1, (a : Int)) by unfold chkZ; rw [hd])
  have HX2 := Lib.hid (fun (hd : declsZE s = none) => chk_none hd)
  have HAT0 := Lib.hid (fun k (hk : k < s.funcs.length) => fnsF_next (nest := nstZ) hk)
  have HAT1 := Lib.hid (fun k (hk : k < s.funcs.length) (a : Int) (e : Nat) (hh : fnE nstZ s k s.funcs[k] = some (a, e)) => fnsF_hit (nest := nstZ) hk hh)
  have HL5 := Lib.hid (slx_len h.fn)
  clear h hC hsm
  unfold srV at HD ⊢
  generalize declsZE s = D at *
  generalize chkZ nstZ s = R at *
  obtain ⟨n5, hn5⟩ : ∃ n5, s.funcs.length = n5 := ⟨_, rfl⟩
  have HN5 := Lib.hid hn5
  rw [hn5] at HD HL5 ⊢
  clear hn5
  have h5b : n5 ≤ 1172812402928 := by have := HL5.out; omega
  generalize s.principals.length = n1 at *
  generalize s.globals.length = n2 at *
  generalize s.arrays.length = n3 at *
  generalize s.channels.length = n4 at *
  obtain ⟨b, hb⟩ : ∃ b, W.heap.size = b := ⟨_, rfl⟩
  go_enter Tryz.func6, Tryz.ntmps6
  go_wp2_with fail
  have hbA : Below W.heap.size W ((W.alloc (.cells #[.slice q1 n1 c1, .slice q2 n2 c2, .slice q3 n3 c3, .slice q4 n4 c4, .slice q5 n5 c5] 27)).alloc (.cells #[.int .i64 0, .int .i64 0, .int .i64 0] 31)) := bl_al (bl_al (Below.refl _ _) _) _
  have j0 : InB ((W.alloc (.cells #[.slice q1 n1 c1, .slice q2 n2 c2, .slice q3 n3 c3, .slice q4 n4 c4, .slice q5 n5 c5] 27)).alloc (.cells #[.int .i64 0, .int .i64 0, .int .i64 0] 31)) b #[.slice q1 n1 c1, .slice q2 n2 c2, .slice q3 n3 c3, .slice q4 n4 c4, .slice q5 n5 c5] 27 := (InB.new' _ _ hb).le (bl_al (Below.refl _ _) _)
  have j1 : InB ((W.alloc (.cells #[.slice q1 n1 c1, .slice q2 n2 c2, .slice q3 n3 c3, .slice q4 n4 c4, .slice q5 n5 c5] 27)).alloc (.cells #[.int .i64 0, .int .i64 0, .int .i64 0] 31)) (b + 1) #[.int .i64 0, .int .i64 0, .int .i64 0] 31 := InB.new' _ _ (by simp [hb])
  generalize (W.alloc (.cells #[.slice q1 n1 c1, .slice q2 n2 c2, .slice q3 n3 c3, .slice q4 n4 c4, .slice q5 n5 c5] 27)).alloc (.cells #[.int .i64 0, .int .i64 0, .int .i64 0] 31) = w0 at *
  try rw [hb]
  have HBB := Lib.hid hb
  have HBA := Lib.hid hbA
  have HJ0 := Lib.hid j0
  have HJ1 := Lib.hid j1
  clear hbA j0 j1
  go_at_call 15
  refine (HD.out _ HBA.out).mono ?_
  rintro e w1 ⟨rfl, hb1⟩
  have HB1 := Lib.hid hb1
  clear hb1
  have k4 := (HJ0.out.le HB1.out).cell (j := 4) (v := .slice q5 n5 c5) rfl
  cases hdd : D with
  | some z =>
    obtain ⟨a, e⟩ := z
    have HR := Lib.hid (HX1.out a e hdd)
    have hne0 := HN.out a e hdd
    have hne : (((e : Nat) : Int) != 0) = true := by simpa using hne0
    have hne2 : (((e : Nat) : Int) == 0) = false := by simpa using hne0
    have HY := Lib.hid (HJ1.out.le HB1.out)
    have r0 := HY.out.cell (j := 0) (v := .int .i64 0) rfl
    have r1 := HY.out.cell (j := 1) (v := .int .i64 0) rfl
    have r2 := HY.out.cell (j := 2) (v := .int .i64 0) rfl
    have f0 : w1.frozen? ⟨b + 1, 0, none⟩ = false := free_of HY.out
    have f1 : w1.frozen? ⟨b + 1, 1, none⟩ = false := free_of HY.out
    have f2 : w1.frozen? ⟨b + 1, 2, none⟩ = false := free_of HY.out
    clear hdd hne0 k4
    unfold daV
    go_wp2
    have hW := heap_set (heap_set (heap_set HY.out 0 (.int .i64 (e : Int))) 1 (.int .i64 (-1))) 2 (.int .i64 (a : Int))
    have hbs := HBB.out
    have hWB := (((bl_tr HBA.out HB1.out).setCell (p := ⟨b + 1, 0, none⟩) (by show W.heap.size ≤ b + 1; omega) (.int .i64 (e : Int))).setCell (p := ⟨b + 1, 1, none⟩) (by show W.heap.size ≤ b + 1; omega) (.int .i64 (-1))).setCell (p := ⟨b + 1, 2, none⟩) (by show W.heap.size ≤ b + 1; omega) (.int .i64 (a : Int))
    generalize ((w1.setCell _ _).setCell _ _).setCell _ _ = wE at *
    have c0 := cell_of (j := 0) hW rfl
    have c1 := cell_of (j := 1) hW rfl
    have c2 := cell_of (j := 2) hW rfl
    exact bodyPost_ret (v := .agg #[.int .i64 (e : Int), .int .i64 (-1), .int .i64 (a : Int)]) (by simp [results, Tryz.results6, go_sem, c0, c1, c2]) rfl ⟨by rw [HR.out]; rfl, hWB⟩
  | none =>
    have HR0 := Lib.hid (HX2.out hdd)
    have k0 := (HJ0.out.le HB1.out).cell (j := 0) (v := .slice q1 n1 c1) rfl
    clear hdd k0
    unfold daV
    go_wp2_with fail
    clear k4
    go_loopw [21] (fun i wr => ∃ k : Nat, k ≤ n5 ∧ i = .int .i64 k ∧ Hid (Below w0.heap.size w0 wr) ∧ Hid (R = resF (fnsF nstZ s (s.funcs.drop k) k))) (fun i _ => n5 - (intOf i).toNat)
    case atStart => exact ⟨0, Nat.zero_le _, rfl, HB1, HR0⟩
    case round =>
      obtain ⟨k, hk, rfl, HB, HT⟩ := hrel
      have HY := Lib.hid (HJ1.out.le HB.out)
      by_cases hlt : k < n5
      · have hk1 : k < s.funcs.length := by rw [HN5.out]; exact hlt
        have HFF := Lib.hid (fun w hw => HF.out w hw k hk1 n5 HN5.out.symm)
        have HNE := Lib.hid (HFN.out k hk1)
        have HT0 := Lib.hid (fun (hh : fnE nstZ s k s.funcs[k] = none) => show R = resF (fnsF nstZ s (s.funcs.drop (k + 1)) (k + 1)) from HT.out.trans (congrArg resF (HAT0.out k hk1 hh)))
        have HT1 := Lib.hid (fun (a : Int) (e : Nat) (hh : fnE nstZ s k s.funcs[k] = some (a, e)) => show R = ((e : Int), (k : Int), a) from HT.out.trans (congrArg resF (HAT1.out k hk1 a e hh)))
        generalize fnE nstZ s k s.funcs[k] = X at *
        clear hk1
        have k0 := (HJ0.out.le HB.out).cell (j := 0) (v := .slice q1 n1 c1) rfl
        have k1 := (HJ0.out.le HB.out).cell (j := 1) (v := .slice q2 n2 c2) rfl
        have k2 := (HJ0.out.le HB.out).cell (j := 2) (v := .slice q3 n3 c3) rfl
        have k3 := (HJ0.out.le HB.out).cell (j := 3) (v := .slice q4 n4 c4) rfl
        have k4 := (HJ0.out.le HB.out).cell (j := 4) (v := .slice q5 n5 c5) rfl
        have hki : (k : Int) < (n5 : Int) := by omega
        go_wp2_with fail
        go_at_call 16
        refine (HFF.out _ (bl_tr HBA.out HB.out)).mono ?_
        rintro e w2 ⟨rfl, hb2⟩
        have HB2 := Lib.hid (bl_tr HB.out hb2)
        have HY2 := Lib.hid (HJ1.out.le HB2.out)
        clear hb2 k0 k1 k2 k3 k4
        cases X with
        | none =>
          have HTD := Lib.hid (HT0.out rfl)
          clear HT0 HT1 HNE
          unfold fnV
          go_wp2
          exact ⟨⟨k + 1, by omega, by go_num, HB2, HTD⟩, by simp [intOf]; omega⟩
        | some z =>
          obtain ⟨a, e⟩ := z
          have hne0 := HNE.out a e rfl
          have HTD := Lib.hid (HT1.out a e rfl)
          clear HT0 HT1 HNE
          have hne : (((e : Nat) : Int) != 0) = true := by simpa using hne0
          have hne2 : (((e : Nat) : Int) == 0) = false := by simpa using hne0
          have r0 := HY2.out.cell (j := 0) (v := .int .i64 0) rfl
          have r1 := HY2.out.cell (j := 1) (v := .int .i64 0) rfl
          have r2 := HY2.out.cell (j := 2) (v := .int .i64 0) rfl
          have f0 : w2.frozen? ⟨b + 1, 0, none⟩ = false := free_of HY2.out
          have f1 : w2.frozen? ⟨b + 1, 1, none⟩ = false := free_of HY2.out
          have f2 : w2.frozen? ⟨b + 1, 2, none⟩ = false := free_of HY2.out
          clear hne0
          unfold fnV
          go_wp2
          have hW := heap_set (heap_set (heap_set HY2.out 0 (.int .i64 (e : Int))) 1 (.int .i64 (k : Int))) 2 (.int .i64 a)
          have hbs := HBB.out
          have hWB := (((bl_tr HBA.out HB2.out).setCell (p := ⟨b + 1, 0, none⟩) (by show W.heap.size ≤ b + 1; omega) (.int .i64 (e : Int))).setCell (p := ⟨b + 1, 1, none⟩) (by show W.heap.size ≤ b + 1; omega) (.int .i64 (k : Int))).setCell (p := ⟨b + 1, 2, none⟩) (by show W.heap.size ≤ b + 1; omega) (.int .i64 a)
          generalize ((w2.setCell _ _).setCell _ _).setCell _ _ = wE at *
          have c0 := cell_of (j := 0) hW rfl
          have c1 := cell_of (j := 1) hW rfl
          have c2 := cell_of (j := 2) hW rfl
          exact bodyPost_ret (v := .agg #[.int .i64 (e : Int), .int .i64 (k : Int), .int .i64 a]) (by simp [results, Tryz.results6, go_sem, c0, c1, c2]) rfl ⟨by rw [HTD.out]; rfl, hWB⟩
      · obtain rfl : k = n5 := by omega
        have HR := Lib.hid (show R = (0, 0, 0) by rw [HT.out, List.drop_of_length_le (by rw [HN5.out]; exact Nat.le_refl _)]; rfl)
        have r0 := HY.out.cell (j := 0) (v := .int .i64 0) rfl
        have r1 := HY.out.cell (j := 1) (v := .int .i64 0) rfl
        have r2 := HY.out.cell (j := 2) (v := .int .i64 0) rfl
        have f0 : wr.frozen? ⟨b + 1, 0, none⟩ = false := free_of HY.out
        have f1 : wr.frozen? ⟨b + 1, 1, none⟩ = false := free_of HY.out
        have f2 : wr.frozen? ⟨b + 1, 2, none⟩ = false := free_of HY.out
        go_wp2
        have hW := heap_set (heap_set (heap_set HY.out 0 (.int .i64 0)) 1 (.int .i64 0)) 2 (.int .i64 0)
        have hbs := HBB.out
        have hWB := (((bl_tr HBA.out HB.out).setCell (p := ⟨b + 1, 0, none⟩) (by show W.heap.size ≤ b + 1; omega) (.int .i64 0)).setCell (p := ⟨b + 1, 1, none⟩) (by show W.heap.size ≤ b + 1; omega) (.int .i64 0)).setCell (p := ⟨b + 1, 2, none⟩) (by show W.heap.size ≤ b + 1; omega) (.int .i64 0)
        generalize ((wr.setCell _ _).setCell _ _).setCell _ _ = wE at *
        have c0 := cell_of (j := 0) hW rfl
        have c1 := cell_of (j := 1) hW rfl
        have c2 := cell_of (j := 2) hW rfl
        exact bodyPost_ret (v := .agg #[.int .i64 0, .int .i64 0, .int .i64 0]) (by simp [results, Tryz.results6, go_sem, c0, c1, c2]) rfl ⟨by rw [HR.out]; rfl, hWB⟩
end
end Go.Proofs.YtlpdjfimefjmcaaGreat

/- The statements' sources that they know the faults of. -/
namespace Go.Proofs.YtlpdjfimefjmcaaGreat
open Go Go.RowKit Go.Proofs.Mm

theorem eqFlt (a b c x y z : Int) (w : World) : (Op.equalIn 10000 31 (.agg #[.int .i64 a, .int .i64 b, .int .i64 c]) (.agg #[.int .i64 x, .int .i64 y, .int .i64 z])).run Tryz.prog w = .ok (a == x && (b == y && c == z)) w := by
  have u3 := Tryz.underlying3
  have hS : Tryz.prog.underlying 31 = some (.struct (Tryz.prog.fieldsOf 31)) := by kernel_rfl
  have hp : Tryz.prog.stoodInHeld 31 = false := by kernel_rfl
  rw [show (10000 : Nat) = 9999 + 1 from rfl, run_equalIn_agg w 9999 31 _ _ hS hp]
  simp only [Program.fieldsOf, Tryz.underlying31]
  go_simp
  by_cases h1 : a = x <;> by_cases h2 : b = y <;> by_cases h3 : c = z <;> simp [h1, h2, h3]
theorem neFlt (a b c x y z : Int) (w : World) : (binOp .neq 31 (.agg #[.int .i64 a, .int .i64 b, .int .i64 c]) (.agg #[.int .i64 x, .int .i64 y, .int .i64 z])).run Tryz.prog w = .ok (.bool (!(a == x && (b == y && c == z)))) w := by
  rw [run_neq_struct, eqFlt]; rfl
def tx1 : TmZ := ⟨1, 1, ⟨#[]⟩⟩
def stX (n : ByteArray) : StZ := ⟨1, ⟨#[]⟩, [n], [[tx1]]⟩
def stR : StZ := ⟨9, ⟨#[]⟩, [], []⟩
def dnZ (l : List StZ) : FnZ := ⟨⟨#[102]⟩, 0, [], [], [], l ++ [stR]⟩
def sA : SoZ := ⟨[], [⟨⟨#[120]⟩, 0⟩, ⟨⟨#[120]⟩, 0⟩], [], [], []⟩
def sB : SoZ := ⟨[], [], [], [], [dnZ [stX ⟨#[120]⟩]]⟩
def sC : SoZ := ⟨[], [], [], [⟨⟨#[99]⟩, 0⟩], [dnZ [stX ⟨#[99]⟩]]⟩
def sD : SoZ := ⟨[], [], [], [], [dnZ []]⟩
set_option maxRecDepth 100000
theorem chkA : chkZ nstZ sA = (70, -1, 1) := by decide +kernel
theorem chkB : chkZ nstZ sB = (71, 0, 0) := by decide +kernel
theorem chkC : chkZ nstZ sC = (72, 0, 0) := by decide +kernel
theorem chkD : chkZ nstZ sD = (0, 0, 0) := by decide +kernel
theorem nmA1 : nameZ ⟨#[97, 95, 49]⟩ = true := by decide +kernel
theorem nmIf : nameZ ⟨#[105, 102]⟩ = false := by decide +kernel
/-- A row that lies. -/
theorem slx_mk {α : Type} {bs : Nat} {C : Cl} {R : List Value → α → Prop} {l : List α} {g c : Nat} {cs : List Value} (hr : ∀ j u, cs[j]? = some u → C ⟨g, 0 + j, none⟩ = some u) (he : Enc R cs l) (hb : l.length * bs ≤ 140737488351232) (hc : c ≤ maxLen) (hl : l.length ≤ c) :
    SlX [] bs C R (.slice (some ⟨g, 0, none⟩) l.length c) l :=
  ⟨_, _, cs, rfl, .inl rfl, .inr ⟨g, 0, rfl, by rw [List.append_nil]; exact hr⟩, he, hb, hc, (fun h => nomatch h), hl⟩
theorem slx_nil {α : Type} {bs : Nat} {C : Cl} {R : List Value → α → Prop} : SlX [] bs C R (.slice none 0 0) ([] : List α) :=
  ⟨none, 0, [], rfl, .inl rfl, .inl rfl, Enc.nil, by simp, by decide, fun _ => rfl, by simp⟩
end Go.Proofs.YtlpdjfimefjmcaaGreat

/- The kit's lent rows: strings, terms; they read as what came in, with a mark behind, in memory of their own. -/
namespace Go.Proofs.YtlpdjfimefjmcaaGreat
open Go Go.RowKit Go.Proofs.Mm

theorem str_len (c : List Value) (d : ByteArray) (h : c = [Value.string d]) : c.length = 1 := str_lenZ c d h
theorem tm_len (c : List Value) (d : TmZ) (h : c = tmZ d) : c.length = 3 := tm_lenZ c d h
theorem ex_len {lt : Bool} {C : Cl} (c : List Value) (d : List TmZ) (h : ExR1 lt C c d) : c.length = 1 := ex_lenZ c d h
theorem st_len {lt : Bool} {C : Cl} (c : List Value) (d : StZ) (h : StR1 lt C c d) : c.length = 4 := st_lenZ c d h

theorem und_strs : Tryz.prog.underlying 22 = some (.slice 9) := by kernel_rfl
theorem und_tms : Tryz.prog.underlying 60 = some (.slice 62) := by kernel_rfl
theorem und_exs : Tryz.prog.underlying 45 = some (.slice 60) := by kernel_rfl
theorem und_sts : Tryz.prog.underlying 41 = some (.slice 47) := by kernel_rfl
theorem infoOf {P : Program} {t : TypeId} {z : Value} {size bytes : Nat} (h : (P.info? t).map (fun i => (i.zero, i.size, i.bytes)) = some (some z, size, bytes)) : ∃ i, P.info? t = some i ∧ i.zero = some z ∧ i.size = size ∧ i.bytes = bytes := by
  cases hi : P.info? t with
  | none => rw [hi] at h; cases h
  | some i =>
    rw [hi] at h
    simp only [Option.map_some, Option.some.injEq, Prod.mk.injEq] at h
    exact ⟨i, rfl, h.1, h.2.1, h.2.2⟩
theorem infoSr : ∃ i, Tryz.prog.info? 9 = some i ∧ i.zero = some (.string ⟨#[]⟩) ∧ i.size = 1 ∧ i.bytes = 16 := infoOf (by kernel_rfl)
theorem infoTz : ∃ i, Tryz.prog.info? 62 = some i ∧ i.zero = some (.agg #[.int .i64 0, .int .i64 0, .string ⟨#[]⟩]) ∧ i.size = 3 ∧ i.bytes = 32 := infoOf (by kernel_rfl)
theorem infoEz : ∃ i, Tryz.prog.info? 60 = some i ∧ i.zero = some (.slice none 0 0) ∧ i.size = 1 ∧ i.bytes = 24 := infoOf (by kernel_rfl)
theorem infoSz : ∃ i, Tryz.prog.info? 47 = some i ∧ i.zero = some (.agg #[.int .i64 0, .string ⟨#[]⟩, .slice none 0 0, .slice none 0 0]) ∧ i.size = 4 ∧ i.bytes = 72 := infoOf (by kernel_rfl)

/-- A row that has been gone through, with its mark, is known from now on. -/
theorem lent_done {α : Type} {w w' : World} {m : Mem} {E : TypeId} {size bs n c : Nat} {q : Option Addr} {cs mk : List Value} {R : Mem → List Value → α → Prop} {l : List α} (hm : Has w' m) (hv : ∀ k, (Value.slice q (n + 1) c).ownBlock = some k → m k = none)
    (hrow : w'.ownsRow w.heap.size E size (.slice q (n + 1) c) (n + 1) (cs ++ mk)) (hl : l.length = n) (he : Enc (R m) cs l) (hR : ∀ m m' : Mem, m.le m' → ∀ c x, R m c x → R m' c x) (hb : n * bs ≤ 140737488351232) :
    ∃ m', m.More w m' ∧ Has w' m' ∧ SlX mk bs (mC m') (R m') (.slice q n c) l := by
  have hcap : n + 1 ≤ c ∧ c ≤ maxLen ∧ q ≠ none := by
    rcases hrow.2 with ⟨_, h0⟩ | ⟨g', cap', cur, h0, _, _, h1, h2, _⟩
    · omega
    · injection h0 with h3 _ h4
      subst h4
      exact ⟨h1, h2, by rw [h3]; simp⟩
  obtain ⟨m', h1, h2, h3, h4⟩ := RowM.done hrow hm hv
  refine ⟨m', ⟨h1, fun k hk hlt => ?_⟩, h3, q, c, cs, by rw [hl], .inr (by omega), RowM.rdO h4, he.mono (hR _ _ h1), by rw [hl]; exact hb, hcap.2.1, fun h => absurd h hcap.2.2, by omega⟩
  cases hx : m' k with
  | none => rfl
  | some o =>
    rcases h2 k (by rw [hx]; simp) with h | h
    · exact absurd hk h
    · have := (hrow.lt k h).1
      omega
theorem has_grown {w w' : World} {m : Mem} (h : Has w m) (hb : Below w.heap.size w w') : Has w' m := fun k o e => by
  have := h k o e
  rw [hb.block k (heap_lt this)]; exact this
theorem enc_cells {α : Type} {C : Cl} {R : List Value → α → Prop} {l : List α} {cs : List Value} {g o : Nat} (_h : Enc R cs l) (hr : ∀ j u, cs[j]? = some u → C ⟨g, o + j, none⟩ = some u) : ∀ j u, cs[j]? = some u → C ((⟨g, o, none⟩ : Addr).add j) = some u := by
  intro j u hu
  rw [show ((⟨g, o, none⟩ : Addr).add j) = ⟨g, o + j, none⟩ from by unfold Addr.add; split <;> simp_all]
  exact hr j u hu
theorem str_one {l : List ByteArray} {cs : List Value} (h : Enc (fun c s => c = [Value.string s]) cs l) : ∀ u ∈ cs, u.oneCell' = true := by
  induction l generalizing cs with
  | nil => obtain rfl : cs = [] := h; intro u hu; cases hu
  | cons x l ih =>
    obtain ⟨c, r, rfl, rfl, h2⟩ := h
    intro u hu
    rcases List.mem_append.1 hu with hu | hu
    · rw [List.mem_singleton.1 hu]; rfl
    · exact ih h2 u hu
theorem tms_one {l : List TmZ} {cs : List Value} (h : Enc (fun c s => c = tmZ s) cs l) : ∀ u ∈ cs, u.oneCell' = true := by
  induction l generalizing cs with
  | nil => obtain rfl : cs = [] := h; intro u hu; cases hu
  | cons x l ih =>
    obtain ⟨c, r, rfl, rfl, h2⟩ := h
    intro u hu
    rcases List.mem_append.1 hu with hu | hu
    · simp only [tmZ, List.mem_cons, List.not_mem_nil, or_false] at hu
      rcases hu with rfl | rfl | rfl <;> rfl
    · exact ih h2 u hu
set_option maxRecDepth 100000 in
set_option maxHeartbeats 2000000 in
theorem lentStrings_any {w : World} {v : Value} {l : List ByteArray} (h : StrR false (wC w) v l) {m : Mem} (hm : Has w m) :
    Calls Tryz.prog 17 #[v] w fun e w' => ∃ v' m', e = .returned v' ∧ Below w.heap.size w w' ∧ m.More w m' ∧ Has w' m' ∧ StrR true (mC m') v' l := by
  obtain ⟨q, c, cs, rfl, _, hr, he, hb, hmax, hqn, hlc⟩ := h
  obtain ⟨n, hn⟩ : ∃ n, l.length = n := ⟨_, rfl⟩
  obtain ⟨hcl, _⟩ := encZ_at str_len he
  have hon := str_one he
  have HE := Lib.hid he
  have HN := Lib.hid hn
  have HM := Lib.hid hm
  rw [hn] at hb hcl hlc ⊢
  clear he hn hm
  obtain ⟨i2, h2, h3, h4, h5⟩ := infoSr
  have hnil := World.ownsRow_nil w w.heap.size 9 1
  have HF := Lib.hid (show ∀ k, w.heap.size ≤ k → m k = none from fun k hk => HM.out.lt hk)
  have hone : ∀ u ∈ mkS true, u.oneCell' = true := by intro u hu; simp only [mkS, if_true, List.mem_cons, List.not_mem_nil, or_false] at hu; (subst hu; rfl)
  rcases q with _ | ad
  · obtain rfl : c = 0 := hqn rfl
    obtain rfl : n = 0 := by omega
    have hc0 : cs = [] := List.eq_nil_of_length_eq_zero (by simpa using hcl)
    subst hc0
    have hR1 := hnil.alloc (.cells (mkS true).toArray 9)
    have hnew := row_new w (mkS true) 9
    go_enter Tryz.func17, Tryz.ntmps17
    go_wp2_with (first | (at_builtin; refine wpList_append_own_none rfl _ _ 22 rfl w.heap.size 9 i2 1 und_strs h2 _ 0 [] rfl hnil rfl ?_) | (at_builtin; refine wpList_append_own _ rfl _ _ 22 rfl w.heap.size 9 i2 _ 1 16 und_strs h2 h3 h4 h5 rfl (by decide) _ 0 [] rfl hR1 ⟨w.heap.size, 0, none⟩ 1 1 (mkS true) rfl rfl hnew hone (by unfold maxLen; omega) (by omega) (by simp) ?_))
    intro v2 w2 hR2 hg2 _
    obtain ⟨q2, c2, rfl⟩ := own_shape hR2
    have hB2 : Below w.heap.size w w2 := grown_below ((Below.refl _ w).alloc (Nat.le_refl _) _) (by simp) hg2 (fun j hj => (hR1.lt j hj).1)
    have HD := Lib.hid (lent_done (w := w) (bs := 16) (R := fun _ => (fun c s => c = [Value.string s])) (has_grown HM.out hB2) (fun k hk => HF.out k (hR2.lt k hk).1) (by simpa using hR2) HN.out HE.out (fun _ _ _ _ _ h => h) (by omega))
    have HB := Lib.hid hB2
    have hcap : 1 ≤ c2 := by
      rcases hR2.2 with ⟨_, h0⟩ | ⟨g', cap', cur, h0, _, _, h1, _, _⟩
      · omega
      · injection h0 with _ _ h4
        omega
    clear hg2 hR1 hnil hB2 hR2
    go_wp2
    go_ret
    obtain ⟨m', d1, d2, d3⟩ := HD.out
    exact ⟨_, m', rfl, HB.out, d1, d2, d3⟩
  · have hcl2 : ∀ j u, cs[j]? = some u → w.cell? (ad.add j) = some u := by
      rcases hr with hr | ⟨g, o, hq, hr⟩
      · have := (List.append_eq_nil_iff.1 hr).1
        subst this
        intro j u hu
        simp at hu
      · injection hq with hq
        subst hq
        exact enc_cells HE.out (fun j u hu => hr j u (by rw [List.getElem?_append_left ((List.getElem?_eq_some_iff.1 hu).1)]; exact hu))
    clear hr
    go_enter Tryz.func17, Tryz.ntmps17
    go_wp2_with (at_builtin; refine wpList_append_own _ rfl _ _ 22 rfl w.heap.size 9 i2 _ 1 16 und_strs h2 h3 h4 h5 rfl (by decide) _ 0 [] rfl hnil ad n c cs rfl hcl hcl2 hon (by unfold maxLen; omega) (by omega) (Nat.le_refl _) ?_)
    intro v1 w1 hR1 hg1 _
    obtain ⟨q1, c1, rfl⟩ := own_shape hR1
    have hB1 : Below w.heap.size w w1 := grown_below (Below.refl _ w) (Nat.le_refl _) hg1 (fun j hj => by cases hj)
    have hw1 := hB1.size
    have hR1' := hR1.alloc (.cells (mkS true).toArray 9)
    have hnew := row_new w1 (mkS true) 9
    try simp only [Nat.zero_add, List.nil_append] at hR1 hR1'
    clear hg1 hnil hcl2 hon hR1
    go_wp2_with (at_builtin; refine wpList_append_own _ rfl _ _ 22 rfl w.heap.size 9 i2 _ 1 16 und_strs h2 h3 h4 h5 rfl (by decide) _ n cs rfl hR1' ⟨w1.heap.size, 0, none⟩ 1 1 (mkS true) rfl rfl hnew hone (by unfold maxLen; omega) (by omega) (by simp <;> omega) ?_)
    intro v2 w2 hR2 hg2 _
    obtain ⟨q2, c2, rfl⟩ := own_shape hR2
    have hB2 : Below w.heap.size w w2 := grown_below (hB1.alloc hw1 _) (by simp; omega) hg2 (fun j hj => (hR1'.lt j hj).1)
    have HD := Lib.hid (lent_done (w := w) (bs := 16) (R := fun _ => (fun c s => c = [Value.string s])) (has_grown HM.out hB2) (fun k hk => HF.out k (hR2.lt k hk).1) hR2 HN.out HE.out (fun _ _ _ _ _ h => h) (by omega))
    have HB := Lib.hid hB2
    have hcap : n + 1 ≤ c2 := by
      rcases hR2.2 with ⟨_, h0⟩ | ⟨g', cap', cur, h0, _, _, h1, _, _⟩
      · omega
      · injection h0 with _ _ h4
        omega
    clear hg2 hR1' hB2 hR2 hB1
    go_wp2
    go_ret
    obtain ⟨m', d1, d2, d3⟩ := HD.out
    exact ⟨_, m', rfl, HB.out, d1, d2, d3⟩
set_option maxRecDepth 100000 in
set_option maxHeartbeats 2000000 in
theorem lentTerms_any {w : World} {v : Value} {l : List TmZ} (h : TmsR false (wC w) v l) {m : Mem} (hm : Has w m) :
    Calls Tryz.prog 40 #[v] w fun e w' => ∃ v' m', e = .returned v' ∧ Below w.heap.size w w' ∧ m.More w m' ∧ Has w' m' ∧ TmsR true (mC m') v' l := by
  obtain ⟨q, c, cs, rfl, _, hr, he, hb, hmax, hqn, hlc⟩ := h
  obtain ⟨n, hn⟩ : ∃ n, l.length = n := ⟨_, rfl⟩
  obtain ⟨hcl, _⟩ := encZ_at tm_len he
  have hon := tms_one he
  have HE := Lib.hid he
  have HN := Lib.hid hn
  have HM := Lib.hid hm
  rw [hn] at hb hcl hlc ⊢
  clear he hn hm
  obtain ⟨i2, h2, h3, h4, h5⟩ := infoTz
  have hnil := World.ownsRow_nil w w.heap.size 62 3
  have HF := Lib.hid (show ∀ k, w.heap.size ≤ k → m k = none from fun k hk => HM.out.lt hk)
  have hone : ∀ u ∈ mkT true, u.oneCell' = true := by intro u hu; simp only [mkT, if_true, List.mem_cons, List.not_mem_nil, or_false] at hu; (rcases hu with rfl | rfl | rfl <;> rfl)
  rcases q with _ | ad
  · obtain rfl : c = 0 := hqn rfl
    obtain rfl : n = 0 := by omega
    have hc0 : cs = [] := List.eq_nil_of_length_eq_zero (by simpa using hcl)
    subst hc0
    have hR1 := hnil.alloc (.cells (mkT true).toArray 62)
    have hnew := row_new w (mkT true) 62
    go_enter Tryz.func40, Tryz.ntmps40
    go_wp2_with (first | (at_builtin; refine wpList_append_own_none rfl _ _ 60 rfl w.heap.size 62 i2 3 und_tms h2 _ 0 [] rfl hnil rfl ?_) | (at_builtin; refine wpList_append_own _ rfl _ _ 60 rfl w.heap.size 62 i2 _ 3 32 und_tms h2 h3 h4 h5 rfl (by decide) _ 0 [] rfl hR1 ⟨w.heap.size, 0, none⟩ 1 1 (mkT true) rfl rfl hnew hone (by unfold maxLen; omega) (by omega) (by simp) ?_))
    intro v2 w2 hR2 hg2 _
    obtain ⟨q2, c2, rfl⟩ := own_shape hR2
    have hB2 : Below w.heap.size w w2 := grown_below ((Below.refl _ w).alloc (Nat.le_refl _) _) (by simp) hg2 (fun j hj => (hR1.lt j hj).1)
    have HD := Lib.hid (lent_done (w := w) (bs := 32) (R := fun _ => (fun c s => c = tmZ s)) (has_grown HM.out hB2) (fun k hk => HF.out k (hR2.lt k hk).1) (by simpa using hR2) HN.out HE.out (fun _ _ _ _ _ h => h) (by omega))
    have HB := Lib.hid hB2
    have hcap : 1 ≤ c2 := by
      rcases hR2.2 with ⟨_, h0⟩ | ⟨g', cap', cur, h0, _, _, h1, _, _⟩
      · omega
      · injection h0 with _ _ h4
        omega
    clear hg2 hR1 hnil hB2 hR2
    go_wp2
    go_ret
    obtain ⟨m', d1, d2, d3⟩ := HD.out
    exact ⟨_, m', rfl, HB.out, d1, d2, d3⟩
  · have hcl2 : ∀ j u, cs[j]? = some u → w.cell? (ad.add j) = some u := by
      rcases hr with hr | ⟨g, o, hq, hr⟩
      · have := (List.append_eq_nil_iff.1 hr).1
        subst this
        intro j u hu
        simp at hu
      · injection hq with hq
        subst hq
        exact enc_cells HE.out (fun j u hu => hr j u (by rw [List.getElem?_append_left ((List.getElem?_eq_some_iff.1 hu).1)]; exact hu))
    clear hr
    go_enter Tryz.func40, Tryz.ntmps40
    go_wp2_with (at_builtin; refine wpList_append_own _ rfl _ _ 60 rfl w.heap.size 62 i2 _ 3 32 und_tms h2 h3 h4 h5 rfl (by decide) _ 0 [] rfl hnil ad n c cs rfl hcl hcl2 hon (by unfold maxLen; omega) (by omega) (Nat.le_refl _) ?_)
    intro v1 w1 hR1 hg1 _
    obtain ⟨q1, c1, rfl⟩ := own_shape hR1
    have hB1 : Below w.heap.size w w1 := grown_below (Below.refl _ w) (Nat.le_refl _) hg1 (fun j hj => by cases hj)
    have hw1 := hB1.size
    have hR1' := hR1.alloc (.cells (mkT true).toArray 62)
    have hnew := row_new w1 (mkT true) 62
    try simp only [Nat.zero_add, List.nil_append] at hR1 hR1'
    clear hg1 hnil hcl2 hon hR1
    go_wp2_with (at_builtin; refine wpList_append_own _ rfl _ _ 60 rfl w.heap.size 62 i2 _ 3 32 und_tms h2 h3 h4 h5 rfl (by decide) _ n cs rfl hR1' ⟨w1.heap.size, 0, none⟩ 1 1 (mkT true) rfl rfl hnew hone (by unfold maxLen; omega) (by omega) (by simp <;> omega) ?_)
    intro v2 w2 hR2 hg2 _
    obtain ⟨q2, c2, rfl⟩ := own_shape hR2
    have hB2 : Below w.heap.size w w2 := grown_below (hB1.alloc hw1 _) (by simp; omega) hg2 (fun j hj => (hR1'.lt j hj).1)
    have HD := Lib.hid (lent_done (w := w) (bs := 32) (R := fun _ => (fun c s => c = tmZ s)) (has_grown HM.out hB2) (fun k hk => HF.out k (hR2.lt k hk).1) hR2 HN.out HE.out (fun _ _ _ _ _ h => h) (by omega))
    have HB := Lib.hid hB2
    have hcap : n + 1 ≤ c2 := by
      rcases hR2.2 with ⟨_, h0⟩ | ⟨g', cap', cur, h0, _, _, h1, _, _⟩
      · omega
      · injection h0 with _ _ h4
        omega
    clear hg2 hR1' hB2 hR2 hB1
    go_wp2
    go_ret
    obtain ⟨m', d1, d2, d3⟩ := HD.out
    exact ⟨_, m', rfl, HB.out, d1, d2, d3⟩
end Go.Proofs.YtlpdjfimefjmcaaGreat

/- The kit's lent declarations and labels: they read as what came in, with a mark behind, in memory of their own. (Written by a program.) -/
namespace Go.Proofs.YtlpdjfimefjmcaaGreat
open Go Go.RowKit Go.Proofs.Mm

theorem und_des : Tryz.prog.underlying 23 = some (.slice 37) := by kernel_rfl
theorem und_las : Tryz.prog.underlying 40 = some (.slice 35) := by kernel_rfl
theorem infoDz : ∃ i, Tryz.prog.info? 37 = some i ∧ i.zero = some (.agg #[.string ⟨#[]⟩, .int .u64 0]) ∧ i.size = 2 ∧ i.bytes = 24 := infoOf (by kernel_rfl)
theorem infoLz : ∃ i, Tryz.prog.info? 35 = some i ∧ i.zero = some (.int .u64 0) ∧ i.size = 1 ∧ i.bytes = 8 := infoOf (by kernel_rfl)
theorem one_De {l : List DeZ} {cs : List Value} (h : Enc (fun c s => c = deZ s ∧ s.label < u64B) cs l) : ∀ u ∈ cs, u.oneCell' = true := by
  induction l generalizing cs with
  | nil => obtain rfl : cs = [] := h; intro u hu; cases hu
  | cons x l ih =>
    obtain ⟨c, r, rfl, ⟨rfl, _⟩, h2⟩ := h
    intro u hu
    rcases List.mem_append.1 hu with hu | hu
    · simp only [deZ, List.mem_cons, List.not_mem_nil, or_false] at hu
      rcases hu with rfl | rfl <;> rfl
    · exact ih h2 u hu
set_option maxRecDepth 100000 in
set_option maxHeartbeats 2000000 in
theorem lentDecls_any {w : World} {v : Value} {l : List DeZ} (h : DesR false (wC w) v l) {m : Mem} (hm : Has w m) :
    Calls Tryz.prog 18 #[v] w fun e w' => ∃ v' m', e = .returned v' ∧ Below w.heap.size w w' ∧ m.More w m' ∧ Has w' m' ∧ DesR true (mC m') v' l := by
  obtain ⟨q, c, cs, rfl, _, hr, he, hb, hmax, hqn, hlc⟩ := h
  obtain ⟨n, hn⟩ : ∃ n, l.length = n := ⟨_, rfl⟩
  obtain ⟨hcl, _⟩ := encZ_at de_lenZ he
  have hon := one_De he
  have HE := Lib.hid he
  have HN := Lib.hid hn
  have HM := Lib.hid hm
  rw [hn] at hb hcl hlc ⊢
  clear he hn hm
  obtain ⟨i2, h2, h3, h4, h5⟩ := infoDz
  have hnil := World.ownsRow_nil w w.heap.size 37 2
  have HF := Lib.hid (show ∀ k, w.heap.size ≤ k → m k = none from fun k hk => HM.out.lt hk)
  have hone : ∀ u ∈ mkD true, u.oneCell' = true := by intro u hu; simp only [mkD, if_true, List.mem_cons, List.not_mem_nil, or_false] at hu; (rcases hu with rfl | rfl <;> rfl)
  rcases q with _ | ad
  · obtain rfl : c = 0 := hqn rfl
    obtain rfl : n = 0 := by omega
    have hc0 : cs = [] := List.eq_nil_of_length_eq_zero (by simpa using hcl)
    subst hc0
    have hR1 := hnil.alloc (.cells (mkD true).toArray 37)
    have hnew := row_new w (mkD true) 37
    go_enter Tryz.func18, Tryz.ntmps18
    go_wp2_with (first | (at_builtin; refine wpList_append_own_none rfl _ _ 23 rfl w.heap.size 37 i2 2 und_des h2 _ 0 [] rfl hnil rfl ?_) | (at_builtin; refine wpList_append_own _ rfl _ _ 23 rfl w.heap.size 37 i2 _ 2 24 und_des h2 h3 h4 h5 rfl (by decide) _ 0 [] rfl hR1 ⟨w.heap.size, 0, none⟩ 1 1 (mkD true) rfl rfl hnew hone (by unfold maxLen; omega) (by omega) (by simp) ?_))
    intro v2 w2 hR2 hg2 _
    obtain ⟨q2, c2, rfl⟩ := own_shape hR2
    have hB2 : Below w.heap.size w w2 := grown_below ((Below.refl _ w).alloc (Nat.le_refl _) _) (by simp) hg2 (fun j hj => (hR1.lt j hj).1)
    have HD := Lib.hid (lent_done (w := w) (bs := 24) (R := fun _ => (fun c s => c = deZ s ∧ s.label < u64B)) (has_grown HM.out hB2) (fun k hk => HF.out k (hR2.lt k hk).1) (by simpa using hR2) HN.out HE.out (fun _ _ _ _ _ h => h) (by omega))
    have HB := Lib.hid hB2
    have hcap : 1 ≤ c2 := by
      rcases hR2.2 with ⟨_, h0⟩ | ⟨g', cap', cur, h0, _, _, h1, _, _⟩
      · omega
      · injection h0 with _ _ h4
        omega
    clear hg2 hR1 hnil hB2 hR2
    go_wp2
    go_ret
    obtain ⟨m', d1, d2, d3⟩ := HD.out
    exact ⟨_, m', rfl, HB.out, d1, d2, d3⟩
  · have hcl2 : ∀ j u, cs[j]? = some u → w.cell? (ad.add j) = some u := by
      rcases hr with hr | ⟨g, o, hq, hr⟩
      · have := (List.append_eq_nil_iff.1 hr).1
        subst this
        intro j u hu
        simp at hu
      · injection hq with hq
        subst hq
        exact enc_cells HE.out (fun j u hu => hr j u (by rw [List.getElem?_append_left ((List.getElem?_eq_some_iff.1 hu).1)]; exact hu))
    clear hr
    go_enter Tryz.func18, Tryz.ntmps18
    go_wp2_with (at_builtin; refine wpList_append_own _ rfl _ _ 23 rfl w.heap.size 37 i2 _ 2 24 und_des h2 h3 h4 h5 rfl (by decide) _ 0 [] rfl hnil ad n c cs rfl hcl hcl2 hon (by unfold maxLen; omega) (by omega) (Nat.le_refl _) ?_)
    intro v1 w1 hR1 hg1 _
    obtain ⟨q1, c1, rfl⟩ := own_shape hR1
    have hB1 : Below w.heap.size w w1 := grown_below (Below.refl _ w) (Nat.le_refl _) hg1 (fun j hj => by cases hj)
    have hw1 := hB1.size
    have hR1' := hR1.alloc (.cells (mkD true).toArray 37)
    have hnew := row_new w1 (mkD true) 37
    try simp only [Nat.zero_add, List.nil_append] at hR1 hR1'
    clear hg1 hnil hcl2 hon hR1
    go_wp2_with (at_builtin; refine wpList_append_own _ rfl _ _ 23 rfl w.heap.size 37 i2 _ 2 24 und_des h2 h3 h4 h5 rfl (by decide) _ n cs rfl hR1' ⟨w1.heap.size, 0, none⟩ 1 1 (mkD true) rfl rfl hnew hone (by unfold maxLen; omega) (by omega) (by simp <;> omega) ?_)
    intro v2 w2 hR2 hg2 _
    obtain ⟨q2, c2, rfl⟩ := own_shape hR2
    have hB2 : Below w.heap.size w w2 := grown_below (hB1.alloc hw1 _) (by simp; omega) hg2 (fun j hj => (hR1'.lt j hj).1)
    have HD := Lib.hid (lent_done (w := w) (bs := 24) (R := fun _ => (fun c s => c = deZ s ∧ s.label < u64B)) (has_grown HM.out hB2) (fun k hk => HF.out k (hR2.lt k hk).1) hR2 HN.out HE.out (fun _ _ _ _ _ h => h) (by omega))
    have HB := Lib.hid hB2
    have hcap : n + 1 ≤ c2 := by
      rcases hR2.2 with ⟨_, h0⟩ | ⟨g', cap', cur, h0, _, _, h1, _, _⟩
      · omega
      · injection h0 with _ _ h4
        omega
    clear hg2 hR1' hB2 hR2 hB1
    go_wp2
    go_ret
    obtain ⟨m', d1, d2, d3⟩ := HD.out
    exact ⟨_, m', rfl, HB.out, d1, d2, d3⟩
theorem one_La {l : List Nat} {cs : List Value} (h : Enc (fun c s => c = laZ s ∧ s < u64B) cs l) : ∀ u ∈ cs, u.oneCell' = true := by
  induction l generalizing cs with
  | nil => obtain rfl : cs = [] := h; intro u hu; cases hu
  | cons x l ih =>
    obtain ⟨c, r, rfl, ⟨rfl, _⟩, h2⟩ := h
    intro u hu
    rcases List.mem_append.1 hu with hu | hu
    · simp only [laZ, List.mem_cons, List.not_mem_nil, or_false] at hu
      (subst hu; rfl)
    · exact ih h2 u hu
set_option maxRecDepth 100000 in
set_option maxHeartbeats 2000000 in
theorem lentLabels_any {w : World} {v : Value} {l : List Nat} (h : LasR false (wC w) v l) {m : Mem} (hm : Has w m) :
    Calls Tryz.prog 19 #[v] w fun e w' => ∃ v' m', e = .returned v' ∧ Below w.heap.size w w' ∧ m.More w m' ∧ Has w' m' ∧ LasR true (mC m') v' l := by
  obtain ⟨q, c, cs, rfl, _, hr, he, hb, hmax, hqn, hlc⟩ := h
  obtain ⟨n, hn⟩ : ∃ n, l.length = n := ⟨_, rfl⟩
  obtain ⟨hcl, _⟩ := encZ_at la_lenZ he
  have hon := one_La he
  have HE := Lib.hid he
  have HN := Lib.hid hn
  have HM := Lib.hid hm
  rw [hn] at hb hcl hlc ⊢
  clear he hn hm
  obtain ⟨i2, h2, h3, h4, h5⟩ := infoLz
  have hnil := World.ownsRow_nil w w.heap.size 35 1
  have HF := Lib.hid (show ∀ k, w.heap.size ≤ k → m k = none from fun k hk => HM.out.lt hk)
  have hone : ∀ u ∈ mkL true, u.oneCell' = true := by intro u hu; simp only [mkL, if_true, List.mem_cons, List.not_mem_nil, or_false] at hu; (subst hu; rfl)
  rcases q with _ | ad
  · obtain rfl : c = 0 := hqn rfl
    obtain rfl : n = 0 := by omega
    have hc0 : cs = [] := List.eq_nil_of_length_eq_zero (by simpa using hcl)
    subst hc0
    have hR1 := hnil.alloc (.cells (mkL true).toArray 35)
    have hnew := row_new w (mkL true) 35
    go_enter Tryz.func19, Tryz.ntmps19
    go_wp2_with (first | (at_builtin; refine wpList_append_own_none rfl _ _ 40 rfl w.heap.size 35 i2 1 und_las h2 _ 0 [] rfl hnil rfl ?_) | (at_builtin; refine wpList_append_own _ rfl _ _ 40 rfl w.heap.size 35 i2 _ 1 8 und_las h2 h3 h4 h5 rfl (by decide) _ 0 [] rfl hR1 ⟨w.heap.size, 0, none⟩ 1 1 (mkL true) rfl rfl hnew hone (by unfold maxLen; omega) (by omega) (by simp) ?_))
    intro v2 w2 hR2 hg2 _
    obtain ⟨q2, c2, rfl⟩ := own_shape hR2
    have hB2 : Below w.heap.size w w2 := grown_below ((Below.refl _ w).alloc (Nat.le_refl _) _) (by simp) hg2 (fun j hj => (hR1.lt j hj).1)
    have HD := Lib.hid (lent_done (w := w) (bs := 8) (R := fun _ => (fun c s => c = laZ s ∧ s < u64B)) (has_grown HM.out hB2) (fun k hk => HF.out k (hR2.lt k hk).1) (by simpa using hR2) HN.out HE.out (fun _ _ _ _ _ h => h) (by omega))
    have HB := Lib.hid hB2
    have hcap : 1 ≤ c2 := by
      rcases hR2.2 with ⟨_, h0⟩ | ⟨g', cap', cur, h0, _, _, h1, _, _⟩
      · omega
      · injection h0 with _ _ h4
        omega
    clear hg2 hR1 hnil hB2 hR2
    go_wp2
    go_ret
    obtain ⟨m', d1, d2, d3⟩ := HD.out
    exact ⟨_, m', rfl, HB.out, d1, d2, d3⟩
  · have hcl2 : ∀ j u, cs[j]? = some u → w.cell? (ad.add j) = some u := by
      rcases hr with hr | ⟨g, o, hq, hr⟩
      · have := (List.append_eq_nil_iff.1 hr).1
        subst this
        intro j u hu
        simp at hu
      · injection hq with hq
        subst hq
        exact enc_cells HE.out (fun j u hu => hr j u (by rw [List.getElem?_append_left ((List.getElem?_eq_some_iff.1 hu).1)]; exact hu))
    clear hr
    go_enter Tryz.func19, Tryz.ntmps19
    go_wp2_with (at_builtin; refine wpList_append_own _ rfl _ _ 40 rfl w.heap.size 35 i2 _ 1 8 und_las h2 h3 h4 h5 rfl (by decide) _ 0 [] rfl hnil ad n c cs rfl hcl hcl2 hon (by unfold maxLen; omega) (by omega) (Nat.le_refl _) ?_)
    intro v1 w1 hR1 hg1 _
    obtain ⟨q1, c1, rfl⟩ := own_shape hR1
    have hB1 : Below w.heap.size w w1 := grown_below (Below.refl _ w) (Nat.le_refl _) hg1 (fun j hj => by cases hj)
    have hw1 := hB1.size
    have hR1' := hR1.alloc (.cells (mkL true).toArray 35)
    have hnew := row_new w1 (mkL true) 35
    try simp only [Nat.zero_add, List.nil_append] at hR1 hR1'
    clear hg1 hnil hcl2 hon hR1
    go_wp2_with (at_builtin; refine wpList_append_own _ rfl _ _ 40 rfl w.heap.size 35 i2 _ 1 8 und_las h2 h3 h4 h5 rfl (by decide) _ n cs rfl hR1' ⟨w1.heap.size, 0, none⟩ 1 1 (mkL true) rfl rfl hnew hone (by unfold maxLen; omega) (by omega) (by simp <;> omega) ?_)
    intro v2 w2 hR2 hg2 _
    obtain ⟨q2, c2, rfl⟩ := own_shape hR2
    have hB2 : Below w.heap.size w w2 := grown_below (hB1.alloc hw1 _) (by simp; omega) hg2 (fun j hj => (hR1'.lt j hj).1)
    have HD := Lib.hid (lent_done (w := w) (bs := 8) (R := fun _ => (fun c s => c = laZ s ∧ s < u64B)) (has_grown HM.out hB2) (fun k hk => HF.out k (hR2.lt k hk).1) hR2 HN.out HE.out (fun _ _ _ _ _ h => h) (by omega))
    have HB := Lib.hid hB2
    have hcap : n + 1 ≤ c2 := by
      rcases hR2.2 with ⟨_, h0⟩ | ⟨g', cap', cur, h0, _, _, h1, _, _⟩
      · omega
      · injection h0 with _ _ h4
        omega
    clear hg2 hR1' hB2 hR2 hB1
    go_wp2
    go_ret
    obtain ⟨m', d1, d2, d3⟩ := HD.out
    exact ⟨_, m', rfl, HB.out, d1, d2, d3⟩
end Go.Proofs.YtlpdjfimefjmcaaGreat

/- The kit's lent statements. -/
namespace Go.Proofs.YtlpdjfimefjmcaaGreat
open Go Go.RowKit Go.Proofs.Mm

theorem SlX.shape {α : Type} {mk : List Value} {bs : Nat} {C : Cl} {R : List Value → α → Prop} {v : Value} {l : List α} (h : SlX mk bs C R v l) : ∃ q c, v = .slice q l.length c := let ⟨q, c, _, e, _⟩ := h; ⟨q, c, e⟩
/-- A row that grows element by element; what its elements lead to is known. -/
def RwI {α : Type} (E : TypeId) (size : Nat) (R : Mem → List Value → α → Prop) (w : World) (m : Mem) (n : Nat) (l : List α) (vF iV : Value) (wr : World) : Prop :=
  ∃ k q c cs m', k ≤ n ∧ iV = .int .i64 (k : Nat) ∧ vF = .slice q k c ∧ Hid (wr.ownsRow w.heap.size E size (.slice q k c) k cs) ∧ Hid (Enc (R m') cs (l.take k)) ∧ Hid (Has wr m') ∧ Hid (m.More w m') ∧ Hid (∀ b, (Value.slice q k c).ownBlock = some b → m' b = none) ∧ Hid (Below w.heap.size w wr)
theorem RwI.start {α : Type} {E : TypeId} {size : Nat} {R : Mem → List Value → α → Prop} {w : World} {m : Mem} {n : Nat} {l : List α} (h : Has w m) : RwI E size R w m n l (.slice none 0 0) (.int .i64 0) w :=
  ⟨0, none, 0, [], m, Nat.zero_le _, rfl, rfl, Lib.hid (World.ownsRow_nil _ _ _ _), Lib.hid Enc.nil, Lib.hid h, Lib.hid (Mem.More.refl _ _), Lib.hid (fun b hb => by cases hb), Lib.hid (Below.refl _ _)⟩
theorem rw_step {α : Type} {E : TypeId} {size : Nat} {R : Mem → List Value → α → Prop} {w wr w' w9 : World} {m m' m'' : Mem} {k c : Nat} {q : Option Addr} {l : List α} {cs news : List Value} {v9 : Value} {o : Obj} (hk : k < l.length)
    (hE : Enc (R m') cs (l.take k)) (hMo : m.More w m') (hFr : ∀ b, (Value.slice q k c).ownBlock = some b → m' b = none) (hB : Below w.heap.size w wr) (hrow : wr.ownsRow w.heap.size E size (.slice q k c) k cs)
    (hb : Below wr.heap.size wr w') (hmo : m'.More wr m'') (hH : Has w' m'') (hR : ∀ m m' : Mem, m.le m' → ∀ c x, R m c x → R m' c x) (hx : R m'' news l[k])
    (hown : w9.ownsRow w.heap.size E size v9 (k + 1) (cs ++ news)) (hg : (w'.alloc o).grownBy w9 (Value.slice q k c).ownBlock) (hat : v9.ownBlock = (Value.slice q k c).ownBlock ∨ v9.ownBlock = some (w'.heap.size + 1)) :
    ∃ q9 c9, v9 = .slice q9 (k + 1) c9 ∧ Hid (w9.ownsRow w.heap.size E size (.slice q9 (k + 1) c9) (k + 1) (cs ++ news)) ∧ Hid (Enc (R m'') (cs ++ news) (l.take (k + 1))) ∧ Hid (Has w9 m'') ∧ Hid (m.More w m'') ∧ Hid (∀ b, (Value.slice q9 (k + 1) c9).ownBlock = some b → m'' b = none) ∧ Hid (Below w.heap.size w w9) := by
  obtain ⟨q9, c9, rfl⟩ := own_shape hown
  have h1 := hB.size
  have h2 := hb.size
  have hfr : ∀ b, (Value.slice q k c).ownBlock = some b → m'' b = none := fun b e => hmo.new b (hFr b e) (hrow.lt b e).2
  have hC : Chg (fun b => (Value.slice q k c).ownBlock = some b) w' w9 := ((Chg.refl _ w').alloc _).then (grown_chg hg (fun b hb => .inl hb))
  refine ⟨q9, c9, rfl, Lib.hid hown, Lib.hid ?_, Lib.hid (hH.chg hC hfr), Lib.hid (hMo.trans hmo h1), Lib.hid (fun b hb => ?_), Lib.hid ?_⟩
  · rw [List.take_succ_eq_append_getElem hk]
    exact (hE.mono (hR _ _ hmo.le)).app (Enc.one hx)
  · rcases hat with hat | hat
    · exact hfr b (hat.symm.trans hb)
    · have := hat.symm.trans hb
      injection this with this
      exact hH.lt (by omega)
  · exact grown_below ((hB.trans (hb.mono h1)).alloc (by omega) _) (by simp; omega) hg (fun j hj => (hrow.lt j hj).1)
theorem rw_end {α : Type} {E : TypeId} {size bs : Nat} {R : Mem → List Value → α → Prop} {w wr w9 : World} {m m' : Mem} {n c : Nat} {q : Option Addr} {l : List α} {cs mk : List Value} {v9 : Value} {o : Obj} (hn : l.length = n)
    (hE : Enc (R m') cs (l.take n)) (hMo : m.More w m') (hFr : ∀ b, (Value.slice q n c).ownBlock = some b → m' b = none) (hB : Below w.heap.size w wr) (hrow : wr.ownsRow w.heap.size E size (.slice q n c) n cs) (hH : Has wr m') (hR : ∀ m m' : Mem, m.le m' → ∀ c x, R m c x → R m' c x)
    (hown : w9.ownsRow w.heap.size E size v9 (n + 1) (cs ++ mk)) (hg : (wr.alloc o).grownBy w9 (Value.slice q n c).ownBlock) (hat : v9.ownBlock = (Value.slice q n c).ownBlock ∨ v9.ownBlock = some (wr.heap.size + 1)) (hb : n * bs ≤ 140737488351232) :
    ∃ q9 c9, v9 = .slice q9 (n + 1) c9 ∧ n + 1 ≤ c9 ∧ (∃ g9, q9 = some ⟨g9, 0, none⟩) ∧ Hid (∃ m9, m.More w m9 ∧ Has w9 m9 ∧ SlX mk bs (mC m9) (R m9) (.slice q9 n c9) l) ∧ Hid (Below w.heap.size w w9) := by
  obtain ⟨q9, c9, rfl⟩ := own_shape hown
  have h1 := hB.size
  have hC : Chg (fun b => (Value.slice q n c).ownBlock = some b) wr w9 := ((Chg.refl _ wr).alloc _).then (grown_chg hg (fun b hb => .inl hb))
  have hcap : n + 1 ≤ c9 ∧ ∃ g9, q9 = some ⟨g9, 0, none⟩ := by
    rcases hown.2 with ⟨_, h0⟩ | ⟨g', cap', cur, h0, _, _, h1, _, _⟩
    · omega
    · injection h0 with h3 _ h4
      exact ⟨by omega, g', h3⟩
  obtain ⟨m9, d1, d2, d3⟩ := lent_done (w := w) (bs := bs) (R := R) (hH.chg hC hFr) (fun b hb => by
    rcases hat with hat | hat
    · exact hFr b (hat.symm.trans hb)
    · have := hat.symm.trans hb
      injection this with this
      exact hH.lt (by omega)) hown hn (by rwa [List.take_of_length_le (by omega)] at hE) hR hb
  exact ⟨q9, c9, rfl, hcap.1, hcap.2, Lib.hid ⟨m9, hMo.trans d1 (Nat.le_refl _), d2, d3⟩, Lib.hid (grown_below (hB.alloc h1 _) (by simp; omega) hg (fun j hj => (hrow.lt j hj).1))⟩
theorem stR_mono : ∀ m m' : Mem, m.le m' → ∀ c x, StR1 true (mC m) c x → StR1 true (mC m') c x := fun _ _ h _ _ e => e.le (mle_cle h)
theorem exR_mono : ∀ m m' : Mem, m.le m' → ∀ c x, ExR1 true (mC m) c x → ExR1 true (mC m') c x := fun _ _ h _ _ e => e.le (mle_cle h)
set_option maxRecDepth 100000 in
set_option maxHeartbeats 8000000 in
theorem lentStmts_any {w : World} {v : Value} {l : List StZ} (h : BdR false (wC w) v l) {m : Mem} (hm : Has w m) :
    Calls Tryz.prog 20 #[v] w fun e w' => ∃ v' m', e = .returned v' ∧ (∃ g c, v' = .slice (some ⟨g, 0, none⟩) l.length c) ∧ Below w.heap.size w w' ∧ m.More w m' ∧ Has w' m' ∧ BdR true (mC m') v' l := by
  have hB := h
  obtain ⟨q, c, rfl, _, hmax, _, ha, _⟩ := h.at (by decide) st_len
  obtain ⟨n, hn⟩ : ∃ n, l.length = n := ⟨_, rfl⟩
  have HBD := Lib.hid (show n * 72 ≤ 140737488351232 from by obtain ⟨_, _, _, _, _, _, _, h5, _⟩ := hB; rw [← hn]; exact h5)
  have HA := Lib.hid ha
  have HN := Lib.hid hn
  have HM := Lib.hid hm
  rw [hn] at hmax ⊢
  clear h hB ha hn hm
  obtain ⟨i1, hi1, hz1, hs1, hb1⟩ := infoSz
  obtain ⟨i2, hi2, hz2, hs2, hb2⟩ := infoEz
  go_enter Tryz.func20, Tryz.ntmps20
  go_wp2_with fail
  go_loopw [3, 4] (RwI 47 4 (fun m => StR1 true (mC m)) w m n l) (fun _ i _ => n - (intOf i).toNat)
  case atStart => exact RwI.start HM.out
  case round =>
    obtain ⟨k, qF, cF, cs, m1, hk, rfl, rfl, HF, HE, HM1, HMo, HFr, HB⟩ := hrel
    generalize wr = V at *
    by_cases hlt : k < n
    · have hkl : k < l.length := by rw [HN.out]; exact hlt
      obtain ⟨g, o, e, rfl, ⟨vt, ve, rfl, ht, he⟩, a1⟩ := HA.out k hkl
      obtain ⟨qt, ct, hvt⟩ := SlX.shape ht
      obtain ⟨qe, ce, hve⟩ := SlX.shape he
      obtain ⟨nt, hnt⟩ : ∃ nt, l[k].targets.length = nt := ⟨_, rfl⟩
      obtain ⟨ne, hne⟩ : ∃ ne, l[k].exprs.length = ne := ⟨_, rfl⟩
      have HNT := Lib.hid hnt
      have HNE := Lib.hid hne
      rw [hnt] at hvt
      rw [hne] at hve
      subst hvt hve
      clear hnt hne
      have HX0 := Lib.hid (show w.cell? ⟨g, o + k * 4, none⟩ = some (.int .i64 l[k].kind) ∧ w.cell? ⟨g, o + k * 4 + 1, none⟩ = some (.string l[k].name) ∧ w.cell? ⟨g, o + k * 4 + 2, none⟩ = some (.slice qt nt ct) ∧ w.cell? ⟨g, o + k * 4 + 3, none⟩ = some (.slice qe ne ce) from by
        refine ⟨a1 0 _ (by decide) rfl, ?_, ?_, ?_⟩
        · have := a1 1 _ (by decide) rfl; rwa [← Nat.add_assoc] at this
        · have := a1 2 _ (by decide) rfl; rwa [← Nat.add_assoc] at this
        · have := a1 3 _ (by decide) rfl; rwa [← Nat.add_assoc] at this)
      have HST := Lib.hid (show StrR false (wC w) (.slice qt nt ct) l[k].targets from ht)
      have HEX := Lib.hid (show ExsR false (wC w) (.slice qe ne ce) l[k].exprs from he)
      clear ht he a1
      have hle := below_cle HB.out
      have x0 := hle _ _ HX0.out.1
      have x1 := hle _ _ HX0.out.2.1
      have x2 := hle _ _ HX0.out.2.2.1
      have x3 := hle _ _ HX0.out.2.2.2
      unfold wC at x0 x1 x2 x3
      have hglt : g < V.heap.size := World.block_lt_of_cell? _ _ x0
      clear hle
      have hki : (k : Int) < (n : Int) := by omega
      obtain ⟨kd, hkd⟩ : ∃ kd, l[k].kind = kd := ⟨_, rfl⟩
      obtain ⟨nm, hnm⟩ : ∃ nm, l[k].name = nm := ⟨_, rfl⟩
      rw [hkd] at x0
      rw [hnm] at x1
      have HKD := Lib.hid hkd
      have HNM := Lib.hid hnm
      clear hkd hnm
      have hfz0 : (V.alloc (.cells #[.int .i64 kd, .string nm, .slice qt nt ct, .slice qe ne ce] 47)).heap[V.heap.size]? = some (.cells #[.int .i64 kd, .string nm, .slice qt nt ct, .slice qe ne ce] 47 (0, 0)) := World.alloc_heap_new _ _
      go_wp2_with fail
      obtain ⟨W1, hW1⟩ : ∃ W1, V.alloc (.cells #[.int .i64 kd, .string nm, .slice qt nt ct, .slice qe ne ce] 47) = W1 := ⟨_, rfl⟩
      have hb1 : Below V.heap.size V W1 := by rw [← hW1]; exact (Below.refl _ _).alloc (Nat.le_refl _) _
      have hsz1 : W1.heap.size = V.heap.size + 1 := by rw [← hW1]; simp
      rw [hW1] at hfz0 ⊢
      obtain ⟨bx, hbx⟩ : ∃ bx, V.heap.size = bx := ⟨_, rfl⟩
      have HBW := Lib.hid hbx
      go_at_call 17
      refine (lentStrings_any (HST.out.le ((below_cle HB.out).trans (below_cle hb1))) (has_grown HM1.out hb1)).mono ?_
      rintro e w2 ⟨v2, m2, rfl, hb2, hmo2, hH2, hS2⟩
      obtain ⟨qs, cs2, rfl⟩ := SlX.shape hS2
      rw [HNT.out]
      rw [HNT.out] at hS2
      have hx2 : w2.heap[bx]? = some (.cells #[.int .i64 kd, .string nm, .slice qt nt ct, .slice qe ne ce] 47 (0, 0)) := by rw [hb2.block _ (by omega), ← hbx]; exact hfz0
      have hm2x : m2 bx = none := hmo2.new bx (HM1.out.lt (by omega)) (by omega)
      have hbb : Below bx V w2 := by rw [← hbx]; exact hb1.trans (hb2.mono (by omega))
      rw [hbx]
      have hfr2 : w2.frozen? ⟨bx, 2, none⟩ = false := free_of hx2
      have hc2 : w2.cell? ⟨bx, 2, none⟩ = some (.slice qt nt ct) := cell_of hx2 rfl
      have HX2 := Lib.hid hx2
      have HH2 := Lib.hid hH2
      have HS2 := Lib.hid hS2
      have HMO2 := Lib.hid (show m1.More V m2 from ⟨hmo2.le, fun b hb hl => hmo2.new b hb (by omega)⟩)
      have HBB := Lib.hid hbb
      clear hx2 hH2 hS2 hmo2 hb2 hbb hb1 hfz0 x0 x1 x2 x3 hglt
      obtain ⟨W3, hW3⟩ : ∃ W3, w2.setCell ⟨bx, 2, none⟩ (.slice qs nt cs2) = W3 := ⟨_, rfl⟩
      have HX3 := Lib.hid (show W3.heap[bx]? = some (.cells #[.int .i64 kd, .string nm, .slice qs nt cs2, .slice qe ne ce] 47 (0, 0)) by rw [← hW3]; exact heap_set HX2.out 2 _)
      have HH3 := Lib.hid (show Has W3 m2 by rw [← hW3]; exact HH2.out.chg ((Chg.refl (fun b => b = bx) w2).setCell (.inl rfl) _) (fun b e => by rw [e]; exact hm2x))
      have HB3 := Lib.hid (show Below bx V W3 by rw [← hW3]; exact HBB.out.setCell (Nat.le_refl _) _)
      have HB4 := Lib.hid (show Below w.heap.size w W3 from HB.out.trans (HB3.out.mono (by have := HB.out.size; omega)))
      have y0 := below_cle HB4.out _ _ HX0.out.2.2.2
      unfold wC at y0
      obtain ⟨qe', ce', heq, _, hmaxe, _, hae, _⟩ := HEX.out.at (by decide) ex_len
      have hq1 : qe = qe' := by injection heq
      clear heq
      subst hq1
      have HAE := Lib.hid hae
      rw [HNE.out] at hmaxe
      have hbe : ne * 24 ≤ 140737488351232 := by obtain ⟨_, _, _, _, _, _, _, h5, _⟩ := HEX.out; rw [← HNE.out]; exact h5
      have hmx : bx < W3.heap.size := heap_lt HX3.out
      clear hae HX2 HH2
      go_wp2_with fail
      clear hfr2 hc2
      try rw [hW3]
      clear hW3
      go_loopw [6, 7] (RwI 60 1 (fun m => ExR1 true (mC m)) W3 m2 ne l[k].exprs) (fun _ i _ => ne - (intOf i).toNat)
      case atStart => exact RwI.start HH3.out
      case round =>
        obtain ⟨j, qE, cE, cs3, m3, hj, rfl, rfl, GF, GE, GM, GMo, GFr, GB⟩ := hrel
        have HB5 := Lib.hid (show Below w.heap.size w wr from HB4.out.trans (GB.out.mono HB4.out.size))
        have z0 := below_cle HB5.out _ _ HX0.out.2.2.2
        unfold wC at z0
        by_cases hjl : j < ne
        · have hje : j < l[k].exprs.length := by rw [HNE.out]; exact hjl
          obtain ⟨ge, oe, e2, rfl, ⟨u, rfl, hu⟩, a2⟩ := HAE.out j hje
          have hu0 := below_cle HB5.out _ _ (a2 0 _ (by decide) rfl)
          unfold wC at hu0
          rw [Nat.mul_one, Nat.add_zero] at hu0
          have HU := Lib.hid (hu.le (below_cle HB5.out))
          have hji : (j : Int) < (ne : Int) := by omega
          clear a2 hu
          go_wp2_with fail
          go_at_call 40
          refine (lentTerms_any HU.out GM.out).mono ?_
          rintro e w4 ⟨v4, m4, rfl, hb4, hmo4, hH4, hT4⟩
          obtain ⟨q4, c4, rfl⟩ := SlX.shape hT4
          have hrow := own_chg GF.out (Below.chg hb4 (Nat.le_refl _) (fun _ => False)) (fun _ _ e => e)
          have hnew := row_new w4 [.slice q4 l[k].exprs[j].length c4] 60
          have hone : ∀ u ∈ [Value.slice q4 l[k].exprs[j].length c4], u.oneCell' = true := by intro u hu; rw [List.mem_singleton.1 hu]; rfl
          have hs4 := hb4.size
          have hs3 := GB.out.size
          have HB44 := Lib.hid hb4
          have HMO4 := Lib.hid hmo4
          have HH4 := Lib.hid hH4
          have HT4 := Lib.hid hT4
          clear hb4 hmo4 hH4 hT4
          go_wp2_with (at_builtin; refine wpList_append_own_at _ rfl _ _ 45 rfl W3.heap.size 60 i2 _ 1 24 und_exs hi2 hz2 hs2 hb2 rfl (by decide) _ _ _ rfl (hrow.alloc _) ⟨w4.heap.size, 0, none⟩ 1 1 [.slice q4 l[k].exprs[j].length c4] rfl rfl hnew hone (by unfold maxLen; omega) (by omega) (by simp; omega) ?_)
          intro v9 w9 hR9 hg9 _ hat
          obtain ⟨q9, c9, rfl, r1, r2, r3, r4, r5, r6⟩ := rw_step hje GE.out GMo.out GFr.out GB.out GF.out HB44.out HMO4.out HH4.out exR_mono ⟨_, rfl, HT4.out⟩ hR9 hg9 (by simpa using hat)
          clear hR9 hg9 hat hrow
          go_wp2_with fail
          exact ⟨⟨j + 1, q9, c9, _, m4, by omega, by go_num, rfl, r1, r2, r3, r4, r5, r6⟩, by simp [intOf]; omega⟩
        · obtain rfl : j = ne := by omega
          have hrow := GF.out
          have hnew := row_new wr [.slice none 0 0] 60
          have hone : ∀ u ∈ [Value.slice none 0 0], u.oneCell' = true := by intro u hu; rw [List.mem_singleton.1 hu]; rfl
          have hs3 := GB.out.size
          go_wp2_with (at_builtin; refine wpList_append_own_at _ rfl _ _ 45 rfl W3.heap.size 60 i2 _ 1 24 und_exs hi2 hz2 hs2 hb2 rfl (by decide) _ _ _ rfl (hrow.alloc _) ⟨wr.heap.size, 0, none⟩ 1 1 [.slice none 0 0] rfl rfl hnew hone (by unfold maxLen; omega) (by omega) (by simp; omega) ?_)
          intro v9 w9 hR9 hg9 _ hat
          obtain ⟨q9, c9, rfl, hcap, -, HD, HB9⟩ := rw_end (m := m2) HNE.out GE.out GMo.out GFr.out GB.out GF.out GM.out exR_mono hR9 hg9 (by simpa using hat) hbe
          clear hR9 hg9 hat hrow
          obtain ⟨m9, hmo9, hH9, hx9⟩ := HD.out
          have hX9 : w9.heap[bx]? = some (.cells #[.int .i64 kd, .string nm, .slice qs nt cs2, .slice qe j ce] 47 (0, 0)) := by rw [HB9.out.block _ hmx]; exact HX3.out
          have hm9x : m9 bx = none := hmo9.new bx hm2x hmx
          have HB10 := Lib.hid (HB4.out.trans (HB9.out.mono HB4.out.size))
          have z9 := below_cle HB10.out _ _ HX0.out.2.2.2
          unfold wC at z9
          have hfr9 : w9.frozen? ⟨bx, 3, none⟩ = false := free_of hX9
          have hc9 : w9.cell? ⟨bx, 3, none⟩ = some (.slice qe j ce) := cell_of hX9 rfl
          obtain ⟨W5, hW5⟩ : ∃ W5, w9.setCell ⟨bx, 3, none⟩ (.slice q9 j c9) = W5 := ⟨_, rfl⟩
          have HX5 := Lib.hid (show W5.heap[bx]? = some (.cells #[.int .i64 kd, .string nm, .slice qs nt cs2, .slice q9 j c9] 47 (0, 0)) by rw [← hW5]; exact heap_set hX9 3 _)
          have HH5 := Lib.hid (show Has W5 m9 by rw [← hW5]; exact hH9.chg ((Chg.refl (fun b => b = bx) w9).setCell (.inl rfl) _) (fun b e => by rw [e]; exact hm9x))
          have HB5 := Lib.hid (show Below bx V W5 by rw [← hW5]; exact (HB3.out.trans (HB9.out.mono (by omega))).setCell (Nat.le_refl _) _)
          have HS5 := Lib.hid (show StrR true (mC m9) (.slice qs nt cs2) l[k].targets from HS2.out.le (mle_cle hmo9.le))
          have HX6 := Lib.hid (show ExsR true (mC m9) (.slice q9 j c9) l[k].exprs from hx9)
          have HMO9 := Lib.hid (HMO2.out.trans hmo9 HB3.out.size)
          clear hmo9 hH9 hx9 hX9 HD
          have t0 : W5.cell? ⟨bx, 0, none⟩ = some (.int .i64 kd) := cell_of HX5.out rfl
          have t1 : W5.cell? ⟨bx, 1, none⟩ = some (.string nm) := cell_of HX5.out rfl
          have t2 : W5.cell? ⟨bx, 2, none⟩ = some (.slice qs nt cs2) := cell_of HX5.out rfl
          have t3 : W5.cell? ⟨bx, 3, none⟩ = some (.slice q9 j c9) := cell_of HX5.out rfl
          have hrow := own_chg HF.out (Below.chg HB5.out (by rw [HBW.out]; exact Nat.le_refl _) (fun _ => False)) (fun _ _ e => e)
          have hnew := row_new W5 [.int .i64 kd, .string nm, .slice qs nt cs2, .slice q9 j c9] 47
          have hone : ∀ u ∈ [Value.int .i64 kd, .string nm, .slice qs nt cs2, .slice q9 j c9], u.oneCell' = true := by
            intro u hu
            simp only [List.mem_cons, List.not_mem_nil, or_false] at hu
            rcases hu with rfl | rfl | rfl | rfl <;> rfl
          have hbd := HBD.out
          have hs5 := HB5.out.size
          have hs6 := HB.out.size
          have hV := HBW.out
          go_wp2_with (at_builtin; refine wpList_append_own_at _ rfl _ _ 41 rfl w.heap.size 47 i1 _ 4 72 und_sts hi1 hz1 hs1 hb1 rfl (by decide) _ _ _ rfl (hrow.alloc _) ⟨W5.heap.size, 0, none⟩ 1 1 [.int .i64 kd, .string nm, .slice qs nt cs2, .slice q9 j c9] rfl rfl hnew hone (by unfold maxLen; omega) (by omega) (by simp; omega) ?_)
          intro v10 w10 hR10 hg10 _ hat
          obtain ⟨q10, c10, rfl, r1, r2, r3, r4, r5, r6⟩ := rw_step hkl HE.out HMo.out HFr.out HB.out HF.out (by rw [hV]; exact HB5.out) HMO9.out HH5.out stR_mono ⟨_, _, by rw [HKD.out, HNM.out], HS5.out, HX6.out⟩ hR10 hg10 (by simpa using hat)
          clear hR10 hg10 hat hrow
          go_wp2_with fail
          exact ⟨⟨k + 1, q10, c10, _, m9, by omega, by go_num, rfl, r1, r2, r3, r4, r5, r6⟩, by simp [intOf]; omega⟩
    · obtain rfl : k = n := by omega
      have hrow := HF.out
      have hnew := row_new V (mkB true) 47
      have hone : ∀ u ∈ mkB true, u.oneCell' = true := by intro u hu; simp only [mkB, if_true, List.mem_cons, List.not_mem_nil, or_false] at hu; rcases hu with rfl | rfl | rfl | rfl <;> rfl
      have hbd := HBD.out
      have hws := HB.out.size
      go_wp2_with (at_builtin; refine wpList_append_own_at _ rfl _ _ 41 rfl w.heap.size 47 i1 _ 4 72 und_sts hi1 hz1 hs1 hb1 rfl (by decide) _ _ _ rfl (hrow.alloc _) ⟨V.heap.size, 0, none⟩ 1 1 (mkB true) rfl rfl hnew hone (by unfold maxLen; omega) (by omega) (by simp; omega) ?_)
      intro v2 w2 hR2 hg2 _ hat
      obtain ⟨q2, c2, rfl, hcap, ⟨g2, hg2'⟩, HD, HB2⟩ := rw_end (m := m) HN.out HE.out HMo.out HFr.out HB.out hrow HM1.out stR_mono hR2 hg2 (by simpa using hat) hbd
      clear hg2 hR2 hrow hat
      have HG2 := Lib.hid (show Value.slice q2 k c2 = .slice (some ⟨g2, 0, none⟩) k c2 by rw [hg2'])
      clear hg2'
      go_wp2
      go_ret
      obtain ⟨m', d1, d2, d3⟩ := HD.out
      exact ⟨_, m', rfl, ⟨g2, c2, HG2.out⟩, HB2.out, d1, d2, d3⟩
end Go.Proofs.YtlpdjfimefjmcaaGreat

/- One block that is written step by step, beside what is known; a row that is taken over whole. -/
namespace Go.Proofs.YtlpdjfimefjmcaaGreat
open Go Go.RowKit Go.Proofs.Mm

theorem und_ars : Tryz.prog.underlying 24 = some (.slice 39) := by kernel_rfl
theorem und_fns : Tryz.prog.underlying 25 = some (.slice 43) := by kernel_rfl
theorem infoAz : ∃ i, Tryz.prog.info? 39 = some i ∧ i.zero = some (.agg #[.string ⟨#[]⟩, .int .i64 0, .int .u64 0]) ∧ i.size = 3 ∧ i.bytes = 32 := infoOf (by kernel_rfl)
theorem infoFz : ∃ i, Tryz.prog.info? 43 = some i ∧ i.zero = some (.agg #[.string ⟨#[]⟩, .int .u64 0, .slice none 0 0, .slice none 0 0, .slice none 0 0, .slice none 0 0]) ∧ i.size = 6 ∧ i.bytes = 120 := infoOf (by kernel_rfl)

theorem undOf {P : Program} {t : TypeId} (h : (P.underlying t).map (fun d => match d with | .struct _ | .array _ _ => true | _ => false) = some true) : ∃ d, P.underlying t = some d ∧ (match d with | .struct _ | .array _ _ => true | _ => false) = true := by
  cases hd : P.underlying t with
  | none => rw [hd] at h; cases h
  | some d =>
    rw [hd] at h
    exact ⟨d, rfl, by simpa using h⟩
theorem undSo : ∃ d, Tryz.prog.underlying 27 = some d ∧ (match d with | .struct _ | .array _ _ => true | _ => false) = true := undOf (by kernel_rfl)
theorem sizeSo : (Tryz.prog.info? 27).map (·.size) = some 5 := by kernel_rfl
section
variable {w w1 w2 : World} {m m1 m2 : Mem} {b : Nat} {cs : Array Value} {T : TypeId}
/-- One block is written step by step; of what was there before nothing turns. -/
structure Kp (w : World) (m : Mem) (b : Nat) (cs : Array Value) (T : TypeId) (w' : World) (m' : Mem) : Prop where
  below : Below w.heap.size w w'
  has : Has w' m'
  more : m.More w m'
  le : w.heap.size ≤ b
  lies : w'.heap[b]? = some (.cells cs T (0, 0))
  new : m' b = none
theorem Kp.step (h : Kp w m b cs T w1 m1) (hb : Below w1.heap.size w1 w2) (hmo : m1.More w1 m2) (hH : Has w2 m2) : Kp w m b cs T w2 m2 :=
  ⟨h.below.trans (hb.mono h.below.size), hH, h.more.trans hmo h.below.size, h.le, by rw [hb.block _ (heap_lt h.lies)]; exact h.lies, hmo.new b h.new (heap_lt h.lies)⟩
theorem Kp.set (h : Kp w m b cs T w1 m1) (i : Nat) (v : Value) : Kp w m b (cs.setIfInBounds i v) T (w1.setCell ⟨b, i, none⟩ v) m1 :=
  ⟨h.below.setCell h.le v, h.has.chg ((Chg.refl (fun k => k = b) w1).setCell (.inl rfl) _) (fun k e => by rw [e]; exact h.new), h.more, h.le, heap_set h.lies i v, h.new⟩
theorem Kp.cell (h : Kp w m b cs T w1 m1) {i : Nat} {v : Value} (hv : cs[i]? = some v) : w1.cell? ⟨b, i, none⟩ = some v := cell_of h.lies hv
theorem Kp.free (h : Kp w m b cs T w1 m1) (i : Nat) : w1.frozen? ⟨b, i, none⟩ = false := free_of h.lies
theorem Kp.start (hm : Has w m) (cs : Array Value) (T : TypeId) : Kp w m w.heap.size cs T (w.alloc (.cells cs T)) m :=
  ⟨(Below.refl _ w).alloc (Nat.le_refl _) _, has_grown hm ((Below.refl _ w).alloc (Nat.le_refl _) _), Mem.More.refl _ _, Nat.le_refl _, World.alloc_heap_new _ _, hm.lt (Nat.le_refl _)⟩
end
section
variable {P : Program}
/-- A row of nothing takes over a row that is read. -/
theorem wpList_append_rd {ops : Array Oper} {rest : List Oper} {o : Oper} {a : Act} {w : World} {Q : Exit → Act → World → Prop} (hgd : o.guard = none) (s x : Operand) (t : TypeId)
    (ho : o.op = .call { callee := .builtin .append, args := #[s, x], argTypes := #[t, t] })
    (e : TypeId) (i : TypeInfo) (z : Value) (size bytes : Nat) (ht : P.underlying t = some (.slice e)) (hi : P.info? e = some i) (hz : i.zero = some z)
    (hsize : i.size = size) (hby : i.bytes = bytes) (hzs : z.cells.size = size) (hsz : 0 < size)
    (hs : a.eval s = .slice none 0 0)
    (q : Option Addr) (m c : Nat) (news : List Value) (hx : a.eval x = .slice q m c) (hq : q = none → c = 0) (hmc : m ≤ c) (hl : news.length = m * size) (hnews : ∀ ad, q = some ad → ∀ j u, news[j]? = some u → w.cell? (ad.add j) = some u) (h1 : ∀ u ∈ news, u.oneCell' = true)
    (h63 : m ≤ maxLen) (hbytes : m * bytes ≤ 140737488355328)
    (h : ∀ q' c' w', w'.ownsRow w.heap.size e size (.slice q' m c') m news → Below w.heap.size w w' → wpList P ops Q rest (a.put o.dst (.slice q' m c')) w') :
    wpList P ops Q (o :: rest) a w := by
  have hnil := World.ownsRow_nil w w.heap.size e size
  rcases q with _ | ad
  · obtain rfl : c = 0 := hq rfl
    obtain rfl : m = 0 := by omega
    have hn : news = [] := List.eq_nil_of_length_eq_zero (by simpa using hl)
    subst hn
    exact wpList_append_own_none hgd s x t ho w.heap.size e i size ht hi _ 0 [] hs hnil hx (h none 0 w hnil (Below.refl _ w))
  · refine wpList_append_own w hgd s x t ho w.heap.size e i z size bytes ht hi hz hsize hby hzs hsz _ 0 [] hs hnil ad m c news hx hl (hnews ad rfl) h1 (by omega) (by rwa [Nat.zero_add]) (Nat.le_refl _) ?_
    intro v' w' hR hg _
    rw [Nat.zero_add, List.nil_append] at hR
    obtain ⟨q', c', rfl⟩ := own_shape hR
    exact h q' c' w' hR (grown_below (Below.refl _ w) (Nat.le_refl _) hg (fun j hj => by cases hj))
end
theorem one_Ar {l : List ArZ} {cs : List Value} (h : Enc (fun c s => c = arZv s ∧ s.label < u64B) cs l) : ∀ u ∈ cs, u.oneCell' = true := by
  induction l generalizing cs with
  | nil => obtain rfl : cs = [] := h; intro u hu; cases hu
  | cons x l ih =>
    obtain ⟨c, r, rfl, ⟨rfl, _⟩, h2⟩ := h
    intro u hu
    rcases List.mem_append.1 hu with hu | hu
    · simp only [arZv, List.mem_cons, List.not_mem_nil, or_false] at hu
      rcases hu with rfl | rfl | rfl <;> rfl
    · exact ih h2 u hu
/-- What a row of arrays that is read is, for one who takes it over. -/
theorem ArsR.take {C : Cl} {q : Option Addr} {n c : Nat} {l : List ArZ} (h : ArsR false C (.slice q n c) l) : ∃ cs, l.length = n ∧ (q = none → c = 0) ∧ n ≤ c ∧ cs.length = n * 3 ∧ (∀ ad, q = some ad → ∀ j u, cs[j]? = some u → C (ad.add j) = some u) ∧ (∀ u ∈ cs, u.oneCell' = true) ∧ n ≤ maxLen ∧ n * 32 ≤ 140737488351232 ∧ Enc (fun c s => c = arZv s ∧ s.label < u64B) cs l := by
  obtain ⟨q', c', cs, e, _, hr, he, hb, hmax, hqn, hlc⟩ := h
  obtain ⟨rfl, rfl, rfl⟩ : q = q' ∧ n = l.length ∧ c = c' := by injection e with a b c; exact ⟨a, b, c⟩
  obtain ⟨hcl, _⟩ := encZ_at ar_lenZ he
  refine ⟨cs, rfl, hqn, hlc, hcl, ?_, one_Ar he, by omega, hb, he⟩
  intro ad hq
  rcases hr with hr | ⟨g, o, hq2, hr⟩
  · have := (List.append_eq_nil_iff.1 hr).1
    subst this
    intro j u hu
    simp at hu
  · rw [hq] at hq2
    injection hq2 with hq2
    subst hq2
    exact enc_cells he (fun j u hu => hr j u (by rw [List.getElem?_append_left ((List.getElem?_eq_some_iff.1 hu).1)]; exact hu))
theorem fnR_mono : ∀ m m' : Mem, m.le m' → ∀ c x, FnR1 true (mC m) c x → FnR1 true (mC m') c x := fun _ _ h _ _ e => e.le (mle_cle h)
end Go.Proofs.YtlpdjfimefjmcaaGreat

/- A function whose body is these statements and a return. -/
namespace Go.Proofs.YtlpdjfimefjmcaaGreat
open Go Go.RowKit Go.Proofs.Mm

theorem undFn : ∃ d, Tryz.prog.underlying 43 = some d ∧ (match d with | .struct _ | .array _ _ => true | _ => false) = true := undOf (by kernel_rfl)
theorem sizeFn : (Tryz.prog.info? 43).map (·.size) = some 6 := by kernel_rfl
section
variable {P : Program}
/-- A row of one's own takes over a row that is read. -/
theorem wpList_append_rd2 {ops : Array Oper} {rest : List Oper} {o : Oper} {a : Act} {w : World} {Q : Exit → Act → World → Prop} (hgd : o.guard = none) (s x : Operand) (t : TypeId)
    (ho : o.op = .call { callee := .builtin .append, args := #[s, x], argTypes := #[t, t] })
    (base : Nat) (e : TypeId) (i : TypeInfo) (z : Value) (size bytes : Nat) (ht : P.underlying t = some (.slice e)) (hi : P.info? e = some i) (hz : i.zero = some z)
    (hsize : i.size = size) (hby : i.bytes = bytes) (hzs : z.cells.size = size) (hsz : 0 < size)
    (v : Value) (n : Nat) (xs : List Value) (hs : a.eval s = v) (hown : w.ownsRow base e size v n xs)
    (q : Option Addr) (m c : Nat) (news : List Value) (hx : a.eval x = .slice q m c) (hq : q = none → c = 0) (hmc : m ≤ c) (hl : news.length = m * size) (hnews : ∀ ad, q = some ad → ∀ j u, news[j]? = some u → w.cell? (ad.add j) = some u) (h1 : ∀ u ∈ news, u.oneCell' = true)
    (h63 : n + m ≤ maxLen) (hbytes : (n + m) * bytes ≤ 140737488355328) (hbase : base ≤ w.heap.size)
    (h : ∀ v' w', w'.ownsRow base e size v' (n + m) (xs ++ news) → w.grownBy w' v.ownBlock → wpList P ops Q rest (a.put o.dst v') w') :
    wpList P ops Q (o :: rest) a w := by
  rcases q with _ | ad
  · obtain rfl : c = 0 := hq rfl
    obtain rfl : m = 0 := by omega
    have hn : news = [] := List.eq_nil_of_length_eq_zero (by simpa using hl)
    subst hn
    exact wpList_append_own_none hgd s x t ho base e i size ht hi v n xs hs hown hx (h v w (by simpa using hown) ⟨rfl, rfl, rfl, Nat.le_refl _, fun _ _ _ => rfl⟩)
  · exact wpList_append_own w hgd s x t ho base e i z size bytes ht hi hz hsize hby hzs hsz v n xs hs hown ad m c news hx hl (hnews ad rfl) h1 h63 hbytes hbase fun v' w' h2 h3 _ => h v' w' h2 h3
end
/-- A row that is not nothing and holds nothing. -/
theorem own_empty (w : World) (T : TypeId) (size : Nat) : (w.alloc (.cells #[] T)).ownsRow w.heap.size T size (.slice (some ⟨w.heap.size, 0, none⟩) 0 0) 0 [] :=
  ⟨by simp, .inr ⟨w.heap.size, 0, #[], rfl, Nat.le_refl _, World.alloc_heap_new _ _, Nat.le_refl _, by decide, by simp, by simp⟩⟩
theorem own_cells {w : World} {B size n c : Nat} {E : TypeId} {q : Option Addr} {xs : List Value} (h : w.ownsRow B E size (.slice q n c) n xs) (hn : n ≠ 0) : ∃ g, q = some ⟨g, 0, none⟩ ∧ n ≤ c ∧ c ≤ maxLen ∧ ∀ j u, xs[j]? = some u → w.cell? ⟨g, 0 + j, none⟩ = some u := by
  have hlen := h.1
  have h0 := h
  rcases h.2 with ⟨h1, _⟩ | ⟨g, cap, cur, h1, h2, h3, h4, h5, h6, h7⟩
  · cases h1; exact absurd rfl hn
  · injection h1 with h1 _ h8
    subst h1 h8
    refine ⟨g, rfl, h4, h5, fun j u hu => ?_⟩
    have hj := (List.getElem?_eq_some_iff.1 hu).1
    rw [Nat.zero_add, World.ownsRow.cellAt h0 j (by omega)]
    exact hu
/-- What a row of statements that is read is, for one who takes it over. -/
theorem BdR.take {C : Cl} {q : Option Addr} {n c : Nat} {l : List StZ} (h : BdR false C (.slice q n c) l) : ∃ cs, l.length = n ∧ (q = none → c = 0) ∧ n ≤ c ∧ cs.length = n * 4 ∧ (∀ ad, q = some ad → ∀ j u, cs[j]? = some u → C (ad.add j) = some u) ∧ (∀ u ∈ cs, u.oneCell' = true) ∧ n ≤ maxLen ∧ n * 72 ≤ 140737488351232 ∧ Enc (StR1 false C) cs l := by
  obtain ⟨q', c', cs, e, _, hr, he, hb, hmax, hqn, hlc⟩ := h
  obtain ⟨rfl, rfl, rfl⟩ : q = q' ∧ n = l.length ∧ c = c' := by injection e with a b c; exact ⟨a, b, c⟩
  obtain ⟨hcl, _⟩ := encZ_at st_lenZ he
  refine ⟨cs, rfl, hqn, hlc, hcl, ?_, ?_, by omega, hb, he⟩
  · intro ad hq
    rcases hr with hr | ⟨g, o, hq2, hr⟩
    · have := (List.append_eq_nil_iff.1 hr).1
      subst this
      intro j u hu
      simp at hu
    · rw [hq] at hq2
      injection hq2 with hq2
      subst hq2
      exact enc_cells he (fun j u hu => hr j u (by rw [List.getElem?_append_left ((List.getElem?_eq_some_iff.1 hu).1)]; exact hu))
  · clear hcl hr
    have : ∀ {l : List StZ} {cs : List Value}, Enc (StR1 false C) cs l → ∀ u ∈ cs, u.oneCell' = true := by
      intro l
      induction l with
      | nil => intro cs h u hu; obtain rfl : cs = [] := h; cases hu
      | cons x l ih =>
        intro cs h u hu
        obtain ⟨c, r, rfl, ⟨vt, ve, rfl, ht, hee⟩, h2⟩ := h
        obtain ⟨_, _, rfl⟩ := slx_shape ht
        obtain ⟨_, _, rfl⟩ := slx_shape hee
        rcases List.mem_append.1 hu with hu | hu
        · simp only [List.mem_cons, List.not_mem_nil, or_false] at hu
          rcases hu with rfl | rfl | rfl | rfl <;> rfl
        · exact ih h2 u hu
    exact this he
theorem stR_enc (C : Cl) : Enc (StR1 false C) [.int .i64 9, .string ⟨#[]⟩, .slice none 0 0, .slice none 0 0] [stR] := Enc.one ⟨_, _, rfl, slx_nil, slx_nil⟩
set_option maxRecDepth 100000 in
set_option maxHeartbeats 8000000 in
theorem done_p {W : World} (nm : ByteArray) {u : Value} {qb : Option Addr} {nb cb : Nat} {l : List StZ} (hu : u = .slice qb nb cb) (h : BdR false (wC W) (.slice qb nb cb) l) (hnb : nb ≤ 1) :
    Calls Tryz.prog 14 #[.string nm, u] W fun e w' => ∃ g c, e = .returned (.agg #[.string nm, .int .u64 0, .slice none 0 0, .slice none 0 0, .slice none 0 0, .slice (some ⟨g, 0, none⟩) (nb + 1) c]) ∧ Below W.heap.size W w' ∧ BdR false (wC w') (.slice (some ⟨g, 0, none⟩) (nb + 1) c) (l ++ [stR]) := by
  obtain ⟨cs, hl, hq, hmc, hcl, hnw, hon, hmx, hby, he⟩ := h.take
  have HU := Lib.hid hu
  have HE := Lib.hid he
  have HL := Lib.hid hl
  have HNW := Lib.hid (fun w' (hb : Below W.heap.size W w') => show ∀ ad, qb = some ad → ∀ j u, cs[j]? = some u → w'.cell? (ad.add j) = some u from fun ad e j u hu => below_cle hb _ _ (hnw ad e j u hu))
  clear h hnw he hu hl
  obtain ⟨i1, hi1, hz1, hs1, hb1⟩ := infoSz
  go_enter Tryz.func14, Tryz.ntmps14
  have hnil := own_empty (W.alloc (.cells #[.string ⟨#[]⟩, .int .u64 0, .slice none 0 0, .slice none 0 0, .slice none 0 0, .slice none 0 0] 43)) 47 4
  rw [show (W.alloc (.cells #[.string ⟨#[]⟩, .int .u64 0, .slice none 0 0, .slice none 0 0, .slice none 0 0, .slice none 0 0] 43)).heap.size = W.heap.size + 1 by simp] at hnil
  go_wp2_with (at_builtin; refine wpList_append_rd2 rfl _ _ 41 rfl (W.heap.size + 1) 47 i1 _ 4 72 und_sts hi1 hz1 hs1 hb1 rfl (by decide) _ 0 [] rfl hnil qb nb cb cs HU.out hq hmc hcl (HNW.out _ (bl_al (bl_al (Below.refl _ _) _) _)) hon (by unfold maxLen; omega) (by omega) (by simp) ?_)
  intro v1 w1 hR1 hg1
  obtain ⟨q1, c1, rfl⟩ := own_shape hR1
  try simp only [Nat.zero_add, List.nil_append] at hR1
  have HBB := Lib.hid (show Below (W.heap.size + 1) ((W.alloc (.cells #[.string ⟨#[]⟩, .int .u64 0, .slice none 0 0, .slice none 0 0, .slice none 0 0, .slice none 0 0] 43)).alloc (.cells #[] 47)) w1 from grown_below (Below.refl _ _) (by simp) hg1 (fun j hj => by cases hj; exact Nat.le_refl (W.heap.size + 1)))
  have hB1 := Lib.hid (show Below W.heap.size W w1 from grown_below (bl_al (bl_al (Below.refl _ _) _) _) (by simp <;> omega) hg1 (fun j hj => by cases hj; exact Nat.le_succ W.heap.size))
  have hx : w1.heap[W.heap.size]? = some (.cells #[.string ⟨#[]⟩, .int .u64 0, .slice none 0 0, .slice none 0 0, .slice none 0 0, .slice none 0 0] 43 (0, 0)) := (HBB.out.block _ (by omega)).trans (heap_new _ _ (World.alloc_heap_new _ _))
  have hws : W.heap.size + 1 ≤ w1.heap.size := by have := HBB.out.size; simp at this; omega
  have hnew := row_new w1 [.int .i64 9, .string ⟨#[]⟩, .slice none 0 0, .slice none 0 0] 47
  have hone : ∀ u ∈ [Value.int .i64 9, .string ⟨#[]⟩, .slice none 0 0, .slice none 0 0], u.oneCell' = true := by intro u hu; simp only [List.mem_cons, List.not_mem_nil, or_false] at hu; rcases hu with rfl | rfl | rfl | rfl <;> rfl
  go_wp2_with (at_builtin; refine wpList_append_own _ rfl _ _ 41 rfl (W.heap.size + 1) 47 i1 _ 4 72 und_sts hi1 hz1 hs1 hb1 rfl (by decide) _ nb cs rfl (hR1.alloc _) ⟨w1.heap.size, 0, none⟩ 1 1 [.int .i64 9, .string ⟨#[]⟩, .slice none 0 0, .slice none 0 0] rfl rfl hnew hone (by unfold maxLen; omega) (by omega) (by simp; omega) ?_)
  intro v2 w2 hR2 hg2 _
  obtain ⟨q2, c2, rfl⟩ := own_shape hR2
  have HB2 := Lib.hid (show Below (W.heap.size + 1) w1 w2 from grown_below ((Below.refl _ _).alloc hws _) (by simp; omega) hg2 (fun j hj => (hR1.lt j hj).1))
  obtain ⟨g, rfl, hc1, hc2, hcl2⟩ := own_cells hR2 (Nat.succ_ne_zero _)
  have hx2 := (HB2.out.block W.heap.size (by omega)).trans hx
  have hg9 : W.heap.size + 1 ≤ g := (hR2.lt g rfl).1
  have HC2 := Lib.hid hcl2
  clear hcl2 hR2 hg2 hR1 hg1 hnew hone hnil hx
  have k0 := cell_of (j := 0) hx2 rfl
  have k1 := cell_of (j := 1) hx2 rfl
  have k2 := cell_of (j := 2) hx2 rfl
  have k3 := cell_of (j := 3) hx2 rfl
  have k4 := cell_of (j := 4) hx2 rfl
  have k5 := cell_of (j := 5) hx2 rfl
  have l0 := free_of (j := 0) hx2
  have l1 := free_of (j := 1) hx2
  have l2 := free_of (j := 2) hx2
  have l3 := free_of (j := 3) hx2
  have l4 := free_of (j := 4) hx2
  have l5 := free_of (j := 5) hx2
  go_wp2
  (try simp only [Exit.inBlock, Exit.then])
  obtain ⟨d9, u1, u2⟩ := undFn
  have hx3 := heap_set (heap_set (heap_set (heap_set (heap_set (heap_set hx2 0 (.string nm)) 1 (.int .u64 0)) 2 (.slice none 0 0)) 3 (.slice none 0 0)) 4 (.slice none 0 0)) 5 (.slice (some ⟨g, 0, none⟩) (nb + 1) c2)
  refine bodyPost_ret (results_cell_row rfl _ _ W.heap.size 43 _ (0,0) d9 rfl hx3 u1 (by cases d9 <;> first | rfl | cases u2) sizeFn) rfl ?_
  have hW : Below W.heap.size W w2 := hB1.out.trans (HB2.out.mono (by omega))
  have hq0 : W.heap.size ≤ W.heap.size := Nat.le_refl _
  have hBF := (((((hW.setCell (p := ⟨W.heap.size, 0, none⟩) hq0 (.string nm)).setCell (p := ⟨W.heap.size, 1, none⟩) hq0 (.int .u64 0)).setCell (p := ⟨W.heap.size, 2, none⟩) hq0 (.slice none 0 0)).setCell (p := ⟨W.heap.size, 3, none⟩) hq0 (.slice none 0 0)).setCell (p := ⟨W.heap.size, 4, none⟩) hq0 (.slice none 0 0)).setCell (p := ⟨W.heap.size, 5, none⟩) hq0 (.slice (some ⟨g, 0, none⟩) (nb + 1) c2)
  have hne : ∀ (W' : World) i v, (W'.setCell ⟨W.heap.size, i, none⟩ v).heap[g]? = W'.heap[g]? := fun W' i v => Below.heap_setCell _ _ _ _ (by show g ≠ W.heap.size; omega)
  have hgF := (hne _ 5 (.slice (some ⟨g, 0, none⟩) (nb + 1) c2)).trans ((hne _ 4 (.slice none 0 0)).trans ((hne _ 3 (.slice none 0 0)).trans ((hne _ 2 (.slice none 0 0)).trans ((hne _ 1 (.int .u64 0)).trans (hne w2 0 (.string nm))))))
  clear hne hx3 hx2 k0 k1 k2 k3 k4 k5 l0 l1 l2 l3 l4 l5
  generalize ((((((w2.setCell _ _).setCell _ _).setCell _ _).setCell _ _).setCell _ _).setCell _ _) = wF at *
  refine ⟨g, c2, rfl, hBF, ?_⟩
  have hll : (l ++ [stR]).length = nb + 1 := by rw [List.length_append, HL.out]; rfl
  rw [← hll]
  refine slx_mk (cs := cs ++ [Value.int .i64 9, .string ⟨#[]⟩, .slice none 0 0, .slice none 0 0]) ?_ ?_ (by rw [hll]; omega) hc2 (by rw [hll]; exact hc1)
  · intro j u hu
    exact (World.cell?_of_block (w := w2) (a := ⟨g, 0 + j, none⟩) hgF).trans (HC2.out j u hu)
  · exact (HE.out.mono (fun c x hh => hh.le (below_cle hBF))).app (stR_enc _)
end Go.Proofs.YtlpdjfimefjmcaaGreat

/- Two rows that grow side by side: a statement's uses, and what they may be. -/
namespace Go.Proofs.YtlpdjfimefjmcaaGreat
open Go Go.RowKit Go.Proofs.Mm

theorem und_kds : Tryz.prog.underlying 48 = some (.slice 55) := by kernel_rfl
theorem infoKz : ∃ i, Tryz.prog.info? 55 = some i ∧ i.zero = some (.agg #[.int .i64 0, .int .i64 0]) ∧ i.size = 2 ∧ i.bytes = 16 := infoOf (by kernel_rfl)
/-- What a use may be. -/
def kd2 (n : Nat) : List Value := if n = 2 then [.int .i64 1, .int .i64 2] else [.int .i64 (n : Int), .int .i64 (n : Int)]
def nmRow (u : List (ByteArray × Nat)) : List Value := u.map fun p => .string p.1
def kdRow (u : List (ByteArray × Nat)) : List Value := u.flatMap fun p => kd2 p.2
theorem kd2_len (n : Nat) : (kd2 n).length = 2 := by unfold kd2; split <;> rfl
theorem kd2_one (n : Nat) : ∀ v ∈ kd2 n, v.oneCell' = true := by
  intro v hv
  unfold kd2 at hv
  split at hv <;> (simp only [List.mem_cons, List.not_mem_nil, or_false] at hv; rcases hv with rfl | rfl <;> rfl)
theorem nmRow_snoc (u : List (ByteArray × Nat)) (p : ByteArray × Nat) : nmRow (u ++ [p]) = nmRow u ++ [.string p.1] := by unfold nmRow; simp
theorem kdRow_snoc (u : List (ByteArray × Nat)) (p : ByteArray × Nat) : kdRow (u ++ [p]) = kdRow u ++ kd2 p.2 := by unfold kdRow; simp
/-- Two rows of one's own, of two types: so they are apart. -/
structure Two (w : World) (n1 n2 : Nat) (xs ys : List Value) (l k : Value) (w' : World) : Prop where
  one : w'.ownsRow w.heap.size 9 1 l n1 xs
  two : w'.ownsRow w.heap.size 55 2 k n2 ys
  below : Below w.heap.size w w'
section
variable {w w' w'' w9 : World} {n1 n2 : Nat} {xs ys : List Value} {l k l' k' : Value}
theorem Two.apart (h : Two w n1 n2 xs ys l k w') : ∀ b, l.ownBlock = some b → k.ownBlock ≠ some b := fun b hb hk => by
  obtain ⟨c1, e1⟩ := own_type h.one hb
  obtain ⟨c2, e2⟩ := own_type h.two hk
  rw [e1] at e2
  injection e2 with e2
  injection e2 with _ e2 _
  exact absurd e2 (by decide)
theorem Two.start (w : World) : Two w 0 0 [] [] (.slice none 0 0) (.slice none 0 0) w := ⟨World.ownsRow_nil _ _ _ _, World.ownsRow_nil _ _ _ _, Below.refl _ _⟩
theorem Two.le (h : Two w n1 n2 xs ys l k w') (hb : Below w'.heap.size w' w'') : Two w n1 n2 xs ys l k w'' :=
  ⟨own_chg h.one (Below.chg hb (Nat.le_refl _) (fun _ => False)) (fun _ _ e => e), own_chg h.two (Below.chg hb (Nat.le_refl _) (fun _ => False)) (fun _ _ e => e), bl_tr h.below hb⟩
/-- The first row has grown. -/
theorem Two.first (h : Two w n1 n2 xs ys l k w') {m1 : Nat} {xs' : List Value} (hR : w''.ownsRow w.heap.size 9 1 l' m1 xs') (hg : w'.grownBy w'' l.ownBlock) : Two w m1 n2 xs' ys l' k w'' := by
  have hC : Chg (fun b => l.ownBlock = some b) w' w'' := grown_chg hg (fun b hb => .inl hb)
  refine ⟨hR, own_chg h.two hC (fun b hb hl => h.apart b hl hb), ?_⟩
  exact h.below.trans ⟨hg.os, hg.tape, hg.output, hg.size, fun b hb => hg.block b (Nat.lt_of_lt_of_le hb h.below.size) (fun e => absurd ((h.one.lt b e.symm).1) (by omega))⟩
/-- The second row has grown. -/
theorem Two.second (h : Two w n1 n2 xs ys l k w') {m2 : Nat} {ys' : List Value} (hR : w''.ownsRow w.heap.size 55 2 k' m2 ys') (hg : w'.grownBy w'' k.ownBlock) : Two w n1 m2 xs ys' l k' w'' := by
  have hC : Chg (fun b => k.ownBlock = some b) w' w'' := grown_chg hg (fun b hb => .inl hb)
  refine ⟨own_chg h.one hC (fun b hb hk => h.apart b hb hk), hR, ?_⟩
  exact h.below.trans ⟨hg.os, hg.tape, hg.output, hg.size, fun b hb => hg.block b (Nat.lt_of_lt_of_le hb h.below.size) (fun e => absurd ((h.two.lt b e.symm).1) (by omega))⟩
end
end Go.Proofs.YtlpdjfimefjmcaaGreat
