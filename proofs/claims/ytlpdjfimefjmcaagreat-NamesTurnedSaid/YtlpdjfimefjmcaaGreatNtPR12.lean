/- Package names: Check. -/
import Derived.Test.YtlpdjfimefjmcaaGreatNtPR7
import Derived.Test.YtlpdjfimefjmcaaGreatNtPR11
import Derived.Test.YtlpdjfimefjmcaaGreatNtPR3
import Derived.Laws.OwnMore
import Derived.Test.YtlpdjfimefjmcaaGreatNtPR5
namespace Go.Proofs.YtlpdjfimefjmcaaGreat
open Go Go.RowKit Go.Proofs.Mm

/-- A fault as a value. -/
def flA (x : Int × Int × Int) : Array Value := #[.int .i64 x.1, .int .i64 x.2.1, .int .i64 x.2.2]
/-- Nothing in it is too large. -/
def SmallZ (s : SoZ) : Prop := ∀ d ∈ s.funcs, ∀ x ∈ d.body, x.targets.length ≤ 8796093021952
/-- Whatever is read has no more targets than a row may have. -/
theorem small_of {lt : Bool} {C : Cl} {s : SoZ} {q1 : Option Addr} {c1 : Nat} {q2 : Option Addr} {c2 : Nat} {q3 : Option Addr} {c3 : Nat} {q4 : Option Addr} {c4 : Nat} {q5 : Option Addr} {c5 : Nat} (h : SrcO lt C s q1 c1 q2 c2 q3 c3 q4 c4 q5 c5) : SmallZ s := by
  intro d hd x hx
  obtain ⟨j, hj, rfl⟩ := List.getElem_of_mem hd
  obtain ⟨g, o, qp, cp, qr, cr, qv, cv, qb, cb, e, a0, a1, a2, a3, a4, a5, hl, hp, hr, hv, hb⟩ := h.fn.cells j hj
  obtain ⟨i, hi, rfl⟩ := List.getElem_of_mem hx
  obtain ⟨g, o, qt, ct, qe, ce, e, b0, b1, b2, b3, ht, he⟩ := hb.cells i hi
  have := slx_len ht
  omega
def resF : Option (Nat × Int × Nat) → Int × Int × Int
  | some (f, a, e) => ((e : Int), (f : Int), a)
  | none => (0, 0, 0)
theorem fnsF_next {nest : List Int → Bool} {s : SoZ} {k : Nat} (hk : k < s.funcs.length) (h : fnE nest s k s.funcs[k] = none) : fnsF nest s (s.funcs.drop k) k = fnsF nest s (s.funcs.drop (k + 1)) (k + 1) := by
  rw [List.drop_eq_getElem_cons hk, fnsF, h]
theorem fnsF_hit {nest : List Int → Bool} {s : SoZ} {k : Nat} {a : Int} {e : Nat} (hk : k < s.funcs.length) (h : fnE nest s k s.funcs[k] = some (a, e)) : fnsF nest s (s.funcs.drop k) k = some (k, a, e) := by
  rw [List.drop_eq_getElem_cons hk, fnsF, h]
theorem chk_none {s : SoZ} (h : declsZE s = none) : chkZ nstZ s = resF (fnsF nstZ s (s.funcs.drop 0) 0) := by
  unfold chkZ
  rw [h]
  show _ = resF (fnsF nstZ s s.funcs 0)
  cases fnsF nstZ s s.funcs 0 <;> rfl
theorem declsZE_ne {s : SoZ} {a e : Nat} (h : declsZE s = some (a, e)) : ¬ e = 0 := by
  have grp : ∀ (most : Nat) (ef : Nat → Nat) (base n k : Nat) (x : Nat × Nat), grpF most ef base n k = some x → ¬ x.2 = 0 := by
    intro most ef base n
    induction n with
    | zero => intro k x hx; cases hx
    | succ n ih =>
      intro k x hx
      rw [grpF] at hx
      split at hx
      · cases hx; show ¬ (74 : Nat) = 0; decide
      · split at hx
        · exact ih _ _ hx
        · rename_i h2; cases hx; exact h2
  have all : ∀ (gs : List (Nat × Nat × (Nat → Nat))) (base : Nat) (x : Nat × Nat), grpsF gs base = some x → ¬ x.2 = 0 := by
    intro gs
    induction gs with
    | nil => intro base x hx; cases hx
    | cons g gs ih =>
      intro base x hx
      rw [grpsF] at hx
      cases hg : grpF g.2.1 g.2.2 base g.1 0 with
      | none => rw [hg] at hx; exact ih _ _ hx
      | some y => rw [hg] at hx; cases hx; exact grp _ _ _ _ _ _ hg
  rw [decls_gs] at h
  exact all _ _ _ h
theorem fnE_ne {nest : List Int → Bool} {s : SoZ} {f : Nat} {d : FnZ} {a : Int} {e : Nat} (h : fnE nest s f d = some (a, e)) : ¬ e = 0 := by
  have bd : ∀ (l : List StZ) (i : Nat) (x : Int × Nat), bodyF s f l i = some x → ¬ x.2 = 0 := by
    intro l
    induction l with
    | nil => intro i x hx; cases hx
    | cons y l ih =>
      intro i x hx
      rw [bodyF] at hx
      split at hx
      · exact ih _ _ hx
      · rename_i h2; cases hx; exact h2
  unfold fnE at h
  simp only at h
  split at h
  · exact bd _ _ _ h
  · rename_i h2; cases h; exact h2
section
variable {lt : Bool} {C : Cl} {W : World} {s : SoZ} {q1 : Option Addr} {c1 : Nat} {q2 : Option Addr} {c2 : Nat} {q3 : Option Addr} {c3 : Nat} {q4 : Option Addr} {c4 : Nat} {q5 : Option Addr} {c5 : Nat}
set_option maxRecDepth 100000 in
set_option maxHeartbeats 8000000 in
theorem check_p (h : SrcO lt C s q1 c1 q2 c2 q3 c3 q4 c4 q5 c5) (hC : CLe C (wC W)) (hsm : SmallZ s) :
    Calls Tryz.prog 6 #[.agg (srV s q1 c1 q2 c2 q3 c3 q4 c4 q5 c5)] W (RetB (.agg (flA (chkZ nstZ s))) W) := by
  have HD := Lib.hid (fun (w : World) (hw : Below W.heap.size W w) => declarations_p (W := w) h (hC.trans (below_cle hw)))
  have HF := Lib.hid (fun (w : World) (hw : Below W.heap.size W w) f (hf : f < s.funcs.length) (m : Nat) (hm : m = s.funcs.length) => show Calls Tryz.prog 16 #[.agg #[.slice q1 s.principals.length c1, .slice q2 s.globals.length c2, .slice q3 s.arrays.length c3, .slice q4 s.channels.length c4, .slice q5 m c5], .int .i64 (f : Int)] w (RetB (fnV (fnE nstZ s f s.funcs[f])) w) from by subst hm; exact function_p (W := w) h (hC.trans (below_cle hw)) f hf (hsm _ (List.getElem_mem hf)))
  have HN := Lib.hid (fun (a e : Nat) hd => declsZE_ne (s := s) (a := a) (e := e) hd)
  have HFN := Lib.hid (fun f (hf : f < s.funcs.length) (a : Int) (e : Nat) (hh : fnE nstZ s f s.funcs[f] = some (a, e)) => fnE_ne (nest := nstZ) (s := s) (f := f) (d := s.funcs[f]) (a := a) (e := e) hh)
  have HX1 := Lib.hid (fun a e (hd : declsZE s = some (a, e)) => show chkZ nstZ s = ((e : Int), -1, (a : Int)) by unfold chkZ; rw [hd])
  have HX2 := Lib.hid (fun (hd : declsZE s = none) => chk_none hd)
  have HAT0 := Lib.hid (fun k (hk : k < s.funcs.length) => fnsF_next (nest := nstZ) hk)
  have HAT1 := Lib.hid (fun k (hk : k < s.funcs.length) (a : Int) (e : Nat) (hh : fnE nstZ s k s.funcs[k] = some (a, e)) => fnsF_hit (nest := nstZ) hk hh)
  have HL5 := Lib.hid (slx_len h.fn)
  clear h hC hsm
  unfold srV at HD ⊢
  generalize declsZE s = D at *
  generalize chkZ nstZ s = R at *
  obtain ⟨n5, hn5⟩ : ∃ n5, s.funcs.length = n5 := ⟨_, rfl⟩
  have HN5 := Lib.hid hn5
  rw [hn5] at HD HL5 ⊢
  clear hn5
  have h5b : n5 ≤ 1172812402928 := by have := HL5.out; omega
  generalize s.principals.length = n1 at *
  generalize s.globals.length = n2 at *
  generalize s.arrays.length = n3 at *
  generalize s.channels.length = n4 at *
  obtain ⟨b, hb⟩ : ∃ b, W.heap.size = b := ⟨_, rfl⟩
  go_enter Tryz.func6, Tryz.ntmps6
  go_wp2_with fail
  have hbA : Below W.heap.size W ((W.alloc (.cells #[.slice q1 n1 c1, .slice q2 n2 c2, .slice q3 n3 c3, .slice q4 n4 c4, .slice q5 n5 c5] 27)).alloc (.cells #[.int .i64 0, .int .i64 0, .int .i64 0] 31)) := bl_al (bl_al (Below.refl _ _) _) _
  have j0 : InB ((W.alloc (.cells #[.slice q1 n1 c1, .slice q2 n2 c2, .slice q3 n3 c3, .slice q4 n4 c4, .slice q5 n5 c5] 27)).alloc (.cells #[.int .i64 0, .int .i64 0, .int .i64 0] 31)) b #[.slice q1 n1 c1, .slice q2 n2 c2, .slice q3 n3 c3, .slice q4 n4 c4, .slice q5 n5 c5] 27 := (InB.new' _ _ hb).le (bl_al (Below.refl _ _) _)
  have j1 : InB ((W.alloc (.cells #[.slice q1 n1 c1, .slice q2 n2 c2, .slice q3 n3 c3, .slice q4 n4 c4, .slice q5 n5 c5] 27)).alloc (.cells #[.int .i64 0, .int .i64 0, .int .i64 0] 31)) (b + 1) #[.int .i64 0, .int .i64 0, .int .i64 0] 31 := InB.new' _ _ (by simp [hb])
  generalize (W.alloc (.cells #[.slice q1 n1 c1, .slice q2 n2 c2, .slice q3 n3 c3, .slice q4 n4 c4, .slice q5 n5 c5] 27)).alloc (.cells #[.int .i64 0, .int .i64 0, .int .i64 0] 31) = w0 at *
  try rw [hb]
  have HBB := Lib.hid hb
  have HBA := Lib.hid hbA
  have HJ0 := Lib.hid j0
  have HJ1 := Lib.hid j1
  clear hbA j0 j1
  go_at_call 15
  refine (HD.out _ HBA.out).mono ?_
  rintro e w1 ⟨rfl, hb1⟩
  have HB1 := Lib.hid hb1
  clear hb1
  have k4 := (HJ0.out.le HB1.out).cell (j := 4) (v := .slice q5 n5 c5) rfl
  cases hdd : D with
  | some z =>
    obtain ⟨a, e⟩ := z
    have HR := Lib.hid (HX1.out a e hdd)
    have hne0 := HN.out a e hdd
    have hne : (((e : Nat) : Int) != 0) = true := by simpa using hne0
    have hne2 : (((e : Nat) : Int) == 0) = false := by simpa using hne0
    have HY := Lib.hid (HJ1.out.le HB1.out)
    have r0 := HY.out.cell (j := 0) (v := .int .i64 0) rfl
    have r1 := HY.out.cell (j := 1) (v := .int .i64 0) rfl
    have r2 := HY.out.cell (j := 2) (v := .int .i64 0) rfl
    have f0 : w1.frozen? ⟨b + 1, 0, none⟩ = false := free_of HY.out
    have f1 : w1.frozen? ⟨b + 1, 1, none⟩ = false := free_of HY.out
    have f2 : w1.frozen? ⟨b + 1, 2, none⟩ = false := free_of HY.out
    clear hdd hne0 k4
    unfold daV
    go_wp2
    have hW := heap_set (heap_set (heap_set HY.out 0 (.int .i64 (e : Int))) 1 (.int .i64 (-1))) 2 (.int .i64 (a : Int))
    have hbs := HBB.out
    have hWB := (((bl_tr HBA.out HB1.out).setCell (p := ⟨b + 1, 0, none⟩) (by show W.heap.size ≤ b + 1; omega) (.int .i64 (e : Int))).setCell (p := ⟨b + 1, 1, none⟩) (by show W.heap.size ≤ b + 1; omega) (.int .i64 (-1))).setCell (p := ⟨b + 1, 2, none⟩) (by show W.heap.size ≤ b + 1; omega) (.int .i64 (a : Int))
    generalize ((w1.setCell _ _).setCell _ _).setCell _ _ = wE at *
    have c0 := cell_of (j := 0) hW rfl
    have c1 := cell_of (j := 1) hW rfl
    have c2 := cell_of (j := 2) hW rfl
    exact bodyPost_ret (v := .agg #[.int .i64 (e : Int), .int .i64 (-1), .int .i64 (a : Int)]) (by simp [results, Tryz.results6, go_sem, c0, c1, c2]) rfl ⟨by rw [HR.out]; rfl, hWB⟩
  | none =>
    have HR0 := Lib.hid (HX2.out hdd)
    have k0 := (HJ0.out.le HB1.out).cell (j := 0) (v := .slice q1 n1 c1) rfl
    clear hdd k0
    unfold daV
    go_wp2_with fail
    clear k4
    go_loopw [21] (fun i wr => ∃ k : Nat, k ≤ n5 ∧ i = .int .i64 k ∧ Hid (Below w0.heap.size w0 wr) ∧ Hid (R = resF (fnsF nstZ s (s.funcs.drop k) k))) (fun i _ => n5 - (intOf i).toNat)
    case atStart => exact ⟨0, Nat.zero_le _, rfl, HB1, HR0⟩
    case round =>
      obtain ⟨k, hk, rfl, HB, HT⟩ := hrel
      have HY := Lib.hid (HJ1.out.le HB.out)
      by_cases hlt : k < n5
      · have hk1 : k < s.funcs.length := by rw [HN5.out]; exact hlt
        have HFF := Lib.hid (fun w hw => HF.out w hw k hk1 n5 HN5.out.symm)
        have HNE := Lib.hid (HFN.out k hk1)
        have HT0 := Lib.hid (fun (hh : fnE nstZ s k s.funcs[k] = none) => show R = resF (fnsF nstZ s (s.funcs.drop (k + 1)) (k + 1)) from HT.out.trans (congrArg resF (HAT0.out k hk1 hh)))
        have HT1 := Lib.hid (fun (a : Int) (e : Nat) (hh : fnE nstZ s k s.funcs[k] = some (a, e)) => show R = ((e : Int), (k : Int), a) from HT.out.trans (congrArg resF (HAT1.out k hk1 a e hh)))
        generalize fnE nstZ s k s.funcs[k] = X at *
        clear hk1
        have k0 := (HJ0.out.le HB.out).cell (j := 0) (v := .slice q1 n1 c1) rfl
        have k1 := (HJ0.out.le HB.out).cell (j := 1) (v := .slice q2 n2 c2) rfl
        have k2 := (HJ0.out.le HB.out).cell (j := 2) (v := .slice q3 n3 c3) rfl
        have k3 := (HJ0.out.le HB.out).cell (j := 3) (v := .slice q4 n4 c4) rfl
        have k4 := (HJ0.out.le HB.out).cell (j := 4) (v := .slice q5 n5 c5) rfl
        have hki : (k : Int) < (n5 : Int) := by omega
        go_wp2_with fail
        go_at_call 16
        refine (HFF.out _ (bl_tr HBA.out HB.out)).mono ?_
        rintro e w2 ⟨rfl, hb2⟩
        have HB2 := Lib.hid (bl_tr HB.out hb2)
        have HY2 := Lib.hid (HJ1.out.le HB2.out)
        clear hb2 k0 k1 k2 k3 k4
        cases X with
        | none =>
          have HTD := Lib.hid (HT0.out rfl)
          clear HT0 HT1 HNE
          unfold fnV
          go_wp2
          exact ⟨⟨k + 1, by omega, by go_num, HB2, HTD⟩, by simp [intOf]; omega⟩
        | some z =>
          obtain ⟨a, e⟩ := z
          have hne0 := HNE.out a e rfl
          have HTD := Lib.hid (HT1.out a e rfl)
          clear HT0 HT1 HNE
          have hne : (((e : Nat) : Int) != 0) = true := by simpa using hne0
          have hne2 : (((e : Nat) : Int) == 0) = false := by simpa using hne0
          have r0 := HY2.out.cell (j := 0) (v := .int .i64 0) rfl
          have r1 := HY2.out.cell (j := 1) (v := .int .i64 0) rfl
          have r2 := HY2.out.cell (j := 2) (v := .int .i64 0) rfl
          have f0 : w2.frozen? ⟨b + 1, 0, none⟩ = false := free_of HY2.out
          have f1 : w2.frozen? ⟨b + 1, 1, none⟩ = false := free_of HY2.out
          have f2 : w2.frozen? ⟨b + 1, 2, none⟩ = false := free_of HY2.out
          clear hne0
          unfold fnV
          go_wp2
          have hW := heap_set (heap_set (heap_set HY2.out 0 (.int .i64 (e : Int))) 1 (.int .i64 (k : Int))) 2 (.int .i64 a)
          have hbs := HBB.out
          have hWB := (((bl_tr HBA.out HB2.out).setCell (p := ⟨b + 1, 0, none⟩) (by show W.heap.size ≤ b + 1; omega) (.int .i64 (e : Int))).setCell (p := ⟨b + 1, 1, none⟩) (by show W.heap.size ≤ b + 1; omega) (.int .i64 (k : Int))).setCell (p := ⟨b + 1, 2, none⟩) (by show W.heap.size ≤ b + 1; omega) (.int .i64 a)
          generalize ((w2.setCell _ _).setCell _ _).setCell _ _ = wE at *
          have c0 := cell_of (j := 0) hW rfl
          have c1 := cell_of (j := 1) hW rfl
          have c2 := cell_of (j := 2) hW rfl
          exact bodyPost_ret (v := .agg #[.int .i64 (e : Int), .int .i64 (k : Int), .int .i64 a]) (by simp [results, Tryz.results6, go_sem, c0, c1, c2]) rfl ⟨by rw [HTD.out]; rfl, hWB⟩
      · obtain rfl : k = n5 := by omega
        have HR := Lib.hid (show R = (0, 0, 0) by rw [HT.out, List.drop_of_length_le (by rw [HN5.out]; exact Nat.le_refl _)]; rfl)
        have r0 := HY.out.cell (j := 0) (v := .int .i64 0) rfl
        have r1 := HY.out.cell (j := 1) (v := .int .i64 0) rfl
        have r2 := HY.out.cell (j := 2) (v := .int .i64 0) rfl
        have f0 : wr.frozen? ⟨b + 1, 0, none⟩ = false := free_of HY.out
        have f1 : wr.frozen? ⟨b + 1, 1, none⟩ = false := free_of HY.out
        have f2 : wr.frozen? ⟨b + 1, 2, none⟩ = false := free_of HY.out
        go_wp2
        have hW := heap_set (heap_set (heap_set HY.out 0 (.int .i64 0)) 1 (.int .i64 0)) 2 (.int .i64 0)
        have hbs := HBB.out
        have hWB := (((bl_tr HBA.out HB.out).setCell (p := ⟨b + 1, 0, none⟩) (by show W.heap.size ≤ b + 1; omega) (.int .i64 0)).setCell (p := ⟨b + 1, 1, none⟩) (by show W.heap.size ≤ b + 1; omega) (.int .i64 0)).setCell (p := ⟨b + 1, 2, none⟩) (by show W.heap.size ≤ b + 1; omega) (.int .i64 0)
        generalize ((wr.setCell _ _).setCell _ _).setCell _ _ = wE at *
        have c0 := cell_of (j := 0) hW rfl
        have c1 := cell_of (j := 1) hW rfl
        have c2 := cell_of (j := 2) hW rfl
        exact bodyPost_ret (v := .agg #[.int .i64 0, .int .i64 0, .int .i64 0]) (by simp [results, Tryz.results6, go_sem, c0, c1, c2]) rfl ⟨by rw [HR.out]; rfl, hWB⟩
end
end Go.Proofs.YtlpdjfimefjmcaaGreat

/- The statements' sources that they know the faults of. -/
namespace Go.Proofs.YtlpdjfimefjmcaaGreat
open Go Go.RowKit Go.Proofs.Mm

theorem eqFlt (a b c x y z : Int) (w : World) : (Op.equalIn 10000 31 (.agg #[.int .i64 a, .int .i64 b, .int .i64 c]) (.agg #[.int .i64 x, .int .i64 y, .int .i64 z])).run Tryz.prog w = .ok (a == x && (b == y && c == z)) w := by
  have u3 := Tryz.underlying3
  have hS : Tryz.prog.underlying 31 = some (.struct (Tryz.prog.fieldsOf 31)) := by kernel_rfl
  have hp : Tryz.prog.stoodInHeld 31 = false := by kernel_rfl
  rw [show (10000 : Nat) = 9999 + 1 from rfl, run_equalIn_agg w 9999 31 _ _ hS hp]
  simp only [Program.fieldsOf, Tryz.underlying31]
  go_simp
  by_cases h1 : a = x <;> by_cases h2 : b = y <;> by_cases h3 : c = z <;> simp [h1, h2, h3]
theorem neFlt (a b c x y z : Int) (w : World) : (binOp .neq 31 (.agg #[.int .i64 a, .int .i64 b, .int .i64 c]) (.agg #[.int .i64 x, .int .i64 y, .int .i64 z])).run Tryz.prog w = .ok (.bool (!(a == x && (b == y && c == z)))) w := by
  rw [run_neq_struct, eqFlt]; rfl
def tx1 : TmZ := ⟨1, 1, ⟨#[]⟩⟩
def stX (n : ByteArray) : StZ := ⟨1, ⟨#[]⟩, [n], [[tx1]]⟩
def stR : StZ := ⟨9, ⟨#[]⟩, [], []⟩
def dnZ (l : List StZ) : FnZ := ⟨⟨#[102]⟩, 0, [], [], [], l ++ [stR]⟩
def sA : SoZ := ⟨[], [⟨⟨#[120]⟩, 0⟩, ⟨⟨#[120]⟩, 0⟩], [], [], []⟩
def sB : SoZ := ⟨[], [], [], [], [dnZ [stX ⟨#[120]⟩]]⟩
def sC : SoZ := ⟨[], [], [], [⟨⟨#[99]⟩, 0⟩], [dnZ [stX ⟨#[99]⟩]]⟩
def sD : SoZ := ⟨[], [], [], [], [dnZ []]⟩
set_option maxRecDepth 100000
theorem chkA : chkZ nstZ sA = (70, -1, 1) := by decide +kernel
theorem chkB : chkZ nstZ sB = (71, 0, 0) := by decide +kernel
theorem chkC : chkZ nstZ sC = (72, 0, 0) := by decide +kernel
theorem chkD : chkZ nstZ sD = (0, 0, 0) := by decide +kernel
theorem nmA1 : nameZ ⟨#[97, 95, 49]⟩ = true := by decide +kernel
theorem nmIf : nameZ ⟨#[105, 102]⟩ = false := by decide +kernel
/-- A row that lies. -/
theorem slx_mk {α : Type} {bs : Nat} {C : Cl} {R : List Value → α → Prop} {l : List α} {g c : Nat} {cs : List Value} (hr : ∀ j u, cs[j]? = some u → C ⟨g, 0 + j, none⟩ = some u) (he : Enc R cs l) (hb : l.length * bs ≤ 140737488351232) (hc : c ≤ maxLen) (hl : l.length ≤ c) :
    SlX [] bs C R (.slice (some ⟨g, 0, none⟩) l.length c) l :=
  ⟨_, _, cs, rfl, .inl rfl, .inr ⟨g, 0, rfl, by rw [List.append_nil]; exact hr⟩, he, hb, hc, (fun h => nomatch h), hl⟩
theorem slx_nil {α : Type} {bs : Nat} {C : Cl} {R : List Value → α → Prop} : SlX [] bs C R (.slice none 0 0) ([] : List α) :=
  ⟨none, 0, [], rfl, .inl rfl, .inl rfl, Enc.nil, by simp, by decide, fun _ => rfl, by simp⟩
end Go.Proofs.YtlpdjfimefjmcaaGreat

/- A function whose body is these statements and a return. -/
namespace Go.Proofs.YtlpdjfimefjmcaaGreat
open Go Go.RowKit Go.Proofs.Mm

theorem undFn : ∃ d, Tryz.prog.underlying 43 = some d ∧ (match d with | .struct _ | .array _ _ => true | _ => false) = true := undOf (by kernel_rfl)
theorem sizeFn : (Tryz.prog.info? 43).map (·.size) = some 6 := by kernel_rfl
section
variable {P : Program}
/-- A row of one's own takes over a row that is read. -/
theorem wpList_append_rd2 {ops : Array Oper} {rest : List Oper} {o : Oper} {a : Act} {w : World} {Q : Exit → Act → World → Prop} (hgd : o.guard = none) (s x : Operand) (t : TypeId)
    (ho : o.op = .call { callee := .builtin .append, args := #[s, x], argTypes := #[t, t] })
    (base : Nat) (e : TypeId) (i : TypeInfo) (z : Value) (size bytes : Nat) (ht : P.underlying t = some (.slice e)) (hi : P.info? e = some i) (hz : i.zero = some z)
    (hsize : i.size = size) (hby : i.bytes = bytes) (hzs : z.cells.size = size) (hsz : 0 < size)
    (v : Value) (n : Nat) (xs : List Value) (hs : a.eval s = v) (hown : w.ownsRow base e size v n xs)
    (q : Option Addr) (m c : Nat) (news : List Value) (hx : a.eval x = .slice q m c) (hq : q = none → c = 0) (hmc : m ≤ c) (hl : news.length = m * size) (hnews : ∀ ad, q = some ad → ∀ j u, news[j]? = some u → w.cell? (ad.add j) = some u) (h1 : ∀ u ∈ news, u.oneCell' = true)
    (h63 : n + m ≤ maxLen) (hbytes : (n + m) * bytes ≤ 140737488355328) (hbase : base ≤ w.heap.size)
    (h : ∀ v' w', w'.ownsRow base e size v' (n + m) (xs ++ news) → w.grownBy w' v.ownBlock → wpList P ops Q rest (a.put o.dst v') w') :
    wpList P ops Q (o :: rest) a w := by
  rcases q with _ | ad
  · obtain rfl : c = 0 := hq rfl
    obtain rfl : m = 0 := by omega
    have hn : news = [] := List.eq_nil_of_length_eq_zero (by simpa using hl)
    subst hn
    exact wpList_append_own_none hgd s x t ho base e i size ht hi v n xs hs hown hx (h v w (by simpa using hown) ⟨rfl, rfl, rfl, Nat.le_refl _, fun _ _ _ => rfl⟩)
  · exact wpList_append_own w hgd s x t ho base e i z size bytes ht hi hz hsize hby hzs hsz v n xs hs hown ad m c news hx hl (hnews ad rfl) h1 h63 hbytes hbase fun v' w' h2 h3 _ => h v' w' h2 h3
end
/-- A row that is not nothing and holds nothing. -/
theorem own_empty (w : World) (T : TypeId) (size : Nat) : (w.alloc (.cells #[] T)).ownsRow w.heap.size T size (.slice (some ⟨w.heap.size, 0, none⟩) 0 0) 0 [] :=
  ⟨by simp, .inr ⟨w.heap.size, 0, #[], rfl, Nat.le_refl _, World.alloc_heap_new _ _, Nat.le_refl _, by decide, by simp, by simp⟩⟩
theorem own_cells {w : World} {B size n c : Nat} {E : TypeId} {q : Option Addr} {xs : List Value} (h : w.ownsRow B E size (.slice q n c) n xs) (hn : n ≠ 0) : ∃ g, q = some ⟨g, 0, none⟩ ∧ n ≤ c ∧ c ≤ maxLen ∧ ∀ j u, xs[j]? = some u → w.cell? ⟨g, 0 + j, none⟩ = some u := by
  have hlen := h.1
  have h0 := h
  rcases h.2 with ⟨h1, _⟩ | ⟨g, cap, cur, h1, h2, h3, h4, h5, h6, h7⟩
  · cases h1; exact absurd rfl hn
  · injection h1 with h1 _ h8
    subst h1 h8
    refine ⟨g, rfl, h4, h5, fun j u hu => ?_⟩
    have hj := (List.getElem?_eq_some_iff.1 hu).1
    rw [Nat.zero_add, World.ownsRow.cellAt h0 j (by omega)]
    exact hu
/-- What a row of statements that is read is, for one who takes it over. -/
theorem BdR.take {C : Cl} {q : Option Addr} {n c : Nat} {l : List StZ} (h : BdR false C (.slice q n c) l) : ∃ cs, l.length = n ∧ (q = none → c = 0) ∧ n ≤ c ∧ cs.length = n * 4 ∧ (∀ ad, q = some ad → ∀ j u, cs[j]? = some u → C (ad.add j) = some u) ∧ (∀ u ∈ cs, u.oneCell' = true) ∧ n ≤ maxLen ∧ n * 72 ≤ 140737488351232 ∧ Enc (StR1 false C) cs l := by
  obtain ⟨q', c', cs, e, _, hr, he, hb, hmax, hqn, hlc⟩ := h
  obtain ⟨rfl, rfl, rfl⟩ : q = q' ∧ n = l.length ∧ c = c' := by injection e with a b c; exact ⟨a, b, c⟩
  obtain ⟨hcl, _⟩ := encZ_at st_lenZ he
  refine ⟨cs, rfl, hqn, hlc, hcl, ?_, ?_, by omega, hb, he⟩
  · intro ad hq
    rcases hr with hr | ⟨g, o, hq2, hr⟩
    · have := (List.append_eq_nil_iff.1 hr).1
      subst this
      intro j u hu
      simp at hu
    · rw [hq] at hq2
      injection hq2 with hq2
      subst hq2
      exact enc_cells he (fun j u hu => hr j u (by rw [List.getElem?_append_left ((List.getElem?_eq_some_iff.1 hu).1)]; exact hu))
  · clear hcl hr
    have : ∀ {l : List StZ} {cs : List Value}, Enc (StR1 false C) cs l → ∀ u ∈ cs, u.oneCell' = true := by
      intro l
      induction l with
      | nil => intro cs h u hu; obtain rfl : cs = [] := h; cases hu
      | cons x l ih =>
        intro cs h u hu
        obtain ⟨c, r, rfl, ⟨vt, ve, rfl, ht, hee⟩, h2⟩ := h
        obtain ⟨_, _, rfl⟩ := slx_shape ht
        obtain ⟨_, _, rfl⟩ := slx_shape hee
        rcases List.mem_append.1 hu with hu | hu
        · simp only [List.mem_cons, List.not_mem_nil, or_false] at hu
          rcases hu with rfl | rfl | rfl | rfl <;> rfl
        · exact ih h2 u hu
    exact this he
theorem stR_enc (C : Cl) : Enc (StR1 false C) [.int .i64 9, .string ⟨#[]⟩, .slice none 0 0, .slice none 0 0] [stR] := Enc.one ⟨_, _, rfl, slx_nil, slx_nil⟩
set_option maxRecDepth 100000 in
set_option maxHeartbeats 8000000 in
theorem done_p {W : World} (nm : ByteArray) {u : Value} {qb : Option Addr} {nb cb : Nat} {l : List StZ} (hu : u = .slice qb nb cb) (h : BdR false (wC W) (.slice qb nb cb) l) (hnb : nb ≤ 1) :
    Calls Tryz.prog 14 #[.string nm, u] W fun e w' => ∃ g c, e = .returned (.agg #[.string nm, .int .u64 0, .slice none 0 0, .slice none 0 0, .slice none 0 0, .slice (some ⟨g, 0, none⟩) (nb + 1) c]) ∧ Below W.heap.size W w' ∧ BdR false (wC w') (.slice (some ⟨g, 0, none⟩) (nb + 1) c) (l ++ [stR]) := by
  obtain ⟨cs, hl, hq, hmc, hcl, hnw, hon, hmx, hby, he⟩ := h.take
  have HU := Lib.hid hu
  have HE := Lib.hid he
  have HL := Lib.hid hl
  have HNW := Lib.hid (fun w' (hb : Below W.heap.size W w') => show ∀ ad, qb = some ad → ∀ j u, cs[j]? = some u → w'.cell? (ad.add j) = some u from fun ad e j u hu => below_cle hb _ _ (hnw ad e j u hu))
  clear h hnw he hu hl
  obtain ⟨i1, hi1, hz1, hs1, hb1⟩ := infoSz
  go_enter Tryz.func14, Tryz.ntmps14
  have hnil := own_empty (W.alloc (.cells #[.string ⟨#[]⟩, .int .u64 0, .slice none 0 0, .slice none 0 0, .slice none 0 0, .slice none 0 0] 43)) 47 4
  rw [show (W.alloc (.cells #[.string ⟨#[]⟩, .int .u64 0, .slice none 0 0, .slice none 0 0, .slice none 0 0, .slice none 0 0] 43)).heap.size = W.heap.size + 1 by simp] at hnil
  go_wp2_with (at_builtin; refine wpList_append_rd2 rfl _ _ 41 rfl (W.heap.size + 1) 47 i1 _ 4 72 und_sts hi1 hz1 hs1 hb1 rfl (by decide) _ 0 [] rfl hnil qb nb cb cs HU.out hq hmc hcl (HNW.out _ (bl_al (bl_al (Below.refl _ _) _) _)) hon (by unfold maxLen; omega) (by omega) (by simp) ?_)
  intro v1 w1 hR1 hg1
  obtain ⟨q1, c1, rfl⟩ := own_shape hR1
  try simp only [Nat.zero_add, List.nil_append] at hR1
  have HBB := Lib.hid (show Below (W.heap.size + 1) ((W.alloc (.cells #[.string ⟨#[]⟩, .int .u64 0, .slice none 0 0, .slice none 0 0, .slice none 0 0, .slice none 0 0] 43)).alloc (.cells #[] 47)) w1 from grown_below (Below.refl _ _) (by simp) hg1 (fun j hj => by cases hj; exact Nat.le_refl (W.heap.size + 1)))
  have hB1 := Lib.hid (show Below W.heap.size W w1 from grown_below (bl_al (bl_al (Below.refl _ _) _) _) (by simp <;> omega) hg1 (fun j hj => by cases hj; exact Nat.le_succ W.heap.size))
  have hx : w1.heap[W.heap.size]? = some (.cells #[.string ⟨#[]⟩, .int .u64 0, .slice none 0 0, .slice none 0 0, .slice none 0 0, .slice none 0 0] 43 (0, 0)) := (HBB.out.block _ (by omega)).trans (heap_new _ _ (World.alloc_heap_new _ _))
  have hws : W.heap.size + 1 ≤ w1.heap.size := by have := HBB.out.size; simp at this; omega
  have hnew := row_new w1 [.int .i64 9, .string ⟨#[]⟩, .slice none 0 0, .slice none 0 0] 47
  have hone : ∀ u ∈ [Value.int .i64 9, .string ⟨#[]⟩, .slice none 0 0, .slice none 0 0], u.oneCell' = true := by intro u hu; simp only [List.mem_cons, List.not_mem_nil, or_false] at hu; rcases hu with rfl | rfl | rfl | rfl <;> rfl
  go_wp2_with (at_builtin; refine wpList_append_own _ rfl _ _ 41 rfl (W.heap.size + 1) 47 i1 _ 4 72 und_sts hi1 hz1 hs1 hb1 rfl (by decide) _ nb cs rfl (hR1.alloc _) ⟨w1.heap.size, 0, none⟩ 1 1 [.int .i64 9, .string ⟨#[]⟩, .slice none 0 0, .slice none 0 0] rfl rfl hnew hone (by unfold maxLen; omega) (by omega) (by simp; omega) ?_)
  intro v2 w2 hR2 hg2 _
  obtain ⟨q2, c2, rfl⟩ := own_shape hR2
  have HB2 := Lib.hid (show Below (W.heap.size + 1) w1 w2 from grown_below ((Below.refl _ _).alloc hws _) (by simp; omega) hg2 (fun j hj => (hR1.lt j hj).1))
  obtain ⟨g, rfl, hc1, hc2, hcl2⟩ := own_cells hR2 (Nat.succ_ne_zero _)
  have hx2 := (HB2.out.block W.heap.size (by omega)).trans hx
  have hg9 : W.heap.size + 1 ≤ g := (hR2.lt g rfl).1
  have HC2 := Lib.hid hcl2
  clear hcl2 hR2 hg2 hR1 hg1 hnew hone hnil hx
  have k0 := cell_of (j := 0) hx2 rfl
  have k1 := cell_of (j := 1) hx2 rfl
  have k2 := cell_of (j := 2) hx2 rfl
  have k3 := cell_of (j := 3) hx2 rfl
  have k4 := cell_of (j := 4) hx2 rfl
  have k5 := cell_of (j := 5) hx2 rfl
  have l0 := free_of (j := 0) hx2
  have l1 := free_of (j := 1) hx2
  have l2 := free_of (j := 2) hx2
  have l3 := free_of (j := 3) hx2
  have l4 := free_of (j := 4) hx2
  have l5 := free_of (j := 5) hx2
  go_wp2
  (try simp only [Exit.inBlock, Exit.then])
  obtain ⟨d9, u1, u2⟩ := undFn
  have hx3 := heap_set (heap_set (heap_set (heap_set (heap_set (heap_set hx2 0 (.string nm)) 1 (.int .u64 0)) 2 (.slice none 0 0)) 3 (.slice none 0 0)) 4 (.slice none 0 0)) 5 (.slice (some ⟨g, 0, none⟩) (nb + 1) c2)
  refine bodyPost_ret (results_cell_row rfl _ _ W.heap.size 43 _ (0,0) d9 rfl hx3 u1 (by cases d9 <;> first | rfl | cases u2) sizeFn) rfl ?_
  have hW : Below W.heap.size W w2 := hB1.out.trans (HB2.out.mono (by omega))
  have hq0 : W.heap.size ≤ W.heap.size := Nat.le_refl _
  have hBF := (((((hW.setCell (p := ⟨W.heap.size, 0, none⟩) hq0 (.string nm)).setCell (p := ⟨W.heap.size, 1, none⟩) hq0 (.int .u64 0)).setCell (p := ⟨W.heap.size, 2, none⟩) hq0 (.slice none 0 0)).setCell (p := ⟨W.heap.size, 3, none⟩) hq0 (.slice none 0 0)).setCell (p := ⟨W.heap.size, 4, none⟩) hq0 (.slice none 0 0)).setCell (p := ⟨W.heap.size, 5, none⟩) hq0 (.slice (some ⟨g, 0, none⟩) (nb + 1) c2)
  have hne : ∀ (W' : World) i v, (W'.setCell ⟨W.heap.size, i, none⟩ v).heap[g]? = W'.heap[g]? := fun W' i v => Below.heap_setCell _ _ _ _ (by show g ≠ W.heap.size; omega)
  have hgF := (hne _ 5 (.slice (some ⟨g, 0, none⟩) (nb + 1) c2)).trans ((hne _ 4 (.slice none 0 0)).trans ((hne _ 3 (.slice none 0 0)).trans ((hne _ 2 (.slice none 0 0)).trans ((hne _ 1 (.int .u64 0)).trans (hne w2 0 (.string nm))))))
  clear hne hx3 hx2 k0 k1 k2 k3 k4 k5 l0 l1 l2 l3 l4 l5
  generalize ((((((w2.setCell _ _).setCell _ _).setCell _ _).setCell _ _).setCell _ _).setCell _ _) = wF at *
  refine ⟨g, c2, rfl, hBF, ?_⟩
  have hll : (l ++ [stR]).length = nb + 1 := by rw [List.length_append, HL.out]; rfl
  rw [← hll]
  refine slx_mk (cs := cs ++ [Value.int .i64 9, .string ⟨#[]⟩, .slice none 0 0, .slice none 0 0]) ?_ ?_ (by rw [hll]; omega) hc2 (by rw [hll]; exact hc1)
  · intro j u hu
    exact (World.cell?_of_block (w := w2) (a := ⟨g, 0 + j, none⟩) hgF).trans (HC2.out j u hu)
  · exact (HE.out.mono (fun c x hh => hh.le (below_cle hBF))).app (stR_enc _)
end Go.Proofs.YtlpdjfimefjmcaaGreat

/- The laws' turned and its closure. -/
namespace Go.Proofs.YtlpdjfimefjmcaaGreat
open Go Go.RowKit Go.Proofs.Mm

def twN : ByteArray := ⟨#[122, 122, 113, 113, 95, 49]⟩
theorem nmTw : nameZ twN = true := by decide +kernel
theorem ret_str {a b : ByteArray} (h : a = b) : Ending.returned (.string a) = .returned (.string b) := by rw [h]
set_option maxRecDepth 100000 in
theorem turned_p (s fr tw : ByteArray) (W : World) : Calls Tryz.prog 13 #[.string s, .string fr, .string tw] W fun e w' => e = .returned (.string (ren fr tw s)) ∧ W = w' := by
  by_cases h : s = fr
  · have hab : (s.toList == fr.toList) = true := by rw [str_dec]; exact decide_eq_true h
    have hr : ren fr tw s = tw := by unfold ren; rw [if_pos h]
    have HR := Lib.hid hr
    clear h hr
    go_enter Tryz.func13, Tryz.ntmps13
    go_wp2
    go_ret
    exact ⟨ret_str HR.out.symm, rfl⟩
  · have hab : (s.toList == fr.toList) = false := by rw [str_dec]; exact decide_eq_false h
    have hr : ren fr tw s = s := by unfold ren; rw [if_neg h]
    have HR := Lib.hid hr
    clear h hr
    go_enter Tryz.func13, Tryz.ntmps13
    go_wp2
    go_ret
    exact ⟨ret_str HR.out.symm, rfl⟩
set_option maxRecDepth 100000 in
set_option maxHeartbeats 2000000 in
theorem turn_p (cur fr : ByteArray) (hit : Bool) (b6 b3 : Nat) (V : World) (h6 : V.cell? ⟨b6, 0, none⟩ = some (.bool hit)) (f6 : V.frozen? ⟨b6, 0, none⟩ = false) (h3 : V.cell? ⟨b3, 0, none⟩ = some (.string fr)) (hne : b3 ≠ b6) :
    Calls Tryz.prog 12 #[.string cur, .pointer (some ⟨b6, 0, none⟩), .pointer (some ⟨b3, 0, none⟩)] V fun e w' => e = .returned (.string (ren fr twN cur)) ∧ V.setCell ⟨b6, 0, none⟩ (.bool (hit || decide (cur = twN))) = w' := by
  have HT := Lib.hid (fun w => turned_p cur fr twN w)
  unfold twN at HT
  have hl6 := cell_lt h6
  have hl3 := cell_lt h3
  have hab : (cur.toList == [122, 122, 113, 113, 95, 49]) = decide (cur = twN) := by
    have e : twN.toList = [122, 122, 113, 113, 95, 49] := by rw [Lib.toList_data]; rfl
    rw [← str_dec, e]
  unfold twN at hab ⊢
  have H3 : ∀ u, (V.setCell ⟨b6, 0, none⟩ u).cell? ⟨b3, 0, none⟩ = some (.string fr) := fun u => by
    rw [World.cell?_of_block (Below.heap_setCell _ _ _ _ (by exact hne)), h3]
  have HH3 := Lib.hid H3
  clear H3
  generalize decide (cur = (⟨#[122, 122, 113, 113, 95, 49]⟩ : ByteArray)) = d at *
  generalize ren fr ⟨#[122, 122, 113, 113, 95, 49]⟩ cur = R at *
  cases hit <;> cases d
  all_goals
    go_enter Tryz.func12, Tryz.ntmps12
    go_wp2_with fail
    have h3' := HH3.out
    try go_at_call 13
    refine (HT.out _).mono ?_
    rintro e w' ⟨rfl, rfl⟩
    go_wp2
    go_ret
    exact ⟨rfl, rfl⟩
end Go.Proofs.YtlpdjfimefjmcaaGreat

/- What stays true while names are turned in memory, one after another. -/
namespace Go.Proofs.YtlpdjfimefjmcaaGreat
open Go Go.RowKit Go.Proofs.Mm

/-- While names are turned: b6 holds whether the other name was met. -/
structure TI (fr : ByteArray) (b6 : Nat) (m : Mem) (D : Addr → Prop) (hit : Bool) (V : World) : Prop where
  tw : Tw fr twN (mC m) D hit V
  hit6 : V.heap[b6]? = some (.cells #[.bool hit] 4 (0, 0))
  free : ∀ a v, mC m a = some v → V.frozen? a = false
  lt : ∀ a v, mC m a = some v → a.block < V.heap.size
  m6 : m b6 = none
def Wr (m : Mem) (b6 : Nat) : Nat → Prop := fun k => m k ≠ none ∨ k = b6
theorem mC_ne {m : Mem} {a : Addr} {v : Value} (h : mC m a = some v) : m a.block ≠ none := fun e => by
  unfold mC at h
  rw [e] at h
  cases h
theorem mC_spot {m : Mem} {a : Addr} {v : Value} (h : mC m a = some v) : a.spot = none := by
  unfold mC at h
  cases hm : m a.block with
  | none => rw [hm] at h; cases h
  | some ob =>
    rw [hm] at h
    cases ob with
    | cells cur T r =>
      simp only at h
      split at h
      · rename_i hs; exact hs.1
      · cases h
    | _ => cases h
theorem chg6 {b6 : Nat} {a w : World} {u : Value} (h : Chg (fun k => k = b6) a w) : Chg (fun k => k = b6) a (w.setCell ⟨b6, 0, none⟩ u) := h.setCell (p := ⟨b6, 0, none⟩) (.inl rfl) u
/-- The text that stands at a place. -/
def nmAt (w : World) (a : Addr) : ByteArray := match w.cell? a with
  | some (.string s) => s
  | _ => ⟨#[]⟩
theorem nmAt_of {w : World} {a : Addr} {s : ByteArray} (h : w.cell? a = some (.string s)) : nmAt w a = s := by unfold nmAt; rw [h]
/-- All reads as it did, but for block b6 and the text at a. -/
structure Kq (b6 : Nat) (a : Addr) (V w : World) : Prop where
  rest : ∀ p v, V.cell? p = some v → ¬ p.block = b6 → p ≠ a → w.cell? p = some v
  str : w.cell? a = some (.string (nmAt w a))
  free : w.frozen? a = false
section
variable {b6 : Nat} {a : Addr} {V w : World}
theorem Kq.start {s : ByteArray} (h : V.cell? a = some (.string s)) (hf : V.frozen? a = false) : Kq b6 a V V := ⟨fun _ _ h _ _ => h, by rw [nmAt_of h]; exact h, hf⟩
theorem Kq.drew (h : Kq b6 a V w) : Kq b6 a V w.drew := ⟨fun p v a b c => h.rest p v a b c, h.str, h.free⟩
theorem Kq.drewN (h : Kq b6 a V w) (n : Nat) : Kq b6 a V (w.drewN n) := ⟨fun p v a b c => h.rest p v a b c, h.str, h.free⟩
theorem Kq.six (h : Kq b6 a V w) (hne : ¬ a.block = b6) (u : Value) : Kq b6 a V (w.setCell ⟨b6, 0, none⟩ u) := by
  have hs : ∀ p : Addr, ¬ p.block = b6 → (w.setCell ⟨b6, 0, none⟩ u).cell? p = w.cell? p := fun p hp => World.cell?_of_block (Below.heap_setCell _ _ _ _ hp)
  refine ⟨fun p v hv h6 ha => by rw [hs p h6]; exact h.rest p v hv h6 ha, ?_, ?_⟩
  · have e := hs a hne
    unfold nmAt
    rw [e]
    have := h.str
    unfold nmAt at this
    exact this
  · rw [World.frozen?_setCell]; exact h.free
theorem Kq.self (h : Kq b6 a V w) (s : ByteArray) : Kq b6 a V (w.setCell a (.string s)) := by
  have hs : (w.setCell a (.string s)).cell? a = some (.string s) := by
    apply World.cell?_setCell_same
    exact h.str
  refine ⟨fun p v hv h6 ha => ?_, by rw [nmAt_of hs]; exact hs, by rw [World.frozen?_setCell]; exact h.free⟩
  have e : (w.setCell a (.string s)).cell? p = w.cell? p := by
    apply World.cell?_setCell_other
    exact Ne.symm ha
  rw [e]
  exact h.rest p v hv h6 ha
theorem Kq.rd (h : Kq b6 a V w) {p : Addr} {v : Value} {s : ByteArray} (hp : V.cell? p = some v) (h6 : ¬ p.block = b6) (ha : V.cell? a = some (.string s)) (hv : ∀ s, v ≠ .string s) : w.cell? p = some v :=
  h.rest p v hp h6 (fun e => by subst e; rw [hp] at ha; injection ha with ha; exact hv s ha)
end
section
variable {fr : ByteArray} {b6 : Nat} {m : Mem} {D : Addr → Prop} {hit : Bool} {V V' : World}
theorem TI.chg (h : TI fr b6 m D hit V) (hc : Chg (fun _ => False) V V') : TI fr b6 m D hit V' :=
  ⟨h.tw.same fun b v hL => World.cell?_of_block (hc.block _ (h.lt _ _ hL) (fun e => e)), hc.heap h.hit6 (fun e => e),
    fun a v hL => by
      have := h.free a v hL
      unfold World.frozen? at this ⊢
      rw [hc.block _ (h.lt _ _ hL) (fun e => e)]
      exact this,
    fun a v hL => Nat.lt_of_lt_of_le (h.lt a v hL) hc.size, h.m6⟩
theorem TI.alloc (h : TI fr b6 m D hit V) (o : Obj) : TI fr b6 m D hit (V.alloc o) := h.chg ((Chg.refl _ V).alloc o)
theorem TI.drew (h : TI fr b6 m D hit V) : TI fr b6 m D hit V.drew := h.chg ((Chg.refl _ V).drew)
theorem TI.drewN (h : TI fr b6 m D hit V) (n : Nat) : TI fr b6 m D hit (V.drewN n) := h.chg ((Chg.refl _ V).drewN n)
theorem TI.sub {D' : Addr → Prop} (h : TI fr b6 m D hit V) (hD : ∀ a, D' a → D a) : TI fr b6 m D' hit V := ⟨h.tw.sub hD, h.hit6, h.free, h.lt, h.m6⟩
theorem frozen_block {w w' : World} {b : Nat} (h : w'.heap[b]? = w.heap[b]?) (o : Nat) (s : Option Nat) : w'.frozen? ⟨b, o, s⟩ = w.frozen? ⟨b, o, s⟩ := by
  unfold World.frozen?
  rw [h]
/-- The other name was met, or was not. -/
theorem TI.mark (h : TI fr b6 m D hit V) (d : Bool) : TI fr b6 m D (hit || d) (V.setCell ⟨b6, 0, none⟩ (.bool (hit || d))) := by
  have hne : ∀ a v, mC m a = some v → a.block ≠ b6 := fun a v hL e => mC_ne hL (by rw [e]; exact h.m6)
  have hs : ∀ a v, mC m a = some v → (V.setCell ⟨b6, 0, none⟩ (.bool (hit || d))).heap[a.block]? = V.heap[a.block]? := fun a v hL => Below.heap_setCell _ _ _ _ (hne a v hL)
  refine ⟨⟨fun a v hL => ?_, fun a n hD hL => ?_⟩, ?_, fun a v hL => ?_, fun a v hL => ?_, h.m6⟩
  · rw [World.cell?_of_block (hs a v hL)]; exact h.tw.all a v hL
  · rw [World.cell?_of_block (hs a _ hL)]
    obtain ⟨h1, h2⟩ := h.tw.done a n hD hL
    exact ⟨h1, fun hf => h2 (by cases hit <;> simp_all)⟩
  · exact heap_set h.hit6 0 _
  · have := h.free a v hL
    unfold World.frozen? at this ⊢
    rw [hs a v hL]
    exact this
  · show a.block < _
    simp [World.setCell]
    exact h.lt a v hL
/-- One more name is turned. -/
theorem TI.turn (h : TI fr b6 m D hit V) {a : Addr} {n c : ByteArray} (hL : mC m a = some (.string n)) (hc : V.cell? a = some (.string c)) (hcc : ren fr twN c = ren fr twN n) (hct : c ≠ twN → n ≠ twN) :
    TI fr b6 m (fun b => D b ∨ b = a) (hit || decide (c = twN)) ((V.setCell ⟨b6, 0, none⟩ (.bool (hit || decide (c = twN)))).setCell a (.string (ren fr twN c))) := by
  have h1 := h.mark (decide (c = twN))
  have ha6 : a.block ≠ b6 := fun e => mC_ne hL (by rw [e]; exact h.m6)
  have hlt1 := h1.lt _ _ hL
  generalize hV1 : V.setCell ⟨b6, 0, none⟩ (.bool (hit || decide (c = twN))) = V1 at *
  have hc1 : V1.cell? a = some (.string c) := by rw [← hV1, World.cell?_of_block (Below.heap_setCell _ _ _ _ ha6)]; exact hc
  obtain ⟨ab, ao, sp⟩ := a
  obtain rfl : sp = none := mC_spot hL
  have hself : (V1.setCell ⟨ab, ao, none⟩ (.string (ren fr twN c))).cell? ⟨ab, ao, none⟩ = some (.string (ren fr twN c)) := by
    apply World.cell?_setCell_same
    exact hc1
  have hoth : ∀ (p : Addr) v, p ≠ ⟨ab, ao, none⟩ → mC m p = some v → (V1.setCell ⟨ab, ao, none⟩ (.string (ren fr twN c))).cell? p = V1.cell? p := fun p v hp hv => by
    obtain ⟨pb, po, ps⟩ := p
    obtain rfl : ps = none := mC_spot hv
    apply World.cell?_setCell_other
    exact fun e => hp e.symm
  refine ⟨?_, ?_, fun b v hv => ?_, fun b v hv => ?_, h.m6⟩
  · exact h1.tw.step hL hc1 hcc hct (fun hf => ⟨hf, by
      have : decide (c = twN) = false := by cases hit <;> simp_all
      exact of_decide_eq_false this⟩) hself hoth
  · rw [Below.heap_setCell _ _ _ _ (Ne.symm ha6)]; exact h1.hit6
  · have := h1.free b v hv
    exact (World.frozen?_setCell ..).trans this
  · have := h1.lt b v hv
    simp [World.setCell]
    exact this
end
/-! ## Rows in part -/
def FnI (D : Addr → Prop) (L : Cl) (g o : Nat) (f : FnZ) : Prop := D ⟨g, o, none⟩ ∧ (∀ qt ct, L ⟨g, o + 2, none⟩ = some (.slice qt f.params.length ct) → Pos D qt f.params.length 2 0) ∧ (∀ qt ct, L ⟨g, o + 4, none⟩ = some (.slice qt f.vars.length ct) → Pos D qt f.vars.length 2 0) ∧ ∀ qb cb, L ⟨g, o + 5, none⟩ = some (.slice qb f.body.length cb) → PosB D L true qb f.body
def StI (D : Addr → Prop) (L : Cl) (g o : Nat) (x : StZ) : Prop := D ⟨g, o + 1, none⟩ ∧ (∀ qt ct, L ⟨g, o + 2, none⟩ = some (.slice qt x.targets.length ct) → Pos D qt x.targets.length 1 0) ∧ ∀ qe ce, L ⟨g, o + 3, none⟩ = some (.slice qe x.exprs.length ce) → PosX D L true qe x.exprs
def FnK (D : Addr → Prop) (L : Cl) (q : Option Addr) (l : List FnZ) (k : Nat) : Prop := ∀ j (hj : j < l.length), j < k → ∀ g o, q = some ⟨g, o, none⟩ → FnI D L g (o + j * 6) l[j]
def StK (D : Addr → Prop) (L : Cl) (q : Option Addr) (l : List StZ) (k : Nat) : Prop := ∀ j (hj : j < l.length), j < k → ∀ g o, q = some ⟨g, o, none⟩ → StI D L g (o + j * 4) l[j]
def ExK (D : Addr → Prop) (L : Cl) (q : Option Addr) (l : List (List TmZ)) (k : Nat) : Prop := ∀ j (hj : j < l.length), j < k → ∀ g o, q = some ⟨g, o, none⟩ → ∀ qt ct, L ⟨g, o + j, none⟩ = some (.slice qt l[j].length ct) → Pos D qt l[j].length 3 2
section
variable {D D' : Addr → Prop} {L : Cl} {q : Option Addr}
theorem Pos.mono {n st a : Nat} (h : Pos D q n st a) (hD : ∀ a, D a → D' a) : Pos D' q n st a := fun j hj g o e => hD _ (h j hj g o e)
theorem PosX.mono {lt : Bool} {l : List (List TmZ)} (h : PosX D L lt q l) (hD : ∀ a, D a → D' a) : PosX D' L lt q l := fun j hj g o e qt ct hL => (h j hj g o e qt ct hL).mono hD
theorem PosB.mono {lt : Bool} {l : List StZ} (h : PosB D L lt q l) (hD : ∀ a, D a → D' a) : PosB D' L lt q l :=
  ⟨h.1.mono hD, fun j hj g o e => ⟨fun qt ct hL => ((h.2 j hj g o e).1 qt ct hL).mono hD, fun qe ce hL => ((h.2 j hj g o e).2 qe ce hL).mono hD⟩⟩
theorem FnI.mono {g o : Nat} {f : FnZ} (h : FnI D L g o f) (hD : ∀ a, D a → D' a) : FnI D' L g o f :=
  ⟨hD _ h.1, fun qt ct e => (h.2.1 qt ct e).mono hD, fun qt ct e => (h.2.2.1 qt ct e).mono hD, fun qb cb e => (h.2.2.2 qb cb e).mono hD⟩
theorem StI.mono {g o : Nat} {x : StZ} (h : StI D L g o x) (hD : ∀ a, D a → D' a) : StI D' L g o x :=
  ⟨hD _ h.1, fun qt ct e => (h.2.1 qt ct e).mono hD, fun qe ce e => (h.2.2 qe ce e).mono hD⟩
theorem FnK.mono {l : List FnZ} {k : Nat} (h : FnK D L q l k) (hD : ∀ a, D a → D' a) : FnK D' L q l k := fun j hj hk g o e => (h j hj hk g o e).mono hD
theorem StK.mono {l : List StZ} {k : Nat} (h : StK D L q l k) (hD : ∀ a, D a → D' a) : StK D' L q l k := fun j hj hk g o e => (h j hj hk g o e).mono hD
theorem ExK.mono {l : List (List TmZ)} {k : Nat} (h : ExK D L q l k) (hD : ∀ a, D a → D' a) : ExK D' L q l k := fun j hj hk g o e qt ct hL => (h j hj hk g o e qt ct hL).mono hD
theorem Pos.zero {st a : Nat} : Pos D q 0 st a := fun j hj => absurd hj (by omega)
theorem FnK.zero {l : List FnZ} : FnK D L q l 0 := fun j _ hk => absurd hk (by omega)
theorem StK.zero {l : List StZ} : StK D L q l 0 := fun j _ hk => absurd hk (by omega)
theorem ExK.zero {l : List (List TmZ)} : ExK D L q l 0 := fun j _ hk => absurd hk (by omega)
theorem Pos.snoc {n st a g o : Nat} (h : Pos D (some ⟨g, o, none⟩) n st a) : Pos (fun b => D b ∨ b = ⟨g, o + n * st + a, none⟩) (some ⟨g, o, none⟩) (n + 1) st a := fun j hj g' o' e => by
  injection e with e
  injection e with e1 e2
  subst e1 e2
  by_cases hn : j = n
  · subst hn; exact .inr rfl
  · exact .inl (h j (by omega) _ _ rfl)
theorem Pos.snoc1 {n g o : Nat} (h : Pos D (some ⟨g, o, none⟩) n 1 0) : Pos (fun b => D b ∨ b = ⟨g, o + n, none⟩) (some ⟨g, o, none⟩) (n + 1) 1 0 := fun j hj g' o' e => by
  injection e with e
  injection e with e1 e2
  subst e1 e2
  by_cases hn : j = n
  · subst hn
    right
    rw [Nat.mul_one, Nat.add_zero]
  · exact .inl (h j (by omega) _ _ rfl)
theorem FnK.snoc {l : List FnZ} {k g o : Nat} (h : FnK D L (some ⟨g, o, none⟩) l k) (hx : ∀ hk : k < l.length, FnI D L g (o + k * 6) l[k]) : FnK D L (some ⟨g, o, none⟩) l (k + 1) := fun j hj hk g' o' e => by
  injection e with e
  injection e with e1 e2
  subst e1 e2
  by_cases hn : j = k
  · subst hn; exact hx hj
  · exact h j hj (by omega) _ _ rfl
theorem StK.snoc {l : List StZ} {k g o : Nat} (h : StK D L (some ⟨g, o, none⟩) l k) (hx : ∀ hk : k < l.length, StI D L g (o + k * 4) l[k]) : StK D L (some ⟨g, o, none⟩) l (k + 1) := fun j hj hk g' o' e => by
  injection e with e
  injection e with e1 e2
  subst e1 e2
  by_cases hn : j = k
  · subst hn; exact hx hj
  · exact h j hj (by omega) _ _ rfl
theorem ExK.snoc {l : List (List TmZ)} {k g o : Nat} (h : ExK D L (some ⟨g, o, none⟩) l k) (hx : ∀ hk : k < l.length, ∀ qt ct, L ⟨g, o + k, none⟩ = some (.slice qt l[k].length ct) → Pos D qt l[k].length 3 2) : ExK D L (some ⟨g, o, none⟩) l (k + 1) := fun j hj hk g' o' e => by
  injection e with e
  injection e with e1 e2
  subst e1 e2
  by_cases hn : j = k
  · subst hn; exact hx hj
  · exact h j hj (by omega) _ _ rfl
theorem ExK.all {l : List (List TmZ)} (h : ExK D L q l l.length) : PosX D L true q l := fun j hj g o e qt ct hL => h j hj hj g o e qt ct hL
theorem StK.all {l : List StZ} (h : StK D L q l l.length) : PosB D L true q l :=
  ⟨fun j hj g o e => (h j hj hj g o e).1, fun j hj g o e => (h j hj hj g o e).2⟩
theorem FnK.all {l : List FnZ} (h : FnK D L q l l.length) : PosF D L true q l :=
  ⟨fun j hj g o e => (h j hj hj g o e).1, fun j hj g o e => (h j hj hj g o e).2⟩
end
/-- The four memories that are written, in one; the principals' own apart. -/
theorem sep_join {w w' : World} {mP mG mH mA mF : Mem} (h : Sep w w' mP mG mH mA mF) : ∃ m, Has w' m ∧ mG.le m ∧ mH.le m ∧ mA.le m ∧ mF.le m ∧ (∀ k, k < w.heap.size → m k = none) ∧ ∀ k o, mP k = some o → m k = none := by
  obtain ⟨f, hf⟩ := h.own
  have ap : ∀ {a b : Mem} {i j : Nat}, i ≠ j → (∀ k o, a k = some o → f k = i) → (∀ k o, b k = some o → f k = j) → ∀ k, a k = none ∨ b k = none := fun hij ha hb k => by
    rename_i a b i j
    cases e1 : a k with
    | none => exact .inl rfl
    | some o1 =>
      cases e2 : b k with
      | none => exact .inr rfl
      | some o2 => exact absurd ((ha k _ e1).symm.trans (hb k _ e2)) hij
  have fG := fun k o e => ((hf k o).2.1 e).1
  have fH := fun k o e => ((hf k o).2.2.1 e).1
  have fA := fun k o e => ((hf k o).2.2.2.1 e).1
  have fF := fun k o e => ((hf k o).2.2.2.2 e).1
  have aGH := ap (a := mG) (b := mH) (by decide) fG fH
  have j1 : ∀ k, (Mem.join mG mH) k = none ∨ mA k = none := fun k => by
    rcases ap (a := mG) (b := mA) (by decide) fG fA k with e1 | e1
    · rcases ap (a := mH) (b := mA) (by decide) fH fA k with e2 | e2
      · left; unfold Mem.join; rw [e1]; exact e2
      · exact .inr e2
    · exact .inr e1
  have j2 : ∀ k, (Mem.join (Mem.join mG mH) mA) k = none ∨ mF k = none := fun k => by
    rcases ap (a := mG) (b := mF) (by decide) fG fF k with e1 | e1
    · rcases ap (a := mH) (b := mF) (by decide) fH fF k with e2 | e2
      · rcases ap (a := mA) (b := mF) (by decide) fA fF k with e3 | e3
        · left; unfold Mem.join; rw [e1]; simp only; rw [e2]; exact e3
        · exact .inr e3
      · exact .inr e2
    · exact .inr e1
  have l1 := join_left mG mH
  have l2 := join_left (Mem.join mG mH) mA
  have l3 := join_left (Mem.join (Mem.join mG mH) mA) mF
  have key : ∀ k o, (Mem.join (Mem.join (Mem.join mG mH) mA) mF) k = some o → mG k = some o ∨ mH k = some o ∨ mA k = some o ∨ mF k = some o := fun k o e => by
    unfold Mem.join at e
    cases e1 : mG k with
    | some x => rw [e1] at e; exact .inl e
    | none =>
      rw [e1] at e
      simp only at e
      cases e2 : mH k with
      | some x => rw [e2] at e; exact .inr (.inl e)
      | none =>
        rw [e2] at e
        simp only at e
        cases e3 : mA k with
        | some x => rw [e3] at e; exact .inr (.inr (.inl e))
        | none => rw [e3] at e; exact .inr (.inr (.inr e))
  refine ⟨_, join_has (join_has (join_has h.hG h.hH) h.hA) h.hF, l1.trans (l2.trans l3), (join_right aGH).trans (l2.trans l3), (join_right j1).trans l3, join_right j2, fun k hk => ?_, fun k o e => ?_⟩
  · cases e : (Mem.join (Mem.join (Mem.join mG mH) mA) mF) k with
    | none => rfl
    | some o =>
      exfalso
      rcases key k o e with e1 | e1 | e1 | e1
      · have := ((hf k o).2.1 e1).2; omega
      · have := ((hf k o).2.2.1 e1).2; omega
      · have := ((hf k o).2.2.2.1 e1).2; omega
      · have := ((hf k o).2.2.2.2 e1).2; omega
  · cases e' : (Mem.join (Mem.join (Mem.join mG mH) mA) mF) k with
    | none => rfl
    | some o' =>
      exfalso
      have f1 := ((hf k o).1 e).1
      rcases key k o' e' with e1 | e1 | e1 | e1
      · have := fG k _ e1; omega
      · have := fH k _ e1; omega
      · have := fA k _ e1; omega
      · have := fF k _ e1; omega
end Go.Proofs.YtlpdjfimefjmcaaGreat
