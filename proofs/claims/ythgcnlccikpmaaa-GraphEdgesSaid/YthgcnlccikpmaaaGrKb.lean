/- Going over a graph: the visitor. -/
import Derived.Test.YthgcnlccikpmaaaGrKa
import Derived.Deep.RegionLaw
namespace Go.Proofs.Ythgcnlccikpmaaa
open Go Go.RowKit Go.Proofs.Mm
/-- What the function that tells where edges lead must keep to. -/
def NxOk (m0 : Mem) (N : Nat) (nx : Nat → List Nat) (w0 : World) (K : Nat) (ca : Array Value) : Prop :=
  ∀ W m x, Below w0.heap.size w0 W → Has W m → m0.le m → x < N → Calls Try.prog K (#[.int .i64 (x : Nat)] ++ ca) W fun e W' => ∃ v m', e = .returned v ∧ Below W.heap.size W W' ∧ m.More W m' ∧ Has W' m' ∧ ReI (mC m') v (nx x)
theorem und_Nl : Try.prog.underlying 30 = some (.slice 31) := by kernel_rfl
theorem wpList_mstL {ops : Array Oper} {rest : List Oper} {o : Oper} {a : Act} {Q : Exit → Act → World → Prop} {w : World} (hgd : o.guard = none) (s x : Operand)
    (ho : o.op = .call { callee := .builtin .append, args := #[s, x], argTypes := #[30, 30] })
    (B : Nat) (v : Value) (n : Nat) (xs : List Value) (hs : a.eval s = v) (hown : w.ownsRow B 31 1 v n xs)
    (ad : Addr) (c : Nat) (u : Value) (hx : a.eval x = .slice (some ad) 1 c) (hnews : ∀ j y, [u][j]? = some y → w.cell? (ad.add j) = some y) (h1 : u.oneCell' = true)
    (hb : (n + 1) * 24 ≤ 140737488355328) (hbase : B ≤ w.heap.size)
    (h : ∀ v' w', w'.ownsRow B 31 1 v' (n + 1) (xs ++ [u]) → Mst w w' v v' → wpList Try.prog ops Q rest (a.put o.dst v') w') : wpList Try.prog ops Q (o :: rest) a w := by
  obtain ⟨i, h2, h3, h4, h5⟩ := infoNs
  obtain ⟨v', w', hr, r1, r2⟩ := run_append_most (P := Try.prog) w B 30 o.type 31 i (.slice none 0 0) 1 24 und_Nl h2 h3 h4 h5 rfl (by omega) v n xs hown ad 1 c [u] rfl hnews (by intro y hy; rw [List.mem_singleton.1 hy]; exact h1) (by unfold maxLen; omega) (by omega) hbase
  refine wpList_plain hgd fun K hK => ?_
  unfold Oper.wp execOp
  simp only [ho, resolve, invoke, builtin, Sem.run_bind, Sem.run_pure, Result.andThen_ok, List.map_toArray, List.map_cons, List.map_nil, hs, hx, hr]
  exact hK _ _ (h v' w' r1 r2)
theorem step_mstL {o : Oper} {a : Act} {K : Act → World → Prop} {Q : Exit → Act → World → Prop} {w : World} (s x : Operand)
    (ho : o.op = .call { callee := .builtin .append, args := #[s, x], argTypes := #[30, 30] })
    (B : Nat) (v : Value) (n : Nat) (xs : List Value) (hs : a.eval s = v) (hown : w.ownsRow B 31 1 v n xs)
    (ad : Addr) (c : Nat) (u : Value) (hx : a.eval x = .slice (some ad) 1 c) (hnews : ∀ j y, [u][j]? = some y → w.cell? (ad.add j) = some y) (h1 : u.oneCell' = true)
    (hb : (n + 1) * 24 ≤ 140737488355328) (hbase : B ≤ w.heap.size)
    (h : ∀ v' w', w'.ownsRow B 31 1 v' (n + 1) (xs ++ [u]) → Mst w w' v v' → K (a.put o.dst v') w') : Oper.wp Try.prog o a w K Q := by
  obtain ⟨i, h2, h3, h4, h5⟩ := infoNs
  obtain ⟨v', w', hr, r1, r2⟩ := run_append_most (P := Try.prog) w B 30 o.type 31 i (.slice none 0 0) 1 24 und_Nl h2 h3 h4 h5 rfl (by omega) v n xs hown ad 1 c [u] rfl hnews (by intro y hy; rw [List.mem_singleton.1 hy]; exact h1) (by unfold maxLen; omega) (by omega) hbase
  unfold Oper.wp execOp
  simp only [ho, resolve, invoke, builtin, Sem.run_bind, Sem.run_pure, Result.andThen_ok, List.map_toArray, List.map_cons, List.map_nil, hs, hx, hr]
  exact h v' w' r1 r2
theorem news_val {W : World} {b : Nat} {u : Value} {T : TypeId} (hb : W.heap.size = b) : ∀ j y, [u][j]? = some y → (W.alloc (.cells #[u] T)).cell? ((⟨b, 0, none⟩ : Addr).add j) = some y := by
  subst hb
  exact row_new W [u] T
section
variable {m0 m : Mem} {N : Nat} {w0 wr : World} {L : List Bool} {td : List (List Nat)} {tv : Value} {vs : List Value} {nx : Nat → List Nat} {K : Nat} {ca : Array Value}
theorem VS.seen {fv : Value} (h : VS m0 fv N w0 m L td tv vs wr) {x : Nat} (hx : x < L.length) : wr.cell? ⟨w0.heap.size + 1, x, none⟩ = some (.bool (L.getD x false)) :=
  h.sb.cell (by simp [cB, hx])
/-- What the visitor leaves. -/
def Vd (m0 : Mem) (fv : Value) (N : Nat) (w0 : World) (L : List Bool) (td : List (List Nat)) (vs : List Value) (x : Nat) (r : List Nat) (wr : World) (m : Mem) (e : Ending) (w' : World) : Prop :=
  (L.getD x false = true ∧ e = .returned (.bool false) ∧ w' = wr) ∨
  (L.getD x false = false ∧ e = .returned (.bool true) ∧ ∃ m' tv' v', m.le m' ∧ VS m0 fv N w0 m' (L.set x true) (td ++ [r]) tv' (vs ++ [v']) w')
set_option maxRecDepth 100000 in
set_option maxHeartbeats 1000000 in
theorem visit_any (hV : VS m0 (.func (.func K) #[] ca) N w0 m L td tv vs wr) {x : Nat} (hx : x < N) (hL : L.length = N) (_hN : N ≤ 100000) (eg : ∀ args w, (callFunc K args).run Try.prog w = .ok (.enter K args) w) (hnx : NxOk m0 N nx w0 K ca) (hfew : td.length ≤ 100000) :
    Calls Try.prog 41 #[.int .i64 (x : Nat), .pointer (some ⟨w0.heap.size + 2, 0, none⟩), .pointer (some ⟨w0.heap.size + 3, 0, none⟩), .pointer (some ⟨w0.heap.size, 0, none⟩)] wr (Vd m0 (.func (.func K) #[] ca) N w0 L td vs x (nx x) wr m) := by
  have hs := hV.seen (x := x) (by omega)
  have hxi : (x : Int) < (N : Int) := by omega
  have c2 := hV.sx.cell (j := 0) rfl
  cases hc : L.getD x false with
  | true =>
    rw [hc] at hs
    go_enter Try.func41, Try.ntmps41
    go_wp2
    go_ret
    exact .inl ⟨hc, rfl, rfl⟩
  | false =>
    rw [hc] at hs
    have c3 := hV.tx.cell (j := 0) rfl
    have f1 := hV.sb.free x
    have HV1 := Lib.hid (hV.see x)
    obtain ⟨q, c, rfl⟩ := own_shape hV.row
    have HC := Lib.hid hc
    clear hV hc
    go_enter Try.func41, Try.ntmps41
    go_upto_region 4 with (fail)
    obtain ⟨Y, hY⟩ : ∃ Y, wr.setCell ⟨w0.heap.size + 1, x, none⟩ (.bool true) = Y := ⟨_, rfl⟩
    rw [hY] at HV1 ⊢
    clear c2 hs f1 hY c3
    have t0 := HV1.out.tx.cell (j := 0) rfl
    have n0 := HV1.out.nb.cell (j := 0) rfl
    go_region_law
      (first
        | (refine step_mstL (.tmp 13) (.tmp 17) rfl w0.heap.size (.slice q td.length c) td.length vs (by rfl) (HV3.out.more (.cells #[.slice qv nr cv] 31)).row ⟨_, 0, none⟩ 1 (.slice qv nr cv) (by rfl) (news_val rfl) rfl (by omega) (HV3.out.more (.cells #[.slice qv nr cv] 31)).below.size ?_
           intro v' w' hO hM
           obtain ⟨q', c', rfl⟩ := own_shape hO
           have HV5 := Lib.hid ((HV3.out.more (.cells #[.slice qv nr cv] 31)).push HRE.out hO hM)
           have t5 := (hM.inB (HV3.out.more (.cells #[.slice qv nr cv] 31)).tx ((HV3.out.more (.cells #[.slice qv nr cv] 31)).ne (i := 3) (by omega))).cell (j := 0) rfl
           have f5 := (hM.inB (HV3.out.more (.cells #[.slice qv nr cv] 31)).tx ((HV3.out.more (.cells #[.slice qv nr cv] 31)).ne (i := 3) (by omega))).free 0
           clear hO hM)
        | (go_simp
           refine (hnx _ m x HV1.out.drew.below HV1.out.drew.has HV1.out.drew.le hx).mono ?_
           rintro e w2 ⟨v, m2, rfl, hb, hmo, hH, hR⟩
           obtain ⟨qv, cv, rfl⟩ := hR.shape
           have HV3 := Lib.hid (HV1.out.drew.later hb hH hmo)
           have HLE := Lib.hid hmo.le
           have HRE := Lib.hid hR
           have t3 := HV3.out.tx.cell (j := 0) rfl
           have l3 := HV3.out.tx.lt
           obtain ⟨nr, hnr⟩ : ∃ nr, (nx x).length = nr := ⟨_, rfl⟩
           rw [hnr] at HRE ⊢
           clear hb hmo hH hR hnr))
    all_goals
      go_wp2
      go_ret
      exact .inr ⟨HC.out, rfl, _, _, _, HLE.out, HV5.out⟩
end
end Go.Proofs.Ythgcnlccikpmaaa
