/- The document's statements: while and if. -/
import Derived.Test.YtnmcjkabihihiaaGreatDoorReadsPR2
import Derived.Test.YtnmcjkabihihiaaGreatDoorQ8
import Derived.Test.YtnmcjkabihihiaaGreatDoorQ15
import Derived.Test.YtnmcjkabihihiaaGreatDoorQ10
import Derived.Deep.Cut
namespace Go.Proofs.YtnmcjkabihihiaaGreatDoor
open Go Go.RowKit Go.Proofs.Mm

section
variable {D : DC} {nv bv : Value} {er a : Nat} {w : World}
theorem bd_bare {m : Mem} {w0 W w9 : World} {q q9 : Option Addr} {n c c9 : Nat} {cs : List Value} {acc : List Syn.St} {k : Nat} (hbt : D.bt < w0.heap.size) (hsz : w0.heap.size ≤ W.heap.size)
    (h : BdG D m w0 q n c cs acc W) (hr : W.ownsRow w0.heap.size 47 4 (.slice q n c) n cs) {o : Obj}
    (hg : (W.alloc o).grownBy w9 (Value.ownBlock (.slice q n c))) (hat9 : Value.ownBlock (.slice q9 (n + 1) c9) = Value.ownBlock (.slice q n c) ∨ ∃ k, W.heap.size ≤ k ∧ Value.ownBlock (.slice q9 (n + 1) c9) = some k) :
    BdG D m w0 q9 (n + 1) c9 (cs ++ [.int .i64 (k : Nat), .string ⟨#[]⟩, .slice none 0 0, .slice none 0 0]) (acc ++ [⟨k, [], [], []⟩]) (w9.setCell ⟨D.bt, 5, none⟩ (.slice q9 (n + 1) c9)) := by
  obtain ⟨h1, m', h2⟩ := h
  exact bd_end (m1 := m') hbt hsz ⟨h1, h2⟩ hr ((Chg.refl _ W).alloc o) (st_bare m' k) hg hat9
theorem loop_chain (T : Nat → Option Syn.K) (F : Nat) (s : Option (Nat → Syn.R (List Syn.St))) (i : Nat) : loopP T F s i = (((Syn.R.on (.ok ((), i)) fun x i => (Syn.expr T F i).on fun l j => .ok ((x, l), j)).on fun x i => (Syn.block T F s i).on fun l j => .ok ((x, l), j)).on fun x j => (.ok ((⟨7, [], [], [x.1.2]⟩ : Syn.St) :: x.2 ++ [⟨8, [], [], []⟩], j) : Syn.R (List Syn.St))) := by
  unfold loopP
  simp only [on_on, on_okk]
theorem branch_chain (T : Nat → Option Syn.K) (F : Nat) (s : Option (Nat → Syn.R (List Syn.St))) (i : Nat) : branchP T F s i = (((Syn.R.on (.ok ((), i)) fun x i => (Syn.expr T F i).on fun l j => .ok ((x, l), j)).on fun x i => (Syn.block T F s i).on fun l j => .ok ((x, l), j)).on fun x i => if Syn.is T i (Syn.tx "else") then (Syn.block T F s (i + 1)).on fun b i => (.ok ((⟨5, [], [], [x.1.2]⟩ : Syn.St) :: x.2 ++ (⟨6, [], [], []⟩ : Syn.St) :: b ++ [⟨8, [], [], []⟩], i) : Syn.R (List Syn.St)) else .ok ((⟨5, [], [], [x.1.2]⟩ : Syn.St) :: x.2 ++ [⟨8, [], [], []⟩], i)) := by
  unfold branchP
  simp only [on_on, on_okk]
/-- What is wanted of the blocks within a statement. -/
structure BkD (D : DC) (nv : Value) (m : Mem) (w0 : World) (N d : Nat) (s : Option (Nat → Syn.R (List Syn.St))) : Prop where
  cnt : ∀ p, s = some p → CntS p
  no : ∀ p, s = some p → ∀ i, start (Tk D.ys) i = false → p i = .error (50, i)
  fit : ∀ i, i ≤ D.ys.length → Syn.Fit D.ys.length (Syn.block (Tk D.ys) (D.ys.length + 1) s i)
  run : SdD D nv m w0 N 90 (fun i => #[PB D, .int .i64 (i : Nat), .int .i64 ((d + 1 : Nat) : Int)]) (Syn.block (Tk D.ys) (D.ys.length + 1) s)
set_option maxRecDepth 100000 in
set_option maxHeartbeats 4000000 in
theorem whileD {m : Mem} {w0 : World} {d N : Nat} (hd : d ≤ 12) (hN : 65540 ≤ N) (hN2 : N ≤ 100000) (hbt : D.bt < w0.heap.size) {s : Option (Nat → Syn.R (List Syn.St))} (hs : BkD D nv m w0 N d s) {W : World} {acc : List Syn.St} {i : Nat} {q : Option Addr} {n c : Nat} {cs : List Value} {a : Nat}
    (_hi : i ≤ D.ys.length) (hn : n ≤ i) (hr : W.ownsRow w0.heap.size 47 4 (.slice q n c) n cs) (hg : BdG D m w0 q n c cs acc W) (h : DS D nv (.slice q n c) 0 a W) (hsz : w0.heap.size ≤ W.heap.size)
    (h1 : Syn.is (Tk D.ys) i (bl ⟨#[105, 102]⟩) = false) (h2 : Syn.is (Tk D.ys) i (bl ⟨#[119, 104, 105, 108, 101]⟩) = true) :
    Calls Tryz.prog 68 #[PB D, .int .i64 (i : Nat), .int .i64 (d : Nat)] W (SdR D nv m w0 (N + 1) acc (Syn.stmtOf (Tk D.ys) (D.ys.length + 1) s i) W) := by
  have hfew := h.few
  have hil : i < D.ys.length := Syn.is_lt (tk_nones D.ys) h2
  have hwi : IntKind.i64.wrap ((i : Int) + 1) = ((i + 1 : Nat) : Int) := by rw [IntKind.wrap_i64]; omega
  have hwd : IntKind.i64.wrap ((d : Int) + 1) = ((d + 1 : Nat) : Int) := by rw [IntKind.wrap_i64]; omega
  obtain ⟨j0, hj0, hy0, hy1, hy2⟩ := infoSt
  have HI1 := Lib.hid (is_d h i ⟨#[105, 102]⟩)
  have HI2 := Lib.hid (is_d h i ⟨#[119, 104, 105, 108, 101]⟩)
  rw [h1] at HI1
  rw [h2] at HI2
  have HST := Lib.hid (show Syn.stmtOf (Tk D.ys) (D.ys.length + 1) s i = loopP (Tk D.ys) (D.ys.length + 1) s (i + 1) from by
    rw [stmtOf_eq, tx_if, tx_while, if_neg (by rw [h1]; simp), if_pos h2])
  have HL1 := Lib.hid (levelP h (CuP.start (D := D) () (i := i + 1) (by omega) (P := fun _ => True) trivial a))
  have HR0 := Lib.hid hr
  have HG0 := Lib.hid hg
  have HNB := Lib.hid (own_not h hr (by decide))
  have HS := Lib.hid hs
  clear h hr hg h1 h2 hs
  go_enter Tryz.func68, Tryz.ntmps68
  go_wp2_with fail
  go_at_call 37
  refine HI1.out.mono ?_
  rintro e w' ⟨rfl, rfl⟩
  go_wp2_with fail
  go_at_call 37
  refine HI2.out.mono ?_
  rintro e w' ⟨rfl, rfl⟩
  go_wp2_with fail
  go_at_call 37
  refine HI2.out.mono ?_
  rintro e w' ⟨rfl, rfl⟩
  go_wp2_with fail
  go_at_call 89
  refine HL1.out.mono ?_
  rintro e w2 ⟨q2, c2, l, z2, er2, a2, rfl, ho2, hp2, hc2, hd2, hcu2⟩
  have hs2 := hc2.size
  have HO2 := Lib.hid ho2
  have HD2 := Lib.hid hd2
  have HCU2 := Lib.hid hcu2
  have HC2 := Lib.hid hc2
  have hr2 := own_chg HR0.out hc2 (fun k hk e => by subst e; exact HNB.out hk)
  obtain ⟨qr, _, _, _, _, _, x5, hz, hltb, _⟩ := hd2.raw
  have z5 := hz 5
  clear hc2 ho2 hd2 hcu2 hz
  go_upto_region 6 with (fail)
  have hnew : ∀ (j : Nat) (u : Value), [Value.int .i64 7, .string ⟨#[]⟩, .slice none 0 0, .slice (some ⟨w2.heap.size, 0, none⟩) 1 1][j]? = some u → ((w2.alloc (.cells #[.slice q2 l.length c2] 49)).alloc (.cells #[.int .i64 7, .string ⟨#[]⟩, .slice none 0 0, .slice (some ⟨w2.heap.size, 0, none⟩) 1 1] 47)).cell? ((⟨w2.heap.size + 1, 0, none⟩ : Addr).add j) = some u := by
    have := row_new (w2.alloc (.cells #[.slice q2 l.length c2] 49)) [Value.int .i64 7, .string ⟨#[]⟩, .slice none 0 0, .slice (some ⟨w2.heap.size, 0, none⟩) 1 1] 47
    simpa only [World.size_alloc] using this
  have hone := st_two 7 ⟨#[]⟩ (some ⟨w2.heap.size, 0, none⟩) 1 1 none 0 0
  go_wp2_with (at_builtin; refine wpList_append_own_at _ rfl _ _ 39 rfl w0.heap.size 47 j0 _ 4 72 Tryz.underlying39 hj0 hy0 hy1 hy2 rfl (by decide) _ _ _ rfl ((hr2.alloc _).alloc _) ⟨w2.heap.size + 1, 0, none⟩ 1 1 [Value.int .i64 7, .string ⟨#[]⟩, .slice none 0 0, .slice (some ⟨w2.heap.size, 0, none⟩) 1 1] rfl rfl hnew hone (by unfold maxLen; omega) (by omega) (by simp; omega) ?_)
  intro v9 w9 ho9 hg9 hxx hat9
  obtain ⟨q9, c9, rfl⟩ := own_shape ho9
  have h02 : Chg (fun _ => False) w2 ((w2.alloc (.cells #[.slice q2 l.length c2] 49)).alloc (.cells #[.int .i64 7, .string ⟨#[]⟩, .slice none 0 0, .slice (some ⟨w2.heap.size, 0, none⟩) 1 1] 47)) := ((Chg.refl _ w2).alloc _).alloc _
  have hd9 := HD2.out.grown hr2 (by decide) (by decide) h02 hg9
  obtain ⟨_, _, _, _, _, _, y5, hz9, hlt9, _⟩ := hd9.raw
  have y6 := hz9 5
  obtain ⟨s1, s2, s3⟩ := bd_store (by omega) hr2 HD2.out h02 hg9 ho9
  obtain ⟨g1, m', g2⟩ := HG0.out
  obtain ⟨m1, e1, b2, e2, e3⟩ := bd_row hbt (by omega) (m' := m') (acc := acc) ⟨g1, g2⟩ HR0.out HC2.out HO2.out
  obtain ⟨b3, e4, e5⟩ := bd_put hbt (by omega) b2 hr2 (.cells #[.slice q2 l.length c2] 49)
  have hsm : StM (m1.put w2.heap.size (.cells #[.slice q2 l.length c2] 49)) [Value.int .i64 7, .string ⟨#[]⟩, .slice none 0 0, .slice (some ⟨w2.heap.size, 0, none⟩) 1 1] ⟨7, [], [], [l]⟩ :=
    ⟨_, _, rfl, str_nil _, ex_one e5 (RowM.le e2 e4)⟩
  have hb9 := bd_end hbt (by simp; omega) b3 (hr2.alloc _) ((Chg.refl (fun _ => False) (w2.alloc (.cells #[.slice q2 l.length c2] 49))).alloc (.cells #[.int .i64 7, .string ⟨#[]⟩, .slice none 0 0, .slice (some ⟨w2.heap.size, 0, none⟩) 1 1] 47)) hsm hg9 (q9 := q9) (c9 := c9) (by
    rcases hat9 with e | e
    · exact .inl e
    · exact .inr ⟨_, by simp, e⟩)
  have hsz9 := s3.size
  have HBK := Lib.hid (blockA (d := ((d + 1 : Nat) : Int)) (acc := acc ++ [⟨7, [], [], [l]⟩]) (fun i => rfl) HS.out.run HS.out.fit s2 (by omega) s1 (by omega) HCU2.out.1 (fun x j e => by
    refine ⟨?_, hb9⟩
    obtain ⟨u, i1, k1, k2⟩ := Syn.R.on_ok e
    injection k1 with k1; injection k1 with _ k1
    obtain ⟨u2, i2, k3, k4⟩ := Syn.R.on_ok k2
    injection k4 with k4; injection k4 with _ k4
    have := (Syn.expr_good 12 _ _ _ k3).2
    omega))
  have HS3 := Lib.hid ((HC2.out.mono (fun k e => .inl (.inl e))).then s3 : Chg (fun k => k = D.bt ∨ w0.heap.size ≤ k) W _)
  clear s1 s2 s3 hg9 hat9 hxx h02 hd9 ho9 hnew hone hz9 hb9 g1 g2 e1 b2 e2 e3 b3 e4 e5 hsm
  go_wp2_with fail
  go_at_call 90
  refine HBK.out.mono ?_
  rintro e w4 ⟨q4, c4, n4, cs4, z4, er4, a4, rfl, ho4, hn4, hc4, hd4, hcu4, hg4⟩
  have hs4 := hc4.size
  have HD4 := Lib.hid hd4
  have HC4 := Lib.hid (HS3.out.then hc4)
  have HCU4 := Lib.hid (And.intro hcu4 hg4)
  obtain ⟨qr4, _, _, _, _, _, x54, hz4, hltb4, _⟩ := hd4.raw
  have z54 := hz4 5
  clear hc4 hd4 hcu4 hg4 hz4
  have hnew : ∀ (j : Nat) (u : Value), [Value.int .i64 8, .string ⟨#[]⟩, .slice none 0 0, .slice none 0 0][j]? = some u → (w4.alloc (.cells #[.int .i64 8, .string ⟨#[]⟩, .slice none 0 0, .slice none 0 0] 47)).cell? ((⟨w4.heap.size, 0, none⟩ : Addr).add j) = some u := row_new w4 [Value.int .i64 8, .string ⟨#[]⟩, .slice none 0 0, .slice none 0 0] 47
  have hone := st_two 8 ⟨#[]⟩ none 0 0 none 0 0
  go_upto_region 11 with (fail)
  go_wp2_with (at_builtin; refine wpList_append_own_at _ rfl _ _ 39 rfl w0.heap.size 47 j0 _ 4 72 Tryz.underlying39 hj0 hy0 hy1 hy2 rfl (by decide) _ _ _ rfl (ho4.alloc _) ⟨w4.heap.size, 0, none⟩ 1 1 [Value.int .i64 8, .string ⟨#[]⟩, .slice none 0 0, .slice none 0 0] rfl rfl hnew hone (by unfold maxLen; omega) (by omega) (by simp; omega) ?_)
  intro v5 w5 ho5 hg5 hxx5 hat5
  obtain ⟨q5, c5, rfl⟩ := own_shape ho5
  have h05 : Chg (fun _ => False) w4 (w4.alloc (.cells #[.int .i64 8, .string ⟨#[]⟩, .slice none 0 0, .slice none 0 0] 47)) := (Chg.refl _ w4).alloc _
  have hd5 := HD4.out.grown ho4 (by decide) (by decide) h05 hg5
  obtain ⟨_, _, _, _, _, _, y55, hz5, hlt5, _⟩ := hd5.raw
  have y65 := hz5 5
  obtain ⟨s1, s2, s3⟩ := bd_store (by omega) ho4 HD4.out h05 hg5 ho5
  have HS1 := Lib.hid s1
  have HS2 := Lib.hid s2
  have HS5 := Lib.hid s3
  have HG5 := Lib.hid (fun acc (hx : BdG D m w0 q4 n4 c4 cs4 acc w4) => bd_bare (k := 8) (q9 := q5) (c9 := c5) hbt (by omega) hx ho4 hg5 (by
    rcases hat5 with e | e
    · exact .inl e
    · exact .inr ⟨_, by simp, e⟩))
  clear s1 s2 s3 hg5 hat5 hxx5 h05 hd5 ho5 hnew hone hz5
  go_wp2_with fail
  go_ret
  refine ⟨q5, c5, n4 + 1, _, z4, er4, a4, rfl, HS2.out, by omega, HC4.out.then HS5.out, HS1.out, ?_⟩
  rw [HST.out, loop_chain]
  obtain ⟨k1, k2⟩ := HCU4.out
  have hl := HCU2.out.2
  rcases k1.cases with ⟨x, j, hx, h4, h5, h6⟩ | ⟨k, t, hx, h4, h5, h6⟩
  · have h7 := k2 x.1 x.2 j hx
    have h8 := HG5.out _ h7
    obtain ⟨u, i1, k3, k4⟩ := Syn.R.on_ok hx
    have h9 := (hl u i1 k3).2
    obtain ⟨u2, i2, k5, k6⟩ := Syn.R.on_ok k4
    injection k6 with k6; injection k6 with k6 _
    have h10 : x.1.2 = l := by rw [← k6]; exact h9
    rw [hx]
    refine ⟨h4, h5, ?_⟩
    have he : acc ++ ((⟨7, [], [], [x.1.2]⟩ : Syn.St) :: x.2 ++ [⟨8, [], [], []⟩]) = acc ++ [⟨7, [], [], [l]⟩] ++ x.2 ++ [⟨8, [], [], []⟩] := by rw [h10]; simp [List.append_assoc]
    rw [he]
    exact h8
  · rw [hx]
    exact ⟨h4, h5, h6⟩
end
end Go.Proofs.YtnmcjkabihihiaaGreatDoor

/- The document's statements: if. -/
namespace Go.Proofs.YtnmcjkabihihiaaGreatDoor
open Go Go.RowKit Go.Proofs.Mm

section
variable {D : DC} {nv bv : Value} {er a : Nat} {w : World}
set_option maxRecDepth 100000 in
set_option maxHeartbeats 4000000 in
theorem ifD {m : Mem} {w0 : World} {d N : Nat} (hd : d ≤ 12) (hN : 65540 ≤ N) (hN2 : N ≤ 100000) (hbt : D.bt < w0.heap.size) {s : Option (Nat → Syn.R (List Syn.St))} (hs : BkD D nv m w0 N d s) {W : World} {acc : List Syn.St} {i : Nat} {q : Option Addr} {n c : Nat} {cs : List Value} {a : Nat}
    (_hi : i ≤ D.ys.length) (hn : n ≤ i) (hr : W.ownsRow w0.heap.size 47 4 (.slice q n c) n cs) (hg : BdG D m w0 q n c cs acc W) (h : DS D nv (.slice q n c) 0 a W) (hsz : w0.heap.size ≤ W.heap.size)
    (h1 : Syn.is (Tk D.ys) i (bl ⟨#[105, 102]⟩) = true) :
    Calls Tryz.prog 68 #[PB D, .int .i64 (i : Nat), .int .i64 (d : Nat)] W (SdR D nv m w0 (N + 1) acc (Syn.stmtOf (Tk D.ys) (D.ys.length + 1) s i) W) := by
  have hfew := h.few
  have hil : i < D.ys.length := Syn.is_lt (tk_nones D.ys) h1
  have h2 : Syn.is (Tk D.ys) i (bl ⟨#[119, 104, 105, 108, 101]⟩) = false := is_two h1 (by decide)
  have hwi : IntKind.i64.wrap ((i : Int) + 1) = ((i + 1 : Nat) : Int) := by rw [IntKind.wrap_i64]; omega
  have hwd : IntKind.i64.wrap ((d : Int) + 1) = ((d + 1 : Nat) : Int) := by rw [IntKind.wrap_i64]; omega
  obtain ⟨j0, hj0, hy0, hy1, hy2⟩ := infoSt
  have HI1 := Lib.hid (is_d h i ⟨#[105, 102]⟩)
  have HI2 := Lib.hid (is_d h i ⟨#[119, 104, 105, 108, 101]⟩)
  rw [h1] at HI1
  rw [h2] at HI2
  have HST := Lib.hid (show Syn.stmtOf (Tk D.ys) (D.ys.length + 1) s i = branchP (Tk D.ys) (D.ys.length + 1) s (i + 1) from by
    rw [stmtOf_eq, tx_if, if_pos h1])
  have HL1 := Lib.hid (levelP h (CuP.start (D := D) () (i := i + 1) (by omega) (P := fun _ => True) trivial a))
  have HR0 := Lib.hid hr
  have HG0 := Lib.hid hg
  have HNB := Lib.hid (own_not h hr (by decide))
  have HS := Lib.hid hs
  clear h hr hg h1 h2 hs
  go_enter Tryz.func68, Tryz.ntmps68
  go_wp2_with fail
  go_at_call 37
  refine HI1.out.mono ?_
  rintro e w' ⟨rfl, rfl⟩
  go_wp2_with fail
  go_at_call 37
  refine HI2.out.mono ?_
  rintro e w' ⟨rfl, rfl⟩
  go_wp2_with fail
  go_at_call 89
  refine HL1.out.mono ?_
  rintro e w2 ⟨q2, c2, l, z2, er2, a2, rfl, ho2, hp2, hc2, hd2, hcu2⟩
  have hs2 := hc2.size
  have HO2 := Lib.hid ho2
  have HD2 := Lib.hid hd2
  have HCU2 := Lib.hid hcu2
  have HC2 := Lib.hid hc2
  have hr2 := own_chg HR0.out hc2 (fun k hk e => by subst e; exact HNB.out hk)
  obtain ⟨qr, _, _, _, _, _, x5, hz, hltb, _⟩ := hd2.raw
  have z5 := hz 5
  clear hc2 ho2 hd2 hcu2 hz
  go_upto_region 6 with (fail)
  have hnew : ∀ (j : Nat) (u : Value), [Value.int .i64 5, .string ⟨#[]⟩, .slice none 0 0, .slice (some ⟨w2.heap.size, 0, none⟩) 1 1][j]? = some u → ((w2.alloc (.cells #[.slice q2 l.length c2] 49)).alloc (.cells #[.int .i64 5, .string ⟨#[]⟩, .slice none 0 0, .slice (some ⟨w2.heap.size, 0, none⟩) 1 1] 47)).cell? ((⟨w2.heap.size + 1, 0, none⟩ : Addr).add j) = some u := by
    have := row_new (w2.alloc (.cells #[.slice q2 l.length c2] 49)) [Value.int .i64 5, .string ⟨#[]⟩, .slice none 0 0, .slice (some ⟨w2.heap.size, 0, none⟩) 1 1] 47
    simpa only [World.size_alloc] using this
  have hone := st_two 5 ⟨#[]⟩ (some ⟨w2.heap.size, 0, none⟩) 1 1 none 0 0
  go_wp2_with (at_builtin; refine wpList_append_own_at _ rfl _ _ 39 rfl w0.heap.size 47 j0 _ 4 72 Tryz.underlying39 hj0 hy0 hy1 hy2 rfl (by decide) _ _ _ rfl ((hr2.alloc _).alloc _) ⟨w2.heap.size + 1, 0, none⟩ 1 1 [Value.int .i64 5, .string ⟨#[]⟩, .slice none 0 0, .slice (some ⟨w2.heap.size, 0, none⟩) 1 1] rfl rfl hnew hone (by unfold maxLen; omega) (by omega) (by simp; omega) ?_)
  intro v9 w9 ho9 hg9 hxx hat9
  obtain ⟨q9, c9, rfl⟩ := own_shape ho9
  have h02 : Chg (fun _ => False) w2 ((w2.alloc (.cells #[.slice q2 l.length c2] 49)).alloc (.cells #[.int .i64 5, .string ⟨#[]⟩, .slice none 0 0, .slice (some ⟨w2.heap.size, 0, none⟩) 1 1] 47)) := ((Chg.refl _ w2).alloc _).alloc _
  have hd9 := HD2.out.grown hr2 (by decide) (by decide) h02 hg9
  obtain ⟨_, _, _, _, _, _, y5, hz9, hlt9, _⟩ := hd9.raw
  have y6 := hz9 5
  obtain ⟨s1, s2, s3⟩ := bd_store (by omega) hr2 HD2.out h02 hg9 ho9
  obtain ⟨g1, m', g2⟩ := HG0.out
  obtain ⟨m1, e1, b2, e2, e3⟩ := bd_row hbt (by omega) (m' := m') (acc := acc) ⟨g1, g2⟩ HR0.out HC2.out HO2.out
  obtain ⟨b3, e4, e5⟩ := bd_put hbt (by omega) b2 hr2 (.cells #[.slice q2 l.length c2] 49)
  have hsm : StM (m1.put w2.heap.size (.cells #[.slice q2 l.length c2] 49)) [Value.int .i64 5, .string ⟨#[]⟩, .slice none 0 0, .slice (some ⟨w2.heap.size, 0, none⟩) 1 1] ⟨5, [], [], [l]⟩ :=
    ⟨_, _, rfl, str_nil _, ex_one e5 (RowM.le e2 e4)⟩
  have hb9 := bd_end hbt (by simp; omega) b3 (hr2.alloc _) ((Chg.refl (fun _ => False) (w2.alloc (.cells #[.slice q2 l.length c2] 49))).alloc (.cells #[.int .i64 5, .string ⟨#[]⟩, .slice none 0 0, .slice (some ⟨w2.heap.size, 0, none⟩) 1 1] 47)) hsm hg9 (q9 := q9) (c9 := c9) (by
    rcases hat9 with e | e
    · exact .inl e
    · exact .inr ⟨_, by simp, e⟩)
  have hsz9 := s3.size
  have HBK := Lib.hid (blockA (d := ((d + 1 : Nat) : Int)) (acc := acc ++ [⟨5, [], [], [l]⟩]) (fun i => rfl) HS.out.run HS.out.fit s2 (by omega) s1 (by omega) HCU2.out.1 (fun x j e => by
    refine ⟨?_, hb9⟩
    obtain ⟨u, i1, k1, k2⟩ := Syn.R.on_ok e
    injection k1 with k1; injection k1 with _ k1
    obtain ⟨u2, i2, k3, k4⟩ := Syn.R.on_ok k2
    injection k4 with k4; injection k4 with _ k4
    have := (Syn.expr_good 12 _ _ _ k3).2
    omega))
  have HS3 := Lib.hid ((HC2.out.mono (fun k e => .inl (.inl e))).then s3 : Chg (fun k => k = D.bt ∨ w0.heap.size ≤ k) W _)
  clear s1 s2 s3 hg9 hat9 hxx h02 hd9 ho9 hnew hone hz9 hb9 g1 g2 e1 b2 e2 e3 b3 e4 e5 hsm
  go_wp2_with fail
  go_at_call 90
  refine HBK.out.mono ?_
  rintro e w4 ⟨q4, c4, n4, cs4, z4, er4, a4, rfl, ho4, hn4, hc4, hd4, hcu4, hg4⟩
  have hs4 := hc4.size
  have HD4 := Lib.hid hd4
  have HC4 := Lib.hid (HS3.out.then hc4)
  have HCU4 := Lib.hid (And.intro hcu4 hg4)
  obtain ⟨qr4, _, _, _, _, _, x54, hz4, hltb4, _⟩ := hd4.raw
  have z54 := hz4 5
  have HIE := Lib.hid (isA hd4 hcu4 ⟨#[101, 108, 115, 101]⟩)
  obtain ⟨R4, hR4⟩ : ∃ R4, ((Syn.R.on (.ok ((), i + 1)) fun x i => (Syn.expr (Tk D.ys) (D.ys.length + 1) i).on fun l j => .ok ((x, l), j)).on fun x i => (Syn.block (Tk D.ys) (D.ys.length + 1) s i).on fun l j => (.ok ((x, l), j) : Syn.R ((Unit × List Syn.Tm) × List Syn.St))) = R4 := ⟨_, rfl⟩
  rw [hR4] at HIE HCU4
  have HXL := Lib.hid (show ∀ x j, R4 = .ok (x, j) → x.1.2 = l ∧ x.2.length + (i + 1) + 3 ≤ j from fun x j e => by
    rw [← hR4] at e
    obtain ⟨u, i1, k3, k4⟩ := Syn.R.on_ok e
    have h9 := (HCU2.out.2 u i1 k3).2
    obtain ⟨u2, i2, k5, k6⟩ := Syn.R.on_ok k4
    injection k6 with k6; injection k6 with k6 k7
    obtain ⟨u3, i3, k8, k9⟩ := Syn.R.on_ok k3
    injection k8 with k8; injection k8 with _ k8
    obtain ⟨u4, i4, k10, k11⟩ := Syn.R.on_ok k9
    injection k11 with k11; injection k11 with _ k11
    have e1 := (Syn.expr_good 12 _ _ _ k10).2
    have e2 := block_cnt HS.out.cnt HS.out.no k5
    refine ⟨by rw [← k6]; exact h9, ?_⟩
    rw [← k6]
    show u2.length + _ + 3 ≤ j
    omega)
  have HR4 := Lib.hid hR4
  clear hc4 hd4 hcu4 hg4 hz4 hR4
  obtain ⟨be, hbe⟩ : ∃ be, isB D R4 (bl ⟨#[101, 108, 115, 101]⟩) = be := ⟨_, rfl⟩
  rw [hbe] at HIE
  have HBE := Lib.hid hbe
  clear hbe
  cases be with
  | true =>
    have hgood : ∃ x j, R4 = .ok (x, j) ∧ Syn.is (Tk D.ys) j (bl ⟨#[101, 108, 115, 101]⟩) = true := by
      have h := HBE.out
      cases hr : R4 with
      | error e => rw [hr] at h; cases h
      | ok p => rw [hr] at h; exact ⟨p.1, p.2, rfl, h⟩
    obtain ⟨x, j, hx, hel⟩ := hgood
    subst hx
    obtain ⟨rfl, rfl, hjl⟩ := HCU4.out.1
    have hg4 := HCU4.out.2 x.1 x.2 j rfl
    obtain ⟨hx1, hx2⟩ := HXL.out x j rfl
    have hn4' : n4 = acc.length + 1 + x.2.length := by
      have := hg4.1
      simp only [List.length_append, List.length_singleton] at this
      exact this
    have hjn : n4 + 1 ≤ j + 1 ∧ n4 ≤ 65536 := by have : n = acc.length := HG0.out.1; omega
    have hjl2 : j < D.ys.length := Syn.is_lt (tk_nones D.ys) hel
    have hwj : IntKind.i64.wrap ((j : Int) + 1) = ((j + 1 : Nat) : Int) := by rw [IntKind.wrap_i64]; omega
    have HG4 := Lib.hid hg4
    have HRR := Lib.hid (show branchP (Tk D.ys) (D.ys.length + 1) s (i + 1) = (Syn.block (Tk D.ys) (D.ys.length + 1) s (j + 1)).on fun b i => .ok ((⟨5, [], [], [l]⟩ : Syn.St) :: x.2 ++ (⟨6, [], [], []⟩ : Syn.St) :: b ++ [⟨8, [], [], []⟩], i) from by
      rw [branch_chain, HR4.out, on_okk, tx_else, if_pos hel, hx1])
    clear hg4 hel hx1 hn4'
    go_wp2_with fail
    go_at_call 37
    refine HIE.out.mono ?_
    rintro e w' ⟨rfl, rfl⟩
    go_upto_region 9 with (fail)
    have hnew : ∀ (j : Nat) (u : Value), [Value.int .i64 6, .string ⟨#[]⟩, .slice none 0 0, .slice none 0 0][j]? = some u → (w4.alloc (.cells #[.int .i64 6, .string ⟨#[]⟩, .slice none 0 0, .slice none 0 0] 47)).cell? ((⟨w4.heap.size, 0, none⟩ : Addr).add j) = some u := row_new w4 [Value.int .i64 6, .string ⟨#[]⟩, .slice none 0 0, .slice none 0 0] 47
    have hone := st_two 6 ⟨#[]⟩ none 0 0 none 0 0
    go_wp2_with (at_builtin; refine wpList_append_own_at _ rfl _ _ 39 rfl w0.heap.size 47 j0 _ 4 72 Tryz.underlying39 hj0 hy0 hy1 hy2 rfl (by decide) _ _ _ rfl (ho4.alloc _) ⟨w4.heap.size, 0, none⟩ 1 1 [Value.int .i64 6, .string ⟨#[]⟩, .slice none 0 0, .slice none 0 0] rfl rfl hnew hone (by unfold maxLen; omega) (by omega) (by simp; omega) ?_)
    intro v5 w5 ho5 hg5 hxx5 hat5
    obtain ⟨q5, c5, rfl⟩ := own_shape ho5
    have h05 : Chg (fun _ => False) w4 (w4.alloc (.cells #[.int .i64 6, .string ⟨#[]⟩, .slice none 0 0, .slice none 0 0] 47)) := (Chg.refl _ w4).alloc _
    have hd5 := HD4.out.grown ho4 (by decide) (by decide) h05 hg5
    obtain ⟨_, _, _, _, _, _, y55, hz5, hlt5, _⟩ := hd5.raw
    have y65 := hz5 5
    obtain ⟨s1, s2, s3⟩ := bd_store (by omega) ho4 HD4.out h05 hg5 ho5
    have hb5 := bd_bare (k := 6) (q9 := q5) (c9 := c5) hbt (by omega) HG4.out ho4 hg5 (by
      rcases hat5 with e | e
      · exact .inl e
      · exact .inr ⟨_, by omega, e⟩)
    have hsz5 := s3.size
    have HS5 := Lib.hid (HC4.out.then s3)
    have HBL := Lib.hid (HS.out.run _ (acc ++ [(⟨5, [], [], [l]⟩ : Syn.St)] ++ x.2 ++ [⟨6, [], [], []⟩]) (j + 1) q5 c5 (n4 + 1) _ a4 hjl2 (by omega) s2 hb5 s1 (by omega))
    clear s1 s2 s3 hg5 hat5 hxx5 h05 hd5 ho5 hnew hone hz5 hb5
    go_wp2_with fail
    go_at_call 90
    refine HBL.out.mono ?_
    rintro e w6 ⟨q6, c6, n6, cs6, z6, er6, a6, rfl, ho6, hn6, hc6, hd6, hm6⟩
    have hs6 := hc6.size
    have HD6 := Lib.hid hd6
    have HC6 := Lib.hid (HS5.out.then hc6)
    have HM6 := Lib.hid hm6
    obtain ⟨qr6, _, _, _, _, _, x56, hz6, hltb6, _⟩ := hd6.raw
    have z56 := hz6 5
    clear hc6 hd6 hm6 hz6 x54 z54
    have hnew : ∀ (j : Nat) (u : Value), [Value.int .i64 8, .string ⟨#[]⟩, .slice none 0 0, .slice none 0 0][j]? = some u → (w6.alloc (.cells #[.int .i64 8, .string ⟨#[]⟩, .slice none 0 0, .slice none 0 0] 47)).cell? ((⟨w6.heap.size, 0, none⟩ : Addr).add j) = some u := row_new w6 [Value.int .i64 8, .string ⟨#[]⟩, .slice none 0 0, .slice none 0 0] 47
    have hone := st_two 8 ⟨#[]⟩ none 0 0 none 0 0
    go_upto_region 11 with (fail)
    go_wp2_with (at_builtin; refine wpList_append_own_at _ rfl _ _ 39 rfl w0.heap.size 47 j0 _ 4 72 Tryz.underlying39 hj0 hy0 hy1 hy2 rfl (by decide) _ _ _ rfl (ho6.alloc _) ⟨w6.heap.size, 0, none⟩ 1 1 [Value.int .i64 8, .string ⟨#[]⟩, .slice none 0 0, .slice none 0 0] rfl rfl hnew hone (by unfold maxLen; omega) (by omega) (by simp; omega) ?_)
    intro v7 w7 ho7 hg7 hxx7 hat7
    obtain ⟨q7, c7, rfl⟩ := own_shape ho7
    have h07 : Chg (fun _ => False) w6 (w6.alloc (.cells #[.int .i64 8, .string ⟨#[]⟩, .slice none 0 0, .slice none 0 0] 47)) := (Chg.refl _ w6).alloc _
    have hd7 := HD6.out.grown ho6 (by decide) (by decide) h07 hg7
    obtain ⟨_, _, _, _, _, _, y57, hz7, hlt7, _⟩ := hd7.raw
    have y67 := hz7 5
    obtain ⟨s1, s2, s3⟩ := bd_store (by omega) ho6 HD6.out h07 hg7 ho7
    have HS1 := Lib.hid s1
    have HS2 := Lib.hid s2
    have HS7 := Lib.hid s3
    have HG7 := Lib.hid (fun acc (hx : BdG D m w0 q6 n6 c6 cs6 acc w6) => bd_bare (k := 8) (q9 := q7) (c9 := c7) hbt (by omega) hx ho6 hg7 (by
      rcases hat7 with e | e
      · exact .inl e
      · exact .inr ⟨_, by omega, e⟩))
    clear s1 s2 s3 hg7 hat7 hxx7 h07 hd7 ho7 hnew hone hz7
    go_wp2_with fail
    go_ret
    refine ⟨q7, c7, n6 + 1, _, z6, er6, a6, rfl, HS2.out, by omega, HC6.out.then HS7.out, HS1.out, ?_⟩
    rw [HST.out, HRR.out]
    have hm := HM6.out
    cases hp : Syn.block (Tk D.ys) (D.ys.length + 1) s (j + 1) with
    | error e => rw [hp] at hm; exact hm
    | ok p =>
      obtain ⟨b, j2⟩ := p
      rw [hp] at hm
      obtain ⟨h4, h5, h6⟩ := hm
      have h8 := HG7.out _ h6
      refine ⟨h4, h5, ?_⟩
      have he : acc ++ ((⟨5, [], [], [l]⟩ : Syn.St) :: x.2 ++ (⟨6, [], [], []⟩ : Syn.St) :: b ++ [⟨8, [], [], []⟩]) = acc ++ [⟨5, [], [], [l]⟩] ++ x.2 ++ [⟨6, [], [], []⟩] ++ b ++ [⟨8, [], [], []⟩] := by simp [List.append_assoc]
      rw [he]
      exact h8
  | false =>
  go_wp2_with fail
  go_at_call 37
  refine HIE.out.mono ?_
  rintro e w' ⟨rfl, rfl⟩
  have hnew : ∀ (j : Nat) (u : Value), [Value.int .i64 8, .string ⟨#[]⟩, .slice none 0 0, .slice none 0 0][j]? = some u → (w4.alloc (.cells #[.int .i64 8, .string ⟨#[]⟩, .slice none 0 0, .slice none 0 0] 47)).cell? ((⟨w4.heap.size, 0, none⟩ : Addr).add j) = some u := row_new w4 [Value.int .i64 8, .string ⟨#[]⟩, .slice none 0 0, .slice none 0 0] 47
  have hone := st_two 8 ⟨#[]⟩ none 0 0 none 0 0
  go_upto_region 11 with (fail)
  go_wp2_with (at_builtin; refine wpList_append_own_at _ rfl _ _ 39 rfl w0.heap.size 47 j0 _ 4 72 Tryz.underlying39 hj0 hy0 hy1 hy2 rfl (by decide) _ _ _ rfl (ho4.alloc _) ⟨w4.heap.size, 0, none⟩ 1 1 [Value.int .i64 8, .string ⟨#[]⟩, .slice none 0 0, .slice none 0 0] rfl rfl hnew hone (by unfold maxLen; omega) (by omega) (by simp; omega) ?_)
  intro v5 w5 ho5 hg5 hxx5 hat5
  obtain ⟨q5, c5, rfl⟩ := own_shape ho5
  have h05 : Chg (fun _ => False) w4 (w4.alloc (.cells #[.int .i64 8, .string ⟨#[]⟩, .slice none 0 0, .slice none 0 0] 47)) := (Chg.refl _ w4).alloc _
  have hd5 := HD4.out.grown ho4 (by decide) (by decide) h05 hg5
  obtain ⟨_, _, _, _, _, _, y55, hz5, hlt5, _⟩ := hd5.raw
  have y65 := hz5 5
  obtain ⟨s1, s2, s3⟩ := bd_store (by omega) ho4 HD4.out h05 hg5 ho5
  have HS1 := Lib.hid s1
  have HS2 := Lib.hid s2
  have HS5 := Lib.hid s3
  have HG5 := Lib.hid (fun acc (hx : BdG D m w0 q4 n4 c4 cs4 acc w4) => bd_bare (k := 8) (q9 := q5) (c9 := c5) hbt (by omega) hx ho4 hg5 (by
    rcases hat5 with e | e
    · exact .inl e
    · exact .inr ⟨_, by simp, e⟩))
  clear s1 s2 s3 hg5 hat5 hxx5 h05 hd5 ho5 hnew hone hz5
  go_wp2_with fail
  go_ret
  refine ⟨q5, c5, n4 + 1, _, z4, er4, a4, rfl, HS2.out, by omega, HC4.out.then HS5.out, HS1.out, ?_⟩
  rw [HST.out, branch_chain, HR4.out]
  obtain ⟨k1, k2⟩ := HCU4.out
  rcases k1.cases with ⟨x, j, hx, h4, h5, h6⟩ | ⟨k, t, hx, h4, h5, h6⟩
  · have h7 := k2 x.1 x.2 j hx
    have h8 := HG5.out _ h7
    have h9 := (HXL.out x j hx).1
    have hbe := HBE.out
    rw [hx] at hbe ⊢
    rw [on_okk, tx_else, if_neg (by rw [show Syn.is (Tk D.ys) j (bl ⟨#[101, 108, 115, 101]⟩) = false from hbe]; simp)]
    refine ⟨h4, h5, ?_⟩
    have he : acc ++ ((⟨5, [], [], [x.1.2]⟩ : Syn.St) :: x.2 ++ [⟨8, [], [], []⟩]) = acc ++ [⟨5, [], [], [l]⟩] ++ x.2 ++ [⟨8, [], [], []⟩] := by rw [h9]; simp [List.append_assoc]
    rw [he]
    exact h8
  · rw [hx]
    exact ⟨h4, h5, h6⟩
end
end Go.Proofs.YtnmcjkabihihiaaGreatDoor

/- The document's statements: a call without targets. -/
namespace Go.Proofs.YtnmcjkabihihiaaGreatDoor
open Go Go.RowKit Go.Proofs.Mm

section
variable {D : DC} {nv bv : Value} {er a : Nat} {w : World}
theorem bl_59 : bl ⟨#[59]⟩ = ([59] : List Nat) := rfl
theorem bl_93 : bl ⟨#[93]⟩ = ([93] : List Nat) := rfl
theorem bl_61 : bl ⟨#[61]⟩ = ([61] : List Nat) := rfl
theorem bl_40 : bl ⟨#[40]⟩ = ([40] : List Nat) := rfl
theorem bl_41 : bl ⟨#[41]⟩ = ([41] : List Nat) := rfl
theorem bl_91 : bl ⟨#[91]⟩ = ([91] : List Nat) := rfl
theorem bl_44 : bl ⟨#[44]⟩ = ([44] : List Nat) := rfl
theorem call_chain (T : Nat → Option Syn.K) (F : Nat) (ts : List (List Nat)) (s : List Nat) (i : Nat) : oneP (callP T F ts s i) = (((Syn.R.on (.ok ((), i)) fun x i => (Syn.list T F [41] i).on fun l j => .ok ((x, l), j)).on fun x i => (Syn.want T i [59]).on fun _ j => .ok (x, j)).on fun x j => (.ok ([⟨4, s, ts, x.2⟩], j) : Syn.R (List Syn.St))) := by
  unfold oneP callP
  simp only [on_on, on_okk]
/-- A row of any kind, done with. -/
theorem bd_row2 {m m' : Mem} {w0 W : World} {q : Option Addr} {n c : Nat} {cs : List Value} {acc : List Syn.St} (h : BdM D m w0 q n c cs acc m' W) (hr : W.ownsRow w0.heap.size 47 4 (.slice q n c) n cs) (hd : DS D nv bv er a W)
    {B n1 size : Nat} {E : TypeId} {v : Value} {xs : List Value} (hB : w0.heap.size ≤ B) (a1 : W.ownsRow B E size v n1 xs) (hE : E ≠ 47) (hE2 : E ≠ 66) (hv : ∀ k, v.ownBlock = some k → m' k = none) :
    ∃ m1, m'.le m1 ∧ BdM D m w0 q n c cs acc m1 W ∧ RowM m1 E size v n1 xs := by
  obtain ⟨h1, h2, h3, h4, h5, h6⟩ := h
  obtain ⟨m2, d1, d2, d3, d4⟩ := RowM.done a1 h3 hv
  have hm2 : ∀ k, m' k = none → ¬ v.ownBlock = some k → m2 k = none := fun k e hk => by
    cases e2 : m2 k with
    | none => rfl
    | some o =>
      rcases d2 k (by rw [e2]; simp) with e3 | e3
      · exact (e3 e).elim
      · exact (hk e3).elim
  exact ⟨m2, d1, ⟨h1, h2.mono (fun c x h => h.le d1), d3, ⟨h4.le.trans d1, fun k e hk => hm2 k (h4.new k e hk) (fun e2 => by have := (a1.lt k e2).1; omega)⟩, hm2 _ h5 (own_not hd a1 hE2), fun k hk => hm2 k (h6 k hk) (fun e2 => own_own a1 hr hE k e2 hk)⟩, d4⟩
/-- Expressions of a call, done with. -/
theorem bd_list {m m' : Mem} {w0 W w1 : World} {q q1 : Option Addr} {n c n1 c1 : Nat} {cs cs1 : List Value} {acc : List Syn.St} {l : List (List Syn.Tm)} (_hbt : D.bt < w0.heap.size) (hsz : w0.heap.size ≤ W.heap.size)
    (h : BdM D m w0 q n c cs acc m' W) (hr : W.ownsRow w0.heap.size 47 4 (.slice q n c) n cs) (_hc : Chg (fun k => k = D.bt) W w1) (hd : DS D nv bv er a w1) (hr1 : w1.ownsRow w0.heap.size 47 4 (.slice q n c) n cs)
    (a1 : w1.ownsRow W.heap.size 49 1 (.slice q1 n1 c1) n1 cs1) (hx : ExG D m' W q1 n1 c1 cs1 l w1) :
    ∃ m1, m'.le m1 ∧ BdM D m w0 q n c cs acc m1 w1 ∧ ExM m1 (.slice q1 n1 c1) l := by
  obtain ⟨h1, h2, h3, h4, h5, h6⟩ := h
  obtain ⟨rfl, m2, x1, x2, x3, x4, x5⟩ := hx
  have hb : BdM D m w0 q n c cs acc m2 w1 := ⟨h1, h2.mono (fun c x h => h.le x3.le), x2, h4.trans x3 hsz, x4, fun k hk => x3.new k (h6 k hk) (hr.lt k hk).2⟩
  obtain ⟨m3, y1, y2, y3⟩ := bd_row2 hb hr1 hd hsz a1 (by decide) (by decide) x5
  exact ⟨m3, x3.le.trans y1, y2, _, y3, x1.mono (TmR.le y1)⟩
set_option maxRecDepth 100000 in
set_option maxHeartbeats 4000000 in
theorem callD {m : Mem} {w0 : World} {d N : Nat} (hN : 65540 ≤ N) (hN2 : N ≤ 100000) (hbt : D.bt < w0.heap.size) {s : Option (Nat → Syn.R (List Syn.St))} {W : World} {acc : List Syn.St} {i : Nat} {q : Option Addr} {n c : Nat} {cs : List Value} {a : Nat}
    (_hi : i ≤ D.ys.length) (hn : n ≤ i) (hr : W.ownsRow w0.heap.size 47 4 (.slice q n c) n cs) (hg : BdG D m w0 q n c cs acc W) (h : DS D nv (.slice q n c) 0 a W) (hsz : w0.heap.size ≤ W.heap.size)
    (hnm : Syn.named (Tk D.ys) i = true) (hb : Syn.is (Tk D.ys) (i + 1) (bl ⟨#[91]⟩) = false) (hq : Syn.is (Tk D.ys) (i + 1) (bl ⟨#[40]⟩) = true) :
    Calls Tryz.prog 68 #[PB D, .int .i64 (i : Nat), .int .i64 (d : Nat)] W (SdR D nv m w0 N acc (Syn.stmtOf (Tk D.ys) (D.ys.length + 1) s i) W) := by
  have hfew := h.few
  have hil : i < D.ys.length := Syn.named_lt (tk_nones D.ys) hnm
  have hil2 : i + 1 < D.ys.length := Syn.is_lt (tk_nones D.ys) hq
  obtain ⟨j0, hj0, hy0, hy1, hy2⟩ := infoSt
  have HI1 := Lib.hid (is_d h i ⟨#[105, 102]⟩)
  have HI2 := Lib.hid (is_d h i ⟨#[119, 104, 105, 108, 101]⟩)
  have HI3 := Lib.hid (is_d h i ⟨#[115, 101, 110, 100]⟩)
  have HI4 := Lib.hid (is_d h (i + 1) ⟨#[91]⟩)
  have HI5 := Lib.hid (is_d h (i + 1) ⟨#[40]⟩)
  rw [ne_if hnm] at HI1 HI2 HI3
  rw [hb] at HI4
  rw [hq] at HI5
  have HNM := Lib.hid (nameD_yes h hnm)
  have HWY := Lib.hid (wantD_yes h hil2 hq)
  have HST := Lib.hid (show Syn.stmtOf (Tk D.ys) (D.ys.length + 1) s i = oneP (callP (Tk D.ys) (D.ys.length + 1) [] (bl (tk D.ys D.len i).t) (i + 2)) from by
    rw [stmtOf_eq, tx_if, tx_while, tx_send, if_neg (by rw [ne_if hnm]; simp), if_neg (by rw [ne_if hnm]; simp), if_neg (by rw [ne_if hnm]; simp)]
    unfold namedP
    rw [name_yes D.len hnm, on_ok']
    exact congrArg oneP ((if_neg (fun e => Bool.noConfusion (hb.symm.trans e))).trans (if_pos hq)))
  obtain ⟨g1, m', g2⟩ := hg
  have HB0 := Lib.hid (show BdM D m w0 q n c cs acc m' W from ⟨g1, g2⟩)
  have HL1 := Lib.hid (listP h HB0.out.2.2.1 HB0.out.2.2.2.2.1 (CuP.start (D := D) () (i := i + 2) (by omega) (P := fun _ => True) trivial a) ⟨#[41]⟩)
  have HR0 := Lib.hid hr
  have HNB := Lib.hid (own_not h hr (by decide))
  clear h hr g1 g2 hnm hb hq
  generalize (tk D.ys D.len i).t = nt at *
  go_enter Tryz.func68, Tryz.ntmps68
  go_wp2_with fail
  go_at_call 37
  refine HI1.out.mono ?_
  rintro e w' ⟨rfl, rfl⟩
  go_wp2_with fail
  go_at_call 37
  refine HI2.out.mono ?_
  rintro e w' ⟨rfl, rfl⟩
  go_wp2_with fail
  go_at_call 37
  refine HI3.out.mono ?_
  rintro e w' ⟨rfl, rfl⟩
  go_wp2_with fail
  go_at_call 40
  refine HNM.out.mono ?_
  rintro e w' ⟨rfl, rfl⟩
  go_wp2_with fail
  go_at_call 37
  refine HI4.out.mono ?_
  rintro e w' ⟨rfl, rfl⟩
  go_wp2_with fail
  go_at_call 37
  refine HI5.out.mono ?_
  rintro e w' ⟨rfl, rfl⟩
  go_wp2_with fail
  go_at_call 41
  refine HWY.out.mono ?_
  rintro e w' ⟨rfl, rfl⟩
  go_wp2_with fail
  go_at_call 69
  refine HL1.out.mono ?_
  rintro e w1 ⟨q1, c1, n1, cs1, z1, er1, a1, rfl, ho1, hc1, hd1, hcu1⟩
  have hs1 := hc1.size
  have HO1 := Lib.hid ho1
  have HC1 := Lib.hid hc1
  have HD1 := Lib.hid hd1
  have HCU1 := Lib.hid hcu1
  have hr1 := own_chg HR0.out hc1 (fun k hk e => by subst e; exact HNB.out hk)
  obtain ⟨qr, _, _, _, _, _, x5, hz, hltb, _⟩ := hd1.raw
  have z5 := hz 5
  clear ho1 hc1 hd1 hcu1 hz
  go_upto_region 43 with (fail)
  have hnew := row_new w1 [Value.int .i64 4, .string nt, .slice none 0 0, .slice q1 n1 c1] 47
  have hone := st_two 4 nt q1 n1 c1 none 0 0
  go_wp2_with (at_builtin; refine wpList_append_own_at _ rfl _ _ 39 rfl w0.heap.size 47 j0 _ 4 72 Tryz.underlying39 hj0 hy0 hy1 hy2 rfl (by decide) _ _ _ rfl (hr1.alloc _) ⟨w1.heap.size, 0, none⟩ 1 1 [Value.int .i64 4, .string nt, .slice none 0 0, .slice q1 n1 c1] rfl rfl hnew hone (by unfold maxLen; omega) (by omega) (by simp; omega) ?_)
  intro v9 w9 ho9 hg9 hxx hat9
  obtain ⟨q9, c9, rfl⟩ := own_shape ho9
  have h02 : Chg (fun _ => False) w1 (w1.alloc (.cells #[.int .i64 4, .string nt, .slice none 0 0, .slice q1 n1 c1] 47)) := (Chg.refl _ w1).alloc _
  have hd9 := HD1.out.grown hr1 (by decide) (by decide) h02 hg9
  obtain ⟨_, _, _, _, _, _, y5, hz9, hlt9, _⟩ := hd9.raw
  have y6 := hz9 5
  obtain ⟨s1, s2, s3⟩ := bd_store (by omega) hr1 HD1.out h02 hg9 ho9
  have HS1 := Lib.hid s1
  have HS2 := Lib.hid s2
  have HS3 := Lib.hid s3
  have HG9 := Lib.hid (And.intro hg9 (And.intro hat9 hxx))
  have HW := Lib.hid (wantP s1 HCU1.out ⟨#[59]⟩)
  clear s1 s2 s3 hg9 hat9 hxx h02 hd9 ho9 hnew hone hz9
  go_wp2_with fail
  go_at_call 41
  refine HW.out.mono ?_
  rintro e w11 ⟨z7, er7, a7, rfl, hc7, hd7, hcu7⟩
  have HC7 := Lib.hid hc7
  have HD7 := Lib.hid hd7
  have HCU7 := Lib.hid hcu7
  clear hc7 hd7 hcu7
  go_wp2_with fail
  go_ret
  obtain ⟨hg9, hat9, hxx⟩ := HG9.out
  refine ⟨q9, c9, n + 1, _, z7, er7, a7, rfl, own_chg HS2.out HC7.out (fun k hk e => by subst e; exact own_not HS1.out HS2.out (by decide) hk), by omega, ((HC1.out.mono (fun k e => .inl (.inl e))).then HS3.out).then (HC7.out.mono (fun k e => .inl (.inl e))), HD7.out, ?_⟩
  rw [HST.out, call_chain]
  have hcu := HCU7.out
  simp only [bl_41, bl_59] at hcu
  refine sd_end hcu (fun x => [⟨4, bl nt, [], x.2⟩]) ?_
  rintro x ⟨_, hx⟩
  obtain ⟨m1, e1, b1, e2⟩ := bd_list hbt hsz HB0.out HR0.out HC1.out HD1.out hr1 HO1.out hx
  have hsm : StM m1 [Value.int .i64 4, .string nt, .slice none 0 0, .slice q1 n1 c1] ⟨4, bl nt, [], x.2⟩ := ⟨_, _, by rw [sb_bl]; rfl, str_nil _, e2⟩
  exact (bd_end hbt (by omega) b1 hr1 ((Chg.refl (fun _ => False) w1).alloc (.cells #[.int .i64 4, .string nt, .slice none 0 0, .slice q1 n1 c1] 47)) hsm hg9 (q9 := q9) (c9 := c9) (by
    rcases hat9 with e | e
    · exact .inl e
    · exact .inr ⟨_, by omega, e⟩)).chg HC7.out
end
end Go.Proofs.YtnmcjkabihihiaaGreatDoor

/- The document's statements: targets, then an expression or a call. -/
namespace Go.Proofs.YtnmcjkabihihiaaGreatDoor
open Go Go.RowKit Go.Proofs.Mm

section
variable {D : DC} {nv bv : Value} {er a : Nat} {w : World}
def wantR {α : Type} (T : Nat → Option Syn.K) (s : List Nat) (r : Syn.R α) : Syn.R α := r.on fun x i => (Syn.want T i s).on fun _ j => .ok (x, j)
theorem assign_chain (T : Nat → Option Syn.K) (F : Nat) (RT : Syn.R (List (List Nat))) (h : ∀ ts j, wantR T [61] RT = .ok (ts, j) → ts.length = 1 ∧ ¬ (Syn.named T j = true ∧ Syn.is T (j + 1) [40] = true)) :
    oneP (RT.on fun ts i => restP T F ts i) = ((((wantR T [61] RT).on fun x i => (Syn.expr T F i).on fun l j => .ok ((x, l), j)).on fun x i => (Syn.want T i [59]).on fun _ j => .ok (x, j)).on fun x j => (.ok ([⟨1, [], x.1, [x.2]⟩], j) : Syn.R (List Syn.St))) := by
  cases RT with
  | error e => rfl
  | ok p =>
    obtain ⟨ts, i⟩ := p
    have h' := h ts
    show oneP (restP T F ts i) = _
    unfold restP wantR
    simp only [on_okk] at h' ⊢
    unfold wantR at h'
    simp only [on_okk] at h'
    cases hw : Syn.want T i [61] with
    | error e => rfl
    | ok p =>
      obtain ⟨u, j⟩ := p
      have h2 := h' j (by rw [hw]; rfl)
      simp only [on_okk]
      rw [if_pos h2]
      unfold oneP assignP
      simp only [on_on, on_okk]
theorem calls_chain (T : Nat → Option Syn.K) (F : Nat) (RT : Syn.R (List (List Nat))) (h : ∀ ts j, wantR T [61] RT = .ok (ts, j) → ¬ (ts.length = 1 ∧ ¬ (Syn.named T j = true ∧ Syn.is T (j + 1) [40] = true))) :
    oneP (RT.on fun ts i => restP T F ts i) = ((((((wantR T [61] RT).on fun x i => (Syn.name T i).on fun t j => .ok ((x, t), j)).on fun x i => (Syn.want T i [40]).on fun _ j => .ok (x, j)).on fun x i => (Syn.list T F [41] i).on fun l j => .ok ((x, l), j)).on fun x i => (Syn.want T i [59]).on fun _ j => .ok (x, j)).on fun x j => (.ok ([⟨4, x.1.2, x.1.1, x.2⟩], j) : Syn.R (List Syn.St))) := by
  cases RT with
  | error e => rfl
  | ok p =>
    obtain ⟨ts, i⟩ := p
    have h' := h ts
    show oneP (restP T F ts i) = _
    unfold wantR at h'
    simp only [on_okk] at h'
    unfold restP wantR
    simp only [on_okk]
    cases hw : Syn.want T i [61] with
    | error e => rfl
    | ok p =>
      obtain ⟨u, j⟩ := p
      have h2 := h' j (by rw [hw]; rfl)
      simp only [on_okk]
      rw [if_neg h2]
      unfold oneP callsP callP
      simp only [on_on, on_okk]
def TgI (D : DC) (nv bv : Value) (RT : Syn.R (List (List Nat))) (W : World) (tv iv : Value) (wr : World) : Prop :=
  ∃ q c ts z er a, tv = .slice q ts.length c ∧ iv = .int .i64 z ∧ Hid (wr.ownsRow W.heap.size 9 1 (.slice q ts.length c) ts.length (strC ts)) ∧ 1 ≤ ts.length ∧ ts.length ≤ 65538 ∧ Hid (Chg (fun k => k = D.bt) W wr) ∧ Hid (DS D nv bv er a wr) ∧
    ((er = 0 ∧ ∃ f j, z = (j : Nat) ∧ j ≤ D.ys.length ∧ ts.length ≤ j ∧ D.ys.length < f + j ∧ Hid (Syn.targetsF (Tk D.ys) f ts j = RT)) ∨
     (er ≠ 0 ∧ Hid (∃ k t, RT = .error (k, t) ∧ er = k ∧ k ≠ 0 ∧ a = (tk D.ys D.len t).a)))
def nextIs {α : Type} (D : DC) (r : Syn.R α) (s : List Nat) : Bool := match r with
  | .ok (_, j) => Syn.is (Tk D.ys) (j + 1) s
  | .error _ => false
/-- A target more. -/
theorem tg_app {W wr w1 w9 : World} {q q9 : Option Addr} {c c9 : Nat} {ts : List (List Nat)} {t : ByteArray} {o : Obj} (_hrow : wr.ownsRow W.heap.size 9 1 (.slice q ts.length c) ts.length (strC ts)) (hr1 : w1.ownsRow W.heap.size 9 1 (.slice q ts.length c) ts.length (strC ts)) (hC : Chg (fun k => k = D.bt) W w1) (hD : DS D nv bv er a w1)
    (ho : w9.ownsRow W.heap.size 9 1 (.slice q9 (ts.length + 1) c9) (ts.length + 1) (strC ts ++ [.string t])) (hg : (w1.alloc o).grownBy w9 (Value.slice q ts.length c).ownBlock) :
    Hid (w9.ownsRow W.heap.size 9 1 (.slice q9 (ts ++ [bl t]).length c9) (ts ++ [bl t]).length (strC (ts ++ [bl t]))) ∧ Hid (Chg (fun k => k = D.bt) W w9) ∧ Hid (DS D nv bv er a w9) := by
  have hll : (ts ++ [bl t]).length = ts.length + 1 := by simp
  refine ⟨Lib.hid ?_, Lib.hid ?_, Lib.hid (hD.grown hr1 (by decide) (by decide) ((Chg.refl _ _).alloc _) hg)⟩
  · rw [hll]
    unfold strC at ho ⊢
    rw [List.map_append, List.map_singleton, sb_bl]
    exact ho
  · exact hC.trans (((Chg.refl (fun k => (Value.slice q ts.length c).ownBlock = some k) w1).alloc _).then (grown_chg hg (fun k hk => .inl hk))) (fun k hk => .inr (hr1.lt k hk).1)
set_option maxRecDepth 100000 in
set_option maxHeartbeats 8000000 in
theorem restD {m : Mem} {w0 : World} {d N : Nat} (hN : 65540 ≤ N) (hN2 : N ≤ 100000) (hbt : D.bt < w0.heap.size) {s : Option (Nat → Syn.R (List Syn.St))} {W : World} {acc : List Syn.St} {i : Nat} {q : Option Addr} {n c : Nat} {cs : List Value} {a : Nat}
    (hi : i ≤ D.ys.length) (hn : n ≤ i) (hr : W.ownsRow w0.heap.size 47 4 (.slice q n c) n cs) (hg : BdG D m w0 q n c cs acc W) (h : DS D nv (.slice q n c) 0 a W) (hsz : w0.heap.size ≤ W.heap.size)
    (h1 : Syn.is (Tk D.ys) i (bl ⟨#[105, 102]⟩) = false) (h2 : Syn.is (Tk D.ys) i (bl ⟨#[119, 104, 105, 108, 101]⟩) = false) (h3 : Syn.is (Tk D.ys) i (bl ⟨#[115, 101, 110, 100]⟩) = false)
    (hnk : Syn.named (Tk D.ys) i = true → Syn.is (Tk D.ys) (i + 1) [91] = false ∧ Syn.is (Tk D.ys) (i + 1) [40] = false) :
    Calls Tryz.prog 68 #[PB D, .int .i64 (i : Nat), .int .i64 (d : Nat)] W (SdR D nv m w0 N acc (Syn.stmtOf (Tk D.ys) (D.ys.length + 1) s i) W) := by
  have hfew := h.few
  obtain ⟨j0, hj0, hy0, hy1, hy2⟩ := infoSt
  obtain ⟨k0, hk0, hx0, hx1, hx2⟩ := infoStr
  have HI1 := Lib.hid (is_d h i ⟨#[105, 102]⟩)
  have HI2 := Lib.hid (is_d h i ⟨#[119, 104, 105, 108, 101]⟩)
  have HI3 := Lib.hid (is_d h i ⟨#[115, 101, 110, 100]⟩)
  rw [h1] at HI1
  rw [h2] at HI2
  rw [h3] at HI3
  have HNM := Lib.hid (nameP h (CuP.start (D := D) () (i := i) hi (P := fun _ => True) trivial a))
  obtain ⟨RT, hRT⟩ : ∃ RT, (Syn.name (Tk D.ys) i).on (fun s i => Syn.targetsF (Tk D.ys) (D.ys.length + 1) [s] i) = RT := ⟨_, rfl⟩
  have HST := Lib.hid (show Syn.stmtOf (Tk D.ys) (D.ys.length + 1) s i = oneP (RT.on fun ts i => restP (Tk D.ys) (D.ys.length + 1) ts i) from by
    rw [stmtOf_eq, tx_if, tx_while, tx_send, if_neg (by rw [h1]; simp), if_neg (by rw [h2]; simp), if_neg (by rw [h3]; simp), ← hRT]
    unfold namedP
    cases hnm : Syn.named (Tk D.ys) i with
    | true =>
      obtain ⟨hb, hq⟩ := hnk hnm
      rw [name_yes D.len hnm, on_okk, on_okk, if_neg (by rw [hb]; simp), if_neg (by rw [hq]; simp)]
    | false => rw [nmA_no hnm]; rfl)
  have HBB1 := Lib.hid (show ∀ s : List Nat, s = [91] ∨ s = [40] → isB D (Syn.R.on (.ok ((), i) : Syn.R Unit) fun x i => (Syn.name (Tk D.ys) i).on fun t j => .ok ((x, t), j)) s = false from fun s hs => by
    cases hnm : Syn.named (Tk D.ys) i with
    | true =>
      obtain ⟨hb, hq⟩ := hnk hnm
      rw [on_okk, name_yes D.len hnm, on_okk]
      rcases hs with rfl | rfl
      · exact hb
      · exact hq
    | false => rw [on_okk, nmA_no hnm]; rfl)
  have HRT := Lib.hid hRT
  obtain ⟨g1, m', g2⟩ := hg
  have HB0 := Lib.hid (show BdM D m w0 q n c cs acc m' W from ⟨g1, g2⟩)
  have HR0 := Lib.hid hr
  have HNB := Lib.hid (own_not h hr (by decide))
  clear h hr g1 g2 h1 h2 h3 hnk hRT
  go_enter Tryz.func68, Tryz.ntmps68
  go_wp2_with fail
  go_at_call 37
  refine HI1.out.mono ?_
  rintro e w' ⟨rfl, rfl⟩
  go_wp2_with fail
  go_at_call 37
  refine HI2.out.mono ?_
  rintro e w' ⟨rfl, rfl⟩
  go_wp2_with fail
  go_at_call 37
  refine HI3.out.mono ?_
  rintro e w' ⟨rfl, rfl⟩
  go_wp2_with fail
  go_at_call 40
  refine HNM.out.mono ?_
  rintro e wn ⟨nt, z1, er1, a1, rfl, hcn, hdn, hcun⟩
  have HI4 := Lib.hid (isA hdn hcun.1 ⟨#[91]⟩)
  have HI5 := Lib.hid (isA hdn hcun.1 ⟨#[40]⟩)
  rw [bl_91, HBB1.out _ (.inl rfl)] at HI4
  rw [bl_40, HBB1.out _ (.inr rfl)] at HI5
  have HDN := Lib.hid hdn
  have HCN := Lib.hid hcn
  have HCUN := Lib.hid hcun
  have hszn := hcn.size
  clear hcn hdn hcun
  go_wp2_with fail
  go_at_call 37
  refine HI4.out.mono ?_
  rintro e w' ⟨rfl, rfl⟩
  go_wp2_with fail
  go_at_call 37
  refine HI5.out.mono ?_
  rintro e w' ⟨rfl, rfl⟩
  go_upto_region 28 with (fail)
  have hnew := row_new wn [Value.string nt] 9
  have hnil := World.ownsRow_nil wn W.heap.size 9 1
  go_wp2_with (at_builtin; refine wpList_append_own_at _ rfl _ _ 22 rfl W.heap.size 9 k0 _ 1 16 Tryz.underlying22 hk0 hx0 hx1 hx2 rfl (by decide) _ 0 [] rfl ((World.ownsRow_nil wn W.heap.size 9 1).alloc _) ⟨wn.heap.size, 0, none⟩ 1 1 [Value.string nt] rfl rfl hnew (one_str nt) (by unfold maxLen; omega) (by omega) (by simp; omega) ?_)
  intro v1 w1 ho1 hg1 hxx1 hat1
  obtain ⟨q1, c1, rfl⟩ := own_shape ho1
  obtain ⟨t1, t2, t3⟩ := tg_app (ts := []) (q := none) (c := 0) hnil hnil HCN.out HDN.out ho1 hg1
  have H0 : TgI D nv (.slice q n c) RT W (.slice q1 1 c1) (.int .i64 z1) w1 := by
    refine ⟨q1, c1, [bl nt], z1, er1, a1, rfl, rfl, t1, Nat.le_refl _, by simp, t2, t3, ?_⟩
    have hrt := HRT.out
    rcases HCUN.out.1.cases with ⟨x, j, hx, h4, h5, h6⟩ | ⟨k, t, hx, h4, h5, h6⟩
    · have h7 := (HCUN.out.2 x j hx).2
      rw [on_okk] at hx
      obtain ⟨t9, i9, h8, h9⟩ := Syn.R.on_ok hx
      injection h9 with h9; injection h9 with h9 h10
      have ht9 : t9 = bl nt := by rw [← h7, ← h9]
      have hj9 := (Syn.name_ok h8).2.1
      rw [h8, on_okk, ht9, h10] at hrt
      exact .inl ⟨h4, D.ys.length + 1, j, h5, h6, by simp; omega, by omega, Lib.hid hrt⟩
    · rw [on_okk] at hx
      cases hnn : Syn.name (Tk D.ys) i with
      | error e =>
        rw [hnn] at hx hrt
        injection hx with hx
        exact .inr ⟨by omega, Lib.hid ⟨k, t, by rw [← hrt, hx]; rfl, h4, h5, h6⟩⟩
      | ok p => rw [hnn] at hx; cases hx
  clear ho1 hg1 hxx1 hat1 hnil hnew t1 t2 t3
  go_wp2_with fail
  go_loopw [20, 15] (TgI D nv (.slice q n c) RT W) (fun _ iv wr => lvMs D iv wr)
  case atStart => exact H0
  case round =>
    obtain ⟨q2, c2, ts, z2, er2, a2, rfl, rfl, HO, hts, htl, HC, HD, hrel⟩ := hrel
    clear H0
    have hszr := HC.out.size
    by_cases hgo : er2 = 0 ∧ ∃ j : Nat, z2 = (j : Nat) ∧ j ≤ D.ys.length ∧ Syn.is (Tk D.ys) j [44] = true
    · obtain ⟨rfl, j', hz', hj', h44'⟩ := hgo
      obtain ⟨f, j, hzj, hj, htj, hf, HF⟩ := hrel.elim (fun h => h.2) (fun h => absurd rfl h.1)
      obtain rfl : j = j' := by omega
      subst hzj
      clear hz' hj'
      have hjl : j < D.ys.length := Syn.is_lt (tk_nones D.ys) h44'
      obtain ⟨f, rfl⟩ : ∃ f', f = f' + 1 := ⟨f - 1, by omega⟩
      have HF2 := Lib.hid (show (Syn.name (Tk D.ys) (j + 1)).on (fun s i => Syn.targetsF (Tk D.ys) f (ts ++ [s]) i) = RT from by
        have := HF.out
        rw [Syn.targetsF, if_pos h44'] at this
        exact this)
      have HI6 := Lib.hid (is_d HD.out j ⟨#[44]⟩)
      rw [bl_44, h44'] at HI6
      have hwj : IntKind.i64.wrap ((j : Int) + 1) = ((j + 1 : Nat) : Int) := by rw [IntKind.wrap_i64]; omega
      have HMS := Lib.hid (lvMs_0 (iv := .int .i64 (j : Nat)) HD.out)
      have HN := Lib.hid (nameP HD.out (CuP.start (D := D) () (i := j + 1) hjl (P := fun _ => True) trivial a2))
      clear HF h44'
      go_wp2_with fail
      go_at_call 37
      refine HI6.out.mono ?_
      rintro e w' ⟨rfl, rfl⟩
      go_wp2_with fail
      go_at_call 40
      refine HN.out.mono ?_
      rintro e w3 ⟨t, z3, er3, a3, rfl, hc3, hd3, hcu3⟩
      have hs3 := hc3.size
      have hr3 := own_chg HO.out hc3 (fun k hk e => by subst e; exact own_not HD.out HO.out (by decide) hk)
      have HD3 := Lib.hid hd3
      have HC3 := Lib.hid (HC.out.then hc3)
      have HCU3 := Lib.hid hcu3
      have hnew := row_new w3 [Value.string t] 9
      clear hc3 hd3 hcu3
      go_upto_region 31 with (fail)
      go_wp2_with (at_builtin; refine wpList_append_own_at _ rfl _ _ 22 rfl W.heap.size 9 k0 _ 1 16 Tryz.underlying22 hk0 hx0 hx1 hx2 rfl (by decide) _ _ _ rfl (hr3.alloc _) ⟨w3.heap.size, 0, none⟩ 1 1 [Value.string t] rfl rfl hnew (one_str t) (by unfold maxLen; omega) (by omega) (by simp; omega) ?_)
      intro v9 w9 ho9 hg9 hxx9 hat9
      obtain ⟨q9, c9, rfl⟩ := own_shape ho9
      obtain ⟨t1, t2, t3⟩ := tg_app HO.out hr3 HC3.out HD3.out ho9 hg9
      clear ho9 hg9 hxx9 hat9 hr3 hnew
      go_wp2_with fail
      rcases HCU3.out.1.cases with ⟨x, j3, hx, h4, h5, h6⟩ | ⟨k, tt, hx, h4, h5, h6⟩
      · have hx1 := (HCU3.out.2 x j3 hx).2
        rw [on_okk] at hx
        obtain ⟨t9, i9, h7, h8⟩ := Syn.R.on_ok hx
        injection h8 with h8; injection h8 with h8 h9
        have ht9 : t9 = bl t := by rw [← hx1, ← h8]
        have hj9 := (Syn.name_ok h7).2.1
        subst h4
        refine ⟨⟨q9, c9, ts ++ [bl t], z3, 0, a3, by simp, rfl, t1, by simp, by simp; omega, t2, t3, .inl ⟨rfl, f, j3, h5, h6, by simp; omega, by omega, Lib.hid ?_⟩⟩, ?_⟩
        · have := HF2.out
          rw [h7, on_okk, ht9, h9] at this
          exact this
        · rw [lvMs_0 t3.out, HMS.out, h5]
          simp [intOf]; omega
      · have hE : RT = .error (k, tt) := by
          have := HF2.out
          rw [on_okk] at hx
          cases hnn : Syn.name (Tk D.ys) (j + 1) with
          | error e =>
            rw [hnn] at hx this
            injection hx with hx
            rw [← this, hx]; rfl
          | ok p => rw [hnn] at hx; cases hx
        refine ⟨⟨q9, c9, ts ++ [bl t], z3, er3, a3, by simp, rfl, t1, by simp, by simp; omega, t2, t3, .inr ⟨by omega, Lib.hid ⟨k, tt, hE, h4, h5, h6⟩⟩⟩, ?_⟩
        rw [lvMs_f t3.out (by omega), HMS.out]
        simp [intOf]; omega
    · have hcu : CuP D RT (fun x => x = ts) z2 er2 a2 := by
        rcases hrel with ⟨rfl, f, j, rfl, hj, htj, hf, HF⟩ | ⟨he, HE⟩
        · obtain ⟨f, rfl⟩ : ∃ f', f = f' + 1 := ⟨f - 1, by omega⟩
          have h44 : ¬ Syn.is (Tk D.ys) j [44] = true := fun e => hgo ⟨rfl, j, rfl, hj, e⟩
          have := HF.out
          rw [Syn.targetsF, if_neg h44] at this
          rw [← this]
          exact ⟨⟨rfl, rfl, hj⟩, fun x j e => by injection e with e; injection e with e _; exact e.symm⟩
        · obtain ⟨k, t, rfl, h1, h2, h3⟩ := HE.out
          exact ⟨⟨h1, h2, h3⟩, fun x j e => by cases e⟩
      have hi6 : Calls Tryz.prog 37 #[PB D, .int .i64 z2, .string ⟨#[44]⟩] wr fun e w' => e = .returned (.bool false) ∧ wr = w' := by
        rcases hrel with ⟨rfl, f, j, rfl, hj, htj, hf, HF⟩ | ⟨he, HE⟩
        · have h44 : Syn.is (Tk D.ys) j [44] = false := by
            cases hq : Syn.is (Tk D.ys) j [44] with
            | false => rfl
            | true => exact (hgo ⟨rfl, j, rfl, hj, hq⟩).elim
          have := is_d HD.out j ⟨#[44]⟩
          rwa [bl_44, h44] at this
        · exact is_f HD.out he z2 _
      have HI6 := Lib.hid hi6
      have HCU := Lib.hid hcu
      have HW := Lib.hid (wantP HD.out hcu ⟨#[61]⟩)
      clear hi6 hcu hrel hgo
      go_wp2_with fail
      go_at_call 37
      refine HI6.out.mono ?_
      rintro e w' ⟨rfl, rfl⟩
      go_wp2_with fail
      go_at_call 41
      refine HW.out.mono ?_
      rintro e w3 ⟨z3, er3, a3, rfl, hc3, hd3, hcu3⟩
      have hs3 := hc3.size
      have hr3 := own_chg HO.out hc3 (fun k hk e => by subst e; exact own_not HD.out HO.out (by decide) hk)
      have hcw : Chg (fun k => k = D.bt) W w3 := HC.out.then hc3
      obtain ⟨R2, hR2⟩ : ∃ R2, wantR (Tk D.ys) [61] RT = R2 := ⟨_, rfl⟩
      have hcu3 : CuP D R2 (fun x => x = ts) z3 er3 a3 := by rw [← hR2]; exact hcu3
      have HD3 := Lib.hid hd3
      have HC3 := Lib.hid hcw
      have HCU3 := Lib.hid hcu3
      have HR3 := Lib.hid hr3
      have HR2 := Lib.hid hR2
      have HNA := Lib.hid (namedA hd3 hcu3.1)
      have HNX := Lib.hid (show namedB D R2 = true → Calls Tryz.prog 37 #[PB D, .int .i64 (wrap64 (z3 + 1)), .string ⟨#[40]⟩] w3 fun e w' => e = .returned (.bool (nextIs D R2 [40])) ∧ w3 = w' from fun hnb => by
        rcases hcu3.1.cases with ⟨x, j, hx, rfl, rfl, hj⟩ | ⟨k, t, hx, _⟩
        · have hwj : wrap64 ((j : Int) + 1) = ((j + 1 : Nat) : Int) := by unfold wrap64; omega
          rw [hwj]
          have := is_d hd3 (j + 1) ⟨#[40]⟩
          rw [bl_40] at this
          rw [hx]
          exact this
        · rw [hx] at hnb; cases hnb)
      obtain ⟨b, hbb⟩ : ∃ b : Bool, (decide (ts.length = 1) && !(namedB D R2 && nextIs D R2 [40])) = b := ⟨_, rfl⟩
      have HBB := Lib.hid hbb
      clear hcu3 hd3 hc3 hcw hr3 hR2 hbb HW HI6 HI1 HI2 HI3 HI4 HI5 HNM HBB1 HCUN
      go_upto_region 34 with (fail)
      go_cut [216] from 202 to 217 (fun v wx => v = .bool b ∧ wx = w3)
      case first =>
        cases hd1 : decide (ts.length = 1) with
        | true =>
          have h1i : (((ts.length : Nat) : Int) == 1) = true := by
            have := of_decide_eq_true hd1
            simp; omega
          rw [hd1] at HBB
          clear hd1
          cases hnb : namedB D R2 with
          | false =>
            rw [hnb] at HNA HBB
            have hb1 : b = true := HBB.out.symm
            subst hb1
            clear HBB HNX
            go_wp2_with (go_at_call 38; refine HNA.out.mono ?_; rintro e w' ⟨rfl, rfl⟩)
            go_meet
            exact ⟨rfl, rfl⟩
          | true =>
            have HNY := Lib.hid (HNX.out hnb)
            rw [hnb] at HNA HBB
            obtain ⟨nx, hnx⟩ : ∃ nx, nextIs D R2 [40] = nx := ⟨_, rfl⟩
            rw [hnx] at HNY HBB
            clear hnx HNX hnb
            cases nx
            · have hb1 : b = true := HBB.out.symm
              subst hb1
              clear HBB
              go_wp2_with fail
              go_at_call 38
              refine HNA.out.mono ?_
              rintro e w' ⟨rfl, rfl⟩
              go_wp2_with fail
              go_at_call 37
              refine HNY.out.mono ?_
              rintro e w' ⟨rfl, rfl⟩
              go_wp2_with fail
              go_meet
              exact ⟨rfl, rfl⟩
            · have hb1 : b = false := HBB.out.symm
              subst hb1
              clear HBB
              go_wp2_with fail
              go_at_call 38
              refine HNA.out.mono ?_
              rintro e w' ⟨rfl, rfl⟩
              go_wp2_with fail
              go_at_call 37
              refine HNY.out.mono ?_
              rintro e w' ⟨rfl, rfl⟩
              go_wp2_with fail
              go_meet
              exact ⟨rfl, rfl⟩
        | false =>
          have h1i : (((ts.length : Nat) : Int) == 1) = false := by
            have := of_decide_eq_false hd1
            simp; omega
          rw [hd1] at HBB
          clear hd1
          have hb1 : b = false := HBB.out.symm
          subst hb1
          clear HBB HNX HNA
          go_wp2_with fail
          go_meet
          exact ⟨rfl, rfl⟩
      case rest =>
      obtain ⟨rfl, hwc⟩ := hcut
      have hwc' := hwc.symm
      clear hwc
      subst hwc'
      have hszw := HC3.out.size
      have hb0 := BdM.chg HB0.out HC3.out
      have hrw3 := own_chg HR0.out HC3.out (fun k hk e => by subst e; exact HNB.out hk)
      obtain ⟨m1, e1, b1, e2⟩ := bd_row2 hb0 hrw3 HD3.out hsz HR3.out (by decide) (by decide) (fun k hk => HB0.out.2.2.1.lt (HR3.out.lt k hk).1)
      have HB1 := Lib.hid b1
      have HE2 := Lib.hid e2
      clear hb0 e1 b1 e2
      go_upto_if 216 with (fail)
      cases b with
      | true =>
        have HCH := Lib.hid (assign_chain (Tk D.ys) (D.ys.length + 1) RT (fun ts' j e => by
          rw [HR2.out] at e
          have e1 := HCU3.out.2 _ _ e
          subst e1
          have := HBB.out
          rw [e] at this
          simp [namedB, nextIs] at this
          refine ⟨this.1, fun he => ?_⟩
          rcases this.2 with h | h
          · rw [h] at he; cases he.1
          · rw [h] at he; cases he.2))
        have HL := Lib.hid (levelP HD3.out HCU3.out)
        rw [HR2.out] at HCH
        go_wp2_with fail
        go_at_call 89
        refine HL.out.mono ?_
        rintro e w4 ⟨q4, c4, l4, z4, er4, a4, rfl, ho4, hp4, hc4, hd4, hcu4⟩
        have hs4 := hc4.size
        have HO4 := Lib.hid ho4
        have HC4 := Lib.hid hc4
        have HD4 := Lib.hid hd4
        have HCU4 := Lib.hid hcu4
        have hcc : Chg (fun k => k = D.bt) W w4 := HC3.out.then hc4
        have HCC := Lib.hid hcc
        have hr4 := own_chg HR0.out hcc (fun k hk e => by subst e; exact HNB.out hk)
        obtain ⟨qr, _, _, _, _, _, x5, hz, hltb, _⟩ := hd4.raw
        have z5 := hz 5
        clear ho4 hc4 hd4 hcu4 hcc hz
        go_upto_region 36 with (fail)
        have hnew : ∀ (j : Nat) (u : Value), [Value.int .i64 1, .string ⟨#[]⟩, .slice q2 ts.length c2, .slice (some ⟨w4.heap.size, 0, none⟩) 1 1][j]? = some u → ((w4.alloc (.cells #[.slice q4 l4.length c4] 49)).alloc (.cells #[.int .i64 1, .string ⟨#[]⟩, .slice q2 ts.length c2, .slice (some ⟨w4.heap.size, 0, none⟩) 1 1] 47)).cell? ((⟨w4.heap.size + 1, 0, none⟩ : Addr).add j) = some u := by
          have := row_new (w4.alloc (.cells #[.slice q4 l4.length c4] 49)) [Value.int .i64 1, .string ⟨#[]⟩, .slice q2 ts.length c2, .slice (some ⟨w4.heap.size, 0, none⟩) 1 1] 47
          simpa only [World.size_alloc] using this
        have hone := st_two 1 ⟨#[]⟩ (some ⟨w4.heap.size, 0, none⟩) 1 1 q2 ts.length c2
        go_wp2_with (at_builtin; refine wpList_append_own_at _ rfl _ _ 39 rfl w0.heap.size 47 j0 _ 4 72 Tryz.underlying39 hj0 hy0 hy1 hy2 rfl (by decide) _ _ _ rfl ((hr4.alloc _).alloc _) ⟨w4.heap.size + 1, 0, none⟩ 1 1 [Value.int .i64 1, .string ⟨#[]⟩, .slice q2 ts.length c2, .slice (some ⟨w4.heap.size, 0, none⟩) 1 1] rfl rfl hnew hone (by unfold maxLen; omega) (by omega) (by simp; omega) ?_)
        intro v9 w9 ho9 hg9 hxx hat9
        obtain ⟨q9, c9, rfl⟩ := own_shape ho9
        have h02 : Chg (fun _ => False) w4 ((w4.alloc (.cells #[.slice q4 l4.length c4] 49)).alloc (.cells #[.int .i64 1, .string ⟨#[]⟩, .slice q2 ts.length c2, .slice (some ⟨w4.heap.size, 0, none⟩) 1 1] 47)) := ((Chg.refl _ w4).alloc _).alloc _
        have hd9 := HD4.out.grown hr4 (by decide) (by decide) h02 hg9
        obtain ⟨_, _, _, _, _, _, y5, hz9, hlt9, _⟩ := hd9.raw
        have y6 := hz9 5
        obtain ⟨s1, s2, s3⟩ := bd_store (by omega) hr4 HD4.out h02 hg9 ho9
        have HS1 := Lib.hid s1
        have HS2 := Lib.hid s2
        have HS3 := Lib.hid s3
        have HG9 := Lib.hid (And.intro hg9 (And.intro hat9 hxx))
        have HW := Lib.hid (wantP s1 HCU4.out ⟨#[59]⟩)
        clear s1 s2 s3 hg9 hat9 hxx h02 hd9 ho9 hnew hone hz9
        go_wp2_with fail
        go_at_call 41
        refine HW.out.mono ?_
        rintro e w11 ⟨z7, er7, a7, rfl, hc7, hd7, hcu7⟩
        have HC7 := Lib.hid hc7
        have HD7 := Lib.hid hd7
        have HCU7 := Lib.hid hcu7
        clear hc7 hd7 hcu7
        go_wp2_with fail
        go_ret
        obtain ⟨m2, e4, b3, e5, e6⟩ := bd_row hbt (by omega) HB1.out hrw3 HC4.out HO4.out
        obtain ⟨b4, e7, e8⟩ := bd_put hbt (by omega) b3 hr4 (.cells #[.slice q4 l4.length c4] 49)
        obtain ⟨hg9, hat9, hxx⟩ := HG9.out
        have hsm : StM (m2.put w4.heap.size (.cells #[.slice q4 l4.length c4] 49)) [Value.int .i64 1, .string ⟨#[]⟩, .slice q2 ts.length c2, .slice (some ⟨w4.heap.size, 0, none⟩) 1 1] ⟨1, [], ts, [l4]⟩ :=
          ⟨_, _, rfl, RowM.le HE2.out (e4.trans e7), ex_one e8 (RowM.le e5 e7)⟩
        have hend := bd_end hbt (by simp; omega) b4 (hr4.alloc _) ((Chg.refl (fun _ => False) (w4.alloc (.cells #[.slice q4 l4.length c4] 49))).alloc (.cells #[.int .i64 1, .string ⟨#[]⟩, .slice q2 ts.length c2, .slice (some ⟨w4.heap.size, 0, none⟩) 1 1] 47)) hsm hg9 (q9 := q9) (c9 := c9) (by
          rcases hat9 with e | e
          · exact .inl e
          · exact .inr ⟨_, by simp, e⟩)
        refine ⟨q9, c9, n + 1, _, z7, er7, a7, rfl, own_chg HS2.out HC7.out (fun k hk e => by subst e; exact own_not HS1.out HS2.out (by decide) hk), by omega, ((HCC.out.mono (fun k e => .inl (.inl e))).then HS3.out).then (HC7.out.mono (fun k e => .inl (.inl e))), HD7.out, ?_⟩
        rw [HST.out, HCH.out]
        have hcu := HCU7.out
        simp only [b_59] at hcu
        refine sd_end hcu (fun x => [⟨1, [], x.1, [x.2]⟩]) ?_
        rintro x ⟨x1, x2⟩
        simp only [x1, x2]
        exact hend.chg HC7.out
      | false =>
        have HCH := Lib.hid (calls_chain (Tk D.ys) (D.ys.length + 1) RT (fun ts' j e => by
          rw [HR2.out] at e
          have e1 := HCU3.out.2 _ _ e
          subst e1
          have := HBB.out
          rw [e] at this
          simpa [namedB, nextIs] using this))
        have HN := Lib.hid (nameP HD3.out HCU3.out)
        rw [HR2.out] at HCH
        go_wp2_with fail
        go_at_call 40
        refine HN.out.mono ?_
        rintro e w4 ⟨tn, z4, er4, a4, rfl, hc4, hd4, hcu4⟩
        have HC4 := Lib.hid hc4
        have HW4 := Lib.hid (wantP hd4 hcu4 ⟨#[40]⟩)
        clear hc4 hd4 hcu4
        go_wp2_with fail
        go_at_call 41
        refine HW4.out.mono ?_
        rintro e w5 ⟨z5, er5, a5, rfl, hc5, hd5, hcu5⟩
        have hc35 : Chg (fun k => k = D.bt) w3 w5 := HC4.out.then hc5
        have hb5 := BdM.chg HB1.out hc35
        have hrw5 := own_chg hrw3 hc35 (fun k hk e => by subst e; exact HNB.out hk)
        have hs5 := hc35.size
        have HC35 := Lib.hid hc35
        have HB5 := Lib.hid hb5
        have HL := Lib.hid (listP hd5 hb5.2.2.1 hb5.2.2.2.2.1 hcu5 ⟨#[41]⟩)
        clear hc5 hd5 hcu5 hc35 hb5
        go_wp2_with fail
        go_at_call 69
        refine HL.out.mono ?_
        rintro e w6 ⟨q6, c6, n6, cs6, z6, er6, a6, rfl, ho6, hc6, hd6, hcu6⟩
        have hs6 := hc6.size
        have HO6 := Lib.hid ho6
        have HC6 := Lib.hid hc6
        have HD6 := Lib.hid hd6
        have HCU6 := Lib.hid hcu6
        have hr6 := own_chg hrw5 hc6 (fun k hk e => by subst e; exact HNB.out hk)
        have HCC := Lib.hid ((HC3.out.then HC35.out).then hc6 : Chg (fun k => k = D.bt) W w6)
        obtain ⟨qr, _, _, _, _, _, x5, hz, hltb, _⟩ := hd6.raw
        have z55 := hz 5
        clear ho6 hc6 hd6 hcu6 hz
        go_upto_region 43 with (fail)
        have hnew := row_new w6 [Value.int .i64 4, .string tn, .slice q2 ts.length c2, .slice q6 n6 c6] 47
        have hone := st_two 4 tn q6 n6 c6 q2 ts.length c2
        go_wp2_with (at_builtin; refine wpList_append_own_at _ rfl _ _ 39 rfl w0.heap.size 47 j0 _ 4 72 Tryz.underlying39 hj0 hy0 hy1 hy2 rfl (by decide) _ _ _ rfl (hr6.alloc _) ⟨w6.heap.size, 0, none⟩ 1 1 [Value.int .i64 4, .string tn, .slice q2 ts.length c2, .slice q6 n6 c6] rfl rfl hnew hone (by unfold maxLen; omega) (by omega) (by simp; omega) ?_)
        intro v9 w9 ho9 hg9 hxx hat9
        obtain ⟨q9, c9, rfl⟩ := own_shape ho9
        have h02 : Chg (fun _ => False) w6 (w6.alloc (.cells #[.int .i64 4, .string tn, .slice q2 ts.length c2, .slice q6 n6 c6] 47)) := (Chg.refl _ w6).alloc _
        have hd9 := HD6.out.grown hr6 (by decide) (by decide) h02 hg9
        obtain ⟨_, _, _, _, _, _, y5, hz9, hlt9, _⟩ := hd9.raw
        have y6 := hz9 5
        obtain ⟨s1, s2, s3⟩ := bd_store (by omega) hr6 HD6.out h02 hg9 ho9
        have HS1 := Lib.hid s1
        have HS2 := Lib.hid s2
        have HS3 := Lib.hid s3
        have HG9 := Lib.hid (And.intro hg9 (And.intro hat9 hxx))
        have HW := Lib.hid (wantP s1 HCU6.out ⟨#[59]⟩)
        clear s1 s2 s3 hg9 hat9 hxx h02 hd9 ho9 hnew hone hz9
        go_wp2_with fail
        go_at_call 41
        refine HW.out.mono ?_
        rintro e w11 ⟨z7, er7, a7, rfl, hc7, hd7, hcu7⟩
        have HC7 := Lib.hid hc7
        have HD7 := Lib.hid hd7
        have HCU7 := Lib.hid hcu7
        clear hc7 hd7 hcu7
        go_wp2_with fail
        go_ret
        obtain ⟨hg9, hat9, hxx⟩ := HG9.out
        refine ⟨q9, c9, n + 1, _, z7, er7, a7, rfl, own_chg HS2.out HC7.out (fun k hk e => by subst e; exact own_not HS1.out HS2.out (by decide) hk), by omega, ((HCC.out.mono (fun k e => .inl (.inl e))).then HS3.out).then (HC7.out.mono (fun k e => .inl (.inl e))), HD7.out, ?_⟩
        rw [HST.out, HCH.out]
        have hcu := HCU7.out
        simp only [bl_40, bl_41, b_59] at hcu
        refine sd_end hcu (fun x => [⟨4, x.1.2, x.1.1, x.2⟩]) ?_
        rintro x ⟨⟨x1, x2⟩, x3⟩
        obtain ⟨m2, e3, b2, e4⟩ := bd_list hbt (by omega) HB5.out hrw5 HC6.out HD6.out hr6 HO6.out x3
        have hsm : StM m2 [Value.int .i64 4, .string tn, .slice q2 ts.length c2, .slice q6 n6 c6] ⟨4, x.1.2, x.1.1, x.2⟩ := ⟨_, _, by simp only [x2]; rw [sb_bl]; rfl, by simp only [x1]; exact RowM.le HE2.out e3, e4⟩
        exact (bd_end hbt (by omega) b2 hr6 ((Chg.refl (fun _ => False) w6).alloc (.cells #[.int .i64 4, .string tn, .slice q2 ts.length c2, .slice q6 n6 c6] 47)) hsm hg9 (q9 := q9) (c9 := c9) (by
          rcases hat9 with e | e
          · exact .inl e
          · exact .inr ⟨_, by omega, e⟩)).chg HC7.out
end
end Go.Proofs.YtnmcjkabihihiaaGreatDoor

/- The document's statements, at each depth. -/
namespace Go.Proofs.YtnmcjkabihihiaaGreatDoor
open Go Go.RowKit Go.Proofs.Mm

section
variable {D : DC} {nv bv : Value} {er a : Nat} {w : World}
theorem SdR.more {m : Mem} {w0 W W' : World} {N N' : Nat} {acc : List Syn.St} {r : Syn.R (List Syn.St)} {e : Ending} (h : SdR D nv m w0 N acc r W e W') (hN : N ≤ N') : SdR D nv m w0 N' acc r W e W' := by
  obtain ⟨q, c, n, cs, z, er, a, h1, h2, h3, h4⟩ := h
  exact ⟨q, c, n, cs, z, er, a, h1, h2, by omega, h4⟩
theorem stmtD_one {m : Mem} {w0 : World} {d N : Nat} (hd : d ≤ 12) (hN : 65540 ≤ N) (hN2 : N < 100000) (hbt : D.bt < w0.heap.size) {s : Option (Nat → Syn.R (List Syn.St))} (hs : BkD D nv m w0 N d s) :
    SdD D nv m w0 (N + 1) 68 (fun i => #[PB D, .int .i64 (i : Nat), .int .i64 (d : Nat)]) (Syn.stmtOf (Tk D.ys) (D.ys.length + 1) s) := by
  intro W acc i q c n cs a hi hn hr hg h hsz
  cases h1 : Syn.is (Tk D.ys) i (bl ⟨#[105, 102]⟩) with
  | true => exact ifD hd hN (by omega) hbt hs hi hn hr hg h hsz h1
  | false =>
  cases h2 : Syn.is (Tk D.ys) i (bl ⟨#[119, 104, 105, 108, 101]⟩) with
  | true => exact whileD hd hN (by omega) hbt hs hi hn hr hg h hsz h1 h2
  | false =>
  cases h3 : Syn.is (Tk D.ys) i (bl ⟨#[115, 101, 110, 100]⟩) with
  | true => exact (sendD hN (by omega) hbt hi hn hr hg h hsz h1 h2 h3).mono fun e w' h => h.more (by omega)
  | false =>
  by_cases hst : Syn.named (Tk D.ys) i = true ∧ Syn.is (Tk D.ys) (i + 1) [91] = true
  · exact (storeD hN (by omega) hbt hi hn hr hg h hsz hst.1 hst.2).mono fun e w' h => h.more (by omega)
  by_cases hcl : Syn.named (Tk D.ys) i = true ∧ Syn.is (Tk D.ys) (i + 1) [40] = true
  · refine (callD hN (by omega) hbt hi hn hr hg h hsz hcl.1 ?_ hcl.2).mono fun e w' h => h.more (by omega)
    cases hb : Syn.is (Tk D.ys) (i + 1) (bl ⟨#[91]⟩) with
    | false => rfl
    | true => exact (hst ⟨hcl.1, hb⟩).elim
  · refine (restD hN (by omega) hbt hi hn hr hg h hsz h1 h2 h3 (fun hnm => ?_)).mono fun e w' h => h.more (by omega)
    constructor
    · cases hb : Syn.is (Tk D.ys) (i + 1) [91] with
      | false => rfl
      | true => exact (hst ⟨hnm, hb⟩).elim
    · cases hb : Syn.is (Tk D.ys) (i + 1) [40] with
      | false => rfl
      | true => exact (hcl ⟨hnm, hb⟩).elim
theorem SdD.more {m : Mem} {w0 : World} {N N' : Nat} {K : FuncId} {args : Nat → Array Value} {p : Nat → Syn.R (List Syn.St)} (h : SdD D nv m w0 N K args p) (hN : N ≤ N') : SdD D nv m w0 N' K args p := by
  intro W acc i q c n cs a h1 h2 h3 h4 h5 h6
  exact (h W acc i q c n cs a h1 h2 h3 h4 h5 h6).mono fun e w' h => h.more hN
/-- **A statement**, in d blocks. -/
theorem stmt_all {m : Mem} {w0 : World} (hbt : D.bt < w0.heap.size) : ∀ d, d ≤ 12 → SdD D nv m w0 (65541 + d) 68 (fun i => #[PB D, .int .i64 (i : Nat), .int .i64 ((12 - d : Nat) : Int)]) (Syn.stmtD (Tk D.ys) (D.ys.length + 1) d)
  | 0, _ => stmtD_one (d := 12) (N := 65540) (by omega) (by omega) (by omega) hbt (s := none) ⟨(fun p h => by cases h), (fun p h => by cases h), fun i hi => Syn.block_fit (tk_nones D.ys) (by omega) (fun p h => by cases h) (fun p h => by cases h) hi, block_deepD (by omega)⟩
  | d + 1, h => by
    have ih := stmt_all (m := m) hbt d (by omega)
    refine stmtD_one (d := 12 - (d + 1)) (N := 65541 + d) (by omega) (by omega) (by omega) hbt (s := some (Syn.stmtD (Tk D.ys) (D.ys.length + 1) d)) ⟨(fun p h => by cases h; exact stmtD_cnt d), (fun p h => by cases h; exact stmtD_no d), fun i hi => Syn.block_fit (tk_nones D.ys) (by omega) (fun p h => by cases h; exact Syn.stmt_fit (tk_nones D.ys) (by omega) d) (fun p h => by cases h; exact Syn.stmt_good d) hi, ?_⟩
    rw [show 12 - (d + 1) + 1 = 12 - d by omega]
    exact blockD (by omega) (by omega) hbt (stmtD_cnt d) (Syn.stmt_fit (tk_nones D.ys) (by omega) d) (Syn.stmt_good d) ih
end
end Go.Proofs.YtnmcjkabihihiaaGreatDoor
