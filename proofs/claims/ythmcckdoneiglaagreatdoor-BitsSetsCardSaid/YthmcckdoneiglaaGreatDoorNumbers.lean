/- Numbers of package bits: for every label and every memory in which the library's tables lie. -/
import Derived.Test.YthmcckdoneiglaaGreatDoorN
import Derived.OwnWalkIn
namespace Go.Proofs.YthmcckdoneiglaaGreatDoor
open Go Go.RowKit Go.Shelf

attribute [local go_sem] Oper.semAt_some

theorem info3 : ∃ i, Tryz.prog.info? 3 = some i ∧ i.zero = some (.int .i64 0) ∧ i.size = 1 ∧ i.bytes = 8 := by
  have h : (Tryz.prog.info? 3).map (fun i => (i.zero, i.size, i.bytes)) = some (some (.int .i64 0), 1, 8) := by kernel_rfl
  cases hi : Tryz.prog.info? 3 with
  | none => rw [hi] at h; cases h
  | some i =>
    rw [hi] at h
    simp only [Option.map_some, Option.some.injEq, Prod.mk.injEq] at h
    obtain ⟨e1, e2, e3⟩ := h
    exact ⟨i, rfl, e1, e2, e3⟩

def prVals (l : List Pr) : List Nat := l.map (·.val)
theorem prVals_snoc (l : List Pr) (k : Pr) : prVals (l ++ [k]) = prVals l ++ [k.val] := by simp [prVals]
def numVals (l : List Nat) : List Value := l.map fun (k : Nat) => Value.int .i64 (k : Int)

theorem cell_new_l (W : World) (v : Value) (t : TypeId) : (W.alloc (.cells #[v] t)).cell? ⟨W.heap.size, 0, none⟩ = some v ∧ (W.alloc (.cells #[v] t)).frozen? ⟨W.heap.size, 0, none⟩ = false :=
  ⟨by rw [World.cell?_alloc_new]; rfl, by rw [World.frozen?_alloc_new]⟩
theorem cell_alloc_l {W : World} {a : Addr} {v : Value} (o : Obj) (h : W.cell? a = some v) : (W.alloc o).cell? a = some v := cell_kept h (World.grownBy_alloc W o none) (fun r e => by cases e)
theorem frozen_alloc_l {W : World} {a : Addr} {v : Value} (o : Obj) (h : W.cell? a = some v) (hf : W.frozen? a = false) : (W.alloc o).frozen? a = false := (frozen_kept h (World.grownBy_alloc W o none) (fun r e => by cases e)).trans hf

theorem below_row {n b : Nat} {W W' : World} (hg : W.grownBy W' (some b)) (h : n ≤ W.heap.size ∧ n ≤ b) : Below n W W' :=
  ⟨hg.os, hg.tape, hg.output, hg.size, fun k hk => hg.block k (by omega) (by intro e; injection e with e; omega)⟩
theorem newHere (W : World) (k : Nat) : ∀ (j : Nat) (u : Value), [Value.int .i64 (k : Int)][j]? = some u → (W.alloc (.cells #[.int .i64 (k : Int)] 3)).cell? ((⟨W.heap.size, 0, none⟩ : Addr).add j) = some u := by
  intro j u h
  cases j with
  | zero =>
    obtain rfl : Value.int .i64 (k : Int) = u := by simpa using h
    exact (cell_new_l W _ 3).1
  | succ j => simp at h
theorem oneHere (k : Nat) : ∀ u ∈ [Value.int .i64 (k : Int)], u.oneCell' = true := by
  intro u h
  obtain rfl : u = Value.int .i64 (k : Int) := by simpa using h
  rfl

theorem Own.row {b : Nat} {v : Value} {k : Nat} {xs : List Value} {W W' : World} {row : Option Nat} (h : W.ownsRow b 3 1 v k xs) (hg : W.grownBy W' row)
    (hr : ∀ r, row = some r → ∃ o : Obj, W.heap[r]? = some o ∧ o.isCells = false) : W'.ownsRow b 3 1 v k xs := by
  refine h.kept hg ?_
  rcases h.2 with ⟨rfl, _⟩ | ⟨g, cap, cur, rfl, _, hgb, _⟩
  · exact .inl rfl
  · refine .inr fun e' => ?_
    obtain ⟨o, ho, hc⟩ := hr g (by simpa [Value.ownBlock] using e'.symm)
    rw [hgb] at ho; cases ho; cases hc

set_option maxRecDepth 100000 in
set_option maxHeartbeats 1000000 in
theorem each1_len (n l Bx n₀ x : Nat) (hn₀ : 0 < n₀) (hx : x < 18446744073709551616) (J Jx : List Pr → World → Prop)
    (hY : ∀ pre k W, J pre W → pre.length < (bitsOf x).length → YieldAt Fence.wide (n - 1) Tryz.prog l #[.int .i64 (k.val : Int)] W fun e W' =>
      (e = .returned (.bool true) ∧ J (pre ++ [k]) W' ∧ Below n₀ W W') ∨ (e = .returned (.bool false) ∧ Jx (pre ++ [k]) W'))
    (W : World) (hT : TabAt 0 Lib.deBruijn64tab W) (hB : W.cell? ⟨Bx, 0, none⟩ = some (.int .u64 (x : Int))) (h0 : J [] W) :
    CallsIn Fence.wide n Tryz.prog 31 #[.func (.yield l) #[] #[], .pointer (some ⟨Bx, 0, none⟩)] W fun e W' => (∃ v, e = .returned v) ∧
      ((∃ ys : List Pr, ys.map (·.val) = bitsOf x ∧ J ys W') ∨ (∃ pre : List Pr, pre.map (·.val) <+: bitsOf x ∧ Jx pre W')) := by
  refine callsIn_of_wp Tryz.func31 rfl trivial ?_ rfl
  simp only [Tryz.ntmps31, List.size_toArray, List.length_cons, List.length_nil, Nat.reduceAdd, Nat.reduceSub, Array.replicate_succ, Array.replicate_zero, List.push_toArray, List.append_toArray, List.nil_append, List.cons_append]
  gi_wp2
  gi_loopw [3] (fun t wr => ∃ (pre : List Pr) (y : Nat), y < 18446744073709551616 ∧ t = .int .u64 (y : Int) ∧ pre.map (·.val) ++ bitsOf y = bitsOf x ∧ TabAt 0 Lib.deBruijn64tab wr ∧ J pre wr)
    (fun t _ => (intOf t).toNat)
  case atStart =>
    exact ⟨[], x, hx, rfl, rfl, hT, h0⟩
  case round =>
    obtain ⟨pre, y, hy, rfl, hp, hTr, hJs⟩ := hrel
    by_cases hy0 : y = 0
    · subst hy0
      gi_wp2
      go_end0
      exact ⟨⟨_, rfl⟩, .inl ⟨pre, by simpa [bitsOf_zero] using hp, hJs⟩⟩
    · obtain ⟨hst, hk, hlt⟩ := bitsOf_step y hy0 hy
      have hpl : pre.length < (bitsOf x).length := by
        have h1 := congrArg List.length hp
        rw [hst] at h1
        simp only [List.length_append, List.length_map, List.length_cons] at h1
        omega
      have hcall := same_flip (Tryz.bits_TrailingZeros64 y hy wr (fun _ => hTr))
      generalize Lib.ctz 64 y = c at hst hk hcall
      obtain ⟨fn, tmps, assign, body, hy1, hR⟩ := hY pre ⟨c, hk⟩ wr hJs hpl
      have hy0' : ((y : Int) != 0) = true := by simp; omega
      have hlt' : y &&& (y - 1) < 18446744073709551616 := by omega
      have HST := Lib.hid hst
      have HP := Lib.hid hp
      have HLT := Lib.hid hlt
      have HL2 := Lib.hid hlt'
      have HA := Lib.hid (bits_and_u64_nat y (y - 1) hy (by omega))
      have HW := Lib.hid (show IntKind.u64.wrap ((y : Int) - 1) = ((y - 1 : Nat) : Int) from by rw [show ((y : Int) - 1) = ((y - 1 : Nat) : Int) from by omega, cast_wrap _ (by omega)])
      clear hy0 hst hp hlt hpl hlt'
      gi_wp2_with (refine ⟨trivial, (fun h => by cases h), ?_⟩; gi_at_call 32; refine (callsIn_wide.2 hcall).mono ?_; rintro e w' ⟨rfl, rfl⟩)
      refine ⟨(fun h => by cases h), hR.mono ?_⟩
      rintro e W3 (⟨rfl, hJ3, hk3⟩ | ⟨rfl, hJx3⟩)
      · gi_wp2
        rw [HW.out, HA.out]
        exact ⟨⟨pre ++ [⟨c, hk⟩], y &&& (y - 1), HL2.out, rfl, by rw [← HP.out, HST.out]; simp, tab_below hn₀ hk3 hTr, hJ3⟩, by have := HLT.out; simp [intOf]; omega⟩
      · gi_wp2
        refine bodyPost_ret (results_none rfl _ _ _) rfl ?_
        exact ⟨⟨_, rfl⟩, .inr ⟨pre ++ [⟨c, hk⟩], ⟨bitsOf (y &&& (y - 1)), by rw [← HP.out, HST.out]; simp⟩, hJx3⟩⟩

/-- The sequence, with how many there are at most. -/
theorem each_stops_len (n Bx n₀ x : Nat) (hn₀ : 0 < n₀) (hx : x < 18446744073709551616) (w : World) (hw : n₀ ≤ w.heap.size) (hBx : Bx < w.heap.size) (hT : TabAt 0 Lib.deBruijn64tab w)
    (hB : w.cell? ⟨Bx, 0, none⟩ = some (.int .u64 (x : Int))) :
    SeqStopsK Fence.wide n Tryz.prog 31 #[.pointer (some ⟨Bx, 0, none⟩)] (fun k : Pr => #[Value.int .i64 (k.val : Int)]) (Below n₀) (fun ys => ys.map (·.val) = bitsOf x) (fun pre => pre.map (·.val) <+: bitsOf x) (bitsOf x).length w :=
  fun l J Jx W hW _ _ hY h0 =>
    each1_len n l Bx n₀ x hn₀ hx J Jx hY W (tab_below hn₀ (hW.mono hw) hT) ((hW.cell (p := ⟨Bx, 0, none⟩) hBx).trans hB) h0
set_option maxRecDepth 100000 in
set_option maxHeartbeats 2000000 in
theorem numbers_any (x : Nat) (hx : x < 18446744073709551616) (w : World) (hE : Env w) :
    Calls Tryz.prog 12 #[.int .u64 (x : Int)] w fun e w' => e = .returned (.slice (some ⟨w.heap.size, 0, none⟩) (bitsOf x).length (bitsOf x).length) ∧
      (∀ i, i < (bitsOf x).length → w'.cell? ⟨w.heap.size, i, none⟩ = some (.int .i64 (((bitsOf x).getD i 0 : Nat) : Int))) ∧ Below w.heap.size w w' ∧ w.heap.size < w'.heap.size ∧ w'.ownsRow w.heap.size 3 1 (.slice (some ⟨w.heap.size, 0, none⟩) (bitsOf x).length (bitsOf x).length) (bitsOf x).length (numVals (bitsOf x)) := by
  obtain ⟨m, hm⟩ : ∃ m, popN 64 x = m := ⟨_, rfl⟩
  have hl := hm ▸ len_any x hx w
  have hlen : (bitsOf x).length = m := (bitsOf_length x).trans hm
  have hm64 : m ≤ 64 := hm ▸ popN_le 64 x
  have h8 := hE.1.2.2
  have hT := hE.2
  obtain ⟨i, h2, h3, h4, h5⟩ := info3
  have hmk := run_make (P := Tryz.prog) w 23 3 i _ Tryz.underlying23 h2 h3 .i64 .i64 0 (m : Int) (Int.le_refl _) (by omega) (by rw [h5]; omega) (by omega)
  simp only [Int.toNat_zero, Int.toNat_natCast, h4, Nat.mul_one] at hmk
  have hown := World.ownsRow_made (base := w.heap.size) (e := 3) (size := 1) w (madeCells (Value.int .i64 0).cells m) m (Nat.le_refl _) (by unfold maxLen; omega) (by rw [size_madeCells, Nat.mul_one])
  generalize madeCells (Value.int .i64 0).cells m = C at hmk hown
  rw [hlen]
  refine (callsIn_wide (n := 3)).1 ?_
  refine callsIn_of_wp_marks Tryz.func12 rfl trivial ?_ rfl
  simp only [Tryz.ntmps12, List.size_toArray, List.length_cons, List.length_nil, Nat.reduceAdd, Nat.reduceSub, Array.replicate_succ, Array.replicate_zero, List.push_toArray, List.append_toArray, List.nil_append, List.cons_append]
  gi_wp2_with (refine ⟨trivial, ?_⟩; gi_at_call 20; refine (callsIn_wide.2 hl).mono ?_; rintro e w1 ⟨rfl, rfl⟩)
  have c0 := cell_new_l (w.alloc (.cells C 3)) (.slice (some ⟨w.heap.size, 0, none⟩) 0 m) 23
  rw [World.size_alloc] at c0
  have hown2 := (hown.alloc (.cells #[.slice (some ⟨w.heap.size, 0, none⟩) 0 m] 23))
  have hB2 : Below w.heap.size w ((w.alloc (.cells C 3)).alloc (.cells #[.slice (some ⟨w.heap.size, 0, none⟩) 0 m] 23)) := ((Below.refl _ w).alloc (Nat.le_refl _) _).alloc (by simp) _
  have hsz2 : ((w.alloc (.cells C 3)).alloc (.cells #[.slice (some ⟨w.heap.size, 0, none⟩) 0 m] 23)).heap.size = w.heap.size + 1 + 1 := by simp
  generalize ((w.alloc (.cells C 3)).alloc (.cells #[.slice (some ⟨w.heap.size, 0, none⟩) 0 m] 23)) = w2 at *
  clear hown hmk
  have hT2 := tab_below (n₀ := w.heap.size) (by omega) hB2 hT
  refine ⟨trivial, ?_⟩
  gi_at_call 26
  refine (callsIn_wide.2 (each_any x w2)).mono ?_
  rintro e w' ⟨rfl, rfl⟩
  have HSZ := Lib.hid hsz2
  clear hsz2
  gi_wp2
  have hsz2 := HSZ.out
  clear HSZ
  refine wpIn_rangeFunc_ownF rfl (by omega) (gf := 31) (lb := #[.pointer (some ⟨w2.heap.size, 0, none⟩)]) rfl trivial (enters_of Tryz.func31 (by kernel_rfl) rfl)
    (each_stops_len (3 - 1) w2.heap.size w.heap.size x (by omega) hx _ (by simp; omega) (by simp) (tab_below (n₀ := w2.heap.size) (by omega) ((Below.refl _ _).alloc (Nat.le_refl _) _) hT2) (by rw [World.cell?_alloc_new]; rfl)) belowK_t (belowK_b (by simp; omega)) (Below.refl _ _) (fun _ => rfl)
    (fun pre W => (W.ownsRow w.heap.size 3 1 (.slice (some ⟨w.heap.size, 0, none⟩) pre.length m) pre.length (numVals (prVals pre)) ∧ W.cell? ⟨w.heap.size + 1, 0, none⟩ = some (.slice (some ⟨w.heap.size, 0, none⟩) pre.length m) ∧ W.frozen? ⟨w.heap.size + 1, 0, none⟩ = false) ∧ Below w.heap.size w W)
    (fun _ _ _ => False)
    (OwnFrom.and (Own.from (fun s A B row hs hg hr => ⟨Own.row hs.1 hg hr, cell_kept hs.2.1 hg hr, (frozen_kept hs.2.1 hg hr).trans hs.2.2⟩) _) (ownFrom_below (Nat.le_refl _) (by simp; omega)))
    (fun _ _ _ _ _ hs _ _ => hs)
    ⟨⟨hown2.alloc _, cell_alloc_l _ c0.1, frozen_alloc_l _ c0.1 c0.2⟩, hB2.alloc (by omega) _⟩
    (fun k => { tmps := #[.int .u64 (x : Int), undef, .slice none 0 0, .pointer (some ⟨w.heap.size + 1, 0, none⟩), .int .i64 (k.val : Int), .int .u64 (x : Int), .int .i64 m, .slice (some ⟨w.heap.size, 0, none⟩) 0 m, .int .u64 (x : Int), .func (.func 31) #[] #[.pointer (some ⟨w2.heap.size, 0, none⟩)], .int .i64 (k.val : Int), undef, undef, undef, undef, undef], defers := [] }) ?assign ?body ?done ?stop
  case assign =>
    intro l k W K hK
    clear hsz2
    gi_wp2
    exact hK
  case body =>
    rintro l pre k W ⟨⟨hR, hc, hf⟩, hB⟩ hlt
    rw [hlen] at hlt
    clear hsz2
    have hpl : pre.length + 1 ≤ m := by omega
    have hR' := hR.alloc (.cells #[.int .i64 (k.val : Int)] 3)
    have hc' := cell_alloc_l (.cells #[.int .i64 (k.val : Int)] 3) hc
    have hf' := frozen_alloc_l (.cells #[.int .i64 (k.val : Int)] 3) hc hf
    have hnew := cell_new_l W (.int .i64 (k.val : Int)) 3
    gi_wp2_with (gi_at_builtin; refine wpListIn_append_fits _ rfl _ _ 23 rfl w.heap.size 3 i 1 Tryz.underlying23 h2 h4 w.heap.size pre.length m _ rfl hR' ⟨W.heap.size, 0, none⟩ 1 1 [.int .i64 (k.val : Int)] rfl (by simp) (newHere W k.val) (oneHere k.val) hpl ?_)
    intro w4 hR4 hg4
    have hlt4 : w.heap.size + 1 < (W.alloc (.cells #[.int .i64 (k.val : Int)] 3)).heap.size := World.block_lt_of_cell? _ _ hc'
    have hblk := hg4.block (w.heap.size + 1) hlt4 (by intro e; injection e with e; omega)
    have hc4 := (World.cell?_of_block (a := ⟨w.heap.size + 1, 0, none⟩) hblk).trans hc'
    have hf4 := (World.frozen?_of_block (a := ⟨w.heap.size + 1, 0, none⟩) hblk).trans hf'
    have hbW := hB.size
    have hB4 : Below w.heap.size W w4 := ((Below.refl _ W).alloc hbW _).trans (below_row hg4 (by simp; omega))
    have hk4 : KeepsOthers W w4 := (KeepsOthers.alloc W _).trans (KeepsOthers.of_grownBy hg4 fun j o e ho => by
      obtain rfl : w.heap.size = j := by injection e
      rcases hR'.2 with ⟨h0, _⟩ | ⟨g, cap, cur, h0, _, hgb, _⟩
      · simp at h0
      · simp only [Value.slice.injEq, Option.some.injEq, Addr.mk.injEq, and_true, true_and] at h0
        obtain ⟨rfl, rfl⟩ := h0
        rw [hgb] at ho; cases ho; rfl)
    clear hR' hc' hf' hnew hblk hlt4 hR hc hf
    gi_wp2
    have hR5 := hR4.kept (grownBy_setCell' w4 (w.heap.size + 1) (.slice (some ⟨w.heap.size, 0, none⟩) (pre.length + 1) m)) (.inr (by simp [Value.ownBlock]))
    have hB5 : Below w.heap.size W (w4.setCell ⟨w.heap.size + 1, 0, none⟩ (.slice (some ⟨w.heap.size, 0, none⟩) (pre.length + 1) m)) := hB4.setCell (p := ⟨w.heap.size + 1, 0, none⟩) (by simp) _
    refine ⟨hk4.trans (KeepsOthers.setCell _ _ _), hB5, ⟨?_, ?_, ?_⟩, hB.trans hB5⟩
    · rw [List.length_append, List.length_singleton, prVals_snoc]
      simpa [numVals] using hR5
    · rw [List.length_append, List.length_singleton]
      exact World.cell?_setCell_same' _ _ _ (by rw [hc4]; rfl)
    · rw [World.frozen?_setCell]; exact hf4
  case done =>
    rintro D ys W hD hS ⟨⟨hR, hc, hf⟩, hB⟩ hK
    have hyl : ys.length = m := by rw [← hlen, ← hS, List.length_map]
    rw [World.size_alloc] at hD
    rw [show prVals ys = bitsOf x from hS, hyl] at hR
    rw [hyl] at hc
    gi_wp2
    refine ⟨by simp, .inl ⟨_, _, rfl, run_takeDeferred hK, ?_⟩⟩
    have hR6 := ownsRow_putObj hR (.deferred none) hK rfl
    have hB6 := hB.trans (belowK_b (w := w) (Nat.le_refl _) W D _ (.deferred none) (by omega) hK rfl rfl)
    refine ⟨_, results_tmp rfl _ _ _, rfl, fun j hj => ?_, hB6, ?_, hR6⟩
    · rw [hR6.cellAt j (by omega)]
      simp only [numVals, List.getElem?_map, List.getD_eq_getElem?_getD]
      rw [List.getElem?_eq_getElem (by omega)]; rfl
    · have h9 : w.heap.size + 1 < W.heap.size := World.block_lt_of_cell? _ _ hc
      simp [World.putObj]; omega
  case stop =>
    rintro D cc pre W _ _ h _
    exact h.elim
end Go.Proofs.YthmcckdoneiglaaGreatDoor
