/- Parse of package bits: for every text, every list of names and every memory in which the library's tables and errors lie. -/
import Derived.Test.YthmcckdoneiglaaGreatDoorL
namespace Go.Proofs.YthmcckdoneiglaaGreatDoor
open Go Go.RowKit Go.Shelf

attribute [local go_sem] Oper.semAt_some

theorem of_one (k : Nat) (hk : k < 64) (b : Nat) (w : World) (hc : w.cell? ⟨b, 0, none⟩ = some (.int .i64 (k : Int))) :
    Calls Tryz.prog 7 #[.slice (some ⟨b, 0, none⟩) 1 1] w fun e w' => e = .returned (.int .u64 ((2 ^ k : Nat) : Int)) ∧ w = w' := by
  have h := of_any b 0 1 [(k : Int)] (by unfold maxLen; simp) w (fun i hi => by
    obtain rfl : i = 0 := by simp at hi; omega
    simpa using hc)
  have e : ofInts [(k : Int)] = 2 ^ k := by
    simp only [ofInts, List.foldl_cons, List.foldl_nil, ofStep]
    rw [if_pos ⟨by omega, by omega⟩]
    simp
  rw [e] at h
  exact h

theorem join_two (x y : Nat) (hx : x < 18446744073709551616) (hy : y < 18446744073709551616) (b : Nat) (w : World) (h0 : w.cell? ⟨b, 0, none⟩ = some (.int .u64 (x : Int))) (h1 : w.cell? ⟨b, 1, none⟩ = some (.int .u64 (y : Int))) :
    Calls Tryz.prog 6 #[.slice (some ⟨b, 0, none⟩) 2 2] w fun e w' => e = .returned (.int .u64 ((x ||| y : Nat) : Int)) ∧ w = w' := by
  have h := join_any b 0 2 [x, y] (fun z hz => by simp at hz; rcases hz with rfl | rfl <;> assumption) (by unfold maxLen; simp) w (fun i hi => by
    simp at hi
    rcases (show i = 0 ∨ i = 1 by omega) with rfl | rfl
    · simpa using h0
    · simpa using h1)
  have e : orAll [x, y] = x ||| y := by simp [orAll]
  rw [e] at h
  exact h

/-- The label of pieces, on top of what there is; none where a piece stands for nobody. -/
def pfold (zs : List ByteArray) : List (List UInt8) → Nat → Option Nat
  | [], a => some a
  | x :: l, a => match plc zs ⟨x.toArray⟩ with
    | none => none
    | some k => pfold zs l (a ||| 2 ^ k)

def parseB (zs : List ByteArray) (s : List UInt8) : Option Nat :=
  if Lib.hasPrefix (Lib.trimS s [9, 32]) [123] = true ∧ Lib.hasSuffix (Lib.trimPrefix (Lib.trimS s [9, 32]) [123]) [125] = true then
    pfold zs (fieldsB (Lib.trimSuffix (Lib.trimPrefix (Lib.trimS s [9, 32]) [123]) [125])) 0
  else none

theorem pfold_append (zs : List ByteArray) : ∀ (l r : List (List UInt8)) (a : Nat), pfold zs (l ++ r) a = (pfold zs l a).bind (pfold zs r)
  | [], r, a => rfl
  | x :: l, r, a => by
    simp only [List.cons_append, pfold]
    cases plc zs ⟨x.toArray⟩ with
    | none => rfl
    | some k => exact pfold_append zs l r _

/-- The tables and errors of the library that Parse reads. -/
def LibIn (w : World) : Prop := Lib.Utf8Tabs 1 2 w ∧ ErrsIn w ∧ 8 ≤ w.heap.size

theorem gErrS : Tryz.prog.globalNamed "strconv.ErrSyntax" = some 4 := by kernel_rfl
theorem gErrR : Tryz.prog.globalNamed "strconv.ErrRange" = some 5 := by kernel_rfl
theorem ErrsIn.below {n : Nat} {A B : World} (hn : 6 ≤ n) (h : Below n A B) (hE : ErrsIn A) : ErrsIn B := by
  obtain ⟨⟨tp, p, h1⟩, ⟨tq, q, h2⟩⟩ := hE
  exact ⟨⟨tp, p, var?_below h gErrS (by omega) h1⟩, ⟨tq, q, var?_below h gErrR (by omega) h2⟩⟩
theorem LibIn.below {n : Nat} {A B : World} (hn : 8 ≤ n) (h : Below n A B) (hL : LibIn A) : LibIn B :=
  ⟨utf_below (by omega) h hL.1, hL.2.1.below (by omega) h, by have := h.size; have := hL.2.2; omega⟩

def parsedV (o : Option Nat) : Value :=
  match o with
  | some a => .tuple #[.int .u64 (a : Int), .int .i64 0]
  | none => .tuple #[.int .u64 0, .int .i64 10]

theorem StrIn.below {B B' n : Nat} {w w' : World} {p : Option Addr} {ns : List ByteArray} (h : StrIn B w p ns) (hb : Below n w w') (hn : B ≤ n) (hB : B ≤ B') : StrIn B' w' p ns := by
  intro i hi
  obtain ⟨b, off, hp, hlt, hc⟩ := h i hi
  exact ⟨b, off, hp, by omega, (hb.cell (p := ⟨b, off + i, none⟩) (by simp; omega)).trans hc⟩

theorem idx_lt (x : ByteArray) : ∀ (zs : List ByteArray) (i : Nat), Lib.idxFromS zs x i < ((i + zs.length : Nat) : Int) ∨ Lib.idxFromS zs x i = -1
  | [], i => .inr rfl
  | z :: zs, i => by
    simp only [Lib.idxFromS]
    by_cases h : z = x
    · rw [if_pos h]; left; simp; omega
    · rw [if_neg h]
      rcases idx_lt x zs (i + 1) with h1 | h1
      · left; simp only [List.length_cons]; omega
      · right; exact h1

theorem plc_lt {zs : List ByteArray} {x : ByteArray} {k : Nat} (hl : zs.length = 64) (h : plc zs x = some k) : k < 64 := by
  unfold plc at h
  split at h
  · cases h
    have := idx_lt x zs 0
    unfold Lib.idxOfS at *
    omega
  · exact List.mem_range.1 (List.mem_of_find?_eq_some h)

theorem KpF.t {Bs Bf : Nat} {A B C : World} (h : KpF Bs Bf A B) (k : KpF Bs Bf B C) : KpF Bs Bf A C :=
  ⟨h.1.trans k.1, k.2.1.trans h.2.1, k.2.2.trans h.2.2⟩
theorem KpF.b {Bs Bf : Nat} {w : World} (h8 : 8 ≤ w.heap.size) (hs : Bs < w.heap.size) (hf : Bf < w.heap.size) (W : World) (l : Nat) (o o' : Obj) (hl : w.heap.size ≤ l) (h : W.heap[l]? = some o) (hc : o.isCells = false) (hw : o.isWalk = false) : KpF Bs Bf W (W.putObj l o') :=
  ⟨belowK_b h8 W l o o' hl h hc hw, World.cell?_of_block (World.putObj_heap_other (by simp; omega)), World.cell?_of_block (World.putObj_heap_other (by simp; omega))⟩

theorem below_of_grown {n r : Nat} {A B : World} (hg : A.grownBy B (some r)) (hr : n ≤ r) (hn : n ≤ A.heap.size) : Below n A B :=
  ⟨hg.os, hg.tape, hg.output, hg.size, fun k hk => hg.block k (by omega) (fun e => by cases e; omega)⟩
theorem cell_grown {A B : World} {r : Nat} (hg : A.grownBy B (some r)) {b o : Nat} {v : Value} (h : A.cell? ⟨b, o, none⟩ = some v) (hne : b ≠ r) (hlt : b < A.heap.size) : B.cell? ⟨b, o, none⟩ = some v :=
  (World.cell?_of_block (a := ⟨b, o, none⟩) (hg.block b hlt (fun e => hne (by cases e; rfl)))).trans h
theorem grown_trans {A B C : World} {r : Nat} (h : A.grownBy B (some r)) (k : B.grownBy C (some r)) : A.grownBy C (some r) :=
  ⟨k.os.trans h.os, k.tape.trans h.tape, k.output.trans h.output, Nat.le_trans h.size k.size, fun i hi hne => (k.block i (by have := h.size; omega) hne).trans (h.block i hi hne)⟩
theorem grown_some {A B : World} (r : Nat) (h : A.grownBy B none) : A.grownBy B (some r) := ⟨h.os, h.tape, h.output, h.size, fun k hk _ => h.block k hk (by simp)⟩
theorem grown_refl (A : World) (r : Nat) : A.grownBy A (some r) := ⟨rfl, rfl, rfl, Nat.le_refl _, fun _ _ _ => rfl⟩
theorem GoodAt.grown {A B : World} {r g : Nat} {zs : List ByteArray} (h : GoodAt A g zs) (hg : A.grownBy B (some r)) (hne : g ≠ r) (hlt : g < A.heap.size) : GoodAt B g zs := fun j hj =>
  have hb := hg.block g hlt (fun e => hne (by cases e; rfl))
  ⟨(World.cell?_of_block (a := ⟨g, j, none⟩) hb).trans (h j hj).1, (World.frozen?_of_block (a := ⟨g, j, none⟩) hb).trans (h j hj).2⟩

theorem keepsOthers_below {A B : World} (h : Below A.heap.size A B) : KeepsOthers A B where
  size := h.size
  same := fun k _ hk _ => (h.block k (Array.getElem?_eq_some_iff.1 hk).1).trans hk

theorem ba_eta (x : ByteArray) : (⟨x.data.toList.toArray⟩ : ByteArray) = x := by simp

theorem trim_short (l cs : List UInt8) : (Lib.trimS l cs).length ≤ l.length := by
  have h : ∀ m : List UInt8, (m.dropWhile (cs.contains ·)).length ≤ m.length := fun m => (List.dropWhile_sublist _).length_le
  have h1 := h (Lib.trimRightS l cs)
  have h2 := h l.reverse
  unfold Lib.trimS Lib.trimLeftS
  unfold Lib.trimRightS at h1 ⊢
  rw [List.length_reverse] at h1 h2
  exact Nat.le_trans h1 h2

theorem results14 (tmps : Array Value) (w : World) (b4 b5 : Nat) (x y : Int) (h4 : tmps[4]?.getD undef = .pointer (some ⟨b4, 0, none⟩)) (h5 : tmps[5]?.getD undef = .pointer (some ⟨b5, 0, none⟩))
    (c4 : w.cell? ⟨b4, 0, none⟩ = some (.int .u64 x)) (c5 : w.cell? ⟨b5, 0, none⟩ = some (.int .i64 y)) :
    (results Tryz.f33 tmps).run Tryz.prog w = .ok (.tuple #[.int .u64 x, .int .i64 y]) w := by
  simp [results, Tryz.results33, go_sem, h4, h5, c4, c5]

set_option maxRecDepth 100000 in
set_option maxHeartbeats 2000000 in
theorem parse_any (s : ByteArray) (hs : s.size ≤ 140737488355328) (p : Option Addr) (c : Nat) (ns : List ByteArray) (w : World) (hn : ns.length ≤ maxLen) (hz : ∀ i, (ns.getD i ByteArray.empty).size ≤ maxLen) (hsn : StrIn w.heap.size w p ns)
    (hL : LibIn w) :
    Calls Tryz.prog 33 #[.string s, .slice p ns.length c] w fun e w' => e = .returned (parsedV (parseB (gl ns (min ns.length 64)) s.data.toList)) ∧ Below w.heap.size w w' := by
  have h8 := hL.2.2
  obtain ⟨res, hres⟩ : ∃ res, parseB (gl ns (min ns.length 64)) s.data.toList = res := ⟨_, rfl⟩
  rw [hres]
  unfold parseB at hres
  have HRES := Lib.hid hres
  clear hres
  have hzl := gl_length ns (min ns.length 64)
  have hgood := fun W h => good_any p c ns W hn hz h
  generalize gl ns (min ns.length 64) = zs at hgood HRES hzl
  refine (callsIn_wide (n := 3)).1 ?_
  refine callsIn_of_wp_marks Tryz.func33 rfl trivial ?_ rfl
  simp only [Tryz.ntmps33, List.size_toArray, List.length_cons, List.length_nil, Nat.reduceAdd, Nat.reduceSub, Array.replicate_succ, Array.replicate_zero, List.push_toArray, List.append_toArray, List.nil_append, List.cons_append]
  have hl := Lib.size_eq s
  have hA4 : Boxed ((w.alloc (.cells #[.int .u64 0] 27)).alloc (.cells #[.int .i64 0] 54)) w.heap.size 27 (.int .u64 0) := (Boxed.new w 27 (.int .u64 0)).alloc _
  have hA5 : Boxed ((w.alloc (.cells #[.int .u64 0] 27)).alloc (.cells #[.int .i64 0] 54)) (w.heap.size + 1) 54 (.int .i64 0) := by
    have := Boxed.new (w.alloc (.cells #[.int .u64 0] 27)) 54 (.int .i64 0)
    rwa [World.size_alloc] at this
  have hBA : Below w.heap.size w ((w.alloc (.cells #[.int .u64 0] 27)).alloc (.cells #[.int .i64 0] 54)) := ((Below.refl _ w).alloc (Nat.le_refl _) _).alloc (by simp) _
  have hszA : ((w.alloc (.cells #[.int .u64 0] 27)).alloc (.cells #[.int .i64 0] 54)).heap.size = w.heap.size + 2 := by simp
  gi_wp2_with fail
  generalize ((w.alloc (.cells #[.int .u64 0] 27)).alloc (.cells #[.int .i64 0] 54)) = wA at *
  have htr := Tryz.strings_Trim_laid s ⟨#[9, 32]⟩ wA (by omega) (by decide) (ascii_of_all (by decide))
  have hcs9 : (⟨#[9, 32]⟩ : ByteArray).data.toList = [9, 32] := rfl
  rw [hcs9] at htr
  clear hcs9
  have hts : (Lib.trimS s.data.toList [9, 32]).length ≤ s.size := by rw [hl]; exact trim_short _ _
  generalize Lib.trimS s.data.toList [9, 32] = t at *
  refine ⟨trivial, ?_⟩
  gi_at_call 41
  refine (callsIn_wide.2 htr).mono ?_
  rintro e w1 ⟨rfl, hb1⟩
  have hA4' := hA4.kept (grown_none hb1) (by simp)
  have hA5' := hA5.kept (grown_none hb1) (by simp)
  have hB1 : Below w.heap.size w w1 := hBA.trans (hb1.mono (by omega))
  have hsz1 := hb1.size
  rw [hszA] at hsz1
  clear hA4 hA5 hBA hb1 hszA htr
  have hcp := same_flip (Tryz.strings_CutPrefix ⟨t.toArray⟩ ⟨#[123]⟩ w1)
  have e1 : (⟨t.toArray⟩ : ByteArray).data.toList = t := rfl
  have e2 : (⟨#[123]⟩ : ByteArray).data.toList = [123] := rfl
  rw [e1, e2] at hcp
  have hrl := Lib.trimPrefix_le t [123]
  generalize Lib.hasPrefix t [123] = o1 at *
  generalize Lib.trimPrefix t [123] = r at *
  have hcf := same_flip (Tryz.strings_CutSuffix ⟨r.toArray⟩ ⟨#[125]⟩ w1 (by rw [Lib.size_eq]; show r.length ≤ _; omega))
  have e3 : (⟨r.toArray⟩ : ByteArray).data.toList = r := rfl
  have e4 : (⟨#[125]⟩ : ByteArray).data.toList = [125] := rfl
  rw [e3, e4] at hcf
  clear e1 e2 e3 e4
  have hml := Lib.trimSuffix_le r [125]
  generalize Lib.hasSuffix r [125] = o2 at *
  generalize Lib.trimSuffix r [125] = m at *
  have hms : (⟨m.toArray⟩ : ByteArray).size ≤ 140737488355328 := by rw [Lib.size_eq]; show m.length ≤ _; omega
  clear hrl hml hts hl
  by_cases hoo : o1 = true ∧ o2 = true
  · have hre := HRES.out
    rw [if_pos hoo] at hre
    have HRE := Lib.hid hre
    obtain ⟨rfl, rfl⟩ := hoo
    clear HRES hre
    have hg := hgood w1 (hsn.below hB1 (Nat.le_refl _) (by omega))
    have hL1 := hL.below h8 hB1
    gi_wp2_with (first | (refine ⟨trivial, ?_⟩; gi_at_call 40; refine (callsIn_wide.2 hcp).mono ?_; rintro e w' ⟨rfl, rfl⟩) | (refine ⟨trivial, ?_⟩; gi_at_call 42; refine (callsIn_wide.2 hcf).mono ?_; rintro e w' ⟨rfl, rfl⟩))
    refine ⟨trivial, ?_⟩
    gi_at_call 34
    refine (callsIn_wide.2 hg).mono ?_
    rintro e w2 ⟨rfl, hG2, hb2, hs2⟩
    have hf := fields_any ⟨m.toArray⟩ ((w2.alloc (.cells #[.slice (some ⟨w1.heap.size, 0, none⟩) 64 64] 51)).alloc (.cells #[.int .u64 0] 27))
    gi_wp2_with (refine ⟨trivial, ?_⟩; gi_at_call 43; refine (callsIn_wide.2 hf).mono ?_; rintro e w' ⟨rfl, rfl⟩)
    have hs1' : w.heap.size + 2 ≤ w1.heap.size := hsz1
    have hA4w := (((((hA4'.kept (grown_none hb2) (by simp)).alloc (.cells #[.slice (some ⟨w1.heap.size, 0, none⟩) 64 64] 51)).alloc (.cells #[.int .u64 0] 27)).alloc (.cells #[.string ⟨m.toArray⟩] 9)).alloc (.cells #[.func (.func 44) #[] #[]] 77))
    have hA5w := (((((hA5'.kept (grown_none hb2) (by simp)).alloc (.cells #[.slice (some ⟨w1.heap.size, 0, none⟩) 64 64] 51)).alloc (.cells #[.int .u64 0] 27)).alloc (.cells #[.string ⟨m.toArray⟩] 9)).alloc (.cells #[.func (.func 44) #[] #[]] 77))
    have hN1 := ((((Boxed.new w2 51 (.slice (some ⟨w1.heap.size, 0, none⟩) 64 64)).alloc (.cells #[.int .u64 0] 27)).alloc (.cells #[.string ⟨m.toArray⟩] 9)).alloc (.cells #[.func (.func 44) #[] #[]] 77))
    have hN2 := (((Boxed.new (w2.alloc (.cells #[.slice (some ⟨w1.heap.size, 0, none⟩) 64 64] 51)) 27 (.int .u64 0)).alloc (.cells #[.string ⟨m.toArray⟩] 9)).alloc (.cells #[.func (.func 44) #[] #[]] 77))
    have hN3 := ((Boxed.new ((w2.alloc (.cells #[.slice (some ⟨w1.heap.size, 0, none⟩) 64 64] 51)).alloc (.cells #[.int .u64 0] 27)) 9 (.string ⟨m.toArray⟩)).alloc (.cells #[.func (.func 44) #[] #[]] 77))
    have hN4 := (Boxed.new (((w2.alloc (.cells #[.slice (some ⟨w1.heap.size, 0, none⟩) 64 64] 51)).alloc (.cells #[.int .u64 0] 27)).alloc (.cells #[.string ⟨m.toArray⟩] 9)) 77 (.func (.func 44) #[] #[]))
    simp only [World.size_alloc] at hN2 hN3 hN4
    have hB24 : Below w2.heap.size w2 ((((w2.alloc (.cells #[.slice (some ⟨w1.heap.size, 0, none⟩) 64 64] 51)).alloc (.cells #[.int .u64 0] 27)).alloc (.cells #[.string ⟨m.toArray⟩] 9)).alloc (.cells #[.func (.func 44) #[] #[]] 77)) :=
      ((((Below.refl _ w2).alloc (Nat.le_refl _) _).alloc (by simp) _).alloc (by simp; omega) _).alloc (by simp; omega) _
    have hsz4 : ((((w2.alloc (.cells #[.slice (some ⟨w1.heap.size, 0, none⟩) 64 64] 51)).alloc (.cells #[.int .u64 0] 27)).alloc (.cells #[.string ⟨m.toArray⟩] 9)).alloc (.cells #[.func (.func 44) #[] #[]] 77)).heap.size = w2.heap.size + 1 + 1 + 1 + 1 := by simp
    generalize ((((w2.alloc (.cells #[.slice (some ⟨w1.heap.size, 0, none⟩) 64 64] 51)).alloc (.cells #[.int .u64 0] 27)).alloc (.cells #[.string ⟨m.toArray⟩] 9)).alloc (.cells #[.func (.func 44) #[] #[]] 77)) = w4 at *
    have hG4 := hG2.below hB24 hs2
    have hB4 : Below w.heap.size w w4 := (hB1.trans (hb2.mono (by omega))).trans (hB24.mono (by omega))
    have hL4 := hL.below h8 hB4
    clear hA4' hA5' hG2 hB24 hb2 hB1 hL1 hg hf hgood hsn hcp hcf hL
    generalize hbb : w2.heap.size = b at *
    have hI4 : ItIn (b + 1 + 1) (b + 1 + 1 + 1) ⟨m.toArray⟩ w4 := ⟨hN3.cell, hN4.cell, hL4.1, by omega, by omega, hL4.2.2⟩
    have hc9 := hN1.cell
    clear hN1 hN3 hN4
    refine wpIn_rangeFunc_ownF rfl (by omega) (gf := 59) (lb := #[.pointer (some ⟨b + 1 + 1, 0, none⟩), .pointer (some ⟨b + 1 + 1 + 1, 0, none⟩)]) rfl trivial (enters_of Tryz.func59 (by kernel_rfl) rfl)
      (fields_stops (3 - 1) (b + 1 + 1) (b + 1 + 1 + 1) ⟨m.toArray⟩ hms w4 hI4) KpF.t (KpF.b hL4.2.2 (by omega) (by omega)) (Below.refl _ _) (fun _ => rfl)
      (fun pre W => ∃ acc, pfold zs (pre.map (·.1.data.toList)) 0 = some acc ∧ acc < 18446744073709551616 ∧ Boxed W (b + 1) 27 (.int .u64 (acc : Int)) ∧ w4.grownBy W (some (b + 1)))
      (fun c pre W => c = Code.ret ∧ pfold zs (pre.map (·.1.data.toList)) 0 = none ∧ W.cell? ⟨w.heap.size, 0, none⟩ = some (.int .u64 0) ∧ W.cell? ⟨w.heap.size + 1, 0, none⟩ = some (.int .i64 10) ∧ Below w.heap.size w W)
      ?hI ?hIx ⟨0, rfl, by omega, hN2, grown_refl _ _⟩
      (fun x => { tmps := #[.string s, .slice p ns.length c, undef, undef, .pointer (some ⟨w.heap.size, 0, none⟩), .pointer (some ⟨w.heap.size + 1, 0, none⟩), .string ⟨m.toArray⟩, .bool true, .bool true, .pointer (some ⟨b, 0, none⟩), .pointer (some ⟨b + 1, 0, none⟩), .string x.1, undef, undef, .tuple #[.string ⟨r.toArray⟩, .bool true], .string s, .string ⟨t.toArray⟩, .tuple #[.string ⟨r.toArray⟩, .bool true], .string ⟨r.toArray⟩, .bool true, .tuple #[.string ⟨m.toArray⟩, .bool true], .string ⟨r.toArray⟩, .tuple #[.string ⟨m.toArray⟩, .bool true], .string ⟨m.toArray⟩, .bool true, .bool true, .bool false, .bool false, .bool true, .bool false, .bool false, .slice p ns.length c, .slice (some ⟨w1.heap.size, 0, none⟩) 64 64, .string ⟨m.toArray⟩, .func (.func 59) #[] #[.pointer (some ⟨b + 1 + 1, 0, none⟩), .pointer (some ⟨b + 1 + 1 + 1, 0, none⟩)], .string x.1, undef, undef, undef, undef, undef, undef, undef, undef, undef, undef, undef, undef, undef, undef, undef], defers := [] }) ?assign ?body ?done ?stop
    case hI =>
      rintro q A B row ⟨acc, ha, hlt, hbox, hg⟩ hgr hr
      have hsA := hg.size
      exact ⟨acc, ha, hlt, hbox.kept hgr (fun e => by have := (hr _ e.symm).1; omega),
        ⟨hgr.os.trans hg.os, hgr.tape.trans hg.tape, hgr.output.trans hg.output, Nat.le_trans hg.size hgr.size, fun i hi hne => (hgr.block i (by omega) (fun e => by have := (hr i e.symm).1; omega)).trans (hg.block i hi hne)⟩⟩
    case hIx =>
      rintro cc q A B row ⟨h1, h2, h3, h4, h5⟩ hgr hr
      exact ⟨h1, h2, cell_kept h3 hgr (fun r e => (hr r e).2), cell_kept h4 hgr (fun r e => (hr r e).2), h5.grown hgr h5.size (fun k e => by have := (hr k e).1; omega)⟩
    case assign =>
      intro l x W K hK
      gi_wp2
      exact hK
    case body =>
      rintro l pre x W ⟨acc, hacc, hlt, hbox, hg⟩ hN
      have hsW := hg.size
      have hGW := hG4.grown hg (by omega) (by omega)
      have hEW := hL4.2.1.below (by omega) (below_of_grown hg (n := 8) (by omega) (by omega))
      have hcW := cell_grown hg hc9 (by omega) (by omega)
      have hpl := place_any w1.heap.size zs hzl x.1 x.2.2 W hGW hEW
      have hpf := pfold_append zs (pre.map (·.1.data.toList)) [x.1.data.toList] 0
      rw [hacc, Option.bind_some] at hpf
      simp only [pfold, ba_eta] at hpf
      have hBW : Below w.heap.size w W := hB4.trans (below_of_grown hg (by omega) (by omega))
      cases hp : plc zs x.1 with
      | none =>
        rw [hp] at hpf
        have hx4 := hA4w.kept hg (fun e => by have := Option.some.inj e; omega)
        have hx5 := hA5w.kept hg (fun e => by have := Option.some.inj e; omega)
        have HPF := Lib.hid hpf
        have HP := Lib.hid hp
        clear hpf hp hacc
        gi_wp2_with fail
        refine ⟨trivial, ?_⟩
        gi_at_call 45
        refine (CallsIn.inRound l (callsIn_wide.2 hpl)).mono ?_
        rintro e W1 ⟨⟨v, ok, rfl, hk1, hk2⟩, hbp⟩
        obtain rfl := hk2 HP.out
        have hy4 := hx4.kept (grown_none hbp) (by simp)
        have hy5 := hx5.kept (grown_none hbp) (by simp)
        have hc4 := hy4.cell
        have hf4 := hy4.frozen
        have hc5 := hy5.cell
        have hf5 := hy5.frozen
        have hko := keepsOthers_below hbp
        have hBW1 : Below w.heap.size w W1 := hBW.trans (hbp.mono (by omega))
        clear hk1 hk2 hx4 hx5 hy4 hy5 hpl hbp
        gi_wp2
        refine ⟨hko.trans ((KeepsOthers.setCell _ _ _).trans (KeepsOthers.setCell _ _ _)), rfl, ?_, ?_, ?_, ?_⟩
        · rw [List.map_append]; exact HPF.out
        · rw [World.cell?_setCell_other _ _ _ _ (by simp)]; exact World.cell?_setCell_same _ _ _ hc4
        · exact World.cell?_setCell_same _ _ _ (by rw [World.cell?_setCell_other _ _ _ _ (by simp)]; exact hc5)
        · exact (hBW1.setCell (p := ⟨w.heap.size, 0, none⟩) (Nat.le_refl _) _).setCell (p := ⟨w.heap.size + 1, 0, none⟩) (by simp) _
      | some k =>
        rw [hp] at hpf
        have hk := plc_lt hzl hp
        have HPF := Lib.hid hpf
        have HP := Lib.hid hp
        clear hpf hp hacc
        gi_wp2_with fail
        refine ⟨trivial, ?_⟩
        gi_at_call 45
        refine (CallsIn.inRound l (callsIn_wide.2 hpl)).mono ?_
        rintro e W1 ⟨⟨v, ok, rfl, hk1, hk2⟩, hbp⟩
        obtain ⟨rfl, rfl⟩ := hk1 k HP.out
        have hbox1 := hbox.kept (grown_none hbp) (by simp)
        have hcall := hbox1.cell
        have hfall := hbox1.frozen
        have hko := keepsOthers_below hbp
        have hg1 := grown_trans hg (grown_some (b + 1) (grown_none hbp))
        have hs1W := hbp.size
        have hlt1 : b + 1 < W1.heap.size := by omega
        have fin : ∀ o1 o2 : Obj, KeepsOthers W (((W1.alloc o1).alloc o2).setCell ⟨b + 1, 0, none⟩ (.int .u64 ((acc ||| 2 ^ k : Nat) : Int))).drew ∧
            KpF (b + 1 + 1) (b + 1 + 1 + 1) W (((W1.alloc o1).alloc o2).setCell ⟨b + 1, 0, none⟩ (.int .u64 ((acc ||| 2 ^ k : Nat) : Int))).drew ∧
            ∃ acc', pfold zs ((pre ++ [x]).map (·.1.data.toList)) 0 = some acc' ∧ acc' < 18446744073709551616 ∧ Boxed (((W1.alloc o1).alloc o2).setCell ⟨b + 1, 0, none⟩ (.int .u64 ((acc ||| 2 ^ k : Nat) : Int))).drew (b + 1) 27 (.int .u64 (acc' : Int)) ∧
              w4.grownBy (((W1.alloc o1).alloc o2).setCell ⟨b + 1, 0, none⟩ (.int .u64 ((acc ||| 2 ^ k : Nat) : Int))).drew (some (b + 1)) := fun o1 o2 => by
          have g1 : W1.grownBy (((W1.alloc o1).alloc o2).setCell ⟨b + 1, 0, none⟩ (.int .u64 ((acc ||| 2 ^ k : Nat) : Int))).drew (some (b + 1)) :=
            grown_trans (grown_trans (World.grownBy_alloc W1 o1 _) (World.grownBy_alloc _ o2 _)) ((grown_trans (grownBy_setCell' _ _ _) (grown_some _ (grown_none ((Below.refl _ _).drew)))))
          have gW := grown_trans (grown_some (b + 1) (grown_none hbp)) g1
          have hx : Boxed (((W1.alloc o1).alloc o2).setCell ⟨b + 1, 0, none⟩ (.int .u64 ((acc ||| 2 ^ k : Nat) : Int))).drew (b + 1) 27 (.int .u64 ((acc ||| 2 ^ k : Nat) : Int)) := Boxed.set _ ((hbox1.alloc o1).alloc o2)
          refine ⟨hko.trans (((KeepsOthers.alloc _ _).trans (KeepsOthers.alloc _ _)).trans ((KeepsOthers.setCell _ _ _).trans (KeepsOthers.drew _))), ⟨below_of_grown gW (by omega) (by omega), World.cell?_of_block (gW.block (b + 1 + 1) (by omega) (fun e => by have h2 := Option.some.inj e; omega)), World.cell?_of_block (gW.block (b + 1 + 1 + 1) (by omega) (fun e => by have h2 := Option.some.inj e; omega))⟩, acc ||| 2 ^ k, ?_, or_lt hlt (pow_lt64 k hk), hx, grown_trans hg1 g1⟩
          rw [List.map_append]
          exact HPF.out
        have FIN := Lib.hid fin
        clear hk2 hpl hbp hk1 hcW hGW hEW hG4 hA4w hA5w fin
        gi_wp2
        have hmx : Tryz.prog.follows .mixedOrders = true := by kernel_rfl
        have ha1 : ∀ o, (W1.alloc o).cell? ⟨b + 1, 0, none⟩ = some (.int .u64 (acc : Int)) := fun o => (hbox1.alloc o).cell
        have ha2 : ∀ o o2, ((W1.alloc o).alloc o2).cell? ⟨b + 1, 0, none⟩ = some (.int .u64 (acc : Int)) := fun o o2 => ((hbox1.alloc o).alloc o2).cell
        have hf1 : ∀ o, (W1.alloc o).frozen? ⟨b + 1, 0, none⟩ = false := fun o => (hbox1.alloc o).frozen
        have hf2 : ∀ o o2, ((W1.alloc o).alloc o2).frozen? ⟨b + 1, 0, none⟩ = false := fun o o2 => ((hbox1.alloc o).alloc o2).frozen
        gi_region_with_o (first | (refine ⟨trivial, ?_⟩; gi_at_call 7; refine (CallsIn.inRound l (callsIn_wide.2 (of_one k hk _ _ ?hc))).mono ?_; (case hc => simp); rintro e w' ⟨rfl, rfl⟩) | (refine ⟨trivial, ?_⟩; gi_at_call 6; refine (CallsIn.inRound l (callsIn_wide.2 (join_two acc (2 ^ k) hlt (pow_lt64 k hk) _ _ ?h0 ?h1))).mono ?_; (case h0 => simp); (case h1 => simp); rintro e w' ⟨rfl, rfl⟩))
        all_goals gi_wp2
        all_goals (try go_bits)
        all_goals exact FIN.out _ _
    case done =>
      rintro D ys W hD hS ⟨acc, hacc, hlt, hbox, hg⟩ hK
      have hsW := hg.size
      have hcall := hbox.cell
      have hx4 := hA4w.kept hg (fun e => by have := Option.some.inj e; omega)
      have hx5 := hA5w.kept hg (fun e => by have := Option.some.inj e; omega)
      have hc4 := hx4.cell
      have hf4 := hx4.frozen
      have hc5 := hx5.cell
      have hf5 := hx5.frozen
      have hres : parsedV res = .tuple #[.int .u64 (acc : Int), .int .i64 0] := by
        rw [← HRE.out]
        have : fieldsB m = ys.map (·.1.data.toList) := hS.symm
        rw [this, hacc]; rfl
      have HR := Lib.hid hres
      have HK := Lib.hid hK
      clear hres hK hacc hS
      have hBW : Below w.heap.size w W := hB4.trans (below_of_grown hg (by omega) (by omega))
      gi_wp2
      have e4 : ((W.setCell ⟨w.heap.size, 0, none⟩ (.int .u64 (acc : Int))).setCell ⟨w.heap.size + 1, 0, none⟩ (.int .i64 0)).cell? ⟨w.heap.size, 0, none⟩ = some (.int .u64 (acc : Int)) := by
        rw [World.cell?_setCell_other _ _ _ _ (by simp)]; exact World.cell?_setCell_same _ _ _ hc4
      have e5 : ((W.setCell ⟨w.heap.size, 0, none⟩ (.int .u64 (acc : Int))).setCell ⟨w.heap.size + 1, 0, none⟩ (.int .i64 0)).cell? ⟨w.heap.size + 1, 0, none⟩ = some (.int .i64 0) :=
        World.cell?_setCell_same _ _ _ (by rw [World.cell?_setCell_other _ _ _ _ (by simp)]; exact hc5)
      have hK2 := ((KeepsOthers.setCell W ⟨w.heap.size, 0, none⟩ (.int .u64 (acc : Int))).trans (KeepsOthers.setCell _ ⟨w.heap.size + 1, 0, none⟩ (.int .i64 0))).same D _ HK.out rfl
      have hB2 : Below w.heap.size w ((W.setCell ⟨w.heap.size, 0, none⟩ (.int .u64 (acc : Int))).setCell ⟨w.heap.size + 1, 0, none⟩ (.int .i64 0)) :=
        (hBW.setCell (p := ⟨w.heap.size, 0, none⟩) (Nat.le_refl _) _).setCell (p := ⟨w.heap.size + 1, 0, none⟩) (by simp) _
      generalize ((W.setCell ⟨w.heap.size, 0, none⟩ (.int .u64 (acc : Int))).setCell ⟨w.heap.size + 1, 0, none⟩ (.int .i64 0)) = W2 at e4 e5 hK2 hB2 ⊢
      refine ⟨by simp, .inl ⟨_, _, rfl, run_takeDeferred hK2, ?_⟩⟩
      exact ⟨_, results14 _ _ w.heap.size (w.heap.size + 1) acc 0 rfl rfl (cell_kept e4 (grownBy_putObj' _ D (.deferred none)) (fun r e => by cases e; exact ⟨_, hK2, rfl⟩)) (cell_kept e5 (grownBy_putObj' _ D (.deferred none)) (fun r e => by cases e; exact ⟨_, hK2, rfl⟩)),
        by rw [HR.out], hB2.trans (belowK_b (w := w) (Nat.le_refl _) W2 D _ _ (by omega) hK2 rfl rfl)⟩
    case stop =>
      rintro D cc pre W hD ⟨rest, hrest⟩ ⟨rfl, hnone, e4, e5, hB2⟩ hK2
      have hres : parsedV res = .tuple #[.int .u64 0, .int .i64 10] := by
        rw [← HRE.out]
        have : fieldsB m = pre.map (·.1.data.toList) ++ rest := hrest.symm
        rw [this, pfold_append, hnone]; rfl
      have HR := Lib.hid hres
      have HK := Lib.hid hK2
      clear hres hK2 hnone hrest
      gi_wp2
      have hK2 := HK.out
      refine ⟨by simp, .inl ⟨_, _, rfl, run_takeDeferred hK2, ?_⟩⟩
      exact ⟨_, results14 _ _ w.heap.size (w.heap.size + 1) 0 10 rfl rfl (cell_kept e4 (grownBy_putObj' _ D (.deferred none)) (fun r e => by cases e; exact ⟨_, hK2, rfl⟩)) (cell_kept e5 (grownBy_putObj' _ D (.deferred none)) (fun r e => by cases e; exact ⟨_, hK2, rfl⟩)),
        by rw [HR.out], hB2.trans (belowK_b (w := w) (Nat.le_refl _) W D _ _ (by omega) hK2 rfl rfl)⟩
  · have hc4 := hA4'.cell
    have hf4 := hA4'.frozen
    have hc5 := hA5'.cell
    have hf5 := hA5'.frozen
    have hre := HRES.out
    rw [if_neg hoo] at hre
    subst hre
    clear HRES
    have hfin : ∀ W, w1.setCell ⟨w.heap.size, 0, none⟩ (.int .u64 0) = W → Below w.heap.size w (W.setCell ⟨w.heap.size + 1, 0, none⟩ (.int .i64 10)) := fun W e => by
      subst e
      exact (hB1.setCell (p := ⟨w.heap.size, 0, none⟩) (Nat.le_refl _) _).setCell (p := ⟨w.heap.size + 1, 0, none⟩) (by simp) _
    cases o1 with
    | false =>
      clear hoo
      gi_wp2_with (first | (refine ⟨trivial, ?_⟩; gi_at_call 40; refine (callsIn_wide.2 hcp).mono ?_; rintro e w' ⟨rfl, rfl⟩) | (refine ⟨trivial, ?_⟩; gi_at_call 42; refine (callsIn_wide.2 hcf).mono ?_; rintro e w' ⟨rfl, rfl⟩))
      exact ⟨_, results14 _ _ w.heap.size (w.heap.size + 1) 0 10 rfl rfl (by rw [World.cell?_setCell_other _ _ _ _ (by simp)]; exact World.cell?_setCell_same _ _ _ hc4) (World.cell?_setCell_same _ _ _ (by rw [World.cell?_setCell_other _ _ _ _ (by simp)]; exact hc5)), rfl, hfin _ rfl⟩
    | true =>
      cases o2 with
      | false =>
        clear hoo
        gi_wp2_with (first | (refine ⟨trivial, ?_⟩; gi_at_call 40; refine (callsIn_wide.2 hcp).mono ?_; rintro e w' ⟨rfl, rfl⟩) | (refine ⟨trivial, ?_⟩; gi_at_call 42; refine (callsIn_wide.2 hcf).mono ?_; rintro e w' ⟨rfl, rfl⟩))
        exact ⟨_, results14 _ _ w.heap.size (w.heap.size + 1) 0 10 rfl rfl (by rw [World.cell?_setCell_other _ _ _ _ (by simp)]; exact World.cell?_setCell_same _ _ _ hc4) (World.cell?_setCell_same _ _ _ (by rw [World.cell?_setCell_other _ _ _ _ (by simp)]; exact hc5)), rfl, hfin _ rfl⟩
      | true => exact absurd ⟨rfl, rfl⟩ hoo
end Go.Proofs.YthmcckdoneiglaaGreatDoor
