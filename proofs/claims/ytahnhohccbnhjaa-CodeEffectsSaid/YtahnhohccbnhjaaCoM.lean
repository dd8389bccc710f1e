/- Instructions out of bytes: Get, of package code and of the document's answer, in every memory. -/
import Derived.Test.YtahnhohccbnhjaaCoL
namespace Go.Proofs.Ytahnhohccbnhjaa
open Go Go.RowKit Go.Proofs.Mm Go.Sort

theorem getU_cases (l : List Nat) : (getU l).2.2 = 0 ∨ (getU l = (0, 0, 30) ∨ getU l = (0, 0, 31)) := by
  unfold getU
  split
  · exact .inr (.inr rfl)
  · split
    · exact .inr (.inl rfl)
    · split
      · exact .inl rfl
      · exact .inr (.inr rfl)
theorem getS_cases (l : List Nat) : (getS l).2.2 = 0 ∨ (getS l = (0, 0, 30) ∨ getS l = (0, 0, 31)) := by
  unfold getS
  split
  · exact .inr (.inr rfl)
  · split
    · exact .inr (.inl rfl)
    · split
      · exact .inl rfl
      · exact .inr (.inr rfl)
/-- What stands behind an instruction's number: the operand, how many bytes, the error. -/
def oprI (op : Int) (r : List Nat) : Int × Nat × Nat :=
  if op = 32 then getS r else if opdI op then (if 9223372036854775807 < (getU r).1 then (0, 0, 100) else (((getU r).1 : Int), (getU r).2.1, (getU r).2.2)) else (0, 0, 0)
/-- What Get answers. -/
def getI : List Nat → Int × Int × Nat × Nat
  | [] => (0, 0, 0, 30)
  | x :: r => if knI x then (if (oprI x r).2.2 = 0 then ((x : Int), (oprI x r).1, (oprI x r).2.1 + 1, 0) else (0, 0, 0, (oprI x r).2.2)) else (0, 0, 0, 100)
theorem getI_cons (x : Nat) (r : List Nat) : getI (x :: r) = if knI x then (if (oprI x r).2.2 = 0 then ((x : Int), (oprI x r).1, (oprI x r).2.1 + 1, 0) else (0, 0, 0, (oprI x r).2.2)) else (0, 0, 0, 100) := rfl
theorem oprI_err {op : Int} {r : List Nat} (h : (oprI op r).2.2 ≠ 0) : oprI op r = (0, 0, 30) ∨ oprI op r = (0, 0, 31) ∨ oprI op r = (0, 0, 100) := by
  unfold oprI at h ⊢
  split at h
  · rename_i h32
    rw [if_pos h32]
    rcases getS_cases r with h0 | h0 | h0
    · exact absurd h0 h
    · exact .inl h0
    · exact .inr (.inl h0)
  · rename_i h32
    rw [if_neg h32]
    split at h
    · rename_i ho
      rw [if_pos ho]
      split at h
      · rename_i hb
        rw [if_pos hb]
        exact .inr (.inr rfl)
      · rename_i hb
        rw [if_neg hb]
        rcases getU_cases r with h0 | h0 | h0
        · exact absurd h0 h
        · rw [h0]; exact .inl rfl
        · rw [h0]; exact .inr (.inl rfl)
    · exact absurd rfl h
theorem oprI_le (op : Int) (r : List Nat) : (oprI op r).2.1 ≤ r.length := by
  unfold oprI
  split
  · rcases getS_cases r with h | h | h
    · exact (getS_is h).2.1
    · rw [h]; exact Nat.zero_le _
    · rw [h]; exact Nat.zero_le _
  · split
    · split
      · exact Nat.zero_le _
      · rcases getU_cases r with h | h | h
        · exact (getU_is h).2.1
        · rw [h]; exact Nat.zero_le _
        · rw [h]; exact Nat.zero_le _
    · exact Nat.zero_le _
theorem results_c3 {P : Program} {fn : Func} {p u v : Tmp} {ty : TypeId} (h : fn.results = #[.cell p ty, .tmp u, .tmp v]) (tmps : Array Value) (w : World) (g : Nat) (t : TypeId) (cs : Array Value) (fr : Nat × Nat) (d : TypeDesc)
    (hp : tmps.getD p undef = .pointer (some ⟨g, 0, none⟩)) (hg : w.heap[g]? = some (.cells cs t fr))
    (hu : P.underlying ty = some d) (hd : (match d with | .struct _ | .array _ _ => true | _ => false) = true) (hi : (P.info? ty).map (·.size) = some cs.size) :
    (results fn tmps).run P w = .ok (.tuple #[.agg cs, tmps.getD u undef, tmps.getD v undef]) w := by
  have hp' : tmps[p]?.getD undef = .pointer (some ⟨g, 0, none⟩) := by simpa using hp
  simp [results, h, hp', asAddr, run_loadVar_row w g t ty cs fr d hg hu hd hi]
theorem ByIn.tail {B : Nat} {w : World} {b off : Nat} {x : Nat} {r : List Nat} (h : ByIn B w (some ⟨b, off, none⟩) (x :: r)) : ByIn B w (some ⟨b, off + 1, none⟩) r := by
  intro i hi
  obtain ⟨b', off', e, hlt, hc⟩ := h (i + 1) (by simp; omega)
  injection e with e
  injection e with e1 e2 e3
  subst e1 e2
  refine ⟨b, off + 1, rfl, hlt, ?_⟩
  rw [show off + 1 + i = off + (i + 1) from by omega]
  exact hc
theorem ByIn.head {B : Nat} {w : World} {p : Option Addr} {x : Nat} {r : List Nat} (h : ByIn B w p (x :: r)) : ∃ b off, p = some ⟨b, off, none⟩ ∧ b < B ∧ w.cell? ⟨b, off, none⟩ = some (.int .u8 (x : Int)) := by
  obtain ⟨b, off, e, hlt, hc⟩ := h 0 (by simp)
  exact ⟨b, off, e, hlt, hc⟩
def opV (x : Int × Nat × Nat) : Value := .tuple #[.int .i64 x.1, .int .i64 (x.2.1 : Nat), .int .i64 (x.2.2 : Nat)]
def gtV (x : Int × Int × Nat × Nat) : Value := .tuple #[.agg #[.int .i64 x.1, .int .i64 x.2.1], .int .i64 (x.2.2.1 : Nat), .int .i64 (x.2.2.2 : Nat)]
set_option maxRecDepth 100000 in
set_option maxHeartbeats 1000000 in
theorem operand_any (op : Int) (p : Option Addr) (c : Nat) (xs : List Nat) (hx : bytesL xs) (hl : xs.length ≤ c) (hm : c ≤ maxLen) (w : World) (hp : ByIn w.heap.size w p xs) :
    Calls Try.prog 38 #[.int .i64 op, .slice p xs.length c] w fun e w' => e = .returned (opV (oprI op xs)) ∧ Below w.heap.size w w' := by
  unfold oprI
  by_cases h32 : op = 32
  · subst h32
    rw [if_pos rfl]
    unfold opV
    have HG := Lib.hid (GetSigned_any p c xs hx hl hm w hp)
    generalize getS xs = r at HG ⊢
    generalize xs.length = n at HG ⊢
    clear hx hl hm hp
    go_enter Try.func38, Try.ntmps38
    go_wp2_with fail
    refine HG.out.mono ?_
    rintro e w1 ⟨rfl, hb⟩
    have HB := Lib.hid hb
    clear hb
    go_wp2
    go_ret3
    exact ⟨rfl, HB.out⟩
  · rw [if_neg h32]
    have h32b : (op == 32) = false := by rw [beq_eq_false_iff_ne]; exact h32
    cases ho : opdI op
    · have HO := Lib.hid (ho ▸ Operand_any op)
      rw [if_neg (by simp)]
      unfold opV
      clear ho h32 hx hl hm hp
      generalize xs.length = n
      go_enter Try.func38, Try.ntmps38
      go_wp2_with fail
      refine (HO.out _).mono ?_
      rintro e w1 ⟨rfl, rfl⟩
      go_wp2
      go_ret3
      exact ⟨rfl, Below.refl _ _⟩
    · have HO := Lib.hid (ho ▸ Operand_any op)
      rw [if_pos rfl]
      have HG := Lib.hid (Get_any p c xs hx hl hm w hp)
      have hlt : (getU xs).1 < W64 := by
        rcases getU_cases xs with h0 | h0 | h0
        · exact (getU_is h0).2.2
        · rw [h0]; decide
        · rw [h0]; decide
      unfold W64 at hlt
      generalize getU xs = r at HG hlt ⊢
      obtain ⟨m, k, er⟩ := r
      simp only at hlt ⊢
      generalize xs.length = n at HG ⊢
      clear hx hl hm hp ho h32
      by_cases hbig : 9223372036854775807 < m
      · rw [if_pos hbig]
        have hbi : (9223372036854775807 : Int) < (m : Int) := by omega
        unfold opV
        clear hbig hlt
        go_enter Try.func38, Try.ntmps38
        go_wp2_with fail
        refine (HO.out _).mono ?_
        rintro e w1 ⟨rfl, rfl⟩
        go_wp2_with fail
        refine HG.out.mono ?_
        rintro e w1 ⟨rfl, hb⟩
        have HB := Lib.hid hb
        clear hb
        go_wp2
        go_ret3
        exact ⟨rfl, HB.out⟩
      · rw [if_neg hbig]
        have hbi : ¬ (9223372036854775807 : Int) < (m : Int) := by omega
        have hw : IntKind.i64.wrap (m : Int) = (m : Int) := by rw [wrap_i64]; exact wrap_id (by omega) (by omega)
        unfold opV
        clear hbig hlt
        go_enter Try.func38, Try.ntmps38
        go_wp2_with fail
        refine (HO.out _).mono ?_
        rintro e w1 ⟨rfl, rfl⟩
        go_wp2_with fail
        refine HG.out.mono ?_
        rintro e w1 ⟨rfl, hb⟩
        have HB := Lib.hid hb
        clear hb
        go_wp2
        go_ret3
        exact ⟨rfl, HB.out⟩
set_option maxRecDepth 100000 in
set_option maxHeartbeats 1000000 in
theorem cGet_any (p : Option Addr) (c : Nat) (xs : List Nat) (hx : bytesL xs) (hl : xs.length ≤ c) (hm : c ≤ maxLen) (w : World) (hp : ByIn w.heap.size w p xs) :
    Calls Try.prog 20 #[.slice p xs.length c] w fun e w' => e = .returned (gtV (getI xs)) ∧ Below w.heap.size w w' := by
  cases xs with
  | nil =>
    rw [show gtV (getI []) = .tuple #[.agg #[.int .i64 0, .int .i64 0], .int .i64 0, .int .i64 30] from rfl]
    simp only [List.length_nil]
    clear hx hl hm hp
    go_enter Try.func20, Try.ntmps20
    go_wp2
    try simp only [Exit.inBlock, Exit.then]
    refine bodyPost_ret (v := .tuple #[.agg #[.int .i64 0, .int .i64 0], .int .i64 0, .int .i64 30]) (by simp [results, Try.results20, go_sem]) rfl ⟨rfl, bl_al (Below.refl _ _) _⟩
  | cons x r =>
    obtain ⟨b, off, rfl, hlt, hc⟩ := hp.head
    have HK := Lib.hid (isKnown_any (x : Int))
    have hlen : (r.length : Int) + 1 ≤ (c : Int) := by simp at hl; omega
    have hx256 : x < 256 := hx x (List.mem_cons_self ..)
    have hw2 : wrap64 (x : Int) = x := wrap_id (by omega) (by omega)
    have hw1 : IntKind.i64.wrap (x : Int) = x := by rw [wrap_i64]; exact hw2
    clear hx256
    have hmx := hm
    unfold maxLen at hmx
    rw [getI_cons]
    cases hk : knI (x : Int)
    · rw [if_neg (by simp)]
      rw [hk] at HK
      rw [show gtV (0, 0, 0, 100) = .tuple #[.agg #[.int .i64 0, .int .i64 0], .int .i64 0, .int .i64 100] from rfl]
      rw [List.length_cons]
      generalize r.length = n at hlen ⊢
      clear hx hl hm hp hk
      go_enter Try.func20, Try.ntmps20
      go_wp2_with fail
      refine (HK.out _).mono ?_
      rintro e w1 ⟨rfl, rfl⟩
      go_wp2
      try simp only [Exit.inBlock, Exit.then]
      refine bodyPost_ret (v := .tuple #[.agg #[.int .i64 0, .int .i64 0], .int .i64 0, .int .i64 100]) (by simp [results, Try.results20, go_sem]) rfl ⟨rfl, bl_al (Below.refl _ _) _⟩
    · rw [if_pos rfl]
      rw [hk] at HK
      have HE := Lib.hid (oprI_err (op := (x : Int)) (r := r))
      have hle := oprI_le (x : Int) r
      rw [List.length_cons]
      by_cases hc1 : c = 1
      · subst hc1
        have hr0 : r = [] := List.eq_nil_of_length_eq_zero (by omega)
        subst hr0
        have HP := Lib.hid (fun (W : World) (hb : Below w.heap.size w W) => operand_any (x : Int) (some ⟨b, off, none⟩) 0 [] (fun y hy => by cases hy) (Nat.le_refl _) (by omega) W (ByIn.nil _ _ _))
        generalize oprI (x : Int) [] = R at HP HE hle ⊢
        simp only [List.length_nil] at HP hlen hle ⊢
        obtain ⟨m, k, er⟩ := R
        unfold opV at HP
        simp only at HE hle ⊢
        clear hx hl hm hp hk
        by_cases he : er = 0
        · subst he
          rw [if_pos rfl]
          unfold gtV
          have hwk : wrap64 (1 + (k : Int)) = (k : Int) + 1 := by rw [Int.add_comm]; exact wrap_id (by omega) (by omega)
          simp only
          rw [show ((k + 1 : Nat) : Int) = wrap64 (1 + (k : Int)) from by rw [hwk]; omega]
          clear hwk
          clear HE hle
          go_enter Try.func20, Try.ntmps20
          go_wp2_with fail
          refine (HK.out _).mono ?_
          rintro e w1 ⟨rfl, rfl⟩
          go_wp2_with fail
          refine (HP.out _ (bl_al (Below.refl _ _) _)).mono ?_
          rintro e w2 ⟨rfl, hb⟩
          have hI := (InB.new w #[.int .i64 0, .int .i64 0] 23).le hb
          have d0 := hI.cell (j := 0) rfl
          have d1 := hI.cell (j := 1) rfl
          have f0 := hI.free 0
          have f1 := hI.free 1
          have hl2 := hI.lt
          have HI := Lib.hid hI
          have HB := Lib.hid ((bl_al (Below.refl _ w) _).trans (hb.mono (by simp)))
          clear hb hI
          go_wp2
          refine bodyPost_ret (results_c3 rfl _ _ w.heap.size 23 #[.int .i64 (x : Int), .int .i64 m] (0, 0) _ rfl (heap_set (heap_set HI.out 0 _) 1 _) Try.underlying23 rfl (by kernel_rfl)) rfl ⟨rfl, HB.out.set2 (Nat.le_refl _)⟩
        · rw [if_neg he]
          have hz := HE.out he
          clear HE hle
          rcases hz with hz | hz | hz
          all_goals
            simp only [Prod.mk.injEq] at hz
            obtain ⟨rfl, rfl, rfl⟩ := hz
            clear he
            unfold gtV
            simp only
            go_enter Try.func20, Try.ntmps20
            go_wp2_with fail
            refine (HK.out _).mono ?_
            rintro e w1 ⟨rfl, rfl⟩
            go_wp2_with fail
            refine (HP.out _ (bl_al (Below.refl _ _) _)).mono ?_
            rintro e w2 ⟨rfl, hb⟩
            have hI := (InB.new w #[.int .i64 0, .int .i64 0] 23).le hb
            have d0 := hI.cell (j := 0) rfl
            have d1 := hI.cell (j := 1) rfl
            have f0 := hI.free 0
            have f1 := hI.free 1
            have hl2 := hI.lt
            have HI := Lib.hid hI
            have HB := Lib.hid ((bl_al (Below.refl _ w) _).trans (hb.mono (by simp)))
            clear hb hI
            go_wp2
            refine bodyPost_ret (results_c3 rfl _ _ w.heap.size 23 #[.int .i64 0, .int .i64 0] (0, 0) _ rfl (heap_set (heap_set HI.out 0 _) 1 _) Try.underlying23 rfl (by kernel_rfl)) rfl ⟨rfl, HB.out.set2 (Nat.le_refl _)⟩
      · have HP := Lib.hid (fun (W : World) (hb : Below w.heap.size w W) => operand_any (x : Int) (some ⟨b, off + 1, none⟩) (c - 1) r (fun y hy => hx y (List.mem_cons_of_mem _ hy)) (by simp at hl; omega) (by omega) W (hp.tail.below hb (Nat.le_refl _) hb.size))
        generalize oprI (x : Int) r = R at HP HE hle ⊢
        generalize r.length = n at HP hlen hle ⊢
        obtain ⟨m, k, er⟩ := R
        unfold opV at HP
        simp only at HE hle ⊢
        clear hx hl hm hp hk
        by_cases he : er = 0
        · subst he
          rw [if_pos rfl]
          unfold gtV
          have hwk : wrap64 (1 + (k : Int)) = (k : Int) + 1 := by rw [Int.add_comm]; exact wrap_id (by omega) (by omega)
          simp only
          rw [show ((k + 1 : Nat) : Int) = wrap64 (1 + (k : Int)) from by rw [hwk]; omega]
          clear hwk
          clear HE hle
          go_enter Try.func20, Try.ntmps20
          go_wp2_with fail
          refine (HK.out _).mono ?_
          rintro e w1 ⟨rfl, rfl⟩
          go_wp2_with fail
          refine (HP.out _ (bl_al (Below.refl _ _) _)).mono ?_
          rintro e w2 ⟨rfl, hb⟩
          have hI := (InB.new w #[.int .i64 0, .int .i64 0] 23).le hb
          have d0 := hI.cell (j := 0) rfl
          have d1 := hI.cell (j := 1) rfl
          have f0 := hI.free 0
          have f1 := hI.free 1
          have hl2 := hI.lt
          have HI := Lib.hid hI
          have HB := Lib.hid ((bl_al (Below.refl _ w) _).trans (hb.mono (by simp)))
          clear hb hI
          go_wp2
          refine bodyPost_ret (results_c3 rfl _ _ w.heap.size 23 #[.int .i64 (x : Int), .int .i64 m] (0, 0) _ rfl (heap_set (heap_set HI.out 0 _) 1 _) Try.underlying23 rfl (by kernel_rfl)) rfl ⟨rfl, HB.out.set2 (Nat.le_refl _)⟩
        · rw [if_neg he]
          have hz := HE.out he
          clear HE hle
          rcases hz with hz | hz | hz
          all_goals
            simp only [Prod.mk.injEq] at hz
            obtain ⟨rfl, rfl, rfl⟩ := hz
            clear he
            unfold gtV
            simp only
            go_enter Try.func20, Try.ntmps20
            go_wp2_with fail
            refine (HK.out _).mono ?_
            rintro e w1 ⟨rfl, rfl⟩
            go_wp2_with fail
            refine (HP.out _ (bl_al (Below.refl _ _) _)).mono ?_
            rintro e w2 ⟨rfl, hb⟩
            have hI := (InB.new w #[.int .i64 0, .int .i64 0] 23).le hb
            have d0 := hI.cell (j := 0) rfl
            have d1 := hI.cell (j := 1) rfl
            have f0 := hI.free 0
            have f1 := hI.free 1
            have hl2 := hI.lt
            have HI := Lib.hid hI
            have HB := Lib.hid ((bl_al (Below.refl _ w) _).trans (hb.mono (by simp)))
            clear hb hI
            go_wp2
            refine bodyPost_ret (results_c3 rfl _ _ w.heap.size 23 #[.int .i64 0, .int .i64 0] (0, 0) _ rfl (heap_set (heap_set HI.out 0 _) 1 _) Try.underlying23 rfl (by kernel_rfl)) rfl ⟨rfl, HB.out.set2 (Nat.le_refl _)⟩
end Go.Proofs.Ytahnhohccbnhjaa
