/- The reader of package leb, in every memory. -/
import Derived.Test.YtfmeclfoknjheaaI
namespace Go.Proofs.Ytfmeclfoknjheaa
open Go Go.RowKit

/-- Nothing but block R has turned, of what there was. -/
structure But (R : Nat) (w w' : World) : Prop where
  os : w'.os = w.os
  tape : w'.tape = w.tape
  output : w'.output = w.output
  size : w.heap.size ≤ w'.heap.size
  block : ∀ k, k < w.heap.size → k ≠ R → w'.heap[k]? = w.heap[k]?
theorem But.of_below {R : Nat} {w w' : World} (h : Below w.heap.size w w') : But R w w' := ⟨h.os, h.tape, h.output, h.size, fun k hk _ => h.block k hk⟩
theorem But.trans {R : Nat} {a b c : World} (h : But R a b) (k : But R b c) : But R a c :=
  ⟨k.os.trans h.os, k.tape.trans h.tape, k.output.trans h.output, Nat.le_trans h.size k.size, fun i hi hne => (k.block i (Nat.lt_of_lt_of_le hi h.size) hne).trans (h.block i hi hne)⟩
theorem But.set {R : Nat} (w : World) (o : Nat) (u : Value) : But R w (w.setCell ⟨R, o, none⟩ u) :=
  ⟨rfl, rfl, rfl, by simp [World.setCell], fun k _ hk => Below.heap_setCell _ _ _ _ hk⟩
theorem But.low {R B : Nat} {w w' : World} (h : But R w w') (hB : B ≤ w.heap.size) (hR : B ≤ R) : Below B w w' :=
  ⟨h.os, h.tape, h.output, h.size, fun k hk => h.block k (by omega) (by omega)⟩
theorem But.cell {R : Nat} {w w' : World} {a : Addr} {v : Value} (h : But R w w') (hc : w.cell? a = some v) (hne : a.block ≠ R) : w'.cell? a = some v :=
  (World.cell?_of_block (h.block a.block (World.block_lt_of_cell? _ _ hc) hne)).trans hc
theorem But.frozen {R : Nat} {w w' : World} {a : Addr} {v : Value} (h : But R w w') (hc : w.cell? a = some v) (hf : w.frozen? a = false) (hne : a.block ≠ R) : w'.frozen? a = false :=
  (World.frozen?_of_block (h.block a.block (World.block_lt_of_cell? _ _ hc) hne)).trans hf

/-- A reader lies at R: what it reads, where it stands, its error; what it reads lies below B. -/
structure Rd (B R : Nat) (q : Option Addr) (cap : Nat) (l : List Nat) (pos e : Nat) (w : World) : Prop where
  c0 : w.cell? ⟨R, 0, none⟩ = some (.slice q l.length cap)
  c1 : w.cell? ⟨R, 1, none⟩ = some (.int .i64 (pos : Int))
  c2 : w.cell? ⟨R, 2, none⟩ = some (.int .i64 (e : Int))
  f1 : w.frozen? ⟨R, 1, none⟩ = false
  f2 : w.frozen? ⟨R, 2, none⟩ = false
  le : pos ≤ l.length
  lc : l.length ≤ cap
  cm : cap ≤ maxLen
  nil : (q = none ∧ l = [] ∧ cap = 0) ∨ ∃ ad, q = some ad ∧ (0 < cap → ad.spot = none)
  row : ByIn B w q l
  low : B ≤ R
theorem Rd.other {B R S : Nat} {q : Option Addr} {cap : Nat} {l : List Nat} {pos e : Nat} {w w' : World} (h : Rd B R q cap l pos e w) (hb : But S w w') (hR : R ≠ S) (hS : B ≤ S) : Rd B R q cap l pos e w' :=
  ⟨hb.cell h.c0 hR, hb.cell h.c1 hR, hb.cell h.c2 hR, hb.frozen h.c1 h.f1 hR, hb.frozen h.c2 h.f2 hR, h.le, h.lc, h.cm, h.nil, fun i hi => by
    obtain ⟨b, off, he, hlt, hc⟩ := h.row i hi
    exact ⟨b, off, he, hlt, hb.cell hc (by simp; omega)⟩, h.low⟩
theorem Rd.below {B R : Nat} {q : Option Addr} {cap : Nat} {l : List Nat} {pos e : Nat} {w w' : World} (h : Rd B R q cap l pos e w) (hb : Below w.heap.size w w') : Rd B R q cap l pos e w' := by
  have hRlt := World.block_lt_of_cell? _ _ h.c0
  refine h.other (S := w.heap.size) (But.of_below hb) (Nat.ne_of_lt hRlt) ?_
  have := h.low
  have : R < w.heap.size := hRlt
  omega
/-- It moves on. -/
theorem Rd.moved {B R : Nat} {q : Option Addr} {cap : Nat} {l : List Nat} {pos e : Nat} {w : World} (h : Rd B R q cap l pos e w) (k f : Nat) (hk : k ≤ l.length) :
    Rd B R q cap l k f ((w.setCell ⟨R, 1, none⟩ (.int .i64 (k : Int))).setCell ⟨R, 2, none⟩ (.int .i64 (f : Int))) := by
  have n01 : (⟨R, 1, none⟩ : Addr) ≠ ⟨R, 0, none⟩ := by simp
  have n02 : (⟨R, 2, none⟩ : Addr) ≠ ⟨R, 0, none⟩ := by simp
  have n21 : (⟨R, 2, none⟩ : Addr) ≠ ⟨R, 1, none⟩ := by simp
  have n12 : (⟨R, 1, none⟩ : Addr) ≠ ⟨R, 2, none⟩ := by simp
  refine ⟨?_, ?_, ?_, ?_, ?_, hk, h.lc, h.cm, h.nil, fun i hi => ?_, h.low⟩
  · rw [World.cell?_setCell_other _ _ _ _ n02, World.cell?_setCell_other _ _ _ _ n01]; exact h.c0
  · rw [World.cell?_setCell_other _ _ _ _ n21]; exact World.cell?_setCell_same _ _ _ h.c1
  · exact World.cell?_setCell_same _ _ _ (u := .int .i64 (e : Int)) (by rw [World.cell?_setCell_other _ _ _ _ n12]; exact h.c2)
  · rw [World.frozen?_setCell, World.frozen?_setCell]; exact h.f1
  · rw [World.frozen?_setCell, World.frozen?_setCell]; exact h.f2
  · obtain ⟨b, off, he, hlt, hc⟩ := h.row i hi
    have hl := h.low
    refine ⟨b, off, he, hlt, ?_⟩
    rw [World.cell?_setCell_other _ _ _ _ (fun e => by have := congrArg Addr.block e; simp at this; omega), World.cell?_setCell_other _ _ _ _ (fun e => by have := congrArg Addr.block e; simp at this; omega)]
    exact hc
theorem Rd.moved_but {R : Nat} {w : World} {u v : Value} : But R w ((w.setCell ⟨R, 1, none⟩ u).setCell ⟨R, 2, none⟩ v) := (But.set w 1 u).trans (But.set _ 2 v)

set_option maxRecDepth 100000 in
theorem ahead_no {B R : Nat} {q : Option Addr} {cap : Nat} {l : List Nat} {pos e : Nat} {w : World} (h : Rd B R q cap l pos e w) (he : e ≠ 0) :
    Calls Try.prog 48 #[.pointer (some ⟨R, 0, none⟩)] w fun r w' => r = .returned (.tuple #[.slice none 0 0, .bool false]) ∧ w' = w := by
  have h2 := h.c2
  have hei : ((e : Int) != 0) = true := by simp; omega
  clear he h
  go_enter Try.func48, Try.ntmps48
  go_wp2
  go_ret2
  exact ⟨rfl, rfl⟩

set_option maxRecDepth 100000 in
theorem ahead_yes {B R : Nat} {q : Option Addr} {cap : Nat} {l : List Nat} {pos : Nat} {w : World} (h : Rd B R q cap l pos 0 w) :
    Calls Try.prog 48 #[.pointer (some ⟨R, 0, none⟩)] w fun r w' => ∃ q', r = .returned (.tuple #[.slice q' (l.length - pos) (cap - pos), .bool true]) ∧ ByIn B w' q' (l.drop pos) ∧ Below w.heap.size w w' := by
  have h0 := h.c0
  have h1 := h.c1
  have h2 := h.c2
  have hle := h.le
  have hlc := h.lc
  have hcm := h.cm
  unfold maxLen at hcm
  have hle' : (pos : Int) ≤ (l.length : Int) := by omega
  have hlc' : (l.length : Int) ≤ (cap : Int) := by omega
  rcases h.nil with ⟨rfl, rfl, rfl⟩ | ⟨ad, rfl, hspot⟩
  · obtain rfl : pos = 0 := by simpa using hle
    clear hle hlc hle' hlc' h
    go_enter Try.func48, Try.ntmps48
    go_wp2
    go_region
    go_wp2
    go_ret2
    exact ⟨_, rfl, ByIn.nil _ _ _, (Below.refl _ _).drew⟩
  · have hrow := Lib.hid h.row
    clear h
    obtain ⟨n, hn⟩ : ∃ n, l.length = n := ⟨_, rfl⟩
    have HN := Lib.hid hn
    rw [hn] at h0 hle hlc hle' hlc' ⊢
    clear hn
    by_cases hcp : cap = pos
    · subst hcp
      obtain rfl : n = cap := by omega
      clear hspot
      go_enter Try.func48, Try.ntmps48
      go_wp2
      go_region
      go_wp2
      go_ret2
      refine ⟨some ad, by rw [Nat.sub_self]; rfl, ?_, (Below.refl _ _).drew⟩
      rw [List.drop_eq_nil_of_le (by rw [HN.out]; omega)]
      exact ByIn.nil _ _ _
    · obtain ⟨b, o, sp⟩ := ad
      obtain rfl : sp = none := hspot (by omega)
      clear hspot
      go_enter Try.func48, Try.ntmps48
      go_wp2
      go_region
      go_wp2
      go_ret2
      refine ⟨_, rfl, fun i hi => ?_, (Below.refl _ _).drew⟩
      have hi' : i < n - pos := by rw [List.length_drop, HN.out] at hi; exact hi
      obtain ⟨b', o', he, hlt, hc⟩ := hrow.out (pos + i) (by rw [HN.out]; omega)
      cases he
      refine ⟨b, o + pos, rfl, hlt, ?_⟩
      rw [show l.getD (pos + i) 0 = (l.drop pos).getD i 0 from by simp [List.getD_eq_getElem?_getD]] at hc
      rw [Nat.add_assoc]
      exact ((Below.refl w.heap.size w).drew.cell (p := ⟨b, o + (pos + i), none⟩) (World.block_lt_of_cell? _ _ hc)).trans hc

set_option maxRecDepth 100000 in
theorem move_any {B R : Nat} {q : Option Addr} {cap : Nat} {l : List Nat} {pos e : Nat} {w : World} (h : Rd B R q cap l pos e w) (k f : Nat) (hk : pos + k ≤ l.length) :
    Calls Try.prog 49 #[.pointer (some ⟨R, 0, none⟩), .int .i64 (k : Int), .int .i64 (f : Int)] w fun r w' => r = .returned (.tuple #[]) ∧ Rd B R q cap l (pos + k) f w' ∧ But R w w' := by
  have h1 := h.c1
  have h2 := h.c2
  have f1 := h.f1
  have f2 := h.f2
  have hcm := h.cm
  have hlc := h.lc
  unfold maxLen at hcm
  have hb : (pos : Int) + (k : Int) = ((pos + k : Nat) : Int) := by omega
  have hfin := Lib.hid (h.moved (pos + k) f hk)
  clear h
  have HB := Lib.hid hb
  have hb2 : (pos : Int) + (k : Int) < 9223372036854775808 := by omega
  clear hb
  go_enter Try.func49, Try.ntmps49
  go_wp2
  go_end0
  rw [HB.out]
  exact ⟨rfl, hfin.out, Rd.moved_but⟩

/-- What a reader's call answers, where it stands then, its error. -/
def rdU (l : List Nat) (pos e : Nat) : Nat × Nat × Nat := if e = 0 then ((getU (l.drop pos)).1, pos + (getU (l.drop pos)).2.1, (getU (l.drop pos)).2.2) else (0, pos, e)
def rdS (l : List Nat) (pos e : Nat) : Int × Nat × Nat := if e = 0 then ((getS (l.drop pos)).1, pos + (getS (l.drop pos)).2.1, (getS (l.drop pos)).2.2) else (0, pos, e)
def firstV (l : List Nat) : Nat × Nat × Nat := match l with
  | [] => (0, 0, 30)
  | x :: _ => (x, 1, 0)
def rdB (l : List Nat) (pos e : Nat) : Nat × Nat × Nat := if e = 0 then ((firstV (l.drop pos)).1, pos + (firstV (l.drop pos)).2.1, (firstV (l.drop pos)).2.2) else (0, pos, e)

theorem getU_le (l : List Nat) : (getU l).2.1 ≤ l.length := by
  by_cases h : (getU l).2.2 = 0
  · exact (getU_is h).2.1
  · unfold getU at h ⊢
    split
    · exact Nat.zero_le _
    · split
      · exact Nat.zero_le _
      · split
        · rename_i h1 h2 h3
          rw [if_neg h1, if_neg h2, if_pos h3] at h
          exact absurd rfl h
        · exact Nat.zero_le _
theorem getS_le (l : List Nat) : (getS l).2.1 ≤ l.length := by
  by_cases h : (getS l).2.2 = 0
  · exact (getS_is h).2.1
  · unfold getS at h ⊢
    split
    · exact Nat.zero_le _
    · split
      · exact Nat.zero_le _
      · split
        · rename_i h1 h2 h3
          rw [if_neg h1, if_neg h2, if_pos h3] at h
          exact absurd rfl h
        · exact Nat.zero_le _
theorem firstV_le (l : List Nat) : (firstV l).2.1 ≤ l.length := by cases l <;> simp [firstV]

/-- The three things that a reader's calls are handed. -/
abbrev aheadF (R : Nat) : Value := .func (.func 48) #[.pointer (some ⟨R, 0, none⟩)] #[]
abbrev moveF (R : Nat) : Value := .func (.func 49) #[.pointer (some ⟨R, 0, none⟩)] #[]

set_option maxRecDepth 100000 in
theorem takeU_any {B R : Nat} {q : Option Addr} {cap : Nat} {l : List Nat} {pos e : Nat} {w : World} (h : Rd B R q cap l pos e w) (hx : bytesL l) :
    Calls Try.prog 47 #[aheadF R, moveF R, .func (.func 19) #[] #[]] w fun r w' => r = .returned (.int .u64 ((rdU l pos e).1 : Nat)) ∧ Rd B R q cap l (rdU l pos e).2.1 (rdU l pos e).2.2 w' ∧ But R w w' := by
  by_cases he : e = 0
  · subst he
    have hst : rdU l pos 0 = ((getU (l.drop pos)).1, pos + (getU (l.drop pos)).2.1, (getU (l.drop pos)).2.2) := if_pos rfl
    have hgl := getU_le (l.drop pos)
    rw [List.length_drop] at hgl
    have H1 := Lib.hid (ahead_yes h)
    have H2 := Lib.hid (fun (w1 : World) (q' : Option Addr) (hin : ByIn B w1 q' (l.drop pos)) (hB : Below w.heap.size w w1) =>
      Get_any q' (cap - pos) (l.drop pos) (bytesL_drop hx pos) (by have := h.lc; have := h.le; rw [List.length_drop]; omega) (by have := h.cm; omega) w1 (hin.wider (by have := h.low; have := World.block_lt_of_cell? _ _ h.c0; have : R < w.heap.size := this; have := hB.size; omega)))
    have H3 := Lib.hid (fun (w1 : World) (hB : Below w.heap.size w w1) => move_any (h.below hB) (getU (l.drop pos)).2.1 (getU (l.drop pos)).2.2 (by have := h.le; omega))
    rw [List.length_drop] at H2
    rw [hst]
    clear hst hgl h
    generalize getU (l.drop pos) = r at H2 H3 ⊢
    obtain ⟨v, k, f⟩ := r
    generalize l.length - pos = n at H1 H2
    go_enter Try.func47, Try.ntmps47
    go_wp2_with fail
    refine H1.out.mono ?_
    rintro e w1 ⟨q', rfl, hin, hB1⟩
    have G2 := Lib.hid (H2.out w1 q' hin hB1)
    clear H1 H2 hin
    go_wp2_with fail
    refine G2.out.mono ?_
    rintro e w2 ⟨rfl, hB2⟩
    have hB := hB1.trans (hB2.mono hB1.size)
    have G3 := Lib.hid (H3.out w2 hB)
    clear H3 G2 hB1 hB2
    go_wp2_with fail
    refine G3.out.mono ?_
    rintro e w3 ⟨rfl, hR, hBu⟩
    clear G3
    have HF := Lib.hid (And.intro hR ((But.of_below hB).trans hBu))
    clear hR hBu hB
    go_wp2
    go_ret
    exact ⟨rfl, HF.out⟩
  · have hst : rdU l pos e = (0, pos, e) := if_neg he
    rw [hst]
    have H1 := Lib.hid (ahead_no h he)
    have HH := Lib.hid h
    clear hst h
    go_enter Try.func47, Try.ntmps47
    go_wp2_with fail
    refine H1.out.mono ?_
    rintro r w1 ⟨rfl, rfl⟩
    clear H1
    go_wp2
    go_ret
    exact ⟨rfl, HH.out, But.of_below (Below.refl _ _)⟩
set_option maxRecDepth 100000 in
theorem takeS_any {B R : Nat} {q : Option Addr} {cap : Nat} {l : List Nat} {pos e : Nat} {w : World} (h : Rd B R q cap l pos e w) (hx : bytesL l) :
    Calls Try.prog 50 #[aheadF R, moveF R, .func (.func 20) #[] #[]] w fun r w' => r = .returned (.int .i64 (rdS l pos e).1) ∧ Rd B R q cap l (rdS l pos e).2.1 (rdS l pos e).2.2 w' ∧ But R w w' := by
  by_cases he : e = 0
  · subst he
    have hst : rdS l pos 0 = ((getS (l.drop pos)).1, pos + (getS (l.drop pos)).2.1, (getS (l.drop pos)).2.2) := if_pos rfl
    have hgl := getS_le (l.drop pos)
    rw [List.length_drop] at hgl
    have H1 := Lib.hid (ahead_yes h)
    have H2 := Lib.hid (fun (w1 : World) (q' : Option Addr) (hin : ByIn B w1 q' (l.drop pos)) (hB : Below w.heap.size w w1) =>
      GetSigned_any q' (cap - pos) (l.drop pos) (bytesL_drop hx pos) (by have := h.lc; have := h.le; rw [List.length_drop]; omega) (by have := h.cm; omega) w1 (hin.wider (by have := h.low; have := World.block_lt_of_cell? _ _ h.c0; have : R < w.heap.size := this; have := hB.size; omega)))
    have H3 := Lib.hid (fun (w1 : World) (hB : Below w.heap.size w w1) => move_any (h.below hB) (getS (l.drop pos)).2.1 (getS (l.drop pos)).2.2 (by have := h.le; omega))
    rw [List.length_drop] at H2
    rw [hst]
    clear hst hgl h
    generalize getS (l.drop pos) = r at H2 H3 ⊢
    obtain ⟨v, k, f⟩ := r
    generalize l.length - pos = n at H1 H2
    go_enter Try.func50, Try.ntmps50
    go_wp2_with fail
    refine H1.out.mono ?_
    rintro e w1 ⟨q', rfl, hin, hB1⟩
    have G2 := Lib.hid (H2.out w1 q' hin hB1)
    clear H1 H2 hin
    go_wp2_with fail
    refine G2.out.mono ?_
    rintro e w2 ⟨rfl, hB2⟩
    have hB := hB1.trans (hB2.mono hB1.size)
    have G3 := Lib.hid (H3.out w2 hB)
    clear H3 G2 hB1 hB2
    go_wp2_with fail
    refine G3.out.mono ?_
    rintro e w3 ⟨rfl, hR, hBu⟩
    clear G3
    have HF := Lib.hid (And.intro hR ((But.of_below hB).trans hBu))
    clear hR hBu hB
    go_wp2
    go_ret
    exact ⟨rfl, HF.out⟩
  · have hst : rdS l pos e = (0, pos, e) := if_neg he
    rw [hst]
    have H1 := Lib.hid (ahead_no h he)
    have HH := Lib.hid h
    clear hst h
    go_enter Try.func50, Try.ntmps50
    go_wp2_with fail
    refine H1.out.mono ?_
    rintro r w1 ⟨rfl, rfl⟩
    clear H1
    go_wp2
    go_ret
    exact ⟨rfl, HH.out, But.of_below (Below.refl _ _)⟩

set_option maxRecDepth 100000 in
theorem first_any {B : Nat} {p : Option Addr} {c : Nat} {l : List Nat} {w : World} (hl : l.length ≤ c) (hp : ByIn B w p l) :
    Calls Try.prog 52 #[.slice p l.length c] w fun r w' => r = .returned (.tuple #[.int .u8 ((firstV l).1 : Nat), .int .i64 ((firstV l).2.1 : Nat), .int .i64 ((firstV l).2.2 : Nat)]) ∧ Below w.heap.size w w' := by
  cases l with
  | nil =>
    have : ([] : List Nat).length = 0 := rfl
    rw [this]
    clear hp
    go_enter Try.func52, Try.ntmps52
    go_wp2
    go_ret3
    exact ⟨rfl, Below.refl _ _⟩
  | cons x l =>
    obtain ⟨b, off, rfl, _, hc⟩ := hp 0 (by simp)
    have hc' : w.cell? ⟨b, off, none⟩ = some (.int .u8 (x : Int)) := hc
    have hlen : (x :: l).length = l.length + 1 := rfl
    rw [hlen] at hl ⊢
    have hl0 : (0 : Int) < (l.length : Int) + 1 := by omega
    have hne : ((l.length : Int) + 1 == 0) = false := by simp; omega
    clear hp hc hlen
    generalize l.length = n at hl hl0 hne ⊢
    go_enter Try.func52, Try.ntmps52
    go_wp2
    go_ret3
    exact ⟨rfl, by first | exact Below.refl _ _ | exact (Below.refl _ _).drew⟩

set_option maxRecDepth 100000 in
theorem takeB_any {B R : Nat} {q : Option Addr} {cap : Nat} {l : List Nat} {pos e : Nat} {w : World} (h : Rd B R q cap l pos e w) :
    Calls Try.prog 51 #[aheadF R, moveF R, .func (.func 52) #[] #[]] w fun r w' => r = .returned (.int .u8 ((rdB l pos e).1 : Nat)) ∧ Rd B R q cap l (rdB l pos e).2.1 (rdB l pos e).2.2 w' ∧ But R w w' := by
  by_cases he : e = 0
  · subst he
    have hst : rdB l pos 0 = ((firstV (l.drop pos)).1, pos + (firstV (l.drop pos)).2.1, (firstV (l.drop pos)).2.2) := if_pos rfl
    have hgl := firstV_le (l.drop pos)
    rw [List.length_drop] at hgl
    have H1 := Lib.hid (ahead_yes h)
    have H2 := Lib.hid (fun (w1 : World) (q' : Option Addr) (hin : ByIn B w1 q' (l.drop pos)) (hB : Below w.heap.size w w1) =>
      first_any (B := B) (p := q') (c := cap - pos) (l := l.drop pos) (w := w1) (by have := h.lc; have := h.le; rw [List.length_drop]; omega) hin)
    have H3 := Lib.hid (fun (w1 : World) (hB : Below w.heap.size w w1) => move_any (h.below hB) (firstV (l.drop pos)).2.1 (firstV (l.drop pos)).2.2 (by have := h.le; omega))
    rw [List.length_drop] at H2
    rw [hst]
    clear hst hgl h
    generalize firstV (l.drop pos) = r at H2 H3 ⊢
    obtain ⟨v, k, f⟩ := r
    generalize l.length - pos = n at H1 H2
    go_enter Try.func51, Try.ntmps51
    go_wp2_with fail
    refine H1.out.mono ?_
    rintro e w1 ⟨q', rfl, hin, hB1⟩
    have G2 := Lib.hid (H2.out w1 q' hin hB1)
    clear H1 H2 hin
    go_wp2_with fail
    refine G2.out.mono ?_
    rintro e w2 ⟨rfl, hB2⟩
    have hB := hB1.trans (hB2.mono hB1.size)
    have G3 := Lib.hid (H3.out w2 hB)
    clear H3 G2 hB1 hB2
    go_wp2_with fail
    refine G3.out.mono ?_
    rintro e w3 ⟨rfl, hR, hBu⟩
    clear G3
    have HF := Lib.hid (And.intro hR ((But.of_below hB).trans hBu))
    clear hR hBu hB
    go_wp2
    go_ret
    exact ⟨rfl, HF.out⟩
  · have hst : rdB l pos e = (0, pos, e) := if_neg he
    rw [hst]
    have H1 := Lib.hid (ahead_no h he)
    have HH := Lib.hid h
    clear hst h
    go_enter Try.func51, Try.ntmps51
    go_wp2_with fail
    refine H1.out.mono ?_
    rintro r w1 ⟨rfl, rfl⟩
    clear H1
    go_wp2
    go_ret
    exact ⟨rfl, HH.out, But.of_below (Below.refl _ _)⟩

set_option maxRecDepth 100000 in
theorem Unsigned_any {B R : Nat} {q : Option Addr} {cap : Nat} {l : List Nat} {pos e : Nat} {w : World} (h : Rd B R q cap l pos e w) (hx : bytesL l) :
    Calls Try.prog 24 #[.pointer (some ⟨R, 0, none⟩)] w fun r w' => r = .returned (.int .u64 ((rdU l pos e).1 : Nat)) ∧ Rd B R q cap l (rdU l pos e).2.1 (rdU l pos e).2.2 w' ∧ But R w w' := by
  have H := Lib.hid (takeU_any h hx)
  clear h
  generalize rdU l pos e = r at H ⊢
  go_enter Try.func24, Try.ntmps24
  go_wp2_with fail
  refine H.out.mono ?_
  rintro e w1 ⟨rfl, h1, h2⟩
  have HF := Lib.hid (And.intro h1 h2)
  clear h1 h2 H
  go_wp2
  go_ret
  exact ⟨rfl, HF.out⟩

set_option maxRecDepth 100000 in
theorem Signed_any {B R : Nat} {q : Option Addr} {cap : Nat} {l : List Nat} {pos e : Nat} {w : World} (h : Rd B R q cap l pos e w) (hx : bytesL l) :
    Calls Try.prog 26 #[.pointer (some ⟨R, 0, none⟩)] w fun r w' => r = .returned (.int .i64 (rdS l pos e).1) ∧ Rd B R q cap l (rdS l pos e).2.1 (rdS l pos e).2.2 w' ∧ But R w w' := by
  have H := Lib.hid (takeS_any h hx)
  clear h
  generalize rdS l pos e = r at H ⊢
  go_enter Try.func26, Try.ntmps26
  go_wp2_with fail
  refine H.out.mono ?_
  rintro e w1 ⟨rfl, h1, h2⟩
  have HF := Lib.hid (And.intro h1 h2)
  clear h1 h2 H
  go_wp2
  go_ret
  exact ⟨rfl, HF.out⟩

set_option maxRecDepth 100000 in
theorem Byte_any {B R : Nat} {q : Option Addr} {cap : Nat} {l : List Nat} {pos e : Nat} {w : World} (h : Rd B R q cap l pos e w) :
    Calls Try.prog 28 #[.pointer (some ⟨R, 0, none⟩)] w fun r w' => r = .returned (.int .u8 ((rdB l pos e).1 : Nat)) ∧ Rd B R q cap l (rdB l pos e).2.1 (rdB l pos e).2.2 w' ∧ But R w w' := by
  have H := Lib.hid (takeB_any h)
  clear h
  generalize rdB l pos e = r at H ⊢
  go_enter Try.func28, Try.ntmps28
  go_wp2_with fail
  refine H.out.mono ?_
  rintro e w1 ⟨rfl, h1, h2⟩
  have HF := Lib.hid (And.intro h1 h2)
  clear h1 h2 H
  go_wp2
  go_ret
  exact ⟨rfl, HF.out⟩
end Go.Proofs.Ytfmeclfoknjheaa
