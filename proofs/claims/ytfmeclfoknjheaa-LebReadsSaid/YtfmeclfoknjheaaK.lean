/- The reader of the document's answer, in every memory; a new reader; what a reader tells of itself; a nil reader. -/
import Derived.Test.YtfmeclfoknjheaaJ
import Derived.Deep.RegionHeld3
import Derived.Deep.DeepCutAuto
import Derived.Deep.CutBlock
namespace Go.Proofs.Ytfmeclfoknjheaa
open Go Go.RowKit

/-- What a reader has before it. -/
theorem suffix_in {B R : Nat} {q : Option Addr} {cap : Nat} {l : List Nat} {pos e : Nat} {w : World} (h : Rd B R q cap l pos e w) :
    ∃ qs : Option Addr, ByIn B w qs (l.drop pos) ∧ ((q = none ∧ l = [] ∧ cap = 0 ∧ qs = none) ∨ (∃ ad, q = some ad ∧ cap = pos ∧ qs = some ad) ∨ (∃ b o, q = some ⟨b, o, none⟩ ∧ ¬ cap = pos ∧ qs = some ⟨b, o + pos, none⟩)) := by
  rcases h.nil with ⟨rfl, rfl, rfl⟩ | ⟨ad, rfl, hspot⟩
  · exact ⟨none, by rw [List.drop_nil]; exact ByIn.nil _ _ _, .inl ⟨rfl, rfl, rfl, rfl⟩⟩
  · by_cases hcp : cap = pos
    · refine ⟨some ad, ?_, .inr (.inl ⟨ad, rfl, hcp, rfl⟩)⟩
      rw [List.drop_eq_nil_of_le (by have := h.lc; omega)]
      exact ByIn.nil _ _ _
    · obtain ⟨b, o, sp⟩ := ad
      obtain rfl : sp = none := hspot (by have := h.lc; have := h.le; omega)
      refine ⟨some ⟨b, o + pos, none⟩, fun i hi => ?_, .inr (.inr ⟨b, o, rfl, hcp, rfl⟩)⟩
      have hi' : i < l.length - pos := by rw [List.length_drop] at hi; exact hi
      obtain ⟨b', o', he, hlt, hc⟩ := h.row (pos + i) (by omega)
      cases he
      refine ⟨b, o + pos, rfl, hlt, ?_⟩
      rw [show l.getD (pos + i) 0 = (l.drop pos).getD i 0 from by simp [List.getD_eq_getElem?_getD]] at hc
      rw [Nat.add_assoc]
      exact hc

set_option maxRecDepth 100000 in
set_option maxHeartbeats 2000000 in
theorem refUnsigned_any {B R : Nat} {q : Option Addr} {cap : Nat} {l : List Nat} {pos e : Nat} {w : World} (h : Rd B R q cap l pos e w) (hx : bytesL l) :
    Calls Try.prog 25 #[.pointer (some ⟨R, 0, none⟩)] w fun r w' => r = .returned (.int .u64 ((rdU l pos e).1 : Nat)) ∧ Rd B R q cap l (rdU l pos e).2.1 (rdU l pos e).2.2 w' ∧ But R w w' := by
  by_cases he : e = 0
  · subst he
    have hst : rdU l pos 0 = ((getU (l.drop pos)).1, pos + (getU (l.drop pos)).2.1, (getU (l.drop pos)).2.2) := if_pos rfl
    rw [hst]
    have h0 := h.c0
    have h1 := h.c1
    have h2 := h.c2
    have hle := h.le
    have hlc := h.lc
    have hcm := h.cm
    have hRlt := World.block_lt_of_cell? _ _ h.c0
    have hRlt' : R < w.heap.size := hRlt
    have hbnd := getU_le (l.drop pos)
    rw [List.length_drop] at hbnd
    have H2 := Lib.hid (fun (w1 : World) (q' : Option Addr) (hB : Below w.heap.size w w1) (hin : ByIn B w q' (l.drop pos)) =>
      (refGet_any q' (cap - pos) (l.drop pos) (bytesL_drop hx pos) (by rw [List.length_drop]; omega) (by omega) w1 ((hin.below hB (by have := h.low; omega) (Nat.le_refl _)).wider (by have := h.low; have := hB.size; omega))).mono
        (fun e w' (hh : e = .returned (.tuple #[.int .u64 ((getU (l.drop pos)).1 : Nat), .int .i64 ((getU (l.drop pos)).2.1 : Nat), .int .i64 ((getU (l.drop pos)).2.2 : Nat)]) ∧ Below w1.heap.size w1 w') =>
          show e = .returned (.tuple #[.int .u64 ((getU (l.drop pos)).1 : Nat), .int .i64 ((getU (l.drop pos)).2.1 : Nat), .int .i64 ((getU (l.drop pos)).2.2 : Nat)]) ∧ w'.cell? ⟨R, 0, none⟩ = some (.slice q l.length cap) ∧ w'.cell? ⟨R, 1, none⟩ = some (.int .i64 (pos : Int)) ∧ Below w.heap.size w w' from
          have hB' := hB.trans (hh.2.mono hB.size)
          ⟨hh.1, (hB'.cell (p := ⟨R, 0, none⟩) hRlt).trans h.c0, (hB'.cell (p := ⟨R, 1, none⟩) hRlt).trans h.c1, hB'⟩))
    have H3 := Lib.hid (fun (w1 : World) (hB : Below w.heap.size w w1) => And.intro ((h.below hB).moved (pos + (getU (l.drop pos)).2.1) (getU (l.drop pos)).2.2 (by omega))
      (And.intro (h.below hB).c1 (And.intro (h.below hB).f1 (And.intro (h.below hB).c2 (h.below hB).f2))))
    have hin := suffix_in h
    rw [List.length_drop] at H2
    have hle' : (pos : Int) ≤ (l.length : Int) := by omega
    have hlc' : (l.length : Int) ≤ (cap : Int) := by omega
    have hpc : (pos : Int) ≤ (cap : Int) := by omega
    unfold maxLen at hcm
    clear h hst
    generalize getU (l.drop pos) = r at H2 H3 hbnd ⊢
    obtain ⟨v, k, f⟩ := r
    have hbnd' : k ≤ l.length - pos := hbnd
    have hsum : (pos : Int) + (k : Int) = ((pos + k : Nat) : Int) := by omega
    have hsb : (pos : Int) + (k : Int) < 9223372036854775808 := by omega
    have HSUM := Lib.hid hsum
    clear hsum hbnd hbnd'
    have hd0 : w.drew.cell? ⟨R, 0, none⟩ = some (.slice q l.length cap) ∧ w.drew.cell? ⟨R, 1, none⟩ = some (.int .i64 (pos : Int)) ∧ Below w.heap.size w w.drew := ⟨h0, h1, (Below.refl _ _).drew⟩
    have hmx : Try.prog.follows .mixedOrders = true := by kernel_rfl
    obtain ⟨qs, hqi, hqc⟩ := hin
    have HQ := Lib.hid hqi
    clear hqi h0 h1
    obtain ⟨n, hn⟩ : ∃ n, l.length = n := ⟨_, rfl⟩
    rw [hn] at H2 hle hlc hle' hlc' hd0
    have HN := Lib.hid hn
    clear hn
    rcases hqc with ⟨rfl, hl0, rfl, rfl⟩ | ⟨ad, rfl, rfl, rfl⟩ | ⟨b, o, rfl, hcp, rfl⟩
    · obtain rfl : n = 0 := by omega
      obtain rfl : pos = 0 := by omega
      clear hl0 hle' hlc' hpc
      go_enter Try.func25, Try.ntmps25
      go_wp2_with fail
      go_cut [3, 4, 5] (fun a b c wx => a = .int .u64 (v : Int) ∧ b = .int .i64 (k : Int) ∧ c = .int .i64 (f : Int) ∧ Below w.heap.size w wx)
      case first =>
        go_region_held3 (fun w' => w'.cell? ⟨R, 0, none⟩ = some (.slice none 0 0) ∧ w'.cell? ⟨R, 1, none⟩ = some (.int .i64 0) ∧ Below w.heap.size w w') (first | assumption)
          (first
            | (go_at_call 21; refine (H2.out _ _ (And.right (And.right (by assumption))) HQ.out).mono ?_; rintro e w' ⟨rfl, hS⟩))
        all_goals
          go_wp2
          go_meet
          exact ⟨rfl, rfl, rfl, And.right (And.right (by assumption))⟩
      case rest =>
        obtain ⟨rfl, rfl, rfl, hB⟩ := hcut
        obtain ⟨hR, g1, g2, g3, g4⟩ := H3.out wc hB
        have HR := Lib.hid (And.intro hR hB)
        clear H2 H3 hR hd0 HQ hB
        go_wp2
        go_ret
        have hsu := HSUM.out
        rw [Nat.zero_add] at HR ⊢
        try rw [Nat.zero_add]
        exact ⟨rfl, HR.out.1, (But.of_below HR.out.2).trans Rd.moved_but⟩
    · obtain rfl : n = cap := by omega
      rw [Nat.sub_self] at H2
      go_enter Try.func25, Try.ntmps25
      go_wp2_with fail
      go_cut [3, 4, 5] (fun a b c wx => a = .int .u64 (v : Int) ∧ b = .int .i64 (k : Int) ∧ c = .int .i64 (f : Int) ∧ Below w.heap.size w wx)
      case first =>
        go_region_held3 (fun w' => w'.cell? ⟨R, 0, none⟩ = some (.slice (some ad) n n) ∧ w'.cell? ⟨R, 1, none⟩ = some (.int .i64 (n : Int)) ∧ Below w.heap.size w w') (first | assumption)
          (first
            | (go_at_call 21; refine (H2.out _ _ (And.right (And.right (by assumption))) HQ.out).mono ?_; rintro e w' ⟨rfl, hS⟩))
        all_goals
          go_wp2
          go_meet
          exact ⟨rfl, rfl, rfl, And.right (And.right (by assumption))⟩
      case rest =>
        obtain ⟨rfl, rfl, rfl, hB⟩ := hcut
        obtain ⟨hR, g1, g2, g3, g4⟩ := H3.out wc hB
        have HR := Lib.hid (And.intro hR hB)
        clear H2 H3 hR hd0 HQ hB
        go_wp2
        go_ret
        have hsu := HSUM.out
        try rw [hsu]
        exact ⟨rfl, HR.out.1, (But.of_below HR.out.2).trans Rd.moved_but⟩
    · go_enter Try.func25, Try.ntmps25
      go_wp2_with fail
      go_cut [3, 4, 5] (fun a b c wx => a = .int .u64 (v : Int) ∧ b = .int .i64 (k : Int) ∧ c = .int .i64 (f : Int) ∧ Below w.heap.size w wx)
      case first =>
        go_region_held3 (fun w' => w'.cell? ⟨R, 0, none⟩ = some (.slice (some ⟨b, o, none⟩) n cap) ∧ w'.cell? ⟨R, 1, none⟩ = some (.int .i64 (pos : Int)) ∧ Below w.heap.size w w') (first | assumption)
          (first
            | (go_at_call 21; refine (H2.out _ _ (And.right (And.right (by assumption))) HQ.out).mono ?_; rintro e w' ⟨rfl, hS⟩))
        all_goals
          go_wp2
          go_meet
          exact ⟨rfl, rfl, rfl, And.right (And.right (by assumption))⟩
      case rest =>
        obtain ⟨rfl, rfl, rfl, hB⟩ := hcut
        obtain ⟨hR, g1, g2, g3, g4⟩ := H3.out wc hB
        have HR := Lib.hid (And.intro hR hB)
        clear H2 H3 hR hd0 HQ hB
        go_wp2
        go_ret
        have hsu := HSUM.out
        try rw [hsu]
        exact ⟨rfl, HR.out.1, (But.of_below HR.out.2).trans Rd.moved_but⟩
  · have hst : rdU l pos e = (0, pos, e) := if_neg he
    rw [hst]
    have h2 := h.c2
    have hei : ((e : Int) != 0) = true := by simp; omega
    have HH := Lib.hid h
    clear hst h he
    go_enter Try.func25, Try.ntmps25
    go_wp2
    go_ret
    exact ⟨rfl, HH.out, But.of_below (Below.refl _ _)⟩

set_option maxRecDepth 100000 in
set_option maxHeartbeats 2000000 in
theorem refSigned_any {B R : Nat} {q : Option Addr} {cap : Nat} {l : List Nat} {pos e : Nat} {w : World} (h : Rd B R q cap l pos e w) (hx : bytesL l) :
    Calls Try.prog 27 #[.pointer (some ⟨R, 0, none⟩)] w fun r w' => r = .returned (.int .i64 ((rdS l pos e).1)) ∧ Rd B R q cap l (rdS l pos e).2.1 (rdS l pos e).2.2 w' ∧ But R w w' := by
  by_cases he : e = 0
  · subst he
    have hst : rdS l pos 0 = ((getS (l.drop pos)).1, pos + (getS (l.drop pos)).2.1, (getS (l.drop pos)).2.2) := if_pos rfl
    rw [hst]
    have h0 := h.c0
    have h1 := h.c1
    have h2 := h.c2
    have hle := h.le
    have hlc := h.lc
    have hcm := h.cm
    have hRlt := World.block_lt_of_cell? _ _ h.c0
    have hRlt' : R < w.heap.size := hRlt
    have hbnd := getS_le (l.drop pos)
    rw [List.length_drop] at hbnd
    have H2 := Lib.hid (fun (w1 : World) (q' : Option Addr) (hB : Below w.heap.size w w1) (hin : ByIn B w q' (l.drop pos)) =>
      (refGetSigned_any q' (cap - pos) (l.drop pos) (bytesL_drop hx pos) (by rw [List.length_drop]; omega) (by omega) w1 ((hin.below hB (by have := h.low; omega) (Nat.le_refl _)).wider (by have := h.low; have := hB.size; omega))).mono
        (fun e w' (hh : e = .returned (.tuple #[.int .i64 ((getS (l.drop pos)).1), .int .i64 ((getS (l.drop pos)).2.1 : Nat), .int .i64 ((getS (l.drop pos)).2.2 : Nat)]) ∧ Below w1.heap.size w1 w') =>
          show e = .returned (.tuple #[.int .i64 ((getS (l.drop pos)).1), .int .i64 ((getS (l.drop pos)).2.1 : Nat), .int .i64 ((getS (l.drop pos)).2.2 : Nat)]) ∧ w'.cell? ⟨R, 0, none⟩ = some (.slice q l.length cap) ∧ w'.cell? ⟨R, 1, none⟩ = some (.int .i64 (pos : Int)) ∧ Below w.heap.size w w' from
          have hB' := hB.trans (hh.2.mono hB.size)
          ⟨hh.1, (hB'.cell (p := ⟨R, 0, none⟩) hRlt).trans h.c0, (hB'.cell (p := ⟨R, 1, none⟩) hRlt).trans h.c1, hB'⟩))
    have H3 := Lib.hid (fun (w1 : World) (hB : Below w.heap.size w w1) => And.intro ((h.below hB).moved (pos + (getS (l.drop pos)).2.1) (getS (l.drop pos)).2.2 (by omega))
      (And.intro (h.below hB).c1 (And.intro (h.below hB).f1 (And.intro (h.below hB).c2 (h.below hB).f2))))
    have hin := suffix_in h
    rw [List.length_drop] at H2
    have hle' : (pos : Int) ≤ (l.length : Int) := by omega
    have hlc' : (l.length : Int) ≤ (cap : Int) := by omega
    have hpc : (pos : Int) ≤ (cap : Int) := by omega
    unfold maxLen at hcm
    clear h hst
    generalize getS (l.drop pos) = r at H2 H3 hbnd ⊢
    obtain ⟨v, k, f⟩ := r
    have hbnd' : k ≤ l.length - pos := hbnd
    have hsum : (pos : Int) + (k : Int) = ((pos + k : Nat) : Int) := by omega
    have hsb : (pos : Int) + (k : Int) < 9223372036854775808 := by omega
    have HSUM := Lib.hid hsum
    clear hsum hbnd hbnd'
    have hd0 : w.drew.cell? ⟨R, 0, none⟩ = some (.slice q l.length cap) ∧ w.drew.cell? ⟨R, 1, none⟩ = some (.int .i64 (pos : Int)) ∧ Below w.heap.size w w.drew := ⟨h0, h1, (Below.refl _ _).drew⟩
    have hmx : Try.prog.follows .mixedOrders = true := by kernel_rfl
    obtain ⟨qs, hqi, hqc⟩ := hin
    have HQ := Lib.hid hqi
    clear hqi h0 h1
    obtain ⟨n, hn⟩ : ∃ n, l.length = n := ⟨_, rfl⟩
    rw [hn] at H2 hle hlc hle' hlc' hd0
    have HN := Lib.hid hn
    clear hn
    rcases hqc with ⟨rfl, hl0, rfl, rfl⟩ | ⟨ad, rfl, rfl, rfl⟩ | ⟨b, o, rfl, hcp, rfl⟩
    · obtain rfl : n = 0 := by omega
      obtain rfl : pos = 0 := by omega
      clear hl0 hle' hlc' hpc
      go_enter Try.func27, Try.ntmps27
      go_wp2_with fail
      go_cut [3, 4, 5] (fun a b c wx => a = .int .i64 (v : Int) ∧ b = .int .i64 (k : Int) ∧ c = .int .i64 (f : Int) ∧ Below w.heap.size w wx)
      case first =>
        go_region_held3 (fun w' => w'.cell? ⟨R, 0, none⟩ = some (.slice none 0 0) ∧ w'.cell? ⟨R, 1, none⟩ = some (.int .i64 0) ∧ Below w.heap.size w w') (first | assumption)
          (first
            | (go_at_call 22; refine (H2.out _ _ (And.right (And.right (by assumption))) HQ.out).mono ?_; rintro e w' ⟨rfl, hS⟩))
        all_goals
          go_wp2
          go_meet
          exact ⟨rfl, rfl, rfl, And.right (And.right (by assumption))⟩
      case rest =>
        obtain ⟨rfl, rfl, rfl, hB⟩ := hcut
        obtain ⟨hR, g1, g2, g3, g4⟩ := H3.out wc hB
        have HR := Lib.hid (And.intro hR hB)
        clear H2 H3 hR hd0 HQ hB
        go_wp2
        go_ret
        have hsu := HSUM.out
        rw [Nat.zero_add] at HR ⊢
        try rw [Nat.zero_add]
        exact ⟨rfl, HR.out.1, (But.of_below HR.out.2).trans Rd.moved_but⟩
    · obtain rfl : n = cap := by omega
      rw [Nat.sub_self] at H2
      go_enter Try.func27, Try.ntmps27
      go_wp2_with fail
      go_cut [3, 4, 5] (fun a b c wx => a = .int .i64 (v : Int) ∧ b = .int .i64 (k : Int) ∧ c = .int .i64 (f : Int) ∧ Below w.heap.size w wx)
      case first =>
        go_region_held3 (fun w' => w'.cell? ⟨R, 0, none⟩ = some (.slice (some ad) n n) ∧ w'.cell? ⟨R, 1, none⟩ = some (.int .i64 (n : Int)) ∧ Below w.heap.size w w') (first | assumption)
          (first
            | (go_at_call 22; refine (H2.out _ _ (And.right (And.right (by assumption))) HQ.out).mono ?_; rintro e w' ⟨rfl, hS⟩))
        all_goals
          go_wp2
          go_meet
          exact ⟨rfl, rfl, rfl, And.right (And.right (by assumption))⟩
      case rest =>
        obtain ⟨rfl, rfl, rfl, hB⟩ := hcut
        obtain ⟨hR, g1, g2, g3, g4⟩ := H3.out wc hB
        have HR := Lib.hid (And.intro hR hB)
        clear H2 H3 hR hd0 HQ hB
        go_wp2
        go_ret
        have hsu := HSUM.out
        try rw [hsu]
        exact ⟨rfl, HR.out.1, (But.of_below HR.out.2).trans Rd.moved_but⟩
    · go_enter Try.func27, Try.ntmps27
      go_wp2_with fail
      go_cut [3, 4, 5] (fun a b c wx => a = .int .i64 (v : Int) ∧ b = .int .i64 (k : Int) ∧ c = .int .i64 (f : Int) ∧ Below w.heap.size w wx)
      case first =>
        go_region_held3 (fun w' => w'.cell? ⟨R, 0, none⟩ = some (.slice (some ⟨b, o, none⟩) n cap) ∧ w'.cell? ⟨R, 1, none⟩ = some (.int .i64 (pos : Int)) ∧ Below w.heap.size w w') (first | assumption)
          (first
            | (go_at_call 22; refine (H2.out _ _ (And.right (And.right (by assumption))) HQ.out).mono ?_; rintro e w' ⟨rfl, hS⟩))
        all_goals
          go_wp2
          go_meet
          exact ⟨rfl, rfl, rfl, And.right (And.right (by assumption))⟩
      case rest =>
        obtain ⟨rfl, rfl, rfl, hB⟩ := hcut
        obtain ⟨hR, g1, g2, g3, g4⟩ := H3.out wc hB
        have HR := Lib.hid (And.intro hR hB)
        clear H2 H3 hR hd0 HQ hB
        go_wp2
        go_ret
        have hsu := HSUM.out
        try rw [hsu]
        exact ⟨rfl, HR.out.1, (But.of_below HR.out.2).trans Rd.moved_but⟩
  · have hst : rdS l pos e = (0, pos, e) := if_neg he
    rw [hst]
    have h2 := h.c2
    have hei : ((e : Int) != 0) = true := by simp; omega
    have HH := Lib.hid h
    clear hst h he
    go_enter Try.func27, Try.ntmps27
    go_wp2
    go_ret
    exact ⟨rfl, HH.out, But.of_below (Below.refl _ _)⟩

end Go.Proofs.Ytfmeclfoknjheaa
