/- Contracts of Join and Of of package bits, for every list and every memory. -/
import Derived.Test.YtnmcjkabihihiaaGreatDoorProg
import Derived.WalkKit
import Derived.Laws.Bits64b
import Derived.LoopTactic
import Derived.Lib.Hide
import Derived.Test.YtnmcjkabihihiaaGreatDoorQ9
import Derived.Deep.QuietTactic
import Derived.BigQuiet
namespace Go.Proofs.YtnmcjkabihihiaaGreatDoor
open Go Go.RowKit

theorem cast_wrap (x : Nat) (h : x < 18446744073709551616) : IntKind.u64.wrap (x : Int) = (x : Int) := by
  rw [IntKind.wrap_u64]; omega

def orAll (zs : List Nat) : Nat := zs.foldl (fun x y => x ||| y) 0
theorem orAll_snoc (zs : List Nat) (x : Nat) : orAll (zs ++ [x]) = orAll zs ||| x := by simp [orAll]
theorem or_lt {a b : Nat} (ha : a < 18446744073709551616) (hb : b < 18446744073709551616) : a ||| b < 18446744073709551616 :=
  Nat.or_lt_two_pow (n := 64) ha hb
theorem orAll_lt (zs : List Nat) (h : ∀ z ∈ zs, z < 18446744073709551616) : orAll zs < 18446744073709551616 := by
  unfold orAll
  have : ∀ (l : List Nat) (a : Nat), a < 18446744073709551616 → (∀ z ∈ l, z < 18446744073709551616) → l.foldl (fun x y => x ||| y) a < 18446744073709551616 := by
    intro l
    induction l with
    | nil => intro a ha _; exact ha
    | cons x l ih => intro a ha hl; exact ih _ (or_lt ha (hl x (by simp))) (fun z hz => hl z (by simp [hz]))
  exact this zs 0 (by omega) h

theorem take_snoc_getD (zs : List Nat) (k : Nat) (h : k < zs.length) : zs.take (k + 1) = zs.take k ++ [zs.getD k 0] := by
  rw [List.take_succ_eq_append_getElem h]; simp [h]

theorem int64_or (k : IntKind) {a b : Int} (h : a = b) : Value.int k a = Value.int k b := by rw [h]

set_option maxHeartbeats 400000 in
theorem join_any (b off c : Nat) (zs : List Nat) (hz : ∀ z ∈ zs, z < 18446744073709551616) (hlen : zs.length ≤ maxLen) (w : World)
    (hc : ∀ i, i < zs.length → w.cell? ⟨b, off + i, none⟩ = some (.int .u64 ((zs.getD i 0 : Nat) : Int))) :
    Calls Tryz.prog 78 #[.slice (some ⟨b, off, none⟩) zs.length c] w fun e w' => e = .returned (.int .u64 (orAll zs : Nat)) ∧ w = w' := by
  unfold maxLen at hlen
  go_enter Tryz.func78, Tryz.ntmps78
  go_wp2
  go_loop [3, 8] (fun t i => ∃ k : Nat, k ≤ zs.length ∧ i = .int .i64 k ∧ t = .int .u64 (orAll (zs.take k) : Nat))
    (fun _ i => zs.length - (intOf i).toNat)
  case atStart => exact ⟨0, Nat.zero_le _, rfl, by simp [orAll]⟩
  case round =>
    obtain ⟨k, hk, rfl, rfl⟩ := hrel
    by_cases hlt : k < zs.length
    · have hcell := hc k hlt
      have hb1 : orAll (zs.take k) < 18446744073709551616 := orAll_lt _ (fun z hz' => hz z (List.mem_of_mem_take hz'))
      have hb2 : zs.getD k 0 < 18446744073709551616 := hz _ (by simp [hlt])
      have HO := Lib.hid (bits_or_u64_nat _ _ hb1 hb2)
      have HS := Lib.hid (take_snoc_getD zs k hlt)
      clear hb1 hb2
      go_wp2
      go_round
      case rel => exact ⟨k + 1, by omega, by go_num, by rw [HS.out, orAll_snoc, ← HO.out]; simp [hlt]⟩
      case measure => simp [intOf]; omega
    · go_wp2
      go_ret
      exact ⟨by rw [List.take_of_length_le (by omega)]; rfl, rfl⟩

theorem join_none (p : Option Addr) (c : Nat) (w : World) :
    Calls Tryz.prog 78 #[.slice p 0 c] w fun e w' => e = .returned (.int .u64 0) ∧ w = w' := by
  go_enter Tryz.func78, Tryz.ntmps78
  go_wp2
  refine wp_loop_rounds 1 ?_
  rw [rounds_succ]
  go_wp2
  go_ret
  exact ⟨rfl, rfl⟩

def ofStep (a : Nat) (k : Int) : Nat := if 0 ≤ k ∧ k < 64 then a ||| 2 ^ k.toNat else a
def ofInts (zs : List Int) : Nat := zs.foldl ofStep 0
theorem ofInts_snoc (zs : List Int) (x : Int) : ofInts (zs ++ [x]) = ofStep (ofInts zs) x := by simp [ofInts]
theorem pow_lt64 (n : Nat) (h : n < 64) : 2 ^ n < 18446744073709551616 := Nat.pow_lt_pow_right (a := 2) (m := n) (n := 64) (by omega) h
theorem ofStep_lt (a : Nat) (k : Int) (ha : a < 18446744073709551616) : ofStep a k < 18446744073709551616 := by
  unfold ofStep
  split
  · exact or_lt ha (pow_lt64 _ (by omega))
  · exact ha
theorem ofInts_lt (zs : List Int) : ofInts zs < 18446744073709551616 := by
  have : ∀ (l : List Int) (a : Nat), a < 18446744073709551616 → l.foldl ofStep a < 18446744073709551616 := by
    intro l
    induction l with
    | nil => intro a ha; exact ha
    | cons x l ih => intro a ha; exact ih _ (ofStep_lt a x ha)
  exact this zs 0 (by omega)
theorem take_snoc_int (zs : List Int) (k : Nat) (h : k < zs.length) : zs.take (k + 1) = zs.take k ++ [zs.getD k 0] := by
  rw [List.take_succ_eq_append_getElem h]; simp [h]

theorem pow_wrap (n : Nat) (h : n < 64) : IntKind.u64.wrap ((2 : Int) ^ n) = ((2 ^ n : Nat) : Int) := by
  have : ((2 : Int) ^ n) = ((2 ^ n : Nat) : Int) := by push_cast; rfl
  rw [this]
  exact cast_wrap _ (pow_lt64 n h)

set_option maxHeartbeats 400000 in
theorem of_any (b off c : Nat) (zs : List Int) (hlen : zs.length ≤ maxLen) (w : World)
    (hc : ∀ i, i < zs.length → w.cell? ⟨b, off + i, none⟩ = some (.int .i64 (zs.getD i 0))) :
    Calls Tryz.prog 79 #[.slice (some ⟨b, off, none⟩) zs.length c] w fun e w' => e = .returned (.int .u64 (ofInts zs : Nat)) ∧ w = w' := by
  unfold maxLen at hlen
  go_enter Tryz.func79, Tryz.ntmps79
  go_wp2
  go_loop [3, 8] (fun t i => ∃ k : Nat, k ≤ zs.length ∧ i = .int .i64 k ∧ t = .int .u64 (ofInts (zs.take k) : Nat))
    (fun _ i => zs.length - (intOf i).toNat)
  case atStart => exact ⟨0, Nat.zero_le _, rfl, by simp [ofInts]⟩
  case round =>
    obtain ⟨k, hk, rfl, rfl⟩ := hrel
    by_cases hlt : k < zs.length
    · obtain ⟨x, hx⟩ : ∃ x, zs.getD k 0 = x := ⟨_, rfl⟩
      have hcell := hc k hlt
      rw [hx] at hcell
      have HS := Lib.hid (take_snoc_int zs k hlt)
      have HX := Lib.hid hx
      clear hx hc
      have hb := ofInts_lt (zs.take k)
      by_cases hr : 0 ≤ x ∧ x < 64
      · obtain ⟨h0, h1⟩ := hr
        have HO := Lib.hid (bits_or_u64_nat _ _ hb (pow_lt64 x.toNat (by omega)))
        clear hb
        have HW := Lib.hid (pow_wrap x.toNat (by omega))
        go_wp2
        go_round
        case rel => exact ⟨k + 1, by omega, by go_num, by rw [HS.out, HX.out, ofInts_snoc, ofStep, if_pos ⟨h0, h1⟩, ← HO.out, HW.out]⟩
        case measure => simp [intOf]; omega
      · clear hb
        by_cases h0 : 0 ≤ x
        · have h1 : ¬ x < 64 := fun h => hr ⟨h0, h⟩
          have HR := Lib.hid hr
          clear hr
          go_wp2
          go_round
          case rel => exact ⟨k + 1, by omega, by go_num, by rw [HS.out, HX.out, ofInts_snoc, ofStep, if_neg HR.out]⟩
          case measure => simp [intOf]; omega
        · have HR := Lib.hid hr
          clear hr
          go_wp2
          go_round
          case rel => exact ⟨k + 1, by omega, by go_num, by rw [HS.out, HX.out, ofInts_snoc, ofStep, if_neg HR.out]⟩
          case measure => simp [intOf]; omega
    · go_wp2
      go_ret
      exact ⟨by rw [List.take_of_length_le (by omega)]; rfl, rfl⟩
end Go.Proofs.YtnmcjkabihihiaaGreatDoor

/- Labels: principals by their names; member and label of the parser. -/
namespace Go.Proofs.YtnmcjkabihihiaaGreatDoor
open Go Go.RowKit Go.Proofs.Mm

/-- The principals that are known, as they lie in memory. -/
def NR (w : World) (vp : Value) (ns : List (List Nat)) : Prop := w.ownsRow 0 9 1 vp ns.length (strC ns) ∧ ns.length ≤ 64 ∧ ∀ s ∈ ns, bl (sb s) = s
theorem nr_cell {w : World} {q : Option Addr} {n c : Nat} {ns : List (List Nat)} (h : NR w (.slice q n c) ns) (j : Nat) (hj : j < ns.length) : ∃ g, q = some ⟨g, 0, none⟩ ∧ w.cell? ⟨g, j, none⟩ = some (.string (sb ns[j])) := by
  obtain ⟨h, _, _⟩ := h
  rcases h.2 with ⟨h0, h1⟩ | ⟨g, cap, cur, h0, _, hg, _, _, _, ht⟩
  · omega
  · simp only [Value.slice.injEq] at h0
    obtain ⟨rfl, rfl, rfl⟩ := h0
    refine ⟨g, rfl, cell_of hg ?_⟩
    have hk := congrArg (fun l => l[j]?) ht
    simp only [List.getElem?_take, strC, List.getElem?_map, List.getElem?_eq_getElem hj, Option.map_some] at hk
    rw [if_pos (by omega)] at hk
    simpa using hk
def ixV (ns : List (List Nat)) (t : List Nat) : Int := if ns.idxOf t < ns.length then (ns.idxOf t : Int) else -1
theorem ix_miss {ns : List (List Nat)} {t : List Nat} {k : Nat} (hk : k < ns.idxOf t) (h : k < ns.length) : ns[k] ≠ t := by
  intro e
  have := List.not_of_lt_findIdx (p := fun x => x == t) (xs := ns) (show k < ns.findIdx (fun x => x == t) from hk)
  simp [e] at this
set_option maxRecDepth 100000 in
theorem index_any {w : World} {q : Option Addr} {n c : Nat} {ns : List (List Nat)} (h : NR w (.slice q n c) ns) (hn : n = ns.length) (t : ByteArray) :
    Calls Tryz.prog 103 #[.slice q n c, .string t] w fun e w' => e = .returned (.int .i64 (ixV ns (bl t))) ∧ w = w' := by
  subst hn
  have hlen := h.2.1
  obtain ⟨nn, hnn⟩ : ∃ nn, ns.length = nn := ⟨_, rfl⟩
  have hcell := fun j (hj : j < ns.length) => nr_cell h j hj
  have heq := fun j (hj : j < ns.length) => h.2.2 ns[j] (List.getElem_mem hj)
  have hmiss := fun j (hj : j < ns.length) (hi : j < ns.idxOf (bl t)) => ix_miss hi hj
  have hle := List.idxOf_le_length (a := bl t) (l := ns)
  have hhit := fun (hi : ns.idxOf (bl t) < ns.length) => List.getElem_idxOf hi
  have HV := Lib.hid (show ixV ns (bl t) = if ns.idxOf (bl t) < ns.length then (ns.idxOf (bl t) : Int) else -1 from rfl)
  rw [hnn] at hlen hle ⊢
  have HNN := Lib.hid hnn
  have HC := Lib.hid hcell
  have HQ := Lib.hid heq
  have HM := Lib.hid hmiss
  have HH := Lib.hid hhit
  obtain ⟨ix, hix⟩ : ∃ ix, ns.idxOf (bl t) = ix := ⟨_, rfl⟩
  have HIX := Lib.hid hix
  rw [hix] at hle
  obtain ⟨iv, hiv⟩ : ∃ iv, ixV ns (bl t) = iv := ⟨_, rfl⟩
  rw [hiv]
  have HIV := Lib.hid hiv
  clear hnn hcell heq hmiss hhit h hix hiv
  go_enter Tryz.func103, Tryz.ntmps103
  go_wp2
  go_loop [8] (fun a => ∃ k : Nat, k ≤ ix ∧ a = .int .i64 k) (fun a => 65 - (intOf a).toNat)
  case atStart => exact ⟨0, Nat.zero_le _, rfl⟩
  case round =>
    obtain ⟨k, hk, rfl⟩ := hrel
    by_cases hkn : k < nn
    · obtain ⟨g, rfl, hck⟩ := HC.out k (by rw [HNN.out]; exact hkn)
      have hb := HQ.out k (by rw [HNN.out]; exact hkn)
      by_cases hki : k = ix
      · subst hki
        have he : (t.toList == (sb (ns[k]'(by rw [HNN.out]; exact hkn))).toList) = true := by
          rw [eq_text, hb]
          have h2 := HH.out (by rw [HIX.out, HNN.out]; exact hkn)
          simp only [HIX.out] at h2
          rw [h2]; simp
        have HR := Lib.hid (show iv = (k : Int) from by rw [← HIV.out, HV.out, HIX.out, HNN.out, if_pos hkn])
        clear hb
        generalize sb (ns[k]'_) = sk at *
        go_wp2
        go_ret
        exact ⟨by rw [HR.out]; rfl, rfl⟩
      · have he : (t.toList == (sb (ns[k]'(by rw [HNN.out]; exact hkn))).toList) = false := by
          rw [eq_text, hb, beq_eq_false_iff_ne]
          exact fun e => HM.out k (by rw [HNN.out]; exact hkn) (by rw [HIX.out]; omega) e.symm
        have hlt : k < ix := by omega
        clear hb hki
        generalize sb (ns[k]'_) = sk at *
        go_wp2
        go_round
        case rel => exact ⟨k + 1, by omega, by go_num⟩
        case measure => simp [intOf]; omega
    · have HR := Lib.hid (show iv = -1 from by rw [← HIV.out, HV.out, HIX.out, HNN.out, if_neg (by omega)])
      go_wp2
      go_ret
      exact ⟨by rw [HR.out]; rfl, rfl⟩
end Go.Proofs.YtnmcjkabihihiaaGreatDoor

/- member and label of the parser. -/
namespace Go.Proofs.YtnmcjkabihihiaaGreatDoor
open Go Go.RowKit Go.Proofs.Mm

section
variable {ys : List It} {len bp bw i : Nat} {vp : Value} {w : World} {ns : List (List Nat)}
theorem PS.raw1 (h : PS ys len bp bw vp w i) : w.cell? ⟨bp, 1, none⟩ = some vp := by
  obtain ⟨c, h1, _⟩ := h.st
  exact cell_of h1 rfl
theorem PS.drewN (h : PS ys len bp bw vp w i) (n : Nat) : PS ys len bp bw vp (w.drewN n) i := h.chg (S := fun _ => False) ((Chg.refl _ w).drewN n) id id
theorem nr_chg (hn : NR w vp ns) {w' : World} {S : Nat → Prop} (hc : Chg S w w') (h : ∀ k, vp.ownBlock = some k → ¬ S k) : NR w' vp ns := ⟨own_chg hn.1 hc h, hn.2⟩
theorem nr_bp (hn : NR w vp ns) (h : PS ys len bp bw vp w i) : ∀ k, vp.ownBlock = some k → ¬ k = bp := by
  rintro k hk rfl
  obtain ⟨cur, h2⟩ := own_type hn.1 hk
  obtain ⟨c, h1, _⟩ := h.st
  have := h1.symm.trans h2
  simp at this
theorem nr_next (hn : NR w vp ns) (h : PS ys len bp bw vp w i) {w' : World} (hc : Chg (fun k => k = bp) w w') : NR w' vp ns := nr_chg hn hc (nr_bp hn h)
def memberP (T : Nat → Option Syn.K) (ns : List (List Nat)) (i : Nat) : Syn.R Nat :=
  (Syn.name T i).on fun s j => if ns.idxOf s < ns.length then .ok (ns.idxOf s, j) else .error (10, i)
theorem index_flip {W : World} {q : Option Addr} {n c : Nat} (h : NR W (.slice q n c) ns) (hn : n = ns.length) (t : ByteArray) :
    Calls Tryz.prog 103 #[.slice q n c, .string t] W fun e w' => e = .returned (.int .i64 (ixV ns (bl t))) ∧ w' = W := (index_any h hn t).mono fun _ _ ⟨a, b⟩ => ⟨a, b.symm⟩
set_option maxRecDepth 100000 in
set_option maxHeartbeats 1000000 in
theorem member_any (_hw : Ws ys) (h : PS ys len bp bw vp w i) (hn : NR w vp ns) :
    Calls Tryz.prog 80 #[.pointer (some ⟨bp, 0, none⟩)] w (Ret ys len (fun k => k = bp) w (memberP (Tk ys) ns i) fun k j e w' => e = .returned (.int .i64 (k : Nat)) ∧ k < 64 ∧ PS ys len bp bw vp w' j ∧ NR w' vp ns) := by
  obtain ⟨qv, cv, rfl⟩ := own_shape hn.1
  obtain ⟨c, h0, hf, hc, hc2, h1, h2, h3, h4⟩ := h.raw
  have h5 := h.raw1
  have hle := h.le
  have hm : 0 < ys.length + 1 - i := by omega
  have HIX := Lib.hid (fun n => index_flip (W := w.drewN n) (show NR (w.drewN n) (.slice qv ns.length cv) ns from nr_chg hn ((Chg.refl (fun _ => False) w).drewN n) (fun _ _ e => e)) rfl (tk ys len i).t)
  have HP := Lib.hid h
  have HN := Lib.hid hn
  have hl64 := hn.2.1
  have HC0 := Lib.hid (fun n => (Chg.refl (fun k => k = bp) w).drewN n)
  have HNd := Lib.hid (fun n => nr_chg hn ((Chg.refl (fun _ => False) w).drewN n) (fun _ _ e => e))
  cases hnm : Syn.named (Tk ys) i with
  | false =>
    have HK := Lib.hid (fun n => by
      have := isKind_ps (h.drewN n) 1
      rw [named_kind, hnm] at this
      exact this)
    have HNO := Lib.hid (fun n => name_none (h.drewN n) hnm (fun k => k = bp) rfl)
    have HE := Lib.hid (show memberP (Tk ys) ns i = .error (50, i) from by unfold memberP; rw [name_no hnm]; rfl)
    obtain ⟨iv, hiv⟩ : ∃ iv, ixV ns (bl (tk ys len i).t) = iv := ⟨_, rfl⟩
    rw [hiv] at HIX
    have HIV := Lib.hid hiv
    clear hiv h hn hf hc hc2 h1 h3 h4 hnm
    generalize ys.length + 1 - i = m at *
    generalize 4 * i = o at *
    go_enter Tryz.func80, Tryz.ntmps80
    go_wp2
    go_quiet ((go_at_call 103; exact Calls.quiet_of_same (HIX.out _)))
    go_wp2_with (go_at_call 77; refine (HK.out _).mono ?_; rintro e w' ⟨rfl, rfl⟩)
    go_at_call 59
    refine (HNO.out _).mono ?_
    rintro e w2 ⟨rfl, hc⟩
    exact ⟨rfl, ret_err HE.out ((HC0.out _).then hc)⟩
  | true =>
    have HK := Lib.hid (fun n => by
      have := isKind_ps (h.drewN n) 1
      rw [named_kind, hnm] at this
      exact this)
    by_cases hx : ns.idxOf (bl (tk ys len i).t) < ns.length
    · have HNO := Lib.hid (fun n => name_one (h.drewN n) hnm)
      have HE := Lib.hid (show memberP (Tk ys) ns i = .ok (ns.idxOf (bl (tk ys len i).t), i + 1) from by unfold memberP; rw [name_yes len hnm, on_ok', if_pos hx])
      have hiv : ixV ns (bl (tk ys len i).t) = (ns.idxOf (bl (tk ys len i).t) : Int) := if_pos hx
      rw [hiv] at HIX
      have hl2 : ns.idxOf (bl (tk ys len i).t) < 64 := by omega
      have HPN := Lib.hid (fun n => h.drewN n)
      clear hiv h hn hf hc hc2 h1 h3 h4 hnm hx
      generalize ns.idxOf (bl (tk ys len i).t) = ix at *
      have hge : ¬ (ix : Int) < 0 := by omega
      have hge2 : decide ((ix : Int) < 0) = false := by simp
      generalize ys.length + 1 - i = m at *
      generalize 4 * i = o at *
      go_enter Tryz.func80, Tryz.ntmps80
      go_wp2
      go_quiet ((go_at_call 103; exact Calls.quiet_of_same (HIX.out _)))
      go_wp2_with (go_at_call 77; refine (HK.out _).mono ?_; rintro e w' ⟨rfl, rfl⟩)
      go_at_call 59
      refine (HNO.out _).mono ?_
      rintro e w2 ⟨rfl, hcw, hp⟩
      go_wp2
      go_ret
      exact ret_ok HE.out ((HC0.out _).then hcw) ⟨rfl, hl2, hp, nr_next (HNd.out _) (HPN.out _) hcw⟩
    · have HF := Lib.hid (fun n => fail_ps (h.drewN n) 10 (fun k => k = bp))
      have HE := Lib.hid (show memberP (Tk ys) ns i = .error (10, i) from by unfold memberP; rw [name_yes len hnm, on_ok', if_neg hx])
      have hiv : ixV ns (bl (tk ys len i).t) = -1 := if_neg hx
      rw [hiv] at HIX
      clear hiv h hn hf hc hc2 h1 h3 h4 hnm hx
      generalize ys.length + 1 - i = m at *
      generalize 4 * i = o at *
      go_enter Tryz.func80, Tryz.ntmps80
      go_wp2
      go_quiet ((go_at_call 103; exact Calls.quiet_of_same (HIX.out _)))
      go_wp2_with (go_at_call 77; refine (HK.out _).mono ?_; rintro e w' ⟨rfl, rfl⟩)
      go_at_call 53
      refine (HF.out _).mono ?_
      rintro e w2 ⟨rfl, hc⟩
      exact ⟨rfl, ret_err HE.out ((HC0.out _).then hc)⟩

/-! ## Labels -/
theorem or_pow (l k : Nat) : l ||| 1 <<< k = orAll [l, ofInts [(k : Int)]] ∨ 64 ≤ k := by
  by_cases hk : k < 64
  · left
    have hk2 : (k : Int) < 64 := by omega
    unfold orAll ofInts ofStep
    simp [Nat.one_shiftLeft, hk2]
  · exact .inr (by omega)
theorem mk_123' : Mk (bl ⟨#[123]⟩) = true := by decide
def labP (T : Nat → Option Syn.K) (ns : List (List Nat)) (f l i : Nat) : Syn.R Nat := (Syn.labelF T ns f l i).on fun l i => (Syn.want T i [125]).on fun _ i => .ok (l, i)
set_option maxRecDepth 100000 in
set_option maxHeartbeats 1000000 in
theorem label_any (hw : Ws ys) (h : PS ys len bp bw vp w i) (hn : NR w vp ns) :
    Calls Tryz.prog 61 #[.pointer (some ⟨bp, 0, none⟩)] w (Ret ys len (fun k => k = bp) w (Syn.label (Tk ys) (ys.length + 1) ns i) fun l j e w' => e = .returned (.int .u64 (l : Nat)) ∧ l < 18446744073709551616 ∧ PS ys len bp bw vp w' j ∧ NR w' vp ns) := by
  have hfit := Syn.label_fit (tk_nones ys) (F := ys.length + 1) (by omega) ns h.le
  obtain ⟨RR, hRR⟩ : ∃ RR, Syn.label (Tk ys) (ys.length + 1) ns i = RR := ⟨_, rfl⟩
  rw [hRR] at hfit ⊢
  have hR0 : (Syn.want (Tk ys) i [123]).on (fun _ i => labP (Tk ys) ns (ys.length + 1) 0 i) = RR := hRR
  have HR0 := Lib.hid hR0
  have HFIT := Lib.hid hfit
  have h1 := want_at hw h ⟨#[123]⟩ mk_123
  have HN := Lib.hid hn
  have HP := Lib.hid h
  clear hRR hR0 hfit hn h
  go_enter Tryz.func61, Tryz.ntmps61
  go_wp2_with fail
  go_at_call 58
  refine h1.mono ?_
  rintro e w1 ⟨hc1, ⟨hr, rfl⟩ | ⟨hr, rfl, hp1⟩⟩
  · exact ⟨rfl, ret_err (by rw [← HR0.out, show ([123] : List Nat) = bl ⟨#[123]⟩ from rfl, hr]; rfl) hc1⟩
  have HR1 := Lib.hid (show labP (Tk ys) ns (ys.length + 1) 0 (i + 1) = RR from by rw [← HR0.out, show ([123] : List Nat) = bl ⟨#[123]⟩ from rfl, hr]; rfl)
  have HN1 := Lib.hid (nr_next HN.out HP.out hc1)
  have C1 := Lib.hid hc1
  have HP1 := Lib.hid hp1
  clear hc1 hr h1 hp1
  go_wp2_with fail
  go_loopw [3] (fun a wr => ∃ f l j, l < 18446744073709551616 ∧ a = .int .u64 (l : Nat) ∧ Hid (labP (Tk ys) ns f l j = RR) ∧ Hid (PS ys len bp bw vp wr j) ∧ Hid (NR wr vp ns) ∧ Hid (Chg (fun k => k = bp) w wr))
    (fun _ wr => posW bp wr)
  case atStart => exact ⟨ys.length + 1, 0, i + 1, by omega, rfl, HR1, HP1, HN1, C1⟩
  case round =>
    obtain ⟨f, l, j, hl, rfl, HF, HPr, HNr, HCr⟩ := hrel
    cases f with
    | zero => exact (HFIT.out.no99 (j := j) (by rw [← HF.out]; rfl)).elim
    | succ f =>
      have HPOS := Lib.hid HPr.out.pos
      have hF := HF.out
      unfold labP at hF
      cases hx : Syn.is (Tk ys) j [125] with
      | true =>
        have hlt := lt_of_is hx
        have HE := Lib.hid (show RR = .ok (l, j + 1) from by
          have hlf : Syn.labelF (Tk ys) ns (f + 1) l j = .ok (l, j) := by
            rw [Syn.labelF]
            rw [Tk_some (len := len) hlt]
            simp only
            rw [if_neg (fun e => by
              have hnm : Syn.named (Tk ys) j = true := by unfold Syn.named; rw [Tk_some (len := len) hlt]; simpa using e
              rw [Syn.not_is hnm] at hx; cases hx)]
          rw [← hF, hlf, on_ok', show Syn.want (Tk ys) j [125] = .ok ((), j + 1) from if_pos hx]; rfl)
        have hsk := skip_t hw HPr.out ⟨#[125]⟩ mk_125 hx
        clear hx hF
        go_wp2_with (go_at_call 31; refine hsk.mono ?_; rintro e w3 ⟨rfl, hc3, hp3⟩)
        go_ret
        exact ret_ok HE.out (HCr.out.then hc3) ⟨rfl, hl, hp3, nr_next HNr.out HPr.out hc3⟩
      | false =>
        have hsk := skip_f hw HPr.out ⟨#[125]⟩ mk_125 hx
        have hmem := ret_cases (member_any hw HPr.out HNr.out)
        have HSTEP := Lib.hid (show (memberP (Tk ys) ns j).on (fun k i => labP (Tk ys) ns f (l ||| 1 <<< k) i) = RR from by
          rw [← hF]
          unfold memberP labP
          rw [Syn.labelF]
          cases hT : Tk ys j with
          | none =>
            unfold Syn.name
            rw [hT]
            simp only [Syn.R.on]
            rw [show Syn.want (Tk ys) j [125] = .error (50, j) from if_neg (by rw [hx]; simp)]
          | some k =>
            unfold Syn.name
            rw [hT]
            simp only
            by_cases hk : k.kind = 1
            · rw [if_pos hk, if_pos hk, on_ok']
              by_cases hi : ns.idxOf k.text < ns.length
              · rw [if_pos hi, if_pos hi]; rfl
              · rw [if_neg hi, if_neg hi]; rfl
            · rw [if_neg hk, if_neg hk]
              simp only [Syn.R.on]
              rw [show Syn.want (Tk ys) j [125] = .error (50, j) from if_neg (by rw [hx]; simp)])
        clear hx hF
        go_wp2_with (go_at_call 31; refine hsk.mono ?_; rintro e w3 ⟨rfl, rfl⟩)
        go_at_call 80
        refine hmem.mono ?_
        rintro e w4 ⟨hc4, ⟨er, k, hr, rfl⟩ | ⟨k, j4, hr, rfl, hk64, hp4, hn4⟩⟩
        · exact ⟨rfl, ret_err (by rw [← HSTEP.out, hr]; rfl) (HCr.out.then hc4)⟩
        have HF4 := Lib.hid (show labP (Tk ys) ns f (l ||| 1 <<< k) j4 = RR from by rw [← HSTEP.out, hr]; rfl)
        have hor := (or_pow l k).resolve_right (by omega)
        have hl4 : l ||| 1 <<< k < 18446744073709551616 := by
          rw [hor]
          refine orAll_lt _ (fun z hz => ?_)
          rcases List.mem_cons.1 hz with rfl | hz
          · exact hl
          · rw [List.mem_singleton] at hz; subst hz; exact ofInts_lt _
        have hof := of_any w4.heap.size 0 1 [(k : Int)] (by simp [maxLen]) (w4.alloc (.cells #[.int .i64 (k : Nat)] 3)) (fun i hi => by
          obtain rfl : i = 0 := by simpa using hi
          exact cell_of (World.alloc_heap_new w4 _) rfl)
        have hjn := join_any (w4.heap.size + 1) 0 2 [l, ofInts [(k : Int)]] (fun z hz => by
          rcases List.mem_cons.1 hz with rfl | hz
          · exact hl
          · rw [List.mem_singleton] at hz; subst hz; exact ofInts_lt _) (by simp [maxLen]) ((w4.alloc (.cells #[.int .i64 (k : Nat)] 3)).alloc (.cells #[.int .u64 (l : Nat), .int .u64 (ofInts [(k : Int)] : Nat)] 37)) (fun i hi => by
          have hnew := World.alloc_heap_new (w4.alloc (.cells #[.int .i64 (k : Nat)] 3)) (.cells #[.int .u64 (l : Nat), .int .u64 (ofInts [(k : Int)] : Nat)] 37)
          rw [World.size_alloc] at hnew
          rcases (show i = 0 ∨ i = 1 by simp at hi; omega) with rfl | rfl
          · exact cell_of hnew rfl
          · exact cell_of hnew rfl)
        rw [← hor] at hjn
        have HC4 := Lib.hid (((HCr.out.then hc4).alloc (.cells #[.int .i64 (k : Nat)] 3)).alloc (.cells #[.int .u64 (l : Nat), .int .u64 (ofInts [(k : Int)] : Nat)] 37))
        have HP4 := Lib.hid ((hp4.alloc (.cells #[.int .i64 (k : Nat)] 3)).alloc (.cells #[.int .u64 (l : Nat), .int .u64 (ofInts [(k : Int)] : Nat)] 37))
        have HN4 := Lib.hid (nr_chg hn4 (((Chg.refl (fun _ => False) w4).alloc (.cells #[.int .i64 (k : Nat)] 3)).alloc (.cells #[.int .u64 (l : Nat), .int .u64 (ofInts [(k : Int)] : Nat)] 37)) (fun _ _ e => e))
        have hpos4 := HP4.out.pos
        have hj4 : j < j4 := by
          unfold memberP at hr
          obtain ⟨s1, i1, g1, g2⟩ := Syn.R.on_ok hr
          have := (Syn.name_ok g1).2.1
          split at g2
          · injection g2 with g2; injection g2 with _ g2; omega
          · cases g2
        have hle4 := hp4.le
        clear hor hc4 hr hp4 hn4 hmem hsk
        generalize ofInts [(k : Int)] = on at *
        generalize (l ||| 1 <<< k) = l4 at *
        go_wp2_with fail
        go_at_call 79
        refine hof.mono ?_
        rintro e w' ⟨rfl, rfl⟩
        go_wp2_with fail
        go_at_call 78
        refine hjn.mono ?_
        rintro e w' ⟨rfl, rfl⟩
        go_wp2
        refine ⟨⟨f, l4, j4, hl4, rfl, HF4, HP4, HN4, HC4⟩, ?_⟩
        rw [hpos4, HPOS.out]; omega
end
end Go.Proofs.YtnmcjkabihihiaaGreatDoor

/- decl, declLine and arrayLine of the parser. -/
namespace Go.Proofs.YtnmcjkabihihiaaGreatDoor
open Go Go.RowKit Go.Proofs.Mm

section
variable {ys : List It} {len bp bw i : Nat} {vp : Value} {w : World} {ns : List (List Nat)}
theorem nr_alloc (hn : NR w vp ns) (o : Obj) : NR (w.alloc o) vp ns := nr_chg hn ((Chg.refl (fun _ => False) w).alloc o) (fun _ _ e => e)
/-- A declaration that is handed back. -/
def DOk (ys : List It) (len bp bw : Nat) (vp : Value) (ns : List (List Nat)) (d : Syn.De) (j : Nat) (e : Ending) (w' : World) : Prop :=
  e = .returned (.agg #[.string (sb d.name), .int .u64 (d.label : Nat)]) ∧ d.label < 18446744073709551616 ∧ PS ys len bp bw vp w' j ∧ NR w' vp ns
theorem chg_two {S : Nat → Prop} {a w : World} (h : Chg S a w) {g : Nat} (hg : S g ∨ a.heap.size ≤ g) (x0 x1 : Value) : Chg S a ((w.setCell ⟨g, 0, none⟩ x0).setCell ⟨g, 1, none⟩ x1) :=
  (h.setCell (p := ⟨g, 0, none⟩) hg _).setCell (p := ⟨g, 1, none⟩) hg _
theorem chg_three {S : Nat → Prop} {a w : World} (h : Chg S a w) {g : Nat} (hg : S g ∨ a.heap.size ≤ g) (x0 x1 x2 : Value) : Chg S a (((w.setCell ⟨g, 0, none⟩ x0).setCell ⟨g, 1, none⟩ x1).setCell ⟨g, 2, none⟩ x2) :=
  (chg_two h hg x0 x1).setCell (p := ⟨g, 2, none⟩) hg _
theorem two_cells {W : World} {g : Nat} {x0 x1 : Value} {T : TypeId} (h : W.heap[g]? = some (.cells #[x0, x1] T (0, 0))) :
    W.cell? ⟨g, 0, none⟩ = some x0 ∧ W.cell? ⟨g, 1, none⟩ = some x1 ∧ W.frozen? ⟨g, 0, none⟩ = false ∧ W.frozen? ⟨g, 1, none⟩ = false := ⟨cell_of h rfl, cell_of h rfl, free_of h, free_of h⟩
theorem three_cells {W : World} {g : Nat} {x0 x1 x2 : Value} {T : TypeId} (h : W.heap[g]? = some (.cells #[x0, x1, x2] T (0, 0))) :
    W.cell? ⟨g, 0, none⟩ = some x0 ∧ W.cell? ⟨g, 1, none⟩ = some x1 ∧ W.cell? ⟨g, 2, none⟩ = some x2 ∧ W.frozen? ⟨g, 0, none⟩ = false ∧ W.frozen? ⟨g, 1, none⟩ = false ∧ W.frozen? ⟨g, 2, none⟩ = false := ⟨cell_of h rfl, cell_of h rfl, cell_of h rfl, free_of h, free_of h, free_of h⟩
set_option maxRecDepth 100000 in
set_option maxHeartbeats 1000000 in
theorem decl_any (hw : Ws ys) (h : PS ys len bp bw vp w i) (hn : NR w vp ns) :
    Calls Tryz.prog 57 #[.pointer (some ⟨bp, 0, none⟩)] w (Ret ys len (fun k => k = bp) w (Syn.decl (Tk ys) (ys.length + 1) ns i) (DOk ys len bp bw vp ns)) := by
  obtain ⟨hlt, hlb⟩ := h.lt
  have hne : ¬ w.heap.size = bp := by omega
  have h1 := name_at (h.alloc (.cells #[.string ⟨#[]⟩, .int .u64 0] 75))
  obtain ⟨RR, hRR⟩ : ∃ RR, Syn.decl (Tk ys) (ys.length + 1) ns i = RR := ⟨_, rfl⟩
  rw [hRR]
  have H0 := Lib.hid hRR
  have C0 := Lib.hid ((Chg.refl (fun k => k = bp) w).alloc (.cells #[.string ⟨#[]⟩, .int .u64 0] 75))
  have HN0 := Lib.hid (nr_alloc hn (.cells #[.string ⟨#[]⟩, .int .u64 0] 75))
  have HP0 := Lib.hid (h.alloc (.cells #[.string ⟨#[]⟩, .int .u64 0] 75))
  have hvp := Lib.hid (fun k (hk : vp.ownBlock = some k) => (hn.1.lt k hk).2)
  clear hRR h hn
  go_enter Tryz.func57, Tryz.ntmps57
  go_wp2_with fail
  go_at_call 59
  refine h1.mono ?_
  rintro e w1 ⟨hc1, ⟨hr, rfl⟩ | ⟨hr, rfl, hp1⟩⟩
  · exact ⟨rfl, ret_err (by rw [← H0.out]; unfold Syn.decl; rw [hr]; rfl) (C0.out.then hc1)⟩
  have C1 := Lib.hid (C0.out.then hc1)
  have HRES := Lib.hid (hc1.heap (World.alloc_heap_new w (.cells #[.string ⟨#[]⟩, .int .u64 0] 75)) hne)
  have H1 := Lib.hid (show (Syn.label (Tk ys) (ys.length + 1) ns (i + 1)).on (fun l k => .ok ((⟨bl (tk ys len i).t, l⟩ : Syn.De), k)) = RR from by rw [← H0.out]; unfold Syn.decl; rw [hr]; rfl)
  have h2 := ret_cases (label_any hw hp1 (nr_next HN0.out HP0.out hc1))
  have hs1 := hc1.size
  rw [World.size_alloc] at hs1
  clear hc1 hr h1 hp1
  generalize (tk ys len i).t = s1 at *
  go_wp2_with fail
  go_at_call 61
  refine h2.mono ?_
  rintro e w2 ⟨hc2, ⟨er, k, hr, rfl⟩ | ⟨l, j, hr, rfl, hl, hp2, hn2⟩⟩
  · exact ⟨rfl, ret_err (by rw [← H1.out, hr]; rfl) (C1.out.then hc2)⟩
  obtain ⟨r0, r1, f0, f1⟩ := two_cells (hc2.heap HRES.out hne)
  have HE := Lib.hid (show .ok ((⟨bl s1, l⟩ : Syn.De), j) = RR from by rw [← H1.out, hr]; rfl)
  have hcs := chg_two (Chg.refl (fun k => k = w.heap.size) w2) (.inl rfl) (.string s1) (.int .u64 (l : Nat))
  have HEND := Lib.hid (show Chg (fun k => k = bp) w _ ∧ DOk ys len bp bw vp ns ⟨bl s1, l⟩ j (.returned (.agg #[.string s1, .int .u64 (l : Nat)])) _ from
    ⟨chg_two (C1.out.then hc2) (.inr (Nat.le_refl _)) (.string s1) (.int .u64 (l : Nat)), by rw [sb_bl], hl, hp2.chg hcs (fun e => hne e.symm) (by omega), nr_chg hn2 hcs (fun k hk e => by have := hvp.out k hk; omega)⟩)
  clear hc2 hr hp2 hn2 h2 hcs hl
  go_wp2
  exact bodyPost_ret (v := .agg #[.string s1, .int .u64 (l : Nat)]) (by simp [results, Tryz.results57, go_sem, r0, r1]) rfl (ret_ok HE.out.symm HEND.out.1 HEND.out.2)
def declLP (T : Nat → Option Syn.K) (F : Nat) (ns : List (List Nat)) (i : Nat) : Syn.R Syn.De := (Syn.decl T F ns i).on fun d i => (Syn.want T i [59]).on fun _ i => .ok (d, i)
set_option maxRecDepth 100000 in
set_option maxHeartbeats 1000000 in
theorem declLine_any (hw : Ws ys) (h : PS ys len bp bw vp w i) (hn : NR w vp ns) :
    Calls Tryz.prog 33 #[.pointer (some ⟨bp, 0, none⟩)] w (Ret ys len (fun k => k = bp) w (declLP (Tk ys) (ys.length + 1) ns i) (DOk ys len bp bw vp ns)) := by
  obtain ⟨hlt, hlb⟩ := h.lt
  have hne : ¬ w.heap.size = bp := by omega
  have h1 := ret_cases (decl_any hw (h.alloc (.cells #[.string ⟨#[]⟩, .int .u64 0] 75)) (nr_alloc hn (.cells #[.string ⟨#[]⟩, .int .u64 0] 75)))
  obtain ⟨RR, hRR⟩ : ∃ RR, declLP (Tk ys) (ys.length + 1) ns i = RR := ⟨_, rfl⟩
  rw [hRR]
  have H0 := Lib.hid hRR
  have C0 := Lib.hid ((Chg.refl (fun k => k = bp) w).alloc (.cells #[.string ⟨#[]⟩, .int .u64 0] 75))
  have hvp := Lib.hid (fun k (hk : vp.ownBlock = some k) => (hn.1.lt k hk).2)
  clear hRR h hn
  go_enter Tryz.func33, Tryz.ntmps33
  go_wp2_with fail
  go_at_call 57
  refine h1.mono ?_
  rintro e w1 ⟨hc1, ⟨er, k, hr, rfl⟩ | ⟨d, j, hr, rfl, hl, hp1, hn1⟩⟩
  · exact ⟨rfl, ret_err (by rw [← H0.out]; unfold declLP; rw [hr]; rfl) (C0.out.then hc1)⟩
  have C1 := Lib.hid (C0.out.then hc1)
  have HRES := Lib.hid (hc1.heap (World.alloc_heap_new w (.cells #[.string ⟨#[]⟩, .int .u64 0] 75)) hne)
  have H1 := Lib.hid (show (Syn.want (Tk ys) j [59]).on (fun _ i => .ok (d, i)) = RR from by rw [← H0.out]; unfold declLP; rw [hr]; rfl)
  have hs1 := hc1.size
  rw [World.size_alloc] at hs1
  have HP1 := Lib.hid (hp1.alloc (.cells #[.string (sb d.name), .int .u64 (d.label : Nat)] 75))
  have HN1 := Lib.hid (nr_alloc hn1 (.cells #[.string (sb d.name), .int .u64 (d.label : Nat)] 75))
  have hsN := Lib.hid (World.alloc_heap_new w1 (.cells #[.string (sb d.name), .int .u64 (d.label : Nat)] 75))
  have h2 := want_at hw HP1.out ⟨#[59]⟩ mk_59
  clear hc1 hr h1 hp1 hn1
  go_wp2_with fail
  go_at_call 58
  refine h2.mono ?_
  rintro e w2 ⟨hc2, ⟨hr, rfl⟩ | ⟨hr, rfl, hp2⟩⟩
  · exact ⟨rfl, ret_err (by rw [← H1.out, show ([59] : List Nat) = bl ⟨#[59]⟩ from rfl, hr]; rfl) ((C1.out.alloc _).then hc2)⟩
  have hn2 := nr_next HN1.out HP1.out hc2
  obtain ⟨r0, r1, f0, f1⟩ := two_cells (hc2.heap (heap_new _ _ HRES.out) hne)
  obtain ⟨s0, s1, _, _⟩ := two_cells (hc2.heap hsN.out (by omega))
  have HE := Lib.hid (show .ok (d, j + 1) = RR from by rw [← H1.out, show ([59] : List Nat) = bl ⟨#[59]⟩ from rfl, hr]; rfl)
  have hcs := chg_two (Chg.refl (fun k => k = w.heap.size) w2) (.inl rfl) (.string (sb d.name)) (.int .u64 (d.label : Nat))
  have HEND := Lib.hid (show Chg (fun k => k = bp) w _ ∧ DOk ys len bp bw vp ns d (j + 1) (.returned (.agg #[.string (sb d.name), .int .u64 (d.label : Nat)])) _ from
    ⟨chg_two ((C1.out.alloc _).then hc2) (.inr (Nat.le_refl _)) (.string (sb d.name)) (.int .u64 (d.label : Nat)), rfl, hl, hp2.chg hcs (fun e => hne e.symm) (by omega), nr_chg hn2 hcs (fun k hk e => by have := hvp.out k hk; omega)⟩)
  clear hc2 hr hp2 hn2 h2 hcs hl
  go_wp2
  exact bodyPost_ret (v := .agg #[.string (sb d.name), .int .u64 (d.label : Nat)]) (by simp [results, Tryz.results33, go_sem, r0, r1]) rfl (ret_ok HE.out.symm HEND.out.1 HEND.out.2)
end
end Go.Proofs.YtnmcjkabihihiaaGreatDoor

/- A number that is wanted, and arrayLine of the parser. -/
namespace Go.Proofs.YtnmcjkabihihiaaGreatDoor
open Go Go.RowKit Go.Proofs.Mm

section
variable {ys : List It} {len bp bw i : Nat} {vp : Value} {w : World} {ns : List (List Nat)}
theorem number_at (h : PS ys len bp bw vp w i) :
    Calls Tryz.prog 60 #[.pointer (some ⟨bp, 0, none⟩), .int .i64 3] w fun e w' => Chg (fun k => k = bp) w w' ∧ ((Syn.number (Tk ys) i = .error (50, i) ∧ e = .panicked (gv (50 : Nat) ((tk ys len i).a : Nat))) ∨
      (i < ys.length ∧ Syn.number (Tk ys) i = .ok ((tk ys len i).v, i + 1) ∧ e = .returned (.agg #[.int .i64 ((tk ys len i).k : Nat), .string (tk ys len i).t, .int .i64 ((tk ys len i).v : Nat), .int .i64 ((tk ys len i).a : Nat)]) ∧ PS ys len bp bw vp w' (i + 1))) := by
  rcases Nat.lt_or_ge i ys.length with hi | hi
  · cases hx : (((tk ys len i).k : Int) == 3) with
    | true =>
      refine (wantKind_yes h hi 3 hx).mono ?_
      rintro e w' ⟨rfl, hc, hp⟩
      refine ⟨hc, .inr ⟨hi, ?_, rfl, hp⟩⟩
      rw [beq_iff_eq] at hx
      unfold Syn.number
      rw [Tk_some (len := len) hi]
      exact if_pos (by simp only [keyOf]; omega)
    | false =>
      refine (wantKind_no h 3 hx (fun k => k = bp)).mono ?_
      rintro e w' ⟨rfl, hc⟩
      refine ⟨hc, .inl ⟨?_, rfl⟩⟩
      rw [beq_eq_false_iff_ne] at hx
      unfold Syn.number
      rw [Tk_some (len := len) hi]
      exact if_neg (by simp only [keyOf]; omega)
  · have hx : (((tk ys len i).k : Int) == 3) = false := by rw [tk_end ys len hi]; rfl
    refine (wantKind_no h 3 hx (fun k => k = bp)).mono ?_
    rintro e w' ⟨rfl, hc⟩
    refine ⟨hc, .inl ⟨?_, rfl⟩⟩
    unfold Syn.number
    rw [Tk_none hi]
def arrLP (T : Nat → Option Syn.K) (F : Nat) (ns : List (List Nat)) (i : Nat) : Syn.R Syn.Ar :=
  (Syn.name T i).on fun n i => (Syn.number T i).on fun v i => (Syn.label T F ns i).on fun l i => (Syn.want T i [59]).on fun _ i => .ok (⟨n, v, l⟩, i)
/-- A row that is handed back. -/
def AOk (ys : List It) (len bp bw : Nat) (vp : Value) (ns : List (List Nat)) (d : Syn.Ar) (j : Nat) (e : Ending) (w' : World) : Prop :=
  e = .returned (.agg #[.string (sb d.name), .int .i64 (d.len : Nat), .int .u64 (d.label : Nat)]) ∧ d.label < 18446744073709551616 ∧ PS ys len bp bw vp w' j ∧ NR w' vp ns
def arrZ : Obj := .cells #[.string ⟨#[]⟩, .int .i64 0, .int .u64 0] 71
attribute [local go_sem] tok_text tok_value
set_option maxRecDepth 100000 in
set_option maxHeartbeats 1000000 in
theorem arrayLine_any (hw : Ws ys) (h : PS ys len bp bw vp w i) (hn : NR w vp ns) :
    Calls Tryz.prog 34 #[.pointer (some ⟨bp, 0, none⟩)] w (Ret ys len (fun k => k = bp) w (arrLP (Tk ys) (ys.length + 1) ns i) (AOk ys len bp bw vp ns)) := by
  obtain ⟨hlt, hlb⟩ := h.lt
  have hne : ¬ w.heap.size = bp := by omega
  have C0 := Lib.hid ((Chg.refl (fun k => k = bp) w).alloc arrZ)
  have HN0 := Lib.hid (nr_alloc hn arrZ)
  have HP0 := Lib.hid (h.alloc arrZ)
  have h1 := name_at HP0.out
  obtain ⟨RR, hRR⟩ : ∃ RR, arrLP (Tk ys) (ys.length + 1) ns i = RR := ⟨_, rfl⟩
  rw [hRR]
  have H0 := Lib.hid hRR
  have hvp := Lib.hid (fun k (hk : vp.ownBlock = some k) => (hn.1.lt k hk).2)
  clear hRR h hn
  go_enter Tryz.func34, Tryz.ntmps34
  go_wp2_with fail
  go_at_call 59
  refine h1.mono ?_
  rintro e w1 ⟨hc1, ⟨hr, rfl⟩ | ⟨hr, rfl, hp1⟩⟩
  · exact ⟨rfl, ret_err (by rw [← H0.out]; unfold arrLP; rw [hr]; rfl) (C0.out.then hc1)⟩
  have C1 := Lib.hid (C0.out.then hc1)
  have HRES := Lib.hid (hc1.heap (World.alloc_heap_new w arrZ) hne)
  have H1 := Lib.hid (show (Syn.number (Tk ys) (i + 1)).on (fun v j => (Syn.label (Tk ys) (ys.length + 1) ns j).on fun l j => (Syn.want (Tk ys) j [59]).on fun _ j => .ok (⟨bl (tk ys len i).t, v, l⟩, j)) = RR from by rw [← H0.out]; unfold arrLP; rw [hr]; rfl)
  have h2 := number_at hp1
  have HN1 := Lib.hid (nr_next HN0.out HP0.out hc1)
  have hs1 := hc1.size
  rw [World.size_alloc] at hs1
  have HP1 := Lib.hid hp1
  clear hc1 hr h1 hp1
  generalize (tk ys len i).t = s1 at *
  go_wp2_with fail
  go_at_call 60
  refine h2.mono ?_
  rintro e w2 ⟨hc2, ⟨hr, rfl⟩ | ⟨hi, hr, rfl, hp2⟩⟩
  · exact ⟨rfl, ret_err (by rw [← H1.out]; rw [hr]; rfl) (C1.out.then hc2)⟩
  have C2 := Lib.hid (C1.out.then hc2)
  have HRES2 := Lib.hid (hc2.heap HRES.out hne)
  have HN2 := Lib.hid (nr_next HN1.out HP1.out hc2)
  have h3 := ret_cases (label_any hw hp2 HN2.out)
  have hvb := tk_good hw len hi
  have H2 := Lib.hid (show (Syn.label (Tk ys) (ys.length + 1) ns (i + 1 + 1)).on (fun l j => (Syn.want (Tk ys) j [59]).on fun _ j => .ok (⟨bl s1, (tk ys len (i + 1)).v, l⟩, j)) = RR from by rw [← H1.out, hr]; rfl)
  have hs2 := hc2.size
  clear hc2 hr h2 hp2 HP1
  generalize (tk ys len (i + 1)).t = s2 at *
  generalize (tk ys len (i + 1)).v = v2 at *
  generalize (tk ys len (i + 1)).k = k2 at *
  generalize (tk ys len (i + 1)).a = a2 at *
  go_wp2_with fail
  go_at_call 61
  refine h3.mono ?_
  rintro e w3 ⟨hc3, ⟨er, k, hr, rfl⟩ | ⟨l, j, hr, rfl, hl, hp3, hn3⟩⟩
  · exact ⟨rfl, ret_err (by rw [← H2.out, hr]; rfl) (C2.out.then hc3)⟩
  have C3 := Lib.hid (C2.out.then hc3)
  have HRES3 := Lib.hid (hc3.heap HRES2.out hne)
  have H3 := Lib.hid (show (Syn.want (Tk ys) j [59]).on (fun _ k => .ok ((⟨bl s1, v2, l⟩ : Syn.Ar), k)) = RR from by rw [← H2.out, hr]; rfl)
  have hs3 := hc3.size
  have HP3 := Lib.hid (hp3.alloc (.cells #[.string s1, .int .i64 (v2 : Nat), .int .u64 (l : Nat)] 71))
  have HN3 := Lib.hid (nr_alloc hn3 (.cells #[.string s1, .int .i64 (v2 : Nat), .int .u64 (l : Nat)] 71))
  have hsN := Lib.hid (World.alloc_heap_new w3 (.cells #[.string s1, .int .i64 (v2 : Nat), .int .u64 (l : Nat)] 71))
  have h4 := want_at hw HP3.out ⟨#[59]⟩ mk_59
  clear hc3 hr h3 hp3 hn3 hvb
  go_wp2_with fail
  go_at_call 58
  refine h4.mono ?_
  rintro e w4 ⟨hc4, ⟨hr, rfl⟩ | ⟨hr, rfl, hp4⟩⟩
  · exact ⟨rfl, ret_err (by rw [← H3.out, show ([59] : List Nat) = bl ⟨#[59]⟩ from rfl, hr]; rfl) ((C3.out.alloc _).then hc4)⟩
  have hn4 := nr_next HN3.out HP3.out hc4
  obtain ⟨r0, r1, r2, f0, f1, f2⟩ := three_cells (hc4.heap (heap_new _ _ HRES3.out) hne)
  obtain ⟨s0, s1', s2', _, _, _⟩ := three_cells (hc4.heap hsN.out (by omega))
  have HE := Lib.hid (show .ok ((⟨bl s1, v2, l⟩ : Syn.Ar), j + 1) = RR from by rw [← H3.out, show ([59] : List Nat) = bl ⟨#[59]⟩ from rfl, hr]; rfl)
  have hcs := chg_three (Chg.refl (fun k => k = w.heap.size) w4) (.inl rfl) (.string s1) (.int .i64 (v2 : Nat)) (.int .u64 (l : Nat))
  have HEND := Lib.hid (show Chg (fun k => k = bp) w _ ∧ AOk ys len bp bw vp ns ⟨bl s1, v2, l⟩ (j + 1) (.returned (.agg #[.string s1, .int .i64 (v2 : Nat), .int .u64 (l : Nat)])) _ from
    ⟨chg_three ((C3.out.alloc _).then hc4) (.inr (Nat.le_refl _)) (.string s1) (.int .i64 (v2 : Nat)) (.int .u64 (l : Nat)), by rw [sb_bl], hl, hp4.chg hcs (fun e => hne e.symm) (by omega), nr_chg hn4 hcs (fun k hk e => by have := hvp.out k hk; omega)⟩)
  clear hc4 hr hp4 hn4 h4 hcs hl
  go_wp2
  exact bodyPost_ret (v := .agg #[.string s1, .int .i64 (v2 : Nat), .int .u64 (l : Nat)]) (by simp [results, Tryz.results34, go_sem, r0, r1, r2]) rfl (ret_ok HE.out.symm HEND.out.1 HEND.out.2)
end
end Go.Proofs.YtnmcjkabihihiaaGreatDoor

/- A row that grows in a field of a block of the call's own. -/
namespace Go.Proofs.YtnmcjkabihihiaaGreatDoor
open Go Go.RowKit Go.Proofs.Mm

section
variable {ys : List It} {len bp bw i : Nat} {vp : Value} {w : World} {ns : List (List Nat)} {α : Type}
/-- Which rows may grow: no block of the parser has their type. -/
structure Tys (T E : TypeId) : Prop where
  te : T ≠ E
  es : E ≠ 9
  ts : T ≠ 9
  ew : E ≠ 55
  tw : T ≠ 55
  eb : E ≠ 61
  tb : T ≠ 61
  ep : E ≠ 90
  tp : T ≠ 90
theorem blk_ne {W : World} {a b : Nat} {x y : Array Value} {T T' : TypeId} (h : W.heap[a]? = some (.cells x T (0, 0))) (h' : W.heap[b]? = some (.cells y T' (0, 0))) (ht : T ≠ T') : a ≠ b := by
  rintro rfl
  rw [h] at h'
  simp only [Option.some.injEq, Obj.cells.injEq] at h'
  exact ht h'.2.1
theorem blk_own {W : World} {a : Nat} {x : Array Value} {T E : TypeId} {B n size : Nat} {v : Value} {xs : List Value} (h : W.heap[a]? = some (.cells x T (0, 0))) (h' : W.ownsRow B E size v n xs) (ht : T ≠ E) : ¬ v.ownBlock = some a := by
  intro e
  obtain ⟨cur, h2⟩ := own_type h' e
  exact blk_ne h h2 ht rfl
theorem own_own {W : World} {E E' : TypeId} {B n size B' n' size' : Nat} {v v' : Value} {xs xs' : List Value} (h : W.ownsRow B E size v n xs) (h' : W.ownsRow B' E' size' v' n' xs') (ht : E ≠ E') : ∀ k, v.ownBlock = some k → ¬ v'.ownBlock = some k := by
  intro k hk
  obtain ⟨cur, h2⟩ := own_type h hk
  exact blk_own h2 h' ht
theorem PS.blk (h : PS ys len bp bw vp w i) : ∃ x, w.heap[bp]? = some (.cells x 90 (0, 0)) := by
  obtain ⟨c, h1, _⟩ := h.st
  exact ⟨_, h1⟩
theorem PS.tok (h : PS ys len bp bw vp w i) : ∃ x, w.heap[bw]? = some (.cells x 55 (0, 0)) := by
  obtain ⟨c, h1, _⟩ := h.toks
  exact ⟨_, h1⟩
/-- What has grown so far: the field of the block at bf that arr puts it into. -/
def GJ (R : Mem → List Value → α → Prop) (E : TypeId) (size : Nat) (T : TypeId) (arr : Value → Array Value) (bf bp B : Nat) (vp : Value) (ns : List (List Nat)) (m0 : Mem) (w0 : World) (acc : List α) (W : World) : Prop :=
  ∃ q c cs m', W.heap[bf]? = some (.cells (arr (.slice q acc.length c)) T (0, 0)) ∧ W.ownsRow B E size (.slice q acc.length c) acc.length cs ∧ Enc (R m') cs acc ∧ Has W m' ∧ m0.More w0 m' ∧ m' bf = none ∧ m' bp = none ∧ (∀ k, Value.ownBlock (.slice q acc.length c) = some k → m' k = none) ∧ w0.heap.size ≤ W.heap.size ∧ NR W vp ns
def GS (bp bf : Nat) (v : Value) : Nat → Prop := fun k => k = bp ∨ k = bf ∨ v.ownBlock = some k
variable {R : Mem → List Value → α → Prop} {E T : TypeId} {size : Nat} {arr : Value → Array Value} {bf B : Nat} {m0 : Mem} {w0 : World} {acc : List α} {W : World}
theorem GJ.next (h : GJ R E size T arr bf bp B vp ns m0 w0 acc W) (ht : Tys T E) (hp : PS ys len bp bw vp W i) {W' : World} (hc : Chg (fun k => k = bp) W W') : GJ R E size T arr bf bp B vp ns m0 w0 acc W' := by
  obtain ⟨q, c, cs, m', h1, h2, h3, h4, h5, h6, h7, h8, h9, h10⟩ := h
  have hsz := hc.size
  obtain ⟨x, hx⟩ := hp.blk
  exact ⟨q, c, cs, m', hc.heap h1 (blk_ne h1 hx ht.tp), own_chg h2 hc (fun k hk e => by subst e; exact blk_own hx h2 ht.ep.symm hk), h3, h4.chg hc (fun k e => by subst e; exact h7), h5, h6, h7, h8, by omega, nr_next h10 hp hc⟩
/-- What lies elsewhere stays while the row grows. -/
theorem gj_mid {n : Nat} {v : Value} {cs : List Value} {w1 w9 : World} {o : Obj} (h2 : W.ownsRow B E size v n cs) (hcc : Chg (fun k => k = bp) W w1) (hg : (w1.alloc o).grownBy w9 v.ownBlock) {k : Nat} {x : Array Value} {T' : TypeId} (hk : W.heap[k]? = some (.cells x T' (0, 0))) (hT : T' ≠ E) (hkb : ¬ k = bp) : w9.heap[k]? = some (.cells x T' (0, 0)) := by
  have hc : Chg (fun k => k = bp ∨ v.ownBlock = some k) W w9 := ((hcc.alloc _).mono (fun k e => .inl (.inl e))).then (grown_chg hg (fun k e => .inl (.inr e)))
  exact hc.heap hk (fun e => by
    rcases e with e | e
    · exact hkb e
    · exact blk_own hk h2 hT e)
theorem gj_end {w1 w9 : World} {j kf c c9 : Nat} {q q9 : Option Addr} {x : α} {cs news : List Value} {m' m1 : Mem} (ht : Tys T E) (harr : ∀ v v', (arr v).setIfInBounds kf v' = arr v')
    (hp : PS ys len bp bw vp W i)
    (h1 : W.heap[bf]? = some (.cells (arr (.slice q acc.length c)) T (0, 0))) (h2 : W.ownsRow B E size (.slice q acc.length c) acc.length cs) (h3 : Enc (R m') cs acc) (_h4 : Has W m') (h5 : m0.More w0 m') (h6 : m' bf = none) (h7 : m' bp = none) (h8 : ∀ k, Value.ownBlock (.slice q acc.length c) = some k → m' k = none) (h9 : w0.heap.size ≤ W.heap.size)
    (hR : ∀ m m' : Mem, m.le m' → ∀ c x, R m c x → R m' c x)
    (hcc : Chg (fun k => k = bp) W w1) (a1 : m'.More W m1) (a2 : Has w1 m1) (a3 : R m1 news x) (a4 : PS ys len bp bw vp w1 j) (a5 : NR w1 vp ns)
    (hown9 : w9.ownsRow B E size (.slice q9 (acc.length + 1) c9) (acc.length + 1) (cs ++ news)) {o : Obj} (hgrow9 : (w1.alloc o).grownBy w9 (Value.ownBlock (.slice q acc.length c))) (hat9 : Value.ownBlock (.slice q9 (acc.length + 1) c9) = Value.ownBlock (.slice q acc.length c) ∨ Value.ownBlock (.slice q9 (acc.length + 1) c9) = some (w1.heap.size + 1)) :
    Chg (GS bp bf (.slice q acc.length c)) W (w9.setCell ⟨bf, kf, none⟩ (.slice q9 (acc.length + 1) c9)) ∧ GJ R E size T arr bf bp B vp ns m0 w0 (acc ++ [x]) (w9.setCell ⟨bf, kf, none⟩ (.slice q9 (acc.length + 1) c9)) ∧ PS ys len bp bw vp (w9.setCell ⟨bf, kf, none⟩ (.slice q9 (acc.length + 1) c9)) j := by
  have hs1 := hcc.size
  obtain ⟨xb, hxb⟩ := hp.blk
  obtain ⟨xt, hxt⟩ := hp.tok
  have hnb : ¬ bf = bp := blk_ne h1 hxb ht.tp
  have hC9 : Chg (fun k => k = bp ∨ Value.ownBlock (.slice q acc.length c) = some k) W w9 := ((hcc.alloc _).mono (fun k e => .inl (.inl e))).then (grown_chg hgrow9 (fun k e => .inl (.inr e)))
  have hC : Chg (GS bp bf (.slice q acc.length c)) W (w9.setCell ⟨bf, kf, none⟩ (.slice q9 (acc.length + 1) c9)) := (hC9.mono (fun k e => .inl (by rcases e with e | e <;> simp [GS, e]))).setCell (p := ⟨bf, kf, none⟩) (.inl (.inr (.inl rfl))) _
  have hqlt : ∀ k, Value.ownBlock (.slice q acc.length c) = some k → k < W.heap.size := fun k hk => (h2.lt k hk).2
  have hbal := heap_lt h1
  have hCw : Chg (fun k => Value.ownBlock (.slice q acc.length c) = some k ∨ k = bf) w1 (w9.setCell ⟨bf, kf, none⟩ (.slice q9 (acc.length + 1) c9)) :=
    ((((Chg.refl _ w1).alloc _).then (grown_chg hgrow9 (fun k e => .inl (.inl e)))).setCell (p := ⟨bf, kf, none⟩) (.inl (.inr rfl)) _)
  have g1 := gj_mid h2 hcc hgrow9 h1 ht.te hnb
  have g2 := own_chg hown9 ((Chg.refl (fun k => k = bf) w9).setCell (p := ⟨bf, kf, none⟩) (.inl rfl) (.slice q9 (acc.length + 1) c9)) (fun k hk e => by subst e; exact blk_own g1 hown9 ht.te hk)
  have hH : Has (w9.setCell ⟨bf, kf, none⟩ (.slice q9 (acc.length + 1) c9)) m1 := a2.chg hCw (fun k e => by
    rcases e with e | rfl
    · exact a1.new k (h8 k e) (hqlt k e)
    · exact a1.new _ h6 hbal)
  have hvq := hcc.heap h1 hnb
  have hN : NR (w9.setCell ⟨bf, kf, none⟩ (.slice q9 (acc.length + 1) c9)) vp ns := nr_chg a5 hCw (fun k hk e => by
    obtain ⟨cur, hcu⟩ := own_type a5.1 hk
    rcases e with e | rfl
    · have h2' : w1.ownsRow B E size (.slice q acc.length c) acc.length cs := own_chg h2 hcc (fun k hk e => by subst e; exact blk_own hxb h2 ht.ep.symm hk)
      exact blk_own hcu h2' ht.es.symm e
    · exact blk_ne hvq hcu ht.ts rfl)
  refine ⟨hC, ⟨q9, c9, cs ++ news, m1, ?_, ?_, (h3.mono (hR _ _ a1.le)).app (Enc.one a3), hH, h5.trans a1 h9, a1.new _ h6 hbal, a1.new _ h7 (heap_lt hxb), ?_, ?_, hN⟩, ?_⟩
  · rw [List.length_append, List.length_singleton]
    have := heap_set g1 kf (.slice q9 (acc.length + 1) c9)
    rwa [harr] at this
  · rw [List.length_append, List.length_singleton]; exact g2
  · rw [List.length_append, List.length_singleton]
    intro k hk
    rcases hat9 with e | e
    · rw [e] at hk; exact a1.new k (h8 k hk) (hqlt k hk)
    · rw [e] at hk
      obtain rfl : w1.heap.size + 1 = k := by simpa using hk
      exact a2.lt (by omega)
  · have := hC.size; omega
  · obtain ⟨yb, hyb⟩ := a4.blk
    obtain ⟨yt, hyt⟩ := a4.tok
    have h2' : w1.ownsRow B E size (.slice q acc.length c) acc.length cs := own_chg h2 hcc (fun k hk e => by subst e; exact blk_own hxb h2 ht.ep.symm hk)
    refine a4.chg hCw (fun e => ?_) (fun e => ?_)
    · rcases e with e | e
      · exact blk_own hyb h2' ht.ep.symm e
      · exact hnb e.symm
    · rcases e with e | e
      · exact blk_own hyt h2' ht.ew.symm e
      · exact blk_ne hvq hyt ht.tw e.symm
/-- A row that has grown, done with. -/
theorem gj_done (h : GJ R E size T arr bf bp B vp ns m0 w0 acc W) (ht : Tys T E) (hp : PS ys len bp bw vp W i) (hB : w0.heap.size ≤ B) (hR : ∀ m m' : Mem, m.le m' → ∀ c x, R m c x → R m' c x) :
    ∃ q c cs m2, W.heap[bf]? = some (.cells (arr (.slice q acc.length c)) T (0, 0)) ∧ m0.More w0 m2 ∧ Has W m2 ∧ m2 bf = none ∧ m2 bp = none ∧ RowM m2 E size (.slice q acc.length c) acc.length cs ∧ Enc (R m2) cs acc ∧ NR W vp ns ∧ w0.heap.size ≤ W.heap.size := by
  obtain ⟨q, c, cs, m', h1, h2, h3, h4, h5, h6, h7, h8, h9, h10⟩ := h
  obtain ⟨m2, d1, d2, d3, d4⟩ := RowM.done h2 h4 h8
  obtain ⟨xb, hxb⟩ := hp.blk
  have hno : ∀ k, m' k = none → ¬ Value.ownBlock (.slice q acc.length c) = some k → m2 k = none := fun k e hk => by
    cases e2 : m2 k with
    | none => rfl
    | some o =>
      rcases d2 k (by rw [e2]; simp) with e3 | e3
      · exact (e3 e).elim
      · exact (hk e3).elim
  exact ⟨q, c, cs, m2, h1, ⟨h5.le.trans d1, fun k e hk => hno k (h5.new k e hk) (fun e3 => by have := (h2.lt k e3).1; omega)⟩, d3, hno bf h6 (blk_own h1 h2 ht.te), hno bp h7 (blk_own hxb h2 ht.ep.symm), d4, h3.mono (hR _ _ d1), h10, h9⟩
end
end Go.Proofs.YtnmcjkabihihiaaGreatDoor
