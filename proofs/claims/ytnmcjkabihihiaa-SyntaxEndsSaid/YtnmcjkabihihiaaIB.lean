/- The kit's compares of terms, texts, expressions and statements, whatever they are: true just where both are the same. -/
import Derived.Test.YtnmcjkabihihiaaIA
import Derived.Deep.QuietTactic
import Derived.BigQuiet
import Derived.Deep.Cut
namespace Go.Proofs.Ytnmcjkabihihiaa
open Go Go.RowKit Go.Proofs.Mm

theorem take_next {α : Type} {l l' : List α} {k : Nat} (h : k < l.length) (h' : k < l'.length) (ht : l.take k = l'.take k) (he : l[k] = l'[k]) : l.take (k + 1) = l'.take (k + 1) := by
  rw [List.take_succ_eq_append_getElem h, List.take_succ_eq_append_getElem h', ht, he]
theorem take_all {α : Type} {l l' : List α} {n : Nat} (h : l.length = n) (h' : l'.length = n) (ht : l.take n = l'.take n) : l = l' := by
  rwa [List.take_of_length_le (by omega), List.take_of_length_le (by omega)] at ht
theorem ne_at {α : Type} {l l' : List α} {k : Nat} (h : k < l.length) (h' : k < l'.length) (he : ¬ l[k] = l'[k]) : ¬ l = l' := by
  intro e; subst e; exact he rfl
theorem nm_eq {a b : ByteArray} : ((a.toList == b.toList) = true) ↔ a = b := by
  rw [beq_iff_eq, Lib.toList_data, Lib.toList_data]
  constructor
  · intro h
    exact ByteArray.ext (Array.toList_inj.1 h)
  · rintro rfl; rfl
theorem str_len (c : List Value) (s : ByteArray) (h : c = [Value.string s]) : c.length = 1 := by rw [h]; rfl
theorem tm_len (c : List Value) (s : TmZ) (h : c = tmZ s) : c.length = 3 := by rw [h]; rfl
theorem ex_len {lt : Bool} {C : Cl} (c : List Value) (s : List TmZ) (h : ExR1 lt C c s) : c.length = 1 := by obtain ⟨u, rfl, _⟩ := h; rfl
theorem st_len {lt : Bool} {C : Cl} (c : List Value) (s : StZ) (h : StR1 lt C c s) : c.length = 4 := by obtain ⟨_, _, rfl, _⟩ := h; rfl
/-- The answer of a compare. -/
def Says (p : Prop) (w : World) (e : Ending) (w' : World) : Prop := ∃ b : Bool, e = .returned (.bool b) ∧ (b = true ↔ p) ∧ ∃ k, w' = w.drewN k
theorem says_no {p : Prop} {w : World} {k : Nat} (h : ¬ p) : Says p w (.returned (.bool false)) (w.drewN k) := ⟨false, rfl, by simp [h], k, rfl⟩
theorem says_no2 {p : Prop} {w : World} {a b : Nat} (h : ¬ p) : Says p w (.returned (.bool false)) ((w.drewN a).drewN b) := ⟨false, rfl, by simp [h], _, World.drewN_drewN ..⟩
theorem says_yes {p : Prop} {w : World} {k : Nat} (h : p) : Says p w (.returned (.bool true)) (w.drewN k) := ⟨true, rfl, by simp [h], k, rfl⟩
open Classical in
/-- Whether both are the same. -/
def tb' {α : Type} (a b : α) : Prop := a = b
noncomputable instance {α : Type} (a b : α) : Decidable (tb' a b) := Classical.propDecidable _
theorem says_dec {p : Prop} {tb : Bool} {w : World} {e : Ending} {w' : World} (ht : tb = true ↔ p) (h : Says p w e w') : e = .returned (.bool tb) ∧ ∃ k, w' = w.drewN k := by
  obtain ⟨b, rfl, hb, hk⟩ := h
  refine ⟨?_, hk⟩
  have : b = tb := by rw [Bool.eq_iff_iff, hb, ht]
  rw [this]
section
variable {la lb : Bool} {w : World} {v v' : Value}
set_option maxRecDepth 100000 in
set_option maxHeartbeats 1000000 in
theorem strings_dec {l l' : List ByteArray} (ha : StrR la (wC w) v l) (hb : StrR lb (wC w) v' l') : Calls Try.prog 17 #[v, v'] w (Says (l = l') w) := by
  obtain ⟨q, c, rfl, _, hmax, _, ha, _⟩ := ha.at (by decide) str_len
  obtain ⟨q', c', rfl, _, hmax', _, hb, _⟩ := hb.at (by decide) str_len
  obtain ⟨n, hnn⟩ : ∃ n, l.length = n := ⟨_, rfl⟩
  obtain ⟨n', hnn'⟩ : ∃ n, l'.length = n := ⟨_, rfl⟩
  have HA := Lib.hid ha
  have HB := Lib.hid hb
  have HN := Lib.hid hnn
  have HN' := Lib.hid hnn'
  rw [hnn] at hmax ⊢
  rw [hnn'] at hmax' ⊢
  clear ha hb hnn hnn'
  by_cases hnm : n = n'
  · subst hnm
    have hneq : ((n : Int) != (n : Int)) = false := by simp
    go_enter Try.func17, Try.ntmps17
    go_wp2
    go_loopw [5] (fun i wr => ∃ k nq : Nat, k ≤ n ∧ i = .int .i64 k ∧ wr = w.drewN nq ∧ Hid (l.take k = l'.take k)) (fun i _ => n - (intOf i).toNat)
    case atStart => exact ⟨0, 0, Nat.zero_le _, rfl, rfl, Lib.hid rfl⟩
    case round =>
      obtain ⟨k, nq, hk, rfl, rfl, hT⟩ := hrel
      by_cases hlt : k < n
      · have hk1 : k < l.length := by rw [HN.out]; exact hlt
        have hk2 : k < l'.length := by rw [HN'.out]; exact hlt
        obtain ⟨g, o, e, rfl, rfl, a1⟩ := HA.out k hk1
        obtain ⟨g', o', e', rfl, rfl, b1⟩ := HB.out k hk2
        have a1 : w.cell? ⟨g, o + k, none⟩ = some (.string l[k]) := by have := a1 0 _ (by decide) rfl; rwa [Nat.mul_one, Nat.add_zero] at this
        have b1 : w.cell? ⟨g', o' + k, none⟩ = some (.string l'[k]) := by have := b1 0 _ (by decide) rfl; rwa [Nat.mul_one, Nat.add_zero] at this
        have hki : (k : Int) < (n : Int) := by omega
        by_cases heq : l[k] = l'[k]
        · have HT2 := Lib.hid (take_next hk1 hk2 hT.out heq)
          rw [← heq] at b1
          generalize l[k] = nm at *
          have e1 : (nm.toList == nm.toList) = true := by simp
          have e2 : (nm.toList != nm.toList) = false := by simp
          have e3 : (!(nm.toList == nm.toList)) = false := by simp
          clear heq
          go_wp2
          go_quiet (fail)
          go_wp2
          exact ⟨⟨k + 1, _, by omega, by go_num, rfl, HT2⟩, by simp [intOf]; omega⟩
        · have HNE := Lib.hid (ne_at hk1 hk2 heq)
          have e1 : (l[k].toList == l'[k].toList) = false := by rw [Bool.eq_false_iff]; intro h; exact heq (nm_eq.1 h)
          clear heq
          generalize l[k] = nm at *
          generalize l'[k] = nm' at *
          have e2 : (nm.toList != nm'.toList) = true := by simp [bne, e1]
          have e3 : (!(nm.toList == nm'.toList)) = true := by rw [e1]; rfl
          go_wp2
          go_quiet (fail)
          go_wp2
          go_ret
          exact says_no2 HNE.out
      · obtain rfl : k = n := by omega
        have HT2 := Lib.hid (take_all HN.out HN'.out hT.out)
        go_wp2
        go_ret
        exact says_yes HT2.out
  · have HNE := Lib.hid (show ¬ l = l' from fun e => hnm (by rw [← HN.out, ← HN'.out, e]))
    have hneq : ((n : Int) != (n' : Int)) = true := by simp; omega
    go_enter Try.func17, Try.ntmps17
    go_wp2
    go_ret
    exact says_no (k := 0) HNE.out
set_option maxRecDepth 100000 in
set_option maxHeartbeats 1000000 in
theorem terms_dec {l l' : List TmZ} (ha : TmsR la (wC w) v l) (hb : TmsR lb (wC w) v' l') : Calls Try.prog 19 #[v, v'] w (Says (l = l') w) := by
  obtain ⟨q, c, rfl, _, hmax, _, ha, _⟩ := ha.at (by decide) tm_len
  obtain ⟨q', c', rfl, _, hmax', _, hb, _⟩ := hb.at (by decide) tm_len
  obtain ⟨n, hnn⟩ : ∃ n, l.length = n := ⟨_, rfl⟩
  obtain ⟨n', hnn'⟩ : ∃ n, l'.length = n := ⟨_, rfl⟩
  have HA := Lib.hid ha
  have HB := Lib.hid hb
  have HN := Lib.hid hnn
  have HN' := Lib.hid hnn'
  rw [hnn] at hmax ⊢
  rw [hnn'] at hmax' ⊢
  clear ha hb hnn hnn'
  by_cases hnm : n = n'
  · subst hnm
    have hneq : ((n : Int) != (n : Int)) = false := by simp
    go_enter Try.func19, Try.ntmps19
    go_wp2
    go_loopw [5] (fun i wr => ∃ k nq : Nat, k ≤ n ∧ i = .int .i64 k ∧ wr = w.drewN nq ∧ Hid (l.take k = l'.take k)) (fun i _ => n - (intOf i).toNat)
    case atStart => exact ⟨0, 0, Nat.zero_le _, rfl, rfl, Lib.hid rfl⟩
    case round =>
      obtain ⟨k, nq, hk, rfl, rfl, hT⟩ := hrel
      by_cases hlt : k < n
      · have hk1 : k < l.length := by rw [HN.out]; exact hlt
        have hk2 : k < l'.length := by rw [HN'.out]; exact hlt
        obtain ⟨g, o, e, rfl, rfl, a1⟩ := HA.out k hk1
        obtain ⟨g', o', e', rfl, rfl, b1⟩ := HB.out k hk2
        have x1 : w.cell? ⟨g, o + k * 3, none⟩ = some (.int .i64 l[k].kind) := a1 0 _ (by decide) rfl
        have x2 : w.cell? ⟨g, o + k * 3 + 1, none⟩ = some (.int .i64 l[k].value) := by have := a1 1 _ (by decide) rfl; rwa [← Nat.add_assoc] at this
        have x3 : w.cell? ⟨g, o + k * 3 + 2, none⟩ = some (.string l[k].name) := by have := a1 2 _ (by decide) rfl; rwa [← Nat.add_assoc] at this
        have y1 : w.cell? ⟨g', o' + k * 3, none⟩ = some (.int .i64 l'[k].kind) := b1 0 _ (by decide) rfl
        have y2 : w.cell? ⟨g', o' + k * 3 + 1, none⟩ = some (.int .i64 l'[k].value) := by have := b1 1 _ (by decide) rfl; rwa [← Nat.add_assoc] at this
        have y3 : w.cell? ⟨g', o' + k * 3 + 2, none⟩ = some (.string l'[k].name) := by have := b1 2 _ (by decide) rfl; rwa [← Nat.add_assoc] at this
        clear a1 b1
        have hki : (k : Int) < (n : Int) := by omega
        by_cases heq : l[k] = l'[k]
        · have HT2 := Lib.hid (take_next hk1 hk2 hT.out heq)
          rw [← heq] at y1 y2 y3
          generalize l[k].kind = kd at *
          generalize l[k].value = vl at *
          generalize l[k].name = nm at *
          have e1 : (nm.toList == nm.toList) = true := by simp
          have e2 : ((kd : Int) == (kd : Int)) = true := by simp
          have e3 : ((vl : Int) == (vl : Int)) = true := by simp
          clear heq
          go_wp2
          go_quiet (fail)
          go_wp2
          exact ⟨⟨k + 1, _, by omega, by go_num, rfl, HT2⟩, by simp [intOf]; omega⟩
        · have HNE := Lib.hid (ne_at hk1 hk2 heq)
          obtain ⟨b1, e1⟩ : ∃ b, (l[k].kind == l'[k].kind) = b := ⟨_, rfl⟩
          obtain ⟨b2, e2⟩ : ∃ b, (l[k].value == l'[k].value) = b := ⟨_, rfl⟩
          obtain ⟨b3, e3⟩ : ∃ b, (l[k].name.toList == l'[k].name.toList) = b := ⟨_, rfl⟩
          have HB3 := Lib.hid (show ¬ (b1 = true ∧ b2 = true ∧ b3 = true) from fun ⟨c1, c2, c3⟩ => heq (by
            subst c1 c2 c3
            have d1 := beq_iff_eq.1 e1
            have d2 := beq_iff_eq.1 e2
            have d3 := nm_eq.1 e3
            generalize l[k] = x at d1 d2 d3 ⊢
            generalize l'[k] = y at d1 d2 d3 ⊢
            cases x; cases y; simp_all))
          clear heq
          generalize l[k].kind = kd at *
          generalize l[k].value = vl at *
          generalize l[k].name = nm at *
          generalize l'[k].kind = kd' at *
          generalize l'[k].value = vl' at *
          generalize l'[k].name = nm' at *
          cases b1 <;> cases b2 <;> cases b3
          all_goals first
            | exact absurd ⟨rfl, rfl, rfl⟩ HB3.out
            | (go_wp2
               go_quiet (fail)
               go_wp2
               go_ret
               exact says_no2 HNE.out)
      · obtain rfl : k = n := by omega
        have HT2 := Lib.hid (take_all HN.out HN'.out hT.out)
        go_wp2
        go_ret
        exact says_yes HT2.out
  · have HNE := Lib.hid (show ¬ l = l' from fun e => hnm (by rw [← HN.out, ← HN'.out, e]))
    have hneq : ((n : Int) != (n' : Int)) = true := by simp; omega
    go_enter Try.func19, Try.ntmps19
    go_wp2
    go_ret
    exact says_no (k := 0) HNE.out
set_option maxRecDepth 100000 in
set_option maxHeartbeats 1000000 in
theorem exprs_dec {l l' : List (List TmZ)} (ha : ExsR la (wC w) v l) (hb : ExsR lb (wC w) v' l') : Calls Try.prog 18 #[v, v'] w (Says (l = l') w) := by
  obtain ⟨q, c, rfl, _, hmax, _, ha, _⟩ := ha.at (by decide) ex_len
  obtain ⟨q', c', rfl, _, hmax', _, hb, _⟩ := hb.at (by decide) ex_len
  obtain ⟨n, hnn⟩ : ∃ n, l.length = n := ⟨_, rfl⟩
  obtain ⟨n', hnn'⟩ : ∃ n, l'.length = n := ⟨_, rfl⟩
  have HA := Lib.hid ha
  have HB := Lib.hid hb
  have HN := Lib.hid hnn
  have HN' := Lib.hid hnn'
  rw [hnn] at hmax ⊢
  rw [hnn'] at hmax' ⊢
  clear ha hb hnn hnn'
  by_cases hnm : n = n'
  · subst hnm
    have hneq : ((n : Int) != (n : Int)) = false := by simp
    go_enter Try.func18, Try.ntmps18
    go_wp2
    go_loopw [5] (fun i wr => ∃ k nq : Nat, k ≤ n ∧ i = .int .i64 k ∧ wr = w.drewN nq ∧ Hid (l.take k = l'.take k)) (fun i _ => n - (intOf i).toNat)
    case atStart => exact ⟨0, 0, Nat.zero_le _, rfl, rfl, Lib.hid rfl⟩
    case round =>
      obtain ⟨k, nq, hk, rfl, rfl, hT⟩ := hrel
      by_cases hlt : k < n
      · have hk1 : k < l.length := by rw [HN.out]; exact hlt
        have hk2 : k < l'.length := by rw [HN'.out]; exact hlt
        obtain ⟨g, o, e, rfl, ⟨u, rfl, hu⟩, a1⟩ := HA.out k hk1
        obtain ⟨g', o', e', rfl, ⟨u', rfl, hu'⟩, b1⟩ := HB.out k hk2
        obtain ⟨W, hW⟩ : ∃ W, w.drewN nq = W := ⟨_, rfl⟩
        have a1 : W.cell? ⟨g, o + k, none⟩ = some u := by have := a1 0 _ (by decide) rfl; rw [Nat.mul_one, Nat.add_zero] at this; rw [← hW]; exact this
        have b1 : W.cell? ⟨g', o' + k, none⟩ = some u' := by have := b1 0 _ (by decide) rfl; rw [Nat.mul_one, Nat.add_zero] at this; rw [← hW]; exact this
        have HT := Lib.hid (fun j => terms_dec (w := W.drewN j) (v := u) (v' := u') (l := l[k]) (l' := l'[k]) (by rw [← hW]; exact hu) (by rw [← hW]; exact hu'))
        rw [hW]
        have HWW := Lib.hid hW
        have hki : (k : Int) < (n : Int) := by omega
        clear hW hu hu'
        go_wp2
        obtain ⟨tb, HTB⟩ : ∃ tb : Bool, Hid (tb = true ↔ l[k] = l'[k]) := ⟨decide (tb' l[k] l'[k]), Lib.hid (by rw [decide_eq_true_iff]; exact Iff.rfl)⟩
        have HT3 := Lib.hid (fun j => (HT.out j).mono (fun e w' (h : Says (l[k] = l'[k]) (W.drewN j) e w') => says_dec HTB.out h))
        go_quiet ((go_at_call 19; exact Calls.quiet_of (HT3.out _)))
        cases tb
        · have HNE := Lib.hid (ne_at hk1 hk2 (fun e => by have := HTB.out.2 e; cases this))
          go_wp2
          go_ret
          rw [← HWW.out]
          exact says_no2 HNE.out
        · have HT2 := Lib.hid (take_next hk1 hk2 hT.out (HTB.out.1 rfl))
          go_wp2
          exact ⟨⟨k + 1, _, by omega, by go_num, by rw [← HWW.out, World.drewN_drewN], HT2⟩, by simp [intOf]; omega⟩
      · obtain rfl : k = n := by omega
        have HT2 := Lib.hid (take_all HN.out HN'.out hT.out)
        go_wp2
        go_ret
        exact says_yes HT2.out
  · have HNE := Lib.hid (show ¬ l = l' from fun e => hnm (by rw [← HN.out, ← HN'.out, e]))
    have hneq : ((n : Int) != (n' : Int)) = true := by simp; omega
    go_enter Try.func18, Try.ntmps18
    go_wp2
    go_ret
    exact says_no (k := 0) HNE.out
end
end Go.Proofs.Ytnmcjkabihihiaa
