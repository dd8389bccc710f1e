/- The kit's kept labels and code: what was lent out reads as it did. -/
import Derived.Test.YthgcnlccikpmaaaCoLa
import Derived.Test.YthgcnlccikpmaaaCoEq
import Derived.BigQuiet
namespace Go.Proofs.Ythgcnlccikpmaaa
open Go Go.RowKit Go.Proofs.Mm

def Yes (w : World) (e : Ending) (w' : World) : Prop := e = .returned (.bool true) ∧ ∃ k, w' = w.drewN k
section
variable {lt : Bool} {C : Cl} {q : Option Addr} {n c : Nat}
def LaAt (C : Cl) (q : Option Addr) (l : List Int) : Prop := ∀ j (hj : j < l.length), ∃ g o, q = some ⟨g, o, none⟩ ∧ C ⟨g, o + j, none⟩ = some (.int .u64 l[j])
def InAt (C : Cl) (q : Option Addr) (l : List (Int × Int)) : Prop := ∀ j (hj : j < l.length), ∃ g o, q = some ⟨g, o, none⟩ ∧ C ⟨g, o + j * 2, none⟩ = some (.int .i64 l[j].1) ∧ C ⟨g, o + j * 2 + 1, none⟩ = some (.int .i64 l[j].2)
def ArAt (C : Cl) (q : Option Addr) (l : List (Int × Int)) : Prop := ∀ j (hj : j < l.length), ∃ g o, q = some ⟨g, o, none⟩ ∧ C ⟨g, o + j * 2, none⟩ = some (.int .i64 l[j].1) ∧ C ⟨g, o + j * 2 + 1, none⟩ = some (.int .u64 l[j].2)
theorem LasR.cells {l : List Int} (h : LasR lt C (.slice q n c) l) : LaAt C q l := by
  intro j hj
  obtain ⟨g, o, e, h1, rfl, h3⟩ := slx_at (size := 1) h (by decide) la_len j hj
  refine ⟨g, o, h1, ?_⟩
  have := h3 0 _ (by decide) rfl
  simpa using this
theorem CdR.cells {l : List (Int × Int)} (h : CdR lt C (.slice q n c) l) : InAt C q l := by
  intro j hj
  obtain ⟨g, o, e, h1, rfl, h3⟩ := slx_at (size := 2) h (by decide) in_len j hj
  exact ⟨g, o, h1, h3 0 _ (by decide) rfl, h3 1 _ (by decide) rfl⟩
theorem ArsR.cells {l : List (Int × Int)} (h : ArsR lt C (.slice q n c) l) : ArAt C q l := by
  intro j hj
  obtain ⟨g, o, e, h1, rfl, h3⟩ := slx_at (size := 2) h (by decide) ar_len j hj
  exact ⟨g, o, h1, h3 0 _ (by decide) rfl, h3 1 _ (by decide) rfl⟩
/-- The mark behind a row. -/
theorem slx_mark {α : Type} {mk : List Value} {bs : Nat} {R : List Value → α → Prop} {l : List α} {size : Nat} (h : SlX mk (bs + 1) C R (.slice q n c) l) (hs : 0 < size) (hR : ∀ c x, R c x → c.length = size) (hmk : mk ≠ []) :
    n = l.length ∧ n + 1 ≤ c ∧ c ≤ maxLen ∧ ∃ g o, q = some ⟨g, o, none⟩ ∧ ∀ r u, mk[r]? = some u → C ⟨g, o + n * size + r, none⟩ = some u := by
  obtain ⟨q', c', e1, h2, _, h4, _, h6⟩ := h.at hs hR
  injection e1 with e1 e2 e3
  subst e1 e2 e3
  obtain ⟨g, o, hq, hm⟩ := h6.resolve_left hmk
  exact ⟨rfl, h2.resolve_left hmk, h4, g, o, hq, fun r u hu => by rw [Nat.add_assoc]; exact hm r u hu⟩
end
set_option maxRecDepth 100000 in
set_option maxHeartbeats 1000000 in
theorem labels_same {w : World} {q q' : Option Addr} {c c' : Nat} (l : List Int) (ha : LaAt (wC w) q l) (hb : LaAt (wC w) q' l) (hmax : l.length ≤ 9223372036854775807) :
    Calls Try.prog 42 #[.slice q l.length c, .slice q' l.length c'] w (Yes w) := by
  obtain ⟨n, hn⟩ : ∃ n, l.length = n := ⟨_, rfl⟩
  have HN := Lib.hid hn
  have HA := Lib.hid ha
  have HB := Lib.hid hb
  rw [hn] at hmax ⊢
  have hneq : ((n : Int) != (n : Int)) = false := by simp
  clear ha hb hn
  go_enter Try.func42, Try.ntmps42
  go_wp2
  go_loopw [5] (fun i wr => ∃ k nq : Nat, k ≤ n ∧ i = .int .i64 k ∧ wr = w.drewN nq) (fun i _ => n - (intOf i).toNat)
  case atStart => exact ⟨0, 0, Nat.zero_le _, rfl, rfl⟩
  case round =>
    obtain ⟨k, nq, hk, rfl, rfl⟩ := hrel
    by_cases hlt : k < n
    · have hk' : k < l.length := by rw [HN.out]; exact hlt
      obtain ⟨g, o, rfl, a1⟩ := HA.out k hk'
      obtain ⟨g', o', rfl, b1⟩ := HB.out k hk'
      have x1 : w.cell? ⟨g, o + k, none⟩ = some (.int .u64 l[k]) := a1
      have y1 : w.cell? ⟨g', o' + k, none⟩ = some (.int .u64 l[k]) := b1
      clear a1 b1
      generalize l[k] = lb at *
      have hki : (k : Int) < (n : Int) := by omega
      have e2 : (lb == lb) = true := by simp
      have e3 : (lb != lb) = false := by simp
      go_wp2
      go_quiet (fail)
      go_wp2
      exact ⟨⟨k + 1, _, by omega, by go_num, rfl⟩, by simp [intOf]; omega⟩
    · go_wp2
      go_ret
      exact ⟨rfl, _, rfl⟩
set_option maxRecDepth 100000 in
set_option maxHeartbeats 1000000 in
theorem code_same {w : World} {q q' : Option Addr} {c c' : Nat} (l : List (Int × Int)) (ha : InAt (wC w) q l) (hb : InAt (wC w) q' l) (hmax : l.length ≤ 9223372036854775807) :
    Calls Try.prog 43 #[.slice q l.length c, .slice q' l.length c'] w (Yes w) := by
  obtain ⟨n, hn⟩ : ∃ n, l.length = n := ⟨_, rfl⟩
  have HN := Lib.hid hn
  have HA := Lib.hid ha
  have HB := Lib.hid hb
  rw [hn] at hmax ⊢
  have hneq : ((n : Int) != (n : Int)) = false := by simp
  clear ha hb hn
  go_enter Try.func43, Try.ntmps43
  go_wp2
  go_loopw [5] (fun i wr => ∃ k nq : Nat, k ≤ n ∧ i = .int .i64 k ∧ wr = w.drewN nq) (fun i _ => n - (intOf i).toNat)
  case atStart => exact ⟨0, 0, Nat.zero_le _, rfl, rfl⟩
  case round =>
    obtain ⟨k, nq, hk, rfl, rfl⟩ := hrel
    by_cases hlt : k < n
    · have hk' : k < l.length := by rw [HN.out]; exact hlt
      obtain ⟨g, o, rfl, a1, a2⟩ := HA.out k hk'
      obtain ⟨g', o', rfl, b1, b2⟩ := HB.out k hk'
      have x1 : w.cell? ⟨g, o + k * 2, none⟩ = some (.int .i64 l[k].1) := a1
      have x2 : w.cell? ⟨g, o + k * 2 + 1, none⟩ = some (.int .i64 l[k].2) := a2
      have y1 : w.cell? ⟨g', o' + k * 2, none⟩ = some (.int .i64 l[k].1) := b1
      have y2 : w.cell? ⟨g', o' + k * 2 + 1, none⟩ = some (.int .i64 l[k].2) := b2
      clear a1 b1 a2 b2
      generalize l[k].1 = z1 at *
      generalize l[k].2 = z2 at *
      have hki : (k : Int) < (n : Int) := by omega
      have hne : ∀ W, (binOp .neq 46 (.agg #[.int .i64 z1, .int .i64 z2]) (.agg #[.int .i64 z1, .int .i64 z2])).run Try.prog W = .ok (.bool false) W := fun W => by rw [neIns']; simp
      go_wp2
      go_quiet (fail)
      go_wp2
      exact ⟨⟨k + 1, _, by omega, by go_num, rfl⟩, by simp [intOf]; omega⟩
    · go_wp2
      go_ret
      exact ⟨rfl, _, rfl⟩
set_option maxRecDepth 100000 in
set_option maxHeartbeats 1000000 in
theorem keptLabels_true {w : World} {v v' : Value} {l : List Int} (ha : LasR true (wC w) v l) (hb : LasR false (wC w) v' l) : Calls Try.prog 35 #[v, v'] w (Yes w) := by
  obtain ⟨qa, ca, rfl⟩ := slx_shape ha
  obtain ⟨qb, cb, rfl⟩ := slx_shape hb
  have hm := slx_max ha
  unfold maxLen at hm
  have HD := Lib.hid (labels_same (c := ca) (c' := cb) l ha.cells hb.cells (by omega))
  obtain ⟨_, hc, hmx, g, o, rfl, hmk⟩ := slx_mark (size := 1) ha (by decide) la_len (by simp [mkL])
  generalize l.length = n at hc hmk HD ⊢
  unfold maxLen at hmx
  have hx : w.cell? ⟨g, o + n, none⟩ = some (.int .u64 7171) := by have := hmk 0 _ rfl; simpa [wC] using this
  have hi : (n : Int) < (n : Int) + 1 := by omega
  have hcc : (n : Int) + 1 ≤ (ca : Int) := by omega
  clear ha hb hmk hm
  go_enter Try.func35, Try.ntmps35
  go_wp2_with (go_at_call 42; refine HD.out.mono ?_; rintro e w2 ⟨rfl, k, rfl⟩)
  go_ret
  exact ⟨rfl, _, rfl⟩
set_option maxRecDepth 100000 in
set_option maxHeartbeats 1000000 in
theorem keptCode_true {w : World} {v v' : Value} {l : List (Int × Int)} (ha : CdR true (wC w) v l) (hb : CdR false (wC w) v' l) : Calls Try.prog 36 #[v, v'] w (Yes w) := by
  obtain ⟨qa, ca, rfl⟩ := slx_shape ha
  obtain ⟨qb, cb, rfl⟩ := slx_shape hb
  have hm := slx_max ha
  unfold maxLen at hm
  have HD := Lib.hid (code_same (c := ca) (c' := cb) l ha.cells hb.cells (by omega))
  obtain ⟨_, hc, hmx, g, o, rfl, hmk⟩ := slx_mark (size := 2) ha (by decide) in_len (by simp [mkI])
  generalize l.length = n at hc hmk HD ⊢
  unfold maxLen at hmx
  have hx : w.cell? ⟨g, o + n * 2, none⟩ = some (.int .i64 (-71)) := hmk 0 _ rfl
  have hx2 : w.cell? ⟨g, o + n * 2 + 1, none⟩ = some (.int .i64 0) := hmk 1 _ rfl
  have hi : (n : Int) < (n : Int) + 1 := by omega
  have hcc : (n : Int) + 1 ≤ (ca : Int) := by omega
  have heq : ∀ W, (binOp .eql 46 (.agg #[.int .i64 (-71), .int .i64 0]) (.agg #[.int .i64 (-71), .int .i64 0])).run Try.prog W = .ok (.bool true) W := fun W => by rw [eqIns']; simp
  clear ha hb hmk hm
  go_enter Try.func36, Try.ntmps36
  go_wp2_with (go_at_call 43; refine HD.out.mono ?_; rintro e w2 ⟨rfl, k, rfl⟩)
  go_ret
  exact ⟨rfl, _, rfl⟩
end Go.Proofs.Ythgcnlccikpmaaa
