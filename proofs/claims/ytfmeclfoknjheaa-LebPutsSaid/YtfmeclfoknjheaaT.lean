/- times and wrong of the statements, in every memory. -/
import Derived.Test.YtfmeclfoknjheaaI
namespace Go.Proofs.Ytfmeclfoknjheaa
open Go Go.RowKit

/-- An append of bytes that came in, nil or not. -/
theorem wpList_bytes_two {ops : Array Oper} {rest : List Oper} {o : Oper} {a : Act} {Q : Exit → Act → World → Prop} {w : World} (hgd : o.guard = none) (s x : Operand)
    (ho : o.op = .call { callee := .builtin .append, args := #[s, x], argTypes := #[22, 22] })
    (B : Nat) (v : Value) (l : List Nat) (hs : a.eval s = v) (hown : OwnB B w v l)
    (p : Option Addr) (m c : Nat) (news : List Nat) (hm : news.length = m) (hx : a.eval x = .slice p m c) (hp : (p = none ∧ news = [] ∧ c = 0) ∨ ∃ ad, p = some ad) (N : Nat) (hin : ByIn N w p news)
    (hb : l.length + news.length ≤ 140737488355328) (hbase : B ≤ w.heap.size)
    (h : ∀ v' w', OwnB B w' v' (l ++ news) → Below B w w' → wpList Try.prog ops Q rest (a.put o.dst v') w') : wpList Try.prog ops Q (o :: rest) a w := by
  subst hm
  rcases hp with ⟨rfl, rfl, rfl⟩ | ⟨ad, rfl⟩
  · obtain ⟨i, h2, _, _, _⟩ := info5
    have hr := run_append_owned_none (P := Try.prog) w B 22 o.type 5 i 1 Try.underlying22 h2 v l.length (bv l) hown
    refine wpList_plain hgd fun K hK => ?_
    unfold Oper.wp execOp
    simp only [ho, resolve, invoke, builtin, Sem.run_bind, Sem.run_pure, Result.andThen_ok, List.map_toArray, List.map_cons, List.map_nil, hs, hx, List.length_nil, hr]
    exact hK _ _ (h v w (by rw [List.append_nil]; exact hown) (Below.refl _ _))
  · refine wpList_bytes hgd s x ho B v l hs hown ad c news hx (by_cells hin) hb hbase fun v' w' h1 h2 _ => h v' w' h1 (below_own h2 hbase (fun j hj => (hown.lt j hj).1))


set_option maxRecDepth 100000 in
set_option maxHeartbeats 1000000 in
theorem times_any (k x : Nat) (hk : k ≤ 100) (p : Option Addr) (c : Nat) (ms : List Nat) (hp : (p = none ∧ ms = [] ∧ c = 0) ∨ ∃ ad, p = some ad) (hm : ms.length ≤ 100) (w : World) (hs : ByIn w.heap.size w p ms) :
    Calls Try.prog 34 #[.int .i64 (k : Int), .int .u8 (x : Int), .slice p ms.length c] w fun e w' => ∃ v, e = .returned v ∧ OwnB w.heap.size w' v (List.replicate k x ++ ms) ∧ Below w.heap.size w w' := by
  obtain ⟨N, hN⟩ : ∃ N, ms.length = N := ⟨_, rfl⟩
  have HN := Lib.hid hN
  rw [hN] at hm ⊢
  clear hN
  go_enter Try.func34, Try.ntmps34
  go_wp2
  go_loopw [7, 8] (fun b i wr => ∃ j : Nat, j ≤ k ∧ i = .int .i64 j ∧ OwnB w.heap.size wr b (List.replicate j x) ∧ Below w.heap.size w wr) (fun _ i _ => k - (intOf i).toNat)
  case atStart => exact ⟨0, Nat.zero_le _, rfl, World.ownsRow_nil _ _ _ _, Below.refl _ _⟩
  case round =>
    obtain ⟨j, hj, rfl, hO, hB⟩ := hrel
    obtain ⟨q, d, rfl⟩ := hO.slice
    have HL := Lib.hid (show (List.replicate j x).length = j from List.length_replicate)
    by_cases hlt : j < k
    · have hji : (j : Int) < (k : Int) := by omega
      have hnext : List.replicate (j + 1) x = List.replicate j x ++ [x] := List.replicate_succ'
      generalize List.replicate j x = m at hO hnext HL ⊢
      have hA := hO.alloc (.cells #[.int .u8 (x : Int)] 5)
      have hBA : Below w.heap.size wr (wr.alloc (.cells #[.int .u8 (x : Int)] 5)) := (Below.refl _ _).alloc hB.size _
      clear hO
      go_wp2_with (at_builtin; refine wpList_bytes rfl _ _ rfl w.heap.size _ m rfl hA ⟨_, 0, none⟩ 1 [x] rfl (one_cells _ _) (by have := HL.out; simp; omega) (by have := hB.size; simp; omega) ?_)
      intro v2 w2 hO2 hgr _
      have hB2 : Below w.heap.size w w2 := hB.trans (hBA.trans (below_own hgr (by have := hB.size; simp; omega) (fun t ht => (hA.lt t ht).1)))
      rw [← hnext] at hO2
      have HO := Lib.hid (And.intro hO2 hB2)
      clear hO2 hB2 hA hBA hgr hnext hB
      go_wp2
      exact ⟨⟨j + 1, by omega, by go_num, HO.out⟩, by simp [intOf]; omega⟩
    · have hji : ¬ (j : Int) < (k : Int) := by omega
      obtain rfl : j = k := by omega
      obtain ⟨m, hmr⟩ : ∃ m, List.replicate j x = m := ⟨_, rfl⟩
      have HMR := Lib.hid hmr
      rw [hmr] at hO HL ⊢
      clear hmr
      go_wp2_with (at_builtin; refine wpList_bytes_two rfl _ _ rfl w.heap.size _ m rfl hO p N c ms HN.out rfl hp w.heap.size (hs.below hB (Nat.le_refl _) (Nat.le_refl _)) (by have := HL.out; have := HN.out; omega) hB.size ?_)
      intro v2 w2 hO2 hB2
      have HO := Lib.hid (And.intro hO2 (hB.trans hB2))
      clear hO2 hB2 hO hB
      go_wp2
      go_ret
      exact ⟨v2, rfl, by rw [HMR.out]; exact HO.out.1, HO.out.2⟩

set_option maxRecDepth 100000 in
theorem wrong_any (p : Option Addr) (c : Nat) (xs : List Nat) (f : Nat) (hf : f = 30 ∨ f = 31) (hg : getU xs = (0, 0, f)) (hx : bytesL xs) (hl : xs.length ≤ c) (hm : c ≤ maxLen) (w : World) (hp : ByIn w.heap.size w p xs) :
    Calls Try.prog 36 #[.slice p xs.length c] w fun e w' => e = .returned (.int .i64 (f : Int)) ∧ Below w.heap.size w w' := by
  have H := Lib.hid (Get_any p c xs hx hl hm w hp)
  rw [hg] at H
  clear hg hp hx hl hm
  generalize xs.length = n at H ⊢
  rcases hf with rfl | rfl
  all_goals
    go_enter Try.func36, Try.ntmps36
    go_wp2_with fail
    refine H.out.mono ?_
    rintro e w1 ⟨rfl, hB⟩
    clear H
    go_wp2
    go_ret
    exact ⟨rfl, hB⟩
end Go.Proofs.Ytfmeclfoknjheaa
