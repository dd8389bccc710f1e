/- Package lex's Each: the sequence that it answers, for every text and every memory in which the library's error lies. -/
import Derived.Test.YtghgaelbjcggcaaDoorW
namespace Go.Proofs.YtghgaelbjcggcaaDoor
open Go Go.RowKit

attribute [local go_sem] Oper.semAt_some

theorem clone_any (s : ByteArray) (hs : s.size ≤ 281474976710656) (w : World) : Calls Tryd.prog 23 #[.string s] w fun e w' => e = .returned (.string s) ∧ Below w.heap.size w w' := by
  have hc := Lib.hid (fun W => Tryd.stringslite_Clone s W hs)
  go_enter Tryd.func23, Tryd.ntmps23
  go_wp2_with (go_at_call 34; refine (hc.out _).mono ?_; rintro e w1 ⟨rfl, hb⟩)
  go_ret
  exact ⟨rfl, hb⟩

theorem each_long (s : ByteArray) (hs : 65536 < s.size) (w : World) : Calls Tryd.prog 8 #[.string s] w fun e w' => e = .returned (.func (.func 22) #[] #[]) ∧ w = w' := by
  go_enter Tryd.func8, Tryd.ntmps8
  go_wp2
  go_ret
  exact ⟨rfl, rfl⟩

theorem each_ok (s : ByteArray) (hs : s.size ≤ 65536) (w : World) :
    Calls Tryd.prog 8 #[.string s] w fun e w' => ∃ b, e = .returned (.func (.func 24) #[] #[.pointer (some ⟨b, 0, none⟩)]) ∧ w'.cell? ⟨b, 0, none⟩ = some (.string s) ∧ w.heap.size ≤ b ∧ b < w'.heap.size ∧ Below w.heap.size w w' := by
  have hc := Lib.hid (fun W => clone_any s (by omega) W)
  go_enter Tryd.func8, Tryd.ntmps8
  go_wp2_with (go_at_call 23; refine (hc.out _).mono ?_; rintro e w1 ⟨rfl, hb⟩)
  go_ret
  exact ⟨w1.heap.size, rfl, by simp [go_sem], hb.size, by simp, hb.alloc hb.size _⟩

/-- What Each of a text tells. -/
def allItems (s : ByteArray) : List (Tok × Nat) := if 65536 < s.size then [(⟨0, [], 0, 0⟩, 3)] else itemsOf (scanL (bl s) 0)

set_option maxRecDepth 100000 in
theorem stops24 (n n₀ n₁ B5 Bo : Nat) (s : ByteArray) (hs : s.size ≤ 65536) (hn₀ : 1 < n₀) (w : World) (hn0 : n₀ ≤ w.heap.size) (hn1 : n₁ ≤ w.heap.size) (hBo : Bo < w.heap.size) (hB : w.cell? ⟨Bo, 0, none⟩ = some (.string s)) (hE : Env w) (hpt : PtOk B5 w) (hB5 : B5 < w.heap.size) :
    SeqStopsK Fence.wide n Tryd.prog 24 #[.pointer (some ⟨Bo, 0, none⟩)] It.enc (Keep n₀ n₁ B5) (fun ys => ys.map It.key = allItems s) (fun pre => pre.map It.key <+: allItems s) (allItems s).length w := by
  intro l J Jx W hW hJ _ hY h0
  have hall : allItems s = itemsOf (scanL (bl s) 0) := if_neg (by omega)
  rw [hall] at hY ⊢
  have hcell := (hW.cell (p := ⟨Bo, 0, none⟩) hBo).trans hB
  have hcall := Lib.hid (fun m => walk_iw m (n - 1) l n₀ n₁ B5 s hs hn₀ J Jx W hJ hY (hE.below hW hE.lt) (hpt.grow hB5 hW) (Nat.lt_of_lt_of_le hB5 hW.size) (Nat.le_trans hn0 hW.size) (Nat.le_trans hn1 hW.size) h0)
  clear hY hJ hall hn0 hn1 hBo hB hE hpt hB5 hW
  refine callsIn_of_wp Tryd.func24 rfl trivial ?_ rfl
  simp only [Tryd.ntmps24, List.size_toArray, List.length_cons, List.length_nil, Nat.reduceAdd, Nat.reduceSub, Array.replicate_succ, Array.replicate_zero, List.push_toArray, List.append_toArray, List.nil_append, List.cons_append]
  gi_wp2
  refine ⟨trivial, (fun h => by cases h), (hcall.out _).mono ?_⟩
  rintro e W' ⟨⟨v, rfl⟩, hh⟩
  have HH := Lib.hid hh
  clear hh
  gi_wp2
  go_end0
  exact ⟨⟨_, rfl⟩, HH.out⟩

set_option maxRecDepth 100000 in
theorem stops22 (n n₀ n₁ B5 : Nat) (s : ByteArray) (hs : 65536 < s.size) (w : World) :
    SeqStopsK Fence.wide n Tryd.prog 22 #[] It.enc (Keep n₀ n₁ B5) (fun ys => ys.map It.key = allItems s) (fun pre => pre.map It.key <+: allItems s) (allItems s).length w := by
  intro l J Jx W hW hJ _ hY h0
  have hall : allItems s = [(⟨0, [], 0, 0⟩, 3)] := if_pos hs
  rw [hall] at hY ⊢
  obtain ⟨fn, tmps, assign, body, hy, hR⟩ := hY [] ⟨0, ⟨#[]⟩, 0, 0, 3⟩ W h0 (by simp)
  have hy' : (Instr.yield l #[tokV 0 ⟨#[]⟩ 0 0, .int .i64 3]).run Tryd.prog W = .ok (.round l fn tmps assign body) W := hy
  clear hy hY hJ hall hs hW h0
  refine callsIn_of_wp Tryd.func22 rfl trivial ?_ rfl
  simp only [Tryd.ntmps22, List.size_toArray, List.length_cons, List.length_nil, Nat.reduceAdd, Nat.reduceSub, Array.replicate_succ, Array.replicate_zero, List.push_toArray, List.append_toArray, List.nil_append, List.cons_append]
  gi_wp2
  refine ⟨(fun h => by cases h), hR.mono ?_⟩
  rintro e W3 (⟨rfl, hJ3, _⟩ | ⟨rfl, hJx3⟩)
  · gi_wp2
    go_end0
    exact ⟨⟨_, rfl⟩, .inl ⟨_, rfl, hJ3⟩⟩
  · gi_wp2
    go_end0
    exact ⟨⟨_, rfl⟩, .inr ⟨_, List.prefix_rfl, hJx3⟩⟩
end Go.Proofs.YtghgaelbjcggcaaDoor
