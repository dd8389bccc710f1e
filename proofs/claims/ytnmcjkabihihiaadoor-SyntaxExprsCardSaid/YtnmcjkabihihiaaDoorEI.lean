/- Expressions of the parser: within, at each depth, and expr. -/
import Derived.Test.YtnmcjkabihihiaaDoorEH
namespace Go.Proofs.YtnmcjkabihihiaaDoor
open Go Go.RowKit Go.Proofs.Mm

section
variable {ys : List It} {len bp bw i : Nat} {vp : Value} {w : World}
theorem level_all (hw : Ws ys) {b1 b2 d : Nat} {u : Nat → Syn.R (List Syn.Tm)} (hcnt : Syn.Cnt u) (hfit : Syn.FitP ys.length u)
    (hR : RdT ys len bp bw vp 25 (fun v => #[v, .pointer (some ⟨b1, 0, none⟩), .pointer (some ⟨b2, 0, none⟩)]) (BX b1 b2 bp d) u) :
    ∀ (k l : Nat), l + k = 6 → RdT ys len bp bw vp 24 (fun v => #[.pointer (some ⟨bp, 0, none⟩), .int .i64 (l : Int), v, .func (.func 25) #[] #[.pointer (some ⟨b1, 0, none⟩), .pointer (some ⟨b2, 0, none⟩)]]) (BX b1 b2 bp d) (Syn.tower (Tk ys) (ys.length + 1) u k)
  | 0, l, h => by
    obtain rfl : l = 6 := by omega
    exact level_six hR
  | k + 1, l, h => by
    have hk := level_all hw hcnt hfit hR k (l + 1) (by omega)
    have hl : 5 - k = l := by omega
    have := level_next (len := len) (bp := bp) (bw := bw) (vp := vp) hw (b1 := b1) (b2 := b2) (d := d) (Syn.tower_cnt hcnt k) (Syn.tower_fit (tk_nones ys) (by omega) hfit k) l (by omega) hk
    intro w i v l0 hx h hr hb
    have h2 := this w i v l0 hx h hr hb
    rw [Syn.tower, hl]
    exact h2
set_option maxRecDepth 100000 in
theorem within_any (hw : Ws ys) {d : Nat} {e : Option (Nat → Syn.R (List Syn.Tm))} (he : EOk ys len bp bw vp d e) (hg : ∀ p, e = some p → Syn.Good p) :
    RdT ys len bp bw vp 17 (fun v => #[.pointer (some ⟨bp, 0, none⟩), v, .int .i64 (d : Int)]) (fun _ => True) (Syn.tower (Tk ys) (ys.length + 1) (Syn.unary (Tk ys) (ys.length + 1) e) 6) := by
  intro w i v l0 _ h hr hb
  obtain ⟨qv, cv, rfl⟩ := own_shape hr
  have hl6 := level_all (len := len) (bp := bp) (bw := bw) (vp := vp) hw (b1 := w.heap.size) (b2 := w.heap.size + 1) (d := d) (Syn.unary_cnt he.cnt) (Syn.unary_fit (tk_nones ys) (by omega) he.fit hg) (within1_any (unary_any hw he)) 6 0 rfl
  have hbx : BX w.heap.size (w.heap.size + 1) bp d ((w.alloc (.cells #[.pointer (some ⟨bp, 0, none⟩)] 33)).alloc (.cells #[.int .i64 (d : Int)] 3)) :=
    ⟨heap_new _ _ (World.alloc_heap_new w _), by have := World.alloc_heap_new (w.alloc (.cells #[.pointer (some ⟨bp, 0, none⟩)] 33)) (.cells #[.int .i64 (d : Int)] 3); rwa [World.size_alloc] at this⟩
  have hcall := hl6 _ i _ l0 hbx ((h.alloc _).alloc _) ((hr.alloc _).alloc _) hb
  have hC0 : Chg (TS bp (.slice qv l0.length cv)) w ((w.alloc (.cells #[.pointer (some ⟨bp, 0, none⟩)] 33)).alloc (.cells #[.int .i64 (d : Int)] 3)) := ((Chg.refl _ w).alloc _).alloc _
  have hsz := hC0.size
  have hmf : ∀ (fn : Fn) (first cap : Array Value) (w : World), (Instr.makeFunc fn first cap).run Tryd.prog w = .ok (.func fn first cap) w := fun _ _ _ _ => rfl
  obtain ⟨RR, hRR⟩ : ∃ RR, Syn.tower (Tk ys) (ys.length + 1) (Syn.unary (Tk ys) (ys.length + 1) e) 6 i = RR := ⟨_, rfl⟩
  rw [hRR] at hcall ⊢
  clear hRR hl6 hbx
  cases RR with
  | error q =>
    go_enter Tryd.func17, Tryd.ntmps17
    go_wp2_with (go_at_call 24; refine hcall.mono ?_; rintro e w1 ⟨hc, rfl⟩)
    exact ⟨rfl, hC0.then hc, rfl⟩
  | ok q =>
    go_enter Tryd.func17, Tryd.ntmps17
    go_wp2_with (go_at_call 24; refine hcall.mono ?_; rintro e w1 ⟨hc, v', rfl, a1, a2, a3⟩)
    go_ret
    exact ⟨hC0.then hc, v', rfl, a1, a2, fun k hk => by rcases a3 k hk with q | q <;> first | exact .inl q | exact .inr (by omega)⟩

theorem within_all (hw : Ws ys) : ∀ d, d ≤ 12 → RdT ys len bp bw vp 17 (fun v => #[.pointer (some ⟨bp, 0, none⟩), v, .int .i64 ((12 - d : Nat) : Int)]) (fun _ => True) (Syn.exprD (Tk ys) (ys.length + 1) d)
  | 0, _ => within_any hw (.inl ⟨rfl, rfl⟩) (fun p h => by cases h)
  | d + 1, h => by
    refine within_any hw (d := 12 - (d + 1)) (e := some (Syn.exprD (Tk ys) (ys.length + 1) d)) (.inr ⟨by omega, _, rfl, Syn.expr_cnt d, Syn.expr_fit (tk_nones ys) (by omega) d, ?_⟩) (fun p h => by cases h; exact Syn.expr_good d)
    have := within_all hw d (by omega)
    rw [show (((12 - (d + 1) : Nat) : Int) + 1) = ((12 - d : Nat) : Int) by omega]
    exact this
set_option maxRecDepth 100000 in
/-- **expr.** -/
theorem expr_any (hw : Ws ys) (h : PS ys len bp bw vp w i) :
    Calls Tryd.prog 8 #[.pointer (some ⟨bp, 0, none⟩)] w (Ret ys len (fun k => k = bp) w (Syn.expr (Tk ys) (ys.length + 1) i) fun l j e w' => ∃ v', e = .returned v' ∧ TR w' v' l ∧ PS ys len bp bw vp w' j ∧ ∀ k, v'.ownBlock = some k → w.heap.size ≤ k) := by
  have hf := h.few
  have hcall := within_all (len := len) (bp := bp) (bw := bw) (vp := vp) hw 12 (Nat.le_refl _) w i (.slice none 0 0) [] trivial h (World.ownsRow_nil _ _ _ _) (by simp; omega)
  rw [show ((12 - 12 : Nat) : Int) = 0 from rfl] at hcall
  have hTS : ∀ {a b : World}, Chg (TS bp (.slice none 0 0)) a b → Chg (fun k => k = bp) a b := fun hc => hc.mono (fun k e => by rcases e with e | e; exact .inl e; cases e)
  unfold Syn.expr
  obtain ⟨RR, hRR⟩ : ∃ RR, Syn.exprD (Tk ys) (ys.length + 1) 12 i = RR := ⟨_, rfl⟩
  rw [hRR] at hcall ⊢
  clear hRR
  cases RR with
  | error q =>
    go_enter Tryd.func8, Tryd.ntmps8
    go_wp2_with (go_at_call 17; refine hcall.mono ?_; rintro e w1 ⟨hc, rfl⟩)
    exact ⟨rfl, hTS hc, rfl⟩
  | ok q =>
    go_enter Tryd.func8, Tryd.ntmps8
    go_wp2_with (go_at_call 17; refine hcall.mono ?_; rintro e w1 ⟨hc, v', rfl, a1, a2, a3⟩)
    go_ret
    exact ⟨hTS hc, v', rfl, a1, a2, fun k hk => by rcases a3 k hk with q | q; cases q; exact q⟩
end
end Go.Proofs.YtnmcjkabihihiaaDoor
