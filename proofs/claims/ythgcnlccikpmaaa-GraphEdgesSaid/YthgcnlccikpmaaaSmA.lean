/- What rows, modules and memory want in a seat without package code: facts that hold over any program. -/
import Derived.Test.YthgcnlccikpmaaaRows
import Derived.Test.YthgcnlccikpmaaaChecked
import Derived.Test.YthgcnlccikpmaaaIA
import Derived.OwnWalk
import Derived.Laws.AppendOwn
import Derived.Laws.AppendOwnNone
import Derived.Laws.OwnMore
import Derived.ArgAppend
import Derived.Below
import Derived.Lib.Hide
import Derived.Lib.QuietBelow
import Derived.Deep.RegionHeld3
import Derived.Deep.DeepCutAuto
import Derived.Deep.CutBlock
import Derived.WalkKit
import Derived.ProofKit
import Derived.OpenShut
import Derived.LaidMore
import Derived.Lay
import Derived.SizedLaws
import Derived.ChangeSlices
import Derived.Lib.LaidU8
namespace Go.Proofs.Ythgcnlccikpmaaa
open Go Go.ChangeShapes Go.WideShapes Go.ChangeAt Go.RowKit Go.Lib Go.Proofs.Mm
def intOf : Value → Int
  | .int _ n => n
  | _ => 0
theorem below_own {n : Nat} {A B : World} {r : Option Nat} (hg : A.grownBy B r) (hn : n ≤ A.heap.size) (hr : ∀ k, r = some k → n ≤ k) : Below n A B :=
  ⟨hg.os, hg.tape, hg.output, hg.size, fun k hk => hg.block k (by omega) (fun e => by have := hr k e.symm; omega)⟩
theorem row_slice {w : World} {b : Nat} {e : TypeId} {size : Nat} {v : Value} {n : Nat} {xs : List Value} (h : w.ownsRow b e size v n xs) : ∃ q c, v = .slice q n c := by
  rcases h.2 with ⟨rfl, rfl⟩ | ⟨g, cap, _, rfl, _⟩
  · exact ⟨_, _, rfl⟩
  · exact ⟨_, _, rfl⟩
theorem row_cap {W : World} {b : Nat} {e : TypeId} {size : Nat} {g n cap : Nat} {xs : List Value} (h : W.ownsRow b e size (.slice (some ⟨g, 0, none⟩) n cap) n xs) : n ≤ cap ∧ cap ≤ maxLen := by
  rcases h.2 with ⟨h0, _⟩ | ⟨g', cap', cur, h0, _, _, h1, h2, _⟩
  · simp at h0
  · simp only [Value.slice.injEq, true_and] at h0
    obtain ⟨_, rfl⟩ := h0
    exact ⟨h1, h2⟩
theorem row_form {W : World} {b : Nat} {e : TypeId} {size : Nat} {v : Value} {n : Nat} {xs : List Value} (h : W.ownsRow b e size v n xs) (hn : 0 < n) : ∃ g cap, v = .slice (some ⟨g, 0, none⟩) n cap ∧ b ≤ g := by
  rcases h.2 with ⟨_, h0⟩ | ⟨g, cap, cur, h0, hb, _⟩
  · omega
  · exact ⟨g, cap, h0, hb⟩
theorem cell_new (W : World) (v : Value) (t : TypeId) : (W.alloc (.cells #[v] t)).cell? ⟨W.heap.size, 0, none⟩ = some v ∧ (W.alloc (.cells #[v] t)).frozen? ⟨W.heap.size, 0, none⟩ = false :=
  ⟨by rw [World.cell?_alloc_new]; rfl, by rw [World.frozen?_alloc_new]⟩
theorem own : ownKnob Try.prog.godebug = none := by kernel_rfl
theorem laidOut : laidOutB Try.prog = true := by kernel_rfl
theorem trodAll_below {H : Type} {enc : TypeId × Value → H} {P : Program} (hl : laidOutB P = true) {W W' : World} (hb : Below W.heap.size W W') (ts : List TypeId) : ∀ {vs : List Value} {ds : List (DataW H)} {ps : List MemPlace},
    (∀ t ∈ ts, P.readableRec t = true ∧ t < P.types.size) → DataW.TrodAll enc P W 0 (fun _ => true) true ts vs ds ps → (∀ x ∈ ps, x.block < W.heap.size) → DataW.TrodAll enc P W' 0 (fun b => decide (b < W.heap.size)) true ts vs ds ps := by
  induction ts with
  | nil =>
    intro vs ds ps _ h _
    cases vs <;> cases ds <;> exact h
  | cons t ts ih =>
    intro vs ds ps hr h hlt
    cases vs with
    | nil => cases ds <;> cases h
    | cons v vs => cases ds with
      | nil => cases h
      | cons d ds =>
        obtain ⟨p, q, h1, h2, rfl⟩ := h
        have ht := hr t (List.mem_cons_self ..)
        exact ⟨p, q, Below.trod hl ht.1 ht.2 h1 hb fun x hx => hlt x (List.mem_append_left _ hx), ih (fun u hu => hr u (List.mem_cons_of_mem _ hu)) h2 fun x hx => hlt x (List.mem_append_right _ hx), rfl⟩
theorem post_true {H : Type} {enc : TypeId × Value → H} {fn : Func} {s : ChangeSpec} {W W' : World} {args : Array Value} {ds : List (DataW H)} {before : List MemPlace} (hv : s.vars = []) (hrt : fn.resultTypes = #[4])
    (hr : ∀ t ∈ fn.params.toList, Try.prog.readableRec t = true ∧ t < Try.prog.types.size) (hs : s.fn H ds = { results := [.lit (.bool true)], args := ds, vars := [] })
    (hW : DataW.Whole enc Try.prog fn.params.toList s.vars false W args.toList ds [] before) (hb : Below W.heap.size W W') : s.post enc Try.prog fn false true false false W args (.bool true) W' := by
  have hW' := hW
  obtain ⟨p, q, hA, hV, rfl, hfz, _⟩ := hW
  rw [hv] at hV
  obtain rfl : q = [] := hV
  refine ⟨ds, [], p ++ [], [], p, [], hW', ?_, ?_, ?_, hb.frame _, fun h => by cases h⟩
  · rw [List.append_nil, hs, hrt]; exact trodAll_mk1 (shut_bool Try.underlying4 _)
  · rw [List.append_nil, hs]
    exact trodAll_below laidOut hb _ hr hA fun x hx => by simpa using hW'.lt x (List.mem_append_left _ hx)
  · rw [List.append_nil, hs, hv]; rfl
abbrev inV (op a : Int) : Value := .agg #[.int .i64 op, .int .i64 a]
theorem bl_al {W w : World} (h : Below W.heap.size W w) (o : Obj) : Below W.heap.size W (w.alloc o) := h.alloc h.size o
theorem bl_dr {W w : World} (h : Below W.heap.size W w) : Below W.heap.size W w.drew := h.drew
theorem bl_tr {W w w' : World} (h : Below W.heap.size W w) (k : Below w.heap.size w w') : Below W.heap.size W w' := h.trans (k.mono h.size)
theorem bl_set {W w : World} (h : Below W.heap.size W w) {b j : Nat} (v : Value) (hb : W.heap.size ≤ b) : Below W.heap.size W (w.setCell ⟨b, j, none⟩ v) := h.setCell hb v
theorem cell_b {w w' : World} {a : Addr} {v : Value} (h : w.cell? a = some v) (hb : Below w.heap.size w w') : w'.cell? a = some v := below_cle hb _ _ h
def InB (w : World) (b : Nat) (cs : Array Value) (T : TypeId) : Prop := w.heap[b]? = some (.cells cs T (0, 0))
theorem InB.le {w w' : World} {b : Nat} {cs : Array Value} {T : TypeId} (h : InB w b cs T) (hb : Below w.heap.size w w') : InB w' b cs T := (hb.block b (heap_lt h)).trans h
theorem InB.cell {w : World} {b : Nat} {cs : Array Value} {T : TypeId} (h : InB w b cs T) {j : Nat} {v : Value} (hv : cs[j]? = some v) : w.cell? ⟨b, j, none⟩ = some v := cell_of h hv
theorem InB.free {w : World} {b : Nat} {cs : Array Value} {T : TypeId} (h : InB w b cs T) (j : Nat) : w.frozen? ⟨b, j, none⟩ = false := free_of h
theorem InB.lt {w : World} {b : Nat} {cs : Array Value} {T : TypeId} (h : InB w b cs T) : b < w.heap.size := heap_lt h
theorem InB.new (w : World) (cs : Array Value) (T : TypeId) : InB (w.alloc (.cells cs T)) w.heap.size cs T := heap_alloc_new _ _
theorem InB.new' {w : World} {b : Nat} (cs : Array Value) (T : TypeId) (h : w.heap.size = b) : InB (w.alloc (.cells cs T)) b cs T := by subst h; exact InB.new _ _ _
theorem InB.set2 {w : World} {b c i j : Nat} {x y : Value} {cs : Array Value} {T : TypeId} (h : InB w b cs T) (hn : b ≠ c) : InB ((w.setCell ⟨c, i, none⟩ x).setCell ⟨c, j, none⟩ y) b cs T := heap_other (heap_other h hn) hn
theorem _root_.Go.RowKit.Below.set2 {n : Nat} {W w : World} (h : Below n W w) {c i j : Nat} {x y : Value} (hc : n ≤ c) : Below n W ((w.setCell ⟨c, i, none⟩ x).setCell ⟨c, j, none⟩ y) := (h.setCell hc x).setCell hc y
theorem setRow_below {w : World} {n b : Nat} {cs : Array Value} (h : n ≤ b) : Below n w (w.setRow b cs) := ⟨rfl, rfl, rfl, by simp, fun k hk => setRow_other _ _ _ _ (by omega)⟩
structure FnL where
  np : Nat
  nr : Nat
  loc : Int
  nc : Nat
instance : Inhabited FnL := ⟨⟨0, 0, 0, 0⟩⟩
abbrev moV (qg : Option Addr) (ng cg : Nat) (qa : Option Addr) (na ca : Nat) (qh : Option Addr) (nh ch : Nat) (qf : Option Addr) (nf cf : Nat) : Value :=
  .agg #[.slice qg ng cg, .slice qa na ca, .slice qh nh ch, .slice qf nf cf]
def FnsAt (C : Cl) (q : Option Addr) (fs : List FnL) : Prop := ∀ j (hj : j < fs.length), ∃ g o lv qp cp qr cr stk qc cc, q = some ⟨g, o, none⟩ ∧ C ⟨g, o + j * 6, none⟩ = some (.int .u64 lv) ∧ C ⟨g, o + j * 6 + 1, none⟩ = some (.slice qp fs[j].np cp) ∧
  C ⟨g, o + j * 6 + 2, none⟩ = some (.slice qr fs[j].nr cr) ∧ C ⟨g, o + j * 6 + 3, none⟩ = some (.int .i64 fs[j].loc) ∧ C ⟨g, o + j * 6 + 4, none⟩ = some (.int .i64 stk) ∧ C ⟨g, o + j * 6 + 5, none⟩ = some (.slice qc fs[j].nc cc) ∧ fs[j].np ≤ maxLen
end Go.Proofs.Ythgcnlccikpmaaa
