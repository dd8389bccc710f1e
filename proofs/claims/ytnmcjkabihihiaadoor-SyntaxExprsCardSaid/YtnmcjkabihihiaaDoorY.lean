/- Package lex's Scan: for every text and every memory in which the library's error lies. -/
import Derived.Test.YtnmcjkabihihiaaDoorX
import Derived.Maps.OwnIn
import Derived.Maps.AppendAt
namespace Go.Proofs.YtnmcjkabihihiaaDoor
open Go Go.RowKit

attribute [local go_sem] Oper.semAt_some

/-- Each of a text, at whatever memory: a function that tells the text's words. -/
def EachRes (s : ByteArray) (gf : Nat) (W : World) (e : Ending) (w' : World) : Prop :=
  ∃ lb, e = .returned (.func (.func gf) #[] lb) ∧ Below W.heap.size W w' ∧ ∀ (n n₀ n₁ B5 : Nat) (w2 : World), (∀ b, W.heap.size ≤ b → b < w'.heap.size → w2.heap[b]? = w'.heap[b]?) → w'.heap.size ≤ w2.heap.size → 1 < n₀ → n₀ ≤ w2.heap.size → n₁ ≤ w2.heap.size → Env w2 → PtOk B5 w2 → B5 < w2.heap.size →
    SeqStopsK Fence.wide n Tryd.prog gf lb It.enc (Keep n₀ n₁ B5) (fun ys => ys.map It.key = allItems s) (fun pre => pre.map It.key <+: allItems s) (allItems s).length w2

theorem each_res (s : ByteArray) : ∃ gf, (∀ args w, (callFunc gf args).run Tryd.prog w = .ok (.enter gf args) w) ∧ ∀ W, Calls Tryd.prog 22 #[.string s] W (EachRes s gf W) := by
  by_cases hs : 65536 < s.size
  · refine ⟨30, enters_of Tryd.func30 (by kernel_rfl) rfl, fun W => (each_long s hs W).mono ?_⟩
    rintro e w' ⟨rfl, rfl⟩
    exact ⟨#[], rfl, Below.refl _ _, fun n n₀ n₁ B5 w2 _ _ _ _ _ _ _ _ => stops22 n n₀ n₁ B5 s hs w2⟩
  · refine ⟨32, enters_of Tryd.func32 (by kernel_rfl) rfl, fun W => (each_ok s (by omega) W).mono ?_⟩
    rintro e w' ⟨b, rfl, hc, hb0, hb, hB⟩
    exact ⟨_, rfl, hB, fun n n₀ n₁ B5 w2 h2 hsz hn₀ h3 h4 hE hp h5 => stops24 n n₀ n₁ B5 b s (by omega) hn₀ w2 h3 h4 (Nat.lt_of_lt_of_le hb hsz) ((World.cell?_of_block (a := ⟨b, 0, none⟩) (h2 b hb0 hb)).trans hc) hE hp h5⟩

/-- A token's block. -/
def TokB (W : World) (g : Nat) (k : Int) (t : ByteArray) (v a : Int) : Prop := W.heap[g]? = some (.cells #[.int .i64 k, .string t, .int .i64 v, .int .i64 a] 54 (0, 0))
theorem TokB.at_ {W : World} {g : Nat} {k : Int} {t : ByteArray} {v a : Int} (h : TokB W g k t v a) : TokAt W g k t v a := by
  unfold TokB at h
  exact ⟨by simp [World.cell?, h], by simp [World.cell?, h], by simp [World.cell?, h], by simp [World.cell?, h], by simp [World.frozen?, h], by simp [World.frozen?, h], by simp [World.frozen?, h], by simp [World.frozen?, h]⟩
theorem tokB_own (g : Nat) (k : Int) (t : ByteArray) (v a : Int) : Own (fun (_ : Unit) W => TokB W g k t v a) := by
  intro s X Y row h hg hr
  refine (hg.block g (heap_lt h) (fun e => ?_)).trans h
  obtain ⟨o, ho, hc⟩ := hr g e.symm
  rw [show X.heap[g]? = _ from h] at ho; cases ho; cases hc

/-- The cells of a row of tokens. -/
def tokCells (ys : List It) : List Value := ys.flatMap fun x => [.int .i64 (x.k : Nat), .string x.t, .int .i64 (x.v : Nat), .int .i64 (x.a : Nat)]
theorem tokCells_snoc (ys : List It) (x : It) : tokCells (ys ++ [x]) = tokCells ys ++ [.int .i64 (x.k : Nat), .string x.t, .int .i64 (x.v : Nat), .int .i64 (x.a : Nat)] := by
  simp [tokCells]

theorem pt_box {B5 : Nat} {W : World} {T : TypeId} {q : Option Addr} {n c : Nat} (h : Boxed W B5 T (.slice q n c)) : pt B5 W = (Value.slice q n c).ownBlock := by
  unfold pt
  rw [h.cell]
  cases q <;> rfl
theorem ptOk_nil {B5 : Nat} {W : World} {T : TypeId} {n c : Nat} (h : Boxed W B5 T (.slice none n c)) : PtOk B5 W := by
  intro g hg
  rw [pt_box h] at hg
  cases hg
theorem keep_alloc {n₀ n₁ B5 : Nat} {W : World} (hn : n₀ ≤ W.heap.size) (hB : B5 < W.heap.size) (o : Obj) : Keep n₀ n₁ B5 W (W.alloc o) := by
  have hb : Below W.heap.size W (W.alloc o) := (Below.refl _ _).alloc (Nat.le_refl _) _
  exact ⟨(Below.refl _ _).alloc hn _, fun k _ hk _ _ _ => (hb.block k (heap_lt hk)).trans hk, .inl (pt_grow hB hb)⟩
theorem keep_grow {n₀ n₁ B5 : Nat} {W W' : World} (hn : n₀ ≤ W.heap.size) (hB : B5 < W.heap.size) (hb : Below W.heap.size W W') : Keep n₀ n₁ B5 W W' :=
  ⟨hb.mono hn, fun k _ hk _ _ _ => (hb.block k (heap_lt hk)).trans hk, .inl (pt_grow hB hb)⟩
/-- A store into a variable's cell below n₁ that is not the slice's. -/
theorem keep_set {n₀ n₁ B5 B : Nat} {W : World} (hn : n₀ ≤ B) (h1 : B < n₁) (hne : B ≠ B5) (v : Value) : Keep n₀ n₁ B5 W (W.setCell ⟨B, 0, none⟩ v) :=
  ⟨(Below.refl _ _).setCell (p := ⟨B, 0, none⟩) hn _, fun k o hk _ hk1 _ => (Below.heap_setCell W ⟨B, 0, none⟩ v k (by show k ≠ B; omega)).trans hk,
    .inl (pt_of_cell (World.cell?_setCell_other W ⟨B, 0, none⟩ ⟨B5, 0, none⟩ v (by intro e; injection e with e; omega)))⟩
theorem keep_append {n₀ n₁ B5 : Nat} {W w1 : World} {q : Option Addr} {k c m : Nat} {q' : Option Addr} {c' : Nat} {xs ys : List Value} {tmp : Obj}
    (hv : Boxed W B5 47 (.slice q k c)) (hrow : W.ownsRow n₀ 54 4 (.slice q k c) k xs) (hn : n₀ ≤ W.heap.size) (hB : n₀ ≤ B5) (h1 : B5 < n₁)
    (hown' : w1.ownsRow n₀ 54 4 (.slice q' m c') m ys) (hgrow : (W.alloc tmp).grownBy w1 (Value.slice q k c).ownBlock)
    (hat : (Value.slice q' m c').ownBlock = (Value.slice q k c).ownBlock ∨ (Value.slice q' m c').ownBlock = some (W.alloc tmp).heap.size) :
    Keep n₀ n₁ B5 W (w1.setCell ⟨B5, 0, none⟩ (.slice q' m c')) := by
  obtain ⟨b1, b2, _, _, hb⟩ := hv.appended (by decide) hrow hn hB hown' hgrow
  refine ⟨hb, fun j o hj _ hj1 hp => ?_, ?_⟩
  · have hlt := heap_lt hj
    rw [pt_box hv] at hp
    have e1 := (Below.heap_alloc W tmp j hlt).trans hj
    have e2 := (hgrow.block j (by simp; omega) (fun e => hp e.symm)).trans e1
    exact (Below.heap_setCell w1 ⟨B5, 0, none⟩ _ j (by show j ≠ B5; omega)).trans e2
  · rw [pt_box b2, pt_box hv]
    rcases hat with e | e
    · exact .inl e
    · refine .inr ⟨_, e, by simp, ?_⟩
      have := (hown'.lt _ e).2
      simpa using this

theorem info29 : ∃ i, Tryd.prog.info? 54 = some i ∧ i.zero = some (.agg #[.int .i64 0, .string ⟨#[]⟩, .int .i64 0, .int .i64 0]) ∧ i.size = 4 ∧ i.bytes = 40 := by
  have h : (Tryd.prog.info? 54).map (fun i => (i.zero, i.size, i.bytes)) = some (some (.agg #[.int .i64 0, .string ⟨#[]⟩, .int .i64 0, .int .i64 0]), 4, 40) := by kernel_rfl
  cases hi : Tryd.prog.info? 54 with
  | none => rw [hi] at h; cases h
  | some i =>
    rw [hi] at h
    simp only [Option.map_some, Option.some.injEq, Prod.mk.injEq] at h
    obtain ⟨e1, e2, e3⟩ := h
    exact ⟨i, rfl, e1, e2, e3⟩
end Go.Proofs.YtnmcjkabihihiaaDoor
