/- Package lex's Text: for every row of tokens in every memory. -/
import Derived.Test.YtghgaelbjcggcaaDoorBld
import Derived.Test.YtghgaelbjcggcaaDoorY
import Derived.Outline
namespace Go.Proofs.YtghgaelbjcggcaaDoor
open Go Go.RowKit

/-- Texts with one blank between each two, as bytes. -/
def jn : List (List UInt8) → List UInt8
  | [] => []
  | [t] => t
  | t :: u :: l => t ++ 32 :: jn (u :: l)
theorem jn_snoc : ∀ (l : List (List UInt8)) (t : List UInt8), jn (l ++ [t]) = if l = [] then t else jn l ++ 32 :: t
  | [], t => rfl
  | [u], t => rfl
  | u :: v :: l, t => by
    have := jn_snoc (v :: l) t
    rw [if_neg (by simp)] at this ⊢
    show u ++ 32 :: jn ((v :: l) ++ [t]) = (u ++ 32 :: jn (v :: l)) ++ 32 :: t
    rw [this]; simp
theorem jn_joinL : ∀ l : List (List UInt8), (jn l).map UInt8.toNat = joinL (l.map (fun t => t.map UInt8.toNat))
  | [] => rfl
  | [t] => rfl
  | t :: u :: l => by
    have := jn_joinL (u :: l)
    show (t ++ 32 :: jn (u :: l)).map UInt8.toNat = t.map UInt8.toNat ++ 32 :: joinL ((u :: l).map _)
    rw [List.map_append, List.map_cons, this]; rfl
/-- What Text of tokens comes to. -/
def txt (ys : List It) : List UInt8 := jn (ys.map fun x => x.t.data.toList)
theorem txt_bl (ys : List It) : bl ⟨(txt ys).toArray⟩ = joinL (ys.map fun x => bl x.t) := by
  unfold bl txt
  rw [show ((⟨(jn (ys.map fun x => x.t.data.toList)).toArray⟩ : ByteArray).data.toList) = jn (ys.map fun x => x.t.data.toList) by simp, jn_joinL, List.map_map]; rfl
theorem txt_step (ys : List It) (k : Nat) (h : k < ys.length) : txt (ys.take (k + 1)) = (if k = 0 then [] else txt (ys.take k) ++ [32]) ++ (ys[k]).t.data.toList := by
  unfold txt
  rw [List.take_succ_eq_append_getElem h, List.map_append, List.map_cons, List.map_nil, jn_snoc]
  by_cases hk : k = 0
  · subst hk; simp
  · rw [if_neg (by
      intro e
      have := congrArg List.length e
      rw [List.length_map, List.length_take, List.length_nil] at this
      omega), if_neg hk]
    simp
theorem txt_len (ys : List It) (hs : ∀ x ∈ ys, x.t.size ≤ 65536) : ∀ k, k ≤ ys.length → (txt (ys.take k)).length ≤ k * 65537
  | 0, _ => by simp [txt, jn]
  | k + 1, h => by
    have ih := txt_len ys hs k (by omega)
    have hx := hs _ (List.getElem_mem (show k < ys.length by omega))
    rw [txt_step ys k (by omega), List.length_append, ← Lib.size_eq]
    split
    · simp; omega
    · rw [List.length_append, List.length_singleton]; omega

/-- A row of tokens that lies in memory. -/
def ToksIn (w : World) (q : Option Addr) (ys : List It) : Prop :=
  ∀ i (h : i < ys.length), ∃ b, q = some ⟨b, 0, none⟩ ∧ b < w.heap.size ∧ w.cell? ⟨b, i * 4, none⟩ = some (.int .i64 (ys[i].k : Nat)) ∧ w.cell? ⟨b, i * 4 + 1, none⟩ = some (.string ys[i].t) ∧ w.cell? ⟨b, i * 4 + 2, none⟩ = some (.int .i64 (ys[i].v : Nat)) ∧ w.cell? ⟨b, i * 4 + 3, none⟩ = some (.int .i64 (ys[i].a : Nat))
theorem ToksIn.below {w w' : World} {B : Nat} {q : Option Addr} {ys : List It} (h : ToksIn w q ys) (hb : Below B w w') (hB : w.heap.size ≤ B) : ToksIn w' q ys := by
  intro i hi
  obtain ⟨b, h1, h2, h3, h4, h5, h6⟩ := h i hi
  have hlt : b < B := Nat.lt_of_lt_of_le h2 hB
  exact ⟨b, h1, Nat.lt_of_lt_of_le h2 hb.size, (hb.cell (p := ⟨b, i * 4, none⟩) hlt).trans h3, (hb.cell (p := ⟨b, i * 4 + 1, none⟩) hlt).trans h4, (hb.cell (p := ⟨b, i * 4 + 2, none⟩) hlt).trans h5, (hb.cell (p := ⟨b, i * 4 + 3, none⟩) hlt).trans h6⟩
theorem tokCells_get : ∀ (ys : List It) (i : Nat) (h : i < ys.length), (tokCells ys)[i * 4]? = some (.int .i64 (ys[i].k : Nat)) ∧ (tokCells ys)[i * 4 + 1]? = some (.string ys[i].t) ∧ (tokCells ys)[i * 4 + 2]? = some (.int .i64 (ys[i].v : Nat)) ∧ (tokCells ys)[i * 4 + 3]? = some (.int .i64 (ys[i].a : Nat))
  | x :: ys, 0, _ => ⟨rfl, rfl, rfl, rfl⟩
  | x :: ys, i + 1, h => by
    have ih := tokCells_get ys i (by simpa using h)
    have hc : tokCells (x :: ys) = [.int .i64 (x.k : Nat), .string x.t, .int .i64 (x.v : Nat), .int .i64 (x.a : Nat)] ++ tokCells ys := by simp [tokCells]
    rw [hc, show (i + 1) * 4 = 4 + i * 4 by omega]
    have hg : ∀ j, ([Value.int .i64 (x.k : Nat), .string x.t, .int .i64 (x.v : Nat), .int .i64 (x.a : Nat)] ++ tokCells ys)[4 + j]? = (tokCells ys)[j]? := fun j => by
      rw [List.getElem?_append_right (by simp)]; simp
    exact ⟨(hg _).trans ih.1, (hg (i * 4 + 1)).trans ih.2.1, (hg (i * 4 + 2)).trans ih.2.2.1, (hg (i * 4 + 3)).trans ih.2.2.2⟩
theorem tokCells_len (ys : List It) : (tokCells ys).length = ys.length * 4 := by
  induction ys with
  | nil => rfl
  | cons x ys ih => simp [tokCells] at ih ⊢; omega
theorem toks_row {W : World} {b n c : Nat} {q : Option Addr} {ys : List It} (hn : ys.length = n) (h : W.ownsRow b 29 4 (.slice q n c) n (tokCells ys)) : ToksIn W q ys := by
  intro i hi
  rcases h.2 with ⟨_, h0⟩ | ⟨g, cap, cur, h0, _, _, _⟩
  · omega
  · simp only [Value.slice.injEq, true_and] at h0
    obtain ⟨rfl, rfl⟩ := h0
    obtain ⟨e1, e2, e3, e4⟩ := tokCells_get ys i hi
    have hl := tokCells_len ys
    have hg := (h.lt g rfl).2
    exact ⟨g, rfl, hg, (h.cellAt _ (by omega)).trans e1, (h.cellAt _ (by omega)).trans e2, (h.cellAt _ (by omega)).trans e3, (h.cellAt _ (by omega)).trans e4⟩

set_option maxRecDepth 100000 in
set_option maxHeartbeats 2000000 in
theorem text_any (q : Option Addr) (c : Nat) (ys : List It) (hs : ∀ x ∈ ys, x.t.size ≤ 65536) (hn : ys.length ≤ 65537) (w : World) (hin : ToksIn w q ys) :
    Calls Tryd.prog 17 #[.slice q ys.length c] w fun e w' => e = .returned (.string ⟨(txt ys).toArray⟩) ∧ Below w.heap.size w w' := by
  obtain ⟨n, hnn⟩ : ∃ n, ys.length = n := ⟨_, rfl⟩
  have hlen := txt_len ys hs
  rw [hnn] at hn hlen ⊢
  have HN := Lib.hid hnn
  have HL := Lib.hid hlen
  have HS := Lib.hid hs
  have HIN := Lib.hid hin
  clear hnn hlen hs hin
  have hI0 : Lib.IsBuilderF 60 5 w.heap.size w.heap.size [] (w.alloc (.cells #[.pointer none, .slice none 0 0] 60)) := Lib.IsBuilderF.of (Lib.fresh_isBuilder 60 5 w)
  have hB0 : Below w.heap.size w (w.alloc (.cells #[.pointer none, .slice none 0 0] 60)) := (Below.refl _ w).alloc (Nat.le_refl _) _
  go_enter Tryd.func17, Tryd.ntmps17
  go_wp2
  go_loopw [8] (fun i wr => ∃ k : Nat, k ≤ n ∧ i = .int .i64 k ∧ Lib.IsBuilderF 60 5 w.heap.size w.heap.size (Lib.byteCells (txt (ys.take k))) wr ∧ Below w.heap.size w wr ∧ w.heap.size < wr.heap.size) (fun i _ => n - (intOf i).toNat)
  case atStart => exact ⟨0, Nat.zero_le _, rfl, hI0, hB0, by simp⟩
  case round =>
    obtain ⟨k, hk, rfl, hI, hB, hsz⟩ := hrel
    by_cases hlt : k < n
    · have hky : k < ys.length := by rw [HN.out]; exact hlt
      obtain ⟨b, rfl, hb, e1, e2, e3, e4⟩ := (HIN.out.below hB (Nat.le_refl _)) k hky
      have hst := Lib.hid (txt_step ys k hky)
      have hts := HS.out _ (List.getElem_mem hky)
      have hlk := HL.out k hk
      generalize ys[k] = x at *
      have hIa := hI.alloc (.cells #[.int .i64 (x.k : Nat), .string x.t, .int .i64 (x.v : Nat), .int .i64 (x.a : Nat)] 29)
      have hBa : Below w.heap.size w (wr.alloc (.cells #[.int .i64 (x.k : Nat), .string x.t, .int .i64 (x.v : Nat), .int .i64 (x.a : Nat)] 29)) := hB.alloc hB.size _
      have hTb : TokB (wr.alloc (.cells #[.int .i64 (x.k : Nat), .string x.t, .int .i64 (x.v : Nat), .int .i64 (x.a : Nat)] 29)) wr.heap.size (x.k : Nat) x.t (x.v : Nat) (x.a : Nat) := World.alloc_heap_new wr _
      have hsa : (wr.alloc (.cells #[.int .i64 (x.k : Nat), .string x.t, .int .i64 (x.v : Nat), .int .i64 (x.a : Nat)] 29)).heap.size = wr.heap.size + 1 := by simp
      have hne : wr.heap.size ≠ w.heap.size := by omega
      by_cases h0 : k = 0
      · subst h0
        have hstep : txt (ys.take 1) = x.t.data.toList := by have := hst.out; simpa using this
        have hw2 := writeString_any w.heap.size w.heap.size (Lib.byteCells (txt (ys.take 0))) x.t _ hIa (by rw [Lib.byteCells_length]; omega) (by rw [hsa]; omega)
        have HW := Lib.hid hw2
        have HST := Lib.hid hstep
        clear hw2 hst hstep
        go_wp2_with (go_at_call 28; refine HW.out.mono ?_)
        rintro e w2 ⟨rfl, hI2, hb2, ho2⟩
        go_wp2
        have hcells : Lib.byteCells (txt (ys.take 1)) = Lib.byteCells (txt (ys.take 0)) ++ Lib.strCells x.t := by rw [HST.out]; simp [txt, jn, Lib.byteCells, Lib.strCells]
        exact ⟨⟨1, by omega, rfl, by rw [hcells]; exact Or.inr hI2, hBa.trans (hb2.mono (Nat.le_refl _)), by have := hb2.size; omega⟩, by simp [intOf]; omega⟩
      · have hstep : txt (ys.take (k + 1)) = txt (ys.take k) ++ [32] ++ x.t.data.toList := by have := hst.out; rw [if_neg h0] at this; exact this
        have hw1 := writeByte_any w.heap.size w.heap.size (Lib.byteCells (txt (ys.take k))) 32 _ hIa (by rw [Lib.byteCells_length]; omega) (by rw [hsa]; omega)
        have hk65 : k * 65537 ≤ 4295098369 := by
          have := Nat.mul_le_mul_right 65537 (show k ≤ 65537 by omega)
          omega
        have HW := Lib.hid hw1
        have HST := Lib.hid hstep
        have HTB := Lib.hid hTb
        have HBA := Lib.hid hBa
        have HSA := Lib.hid hsa
        have HLK := Lib.hid hlk
        have hkp : 0 < k := by omega
        clear hw1 hst hstep hTb hBa hsa hlk h0
        go_wp2_with (go_at_call 27; refine HW.out.mono ?_)
        rintro e w2 ⟨rfl, hI2, hb2, ho2⟩
        have hT2 : TokB w2 wr.heap.size (x.k : Nat) x.t (x.v : Nat) (x.a : Nat) := ho2 _ _ HTB.out (by intro e; injection e with e; omega) (by intro c fz e; cases e)
        have hI2' : Lib.IsBuilderF 60 5 w.heap.size w.heap.size (Lib.byteCells (txt (ys.take k)) ++ [.int .u8 32]) w2 := Or.inr hI2
        have s2 := hb2.size
        have hw2 := writeString_any w.heap.size w.heap.size (Lib.byteCells (txt (ys.take k)) ++ [.int .u8 32]) x.t w2 hI2' (by rw [List.length_append, Lib.byteCells_length]; have := HLK.out; simp; omega) (by have := HSA.out; omega)
        have c1 := hT2.at_.c1
        have HW2 := Lib.hid hw2
        have HI2 := Lib.hid hI2
        have HB2 := Lib.hid hb2
        have hs2 : w.heap.size < w2.heap.size := by have := HSA.out; omega
        clear hw2 hI2 hI2' hb2 ho2 hT2 s2
        go_wp2_with (go_at_call 28; refine HW2.out.mono ?_)
        rintro e w3 ⟨rfl, hI3, hb3, ho3⟩
        go_wp2
        have hcells : Lib.byteCells (txt (ys.take (k + 1))) = Lib.byteCells (txt (ys.take k)) ++ [.int .u8 32] ++ Lib.strCells x.t := by rw [HST.out]; simp [Lib.byteCells, Lib.strCells]
        exact ⟨⟨k + 1, by omega, by go_num, by rw [hcells]; exact Or.inr hI3, (HBA.out.trans HB2.out).trans hb3, by have := hb3.size; omega⟩, by simp [intOf]; omega⟩
    · have hkk : txt (ys.take k) = txt ys := by rw [List.take_of_length_le (by rw [HN.out]; omega)]
      rw [hkk] at hI
      have hst := Lib.hid (Tryd.Builder_String_any_k w.heap.size w.heap.size (txt ys) wr hI (by omega))
      go_wp2_with (go_at_call 29; refine hst.out.mono ?_)
      rintro e w2 ⟨rfl, _, hb2, _⟩
      go_wp2
      go_ret
      exact ⟨rfl, hB.trans hb2⟩
end Go.Proofs.YtghgaelbjcggcaaDoor
