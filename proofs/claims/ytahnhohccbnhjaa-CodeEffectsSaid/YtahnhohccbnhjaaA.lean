/- Lists of bytes: what the statements' kit and the document's answer say of two lists, in every memory. -/
import Derived.Test.YtahnhohccbnhjaaChecked
import Derived.Test.YtahnhohccbnhjaaN
import Derived.OwnWalk
import Derived.Laws.AppendOwn
import Derived.Laws.AppendOwnNone
import Derived.Laws.OwnMore
import Derived.ArgAppend
import Derived.Below
import Derived.Lib.Hide
namespace Go.Proofs.Ytahnhohccbnhjaa
open Go Go.RowKit

/-- The number of a slot. -/
def intOf : Value → Int
  | .int _ n => n
  | _ => 0

/-- A list of bytes lies below block B. -/
def ByIn (B : Nat) (w : World) (p : Option Addr) (ns : List Nat) : Prop :=
  ∀ i, i < ns.length → ∃ b off, p = some ⟨b, off, none⟩ ∧ b < B ∧ w.cell? ⟨b, off + i, none⟩ = some (.int .u8 ((ns.getD i 0 : Nat) : Int))

theorem ByIn.below {B B' n : Nat} {w w' : World} {p : Option Addr} {ns : List Nat} (h : ByIn B w p ns) (hb : Below n w w') (hn : B ≤ n) (hB : B ≤ B') : ByIn B' w' p ns := by
  intro i hi
  obtain ⟨b, off, hp, hlt, hc⟩ := h i hi
  exact ⟨b, off, hp, by omega, (hb.cell (p := ⟨b, off + i, none⟩) (by simp; omega)).trans hc⟩
theorem ByIn.nil (B : Nat) (w : World) (p : Option Addr) : ByIn B w p [] := fun i hi => absurd hi (by simp)
theorem ByIn.wider {B B' : Nat} {w : World} {p : Option Addr} {ns : List Nat} (h : ByIn B w p ns) (hB : B ≤ B') : ByIn B' w p ns := by
  intro i hi
  obtain ⟨b, off, hp, hlt, hc⟩ := h i hi
  exact ⟨b, off, hp, by omega, hc⟩

theorem info5 : ∃ i, Try.prog.info? 5 = some i ∧ i.zero = some (.int .u8 0) ∧ i.size = 1 ∧ i.bytes = 1 := by
  have h : (Try.prog.info? 5).map (fun i => (i.zero, i.size, i.bytes)) = some (some (.int .u8 0), 1, 1) := by kernel_rfl
  cases hi : Try.prog.info? 5 with
  | none => rw [hi] at h; cases h
  | some i =>
    rw [hi] at h
    simp only [Option.map_some, Option.some.injEq, Prod.mk.injEq] at h
    obtain ⟨e1, e2, e3⟩ := h
    exact ⟨i, rfl, e1, e2, e3⟩

theorem below_own {n : Nat} {A B : World} {r : Option Nat} (hg : A.grownBy B r) (hn : n ≤ A.heap.size) (hr : ∀ k, r = some k → n ≤ k) : Below n A B :=
  ⟨hg.os, hg.tape, hg.output, hg.size, fun k hk => hg.block k (by omega) (fun e => by have := hr k e.symm; omega)⟩
theorem row_slice {w : World} {b : Nat} {e : TypeId} {size : Nat} {v : Value} {n : Nat} {xs : List Value} (h : w.ownsRow b e size v n xs) : ∃ q c, v = .slice q n c := by
  rcases h.2 with ⟨rfl, rfl⟩ | ⟨g, cap, _, rfl, _⟩
  · exact ⟨_, _, rfl⟩
  · exact ⟨_, _, rfl⟩
theorem row_cap {W : World} {b : Nat} {e : TypeId} {size : Nat} {g n cap : Nat} {xs : List Value} (h : W.ownsRow b e size (.slice (some ⟨g, 0, none⟩) n cap) n xs) : n ≤ cap ∧ cap ≤ maxLen := by
  rcases h.2 with ⟨h0, _⟩ | ⟨g', cap', cur, h0, _, _, h1, h2, _⟩
  · simp at h0
  · simp only [Value.slice.injEq, true_and] at h0
    obtain ⟨_, rfl⟩ := h0
    exact ⟨h1, h2⟩
theorem row_form {W : World} {b : Nat} {e : TypeId} {size : Nat} {v : Value} {n : Nat} {xs : List Value} (h : W.ownsRow b e size v n xs) (hn : 0 < n) : ∃ g cap, v = .slice (some ⟨g, 0, none⟩) n cap ∧ b ≤ g := by
  rcases h.2 with ⟨_, h0⟩ | ⟨g, cap, cur, h0, hb, _⟩
  · omega
  · exact ⟨g, cap, h0, hb⟩
theorem cell_new (W : World) (v : Value) (t : TypeId) : (W.alloc (.cells #[v] t)).cell? ⟨W.heap.size, 0, none⟩ = some v ∧ (W.alloc (.cells #[v] t)).frozen? ⟨W.heap.size, 0, none⟩ = false :=
  ⟨by rw [World.cell?_alloc_new]; rfl, by rw [World.frozen?_alloc_new]⟩

/-- Bytes as values. -/
def bv (l : List Nat) : List Value := l.map fun (s : Nat) => Value.int .u8 (s : Int)
theorem bv_length (l : List Nat) : (bv l).length = l.length := by simp [bv]
theorem bv_append (l m : List Nat) : bv (l ++ m) = bv l ++ bv m := by simp [bv]
theorem bv_one (l : List Nat) : ∀ u ∈ bv l, u.oneCell' = true := by
  intro u h
  obtain ⟨s, _, rfl⟩ := List.mem_map.1 h
  rfl
theorem by_cells {w : World} {B : Nat} {ad : Addr} {ns : List Nat} (hs : ByIn B w (some ad) ns) : ∀ (j : Nat) (u : Value), (bv ns)[j]? = some u → w.cell? (ad.add j) = some u := by
  intro j u h
  have hj : j < ns.length := by
    have := (List.getElem?_eq_some_iff.1 h).1
    simpa [bv] using this
  obtain ⟨b, off, he, _, hc⟩ := hs j hj
  obtain rfl := Option.some.inj he
  rw [show (⟨b, off, none⟩ : Addr).add j = ⟨b, off + j, none⟩ from by unfold Addr.add; split <;> simp_all, hc, ← h]
  simp [bv, List.getD_eq_getElem?_getD, hj]
theorem one_cells (W : World) (x : Nat) : ∀ (j : Nat) (u : Value), (bv [x])[j]? = some u → (W.alloc (.cells #[.int .u8 (x : Int)] 5)).cell? ((⟨W.heap.size, 0, none⟩ : Addr).add j) = some u := by
  intro j u h
  cases j with
  | zero =>
    obtain rfl : Value.int .u8 (x : Int) = u := by simpa [bv] using h
    exact (cell_new W _ 5).1
  | succ j => simp [bv] at h

/-- Memory of the call's own that holds these bytes. -/
def OwnB (B : Nat) (w : World) (v : Value) (l : List Nat) : Prop := w.ownsRow B 5 1 v l.length (bv l)
theorem OwnB.slice {B : Nat} {w : World} {v : Value} {l : List Nat} (h : OwnB B w v l) : ∃ q c, v = .slice q l.length c := row_slice h

theorem own_cell {w : World} {b g cap : Nat} {xs : List Nat} (h : w.ownsRow b 5 1 (.slice (some ⟨g, 0, none⟩) xs.length cap) xs.length (bv xs)) (i : Nat) (hi : i < xs.length) :
    w.cell? ⟨g, i, none⟩ = some (.int .u8 ((xs.getD i 0 : Nat) : Int)) := by
  have hc := h.cellAt i (by omega)
  refine hc.trans ?_
  simp only [bv, List.getElem?_map, List.getD_eq_getElem?_getD]
  rw [List.getElem?_eq_getElem hi]; rfl

theorem row_in {w : World} {b n : Nat} {p : Option Addr} {c : Nat} {xs : List Nat} (h : w.ownsRow b 5 1 (.slice p n c) xs.length (bv xs)) : ByIn w.heap.size w p xs := by
  intro i hi
  rcases h.2 with ⟨h0, hn⟩ | ⟨g, cap, cur, h0, _⟩
  · omega
  · simp only [Value.slice.injEq] at h0
    obtain ⟨rfl, rfl, rfl⟩ := h0
    have hc := own_cell h i hi
    refine ⟨g, 0, rfl, World.block_lt_of_cell? _ _ hc, ?_⟩
    rw [Nat.zero_add]
    exact hc
theorem OwnB.in {B n : Nat} {w : World} {p : Option Addr} {c : Nat} {l : List Nat} (h : OwnB B w (.slice p n c) l) : ByIn w.heap.size w p l := by
  obtain ⟨q, d, e⟩ := h.slice
  simp only [Value.slice.injEq] at e
  obtain ⟨rfl, rfl, rfl⟩ := e
  exact row_in (n := l.length) h

theorem eq_of_getD {xs ys : List Nat} (hl : xs.length = ys.length) (h : ∀ j, j < xs.length → xs.getD j 0 = ys.getD j 0) : xs = ys := by
  apply List.ext_getElem hl
  intro i h1 h2
  have := h i h1
  rwa [List.getD_eq_getElem?_getD, List.getD_eq_getElem?_getD, List.getElem?_eq_getElem h1, List.getElem?_eq_getElem h2] at this

set_option maxRecDepth 100000 in
set_option maxHeartbeats 1000000 in
theorem bytes_any (p q : Option Addr) (c d : Nat) (xs ys : List Nat) (hl : xs.length ≤ maxLen) (w : World) (hp : ByIn w.heap.size w p xs) (hq : ByIn w.heap.size w q ys) :
    Calls Try.prog 22 #[.slice p xs.length c, .slice q ys.length d] w fun e w' => e = .returned (.bool (decide (xs = ys))) ∧ Below w.heap.size w w' := by
  unfold maxLen at hl
  obtain ⟨r, hr⟩ : ∃ r, decide (xs = ys) = r := ⟨_, rfl⟩
  rw [hr]
  have HR := Lib.hid hr
  clear hr
  by_cases hne : xs.length = ys.length
  · have HL := Lib.hid hne
    obtain ⟨n, hn⟩ : ∃ n, xs.length = n := ⟨_, rfl⟩
    have hn' : ((n : Int) != (n : Int)) = false := by simp
    rw [← hne, hn]
    rw [hn] at hl
    clear hne
    have HN := Lib.hid hn
    clear hn
    go_enter Try.func22, Try.ntmps22
    go_wp2
    go_loopw [5] (fun i wr => ∃ k : Nat, k ≤ n ∧ i = .int .i64 k ∧ Below w.heap.size w wr ∧ ∀ j, j < k → xs.getD j 0 = ys.getD j 0) (fun i _ => n - (intOf i).toNat)
    case atStart => exact ⟨0, Nat.zero_le _, rfl, Below.refl _ _, fun j hj => absurd hj (by omega)⟩
    case round =>
      obtain ⟨k, hk, rfl, hB, hsame⟩ := hrel
      have HS := Lib.hid hsame
      clear hsame
      by_cases hlt : k < n
      · obtain ⟨b, off, rfl, hb, hc⟩ := hp k (by rw [HN.out]; exact hlt)
        obtain ⟨b2, off2, rfl, hb2, hc2⟩ := hq k (by rw [← HL.out, HN.out]; exact hlt)
        have h1 := (hB.cell (p := ⟨b, off + k, none⟩) hb).trans hc
        have h2 := (hB.cell (p := ⟨b2, off2 + k, none⟩) hb2).trans hc2
        clear hc hc2 hp hq
        have hki : (k : Int) < (n : Int) := by omega
        by_cases he : xs.getD k 0 = ys.getD k 0
        · have HE := Lib.hid he
          rw [← he] at h2
          clear he
          generalize xs.getD k 0 = y at h1 h2
          go_wp2
          go_region
          go_wp2
          refine ⟨⟨k + 1, by omega, by go_num, hB.drew, fun j hj => ?_⟩, by simp [intOf]; omega⟩
          rcases Nat.lt_or_ge j k with hjk | hjk
          · exact HS.out j hjk
          · obtain rfl : j = k := by omega
            exact HE.out
        · have hd : ¬ xs = ys := fun h => he (by rw [h])
          have hne2 : (((xs.getD k 0 : Nat) : Int) != ((ys.getD k 0 : Nat) : Int)) = true := by rw [bne_iff_ne]; omega
          have hrf : r = false := by rw [← HR.out, decide_eq_false hd]
          subst hrf
          clear hd he
          generalize xs.getD k 0 = y at h1 hne2
          generalize ys.getD k 0 = z at h2 hne2
          go_wp2
          go_region
          go_wp2
          go_ret
          exact ⟨rfl, hB.drew⟩
      · obtain rfl : k = n := by omega
        have hd : xs = ys := eq_of_getD HL.out (by rw [HN.out]; exact HS.out)
        have hrt : r = true := by rw [← HR.out, decide_eq_true hd]
        subst hrt
        clear hd
        go_wp2
        go_ret
        exact ⟨rfl, hB⟩
  · have hd : ¬ xs = ys := fun h => hne (by rw [h])
    have hne2 : (((xs.length : Nat) : Int) != ((ys.length : Nat) : Int)) = true := by rw [bne_iff_ne]; omega
    have hrf : r = false := by rw [← HR.out, decide_eq_false hd]
    subst hrf
    clear hd hne hp hq HR
    generalize xs.length = n at hl hne2
    generalize ys.length = m at hne2
    go_enter Try.func22, Try.ntmps22
    go_wp2
    go_ret
    exact ⟨rfl, Below.refl _ _⟩

set_option maxRecDepth 100000 in
set_option maxHeartbeats 1000000 in
theorem same_any (p q : Option Addr) (c d : Nat) (xs ys : List Nat) (hl : xs.length ≤ maxLen) (w : World) (hp : ByIn w.heap.size w p xs) (hq : ByIn w.heap.size w q ys) :
    Calls Try.prog 58 #[.slice p xs.length c, .slice q ys.length d] w fun e w' => e = .returned (.bool (decide (xs = ys))) ∧ Below w.heap.size w w' := by
  unfold maxLen at hl
  obtain ⟨r, hr⟩ : ∃ r, decide (xs = ys) = r := ⟨_, rfl⟩
  rw [hr]
  have HR := Lib.hid hr
  clear hr
  by_cases hne : xs.length = ys.length
  · have HL := Lib.hid hne
    obtain ⟨n, hn⟩ : ∃ n, xs.length = n := ⟨_, rfl⟩
    have hn' : ((n : Int) != (n : Int)) = false := by simp
    rw [← hne, hn]
    rw [hn] at hl
    clear hne
    have HN := Lib.hid hn
    clear hn
    go_enter Try.func58, Try.ntmps58
    go_wp2
    go_loopw [5] (fun i wr => ∃ k : Nat, k ≤ n ∧ i = .int .i64 k ∧ Below w.heap.size w wr ∧ ∀ j, j < k → xs.getD j 0 = ys.getD j 0) (fun i _ => n - (intOf i).toNat)
    case atStart => exact ⟨0, Nat.zero_le _, rfl, Below.refl _ _, fun j hj => absurd hj (by omega)⟩
    case round =>
      obtain ⟨k, hk, rfl, hB, hsame⟩ := hrel
      have HS := Lib.hid hsame
      clear hsame
      by_cases hlt : k < n
      · obtain ⟨b, off, rfl, hb, hc⟩ := hp k (by rw [HN.out]; exact hlt)
        obtain ⟨b2, off2, rfl, hb2, hc2⟩ := hq k (by rw [← HL.out, HN.out]; exact hlt)
        have h1 := (hB.cell (p := ⟨b, off + k, none⟩) hb).trans hc
        have h2 := (hB.cell (p := ⟨b2, off2 + k, none⟩) hb2).trans hc2
        clear hc hc2 hp hq
        have hki : (k : Int) < (n : Int) := by omega
        by_cases he : xs.getD k 0 = ys.getD k 0
        · have HE := Lib.hid he
          rw [← he] at h2
          clear he
          generalize xs.getD k 0 = y at h1 h2
          go_wp2
          go_region
          go_wp2
          refine ⟨⟨k + 1, by omega, by go_num, hB.drew, fun j hj => ?_⟩, by simp [intOf]; omega⟩
          rcases Nat.lt_or_ge j k with hjk | hjk
          · exact HS.out j hjk
          · obtain rfl : j = k := by omega
            exact HE.out
        · have hd : ¬ xs = ys := fun h => he (by rw [h])
          have hne2 : (((xs.getD k 0 : Nat) : Int) != ((ys.getD k 0 : Nat) : Int)) = true := by rw [bne_iff_ne]; omega
          have hrf : r = false := by rw [← HR.out, decide_eq_false hd]
          subst hrf
          clear hd he
          generalize xs.getD k 0 = y at h1 hne2
          generalize ys.getD k 0 = z at h2 hne2
          go_wp2
          go_region
          go_wp2
          go_ret
          exact ⟨rfl, hB.drew⟩
      · obtain rfl : k = n := by omega
        have hd : xs = ys := eq_of_getD HL.out (by rw [HN.out]; exact HS.out)
        have hrt : r = true := by rw [← HR.out, decide_eq_true hd]
        subst hrt
        clear hd
        go_wp2
        go_ret
        exact ⟨rfl, hB⟩
  · have hd : ¬ xs = ys := fun h => hne (by rw [h])
    have hne2 : (((xs.length : Nat) : Int) != ((ys.length : Nat) : Int)) = true := by rw [bne_iff_ne]; omega
    have hrf : r = false := by rw [← HR.out, decide_eq_false hd]
    subst hrf
    clear hd hne hp hq HR
    generalize xs.length = n at hl hne2
    generalize ys.length = m at hne2
    go_enter Try.func58, Try.ntmps58
    go_wp2
    go_ret
    exact ⟨rfl, Below.refl _ _⟩
end Go.Proofs.Ytahnhohccbnhjaa
