/- What the statements' own helpers say: put, putSigned, wrong, times, awake; in every memory. -/
import Derived.Test.YtfmeclfoknjheaaH
namespace Go.Proofs.Ytfmeclfoknjheaa
open Go Go.RowKit

/-- A list that was written down. -/
theorem lit_in (W : World) (cs : Array Value) (l : List Nat) (h : cs.toList = bv l) : ByIn (W.alloc (.cells cs 5)).heap.size (W.alloc (.cells cs 5)) (some ⟨W.heap.size, 0, none⟩) l := by
  have hl : cs.size = l.length := by rw [← Array.length_toList, h, bv_length]
  intro i hi
  refine ⟨W.heap.size, 0, rfl, by simp, ?_⟩
  rw [Nat.zero_add, World.cell?_alloc_new, ← Array.getElem?_toList, h]
  simp only [bv, List.getElem?_map, List.getD_eq_getElem?_getD]
  rw [List.getElem?_eq_getElem hi]; rfl

set_option maxRecDepth 100000 in
theorem lput_any (n : Nat) (hn : n < W64) (p : Option Addr) (c : Nat) (ws : List Nat) (w : World) (hp : ByIn w.heap.size w p ws) :
    Calls Try.prog 33 #[.int .u64 n, .slice p ws.length c] w fun e w' => e = .returned (.bool (decide (putU n = ws))) ∧ Below w.heap.size w w' := by
  have h1 := Lib.hid (Put_any none 0 [] n hn (.inl ⟨rfl, rfl, rfl⟩) (by simp) w (ByIn.nil _ _ _))
  have h10 := putU_ten hn
  have h2 := Lib.hid (fun (w1 : World) (q : Option Addr) (d : Nat) (hO : OwnB w.heap.size w1 (.slice q (putU n).length d) (putU n)) (hB : Below w.heap.size w w1) =>
    bytes_any q p d c (putU n) ws (by unfold maxLen; omega) w1 hO.in (hp.below hB (Nat.le_refl _) hB.size))
  clear hp h10
  rw [List.nil_append] at h1
  generalize decide (putU n = ws) = r at h2 ⊢
  generalize putU n = l at h1 h2
  generalize ws.length = m at h2 ⊢
  go_enter Try.func33, Try.ntmps33
  go_wp2_with fail
  refine h1.out.mono ?_
  rintro e w1 ⟨v, rfl, hO, hB⟩
  clear h1
  obtain ⟨q, d, rfl⟩ := hO.slice
  have h3 := Lib.hid (h2.out w1 q d hO hB)
  clear h2 hO
  go_wp2_with fail
  refine h3.out.mono ?_
  rintro e w2 ⟨rfl, hB2⟩
  go_wp2_with fail
  go_ret
  exact ⟨rfl, hB.trans (hB2.mono hB.size)⟩

set_option maxRecDepth 100000 in
theorem lputSigned_any (n : Int) (hn1 : -9223372036854775808 ≤ n) (hn2 : n < 9223372036854775808) (p : Option Addr) (c : Nat) (ws : List Nat) (w : World) (hp : ByIn w.heap.size w p ws) :
    Calls Try.prog 35 #[.int .i64 n, .slice p ws.length c] w fun e w' => e = .returned (.bool (decide (putS n = ws))) ∧ Below w.heap.size w w' := by
  have h1 := Lib.hid (PutSigned_any none 0 [] n hn1 hn2 (.inl ⟨rfl, rfl, rfl⟩) (by simp) w (ByIn.nil _ _ _))
  have h10 := putS_ten hn1 hn2
  have h2 := Lib.hid (fun (w1 : World) (q : Option Addr) (d : Nat) (hO : OwnB w.heap.size w1 (.slice q (putS n).length d) (putS n)) (hB : Below w.heap.size w w1) =>
    bytes_any q p d c (putS n) ws (by unfold maxLen; omega) w1 hO.in (hp.below hB (Nat.le_refl _) hB.size))
  clear hp h10
  rw [List.nil_append] at h1
  generalize decide (putS n = ws) = r at h2 ⊢
  generalize putS n = l at h1 h2
  generalize ws.length = m at h2 ⊢
  go_enter Try.func35, Try.ntmps35
  go_wp2_with fail
  refine h1.out.mono ?_
  rintro e w1 ⟨v, rfl, hO, hB⟩
  clear h1
  obtain ⟨q, d, rfl⟩ := hO.slice
  have h3 := Lib.hid (h2.out w1 q d hO hB)
  clear h2 hO
  go_wp2_with fail
  refine h3.out.mono ?_
  rintro e w2 ⟨rfl, hB2⟩
  go_wp2_with fail
  go_ret
  exact ⟨rfl, hB.trans (hB2.mono hB.size)⟩

theorem put128 : putU 128 = [128, 1] := by rw [putU_big (by omega), putU_small (by omega)]
theorem putm65 : putS (-65) = [191, 127] := by rw [putS_big (by omega), putS_small (by omega)]; rfl
theorem get128 : getU [128, 1, 5] = (128, 2, 0) := by
  have := getU_put 128 (by decide) [5]
  rw [put128] at this
  exact this
theorem bytes_small {l : List Nat} (h : l.all (· < 256) = true) : bytesL l := fun x hx => by
  have := List.all_eq_true.1 h x hx
  simpa using this

theorem below_lit (W : World) (o : Obj) {w' : World} (h : Below (W.alloc o).heap.size (W.alloc o) w') : Below W.heap.size W w' :=
  ((Below.refl _ W).alloc (Nat.le_refl _) o).trans (h.mono (by simp))
/-- put, putSigned and wrong at a list that was written down. -/
theorem lput_lit (n : Nat) (hn : n < W64) (cs : Array Value) (ws : List Nat) (h : cs.toList = bv ws) (c : Nat) (r : Bool) (hr : decide (putU n = ws) = r) (W : World) :
    Calls Try.prog 33 #[.int .u64 n, .slice (some ⟨W.heap.size, 0, none⟩) ws.length c] (W.alloc (.cells cs 5)) fun e w' => e = .returned (.bool r) ∧ Below W.heap.size W w' :=
  (lput_any n hn _ c ws _ (lit_in W cs ws h)).mono fun e w' hh => ⟨by rw [hh.1, hr], below_lit W _ hh.2⟩
theorem lputSigned_lit (n : Int) (hn1 : -9223372036854775808 ≤ n) (hn2 : n < 9223372036854775808) (cs : Array Value) (ws : List Nat) (h : cs.toList = bv ws) (c : Nat) (r : Bool) (hr : decide (putS n = ws) = r) (W : World) :
    Calls Try.prog 35 #[.int .i64 n, .slice (some ⟨W.heap.size, 0, none⟩) ws.length c] (W.alloc (.cells cs 5)) fun e w' => e = .returned (.bool r) ∧ Below W.heap.size W w' :=
  (lputSigned_any n hn1 hn2 _ c ws _ (lit_in W cs ws h)).mono fun e w' hh => ⟨by rw [hh.1, hr], below_lit W _ hh.2⟩
theorem Get_lit (cs : Array Value) (ws : List Nat) (h : cs.toList = bv ws) (hb : bytesL ws) (c : Nat) (hc : ws.length ≤ c) (hm : c ≤ maxLen) (r : Nat × Nat × Nat) (hr : getU ws = r) (W : World) :
    Calls Try.prog 19 #[.slice (some ⟨W.heap.size, 0, none⟩) ws.length c] (W.alloc (.cells cs 5)) fun e w' => e = .returned (.tuple #[.int .u64 (r.1 : Nat), .int .i64 (r.2.1 : Nat), .int .i64 (r.2.2 : Nat)]) ∧ Below W.heap.size W w' :=
  (Get_any _ c ws hb hc hm _ (lit_in W cs ws h)).mono fun e w' hh => ⟨by rw [hh.1, hr], below_lit W _ hh.2⟩
theorem GetSigned_lit (cs : Array Value) (ws : List Nat) (h : cs.toList = bv ws) (hb : bytesL ws) (c : Nat) (hc : ws.length ≤ c) (hm : c ≤ maxLen) (r : Int × Nat × Nat) (hr : getS ws = r) (W : World) :
    Calls Try.prog 20 #[.slice (some ⟨W.heap.size, 0, none⟩) ws.length c] (W.alloc (.cells cs 5)) fun e w' => e = .returned (.tuple #[.int .i64 r.1, .int .i64 (r.2.1 : Nat), .int .i64 (r.2.2 : Nat)]) ∧ Below W.heap.size W w' :=
  (GetSigned_any _ c ws hb hc hm _ (lit_in W cs ws h)).mono fun e w' hh => ⟨by rw [hh.1, hr], below_lit W _ hh.2⟩

set_option maxRecDepth 100000 in
theorem awake_any (w : World) : Calls Try.prog 18 #[] w fun e w' => e = .returned (.bool true) ∧ Below w.heap.size w w' := by
  have h1 := Lib.hid (Get_lit #[.int .u8 128, .int .u8 1, .int .u8 5] [128, 1, 5] rfl (bytes_small rfl) 3 (by simp) (by unfold maxLen; omega) _ get128 w)
  have h2 := Lib.hid (lput_lit 128 (by decide) #[.int .u8 128, .int .u8 1] [128, 1] rfl 2 true (decide_eq_true put128))
  have h3 := Lib.hid (lputSigned_lit (-65) (by decide) (by decide) #[.int .u8 191, .int .u8 127] [191, 127] rfl 2 true (decide_eq_true putm65))
  go_enter Try.func18, Try.ntmps18
  go_wp2_with fail
  refine h1.out.mono ?_
  rintro e w1 ⟨rfl, hB1⟩
  clear h1
  go_wp2_with fail
  refine (h2.out _).mono ?_
  rintro e w2 ⟨rfl, hB2⟩
  clear h2
  go_wp2_with fail
  refine (h3.out _).mono ?_
  rintro e w3 ⟨rfl, hB3⟩
  clear h3
  go_wp2
  go_ret
  exact ⟨rfl, hB1.trans ((hB2.mono hB1.size).trans (hB3.mono (Nat.le_trans hB1.size hB2.size)))⟩
end Go.Proofs.Ytfmeclfoknjheaa
