/- LexKnown: n letters; the place and the error of a text that has words and a fault, or none. -/
import Derived.Test.YtghgaelbjcggcaaDoorK
import Derived.Test.YtghgaelbjcggcaaDoorI
import Derived.Test.YtghgaelbjcggcaaDoorT
namespace Go.Proofs.YtghgaelbjcggcaaDoor
open Go Go.RowKit

attribute [local go_sem] Oper.semAt_some

def nN (k : Nat) : ByteArray := ⟨(List.replicate k 110).toArray⟩
theorem nN_succ (k : Nat) : nN k ++ ⟨#[110]⟩ = nN (k + 1) := by
  apply ByteArray.ext
  rw [ByteArray.data_append]
  unfold nN
  rw [List.replicate_succ', ← List.append_toArray]

set_option maxRecDepth 100000 in
set_option maxHeartbeats 2000000 in
theorem letters_any (n : Nat) (hn : n ≤ 1000) (w : World) : Calls Tryd.prog 15 #[.int .i64 (n : Int)] w fun e w' => e = .returned (.string (nN n)) ∧ Below w.heap.size w w' := by
  go_enter Tryd.func15, Tryd.ntmps15
  go_wp2
  go_loopw [3, 4] (fun t i wr => ∃ k : Nat, k ≤ n ∧ t = .string (nN k) ∧ i = .int .i64 k ∧ Below w.heap.size w wr) (fun _ i _ => n - (intOf i).toNat)
  case atStart => exact ⟨0, Nat.zero_le _, rfl, rfl, Below.refl _ _⟩
  case round =>
    obtain ⟨k, hk, rfl, rfl, hB⟩ := hrel
    by_cases hlt : k < n
    · have hki : (k : Int) < (n : Int) := by omega
      have hsz : (nN k).size = k := by simp [nN, ByteArray.size]
      go_wp2
      exact ⟨⟨k + 1, by omega, by rw [nN_succ], by go_num, hB⟩, by simp [intOf]; omega⟩
    · obtain rfl : k = n := by omega
      go_wp2
      go_ret
      exact ⟨rfl, hB⟩

/-- A text's fault: what Each tells of it ends so. -/
def Fault (s : ByteArray) (pl er : Nat) : Prop := er ≠ 0 ∧ ∃ pre : List (Tok × Nat), allItems s = pre ++ [(⟨0, [], 0, pl⟩, er)] ∧ ∀ p ∈ pre, p.2 = 0
theorem Fault.of {s : ByteArray} {pl er : Nat} (h : Fault s pl er) {pr : List It} {x : It} (hp : (pr ++ [x]).map It.key <+: allItems s) (hx : x.e ≠ 0) : x.a = pl ∧ x.e = er := by
  obtain ⟨_, pre, ha, h0⟩ := h
  rw [List.map_append, List.map_cons, List.map_nil] at hp
  obtain ⟨r, hr⟩ := hp
  have hlen := congrArg List.length hr
  rw [ha] at hr hlen
  simp only [List.length_append, List.length_map, List.length_cons, List.length_nil] at hlen
  by_cases hl : pr.length < pre.length
  · have h1 : (pre ++ [((⟨0, [], 0, pl⟩ : Tok), er)])[pr.length]? = some x.key := by
      rw [← hr, List.append_assoc, List.getElem?_append_right (by simp)]; simp
    rw [List.getElem?_append_left hl] at h1
    exact absurd (h0 _ (List.mem_of_getElem? h1)) hx
  · have h1 : (pre ++ [((⟨0, [], 0, pl⟩ : Tok), er)])[pr.length]? = some x.key := by
      rw [← hr, List.append_assoc, List.getElem?_append_right (by simp)]; simp
    have : pr.length = pre.length := by omega
    rw [this, List.getElem?_append_right (Nat.le_refl _), Nat.sub_self] at h1
    have h2 := Option.some.inj h1
    have h3 := congrArg Prod.snd h2
    have h4 := congrArg (fun z => z.1.at_) h2
    exact ⟨h4.symm, h3.symm⟩
theorem Fault.none {s : ByteArray} {pl er : Nat} (h : Fault s pl er) {ys : List It} (hy : ys.map It.key = allItems s) (h0 : ∀ x ∈ ys, x.e = 0) : False := by
  obtain ⟨he, pre, ha, _⟩ := h
  rw [ha] at hy
  have : ((⟨0, [], 0, pl⟩ : Tok), er) ∈ ys.map It.key := by rw [hy]; simp
  obtain ⟨x, hx, hk⟩ := List.mem_map.1 this
  have h3 : x.e = er := congrArg Prod.snd hk
  exact he (h3.symm.trans (h0 x hx))

theorem results14 (tmps : Array Value) (w : World) (b : Nat) (x y : Int) (h2 : tmps[2]?.getD undef = .pointer (some ⟨b, 0, none⟩)) (c0 : w.cell? ⟨b, 0, none⟩ = some (.int .i64 x)) (c1 : w.cell? ⟨b, 1, none⟩ = some (.int .i64 y)) :
    (results Tryd.f14 tmps).run Tryd.prog w = .ok (.agg #[.int .i64 x, .int .i64 y]) w := by
  simp [results, Tryd.results14, go_sem, h2, c0, c1]
set_option maxRecDepth 100000 in
set_option maxHeartbeats 2000000 in
theorem wrong_err (s : ByteArray) (pl er : Nat) (h : Fault s pl er) (w : World) (hE : Env w) :
    Calls Tryd.prog 14 #[.string s] w fun e w' => e = .returned (.agg #[.int .i64 (pl : Nat), .int .i64 (er : Nat)]) ∧ Below w.heap.size w w' := by
  have hB0 : Below w.heap.size w (w.alloc (.cells #[.int .i64 0, .int .i64 0] 39)) := (Below.refl _ w).alloc (Nat.le_refl _) _
  have hsc := Lib.hid (scan_any s _ (hE.below hB0 hE.lt))
  have HF := Lib.hid h
  clear h
  go_enter Tryd.func14, Tryd.ntmps14
  go_wp2_with (go_at_call 16; refine hsc.out.mono ?_)
  rintro e w1 ⟨hb1, ⟨ys, r, cc, hy, hx0, rfl, hrow⟩ | ⟨pr, x, hp, hx, rfl⟩⟩
  · exact (HF.out.none hy hx0).elim
  · obtain ⟨ha, he⟩ := HF.out.of hp hx
    rw [ha, he]
    have c0 : w1.cell? ⟨w.heap.size, 0, none⟩ = some (.int .i64 0) := (hb1.cell (p := ⟨w.heap.size, 0, none⟩) (by simp)).trans (by simp [go_sem])
    have c1 : w1.cell? ⟨w.heap.size, 1, none⟩ = some (.int .i64 0) := (hb1.cell (p := ⟨w.heap.size, 1, none⟩) (by simp)).trans (by simp [go_sem])
    have f0 : w1.frozen? ⟨w.heap.size, 0, none⟩ = false := (hb1.frozen (p := ⟨w.heap.size, 0, none⟩) (by simp)).trans (by simp [go_sem])
    have f1 : w1.frozen? ⟨w.heap.size, 1, none⟩ = false := (hb1.frozen (p := ⟨w.heap.size, 1, none⟩) (by simp)).trans (by simp [go_sem])
    have HB1 := Lib.hid hb1
    have HB0 := Lib.hid hB0
    clear hp hx ha he hb1 hB0 hsc
    go_wp2
    have d0 : ((w1.setCell ⟨w.heap.size, 0, none⟩ (.int .i64 (pl : Nat))).setCell ⟨w.heap.size, 1, none⟩ (.int .i64 (er : Nat))).cell? ⟨w.heap.size, 0, none⟩ = some (.int .i64 (pl : Nat)) := by simp [go_sem, c0]
    have d1 : ((w1.setCell ⟨w.heap.size, 0, none⟩ (.int .i64 (pl : Nat))).setCell ⟨w.heap.size, 1, none⟩ (.int .i64 (er : Nat))).cell? ⟨w.heap.size, 1, none⟩ = some (.int .i64 (er : Nat)) := by simp [go_sem, c1]
    exact ⟨rfl, _, results14 _ _ w.heap.size _ _ rfl d0 d1, rfl, ((HB0.out.trans (HB1.out.mono HB0.out.size)).setCell (p := ⟨w.heap.size, 0, none⟩) (Nat.le_refl _) _).setCell (p := ⟨w.heap.size, 1, none⟩) (Nat.le_refl _) _⟩

set_option maxRecDepth 100000 in
set_option maxHeartbeats 2000000 in
theorem wrong_ok (s : ByteArray) (h : (allItems s).map Prod.snd = [0]) (w : World) (hE : Env w) :
    Calls Tryd.prog 14 #[.string s] w fun e w' => e = .returned (.agg #[.int .i64 (-1), .int .i64 (-1)]) ∧ Below w.heap.size w w' := by
  have hB0 : Below w.heap.size w (w.alloc (.cells #[.int .i64 0, .int .i64 0] 39)) := (Below.refl _ w).alloc (Nat.le_refl _) _
  have hsc := Lib.hid (scan_any s _ (hE.below hB0 hE.lt))
  have HF := Lib.hid h
  clear h
  go_enter Tryd.func14, Tryd.ntmps14
  go_wp2_with (go_at_call 16; refine hsc.out.mono ?_)
  rintro e w1 ⟨hb1, ⟨ys, r, cc, hy, hx0, rfl, hrow⟩ | ⟨pr, x, hp, hx, rfl⟩⟩
  · have hl : ys.length = 1 := by
      have := congrArg List.length hy
      have h2 := congrArg List.length HF.out
      rw [List.length_map] at this h2
      rw [this, h2]; rfl
    rw [hl]
    have c0 : w1.cell? ⟨w.heap.size, 0, none⟩ = some (.int .i64 0) := (hb1.cell (p := ⟨w.heap.size, 0, none⟩) (by simp)).trans (by simp [go_sem])
    have c1 : w1.cell? ⟨w.heap.size, 1, none⟩ = some (.int .i64 0) := (hb1.cell (p := ⟨w.heap.size, 1, none⟩) (by simp)).trans (by simp [go_sem])
    have f0 : w1.frozen? ⟨w.heap.size, 0, none⟩ = false := (hb1.frozen (p := ⟨w.heap.size, 0, none⟩) (by simp)).trans (by simp [go_sem])
    have f1 : w1.frozen? ⟨w.heap.size, 1, none⟩ = false := (hb1.frozen (p := ⟨w.heap.size, 1, none⟩) (by simp)).trans (by simp [go_sem])
    have HB1 := Lib.hid hb1
    have HB0 := Lib.hid hB0
    clear hy hx0 hrow hl hb1 hB0 hsc
    go_wp2
    have d0 : ((w1.setCell ⟨w.heap.size, 0, none⟩ (.int .i64 (-1))).setCell ⟨w.heap.size, 1, none⟩ (.int .i64 (-1))).cell? ⟨w.heap.size, 0, none⟩ = some (.int .i64 (-1)) := by simp [go_sem, c0]
    have d1 : ((w1.setCell ⟨w.heap.size, 0, none⟩ (.int .i64 (-1))).setCell ⟨w.heap.size, 1, none⟩ (.int .i64 (-1))).cell? ⟨w.heap.size, 1, none⟩ = some (.int .i64 (-1)) := by simp [go_sem, c1]
    exact ⟨rfl, _, results14 _ _ w.heap.size _ _ rfl d0 d1, rfl, ((HB0.out.trans (HB1.out.mono HB0.out.size)).setCell (p := ⟨w.heap.size, 0, none⟩) (Nat.le_refl _) _).setCell (p := ⟨w.heap.size, 1, none⟩) (Nat.le_refl _) _⟩
  · refine (hx ?_).elim
    have := congrArg (fun l => l.map Prod.snd) (List.prefix_iff_eq_take.1 hp)
    simp only [List.map_take, HF.out] at this
    have hm : x.e ∈ ((pr ++ [x]).map It.key).map Prod.snd := by simp [It.key]
    rw [this] at hm
    simpa using List.mem_of_mem_take hm

/-! # The chapter's examples -/
theorem fault_F (s : ByteArray) (pl er : Nat) (h : s.size ≤ 65536) (he : er ≠ 0) (h1 : itemsOf (scanF (s.size + 1) (bl s) 0) = (itemsOf (scanF (s.size + 1) (bl s) 0)).dropLast ++ [(⟨0, [], 0, pl⟩, er)]) (h2 : ((itemsOf (scanF (s.size + 1) (bl s) 0)).dropLast.all fun p => p.2 == 0) = true) : Fault s pl er :=
  ⟨he, _, (allItems_F s h).trans h1, fun p hp => by simpa using List.all_eq_true.1 h2 p hp⟩
theorem known_1 : HasWords ⟨#[97, 60, 60, 61, 49]⟩ [1, 4, 4, 3] [⟨#[97]⟩, ⟨#[60, 60]⟩, ⟨#[61]⟩, ⟨#[49]⟩] := hasWords_F _ _ _ (by decide) (by decide) (by decide +kernel)
theorem known_2 : HasWords ⟨#[49, 50, 97, 98]⟩ [3, 1] [⟨#[49, 50]⟩, ⟨#[97, 98]⟩] := hasWords_F _ _ _ (by decide) (by decide) (by decide +kernel)
theorem known_3 : HasWords ⟨#[33, 61, 61]⟩ [4, 4] [⟨#[33, 61]⟩, ⟨#[61]⟩] := hasWords_F _ _ _ (by decide) (by decide) (by decide +kernel)
theorem known_4 : HasWords ⟨#[]⟩ [] [] := hasWords_F _ _ _ (by decide) (by decide) (by decide +kernel)
theorem known_5 : HasWords ⟨#[35, 10, 95]⟩ [1] [⟨#[95]⟩] := hasWords_F _ _ _ (by decide) (by decide) (by decide +kernel)
theorem wrong_1 : Fault ⟨#[97, 32, 62, 32, 98]⟩ 2 40 := fault_F _ _ _ (by decide) (by decide) (by decide +kernel) (by decide +kernel)
theorem wrong_2 : Fault ⟨#[65]⟩ 0 40 := fault_F _ _ _ (by decide) (by decide) (by decide +kernel) (by decide +kernel)
theorem wrong_3 : Fault ⟨#[34]⟩ 0 40 := fault_F _ _ _ (by decide) (by decide) (by decide +kernel) (by decide +kernel)
theorem wrong_4 : Fault ⟨#[97, 46, 98]⟩ 1 40 := fault_F _ _ _ (by decide) (by decide) (by decide +kernel) (by decide +kernel)
theorem wrong_5 : Fault (⟨#[32]⟩ ++ nN 33) 1 3 := fault_F _ _ _ (by decide +kernel) (by decide) (by decide +kernel) (by decide +kernel)
theorem wrong_6 : (allItems (nN 32)).map Prod.snd = [0] := by rw [allItems_F _ (by decide +kernel)]; decide +kernel
theorem wrong_7 : Fault ⟨#[57, 50, 50, 51, 51, 55, 50, 48, 51, 54, 56, 53, 52, 55, 55, 53, 56, 48, 56]⟩ 0 3 := fault_F _ _ _ (by decide) (by decide) (by decide +kernel) (by decide +kernel)
theorem wrong_8 (s : ByteArray) (h : 65536 < s.size) : Fault s 0 3 := ⟨by decide, [], by rw [allItems, if_pos h]; rfl, fun _ h => by cases h⟩
theorem is_1 : isL (bl ⟨#[119, 104, 105, 108, 101]⟩) = 2 := by decide +kernel
theorem is_2 : isL (bl ⟨#[119, 104, 105, 108, 101, 120]⟩) = 1 := by decide +kernel
theorem is_3 : isL (bl ⟨#[61]⟩) = 4 := by decide +kernel
theorem is_4 : isL (bl ⟨#[61, 61, 61]⟩) = 0 := by decide +kernel
theorem is_5 : isL (bl ⟨#[55]⟩) = 3 := by decide +kernel
theorem is_6 : isL (bl ⟨#[55, 32]⟩) = 0 := by decide +kernel
theorem is_7 : isL (bl ⟨#[]⟩) = 0 := by decide +kernel
/-- "007 9223372036854775807" -/
def two : ByteArray := ⟨#[48, 48, 55, 32, 57, 50, 50, 51, 51, 55, 50, 48, 51, 54, 56, 53, 52, 55, 55, 53, 56, 48, 55]⟩
theorem two_items : allItems two = [(⟨3, [48, 48, 55], 7, 0⟩, 0), (⟨3, [57, 50, 50, 51, 51, 55, 50, 48, 51, 54, 56, 53, 52, 55, 55, 53, 56, 48, 55], 9223372036854775807, 4⟩, 0)] := by rw [allItems_F _ (by decide)]; decide +kernel
end Go.Proofs.YtghgaelbjcggcaaDoor
