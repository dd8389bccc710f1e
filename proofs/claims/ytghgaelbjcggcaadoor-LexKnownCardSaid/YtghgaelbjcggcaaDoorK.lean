/- The statements' own scanned: a text has these words, of these kinds; awake. -/
import Derived.Test.YtghgaelbjcggcaaDoorZ
import Derived.Test.YtghgaelbjcggcaaDoorT
import Derived.Deep.QuietTactic
import Derived.BigQuiet
namespace Go.Proofs.YtghgaelbjcggcaaDoor
open Go Go.RowKit

/-- A row of ints, of strings, that lies in memory. -/
def IntsIn (w : World) (q : Option Addr) (ks : List Nat) : Prop :=
  ∀ i (h : i < ks.length), ∃ b, q = some ⟨b, 0, none⟩ ∧ b < w.heap.size ∧ w.cell? ⟨b, i, none⟩ = some (.int .i64 (ks[i] : Nat))
def StrsIn (w : World) (q : Option Addr) (ws : List ByteArray) : Prop :=
  ∀ i (h : i < ws.length), ∃ b, q = some ⟨b, 0, none⟩ ∧ b < w.heap.size ∧ w.cell? ⟨b, i, none⟩ = some (.string ws[i])
theorem IntsIn.below {w w' : World} {B : Nat} {q : Option Addr} {ks : List Nat} (h : IntsIn w q ks) (hb : Below B w w') (hB : w.heap.size ≤ B) : IntsIn w' q ks := by
  intro i hi
  obtain ⟨b, h1, h2, h3⟩ := h i hi
  exact ⟨b, h1, Nat.lt_of_lt_of_le h2 hb.size, (hb.cell (p := ⟨b, i, none⟩) (Nat.lt_of_lt_of_le h2 hB)).trans h3⟩
theorem StrsIn.below {w w' : World} {B : Nat} {q : Option Addr} {ks : List ByteArray} (h : StrsIn w q ks) (hb : Below B w w') (hB : w.heap.size ≤ B) : StrsIn w' q ks := by
  intro i hi
  obtain ⟨b, h1, h2, h3⟩ := h i hi
  exact ⟨b, h1, Nat.lt_of_lt_of_le h2 hb.size, (hb.cell (p := ⟨b, i, none⟩) (Nat.lt_of_lt_of_le h2 hB)).trans h3⟩

/-- A text has these words, of these kinds, and no fault. -/
def HasWords (s : ByteArray) (ks : List Nat) (ws : List ByteArray) : Prop :=
  ks.length = ws.length ∧ (allItems s).map (fun x => (x.1.kind, x.1.text, x.2)) = (ks.zip ws).map (fun p => (p.1, bl p.2, 0))
theorem HasWords.rows {s : ByteArray} {ks : List Nat} {ws : List ByteArray} (h : HasWords s ks ws) {ys : List It} (hy : ys.map It.key = allItems s) :
    ys.length = ws.length ∧ ∀ i (h1 : i < ys.length) (h2 : i < ks.length) (h3 : i < ws.length), ys[i].k = ks[i] ∧ ys[i].t = ws[i] := by
  obtain ⟨hl, he⟩ := h
  rw [← hy, List.map_map] at he
  have hlen := congrArg List.length he
  rw [List.length_map, List.length_map, List.length_zip, hl, Nat.min_self] at hlen
  refine ⟨hlen, fun i h1 h2 h3 => ?_⟩
  have hi := congrArg (fun l => l[i]?) he
  simp only [List.getElem?_map] at hi
  rw [List.getElem?_eq_getElem h1, List.getElem?_eq_getElem (by rw [List.length_zip]; omega), List.getElem_zip] at hi
  simp only [Option.map_some, Function.comp, It.key, Option.some.injEq, Prod.mk.injEq] at hi
  exact ⟨hi.1, bl_inj hi.2.1⟩
theorem HasWords.no_err {s : ByteArray} {ks : List Nat} {ws : List ByteArray} (h : HasWords s ks ws) {pr : List It} {x : It} (hp : (pr ++ [x]).map It.key <+: allItems s) (hx : x.e ≠ 0) : False := by
  have hm : x.key ∈ allItems s := hp.subset (by simp)
  have := List.mem_map_of_mem (f := fun x => (x.1.kind, x.1.text, x.2)) hm
  rw [h.2] at this
  obtain ⟨p, _, hp⟩ := List.mem_map.1 this
  exact hx (by have := congrArg (fun z => z.2.2) hp; exact this.symm)

theorem below_drewN {B : Nat} {w w' : World} (h : Below B w w') (n : Nat) : Below B w (w'.drewN n) := by
  obtain ⟨h1, h2, h3, h4, h5⟩ := h
  exact ⟨h1, h2, h3, h4, h5⟩

/-- Scan's words, by steps. -/
def scanF : Nat → List Nat → Nat → List Tok × Nat × Nat
  | 0, _, a => ([], a, 0)
  | _ + 1, [], a => ([], a, 0)
  | n + 1, c :: r, a =>
    if blankB c then scanF n r (a + 1)
    else if c = 35 then scanF n ((c :: r).dropWhile inC) (a + ((c :: r).takeWhile inC).length)
    else if errL (c :: r) ≠ 0 then ([], a, errL (c :: r))
    else (⟨(wordL (c :: r)).2, (c :: r).take (wordL (c :: r)).1, valL (c :: r), a⟩ :: (scanF n ((c :: r).drop (wordL (c :: r)).1) (a + (wordL (c :: r)).1)).1, (scanF n ((c :: r).drop (wordL (c :: r)).1) (a + (wordL (c :: r)).1)).2)
theorem scanF_eq : ∀ (n : Nat) (l : List Nat) (a : Nat), l.length < n → scanF n l a = scanL l a
  | n + 1, [], a, _ => by rw [scanF, scanL]
  | n + 1, c :: r, a, h => by
    rw [List.length_cons] at h
    rw [scanF]
    split
    · rename_i hb
      rw [scanL_blank r a hb, scanF_eq n r _ (by omega)]
    · rename_i hb
      have hb : blankB c = false := by simpa using hb
      split
      · rename_i h35
        subst h35
        have := dropWhile_lt r
        rw [List.length_cons] at this
        rw [scan_comment, scanF_eq n _ _ (by omega)]
      · rename_i h35
        split
        · rename_i he
          rw [scan_err a hb h35 he]
        · rename_i he
          have he : errL (c :: r) = 0 := by omega
          have hd := drop_lt c r _ (errL_word he)
          rw [List.length_cons] at hd
          rw [scan_word a hb h35 he, scanF_eq n _ _ (by omega)]
/-- What Each of a short text tells, by steps. -/
theorem allItems_F (s : ByteArray) (h : s.size ≤ 65536) : allItems s = itemsOf (scanF (s.size + 1) (bl s) 0) := by
  rw [allItems, if_neg (by omega), scanF_eq _ _ _ (by rw [bl_length]; omega)]
theorem hasWords_F (s : ByteArray) (ks : List Nat) (ws : List ByteArray) (h : s.size ≤ 65536) (hl : ks.length = ws.length) (he : (itemsOf (scanF (s.size + 1) (bl s) 0)).map (fun x => (x.1.kind, x.1.text, x.2)) = (ks.zip ws).map (fun p => (p.1, bl p.2, 0))) : HasWords s ks ws :=
  ⟨hl, by rw [allItems_F s h]; exact he⟩
theorem awake_1 : HasWords ⟨#[120, 49, 61, 102, 40, 50, 41, 59]⟩ [1, 4, 1, 4, 3, 4, 4] [⟨#[120, 49]⟩, ⟨#[61]⟩, ⟨#[102]⟩, ⟨#[40]⟩, ⟨#[50]⟩, ⟨#[41]⟩, ⟨#[59]⟩] := hasWords_F _ _ _ (by decide) (by decide) (by decide +kernel)
theorem awake_2 : HasWords ⟨#[105, 102, 32, 97, 60, 61, 98, 32, 35, 32, 99]⟩ [2, 1, 4, 1] [⟨#[105, 102]⟩, ⟨#[97]⟩, ⟨#[60, 61]⟩, ⟨#[98]⟩] := hasWords_F _ _ _ (by decide) (by decide) (by decide +kernel)

theorem intsIn_new (w w' : World) (ks : List Nat) (T : TypeId) (hb : Below (w.heap.size + 1) (w.alloc (.cells ((ks.map fun (k : Nat) => Value.int .i64 (k : Int)).toArray) T)) w') : IntsIn w' (some ⟨w.heap.size, 0, none⟩) ks := by
  intro i hi
  refine ⟨w.heap.size, rfl, Nat.lt_of_lt_of_le (by simp) hb.size, (hb.cell (p := ⟨w.heap.size, i, none⟩) (by simp)).trans ?_⟩
  rw [World.cell?_alloc_new]
  simp [hi]
theorem strsIn_new (w w' : World) (ks : List ByteArray) (T : TypeId) (hb : Below (w.heap.size + 1) (w.alloc (.cells ((ks.map fun k => Value.string k).toArray) T)) w') : StrsIn w' (some ⟨w.heap.size, 0, none⟩) ks := by
  intro i hi
  refine ⟨w.heap.size, rfl, Nat.lt_of_lt_of_le (by simp) hb.size, (hb.cell (p := ⟨w.heap.size, i, none⟩) (by simp)).trans ?_⟩
  rw [World.cell?_alloc_new]
  simp [hi]

set_option maxRecDepth 100000 in
set_option maxHeartbeats 2000000 in
theorem scanned_true (s : ByteArray) (ks : List Nat) (ws : List ByteArray) (hw : HasWords s ks ws) (p q : Option Addr) (c d : Nat) (hn : ws.length ≤ 65537) (w : World) (hE : Env w) (hk : IntsIn w p ks) (hs : StrsIn w q ws) :
    Calls Tryd.prog 13 #[.string s, .slice p ks.length c, .slice q ws.length d] w fun e w' => e = .returned (.bool true) ∧ Below w.heap.size w w' := by
  have hsc := Lib.hid (scan_any s w hE)
  have hkl := hw.1
  obtain ⟨n, hnn⟩ : ∃ n, ws.length = n := ⟨_, rfl⟩
  rw [hnn] at hkl hn
  rw [hkl, hnn]
  have HW := Lib.hid hw
  have HNN := Lib.hid hnn
  have HKL := Lib.hid hkl
  have HK := Lib.hid hk
  have HS := Lib.hid hs
  clear hw hnn hkl hk hs
  go_enter Tryd.func13, Tryd.ntmps13
  go_wp2_with (go_at_call 16; refine hsc.out.mono ?_)
  rintro e w1 ⟨hb1, ⟨ys, r, cc, hy, hx0, rfl, hrow⟩ | ⟨pr, x, hp, hx, rfl⟩⟩
  · obtain ⟨hlen, hel⟩ := HW.out.rows hy
    have hlen' : ys.length = n := by rw [hlen]; exact HNN.out
    have hT := toks_row rfl hrow
    have HT := Lib.hid hT
    have HEL := Lib.hid hel
    have HLEN := Lib.hid hlen'
    have hneq : ((n : Int) != (n : Int)) = false := by simp
    rw [hlen']
    clear hT hel hlen hlen' hrow hy hx0
    have HB := Lib.hid hb1
    clear hb1
    go_wp2
    go_loopw [10] (fun i wr => ∃ k : Nat, k ≤ n ∧ i = .int .i64 k ∧ Below w1.heap.size w1 wr) (fun i _ => n - (intOf i).toNat)
    case atStart => exact ⟨0, Nat.zero_le _, rfl, Below.refl _ _⟩
    case round =>
      obtain ⟨k, hk, rfl, hB⟩ := hrel
      by_cases hlt : k < n
      · have h1 : k < ys.length := by rw [HLEN.out]; exact hlt
        have h2 : k < ks.length := by rw [HKL.out]; exact hlt
        have h3 : k < ws.length := by rw [HNN.out]; exact hlt
        obtain ⟨g1, rfl, hg1, e1, e2, _, _⟩ := (HT.out.below hB (Nat.le_refl _)) k h1
        obtain ⟨g2, rfl, hg2, e3⟩ := ((HK.out.below HB.out (Nat.le_refl _)).below hB (Nat.le_refl _)) k h2
        obtain ⟨g3, rfl, hg3, e4⟩ := ((HS.out.below HB.out (Nat.le_refl _)).below hB (Nat.le_refl _)) k h3
        obtain ⟨hkk, htt⟩ := HEL.out k h1 h2 h3
        rw [hkk] at e1
        rw [htt] at e2
        clear hkk htt hsc
        generalize ks[k] = kk at *
        generalize ws[k] = tt at *
        have hki : (k : Int) < (n : Int) := by omega
        have b1 : (!(tt.toList == tt.toList)) = false := by simp
        have b2 : ((kk : Int) != (kk : Int)) = false := by simp
        go_wp2
        go_quiet (fail)
        go_wp2
        exact ⟨⟨k + 1, by omega, by go_num, below_drewN hB _⟩, by simp [intOf]; omega⟩
      · go_wp2
        go_ret
        exact ⟨rfl, HB.out.trans (hB.mono HB.out.size)⟩
  · exact (HW.out.no_err hp hx).elim

/-- scanned over the two literals that the call before it has laid. -/
theorem scanned_lit (s : ByteArray) (ks : List Nat) (ws : List ByteArray) (hw : HasWords s ks ws) (hn : ws.length ≤ 65537) (w : World) (hE : Env w) (n m : Nat) (hn' : ks.length = n) (hm' : ws.length = m) :
    Calls Tryd.prog 13 #[.string s, .slice (some ⟨w.heap.size, 0, none⟩) n n, .slice (some ⟨w.heap.size + 1, 0, none⟩) m m] ((w.alloc (.cells ((ks.map fun (k : Nat) => Value.int .i64 (k : Int)).toArray) 3)).alloc (.cells ((ws.map fun k => Value.string k).toArray) 9)) fun e w' => e = .returned (.bool true) ∧ Below w.heap.size w w' := by
  subst hn'; subst hm'
  have hB : Below w.heap.size w ((w.alloc (.cells ((ks.map fun (k : Nat) => Value.int .i64 (k : Int)).toArray) 3)).alloc (.cells ((ws.map fun k => Value.string k).toArray) 9)) := ((Below.refl _ w).alloc (Nat.le_refl _) _).alloc (by simp) _
  refine (scanned_true s ks ws hw _ _ _ _ hn _ (hE.below hB hE.lt) (intsIn_new w _ ks 3 ((Below.refl _ _).alloc (by simp) _)) ?_).mono ?_
  · have := strsIn_new (w.alloc (.cells ((ks.map fun (k : Nat) => Value.int .i64 (k : Int)).toArray) 3)) _ ws 9 (Below.refl _ _)
    rwa [World.size_alloc] at this
  · rintro e w' ⟨rfl, hb⟩
    exact ⟨rfl, hB.trans (hb.mono hB.size)⟩

set_option maxRecDepth 100000 in
set_option maxHeartbeats 2000000 in
theorem awake_any (w : World) (hE : Env w) : Calls Tryd.prog 10 #[] w fun e w' => e = .returned (.bool true) ∧ Below w.heap.size w w' := by
  have h1 := Lib.hid (scanned_lit _ _ _ awake_1 (by decide) w hE 7 7 rfl rfl)
  have h2 := Lib.hid (fun W (hE : Env W) => scanned_lit _ _ _ awake_2 (by decide) W hE 4 4 rfl rfl)
  go_enter Tryd.func10, Tryd.ntmps10
  go_wp2_with (go_at_call 13; refine h1.out.mono ?_)
  rintro e w1 ⟨rfl, hb1⟩
  have h3 := Lib.hid (h2.out w1 (hE.below hb1 hE.lt))
  clear h1 h2
  go_wp2_with (go_at_call 13; refine h3.out.mono ?_)
  rintro e w2 ⟨rfl, hb2⟩
  go_wp2
  go_ret
  exact ⟨rfl, hb1.trans (hb2.mono hb1.size)⟩
end Go.Proofs.YtghgaelbjcggcaaDoor
