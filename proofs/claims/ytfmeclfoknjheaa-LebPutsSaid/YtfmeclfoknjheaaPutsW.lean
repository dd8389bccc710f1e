/- LebPuts: the law's walk, in every memory. -/
import Derived.Test.YtfmeclfoknjheaaAp
import Derived.Test.YtfmeclfoknjheaaT
namespace Go.Proofs.Ytfmeclfoknjheaa
open Go Go.RowKit

/-- What was put, what is wanted, what was lent out and what came in. -/
structure Pt (w wr : World) (B q0 : Nat) (ns : List Nat) (p : Option Addr) (x y z : Value) (LX LY : List Nat) : Prop where
  low : Below w.heap.size w wr
  big : w.heap.size ≤ B
  bsz : B ≤ wr.heap.size
  qB : q0 < B
  x : OwnB B wr x LX
  y : OwnB B wr y LY
  z : OwnB B wr z LX
  inn : ByIn wr.heap.size wr (some ⟨q0, 0, none⟩) ns
  mark : wr.cell? ⟨q0, ns.length, none⟩ = some (.int .u8 201)
  old : ByIn wr.heap.size wr p ns
theorem Pt.next {w wr w' : World} {B q0 : Nat} {ns : List Nat} {p : Option Addr} {x y z : Value} {LX LY : List Nat} (h : Pt w wr B q0 ns p x y z LX LY) (hb : Below wr.heap.size wr w') : Pt w w' B q0 ns p x y z LX LY :=
  ⟨h.low.trans (hb.mono h.low.size), h.big, Nat.le_trans h.bsz hb.size, h.qB, h.x.stay hb, h.y.stay hb, h.z.stay hb, h.inn.below hb (Nat.le_refl _) hb.size,
    (hb.cell (World.block_lt_of_cell? _ _ h.mark)).trans h.mark, h.old.below hb (Nat.le_refl _) hb.size⟩

theorem bytes_len (q q2 : Option Addr) (d d2 : Nat) (l : List Nat) (L : Nat) (hL : l.length = L) (hm : L ≤ maxLen) (W : World) (h1 : ByIn W.heap.size W q l) (h2 : ByIn W.heap.size W q2 l) :
    Calls Try.prog 13 #[.slice q L d, .slice q2 L d2] W fun e w' => e = .returned (.bool true) ∧ Below W.heap.size W w' := by
  subst hL
  exact (bytes_any q q2 d d2 l l hm W h1 h2).mono fun e w' h => ⟨by rw [h.1, decide_eq_true rfl], h.2⟩
theorem kept_len (q : Nat) (p : Option Addr) (cap d : Nat) (ns : List Nat) (N : Nat) (hN : ns.length = N) (hl : N + 1 ≤ cap) (hm : cap ≤ maxLen) (w : World) (hq : ByIn w.heap.size w (some ⟨q, 0, none⟩) ns) (hp : ByIn w.heap.size w p ns) (hlt : q < w.heap.size)
    (hk : w.cell? ⟨q, ns.length, none⟩ = some (.int .u8 201)) :
    Calls Try.prog 16 #[.slice (some ⟨q, 0, none⟩) N cap, .slice p N d] w fun e w' => e = .returned (.bool true) ∧ Below w.heap.size w w' := by
  subst hN
  exact kept_any q p cap d ns hl hm w hq hp hlt hk
def f3 {α : Type} (a b c : α) : Nat → α := fun q => if q = 0 then a else if q = 1 then b else c
theorem all3 {P : Nat → Prop} (h0 : P 0) (h1 : P 1) (h2 : P 2) : ∀ q, q < 3 → P q := fun q hq => by
  rcases (show q = 0 ∨ q = 1 ∨ q = 2 by omega) with rfl | rfl | rfl <;> assumption
/-- The three lists, as they are handed to ApartBytes. -/
theorem apart_three (B bx by' bz lx ly cx cy cz : Nat) (LX LY : List Nat) (hlx : LX.length = lx) (hly : LY.length = ly) (hd1 : bx < by') (hd2 : by' < bz) (hmx : lx + 70 ≤ 140737488355328) (hmy : ly + 70 ≤ 140737488355328) (w : World) (hB : B ≤ w.heap.size)
    (hx : OwnB B w (.slice (some ⟨bx, 0, none⟩) lx cx) LX) (hy : OwnB B w (.slice (some ⟨by', 0, none⟩) ly cy) LY) (hz : OwnB B w (.slice (some ⟨bz, 0, none⟩) lx cz) LX) :
    Calls Try.prog 17 #[.slice (some ⟨w.heap.size, 0, none⟩) 3 3] (w.alloc (.cells #[.slice (some ⟨bx, 0, none⟩) lx cx, .slice (some ⟨by', 0, none⟩) ly cy, .slice (some ⟨bz, 0, none⟩) lx cz] 22)) fun e w' => e = .returned (.bool true) ∧ Below B w w' := by
  have hx2 := (hx.lt bx rfl).2
  have hy2 := (hy.lt by' rfl).2
  have hz2 := (hz.lt bz rfl).2
  have hW : Below B w (w.alloc (.cells #[.slice (some ⟨bx, 0, none⟩) lx cx, .slice (some ⟨by', 0, none⟩) ly cy, .slice (some ⟨bz, 0, none⟩) lx cz] 22)) := (Below.refl _ _).alloc hB _
  refine (apart_any w.heap.size B (f3 bx by' bz) (f3 lx ly lx) (f3 cx cy cz) (f3 LX LY LX) (all3 (P := fun q => ¬ w.heap.size = f3 bx by' bz q) (by show ¬ w.heap.size = bx; omega) (by show ¬ w.heap.size = by'; omega) (by show ¬ w.heap.size = bz; omega)) ?_
    (all3 (P := fun q => f3 lx ly lx q + 70 ≤ 140737488355328) hmx hmy hmx) 3 _ (Nat.le_trans hB hW.size) ⟨?_, ?_, ?_, Below.refl _ _⟩).mono fun e w' h => ⟨h.1, hW.trans h.2⟩
  · intro q r hq hr
    rcases (show q = 0 ∨ q = 1 ∨ q = 2 by omega) with rfl | rfl | rfl <;> rcases (show r = 0 ∨ r = 1 ∨ r = 2 by omega) with rfl | rfl | rfl <;> simp [f3] <;> omega
  · refine all3 (P := fun q => World.cell? _ ⟨w.heap.size, q, none⟩ = some (.slice (some ⟨f3 bx by' bz q, 0, none⟩) (f3 lx ly lx q) (f3 cx cy cz q))) ?_ ?_ ?_ <;> rw [World.cell?_alloc_new] <;> rfl
  · exact all3 (P := fun q => OwnB B _ (.slice (some ⟨f3 bx by' bz q, 0, none⟩) (f3 lx ly lx q) (f3 cx cy cz q)) (f3 LX LY LX q)) (hx.alloc _) (hy.alloc _) (hz.alloc _)
  · exact all3 (P := fun q => (f3 LX LY LX q).length = f3 lx ly lx q) hlx hly hlx

set_option maxRecDepth 100000 in
set_option maxHeartbeats 4000000 in
theorem puts_any (p : Option Addr) (c : Nat) (ns : List Nat) (hp : (p = none ∧ ns = [] ∧ c = 0) ∨ ∃ ad, p = some ad) (hb : ns.length + 200 ≤ 140737488355328) (n : Nat) (hn : n < W64) (m : Int) (hm1 : -9223372036854775808 ≤ m) (hm2 : m < 9223372036854775808)
    (w : World) (hs : ByIn w.heap.size w p ns) :
    Calls Try.prog 3 #[.slice p ns.length c, .int .u64 n, .int .i64 m] w fun e w' => e = .returned (.bool true) ∧ Below w.heap.size w w' := by
  have hku := putU_ten hn
  have hks := putS_ten hm1 hm2
  have hku0 := List.length_pos_iff.2 (putU_ne n)
  have hks0 := List.length_pos_iff.2 (putS_ne m)
  have h1 := Lib.hid (lent_any p c ns hp (by omega) w hs)
  have HS := Lib.hid hs
  have HP := Lib.hid hp
  have HN := Lib.hid (And.intro hn (And.intro hm1 hm2))
  clear hs hp hn hm1 hm2
  obtain ⟨N, hN⟩ : ∃ N, ns.length = N := ⟨_, rfl⟩
  obtain ⟨ku, hkue⟩ : ∃ k, (putU n).length = k := ⟨_, rfl⟩
  obtain ⟨ks, hkse⟩ : ∃ k, (putS m).length = k := ⟨_, rfl⟩
  have HL := Lib.hid (And.intro hN (And.intro hkue hkse))
  rw [hN] at hb h1 ⊢
  rw [hkue] at hku hku0
  rw [hkse] at hks hks0
  clear hN hkue hkse
  go_enter Try.func3, Try.ntmps3
  go_wp2_with fail
  refine h1.out.mono ?_
  rintro e w1 ⟨q0, cap1, rfl, hq0, hcap1, hrow, hB1⟩
  have hrow' := hrow
  rw [← HL.out.1] at hrow'
  obtain ⟨hin, hk, hq, hc1, hcm⟩ := lent_row hrow'
  have HI := Lib.hid (And.intro hin (And.intro hk hB1))
  have hX := Put_any (some ⟨q0, 0, none⟩) cap1 ns n HN.out.1 (.inr ⟨_, rfl⟩) (by have := HL.out.1; omega) w1 hin
  rw [HL.out.1] at hX
  have HX := Lib.hid hX
  clear h1 hrow hrow' hin hk hX hB1 hc1
  go_wp2_with fail
  refine HX.out.mono ?_
  rintro e w2 ⟨x, rfl, hOx, hB2⟩
  have hY := PutSigned_any (some ⟨q0, 0, none⟩) cap1 ns m HN.out.2.1 HN.out.2.2 (.inr ⟨_, rfl⟩) (by have := HL.out.1; omega) w2 (HI.out.1.below hB2 (Nat.le_refl _) hB2.size)
  rw [HL.out.1] at hY
  have HY := Lib.hid hY
  have HX2 := Lib.hid (And.intro hOx hB2)
  clear hY hOx hB2 HX
  go_wp2_with fail
  refine HY.out.mono ?_
  rintro e w3 ⟨y, rfl, hOy, hB3⟩
  have hB13 := HX2.out.2.trans (hB3.mono HX2.out.2.size)
  have hZ := Put_any (some ⟨q0, 0, none⟩) cap1 ns n HN.out.1 (.inr ⟨_, rfl⟩) (by have := HL.out.1; omega) w3 (HI.out.1.below hB13 (Nat.le_refl _) hB13.size)
  rw [HL.out.1] at hZ
  have HZ := Lib.hid hZ
  have HY2 := Lib.hid (And.intro hOy (And.intro hB3 hB13))
  clear hZ hOy hB3 hB13 HY
  go_wp2_with fail
  refine HZ.out.mono ?_
  rintro e w4 ⟨z, rfl, hOz, hB4⟩
  have hB34 := hB4
  have hB14 := HY2.out.2.2.trans (hB4.mono HY2.out.2.2.size)
  have hB24 := HY2.out.2.1.trans (hB4.mono HY2.out.2.1.size)
  have hpt : Pt w w4 w1.heap.size q0 ns p x y z (ns ++ putU n) (ns ++ putS m) :=
    ⟨HI.out.2.2.trans (hB14.mono HI.out.2.2.size), HI.out.2.2.size, hB14.size, hq, HX2.out.1.stay hB24, (HY2.out.1.base HX2.out.2.size).stay hB4, hOz.base HY2.out.2.2.size,
      HI.out.1.below hB14 (Nat.le_refl _) hB14.size, (hB14.cell (p := ⟨q0, ns.length, none⟩) hq).trans HI.out.2.1, HS.out.below (HI.out.2.2.trans (hB14.mono HI.out.2.2.size)) (Nat.le_refl _) (Nat.le_trans HI.out.2.2.size hB14.size)⟩
  have HT := Lib.hid hpt
  have hne1 : 0 < (ns ++ putU n).length := by have := HL.out; rw [List.length_append]; omega
  have hne2 : 0 < (ns ++ putS m).length := by have := HL.out; rw [List.length_append]; omega
  obtain ⟨bx, cx, rfl, _⟩ := row_form HX2.out.1 hne1
  obtain ⟨by', cy, rfl, _⟩ := row_form HY2.out.1 hne2
  obtain ⟨bz, cz, rfl, _⟩ := row_form hOz hne1
  have HD := Lib.hid (show bx < by' ∧ by' < bz from ⟨Nat.lt_of_lt_of_le (HX2.out.1.lt bx rfl).2 (HY2.out.1.lt by' rfl).1, Nat.lt_of_lt_of_le (HY2.out.1.lt by' rfl).2 (hOz.lt bz rfl).1⟩)
  clear hne1 hne2
  have hlx : (ns ++ putU n).length = N + ku := by rw [List.length_append, HL.out.1, HL.out.2.1]
  have hly : (ns ++ putS m).length = N + ks := by rw [List.length_append, HL.out.1, HL.out.2.2]
  rw [hlx, hly] at HT
  have HLL := Lib.hid (And.intro hlx hly)
  rw [hlx, hly]
  clear hpt hOz hB4 hB34 hB14 hB24 HX2 HY2 HZ HI hlx hly
  have HR := Lib.hid (refPut_any n HN.out.1)
  go_wp2_with fail
  refine (HR.out w4).mono ?_
  rintro e w5 ⟨vp, rfl, hOp, hB5⟩
  have HT5 := Lib.hid (HT.out.next hB5)
  obtain ⟨gp, cp, rfl, _⟩ := row_form hOp (by have := HL.out; omega)
  have hOp' := hOp
  rw [HL.out.2.1] at hOp ⊢
  have HOp := Lib.hid hOp
  clear HR HT hB5 hOp'
  have HR := Lib.hid (refPutSigned_any m HN.out.2.1 HN.out.2.2)
  go_wp2_with fail
  refine (HR.out w5).mono ?_
  rintro e w6 ⟨vq, rfl, hOq, hB6⟩
  have HT6 := Lib.hid (HT5.out.next hB6)
  obtain ⟨gq, cq, rfl, _⟩ := row_form hOq (by have := HL.out; omega)
  rw [HL.out.2.2] at hOq ⊢
  have HOp6 := Lib.hid (HOp.out.stay hB6)
  have HOq := Lib.hid hOq
  clear HR HT5 hB6 hOq hOp HOp
  have hnil : OwnB w6.heap.size w6 (.slice none 0 0) [] := World.ownsRow_nil _ _ _ _
  go_wp2_with (at_builtin; refine wpList_bytes_two rfl _ _ rfl w6.heap.size (.slice none 0 0) [] rfl hnil p N c ns HL.out.1 rfl HP.out _ HT6.out.old (by have := HL.out.1; simp; omega) (Nat.le_refl _) ?_)
  intro v7 w7 hO7 hB7
  have HT7 := Lib.hid (HT6.out.next hB7)
  have HOp7 := Lib.hid (HOp6.out.stay hB7)
  have HOq7 := Lib.hid (HOq.out.stay hB7)
  have hsz7 := hB7.size
  have HB7 := Lib.hid hB7
  have hin7 := HT7.out.old
  clear HOp6 hB7 hnil HT7 HOq7
  go_wp2_with (at_builtin; refine wpList_bytes_two rfl _ _ rfl w6.heap.size v7 ns rfl hO7 (some ⟨gp, 0, none⟩) ku cp (putU n) HL.out.2.1 rfl (.inr ⟨_, rfl⟩) w7.heap.size (row_in (n := ku) HOp7.out) (by have := HL.out; omega) hsz7 ?_)
  intro v8 w8 hO8 hB8
  have hB68 := HB7.out.trans hB8
  have HT8 := Lib.hid (HT6.out.next hB68)
  have HOq8 := Lib.hid (HOq.out.stay hB68)
  have hwslice := hO8.slice
  rw [HLL.out.1] at hwslice
  obtain ⟨qw, cw, rfl⟩ := hwslice
  have HOw := Lib.hid hO8
  have hsz8 := hB68.size
  clear HT6 HOq hB8 hB68 hO8 hO7 HOp7 HB7 hin7 hsz7
  have hnil : OwnB w8.heap.size w8 (.slice none 0 0) [] := World.ownsRow_nil _ _ _ _
  go_wp2_with (at_builtin; refine wpList_bytes_two rfl _ _ rfl w8.heap.size (.slice none 0 0) [] rfl hnil p N c ns HL.out.1 rfl HP.out _ HT8.out.old (by have := HL.out.1; simp; omega) (Nat.le_refl _) ?_)
  intro v9 w9 hO9 hB9
  have HOq9 := Lib.hid (HOq8.out.stay hB9)
  have HB9 := Lib.hid hB9
  have hsz9 := hB9.size
  clear hnil hB9
  go_wp2_with (at_builtin; refine wpList_bytes_two rfl _ _ rfl w8.heap.size v9 ns rfl hO9 (some ⟨gq, 0, none⟩) ks cq (putS m) HL.out.2.2 rfl (.inr ⟨_, rfl⟩) w9.heap.size (row_in (n := ks) HOq9.out) (by have := HL.out; omega) hsz9 ?_)
  intro v10 w10 hO10 hB10
  have hB810 := HB9.out.trans hB10
  have hoslice := hO10.slice
  rw [HLL.out.2] at hoslice
  obtain ⟨qo, co, rfl⟩ := hoslice
  have HT10 := Lib.hid (HT8.out.next hB810)
  have HW10 := Lib.hid (And.intro (HOw.out.stay hB810) hO10)
  clear HT8 HOq8 HOq9 HB9 hB10 hB810 hO10 hO9 hsz9 hsz8 HOw
  have HK := Lib.hid (bytes_len (some ⟨bx, 0, none⟩) qw cx cw (ns ++ putU n) (N + ku) HLL.out.1 (by unfold maxLen; omega) w10 HT10.out.x.in HW10.out.1.in)
  go_wp2_with fail
  refine HK.out.mono ?_
  rintro e w11 ⟨rfl, hb⟩
  have HT11 := Lib.hid (HT10.out.next hb)
  have HW11 := Lib.hid (And.intro (HW10.out.1.stay hb) (HW10.out.2.stay hb))
  clear hb HK HT10 HW10
  have HK := Lib.hid (bytes_len (some ⟨by', 0, none⟩) qo cy co (ns ++ putS m) (N + ks) HLL.out.2 (by unfold maxLen; omega) w11 HT11.out.y.in HW11.out.2.in)
  go_wp2_with fail
  refine HK.out.mono ?_
  rintro e w12 ⟨rfl, hb⟩
  have HT12 := Lib.hid (HT11.out.next hb)
  have HW12 := Lib.hid (And.intro (HW11.out.1.stay hb) (HW11.out.2.stay hb))
  clear hb HK HT11 HW11
  have HK := Lib.hid (bytes_len (some ⟨bz, 0, none⟩) qw cz cw (ns ++ putU n) (N + ku) HLL.out.1 (by unfold maxLen; omega) w12 HT12.out.z.in HW12.out.1.in)
  go_wp2_with fail
  refine HK.out.mono ?_
  rintro e w13 ⟨rfl, hb⟩
  have HT13 := Lib.hid (HT12.out.next hb)
  have HW13 := Lib.hid (And.intro (HW12.out.1.stay hb) (HW12.out.2.stay hb))
  clear hb HK HT12 HW12
  have HK := Lib.hid (Size_any n HN.out.1 w13)
  rw [HL.out.2.1] at HK
  go_wp2_with fail
  refine HK.out.mono ?_
  rintro e w14 ⟨rfl, hb⟩
  have HT14 := Lib.hid (HT13.out.next hb)
  have HW14 := Lib.hid (And.intro (HW13.out.1.stay hb) (HW13.out.2.stay hb))
  clear hb HK HT13 HW13
  have HK := Lib.hid (SizeSigned_any m HN.out.2.1 HN.out.2.2 w14)
  rw [HL.out.2.2] at HK
  go_wp2_with fail
  refine HK.out.mono ?_
  rintro e w15 ⟨rfl, hb⟩
  have HT15 := Lib.hid (HT14.out.next hb)
  have HW15 := Lib.hid (And.intro (HW14.out.1.stay hb) (HW14.out.2.stay hb))
  clear hb HK HT14 HW14
  have HK := Lib.hid (kept_len q0 p cap1 c ns N HL.out.1 hcap1 hcm w15 HT15.out.inn HT15.out.old (Nat.lt_of_lt_of_le HT15.out.qB HT15.out.bsz) HT15.out.mark)
  go_wp2_with fail
  refine HK.out.mono ?_
  rintro e w16 ⟨rfl, hb⟩
  have HT16 := Lib.hid (HT15.out.next hb)
  have HW16 := Lib.hid (And.intro (HW15.out.1.stay hb) (HW15.out.2.stay hb))
  clear hb HK HT15 HW15
  have HK := Lib.hid (apart_three w1.heap.size bx by' bz (N + ku) (N + ks) cx cy cz (ns ++ putU n) (ns ++ putS m) HLL.out.1 HLL.out.2 HD.out.1 HD.out.2 (by omega) (by omega) w16 HT16.out.bsz HT16.out.x HT16.out.y HT16.out.z)
  go_wp2_with fail
  refine HK.out.mono ?_
  rintro e w17 ⟨rfl, hb⟩
  have hlow : Below w.heap.size w w17 := HT16.out.low.trans (hb.mono HT16.out.big)
  have hin17 : ByIn w17.heap.size w17 (some ⟨q0, 0, none⟩) ns := fun i hi => by
    obtain ⟨b', o', he, _, hc⟩ := HT16.out.inn i hi
    cases he
    have h2 := (hb.cell (p := ⟨q0, 0 + i, none⟩) HT16.out.qB).trans hc
    exact ⟨q0, 0, rfl, World.block_lt_of_cell? _ _ h2, h2⟩
  have hmk : w17.cell? ⟨q0, ns.length, none⟩ = some (.int .u8 201) := (hb.cell (p := ⟨q0, ns.length, none⟩) HT16.out.qB).trans HT16.out.mark
  have HK2 := Lib.hid (kept_len q0 p cap1 c ns N HL.out.1 hcap1 hcm w17 hin17 (HS.out.below hlow (Nat.le_refl _) hlow.size) (World.block_lt_of_cell? _ _ hmk) hmk)
  have HLo := Lib.hid hlow
  clear hb HK HT16 HW16 hlow hin17 hmk
  go_wp2_with fail
  refine HK2.out.mono ?_
  rintro e w18 ⟨rfl, hb⟩
  have HLo2 := Lib.hid (HLo.out.trans (hb.mono HLo.out.size))
  clear HLo HK2 hb
  have HK := Lib.hid (awake_any w18)
  go_wp2_with fail
  refine HK.out.mono ?_
  rintro e w19 ⟨rfl, hb⟩
  have HLo := Lib.hid (HLo2.out.trans (hb.mono HLo2.out.size))
  clear HLo2 HK hb
  go_wp2
  go_ret
  exact ⟨rfl, HLo.out⟩
end Go.Proofs.Ytfmeclfoknjheaa
