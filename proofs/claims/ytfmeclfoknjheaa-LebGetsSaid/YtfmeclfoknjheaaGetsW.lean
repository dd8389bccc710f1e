/- LebGets: the law's walk, in every memory. -/
import Derived.Test.YtfmeclfoknjheaaI
namespace Go.Proofs.Ytfmeclfoknjheaa
open Go Go.RowKit

set_option maxRecDepth 100000 in
set_option maxHeartbeats 1000000 in
theorem gets_any (p : Option Addr) (c : Nat) (ns : List Nat) (hp : (p = none ∧ ns = [] ∧ c = 0) ∨ ∃ ad, p = some ad) (hl : ns.length ≤ c) (hm : c ≤ maxLen) (hb : ns.length + 1 ≤ 140737488355328) (hx : bytesL ns) (w : World) (hs : ByIn w.heap.size w p ns) :
    Calls Try.prog 4 #[.slice p ns.length c] w fun e w' => e = .returned (.bool true) ∧ Below w.heap.size w w' := by
  have h1 := Lib.hid (lent_any p c ns hp hb w hs)
  have h2 := Lib.hid (fun (w1 : World) (q : Nat) (cap : Nat) (hB : Below w.heap.size w w1) (hin : ByIn w1.heap.size w1 (some ⟨q, 0, none⟩) ns) (hc : ns.length + 1 ≤ cap) (hcm : cap ≤ maxLen) =>
    And.intro (Get_any (some ⟨q, 0, none⟩) cap ns hx (by omega) hcm w1 hin) (GetSigned_any (some ⟨q, 0, none⟩) cap ns hx (by omega) hcm w1 hin))
  have h3 := Lib.hid (fun (w1 : World) (hB : Below w.heap.size w w1) => And.intro (refGet_any p c ns hx hl hm w1 (hs.below hB (Nat.le_refl _) hB.size)) (refGetSigned_any p c ns hx hl hm w1 (hs.below hB (Nat.le_refl _) hB.size)))
  have h4 := Lib.hid (fun (w1 : World) (q : Nat) (cap : Nat) (hB : Below w.heap.size w w1) (hin : ByIn w1.heap.size w1 (some ⟨q, 0, none⟩) ns) (hc : ns.length + 1 ≤ cap) (hcm : cap ≤ maxLen) (hq : q < w1.heap.size) (hk : w1.cell? ⟨q, ns.length, none⟩ = some (.int .u8 201)) =>
    kept_any q p cap c ns hc hcm w1 hin (hs.below hB (Nat.le_refl _) hB.size) hq hk)
  clear hs hp hl hm hb hx
  generalize getU ns = r at h2 h3
  generalize getS ns = s at h2 h3
  go_enter Try.func4, Try.ntmps4
  go_wp2_with fail
  refine h1.out.mono ?_
  rintro e w1 ⟨q, cap, rfl, _, hcap, hrow, hB1⟩
  obtain ⟨hin, hk, hq, hc, hcm⟩ := lent_row hrow
  clear h1 hrow
  have HIN := Lib.hid hin
  have HK := Lib.hid hk
  have g2 := Lib.hid (h2.out w1 q cap hB1 hin hc hcm).1
  clear hin hk
  go_wp2_with fail
  refine g2.out.mono ?_
  rintro e w2 ⟨rfl, hB2⟩
  clear g2
  have hB2' := hB1.trans (hB2.mono hB1.size)
  have hin2 := HIN.out.below hB2 (Nat.le_refl _) (B' := w2.heap.size) hB2.size
  have g3 := Lib.hid (h2.out w2 q cap hB2' hin2 hc hcm).2
  clear h2
  go_wp2_with fail
  refine g3.out.mono ?_
  rintro e w3 ⟨rfl, hB3⟩
  clear g3
  have hB3' := hB2'.trans (hB3.mono hB2'.size)
  have hB13 := hB2.trans (hB3.mono hB2.size)
  have g4 := Lib.hid (h3.out w3 hB3').1
  clear hin2 hB2 hB3 hB2'
  go_wp2_with fail
  refine g4.out.mono ?_
  rintro e w4 ⟨rfl, hB4⟩
  clear g4
  have hB4' := hB3'.trans (hB4.mono hB3'.size)
  have hB14 := hB13.trans (hB4.mono hB13.size)
  have g5 := Lib.hid (h3.out w4 hB4').2
  clear h3 hB4 hB13 hB3'
  go_wp2_with fail
  refine g5.out.mono ?_
  rintro e w5 ⟨rfl, hB5⟩
  clear g5
  have hB5' := hB4'.trans (hB5.mono hB4'.size)
  have hB15 := hB14.trans (hB5.mono hB14.size)
  have g6 := Lib.hid (h4.out w5 q cap hB5' (HIN.out.below hB15 (Nat.le_refl _) hB15.size) hc hcm (Nat.lt_of_lt_of_le hq hB15.size) ((hB15.cell (p := ⟨q, ns.length, none⟩) hq).trans HK.out))
  clear h4 hB5 hB14 hB4' HIN HK hB15
  go_wp2_with fail
  refine g6.out.mono ?_
  rintro e w6 ⟨rfl, hB6⟩
  clear g6
  have HA := Lib.hid (awake_any w6)
  go_wp2_with fail
  refine HA.out.mono ?_
  rintro e w7 ⟨rfl, hB7⟩
  clear HA
  go_wp2
  go_ret
  exact ⟨rfl, hB5'.trans ((hB6.mono hB5'.size).trans (hB7.mono (Nat.le_trans hB5'.size hB6.size)))⟩
end Go.Proofs.Ytfmeclfoknjheaa
