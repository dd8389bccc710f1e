/- BitsBack returns true at every label and every list of names, in every memory in which the library's tables and errors lie. -/
import Derived.Test.YthmcckdoneiglaaDoorBackM
import Derived.Test.YthmcckdoneiglaaDoorNumbers
namespace Go.Proofs.YthmcckdoneiglaaDoor
open Go Go.RowKit

theorem text_w (x : Nat) (hx : x < 18446744073709551616) (p : Option Addr) (c : Nat) (ns : List ByteArray) (hn : ns.length ≤ maxLen) (hz : ∀ i, (ns.getD i ByteArray.empty).size ≤ maxLen) (w : World) (hE : Env w) (hs : StrIn w.heap.size w p ns) :
    Calls Tryd.prog 13 #[.int .u64 (x : Int), .slice p ns.length c] w fun e w' => e = .returned (.string ⟨(textB (gl ns (min ns.length 64)) x).toArray⟩) ∧ Below w.heap.size w w' :=
  text_any x hx p c ns w hn hz hs hE.2 hE.1.2.2 (gl_short _ _)

theorem textB_short (ns : List ByteArray) (n x : Nat) : (textB (gl ns n) x).length ≤ 3000 := by
  have h := textAcc_short (gl ns n) (gl_short ns n) (bitsOf x) (bitsOf_lt x)
  have h1 := bitsOf_length x
  have h2 := popN_le 64 x
  unfold textB
  rw [List.length_append, List.length_singleton]
  omega

theorem list_size (l : List UInt8) : (⟨l.toArray⟩ : ByteArray).size = l.length := by rw [Lib.size_eq]

theorem numbers_of (x : Nat) (hx : x < 18446744073709551616) (B : Nat) (w : World) (hc : ∀ i, i < (bitsOf x).length → w.cell? ⟨B, i, none⟩ = some (.int .i64 (((bitsOf x).getD i 0 : Nat) : Int))) :
    Calls Tryd.prog 27 #[.slice (some ⟨B, 0, none⟩) (bitsOf x).length (bitsOf x).length] w fun e w' => e = .returned (.int .u64 (x : Int)) ∧ w = w' := by
  have hl := bitsOf_length x
  have hp := popN_le 64 x
  have h := of_any B 0 (bitsOf x).length ((bitsOf x).map Int.ofNat) (by rw [List.length_map]; unfold maxLen; omega) w (fun i hi => by
    rw [List.length_map] at hi
    rw [Nat.zero_add, hc i hi]
    simp [List.getD_eq_getElem?_getD, hi])
  rw [ofInts_bits _ (bitsOf_lt x), bits_again x hx, List.length_map] at h
  exact h

set_option maxRecDepth 100000 in
set_option maxHeartbeats 2000000 in
theorem back_any (x : Nat) (hx : x < 18446744073709551616) (p : Option Addr) (c : Nat) (ns : List ByteArray) (hn : ns.length ≤ maxLen) (hz : ∀ i, (ns.getD i ByteArray.empty).size ≤ maxLen) (w : World) (hE : Env w) (hs : StrIn w.heap.size w p ns) :
    Calls Tryd.prog 7 #[.int .u64 (x : Int), .slice p ns.length c] w fun e w' => e = .returned (.bool true) ∧ Below w.heap.size w w' := by
  have h8 := hE.1.2.2
  have hsh := textB_short ns (min ns.length 64) x
  have hgo := goods_gl ns (min ns.length 64) (by omega)
  have ht := fun W h1 h2 => text_w x hx p c ns hn hz W h1 h2
  have hpar := fun (s : ByteArray) hs W (h1 : Env W) h2 => parse_any s hs p c ns W hn hz h2 h1.1
  have hback := fun a b ha hb => parse_text hgo x hx a b ha hb
  generalize gl ns (min ns.length 64) = zs at hsh hgo ht hpar hback
  have hb0 := hback [] [] (by simp) (by simp)
  have hb1 := hback [32, 9] [32] (by simp) (by simp)
  generalize textB zs x = t at hsh ht hb0 hb1
  have HT := Lib.hid (ht w hE hs)
  go_enter Tryd.func7, Tryd.ntmps7
  go_wp2_with (go_at_call 13; refine (HT.out).mono ?_; rintro e w1 ⟨rfl, hw1⟩)
  have hE1 := hE.below h8 hw1
  have hs1 := hs.below hw1 (Nat.le_refl _) hw1.size
  have hp1 := hpar ⟨t.toArray⟩ (by rw [list_size]; omega) w1 hE1 hs1
  rw [show (⟨t.toArray⟩ : ByteArray).data.toList = t from by simp, show parseB zs t = some x from by simpa using hb0] at hp1
  simp only [parsedV] at hp1
  refine hp1.mono ?_
  rintro e w2 ⟨rfl, hw2'⟩
  have hw2 := hw1.trans (hw2'.mono hw1.size)
  clear hp1 hw2' hE1 hs1 hw1 HT
  have hE2 := hE.below h8 hw2
  have hs2 := hs.below hw2 (Nat.le_refl _) hw2.size
  have hlen2 : (⟨#[32, 9]⟩ ++ ⟨t.toArray⟩ ++ ⟨#[32]⟩ : ByteArray).data.toList = [32, 9] ++ t ++ [32] := by
    rw [ByteArray.data_append, ByteArray.data_append, Array.toList_append, Array.toList_append]
  have hp2 := hpar (⟨#[32, 9]⟩ ++ ⟨t.toArray⟩ ++ ⟨#[32]⟩) (by rw [Lib.size_eq, hlen2]; simp; omega) w2 hE2 hs2
  rw [hlen2, hb1] at hp2
  simp only [parsedV] at hp2
  clear hlen2
  go_wp2_with fail
  refine hp2.mono ?_
  rintro e w3 ⟨rfl, hw3'⟩
  have hw3 := hw2.trans (hw3'.mono hw2.size)
  clear hp2 hw3' hE2 hs2 hw2 hs
  have hE3 := hE.below h8 hw3
  have hnum := numbers_any x hx w3 hE3
  have HOF := Lib.hid (fun B W hc => numbers_of x hx B W hc)
  generalize bitsOf x = l at hnum HOF
  go_wp2_with fail
  refine hnum.mono ?_
  rintro e w4 ⟨rfl, hc4, hw4', _⟩
  have hw4 := hw3.trans (hw4'.mono hw3.size)
  clear hnum hw4'
  have hof := HOF.out w3.heap.size w4 hc4
  go_wp2_with (go_at_call 27; refine hof.mono ?_; rintro e w' ⟨rfl, rfl⟩)
  refine (awake_any w4 (hE.below h8 hw4)).mono ?_
  rintro e w5 ⟨rfl, hw5⟩
  go_wp2_with fail
  go_ret
  exact ⟨rfl, hw4.trans (hw5.mono hw4.size)⟩
end Go.Proofs.YthmcckdoneiglaaDoor
