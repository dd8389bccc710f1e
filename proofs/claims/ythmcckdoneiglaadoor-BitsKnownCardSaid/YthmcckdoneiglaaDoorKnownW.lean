/- BitsKnown returns true, in every memory in which the library's tables and errors lie. -/
import Derived.Test.YthmcckdoneiglaaDoorKit
import Derived.Test.YthmcckdoneiglaaDoorNumbers
namespace Go.Proofs.YthmcckdoneiglaaDoor
open Go Go.RowKit

theorem k_len (w : World) : Calls Tryd.prog 19 #[.int .u64 3] w fun e w' => e = .returned (.int .i64 2) ∧ w = w' := by
  have h := len_any 3 (by omega) w
  rw [show popN 64 3 = 2 from by decide] at h
  exact h
theorem k_meet (w : World) : Calls Tryd.prog 21 #[.int .u64 3, .int .u64 6] w fun e w' => e = .returned (.int .u64 2) ∧ w = w' := by
  have h := meet_any 3 6 (by omega) (by omega) w
  rw [show (3 &&& 6 : Nat) = 2 from by decide] at h
  exact h
theorem k_minus (w : World) : Calls Tryd.prog 22 #[.int .u64 3, .int .u64 6] w fun e w' => e = .returned (.int .u64 1) ∧ w = w' := by
  have h := minus_any 3 6 (by omega) (by omega) w
  rw [show minusN 3 6 = 1 from by decide] at h
  exact h
theorem k_in (w : World) : Calls Tryd.prog 23 #[.int .u64 2, .int .u64 3] w fun e w' => e = .returned (.bool true) ∧ w = w' := by
  have h := within_any 2 3 (by omega) (by omega) w
  rw [show (minusN 2 3 == 0) = true from by decide] at h
  exact h
theorem k_out (w : World) : Calls Tryd.prog 23 #[.int .u64 3, .int .u64 2] w fun e w' => e = .returned (.bool false) ∧ w = w' := by
  have h := within_any 3 2 (by omega) (by omega) w
  rw [show (minusN 3 2 == 0) = false from by decide] at h
  exact h

theorem k_nums (w : World) (hE : Env w) : Calls Tryd.prog 18 #[.int .u64 3] w fun e w' => e = .returned (.slice (some ⟨w.heap.size, 0, none⟩) 2 2) ∧ IntIn w' (some ⟨w.heap.size, 0, none⟩) [0, 1] ∧ Below w.heap.size w w' := by
  have h := numbers_any 3 (by omega) w hE
  rw [show bitsOf 3 = [0, 1] from by decide] at h
  refine h.mono fun e w' ⟨he, hc, hb, _⟩ => ⟨he, fun i hi => ⟨_, _, rfl, ?_⟩, hb⟩
  rw [Nat.zero_add]
  have h2 : i < 2 := hi
  have := hc i h2
  rcases (show i = 0 ∨ i = 1 by omega) with rfl | rfl <;> exact this

theorem k_ints (b : Nat) (w : World) (hp : IntIn w (some ⟨b, 0, none⟩) [0, 1]) : Calls Tryd.prog 10 #[.slice (some ⟨b, 0, none⟩) 2 2, .slice (some ⟨w.heap.size, 0, none⟩) 2 2] (w.alloc (.cells #[.int .i64 0, .int .i64 1] 3)) fun e w' => e = .returned (.bool true) ∧ Below w.heap.size w w' := by
  have hB1 : Below w.heap.size w (w.alloc (.cells #[.int .i64 0, .int .i64 1] 3)) := (Below.refl _ w).alloc (Nat.le_refl _) _
  refine (ints_same (some ⟨b, 0, none⟩) (some ⟨w.heap.size, 0, none⟩) 2 2 [0, 1] (by unfold maxLen; decide) _ (hp.below hB1) (fun i hi => ⟨_, _, rfl, ?_⟩)).mono fun e w' ⟨he, hb⟩ => ⟨he, hB1.trans (hb.mono hB1.size)⟩
  rw [Nat.zero_add, World.cell?_alloc_new]
  have h2 : i < 2 := hi
  rcases (show i = 0 ∨ i = 1 by omega) with rfl | rfl <;> rfl

theorem k_nil (x : Nat) (hx : x < 18446744073709551616) (l : List UInt8) (hl : textB (gl [] 0) x = l) (w : World) (hE : Env w) : Calls Tryd.prog 13 #[.int .u64 (x : Int), .slice none 0 0] w fun e w' => e = .returned (.string ⟨l.toArray⟩) ∧ Below w.heap.size w w' := by
  have h := text_any x hx none 0 [] w (by simp) (fun i => Nat.zero_le _) (fun i hi => absurd hi (by simp)) hE.2 hE.1.2.2 (gl_short _ _)
  rw [← hl]
  exact h

theorem k_text0 : textB (gl nm 4) 0 = [123, 125] := by decide +kernel
theorem k_text1 : textB (gl [] 0) 1 = [123, 35, 48, 125] := by decide +kernel
theorem k_text63 : textB (gl [] 0) 9223372036854775808 = [123, 35, 54, 51, 125] := by decide +kernel

/-- A text that is no label. -/
theorem none_any (s : ByteArray) (hs : s.size ≤ 140737488355328) (w : World) (hE : Env w) (ho : parseB (gl nm 4) s.data.toList = none) : Calls Tryd.prog 26 #[.string s] w fun e w' => e = .returned (.bool true) ∧ Below w.heap.size w w' := by
  have hp := parsed_any s hs w hE none ho
  simp only [parsedV] at hp
  clear ho
  go_enter Tryd.func26, Tryd.ntmps26
  go_wp2_with fail
  refine hp.mono ?_
  rintro e w1 ⟨rfl, hb⟩
  go_wp2_with fail
  go_ret
  exact ⟨rfl, hb⟩

theorem k_p0 (w : World) (hE : Env w) : Calls Tryd.prog 25 #[.string ⟨#[32, 123, 32, 98, 32, 32, 97, 32, 98, 32, 125, 32]⟩] w fun e w' => e = .returned (.tuple #[.int .u64 3, .int .i64 0]) ∧ Below w.heap.size w w' :=
  parsed_any ⟨#[32, 123, 32, 98, 32, 32, 97, 32, 98, 32, 125, 32]⟩ (by decide) w hE (some 3) (by decide +kernel)
theorem k_p1 (w : World) (hE : Env w) : Calls Tryd.prog 25 #[.string ⟨#[123, 125]⟩] w fun e w' => e = .returned (.tuple #[.int .u64 0, .int .i64 0]) ∧ Below w.heap.size w w' :=
  parsed_any ⟨#[123, 125]⟩ (by decide) w hE (some 0) (by decide +kernel)
theorem k_p2 (w : World) (hE : Env w) : Calls Tryd.prog 25 #[.string ⟨#[123, 35, 54, 51, 9, 35, 48, 125]⟩] w fun e w' => e = .returned (.tuple #[.int .u64 9223372036854775809, .int .i64 0]) ∧ Below w.heap.size w w' :=
  parsed_any ⟨#[123, 35, 54, 51, 9, 35, 48, 125]⟩ (by decide) w hE (some 9223372036854775809) (by decide +kernel)
theorem k_n0 (w : World) (hE : Env w) : Calls Tryd.prog 26 #[.string ⟨#[123, 99, 125]⟩] w fun e w' => e = .returned (.bool true) ∧ Below w.heap.size w w' :=
  none_any ⟨#[123, 99, 125]⟩ (by decide) w hE (by decide +kernel)
theorem k_n1 (w : World) (hE : Env w) : Calls Tryd.prog 26 #[.string ⟨#[123, 57, 120, 125]⟩] w fun e w' => e = .returned (.bool true) ∧ Below w.heap.size w w' :=
  none_any ⟨#[123, 57, 120, 125]⟩ (by decide) w hE (by decide +kernel)
theorem k_n2 (w : World) (hE : Env w) : Calls Tryd.prog 26 #[.string ⟨#[123, 35, 54, 52, 125]⟩] w fun e w' => e = .returned (.bool true) ∧ Below w.heap.size w w' :=
  none_any ⟨#[123, 35, 54, 52, 125]⟩ (by decide) w hE (by decide +kernel)
theorem k_n3 (w : World) (hE : Env w) : Calls Tryd.prog 26 #[.string ⟨#[123, 35, 48, 49, 125]⟩] w fun e w' => e = .returned (.bool true) ∧ Below w.heap.size w w' :=
  none_any ⟨#[123, 35, 48, 49, 125]⟩ (by decide) w hE (by decide +kernel)
theorem k_n4 (w : World) (hE : Env w) : Calls Tryd.prog 26 #[.string ⟨#[123, 97, 44, 98, 125]⟩] w fun e w' => e = .returned (.bool true) ∧ Below w.heap.size w w' :=
  none_any ⟨#[123, 97, 44, 98, 125]⟩ (by decide) w hE (by decide +kernel)
theorem k_n5 (w : World) (hE : Env w) : Calls Tryd.prog 26 #[.string ⟨#[97]⟩] w fun e w' => e = .returned (.bool true) ∧ Below w.heap.size w w' :=
  none_any ⟨#[97]⟩ (by decide) w hE (by decide +kernel)
theorem k_n6 (w : World) (hE : Env w) : Calls Tryd.prog 26 #[.string ⟨#[123, 97]⟩] w fun e w' => e = .returned (.bool true) ∧ Below w.heap.size w w' :=
  none_any ⟨#[123, 97]⟩ (by decide) w hE (by decide +kernel)
theorem k_n7 (w : World) (hE : Env w) : Calls Tryd.prog 26 #[.string ⟨#[]⟩] w fun e w' => e = .returned (.bool true) ∧ Below w.heap.size w w' :=
  none_any ⟨#[]⟩ (by decide) w hE (by decide +kernel)
theorem k_n8 (w : World) (hE : Env w) : Calls Tryd.prog 26 #[.string ⟨#[123, 97, 125, 125]⟩] w fun e w' => e = .returned (.bool true) ∧ Below w.heap.size w w' :=
  none_any ⟨#[123, 97, 125, 125]⟩ (by decide) w hE (by decide +kernel)
theorem k_n9 (w : World) (hE : Env w) : Calls Tryd.prog 26 #[.string ⟨#[125]⟩] w fun e w' => e = .returned (.bool true) ∧ Below w.heap.size w w' :=
  none_any ⟨#[125]⟩ (by decide) w hE (by decide +kernel)
theorem k_n10 (w : World) (hE : Env w) : Calls Tryd.prog 26 #[.string ⟨#[123, 32, 123, 125]⟩] w fun e w' => e = .returned (.bool true) ∧ Below w.heap.size w w' :=
  none_any ⟨#[123, 32, 123, 125]⟩ (by decide) w hE (by decide +kernel)

set_option maxRecDepth 100000 in
set_option maxHeartbeats 4000000 in
theorem known_any (w : World) (hE : Env w) : Calls Tryd.prog 5 #[] w fun e w' => e = .returned (.bool true) ∧ Below w.heap.size w w' := by
  have h8 := hE.1.2.2
  have HJ := Lib.hid (fun W => join_none none 0 W)
  go_enter Tryd.func5, Tryd.ntmps5
  go_wp2_with fail
  refine (awake_any w hE).mono ?_
  rintro e w1 ⟨rfl, hb1⟩
  go_wp2_with fail
  refine (k_nums w1 (hE.below h8 hb1)).mono ?_
  rintro e w2 ⟨rfl, hin, hb2'⟩
  have hb2 := hb1.trans (hb2'.mono hb1.size)
  clear hb2'
  go_wp2_with fail
  refine (k_ints _ w2 hin).mono ?_
  rintro e w3 ⟨rfl, hb3'⟩
  have hb3 := hb2.trans (hb3'.mono hb2.size)
  clear hb3' hin hb2 hb1
  go_wp2_with (first | (go_at_call 19; refine (k_len _).mono ?_; rintro e w' ⟨rfl, rfl⟩) | (go_at_call 20; refine (HJ.out _).mono ?_; rintro e w' ⟨rfl, rfl⟩) | (go_at_call 21; refine (k_meet _).mono ?_; rintro e w' ⟨rfl, rfl⟩) | (go_at_call 22; refine (k_minus _).mono ?_; rintro e w' ⟨rfl, rfl⟩) | (go_at_call 23; first | (refine (k_in _).mono ?_; rintro e w' ⟨rfl, rfl⟩) | (refine (k_out _).mono ?_; rintro e w' ⟨rfl, rfl⟩)))
  have ht := text_nm 0 (by omega) w3 (hE.below h8 hb3)
  rw [k_text0] at ht
  refine (names_any _).mono ?_
  rintro e w' ⟨rfl, rfl⟩
  go_wp2_with fail
  refine ht.mono ?_
  rintro e w4 ⟨rfl, hb4'⟩
  have hb4 := hb3.trans (hb4'.mono hb3.size)
  clear ht hb4' hb3
  go_wp2_with fail
  refine (k_nil 1 (by omega) _ k_text1 w4 (hE.below h8 hb4)).mono ?_
  rintro e w5 ⟨rfl, hb5'⟩
  have hb5 := hb4.trans (hb5'.mono hb4.size)
  clear hb5' hb4
  go_wp2_with fail
  refine (k_nil 9223372036854775808 (by omega) _ k_text63 w5 (hE.below h8 hb5)).mono ?_
  rintro e w6 ⟨rfl, hb6'⟩
  have hb6 := hb5.trans (hb6'.mono hb5.size)
  clear hb6' hb5
  go_wp2_with fail
  refine (k_p0 w6 (hE.below h8 hb6)).mono ?_
  rintro e w7 ⟨rfl, hb7'⟩
  have hb7 := hb6.trans (hb7'.mono hb6.size)
  clear hb7' hb6
  go_wp2_with fail
  refine (k_p1 w7 (hE.below h8 hb7)).mono ?_
  rintro e w8 ⟨rfl, hb8'⟩
  have hb8 := hb7.trans (hb8'.mono hb7.size)
  clear hb8' hb7
  go_wp2_with fail
  refine (k_p2 w8 (hE.below h8 hb8)).mono ?_
  rintro e w9 ⟨rfl, hb9'⟩
  have hb9 := hb8.trans (hb9'.mono hb8.size)
  clear hb9' hb8
  go_wp2_with fail
  refine (k_n0 w9 (hE.below h8 hb9)).mono ?_
  rintro e w10 ⟨rfl, hb10'⟩
  have hb10 := hb9.trans (hb10'.mono hb9.size)
  clear hb10' hb9
  go_wp2_with fail
  refine (k_n1 w10 (hE.below h8 hb10)).mono ?_
  rintro e w11 ⟨rfl, hb11'⟩
  have hb11 := hb10.trans (hb11'.mono hb10.size)
  clear hb11' hb10
  go_wp2_with fail
  refine (k_n2 w11 (hE.below h8 hb11)).mono ?_
  rintro e w12 ⟨rfl, hb12'⟩
  have hb12 := hb11.trans (hb12'.mono hb11.size)
  clear hb12' hb11
  go_wp2_with fail
  refine (k_n3 w12 (hE.below h8 hb12)).mono ?_
  rintro e w13 ⟨rfl, hb13'⟩
  have hb13 := hb12.trans (hb13'.mono hb12.size)
  clear hb13' hb12
  go_wp2_with fail
  refine (k_n4 w13 (hE.below h8 hb13)).mono ?_
  rintro e w14 ⟨rfl, hb14'⟩
  have hb14 := hb13.trans (hb14'.mono hb13.size)
  clear hb14' hb13
  go_wp2_with fail
  refine (k_n5 w14 (hE.below h8 hb14)).mono ?_
  rintro e w15 ⟨rfl, hb15'⟩
  have hb15 := hb14.trans (hb15'.mono hb14.size)
  clear hb15' hb14
  go_wp2_with fail
  refine (k_n6 w15 (hE.below h8 hb15)).mono ?_
  rintro e w16 ⟨rfl, hb16'⟩
  have hb16 := hb15.trans (hb16'.mono hb15.size)
  clear hb16' hb15
  go_wp2_with fail
  refine (k_n7 w16 (hE.below h8 hb16)).mono ?_
  rintro e w17 ⟨rfl, hb17'⟩
  have hb17 := hb16.trans (hb17'.mono hb16.size)
  clear hb17' hb16
  go_wp2_with fail
  refine (k_n8 w17 (hE.below h8 hb17)).mono ?_
  rintro e w18 ⟨rfl, hb18'⟩
  have hb18 := hb17.trans (hb18'.mono hb17.size)
  clear hb18' hb17
  go_wp2_with fail
  refine (k_n9 w18 (hE.below h8 hb18)).mono ?_
  rintro e w19 ⟨rfl, hb19'⟩
  have hb19 := hb18.trans (hb19'.mono hb18.size)
  clear hb19' hb18
  go_wp2_with fail
  refine (k_n10 w19 (hE.below h8 hb19)).mono ?_
  rintro e w20 ⟨rfl, hb20'⟩
  have hb20 := hb19.trans (hb20'.mono hb19.size)
  clear hb20' hb19
  go_wp2_with fail
  go_ret
  exact ⟨rfl, hb20⟩
end Go.Proofs.YthmcckdoneiglaaDoor
