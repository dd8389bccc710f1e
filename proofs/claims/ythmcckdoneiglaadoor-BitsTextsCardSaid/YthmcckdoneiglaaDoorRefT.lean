/- Text of the document's answer, in every memory. -/
import Derived.Test.YthmcckdoneiglaaDoorRefK
import Derived.Test.YthmcckdoneiglaaDoorRefN
namespace Go.Proofs.YthmcckdoneiglaaDoor
open Go Go.RowKit

theorem body_snoc (zs : List ByteArray) (l : List Nat) (k : Nat) : body zs (l ++ [k]) = (if body zs l = [] then [] else body zs l ++ [32]) ++ itemB zs k := by
  cases l with
  | nil => simp [body]
  | cons j l =>
    have h : body zs (j :: l) ≠ [] := by
      unfold body
      intro e
      exact item_ne j (List.append_eq_nil_iff.1 e).1
    rw [if_neg h]
    simp [body]

theorem ba_of_list {a : ByteArray} {l : List UInt8} (h : a.data.toList = l) : a = ⟨l.toArray⟩ := by rw [← h, ba_eta]
theorem empty_true {t : ByteArray} (h : t.data.toList = []) : t.toList.isEmpty = true := by rw [Lib.toList_data, h]; rfl
theorem empty_false {t : ByteArray} (h : t.data.toList ≠ []) : t.toList.isEmpty = false := by
  rw [Lib.toList_data]
  cases hl : t.data.toList with
  | nil => exact absurd hl h
  | cons _ _ => rfl

theorem body_short (ns : List ByteArray) (n : Nat) (l : List Nat) (hl : ∀ k ∈ l, k < 64) : (body (gl ns n) l).length ≤ 33 * l.length := by
  have h := textAcc_short (gl ns n) (gl_short ns n) l hl
  rw [textAcc_body] at h
  simp only [List.length_cons] at h
  omega

set_option maxRecDepth 100000 in
set_option maxHeartbeats 2000000 in
theorem reftext_any (x : Nat) (hx : x < 18446744073709551616) (p : Option Addr) (c : Nat) (ns : List ByteArray) (hz : ∀ i, (ns.getD i ByteArray.empty).size ≤ maxLen) (w : World) (hs : StrIn w.heap.size w p ns) :
    Calls Tryd.prog 16 #[.int .u64 (x : Int), .slice p ns.length c] w fun e w' => e = .returned (.string ⟨(textB (gl ns (min ns.length 64)) x).toArray⟩) ∧ Below w.heap.size w w' := by
  have hzs := fun l hl => body_short ns (min ns.length 64) l hl
  have hit := item_ref ns
  have hsn := body_snoc (gl ns (min ns.length 64))
  have htx : textB (gl ns (min ns.length 64)) x = 123 :: body (gl ns (min ns.length 64)) (bitsOf x) ++ [125] := by unfold textB; rw [textAcc_body]
  generalize gl ns (min ns.length 64) = zs at hzs hit hsn htx ⊢
  have HZS := Lib.hid hzs
  have HIT := Lib.hid hit
  have HSN := Lib.hid hsn
  have HTX := Lib.hid htx
  have HS := Lib.hid hs
  clear hzs hit hsn htx hs
  go_enter Tryd.func16, Tryd.ntmps16
  go_wp2
  go_loopw [5, 6] (fun s i wr => ∃ (j : Nat) (t : ByteArray), j ≤ 64 ∧ i = .int .i64 j ∧ s = .string t ∧ Hid (t.data.toList = body zs (bitsFrom 0 j x)) ∧ t.size ≤ 2112 ∧ Below w.heap.size w wr) (fun _ i _ => 64 - (intOf i).toNat)
  case atStart => exact ⟨0, _, Nat.zero_le _, rfl, rfl, Lib.hid rfl, by decide, Below.refl _ _⟩
  case round =>
    obtain ⟨j, t, hj, rfl, rfl, HT, htz, hB⟩ := hrel
    by_cases hlt : j < 64
    · have hji : (j : Int) < 64 := by omega
      have hh := has_any x j hx hlt wr
      have hbs := bitsFrom_snoc x j 0
      rw [Nat.zero_add] at hbs
      cases hb : x.testBit j with
      | false =>
        rw [hb] at hh
        rw [hb, if_neg (by simp), List.append_nil] at hbs
        have HN := Lib.hid (show t.data.toList = body zs (bitsFrom 0 (j + 1) x) by rw [hbs]; exact HT.out)
        clear hbs hb
        go_wp2_with (go_at_call 28; refine hh.mono ?_; rintro e w' ⟨rfl, rfl⟩)
        exact ⟨⟨j + 1, t, by omega, by go_num, rfl, HN, htz, hB⟩, by simp [intOf]; omega⟩
      | true =>
        rw [hb] at hh
        rw [hb, if_pos rfl] at hbs
        have hs' := HS.out.below hB (Nat.le_refl _) hB.size
        have hgd := refgood_any p c ns hz j hlt wr hs'
        have hnu := number_any j hlt wr
        have hsz := HZS.out (bitsFrom 0 (j + 1) x) (fun k hk => by
          unfold bitsFrom at hk
          have := List.mem_range'_1.1 (List.mem_filter.1 hk).1
          omega)
        have hlen : (bitsFrom 0 (j + 1) x).length ≤ 64 := by unfold bitsFrom; exact Nat.le_trans (List.length_filter_le _ _) (by simp; omega)
        have hnew := HSN.out (bitsFrom 0 j x) j
        rw [← hbs, HIT.out j hlt, ← HT.out] at hnew
        rw [hnew] at hsz
        have HNEW := Lib.hid hnew
        have HSZ := Lib.hid (Nat.le_trans hsz (show 33 * (bitsFrom 0 (j + 1) x).length ≤ 2112 by omega))
        clear hbs hb hnew hsz hlen
        cases hg : goodB ns j with
        | true =>
          rw [hg] at hgd
          obtain ⟨b, off, rfl, hb, hc⟩ := hs' j ((goodB_iff ns j).1 hg).1
          have hjl := ((goodB_iff ns j).1 hg).1
          have hxs := hz j
          generalize ns.getD j ByteArray.empty = y at hc hxs HNEW HSZ
          by_cases h0 : t.data.toList = []
          · skip
            have hnew := HNEW.out
            rw [if_pos h0, if_pos hg] at hnew
            have happ : (t ++ y : ByteArray).data.toList = body zs (bitsFrom 0 (j + 1) x) := by
              rw [ByteArray.data_append, Array.toList_append, hnew]
              simp [h0]
            have hsz2 : (t ++ y : ByteArray).size ≤ 2112 := by
              rw [Lib.size_eq, happ, HNEW.out]; exact HSZ.out
            have hsz3 := hsz2
            simp only [ByteArray.size_append] at hsz3
            have z3 : (⟨(Lib.decDigits j).toArray⟩ : ByteArray).size = (Lib.decDigits j).length := by rw [Lib.size_eq]
            have z4 : (Lib.decDigits j).length ≤ 2 := dec_short ⟨j, hlt⟩
            have z1 : (⟨#[32]⟩ : ByteArray).size = 1 := rfl
            have z2 : (⟨#[35]⟩ : ByteArray).size = 1 := rfl
            have HAPP := Lib.hid happ
            have hem := empty_true h0
            clear hnew happ h0 hg HNEW HSZ hs'
            go_wp2_with (first | (go_at_call 28; refine hh.mono ?_; rintro e w' ⟨rfl, rfl⟩) | (go_at_call 44; refine hgd.mono ?_; rintro e w' ⟨rfl, rfl⟩))
            try any_goals (exfalso; omega)
            exact ⟨⟨j + 1, _, by omega, by go_num, rfl, HAPP, hsz2, hB⟩, by simp [intOf]; omega⟩
          · skip
            have hnew := HNEW.out
            rw [if_neg h0, if_pos hg] at hnew
            have happ : (t ++ ⟨#[32]⟩ ++ y : ByteArray).data.toList = body zs (bitsFrom 0 (j + 1) x) := by
              rw [ByteArray.data_append, ByteArray.data_append, Array.toList_append, Array.toList_append, hnew]
            have hsz2 : (t ++ ⟨#[32]⟩ ++ y : ByteArray).size ≤ 2112 := by
              rw [Lib.size_eq, happ, HNEW.out]; exact HSZ.out
            have hsz3 := hsz2
            simp only [ByteArray.size_append] at hsz3
            have z3 : (⟨(Lib.decDigits j).toArray⟩ : ByteArray).size = (Lib.decDigits j).length := by rw [Lib.size_eq]
            have z4 : (Lib.decDigits j).length ≤ 2 := dec_short ⟨j, hlt⟩
            have z1 : (⟨#[32]⟩ : ByteArray).size = 1 := rfl
            have z2 : (⟨#[35]⟩ : ByteArray).size = 1 := rfl
            have HAPP := Lib.hid happ
            have hem := empty_false h0
            clear hnew happ h0 hg HNEW HSZ hs'
            go_wp2_with (first | (go_at_call 28; refine hh.mono ?_; rintro e w' ⟨rfl, rfl⟩) | (go_at_call 44; refine hgd.mono ?_; rintro e w' ⟨rfl, rfl⟩))
            try any_goals (exfalso; omega)
            exact ⟨⟨j + 1, _, by omega, by go_num, rfl, HAPP, hsz2, hB⟩, by simp [intOf]; omega⟩
        | false =>
          rw [hg] at hgd
          by_cases h0 : t.data.toList = []
          · skip
            have hnew := HNEW.out
            rw [if_pos h0, if_neg (by rw [hg]; simp)] at hnew
            have happ : (t ++ ⟨#[35]⟩ ++ ⟨(Lib.decDigits j).toArray⟩ : ByteArray).data.toList = body zs (bitsFrom 0 (j + 1) x) := by
              rw [ByteArray.data_append, ByteArray.data_append, Array.toList_append, Array.toList_append, hnew]
              simp [numB, h0]
            have hsz2 : (t ++ ⟨#[35]⟩ ++ ⟨(Lib.decDigits j).toArray⟩ : ByteArray).size ≤ 2112 := by
              rw [Lib.size_eq, happ, HNEW.out]; exact HSZ.out
            have hsz3 := hsz2
            simp only [ByteArray.size_append] at hsz3
            have z3 : (⟨(Lib.decDigits j).toArray⟩ : ByteArray).size = (Lib.decDigits j).length := by rw [Lib.size_eq]
            have z4 : (Lib.decDigits j).length ≤ 2 := dec_short ⟨j, hlt⟩
            have z1 : (⟨#[32]⟩ : ByteArray).size = 1 := rfl
            have z2 : (⟨#[35]⟩ : ByteArray).size = 1 := rfl
            have HAPP := Lib.hid happ
            have hem := empty_true h0
            clear hnew happ h0 hg HNEW HSZ hs'
            go_wp2_with (first | (go_at_call 28; refine hh.mono ?_; rintro e w' ⟨rfl, rfl⟩) | (go_at_call 44; refine hgd.mono ?_; rintro e w' ⟨rfl, rfl⟩))
            try any_goals (exfalso; omega)
            refine hnu.mono ?_
            rintro e w5 ⟨rfl, hb5⟩
            have hB5 := hB.trans (hb5.mono hB.size)
            clear hnu hb5 hh hgd
            go_wp2_with fail
            try any_goals (exfalso; omega)
            exact ⟨⟨j + 1, _, by omega, by go_num, rfl, HAPP, hsz2, hB5⟩, by simp [intOf]; omega⟩
          · skip
            have hnew := HNEW.out
            rw [if_neg h0, if_neg (by rw [hg]; simp)] at hnew
            have happ : (t ++ ⟨#[32]⟩ ++ ⟨#[35]⟩ ++ ⟨(Lib.decDigits j).toArray⟩ : ByteArray).data.toList = body zs (bitsFrom 0 (j + 1) x) := by
              rw [ByteArray.data_append, ByteArray.data_append, ByteArray.data_append, Array.toList_append, Array.toList_append, Array.toList_append, hnew]
              simp [numB]
            have hsz2 : (t ++ ⟨#[32]⟩ ++ ⟨#[35]⟩ ++ ⟨(Lib.decDigits j).toArray⟩ : ByteArray).size ≤ 2112 := by
              rw [Lib.size_eq, happ, HNEW.out]; exact HSZ.out
            have hsz3 := hsz2
            simp only [ByteArray.size_append] at hsz3
            have z3 : (⟨(Lib.decDigits j).toArray⟩ : ByteArray).size = (Lib.decDigits j).length := by rw [Lib.size_eq]
            have z4 : (Lib.decDigits j).length ≤ 2 := dec_short ⟨j, hlt⟩
            have z1 : (⟨#[32]⟩ : ByteArray).size = 1 := rfl
            have z2 : (⟨#[35]⟩ : ByteArray).size = 1 := rfl
            have HAPP := Lib.hid happ
            have hem := empty_false h0
            clear hnew happ h0 hg HNEW HSZ hs'
            go_wp2_with (first | (go_at_call 28; refine hh.mono ?_; rintro e w' ⟨rfl, rfl⟩) | (go_at_call 44; refine hgd.mono ?_; rintro e w' ⟨rfl, rfl⟩))
            try any_goals (exfalso; omega)
            refine hnu.mono ?_
            rintro e w5 ⟨rfl, hb5⟩
            have hB5 := hB.trans (hb5.mono hB.size)
            clear hnu hb5 hh hgd
            go_wp2_with fail
            try any_goals (exfalso; omega)
            exact ⟨⟨j + 1, _, by omega, by go_num, rfl, HAPP, hsz2, hB5⟩, by simp [intOf]; omega⟩
    · obtain rfl : j = 64 := by omega
      have HF := Lib.hid (show (⟨#[123]⟩ ++ t ++ ⟨#[125]⟩ : ByteArray) = ⟨(textB zs x).toArray⟩ from ba_of_list (by
        rw [ByteArray.data_append, ByteArray.data_append, Array.toList_append, Array.toList_append, HT.out, HTX.out]; rfl))
      go_wp2
      go_ret
      exact ⟨ret_str HF.out, hB⟩
end Go.Proofs.YthmcckdoneiglaaDoor
