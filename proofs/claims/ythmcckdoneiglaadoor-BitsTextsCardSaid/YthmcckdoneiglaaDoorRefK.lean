/- Good of the document's answer, in every memory. -/
import Derived.Test.YthmcckdoneiglaaDoorRefG
namespace Go.Proofs.YthmcckdoneiglaaDoor
open Go Go.RowKit

/-- May a byte stand at a place of a name? -/
def okAt (c : UInt8) (i : Nat) : Bool := letB c || (digB c && decide (0 < i))

theorem wfB_okAt {l : List UInt8} (h0 : 0 < l.length) (h1 : l.length ≤ 32) : wfB l = true ↔ ∀ i (hi : i < l.length), okAt l[i] i = true := by
  cases l with
  | nil => simp at h0
  | cons c l =>
    have hdl : ∀ b : UInt8, letB b = true → digB b = false := by
      intro b h
      unfold letB at h; unfold digB
      simp only [Bool.or_eq_true, Bool.and_eq_true, decide_eq_true_eq] at h
      simp only [Bool.and_eq_false_iff, decide_eq_false_iff_not]
      omega
    simp only [wfB, Bool.and_eq_true, decide_eq_true_eq, Bool.not_eq_true', List.all_eq_true]
    constructor
    · rintro ⟨_, hd, hall⟩ i hi
      have hm := hall _ (List.getElem_mem hi)
      unfold okB at hm
      unfold okAt
      cases i with
      | zero =>
        simp only [List.getElem_cons_zero] at hm ⊢
        rw [hd] at hm
        simp only [Bool.or_false] at hm
        rw [hm]; rfl
      | succ i => simpa using hm
    · intro h
      refine ⟨h1, ?_, ?_⟩
      · have := h 0 (by simp)
        simp only [List.getElem_cons_zero, okAt, Nat.lt_irrefl, decide_false, Bool.and_false, Bool.or_false] at this
        exact hdl c this
      · intro b hb
        obtain ⟨i, hi, rfl⟩ := List.getElem_of_mem hb
        have := h i hi
        unfold okAt at this
        unfold okB
        simp only [Bool.or_eq_true, Bool.and_eq_true] at this ⊢
        exact this.imp id (fun x => x.1)

theorem list_eq {x y : ByteArray} (h : (y.toList == x.toList) = true) : y = x := by
  have := beq_iff_eq.1 h
  rw [Lib.toList_data, Lib.toList_data] at this
  rw [← ba_eta y, this, ba_eta]
theorem list_ne {x y : ByteArray} (h : (y.toList == x.toList) = false) : y ≠ x := by
  intro e
  subst e
  simp at h

theorem bad_good {ns : List ByteArray} {k : Nat} {x : ByteArray} {j : Nat} (hg : goodB ns k = true ↔ k < ns.length ∧ wfB (ns.getD k ByteArray.empty).data.toList = true ∧ ∀ i, i < k → ns.getD i ByteArray.empty ≠ ns.getD k ByteArray.empty) (hx : ns.getD k ByteArray.empty = x)
    (hw : wfB x.data.toList = true ↔ ∀ i (hi : i < x.data.toList.length), okAt x.data.toList[i] i = true) (hj : j < x.data.toList.length) (h : okAt x.data.toList[j] j = false) : goodB ns k = false := by
  cases hgb : goodB ns k with
  | false => rfl
  | true =>
    have h1 := (hg.1 hgb).2.1
    rw [hx] at h1
    have := hw.1 h1 j hj
    rw [h] at this; cases this

set_option maxRecDepth 100000 in
set_option maxHeartbeats 2000000 in
theorem refgood_any (p : Option Addr) (c : Nat) (ns : List ByteArray) (hz : ∀ i, (ns.getD i ByteArray.empty).size ≤ maxLen) (k : Nat) (hk : k < 64) (w : World) (hs : StrIn w.heap.size w p ns) :
    Calls Tryd.prog 44 #[.slice p ns.length c, .int .i64 (k : Int)] w fun e w' => e = .returned (.bool (goodB ns k)) ∧ w = w' := by
  have hk0 : ¬ (k : Int) < 0 := by omega
  have hk1 : ¬ (63 : Int) < k := by omega
  have hg := goodB_iff ns k
  by_cases hl : k < ns.length
  · have hl' : ¬ (ns.length : Int) ≤ k := by omega
    obtain ⟨b, off, rfl, hb, hc⟩ := hs k hl
    have hxs := hz k
    by_cases h0 : (ns.getD k ByteArray.empty).data.toList.length < 1
    · have hgf : goodB ns k = false := by
        cases h : goodB ns k with
        | false => rfl
        | true => have := wf_ne (hg.1 h).2.1; exact absurd (List.eq_nil_of_length_eq_zero (by omega)) this
      have HG := Lib.hid hgf
      have hx0 : (ns.getD k ByteArray.empty).size = 0 := by rw [Lib.size_eq]; omega
      clear hg hgf h0 hs
      generalize ns.getD k ByteArray.empty = x at hc hxs hx0
      go_enter Tryd.func44, Tryd.ntmps44
      go_wp2
      go_ret
      exact ⟨ret_bool HG.out.symm, rfl⟩
    by_cases h1 : 32 < (ns.getD k ByteArray.empty).data.toList.length
    · have hgf : goodB ns k = false := by
        cases h : goodB ns k with
        | false => rfl
        | true => have := (hg.1 h).2.1; rw [wfB_long h1] at this; cases this
      have HG := Lib.hid hgf
      have hx0 : ¬ (ns.getD k ByteArray.empty).size = 0 := by rw [Lib.size_eq]; omega
      have hx1 : 32 < (ns.getD k ByteArray.empty).size := by rw [Lib.size_eq]; omega
      clear hg hgf h0 h1 hs
      generalize ns.getD k ByteArray.empty = x at hc hxs hx0 hx1
      go_enter Tryd.func44, Tryd.ntmps44
      go_wp2
      go_ret
      exact ⟨ret_bool HG.out.symm, rfl⟩
    · have hw := wfB_okAt (l := (ns.getD k ByteArray.empty).data.toList) (by omega) (by omega)
      have hx0 : ¬ (ns.getD k ByteArray.empty).size = 0 := by rw [Lib.size_eq]; omega
      have hx1 : ¬ 32 < (ns.getD k ByteArray.empty).size := by rw [Lib.size_eq]; omega
      have hsz := Lib.size_eq (ns.getD k ByteArray.empty)
      have HW := Lib.hid hw
      have HG := Lib.hid hg
      have HS := Lib.hid hs
      have HSZ := Lib.hid hsz
      obtain ⟨x, hx⟩ : ∃ x, ns.getD k ByteArray.empty = x := ⟨_, rfl⟩
      rw [hx] at hc hxs hx0 hx1 HW HSZ
      have HX := Lib.hid hx
      have hxb : ((x.size : Int) == 0) = false := by simpa using hx0
      have hxc : (x.size : Int) ≤ 32 := by omega
      clear hx0 hx1 hg h0 h1 hs hw hsz hx
      go_enter Tryd.func44, Tryd.ntmps44
      go_wp2
      go_loop [6] (fun i => ∃ j : Nat, j ≤ x.size ∧ i = .int .i64 j ∧ Hid (∀ i (hi : i < x.data.toList.length), i < j → okAt x.data.toList[i] i = true)) (fun i => x.size - (intOf i).toNat)
      case atStart => exact ⟨0, Nat.zero_le _, rfl, Lib.hid (fun i _ h => absurd h (Nat.not_lt_zero _))⟩
      case round =>
        obtain ⟨j, hj, rfl, HA⟩ := hrel
        by_cases hlt : j < x.size
        · have hlen : j < x.data.toList.length := by rw [← HSZ.out]; exact hlt
          have hget : x.data.toList[j] = x[j] := rfl
          have HOK := Lib.hid (fun (h : okAt x[j] j = true) i (hi : i < x.data.toList.length) (hij : i < j + 1) => show okAt x.data.toList[i] i = true from if e : i = j then by subst e; exact h else HA.out i hi (by omega))
          have HBAD := Lib.hid (fun (h : okAt x[j] j = false) => bad_good HG.out HX.out HW.out hlen h)
          clear HA HW HG hget
          have hcls : (97 ≤ (x[j]).toNat ∧ (x[j]).toNat ≤ 122) ∨ ((x[j]).toNat = 95) ∨ ((48 ≤ (x[j]).toNat ∧ (x[j]).toNat ≤ 57) ∧ 0 < j) ∨ ((48 ≤ (x[j]).toNat ∧ (x[j]).toNat ≤ 57) ∧ ¬ 0 < j) ∨ ((x[j]).toNat < 48) ∨ (57 < (x[j]).toNat ∧ (x[j]).toNat < 95) ∨ (95 < (x[j]).toNat ∧ (x[j]).toNat < 97) ∨ (122 < (x[j]).toNat) := by omega
          rcases hcls with hc1 | hc2 | hc3 | hc4 | hc5 | hc6 | hc7 | hc8
          · have hok : okAt x[j] j = true := by
              unfold okAt letB digB
              simp only [Bool.or_eq_true, Bool.and_eq_true, decide_eq_true_eq]; omega
            have fA : (97 : Int) ≤ ((x[j]).toNat : Int) := by omega
            have fB : ((x[j]).toNat : Int) ≤ 122 := by omega
            have fC : (((x[j]).toNat : Int) == 95) = false := by simp; omega
            have fD : (48 : Int) ≤ ((x[j]).toNat : Int) := by omega
            have fE : ¬ ((x[j]).toNat : Int) ≤ 57 := by omega
            have HN := Lib.hid (HOK.out hok)
            clear hc1 hok HOK HBAD
            go_wp2
            exact ⟨⟨j + 1, by omega, by go_num, HN⟩, by simp [intOf]; omega⟩
          · have hok : okAt x[j] j = true := by
              unfold okAt letB digB
              simp only [Bool.or_eq_true, Bool.and_eq_true, decide_eq_true_eq]; omega
            have fA : ¬ (97 : Int) ≤ ((x[j]).toNat : Int) := by omega
            have fB : ((x[j]).toNat : Int) ≤ 122 := by omega
            have fC : (((x[j]).toNat : Int) == 95) = true := by simp; omega
            have fD : (48 : Int) ≤ ((x[j]).toNat : Int) := by omega
            have fE : ¬ ((x[j]).toNat : Int) ≤ 57 := by omega
            have HN := Lib.hid (HOK.out hok)
            clear hc2 hok HOK HBAD
            go_wp2
            exact ⟨⟨j + 1, by omega, by go_num, HN⟩, by simp [intOf]; omega⟩
          · have hok : okAt x[j] j = true := by
              unfold okAt letB digB
              simp only [Bool.or_eq_true, Bool.and_eq_true, decide_eq_true_eq]; omega
            have fA : ¬ (97 : Int) ≤ ((x[j]).toNat : Int) := by omega
            have fB : ((x[j]).toNat : Int) ≤ 122 := by omega
            have fC : (((x[j]).toNat : Int) == 95) = false := by simp; omega
            have fD : (48 : Int) ≤ ((x[j]).toNat : Int) := by omega
            have fE : ((x[j]).toNat : Int) ≤ 57 := by omega
            have fF : 0 < j := by omega
            have HN := Lib.hid (HOK.out hok)
            clear hc3 hok HOK HBAD
            go_wp2
            exact ⟨⟨j + 1, by omega, by go_num, HN⟩, by simp [intOf]; omega⟩
          · have hok : okAt x[j] j = false := by
              unfold okAt letB digB
              simp only [Bool.or_eq_false_iff, Bool.and_eq_false_iff, decide_eq_false_iff_not]; omega
            have fA : ¬ (97 : Int) ≤ ((x[j]).toNat : Int) := by omega
            have fB : ((x[j]).toNat : Int) ≤ 122 := by omega
            have fC : (((x[j]).toNat : Int) == 95) = false := by simp; omega
            have fD : (48 : Int) ≤ ((x[j]).toNat : Int) := by omega
            have fE : ((x[j]).toNat : Int) ≤ 57 := by omega
            have fF : ¬ 0 < j := by omega
            have HN := Lib.hid (HBAD.out hok)
            clear hc4 hok HOK HBAD
            go_wp2
            go_ret
            exact ⟨ret_bool HN.out.symm, rfl⟩
          · have hok : okAt x[j] j = false := by
              unfold okAt letB digB
              simp only [Bool.or_eq_false_iff, Bool.and_eq_false_iff, decide_eq_false_iff_not]; omega
            have fA : ¬ (97 : Int) ≤ ((x[j]).toNat : Int) := by omega
            have fB : ((x[j]).toNat : Int) ≤ 122 := by omega
            have fC : (((x[j]).toNat : Int) == 95) = false := by simp; omega
            have fD : ¬ (48 : Int) ≤ ((x[j]).toNat : Int) := by omega
            have fE : ((x[j]).toNat : Int) ≤ 57 := by omega
            have HN := Lib.hid (HBAD.out hok)
            clear hc5 hok HOK HBAD
            go_wp2
            go_ret
            exact ⟨ret_bool HN.out.symm, rfl⟩
          · have hok : okAt x[j] j = false := by
              unfold okAt letB digB
              simp only [Bool.or_eq_false_iff, Bool.and_eq_false_iff, decide_eq_false_iff_not]; omega
            have fA : ¬ (97 : Int) ≤ ((x[j]).toNat : Int) := by omega
            have fB : ((x[j]).toNat : Int) ≤ 122 := by omega
            have fC : (((x[j]).toNat : Int) == 95) = false := by simp; omega
            have fD : (48 : Int) ≤ ((x[j]).toNat : Int) := by omega
            have fE : ¬ ((x[j]).toNat : Int) ≤ 57 := by omega
            have HN := Lib.hid (HBAD.out hok)
            clear hc6 hok HOK HBAD
            go_wp2
            go_ret
            exact ⟨ret_bool HN.out.symm, rfl⟩
          · have hok : okAt x[j] j = false := by
              unfold okAt letB digB
              simp only [Bool.or_eq_false_iff, Bool.and_eq_false_iff, decide_eq_false_iff_not]; omega
            have fA : ¬ (97 : Int) ≤ ((x[j]).toNat : Int) := by omega
            have fB : ((x[j]).toNat : Int) ≤ 122 := by omega
            have fC : (((x[j]).toNat : Int) == 95) = false := by simp; omega
            have fD : (48 : Int) ≤ ((x[j]).toNat : Int) := by omega
            have fE : ¬ ((x[j]).toNat : Int) ≤ 57 := by omega
            have HN := Lib.hid (HBAD.out hok)
            clear hc7 hok HOK HBAD
            go_wp2
            go_ret
            exact ⟨ret_bool HN.out.symm, rfl⟩
          · have hok : okAt x[j] j = false := by
              unfold okAt letB digB
              simp only [Bool.or_eq_false_iff, Bool.and_eq_false_iff, decide_eq_false_iff_not]; omega
            have fA : (97 : Int) ≤ ((x[j]).toNat : Int) := by omega
            have fB : ¬ ((x[j]).toNat : Int) ≤ 122 := by omega
            have fC : (((x[j]).toNat : Int) == 95) = false := by simp; omega
            have fD : (48 : Int) ≤ ((x[j]).toNat : Int) := by omega
            have fE : ¬ ((x[j]).toNat : Int) ≤ 57 := by omega
            have HN := Lib.hid (HBAD.out hok)
            clear hc8 hok HOK HBAD
            go_wp2
            go_ret
            exact ⟨ret_bool HN.out.symm, rfl⟩
        · have hwf := HW.out.2 (fun i hi => HA.out i hi (by rw [← HSZ.out] at hi; omega))
          have HWF := Lib.hid hwf
          clear HA HW hwf
          go_wp2
          go_loop [9] (fun i => ∃ j : Nat, j ≤ k ∧ i = .int .i64 j ∧ Hid (∀ i, i < j → ns.getD i ByteArray.empty ≠ x)) (fun i => k - (intOf i).toNat)
          case atStart => exact ⟨0, Nat.zero_le _, rfl, Lib.hid (fun i h => absurd h (Nat.not_lt_zero _))⟩
          case round =>
            obtain ⟨i, hi, rfl, HA⟩ := hrel
            by_cases hik : i < k
            · obtain ⟨b2, off2, he, hb2, hc2⟩ := HS.out i (by omega)
              obtain ⟨rfl, rfl⟩ : b = b2 ∧ off = off2 := by
                simp only [Option.some.injEq, Addr.mk.injEq, and_true] at he; exact he
              obtain ⟨y, hy⟩ : ∃ y, ns.getD i ByteArray.empty = y := ⟨_, rfl⟩
              rw [hy] at hc2
              have hys := hz i
              rw [hy] at hys
              clear he
              cases hyx : (y.toList == x.toList) with
              | true =>
                have hyx' := list_eq hyx
                have hgf : goodB ns k = false := by
                  cases h : goodB ns k with
                  | false => rfl
                  | true => exact absurd (hy.trans (hyx'.trans HX.out.symm)) ((HG.out.1 h).2.2 i hik)
                have HGF := Lib.hid hgf
                clear hy hyx' hgf
                go_wp2
                go_ret
                exact ⟨ret_bool HGF.out.symm, rfl⟩
              | false =>
                have HN := Lib.hid (fun (a : Nat) (ha : a < i + 1) => show ns.getD a ByteArray.empty ≠ x from if e : a = i then by subst e; rw [hy]; exact list_ne hyx else HA.out a (by omega))
                clear hy
                go_wp2
                exact ⟨⟨i + 1, by omega, by go_num, HN⟩, by simp [intOf]; omega⟩
            · obtain rfl : i = k := by omega
              have hgt := HG.out.2 ⟨hl, by rw [HX.out]; exact HWF.out, fun a ha => by rw [HX.out]; exact HA.out a ha⟩
              have HGT := Lib.hid hgt
              clear hgt
              go_wp2
              go_ret
              exact ⟨ret_bool HGT.out.symm, rfl⟩
  · have hgf : goodB ns k = false := by
      cases h : goodB ns k with
      | false => rfl
      | true => exact absurd (hg.1 h).1 hl
    have HG := Lib.hid hgf
    have hl' : (ns.length : Int) ≤ k := by omega
    clear hg hgf hs
    go_enter Tryd.func44, Tryd.ntmps44
    go_wp2
    go_ret
    exact ⟨ret_bool HG.out.symm, rfl⟩
end Go.Proofs.YthmcckdoneiglaaDoor
