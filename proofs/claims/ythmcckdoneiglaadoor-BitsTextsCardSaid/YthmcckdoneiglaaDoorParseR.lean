/- Parse of the document's answer, in every memory. -/
import Derived.Test.YthmcckdoneiglaaDoorParseM
import Derived.Test.YthmcckdoneiglaaDoorRefT
import Derived.Test.YthmcckdoneiglaaDoorRefA
import Derived.Shelf.SlSortCmp.QuietGrown
import Derived.BigQuiet
import Derived.Deep.DeepCutAuto
import Derived.Deep.CutBlock
import Derived.Laws.DeepStrings4
namespace Go.Proofs.YthmcckdoneiglaaDoor
open Go Go.RowKit

theorem extract_list (s : ByteArray) (i e : Nat) : (s.extract i e).data.toList = (s.data.toList.take e).drop i := by
  rw [ByteArray.data_extract, Array.toList_extract, List.extract_eq_take_drop, List.drop_take]

theorem sub_run (s : ByteArray) (i e : Nat) (h1 : i ≤ e) (h2 : e ≤ s.size) (W : World) : (Instr.slice 9 (.string s) (some (.int .i64 (i : Int))) (some (.int .i64 (e : Int))) none).run Tryd.prog W = .ok (.string (s.extract i e)) W := by
  rw [run_slice_string_if (P := Tryd.prog) (w := W) (t := 9) (s := s) (k := .i64) (k' := .i64) (i := i) (j := e) (h := Tryd.underlying9), if_pos ⟨by omega, by omega⟩, if_pos ⟨by omega, by omega⟩]
  rfl

theorem mixed : Tryd.prog.follows .mixedOrders = true := by kernel_rfl

theorem alloc_grow (w : World) (o : Obj) : w.alloc o = Sort.grow (w.drewN 0) #[o] := by
  unfold World.alloc Sort.grow
  simp [World.drewN]

theorem number_grown (j : Nat) (hj : j < 64) (w : World) (nq : Nat) (os : Array Obj) :
    Calls Tryd.prog 43 #[.int .i64 (j : Int)] (Sort.grow (w.drewN nq) os) fun e w'' => e = .returned (.string ⟨(Lib.decDigits j).toArray⟩) ∧ ∃ p : GrownBy, w'' = Sort.grow (w.drewN p.n) p.os :=
  Calls.grown_of ((number_al j hj _).mono fun _ _ ⟨he, C, hw⟩ => ⟨he, 0, #[.cells C 5], by rw [hw]; exact alloc_grow _ _⟩)

theorem good_grown (p : Option Addr) (c : Nat) (ns : List ByteArray) (hz : ∀ i, (ns.getD i ByteArray.empty).size ≤ maxLen) (j : Nat) (hj : j < 64) (w : World) (nq : Nat) (os : Array Obj) (hs : StrIn w.heap.size w p ns) :
    Calls Tryd.prog 44 #[.slice p ns.length c, .int .i64 (j : Int)] (Sort.grow (w.drewN nq) os) fun e w'' => e = .returned (.bool (goodB ns j)) ∧ ∃ p : GrownBy, w'' = Sort.grow (w.drewN p.n) p.os := by
  refine (refgood_any p c ns hz j hj _ ?_).mono fun _ _ ⟨he, hw⟩ => ⟨he, ⟨nq, os⟩, hw.symm⟩
  intro i hi
  obtain ⟨b, off, hp, hb, hc⟩ := hs i hi
  refine ⟨b, off, hp, ?_, Go.cell_grown (a := ⟨b, off + i, none⟩) hb hc nq os⟩
  have : (Sort.grow (w.drewN nq) os).heap.size = w.heap.size + os.size := by
    show (w.heap ++ os).size = _
    rw [Array.size_append]
  omega

theorem eqB (x y : ByteArray) : (x.toList == y.toList) = (x.data.toList == y.data.toList) := by
  cases h : (x.toList == y.toList) with
  | true => rw [list_eq h]; simp
  | false =>
    have hn := list_ne h
    symm
    rw [beq_eq_false_iff_ne]
    intro e
    apply hn
    cases x; cases y
    congr 1
    exact Array.toList_inj.1 e

theorem hit_num (it dg : ByteArray) (item : List UInt8) (j : Nat) (h1 : it.data.toList = item) (h2 : dg.data.toList = Lib.decDigits j) : (it.toList == ((⟨#[35]⟩ : ByteArray) ++ dg).toList) = (numB j == item) := by
  rw [eqB, h1]
  have : ((⟨#[35]⟩ : ByteArray) ++ dg).data.toList = numB j := by
    rw [ByteArray.data_append, Array.toList_append, h2]; rfl
  rw [this, Bool.eq_iff_iff, beq_iff_eq, beq_iff_eq]
  exact ⟨Eq.symm, Eq.symm⟩

theorem below_grow {B : Nat} {w wr : World} (h : Below B w wr) (hB : B ≤ wr.heap.size) (n : Nat) (os : Array Obj) : Below B w (Sort.grow (wr.drewN n) os) := by
  refine ⟨h.os, h.tape, h.output, ?_, fun k hk => ?_⟩
  · have : (Sort.grow (wr.drewN n) os).heap.size = wr.heap.size + os.size := by
      show (wr.heap ++ os).size = _
      rw [Array.size_append]
    have := h.size
    omega
  · rw [← h.block k hk]
    show (wr.heap ++ os)[k]? = _
    rw [Array.getElem?_append_left (by omega)]

theorem hit_res (ns : List ByteArray) (it dg : ByteArray) (item : List UInt8) (j : Nat) (h1 : it.data.toList = item) (h2 : dg.data.toList = Lib.decDigits j) :
    hitB ns item j = ((it.toList == ((⟨#[35]⟩ : ByteArray) ++ dg).toList) || (goodB ns j && ((ns.getD j ByteArray.empty).toList == it.toList))) := by
  unfold hitB
  rw [hit_num it dg item j h1 h2, eqB, h1]

theorem good_lt {ns : List ByteArray} {k : Nat} (h : goodB ns k = true) : k < ns.length := by
  rw [goodB_iff] at h
  exact h.1

/-- How far the principals have been asked for an item that stands for P. -/
def InnerR (P : Option Nat) (a j a2 : Nat) (b : Bool) : Prop :=
  (∀ k, P = some k → k < j → a2 = a ||| 2 ^ k ∧ b = true) ∧ ((∀ k, P = some k → j ≤ k) → a2 = a ∧ b = false)

theorem inner_hit {P : Option Nat} {a j a2 : Nat} {b : Bool} (hP : P = some j) (H : InnerR P a j a2 b) : InnerR P a (j + 1) (a2 ||| 2 ^ j) true := by
  have h2 := (H.2 (fun k hk => by rw [hP] at hk; cases hk; exact Nat.le_refl _)).1
  refine ⟨fun k hk _ => ?_, fun h => ?_⟩
  · rw [hP] at hk; cases hk
    exact ⟨by rw [h2], rfl⟩
  · have := h j hP; omega
theorem inner_miss {P : Option Nat} {a j a2 : Nat} {b : Bool} (hP : ¬ P = some j) (H : InnerR P a j a2 b) : InnerR P a (j + 1) a2 b := by
  have hne : ∀ k, P = some k → ¬ k = j := fun k hk e => hP (by rw [hk, e])
  exact ⟨fun k hk hlt => H.1 k hk (by have := hne k hk; omega), fun h => H.2 (fun k hk => by have := h k hk; omega)⟩

theorem seg_ne {l : List UInt8} {i e : Nat} (h : i < e) (he : e ≤ l.length) : (l.take e).drop i ≠ [] := by
  intro h0
  have := congrArg List.length h0
  rw [List.length_drop, List.length_take, Nat.min_eq_left he] at this
  simp at this
  omega

theorem item_split (l : List UInt8) {i e q : Nat} (hie : i ≤ e) (heq : e ≤ q) (hq : q ≤ l.length) : (l.take q).drop i = (l.take e).drop i ++ (l.take q).drop e := by
  have h1 : (l.take q).take e = l.take e := by rw [List.take_take, Nat.min_eq_left heq]
  conv => lhs; rw [← List.take_append_drop e (l.take q), h1]
  rw [List.drop_append_of_le_length (by rw [List.length_take]; omega)]

theorem item_step {zs : List ByteArray} {l : List UInt8} {i e q a : Nat} {R : Option Nat} (hie : i < e) (heq : e ≤ q) (hq : q < l.length) (hno : ∀ j (hj : j < l.length), i ≤ j → j < e → blankB l[j] = false)
    (hbl : e < q → ∀ hj : e < l.length, blankB l[e] = true) (hF : pfold zs (fieldsB ((l.take q).drop i)) a = R) :
    (plc zs ⟨((l.take e).drop i).toArray⟩ = none → R = none) ∧ (∀ k, plc zs ⟨((l.take e).drop i).toArray⟩ = some k → pfold zs (fieldsB ((l.take q).drop e)) (a ||| 2 ^ k) = R) := by
  have hf := fields_item ((l.take e).drop i) ((l.take q).drop e) (seg_ne hie (by omega)) (fun b hb => by
      obtain ⟨j, hj, rfl⟩ := List.mem_drop_iff_getElem.1 hb
      rw [List.getElem_take]
      rw [List.length_take] at hj
      exact hno _ _ (by omega) (by omega)) (fun c hc => by
      rw [List.head?_drop, List.getElem?_take] at hc
      split at hc
      · rename_i hlt
        obtain ⟨hj, rfl⟩ := List.getElem?_eq_some_iff.1 hc
        exact hbl hlt hj
      · cases hc)
  rw [← item_split l (Nat.le_of_lt hie) heq (Nat.le_of_lt hq)] at hf
  rw [hf] at hF
  simp only [pfold] at hF
  constructor
  · intro h; rw [h] at hF; exact hF.symm
  · intro k h; rw [h] at hF; exact hF

set_option maxRecDepth 100000 in
set_option maxHeartbeats 20000000 in
theorem refparse_any (s : ByteArray) (hs : s.size ≤ 140737488355328) (p : Option Addr) (c : Nat) (ns : List ByteArray) (hz : ∀ i, (ns.getD i ByteArray.empty).size ≤ maxLen) (w : World) (hsn : StrIn w.heap.size w p ns) :
    Calls Tryd.prog 15 #[.string s, .slice p ns.length c] w fun e w' => e = .returned (parsedV (parseB (gl ns (min ns.length 64)) s.data.toList)) ∧ Below w.heap.size w w' := by
  have hmx := mixed
  obtain ⟨R, hR⟩ : ∃ R, parseB (gl ns (min ns.length 64)) s.data.toList = R := ⟨_, rfl⟩
  rw [hR]
  obtain ⟨l, hl⟩ : ∃ l, s.data.toList = l := ⟨_, rfl⟩
  have hsz : s.size = l.length := by rw [Lib.size_eq, hl]
  have hat : ∀ k (h : k < s.size) (h2 : k < l.length), l[k] = s[k] := by subst hl; intro k h h2; rfl
  rw [hl] at hR
  have HR := Lib.hid hR
  have HSZ := Lib.hid hsz
  have HAT := Lib.hid hat
  have HL := Lib.hid hl
  clear hR hsz hat hl
  go_enter Tryd.func15, Tryd.ntmps15
  go_wp2
  go_loop [6] (fun i => ∃ k : Nat, k ≤ s.size ∧ i = .int .i64 k ∧ Hid (∀ j (hj : j < l.length), j < k → blankB l[j] = true)) (fun i => s.size - (intOf i).toNat)
  case atStart => exact ⟨0, Nat.zero_le _, rfl, Lib.hid (fun j _ h => absurd h (Nat.not_lt_zero _))⟩
  case round =>
    obtain ⟨k, hk, rfl, HA⟩ := hrel
    by_cases hlt : k < s.size
    · cases hb : blankB s[k] with
      | true =>
        have HN := Lib.hid (fun j (hj : j < l.length) (hjk : j < k + 1) => show blankB l[j] = true from if e : j = k then by subst e; rw [HAT.out j hlt hj]; exact hb else HA.out j hj (by omega))
        have hb2 : s[k].toNat = 32 ∨ (¬ s[k].toNat = 32 ∧ s[k].toNat = 9) := by
          unfold blankB at hb
          simp only [Bool.or_eq_true, decide_eq_true_eq] at hb
          omega
        clear hb HA
        rcases hb2 with hb2 | ⟨hb3, hb2⟩
        · have e32 : ((s[k].toNat : Int) == 32) = true := by rw [hb2]; rfl
          clear hb2
          go_wp2
          exact ⟨⟨k + 1, by omega, by go_num, HN⟩, by simp [intOf]; omega⟩
        · have e32 : ((s[k].toNat : Int) == 32) = false := by simp; omega
          have e9 : ((s[k].toNat : Int) == 9) = true := by rw [hb2]; rfl
          clear hb2 hb3
          go_wp2
          exact ⟨⟨k + 1, by omega, by go_num, HN⟩, by simp [intOf]; omega⟩
      | false =>
        have hne : ¬ s[k].toNat = 32 ∧ ¬ s[k].toNat = 9 := by
          unfold blankB at hb
          simp only [Bool.or_eq_false_iff, decide_eq_false_iff_not] at hb
          exact ⟨hb.2, hb.1⟩
        have e32 : ((s[k].toNat : Int) == 32) = false := by simp; omega
        have e9 : ((s[k].toNat : Int) == 9) = false := by simp; omega
        have HNB := Lib.hid hb
        clear hb hne
        go_wp2
        go_loop [7] (fun n => ∃ q : Nat, k ≤ q ∧ q < s.size ∧ n = .int .i64 ((q : Int) + 1) ∧ Hid (∀ j (hj : j < l.length), q < j → blankB l[j] = true)) (fun n => (intOf n).toNat)
        case atStart => exact ⟨s.size - 1, by omega, by omega, by congr 1; omega, Lib.hid (fun j hj h => by have := HSZ.out; omega)⟩
        case round =>
          obtain ⟨q, hq, hqN, rfl, HB⟩ := hrel
          have hqk : (k : Int) < (q : Int) + 1 := by omega
          cases hb : blankB s[q] with
          | true =>
            have hkq : k ≠ q := by
              intro e
              subst e
              rw [HNB.out] at hb; cases hb
            obtain ⟨r, rfl⟩ : ∃ r, q = r + 1 := ⟨q - 1, by omega⟩
            have HN := Lib.hid (fun j (hj : j < l.length) (hjk : r < j) => show blankB l[j] = true from if e : j = r + 1 then by subst e; rw [HAT.out (r + 1) hqN hj]; exact hb else HB.out j hj (by omega))
            have hb2 : s[r + 1].toNat = 32 ∨ (¬ s[r + 1].toNat = 32 ∧ s[r + 1].toNat = 9) := by
              unfold blankB at hb
              simp only [Bool.or_eq_true, decide_eq_true_eq] at hb
              omega
            clear hb HB
            rcases hb2 with hb2 | ⟨hb3, hb2⟩
            · have e32 : ((s[r + 1].toNat : Int) == 32) = true := by rw [hb2]; rfl
              clear hb2
              go_wp2
              exact ⟨⟨r, by omega, by omega, rfl, HN⟩, by simp [intOf]; omega⟩
            · have e32 : ((s[r + 1].toNat : Int) == 32) = false := by simp; omega
              have e9 : ((s[r + 1].toNat : Int) == 9) = true := by rw [hb2]; rfl
              clear hb2 hb3
              go_wp2
              exact ⟨⟨r, by omega, by omega, rfl, HN⟩, by simp [intOf]; omega⟩
          | false =>
            have hne : ¬ s[q].toNat = 32 ∧ ¬ s[q].toNat = 9 := by
              unfold blankB at hb
              simp only [Bool.or_eq_false_iff, decide_eq_false_iff_not] at hb
              exact ⟨hb.2, hb.1⟩
            have e32 : ((s[q].toNat : Int) == 32) = false := by simp; omega
            have e9 : ((s[q].toNat : Int) == 9) = false := by simp; omega
            have HQ := Lib.hid hb
            clear hb hne
            have htrim := trim_at l k (q + 1) (by omega) (by have := HSZ.out; omega) HA.out (fun j hj h => HB.out j hj (by omega)) (fun hj => by rw [HAT.out k hlt hj]; exact HNB.out) (fun _ hj => by have := HAT.out q hqN (by have := HSZ.out; omega); simp only [Nat.add_sub_cancel]; rw [this]; exact HQ.out)
            have hkl : k < l.length := by have := HSZ.out; omega
            have hql : q < l.length := by have := HSZ.out; omega
            clear HA HB HNB HQ
            by_cases h2 : q = k
            · subst h2
              have hnone : R = none := by
                rw [← HR.out]
                refine parse_none htrim (fun inner h => ?_)
                have := congrArg List.length h
                simp at this
                omega
              have HNO := Lib.hid hnone
              clear hnone HR htrim
              go_wp2
              go_ret2
              exact ⟨by rw [HNO.out]; rfl, Below.refl _ _⟩
            · have hkq : k < q := by omega
              have hge : ¬ (q : Int) + 1 - (k : Int) < 2 := by omega
              by_cases h123 : s[k].toNat = 123
              · have c1 : ((s[k].toNat : Int) != 123) = false := by rw [h123]; rfl
                by_cases h125 : s[q].toNat = 125
                · have c2 : ((s[q].toNat : Int) != 125) = false := by rw [h125]; rfl
                  have hpar := parse_some (zs := gl ns (min ns.length 64)) (htrim.trans (seg_is hkq hql (by rw [HAT.out k hlt hkl]; exact h123) (by rw [HAT.out q hqN hql]; exact h125)))
                  rw [HR.out] at hpar
                  have HP := Lib.hid hpar
                  have HSN := Lib.hid hsn
                  clear hpar htrim HR h123 h125 hsn
                  go_wp2
                  go_loopw [6, 8] (fun x y wr => ∃ (i a : Nat), k + 1 ≤ i ∧ i ≤ q ∧ x = .int .i64 i ∧ y = .int .u64 a ∧ a < 18446744073709551616 ∧ Hid (pfold (gl ns (min ns.length 64)) (fieldsB ((l.take q).drop i)) a = R) ∧ Below w.heap.size w wr) (fun x _ _ => q - (intOf x).toNat)
                  case atStart => exact ⟨k + 1, 0, Nat.le_refl _, by omega, by go_num, rfl, by omega, Lib.hid HP.out.symm, Below.refl _ _⟩
                  case round =>
                    obtain ⟨i, a, hki, hiq, rfl, rfl, ha, HF, hBw⟩ := hrel
                    by_cases hi : i < q
                    · have hiN : i < s.size := by omega
                      have hil : i < l.length := by omega
                      cases hb : blankB s[i] with
                      | true =>
                        have HN := Lib.hid (show pfold (gl ns (min ns.length 64)) (fieldsB ((l.take q).drop (i + 1))) a = R by rw [← fields_skip (r := l.take q) (i := i) (by rw [List.length_take]; omega) (by rw [List.getElem_take, HAT.out i hiN hil]; exact hb)]; exact HF.out)
                        have hb2 : s[i].toNat = 32 ∨ (¬ s[i].toNat = 32 ∧ s[i].toNat = 9) := by
                          unfold blankB at hb
                          simp only [Bool.or_eq_true, decide_eq_true_eq] at hb
                          omega
                        clear hb HF
                        rcases hb2 with hb2 | ⟨hb3, hb2⟩
                        · have f32 : ((s[i].toNat : Int) == 32) = true := by rw [hb2]; rfl
                          clear hb2
                          go_wp2
                          exact ⟨⟨i + 1, a, by omega, by omega, by go_num, rfl, ha, HN, hBw⟩, by simp [intOf]; omega⟩
                        · have f32 : ((s[i].toNat : Int) == 32) = false := by simp; omega
                          have f9 : ((s[i].toNat : Int) == 9) = true := by rw [hb2]; rfl
                          clear hb2 hb3
                          go_wp2
                          exact ⟨⟨i + 1, a, by omega, by omega, by go_num, rfl, ha, HN, hBw⟩, by simp [intOf]; omega⟩
                      | false =>
                        have hne : ¬ s[i].toNat = 32 ∧ ¬ s[i].toNat = 9 := by
                          unfold blankB at hb
                          simp only [Bool.or_eq_false_iff, decide_eq_false_iff_not] at hb
                          exact ⟨hb.2, hb.1⟩
                        have f32 : ((s[i].toNat : Int) == 32) = false := by simp; omega
                        have f9 : ((s[i].toNat : Int) == 9) = false := by simp; omega
                        have HI := Lib.hid hb
                        clear hb hne HP
                        go_upto_block 6 with (fail)
                        go_cut [6] (fun x wx => ∃ e : Nat, i < e ∧ e ≤ q ∧ x = .int .i64 e ∧ Hid (∀ j (hj : j < l.length), i ≤ j → j < e → blankB l[j] = false) ∧ Hid (e < q → ∀ hj : e < l.length, blankB l[e] = true) ∧ wx = wr)
                        case first =>
                          go_wp2
                          go_loop [6] (fun x => ∃ e : Nat, i ≤ e ∧ e ≤ q ∧ x = .int .i64 e ∧ Hid (∀ j (hj : j < l.length), i ≤ j → j < e → blankB l[j] = false)) (fun x => q - (intOf x).toNat)
                          case atStart => exact ⟨i, Nat.le_refl _, by omega, rfl, Lib.hid (fun j _ h1 h2 => by omega)⟩
                          case round =>
                            obtain ⟨e, hie, heq, rfl, HE⟩ := hrel
                            by_cases he : e < q
                            · have heN : e < s.size := by omega
                              have hel : e < l.length := by omega
                              cases hb : blankB s[e] with
                              | false =>
                                have HN := Lib.hid (fun j (hj : j < l.length) (h1 : i ≤ j) (h2 : j < e + 1) => show blankB l[j] = false from if h : j = e then by subst h; rw [HAT.out j heN hj]; exact hb else HE.out j hj h1 (by omega))
                                have hne : ¬ s[e].toNat = 32 ∧ ¬ s[e].toNat = 9 := by
                                  unfold blankB at hb
                                  simp only [Bool.or_eq_false_iff, decide_eq_false_iff_not] at hb
                                  exact ⟨hb.2, hb.1⟩
                                have g32 : ((s[e].toNat : Int) != 32) = true := by simp; omega
                                have g9 : ((s[e].toNat : Int) != 9) = true := by simp; omega
                                clear hb hne
                                go_wp2
                                exact ⟨⟨e + 1, by omega, by omega, by go_num, HN⟩, by simp [intOf]; omega⟩
                              | true =>
                                have hie2 : i < e := by
                                  rcases Nat.lt_or_eq_of_le hie with h | h
                                  · exact h
                                  · exfalso
                                    subst h
                                    rw [HI.out] at hb; cases hb
                                have HB2 := Lib.hid (fun (_ : e < q) (hj : e < l.length) => show blankB l[e] = true from by rw [HAT.out e heN hj]; exact hb)
                                have hb2 : s[e].toNat = 32 ∨ (¬ s[e].toNat = 32 ∧ s[e].toNat = 9) := by
                                  unfold blankB at hb
                                  simp only [Bool.or_eq_true, decide_eq_true_eq] at hb
                                  omega
                                clear hb
                                rcases hb2 with hb2 | ⟨hb3, hb2⟩
                                · have g32 : ((s[e].toNat : Int) != 32) = false := by rw [hb2]; rfl
                                  clear hb2
                                  go_wp2
                                  go_meet
                                  exact ⟨e, hie2, heq, rfl, HE, HB2, rfl⟩
                                · have g32 : ((s[e].toNat : Int) != 32) = true := by simp; omega
                                  have g9 : ((s[e].toNat : Int) != 9) = false := by rw [hb2]; rfl
                                  clear hb2 hb3
                                  go_wp2
                                  go_meet
                                  exact ⟨e, hie2, heq, rfl, HE, HB2, rfl⟩
                            · obtain rfl : e = q := by omega
                              have HB2 := Lib.hid (fun (h : e < e) (hj : e < l.length) => show blankB l[e] = true from absurd h (Nat.lt_irrefl _))
                              go_wp2
                              go_meet
                              exact ⟨e, by omega, Nat.le_refl _, rfl, HE, HB2, rfl⟩
                        case rest =>
                          obtain ⟨e, hie, heq, rfl, HE, HE2, rfl⟩ := hcut
                          have hie0 : i ≤ e := Nat.le_of_lt hie
                          go_wp2
                          go_loopw [8, 10, 11] (fun y h x wr => ∃ (j a2 : Nat) (b : Bool), j ≤ 64 ∧ x = .int .i64 j ∧ y = .int .u64 a2 ∧ h = .bool b ∧ a2 < 18446744073709551616 ∧ Hid (InnerR (plc (gl ns (min ns.length 64)) ⟨((l.take e).drop i).toArray⟩) a j a2 b) ∧ Below w.heap.size w wr) (fun _ _ x _ => 64 - (intOf x).toNat)
                          case atStart => exact ⟨0, a, false, Nat.zero_le _, rfl, rfl, rfl, ha, Lib.hid ⟨fun k _ h => absurd h (Nat.not_lt_zero _), fun _ => ⟨rfl, rfl⟩⟩, hBw⟩
                          case round =>
                            obtain ⟨j, a2, b, hj, rfl, rfl, rfl, ha2, HH, hB2⟩ := hrel
                            by_cases hj64 : j < 64
                            · have hji : (j : Int) < 64 := by omega
                              go_upto_region 22 with (fail)
                              have hs2 := HSN.out.below hB2 (Nat.le_refl _) hB2.size
                              go_cut [131] (fun r wx => r = .bool (hitB ns ((l.take e).drop i) j) ∧ Below w.heap.size w wx)
                              case first =>
                                have hnu := fun nq os => number_grown j hj64 wr nq os
                                have hgd := fun nq os => good_grown p c ns hz j hj64 wr nq os hs2
                                have hsl : ∀ W, (Instr.slice 9 (.string s) (some (.int .i64 (i : Int))) (some (.int .i64 (e : Int))) none).run Tryd.prog W = .ok (.string (s.extract i e)) W := fun W => sub_run s i e (by omega) (by omega) W
                                have hit := (extract_list s i e).trans (by rw [HL.out])
                                generalize s.extract i e = it at hsl hit
                                have hd4 : (⟨(Lib.decDigits j).toArray⟩ : ByteArray).size ≤ 2 := by rw [Lib.size_eq]; exact dec_short ⟨j, hj64⟩
                                have hd5 : (⟨(Lib.decDigits j).toArray⟩ : ByteArray).data.toList = Lib.decDigits j := by simp
                                generalize (⟨(Lib.decDigits j).toArray⟩ : ByteArray) = dg at hnu hd4 hd5
                                have ha1 : ¬ 9223372036854775807 < (⟨#[35]⟩ : ByteArray).size + dg.size := by rw [show (⟨#[35]⟩ : ByteArray).size = 1 from rfl]; omega
                                have ha2 : ¬ 9223372036854775807 < 1 + dg.size := by omega
                                have hn := hit_res ns it dg _ j hit hd5
                                have hcell : goodB ns j = true → ∃ b0 off, p = some ⟨b0, off, none⟩ ∧ j < ns.length ∧ ∀ nq os, (Sort.grow (wr.drewN nq) os).cell? ⟨b0, off + j, none⟩ = some (.string (ns.getD j ByteArray.empty)) := fun hg => by
                                  have hjl := good_lt hg
                                  obtain ⟨b0, off, hp, hlt, hc⟩ := hs2 j hjl
                                  exact ⟨b0, off, hp, hjl, fun nq os => Go.cell_grown (a := ⟨b0, off + j, none⟩) hlt hc nq os⟩
                                generalize goodB ns j = G at hgd hn hcell
                                generalize ns.getD j ByteArray.empty = nm at hcell hn
                                clear hd5 hit
                                cases h1 : (it.toList == ((⟨#[35]⟩ : ByteArray) ++ dg).toList) with
                                | true =>
                                  rw [h1, Bool.true_or] at hn
                                  have HNN := Lib.hid hn
                                  clear hn hcell
                                  refine wp_region_quiet_grown mixed (by kernel_rfl) ?_
                                  iterate 24 (go_big_quiet_step ((first | (go_at_call 43; exact hnu _ _) | (go_at_call 44; exact hgd _ _))))
                                  refine wpQuiet_nil ?_
                                  intro _ hw'
                                  obtain ⟨⟨nq, osq⟩, hw''⟩ := hw'
                                  subst hw''
                                  go_wp2
                                  go_meet
                                  exact ⟨congrArg Value.bool HNN.out.symm, below_grow hB2 hB2.size _ _⟩
                                | false =>
                                  rw [h1, Bool.false_or] at hn
                                  cases G with
                                  | false =>
                                    rw [Bool.false_and] at hn
                                    have HNN := Lib.hid hn
                                    clear hn hcell
                                    refine wp_region_quiet_grown mixed (by kernel_rfl) ?_
                                    iterate 24 (go_big_quiet_step ((first | (go_at_call 43; exact hnu _ _) | (go_at_call 44; exact hgd _ _))))
                                    refine wpQuiet_nil ?_
                                    intro _ hw'
                                    obtain ⟨⟨nq, osq⟩, hw''⟩ := hw'
                                    subst hw''
                                    go_wp2
                                    go_meet
                                    exact ⟨congrArg Value.bool HNN.out.symm, below_grow hB2 hB2.size _ _⟩
                                  | true =>
                                    obtain ⟨b0, off, rfl, hjl, hce⟩ := hcell rfl
                                    rw [Bool.true_and] at hn
                                    clear hcell
                                    cases h2 : (nm.toList == it.toList)
                                    all_goals
                                      rw [h2] at hn
                                      have HNN := Lib.hid hn
                                      clear hn
                                      refine wp_region_quiet_grown mixed (by kernel_rfl) ?_
                                      iterate 24 (go_big_quiet_step ((first | (go_at_call 43; exact hnu _ _) | (go_at_call 44; exact hgd _ _))))
                                      refine wpQuiet_nil ?_
                                      intro _ hw'
                                      obtain ⟨⟨nq, osq⟩, hw''⟩ := hw'
                                      subst hw''
                                      go_wp2
                                      go_meet
                                      exact ⟨congrArg Value.bool HNN.out.symm, below_grow hB2 hB2.size _ _⟩
                              case rest =>
                                obtain ⟨rfl, hBc⟩ := hcut
                                have hitem := seg_ne (l := l) hie (by omega)
                                have hif := hit_iff ns _ hitem j hj64
                                have ho := Lib.hid (bits_or_u64_nat _ _ ha2 (pow_lt64 j hj64))
                                have hpw := Lib.hid (pow_wrap j hj64)
                                cases hh : hitB ns ((l.take e).drop i) j with
                                | true =>
                                  have HN := Lib.hid (inner_hit (hif.1 hh) HH.out)
                                  have hlt2 := or_lt ha2 (pow_lt64 j hj64)
                                  clear hif hitem hh
                                  go_wp2
                                  rw [hpw.out, ho.out]
                                  exact ⟨⟨j + 1, a2 ||| 2 ^ j, true, by omega, by go_num, rfl, rfl, hlt2, HN, hBc⟩, by simp [intOf]; omega⟩
                                | false =>
                                  have HN := Lib.hid (inner_miss (fun h => by rw [hif.2 h] at hh; cases hh) HH.out)
                                  clear hif hitem hh
                                  go_wp2
                                  exact ⟨⟨j + 1, a2, b, by omega, by go_num, rfl, rfl, ha2, HN, hBc⟩, by simp [intOf]; omega⟩
                            · obtain rfl : j = 64 := by omega
                              have hst := item_step hie heq hql HE.out HE2.out HF.out
                              cases hP : plc (gl ns (min ns.length 64)) ⟨((l.take e).drop i).toArray⟩ with
                              | none =>
                                have hR0 := hst.1 hP
                                have hb2 := HH.out.2 (fun k hk => by rw [hP] at hk; cases hk)
                                obtain ⟨rfl, rfl⟩ := hb2
                                have HNO := Lib.hid hR0
                                clear hR0 hst hP
                                go_wp2
                                go_ret2
                                exact ⟨by rw [HNO.out]; rfl, hB2⟩
                              | some k0 =>
                                have hk0 := plc_lt (gl_length _ _) hP
                                obtain ⟨hae, rfl⟩ := HH.out.1 k0 hP hk0
                                have HN := Lib.hid (show pfold (gl ns (min ns.length 64)) (fieldsB ((l.take q).drop e)) a2 = R from by rw [hae]; exact hst.2 k0 hP)
                                clear hae hst hP hk0
                                go_wp2
                                exact ⟨⟨e, a2, by omega, heq, by go_num, rfl, ha2, HN, hB2⟩, by simp [intOf]; omega⟩
                    · obtain rfl : i = q := by omega
                      have hfin : R = some a := by
                        rw [← HF.out, List.drop_of_length_le (by rw [List.length_take]; omega)]; rfl
                      have HFN := Lib.hid hfin
                      clear hfin HF HP
                      go_wp2
                      go_ret2
                      exact ⟨by rw [HFN.out]; rfl, hBw⟩
                · have c2 : ((s[q].toNat : Int) != 125) = true := by simp; omega
                  have hnone : R = none := by
                    rw [← HR.out]
                    exact parse_none htrim (seg_not hkq hql (.inr (by rw [HAT.out q hqN hql]; exact h125)))
                  have HNO := Lib.hid hnone
                  clear hnone HR htrim h123 h125
                  go_wp2
                  go_ret2
                  exact ⟨by rw [HNO.out]; rfl, Below.refl _ _⟩
              · have c1 : ((s[k].toNat : Int) != 123) = true := by simp; omega
                have hnone : R = none := by
                  rw [← HR.out]
                  exact parse_none htrim (seg_not hkq hql (.inl (by rw [HAT.out k hlt hkl]; exact h123)))
                have HNO := Lib.hid hnone
                clear hnone HR htrim h123
                go_wp2
                go_ret2
                exact ⟨by rw [HNO.out]; rfl, Below.refl _ _⟩
    · obtain rfl : k = s.size := by omega
      have hnone : R = none := by
        rw [← HR.out]
        refine parse_none (m := []) ?_ (fun inner h => by simp at h)
        have h := trim_at l l.length l.length (Nat.le_refl _) (Nat.le_refl _) (fun j hj _ => HA.out j hj (by rw [HSZ.out]; exact hj)) (fun j hj h => by omega) (fun h => absurd h (Nat.lt_irrefl _)) (fun h => absurd h (Nat.lt_irrefl _))
        rw [h]; simp
      have HNO := Lib.hid hnone
      clear hnone HA HR
      go_wp2
      refine wp_loop_rounds 1 ?_
      rw [rounds_succ]
      go_wp2
      go_ret2
      exact ⟨by rw [HNO.out]; rfl, Below.refl _ _⟩
end Go.Proofs.YthmcckdoneiglaaDoor
