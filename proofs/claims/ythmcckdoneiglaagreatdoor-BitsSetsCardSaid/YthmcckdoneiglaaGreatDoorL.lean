/- place of package bits: for every piece and every row of 64 names. -/
import Derived.Test.YthmcckdoneiglaaGreatDoorK
namespace Go.Proofs.YthmcckdoneiglaaGreatDoor
open Go Go.RowKit

theorem atoi_small : ∀ k : Fin 64, Lib.atoiAll (Lib.decDigits k.val) = .ok (k.val : Int) := by decide +kernel
theorem numB_inj : ∀ j k : Fin 64, numB j.val = numB k.val → j = k := by decide +kernel

/-- The place that a piece stands for. -/
def plc (zs : List ByteArray) (x : ByteArray) : Option Nat :=
  if 0 ≤ Lib.idxOfS zs x then some (Lib.idxOfS zs x).toNat else (List.range 64).find? (fun k => numB k == x.data.toList)

/-- How place ends. -/
def PlcEnd (zs : List ByteArray) (x : ByteArray) (e : Ending) : Prop :=
  ∃ (v : Int) (ok : Bool), e = .returned (.tuple #[.int .i64 v, .bool ok]) ∧ (∀ k, plc zs x = some k → ok = true ∧ v = (k : Int)) ∧ (plc zs x = none → ok = false)

theorem plc_hit {zs : List ByteArray} {x : ByteArray} {j : Int} (h : Lib.idxOfS zs x = j) (h0 : 0 ≤ j) : PlcEnd zs x (.returned (.tuple #[.int .i64 j, .bool true])) := by
  refine ⟨j, true, rfl, ?_, ?_⟩
  · intro k hk
    unfold plc at hk
    rw [h, if_pos h0] at hk
    cases hk
    exact ⟨rfl, by omega⟩
  · intro hk
    unfold plc at hk
    rw [h, if_pos h0] at hk
    cases hk

/-- What a numbered piece looks like. -/
theorem numB_parts {k : Nat} {l : List UInt8} (h : numB k = l) : Lib.hasPrefix l [35] = true ∧ Lib.trimPrefix l [35] = Lib.decDigits k := by
  subst h
  have h1 : Lib.hasPrefix (numB k) [35] = true := by simp [numB, Lib.hasPrefix]
  refine ⟨h1, ?_⟩
  unfold Lib.trimPrefix
  rw [if_pos h1]
  simp [numB]

theorem plc_none_of {zs : List ByteArray} {x : ByteArray} {j : Int} (h : Lib.idxOfS zs x = j) (h0 : ¬ 0 ≤ j) (hno : ∀ k, k < 64 → numB k ≠ x.data.toList) : plc zs x = none := by
  unfold plc
  rw [h, if_neg h0, List.find?_eq_none]
  intro k hk
  have := hno k (List.mem_range.1 hk)
  simpa using this

theorem plc_miss {zs : List ByteArray} {x : ByteArray} {j : Int} (h : Lib.idxOfS zs x = j) (h0 : ¬ 0 ≤ j) (hno : ∀ k, k < 64 → numB k ≠ x.data.toList) (v : Int) : PlcEnd zs x (.returned (.tuple #[.int .i64 v, .bool false])) := by
  have hp := plc_none_of h h0 hno
  refine ⟨v, false, rfl, ?_, fun _ => rfl⟩
  intro k hk
  rw [hp] at hk
  cases hk

theorem plc_num {zs : List ByteArray} {x : ByteArray} {j : Int} (h : Lib.idxOfS zs x = j) (h0 : ¬ 0 ≤ j) (k : Nat) (hk : k < 64) (he : numB k = x.data.toList) : PlcEnd zs x (.returned (.tuple #[.int .i64 (k : Int), .bool true])) := by
  have hp : plc zs x = some k := by
    unfold plc
    rw [h, if_neg h0]
    cases hf : (List.range 64).find? (fun k => numB k == x.data.toList) with
    | none =>
      rw [List.find?_eq_none] at hf
      exact absurd (by simpa using he) (hf k (List.mem_range.2 hk))
    | some m =>
      have h1 := List.find?_some hf
      have h2 := List.mem_range.1 (List.mem_of_find?_eq_some hf)
      have h3 : numB m = numB k := by rw [he]; simpa using h1
      have := numB_inj ⟨m, h2⟩ ⟨k, hk⟩ h3
      simp only [Fin.mk.injEq] at this
      rw [this]
  refine ⟨k, true, rfl, ?_, ?_⟩
  · intro m hm
    rw [hp] at hm
    cases hm
    exact ⟨rfl, rfl⟩
  · intro hm
    rw [hp] at hm
    cases hm

theorem plc_asked {zs : List ByteArray} {x : ByteArray} {j : Int} (h : Lib.idxOfS zs x = j) (h0 : ¬ 0 ≤ j) (k : Nat) (hk : k < 64) (hall : ∀ m, m < 64 → numB m = x.data.toList → m = k) {b : Bool} (hb : (numB k == x.toList) = b) :
    PlcEnd zs x (.returned (.tuple #[.int .i64 (k : Int), .bool b])) := by
  rw [Lib.toList_data] at hb
  cases b with
  | true => exact plc_num h h0 k hk (by simpa using hb)
  | false =>
    refine plc_miss h h0 (fun m hm he => ?_) _
    have hmk := hall m hm he
    subst hmk
    rw [he] at hb
    simp at hb

/-- The library's errors lie in their variables. -/
def ErrsIn (w : World) : Prop := (∃ tp p, w.var? Tryz.prog "strconv.ErrSyntax" = some #[.iface tp p]) ∧ (∃ tp p, w.var? Tryz.prog "strconv.ErrRange" = some #[.iface tp p])

theorem atoi_any (d : ByteArray) (hd : d.size ≤ 140737488355328) (w : World) (hE : ErrsIn w) :
    Calls Tryz.prog 63 #[.string d] w fun e w' => ((∃ v, Lib.atoiAll d.data.toList = .ok v ∧ e = .returned (.tuple #[.int .i64 v, .nilIface])) ∨ ((∀ v, Lib.atoiAll d.data.toList ≠ .ok v) ∧ ∃ v N, e = .returned (.tuple #[.int .i64 v, .iface 111 (.pointer (some ⟨N, 0, none⟩))]))) ∧ Below w.heap.size w w' := by
  obtain ⟨⟨tp, p, h1⟩, ⟨tp2, p2, h2⟩⟩ := hE
  rcases h : Lib.atoiAll d.data.toList with v | _ | _
  · refine (Tryz.strconv_Atoi_ok d (by omega) v h w).mono ?_
    rintro e w' ⟨rfl, hw⟩
    refine ⟨.inl ⟨v, rfl, rfl⟩, ?_⟩
    rcases hw with rfl | ⟨t, rfl⟩
    · exact Below.refl _ _
    · exact Lib.bytesWorld_below w 5 t
  · refine (Any.strconv_Atoi_syntax_var Tryz.laysC172 d (by omega) h tp p w h1).mono ?_
    rintro e w' ⟨N, rfl, _, _, hb⟩
    exact ⟨.inr ⟨(fun v hv => by cases hv), 0, N, rfl⟩, hb⟩
  · refine (Any.strconv_Atoi_range_var Tryz.laysC172 d (by omega) h tp2 p2 w h2).mono ?_
    rintro e w' ⟨N, rfl, _, _, hb⟩
    exact ⟨.inr ⟨(fun v hv => by cases hv), _, N, rfl⟩, hb⟩

set_option maxRecDepth 100000 in
set_option maxHeartbeats 2000000 in
theorem place_any (B : Nat) (zs : List ByteArray) (hl : zs.length = 64) (x : ByteArray) (hx : x.size ≤ 140737488355328) (w : World) (hG : GoodAt w B zs) (hE : ErrsIn w) :
    Calls Tryz.prog 45 #[.string x, .slice (some ⟨B, 0, none⟩) 64 64] w fun e w' => PlcEnd zs x e ∧ Below w.heap.size w w' := by
  have hi := same_flip (Tryz.slices_Index_string B 0 64 64 zs x w (by omega) (by omega) (fun j hj => by rw [Nat.zero_add]; exact (hG j (by omega)).1))
  rw [List.take_of_length_le (by omega)] at hi
  obtain ⟨j, hj⟩ : ∃ j, Lib.idxOfS zs x = j := ⟨_, rfl⟩
  rw [hj] at hi
  have HJ := Lib.hid hj
  clear hj hG
  by_cases h0 : 0 ≤ j
  · go_enter Tryz.func45, Tryz.ntmps45
    go_wp2_with (go_at_call 62; refine hi.mono ?_; rintro e w' ⟨rfl, rfl⟩)
    go_ret2
    exact ⟨plc_hit HJ.out h0, Below.refl _ _⟩
  · have hc := same_flip (Tryz.strings_CutPrefix x ⟨#[35]⟩ w)
    have hps : (⟨(Lib.trimPrefix x.data.toList [35]).toArray⟩ : ByteArray).size ≤ 140737488355328 := by
      have h1 := Lib.trimPrefix_le x.data.toList [35]
      have h2 := Lib.size_eq x
      have h3 : (⟨(Lib.trimPrefix x.data.toList [35]).toArray⟩ : ByteArray).size = (Lib.trimPrefix x.data.toList [35]).length := by rw [Lib.size_eq]
      omega
    have ha := atoi_any _ hps w hE
    have hd : (⟨(Lib.trimPrefix x.data.toList [35]).toArray⟩ : ByteArray).data.toList = Lib.trimPrefix x.data.toList [35] := rfl
    rw [hd] at ha
    have hsh : (⟨#[35]⟩ : ByteArray).data.toList = [35] := rfl
    rw [hsh] at hc
    clear hd hsh hps
    cases hpf : Lib.hasPrefix x.data.toList [35] with
    | false =>
      rw [hpf] at hc
      have HNO := Lib.hid (show ∀ k, k < 64 → numB k ≠ x.data.toList from fun k _ h => by rw [(numB_parts h).1] at hpf; cases hpf)
      generalize Lib.trimPrefix x.data.toList [35] = tl at hc ha
      clear hpf
      go_enter Tryz.func45, Tryz.ntmps45
      go_wp2_with (first | (go_at_call 62; refine hi.mono ?_; rintro e w' ⟨rfl, rfl⟩) | (go_at_call 40; refine hc.mono ?_; rintro e w' ⟨rfl, rfl⟩))
      refine ha.mono ?_
      rintro e w1 ⟨⟨v, _, rfl⟩ | ⟨_, v, N, rfl⟩, hb⟩
      · go_wp2
        go_ret2
        exact ⟨plc_miss HJ.out (by omega) HNO.out _, hb⟩
      · go_wp2
        go_ret2
        exact ⟨plc_miss HJ.out (by omega) HNO.out _, hb⟩
    | true =>
      rw [hpf] at hc
      have HP := Lib.hid (show ∀ k, k < 64 → numB k = x.data.toList → Lib.atoiAll (Lib.trimPrefix x.data.toList [35]) = .ok (k : Int) from fun k hk h => by rw [(numB_parts h).2]; exact atoi_small ⟨k, hk⟩)
      generalize Lib.trimPrefix x.data.toList [35] = tl at hc ha HP
      clear hpf
      go_enter Tryz.func45, Tryz.ntmps45
      go_wp2_with (first | (go_at_call 62; refine hi.mono ?_; rintro e w' ⟨rfl, rfl⟩) | (go_at_call 40; refine hc.mono ?_; rintro e w' ⟨rfl, rfl⟩))
      refine ha.mono ?_
      rintro e w1 ⟨⟨v, hv, rfl⟩ | ⟨hno, v, N, rfl⟩, hb⟩
      · by_cases hr : 0 ≤ v ∧ v < 64
        · obtain ⟨hv0, hv1⟩ := hr
          obtain ⟨k, rfl⟩ := Int.eq_ofNat_of_zero_le hv0
          have hk : k < 64 := by omega
          have hnum := numbered_any k hk w1
          have HALL := Lib.hid (show ∀ m, m < 64 → numB m = x.data.toList → m = k from fun m hm he => by
            have := HP.out m hm he
            rw [hv] at this
            injection this with h2
            omega)
          clear hv
          go_wp2_with (go_at_call 49; refine hnum.mono ?_; rintro e w' ⟨rfl, rfl⟩)
          go_ret2
          exact ⟨plc_asked HJ.out (by omega) k hk HALL.out rfl, hb⟩
        · have HNO := Lib.hid (show ∀ k, k < 64 → numB k ≠ x.data.toList from fun k hk h => by
            have := HP.out k hk h
            rw [hv] at this
            injection this with h2
            exact hr ⟨by omega, by omega⟩)
          clear hv
          by_cases hv0 : 0 ≤ v
          · have hv1 : ¬ v < 64 := fun h => hr ⟨hv0, h⟩
            clear hr
            go_wp2
            go_ret2
            exact ⟨plc_miss HJ.out (by omega) HNO.out _, hb⟩
          · clear hr
            go_wp2
            go_ret2
            exact ⟨plc_miss HJ.out (by omega) HNO.out _, hb⟩
      · have HNO := Lib.hid (show ∀ k, k < 64 → numB k ≠ x.data.toList from fun k hk h => hno _ (HP.out k hk h))
        clear hno
        go_wp2
        go_ret2
        exact ⟨plc_miss HJ.out (by omega) HNO.out _, hb⟩
end Go.Proofs.YthmcckdoneiglaaGreatDoor
