/- strings.FieldsFuncSeq over isBlank: for every text, every loop body that keeps the library's tables and the iterator's own boxes: it hands out the pieces between blanks, in their order. -/
import Derived.Test.YthmcckdoneiglaaGreatDoorI
namespace Go.Proofs.YthmcckdoneiglaaGreatDoor
open Go Go.RowKit Go.Shelf

attribute [local go_sem] Oper.semAt_some

/-- A piece: not empty, within Go's reach. -/
abbrev Fld := { x : ByteArray // 0 < x.size ∧ x.size ≤ 140737488355328 }

/-- What a loop body has to keep: the library's tables, and the iterator's two boxes. -/
def KpF (Bs Bf : Nat) (W W' : World) : Prop := Below 8 W W' ∧ W'.cell? ⟨Bs, 0, none⟩ = W.cell? ⟨Bs, 0, none⟩ ∧ W'.cell? ⟨Bf, 0, none⟩ = W.cell? ⟨Bf, 0, none⟩

theorem grown_none {A B : World} (h : Below A.heap.size A B) : A.grownBy B none := ⟨h.os, h.tape, h.output, h.size, fun k hk _ => h.block k hk⟩

theorem utf_below {n : Nat} {A B : World} (hn : 3 ≤ n) (h : Below n A B) (hT : Lib.Utf8Tabs 1 2 A) : Lib.Utf8Tabs 1 2 B :=
  ⟨fun c hc => (h.cell (p := ⟨1, c, none⟩) (by simp; omega)).trans (hT.1 c hc), fun i hi => ⟨(h.cell (p := ⟨2, 2 * i, none⟩) (by simp; omega)).trans (hT.2 i hi).1, (h.cell (p := ⟨2, 2 * i + 1, none⟩) (by simp; omega)).trans (hT.2 i hi).2⟩⟩

/-- What the iterator reads in a world. -/
def ItIn (Bs Bf : Nat) (s : ByteArray) (W : World) : Prop :=
  W.cell? ⟨Bs, 0, none⟩ = some (.string s) ∧ W.cell? ⟨Bf, 0, none⟩ = some (.func (.func 44) #[] #[]) ∧ Lib.Utf8Tabs 1 2 W ∧ Bs < W.heap.size ∧ Bf < W.heap.size ∧ 8 ≤ W.heap.size

theorem ItIn.below {Bs Bf : Nat} {s : ByteArray} {A B : World} (h : ItIn Bs Bf s A) (hb : Below A.heap.size A B) : ItIn Bs Bf s B := by
  obtain ⟨h1, h2, h3, h4, h5, h6⟩ := h
  have := hb.size
  exact ⟨(hb.cell (p := ⟨Bs, 0, none⟩) h4).trans h1, (hb.cell (p := ⟨Bf, 0, none⟩) h5).trans h2, utf_below (by omega) hb h3, by omega, by omega, by omega⟩

theorem ItIn.kept {Bs Bf : Nat} {s : ByteArray} {A B : World} (h : ItIn Bs Bf s A) (hk : KpF Bs Bf A B) : ItIn Bs Bf s B := by
  obtain ⟨h1, h2, h3, h4, h5, h6⟩ := h
  have := hk.1.size
  exact ⟨hk.2.1.trans h1, hk.2.2.trans h2, utf_below (by omega) hk.1 h3, by omega, by omega, by omega⟩

def startV : Option Nat → Value
  | none => .int .i64 (-1)
  | some a => .int .i64 (a : Int)

theorem ext_self (s : ByteArray) (i : Nat) (a : List UInt8) (hd : s.data.toList.drop i = a ++ s.data.toList.drop (i + a.length)) : (s.extract i (i + a.length)).data.toList = a := by
  rw [Lib.extract_data, hd, Nat.add_sub_cancel_left, List.take_left]

theorem ext_snoc (s : ByteArray) (q i : Nat) (a : List UInt8) (hq : q ≤ i) (hi : i ≤ s.size) (hd : s.data.toList.drop i = a ++ s.data.toList.drop (i + a.length)) : (s.extract q (i + a.length)).data.toList = (s.extract q i).data.toList ++ a := by
  have hl := Lib.size_eq s
  rw [Lib.extract_data, Lib.extract_data]
  have e : s.data.toList.drop q = (s.data.toList.drop q).take (i - q) ++ s.data.toList.drop i := by
    have h1 : s.data.toList.drop i = (s.data.toList.drop q).drop (i - q) := by rw [List.drop_drop]; congr 1; omega
    rw [h1, List.take_append_drop]
  have hlen : ((s.data.toList.drop q).take (i - q)).length = i - q := by rw [List.length_take, List.length_drop]; omega
  have e2 : i + a.length - q = ((s.data.toList.drop q).take (i - q)).length + a.length := by rw [hlen]; omega
  conv => lhs; rw [e, e2, List.take_append, List.take_of_length_le (by omega)]
  rw [Nat.add_sub_cancel_left, hd, List.take_left]

theorem ext_size (s : ByteArray) (q i : Nat) (hi : i ≤ s.size) : (s.extract q i).size = i - q := by
  rw [ByteArray.size_extract]; omega

theorem ext_all (s : ByteArray) (q : Nat) : s.extract q s.size = s.extract q s.size := rfl

set_option maxRecDepth 100000 in
set_option maxHeartbeats 2000000 in
theorem fields1_in (n l Bs Bf : Nat) (s : ByteArray) (hs : s.size ≤ 140737488355328) (J Jx : List Fld → World → Prop)
    (hY : ∀ pre x W, J pre W → pre.length < s.size → YieldAt Fence.wide (n - 1) Tryz.prog l #[.string x.1] W fun e W' =>
      (e = .returned (.bool true) ∧ J (pre ++ [x]) W' ∧ KpF Bs Bf W W') ∨ (e = .returned (.bool false) ∧ Jx (pre ++ [x]) W'))
    (W : World) (hJ : ∀ pre A B, J pre A → Below A.heap.size A B → J pre B) (hI : ItIn Bs Bf s W) (h0 : J [] W) :
    CallsIn Fence.wide n Tryz.prog 59 #[.func (.yield l) #[] #[], .pointer (some ⟨Bs, 0, none⟩), .pointer (some ⟨Bf, 0, none⟩)] W fun e W' => (∃ v, e = .returned v) ∧
      ((∃ ys : List Fld, ys.map (·.1.data.toList) = fieldsB s.data.toList ∧ J ys W') ∨ (∃ pre : List Fld, pre.map (·.1.data.toList) <+: fieldsB s.data.toList ∧ Jx pre W')) := by
  refine callsIn_of_wp Tryz.func59 rfl trivial ?_ rfl
  simp only [Tryz.ntmps59, List.size_toArray, List.length_cons, List.length_nil, Nat.reduceAdd, Nat.reduceSub, Array.replicate_succ, Array.replicate_zero, List.push_toArray, List.append_toArray, List.nil_append, List.cons_append]
  gi_wp2
  gi_loopw [4, 5] (fun st iv wr => ∃ (pre : List Fld) (i : Nat) (o : Option Nat), i ≤ s.size ∧ iv = .int .i64 (i : Int) ∧ st = startV o ∧ (∀ a, o = some a → a < i ∧ pre.length ≤ a) ∧ pre.length ≤ i ∧
      Hid (pre.map (·.1.data.toList) ++ flds (o.map fun a => (s.extract a i).data.toList) (s.data.toList.drop i) = fieldsB s.data.toList) ∧ Hid (ItIn Bs Bf s wr) ∧ Hid (J pre wr))
    (fun _ iv _ => s.size - (intOf iv).toNat)
  case atStart =>
    exact ⟨[], 0, none, Nat.zero_le _, rfl, rfl, (fun a h => by cases h), by simp, Lib.hid rfl, Lib.hid hI, Lib.hid h0⟩
  case round =>
    obtain ⟨pre, i, o, hi, rfl, rfl, ho, hpl, HF, HI, HJ⟩ := hrel
    by_cases hlt : i < s.size
    · obtain ⟨a, ha0, ha1, ha2, ha3, ha4, ha5⟩ := decode_at s i hlt
      have hdec := Tryz.utf8_DecodeRuneInString (s.extract i s.size) wr HI.out.2.2.1
      obtain ⟨R, hR⟩ : ∃ R, (Lib.decodeGo (s.extract i s.size)).1 = R := ⟨_, rfl⟩
      obtain ⟨K, hK⟩ : ∃ K, (Lib.decodeGo (s.extract i s.size)).2 = K := ⟨_, rfl⟩
      rw [hR, hK] at hdec
      rw [hR] at ha4 ha5
      rw [hK] at ha1
      clear hR hK
      have hcs := HI.out.1
      have hcf := HI.out.2.1
      have hk0 : 0 < K := by rw [← ha1]; exact List.length_pos_iff.2 ha0
      have hiK : i + K ≤ s.size := by omega
      have hbl := fun w2 => isBlank_any R w2
      have HD := Lib.hid ha2
      have HA := Lib.hid ha1
      have H4 := Lib.hid ha4
      have H5 := Lib.hid ha5
      clear ha0 ha1 ha2 ha3 ha4 ha5
      rcases o with _ | q
      · cases hb : blankN R with
        | true =>
          rw [hb] at hbl
          have HBL := Lib.hid hbl
          obtain ⟨b, ha, hbb⟩ := H4.out hb
          have HN := Lib.hid (show pre.map (·.1.data.toList) ++ flds ((none : Option Nat).map fun a => (s.extract a (i + K)).data.toList) (s.data.toList.drop (i + K)) = fieldsB s.data.toList by
            rw [← HF.out, ← HA.out, HD.out, ha]
            simp [flds_blank_none hbb])
          clear ha hbb hb hbl
          simp only [startV]
          gi_wp2_with fail
          refine ⟨trivial, (fun h => by cases h), ?_⟩
          gi_at_call 60
          refine (callsIn_wide.2 hdec).mono ?_
          rintro e w2 ⟨rfl, hb2⟩
          have I2 := HI.out.below hb2
          have hcf2 := I2.2.1
          gi_wp2_with fail
          refine ⟨trivial, (fun h => by cases h), ?_⟩
          gi_at_call 44
          refine (callsIn_wide.2 (HBL.out w2)).mono ?_
          rintro e w3 ⟨rfl, hb3⟩
          have I3 := Lib.hid (I2.below hb3)
          have J3 := Lib.hid (hJ _ _ _ (hJ _ _ _ HJ.out hb2) hb3)
          clear I2
          gi_wp2
          exact ⟨⟨pre, i + K, none, hiK, by push_cast; rfl, rfl, (fun a h => by cases h), by omega, HN, I3, J3⟩, by simp [intOf]; omega⟩
        | false =>
          rw [hb] at hbl
          have HBL := Lib.hid hbl
          have h5 := H5.out hb
          have HN := Lib.hid (show pre.map (·.1.data.toList) ++ flds ((some i : Option Nat).map fun a => (s.extract a (i + K)).data.toList) (s.data.toList.drop (i + K)) = fieldsB s.data.toList by
            rw [← HF.out, ← HA.out]
            have hx := ext_self s i a HD.out
            simp only [Option.map_some, Option.map_none]
            rw [hx]
            conv => rhs; rw [HD.out]
            rw [flds_run_none a _ (by intro h; have := HA.out; rw [h] at this; simp at this; omega) h5])
          clear h5 hb hbl
          simp only [startV]
          gi_wp2_with fail
          refine ⟨trivial, (fun h => by cases h), ?_⟩
          gi_at_call 60
          refine (callsIn_wide.2 hdec).mono ?_
          rintro e w2 ⟨rfl, hb2⟩
          have I2 := HI.out.below hb2
          have hcf2 := I2.2.1
          gi_wp2_with fail
          refine ⟨trivial, (fun h => by cases h), ?_⟩
          gi_at_call 44
          refine (callsIn_wide.2 (HBL.out w2)).mono ?_
          rintro e w3 ⟨rfl, hb3⟩
          have I3 := Lib.hid (I2.below hb3)
          have J3 := Lib.hid (hJ _ _ _ (hJ _ _ _ HJ.out hb2) hb3)
          clear I2
          gi_wp2
          exact ⟨⟨pre, i + K, some i, hiK, by push_cast; rfl, rfl, (fun a h => by cases h; exact ⟨by omega, hpl⟩), by omega, HN, I3, J3⟩, by simp [intOf]; omega⟩
      · obtain ⟨hq1, hq2⟩ := ho q rfl
        have hqz : (0 : Int) ≤ (q : Int) := by omega
        have hqi : (q : Int) ≤ (i : Int) := by omega
        cases hb : blankN R with
        | true =>
          rw [hb] at hbl
          have HBL := Lib.hid hbl
          obtain ⟨b, ha, hbb⟩ := H4.out hb
          have hxs := ext_size s q i (by omega)
          obtain ⟨x, hx⟩ : ∃ x : Fld, x.1 = s.extract q i := ⟨⟨s.extract q i, by omega, by omega⟩, rfl⟩
          have HN := Lib.hid (show (pre ++ [x]).map (·.1.data.toList) ++ flds ((none : Option Nat).map fun a => (s.extract a (i + K)).data.toList) (s.data.toList.drop (i + K)) = fieldsB s.data.toList by
            rw [← HF.out, ← HA.out, HD.out, ha]
            simp [flds_blank_some hbb, hx])
          have HX := Lib.hid hx
          clear ha hbb hb hbl hxs hx
          simp only [startV]
          gi_wp2_with fail
          refine ⟨trivial, (fun h => by cases h), ?_⟩
          gi_at_call 60
          refine (callsIn_wide.2 hdec).mono ?_
          rintro e w2 ⟨rfl, hb2⟩
          have I2 := HI.out.below hb2
          have hcf2 := I2.2.1
          gi_wp2_with fail
          refine ⟨trivial, (fun h => by cases h), ?_⟩
          gi_at_call 44
          refine (callsIn_wide.2 (HBL.out w2)).mono ?_
          rintro e w3 ⟨rfl, hb3⟩
          have I3 := Lib.hid (I2.below hb3)
          have J3 := Lib.hid (hJ _ _ _ (hJ _ _ _ HJ.out hb2) hb3)
          clear I2
          obtain ⟨fn, tmps, assign, body, hy1, hR⟩ := hY pre x w3 J3.out (by omega)
          rw [HX.out] at hy1
          have hcs3 := I3.out.1
          gi_wp2
          refine ⟨(fun h => by cases h), hR.mono ?_⟩
          rintro e W3 (⟨rfl, hJ3, hk3⟩ | ⟨rfl, hJx3⟩)
          · have I4 := Lib.hid (I3.out.kept hk3)
            have J4 := Lib.hid hJ3
            clear hk3 hJ3
            gi_wp2
            exact ⟨⟨pre ++ [x], i + K, none, hiK, by push_cast; rfl, rfl, (fun a h => by cases h), by simp; omega, HN, I4, J4⟩, by simp [intOf]; omega⟩
          · gi_wp2
            refine bodyPost_ret (results_none rfl _ _ _) rfl ?_
            exact ⟨⟨_, rfl⟩, .inr ⟨pre ++ [x], ⟨_, HN.out⟩, hJx3⟩⟩
        | false =>
          rw [hb] at hbl
          have HBL := Lib.hid hbl
          have h5 := H5.out hb
          have HN := Lib.hid (show pre.map (·.1.data.toList) ++ flds ((some q : Option Nat).map fun a => (s.extract a (i + K)).data.toList) (s.data.toList.drop (i + K)) = fieldsB s.data.toList by
            rw [← HF.out, ← HA.out]
            have hx := ext_snoc s q i a (by omega) (by omega) HD.out
            simp only [Option.map_some]
            rw [hx]
            conv => rhs; rw [HD.out]
            rw [flds_run_some a _ _ h5])
          clear h5 hb hbl
          simp only [startV]
          gi_wp2_with fail
          refine ⟨trivial, (fun h => by cases h), ?_⟩
          gi_at_call 60
          refine (callsIn_wide.2 hdec).mono ?_
          rintro e w2 ⟨rfl, hb2⟩
          have I2 := HI.out.below hb2
          have hcf2 := I2.2.1
          gi_wp2_with fail
          refine ⟨trivial, (fun h => by cases h), ?_⟩
          gi_at_call 44
          refine (callsIn_wide.2 (HBL.out w2)).mono ?_
          rintro e w3 ⟨rfl, hb3⟩
          have I3 := Lib.hid (I2.below hb3)
          have J3 := Lib.hid (hJ _ _ _ (hJ _ _ _ HJ.out hb2) hb3)
          clear I2
          gi_wp2
          exact ⟨⟨pre, i + K, some q, hiK, by push_cast; rfl, rfl, (fun a h => by cases h; exact ⟨by omega, hq2⟩), by omega, HN, I3, J3⟩, by simp [intOf]; omega⟩
    · have hdrop : s.data.toList.drop i = [] := List.drop_eq_nil_of_le (by rw [← Lib.size_eq]; omega)
      have HF2 := HF.out
      rw [hdrop] at HF2
      have hcs := HI.out.1
      rcases o with _ | q
      · have HF3 := Lib.hid (show pre.map (·.1.data.toList) = fieldsB s.data.toList by rw [← HF2]; simp [flds])
        clear HF2 hdrop
        simp only [startV]
        gi_wp2
        go_end0
        exact ⟨⟨_, rfl⟩, .inl ⟨pre, HF3.out, HJ.out⟩⟩
      · obtain ⟨hq1, hq2⟩ := ho q rfl
        have hqz : (0 : Int) ≤ (q : Int) := by omega
        have hqi : (q : Int) ≤ (s.size : Int) := by omega
        have hei : i = s.size := by omega
        have hxs := ext_size s q s.size (Nat.le_refl _)
        obtain ⟨x, hx⟩ : ∃ x : Fld, x.1 = s.extract q s.size := ⟨⟨s.extract q s.size, by omega, by omega⟩, rfl⟩
        have HF3 := Lib.hid (show (pre ++ [x]).map (·.1.data.toList) = fieldsB s.data.toList by rw [← HF2]; simp [flds, hx, hei])
        obtain ⟨fn, tmps, assign, body, hy1, hR⟩ := hY pre x wr HJ.out (by omega)
        rw [hx] at hy1
        clear HF2 hdrop hei hxs hx
        simp only [startV]
        gi_wp2
        refine ⟨(fun h => by cases h), hR.mono ?_⟩
        rintro e W3 (⟨rfl, hJ3, hk3⟩ | ⟨rfl, hJx3⟩)
        · have J4 := Lib.hid hJ3
          clear hk3 hJ3
          gi_wp2
          go_end0
          exact ⟨⟨_, rfl⟩, .inl ⟨pre ++ [x], HF3.out, J4.out⟩⟩
        · gi_wp2
          go_end0
          exact ⟨⟨_, rfl⟩, .inr ⟨pre ++ [x], by rw [HF3.out]; exact List.prefix_refl _, hJx3⟩⟩

/-- **FieldsFuncSeq**: text and predicate are boxed; the sequence captures both boxes. -/
theorem fields_any (s : ByteArray) (w : World) :
    Calls Tryz.prog 43 #[.string s, .func (.func 44) #[] #[]] w fun e w' => e = .returned (.func (.func 59) #[] #[.pointer (some ⟨w.heap.size, 0, none⟩), .pointer (some ⟨w.heap.size + 1, 0, none⟩)]) ∧
      w' = (w.alloc (.cells #[.string s] 9)).alloc (.cells #[.func (.func 44) #[] #[]] 77) := by
  go_enter Tryz.func43, Tryz.ntmps43
  go_wp2
  go_ret
  exact ⟨rfl, rfl⟩

theorem fields_stops (n Bs Bf : Nat) (s : ByteArray) (hs : s.size ≤ 140737488355328) (w : World) (hI : ItIn Bs Bf s w) :
    SeqStopsK Fence.wide n Tryz.prog 59 #[.pointer (some ⟨Bs, 0, none⟩), .pointer (some ⟨Bf, 0, none⟩)] (fun x : Fld => #[Value.string x.1]) (KpF Bs Bf) (fun ys => ys.map (·.1.data.toList) = fieldsB s.data.toList) (fun pre => pre.map (·.1.data.toList) <+: fieldsB s.data.toList) s.size w :=
  fun l J Jx W hW hJ _ hY h0 =>
    fields1_in n l Bs Bf s hs J Jx hY W (fun pre A B h hb => hJ pre A B none h (grown_none hb) (fun r e => by cases e)) (hI.below hW) h0
end Go.Proofs.YthmcckdoneiglaaGreatDoor
