/- May of the document's answer, Name and ByName of both, in every memory. -/
import Derived.Test.YtahnhohccbnhjaaCoB
import Derived.Laws.Tables
import Derived.Laws.Rows
namespace Go.Proofs.Ytahnhohccbnhjaa
open Go Go.RowKit

set_option maxRecDepth 100000 in
set_option maxHeartbeats 1000000 in
theorem refMay_any (op a : Int) (w : World) : Calls Try.prog 13 #[inV op a] w fun e w' => e = .returned (.bool (mayI op a)) ∧ Below w.heap.size w w' := by
  have hT := Lib.hid (Table_any op)
  unfold tbV rwV at hT
  unfold mayI
  generalize nmI op = s at hT
  generalize poI op = p at hT
  generalize puI op = q at hT
  generalize kiI op = k at hT ⊢
  cases hk : knI op
  · rw [hk] at hT
    clear hk
    go_enter Try.func13, Try.ntmps13
    go_wp2_with fail
    refine (hT.out _).mono ?_
    rintro e w1 ⟨rfl, hb⟩
    go_wp2
    all_goals
      go_ret
      exact ⟨rfl, (((Below.refl _ w).alloc (Nat.le_refl _) _).trans (hb.mono (by simp))).alloc (by have := hb.size; simp at this; omega) _⟩
  · rw [hk] at hT
    clear hk
    by_cases h0 : k = 0
    · subst h0
      go_enter Try.func13, Try.ntmps13
      go_wp2_with fail
      refine (hT.out _).mono ?_
      rintro e w1 ⟨rfl, hb⟩
      have hc : w1.cell? ⟨w.heap.size, 1, none⟩ = some (.int .i64 a) := (hb.cell (p := ⟨w.heap.size, 1, none⟩) (by simp)).trans (by rw [World.cell?_alloc_new]; rfl)
      have hlt : w.heap.size < w1.heap.size := by have := hb.size; simp at this; omega
      by_cases ha : a = 0
      all_goals
        go_wp2
        all_goals
          go_ret
          exact ⟨by simp [ha], (((Below.refl _ w).alloc (Nat.le_refl _) _).trans (hb.mono (by simp))).alloc (by have := hb.size; simp at this; omega) _⟩
    · by_cases h1 : k = 1
      all_goals
        go_enter Try.func13, Try.ntmps13
        go_wp2_with fail
        refine (hT.out _).mono ?_
        rintro e w1 ⟨rfl, hb⟩
        have hc : w1.cell? ⟨w.heap.size, 1, none⟩ = some (.int .i64 a) := (hb.cell (p := ⟨w.heap.size, 1, none⟩) (by simp)).trans (by rw [World.cell?_alloc_new]; rfl)
        have hlt : w.heap.size < w1.heap.size := by have := hb.size; simp at this; omega
        by_cases ha : 0 ≤ a
        all_goals
          go_wp2
          all_goals
            go_ret
            exact ⟨by simp [h0, h1, ha], (((Below.refl _ w).alloc (Nat.le_refl _) _).trans (hb.mono (by simp))).alloc (by have := hb.size; simp at this; omega) _⟩

def nmA : Array Value := #[.string ⟨#[]⟩, .string ⟨#[97, 100, 100]⟩, .string ⟨#[115, 117, 98]⟩, .string ⟨#[109, 117, 108]⟩, .string ⟨#[100, 105, 118]⟩, .string ⟨#[114, 101, 109]⟩, .string ⟨#[97, 110, 100]⟩, .string ⟨#[111, 114]⟩, .string ⟨#[120, 111, 114]⟩, .string ⟨#[115, 104, 108]⟩, .string ⟨#[115, 104, 114]⟩, .string ⟨#[101, 113]⟩, .string ⟨#[110, 101]⟩, .string ⟨#[108, 116]⟩, .string ⟨#[108, 101]⟩, .string ⟨#[110, 101, 103]⟩, .string ⟨#[110, 111, 116]⟩, .string ⟨#[105, 110, 118]⟩, .string ⟨#[]⟩, .string ⟨#[]⟩, .string ⟨#[]⟩, .string ⟨#[]⟩, .string ⟨#[]⟩, .string ⟨#[]⟩, .string ⟨#[]⟩, .string ⟨#[]⟩, .string ⟨#[]⟩, .string ⟨#[]⟩, .string ⟨#[]⟩, .string ⟨#[]⟩, .string ⟨#[]⟩, .string ⟨#[]⟩, .string ⟨#[99, 111, 110, 115, 116]⟩, .string ⟨#[108, 111, 99, 97, 108]⟩, .string ⟨#[115, 101, 116]⟩, .string ⟨#[103, 108, 111, 98, 97, 108]⟩, .string ⟨#[115, 101, 116, 103, 108, 111, 98, 97, 108]⟩, .string ⟨#[108, 111, 97, 100]⟩, .string ⟨#[115, 116, 111, 114, 101]⟩, .string ⟨#[100, 117, 112]⟩, .string ⟨#[115, 119, 97, 112]⟩, .string ⟨#[112, 111, 112]⟩, .string ⟨#[110, 111, 112]⟩, .string ⟨#[106, 117, 109, 112]⟩, .string ⟨#[122, 101, 114, 111]⟩, .string ⟨#[99, 97, 108, 108]⟩, .string ⟨#[114, 101, 116, 117, 114, 110]⟩, .string ⟨#[115, 101, 110, 100]⟩]
def nmV : Value := .agg nmA
theorem wpList_build_to {P : Program} {ops : Array Oper} {rest : List Oper} {o : Oper} {a : Act} {w : World} {Q : Exit → Act → World → Prop} (hg : o.guard = none) (t : TypeId) (parts : Array (Nat × Operand)) (ho : o.op = .build t parts)
    (cells : Array Value) (hf : P.built t (parts.map fun (i, x) => (i, a.eval x)).toList = some cells)
    (h : wpList P ops Q rest (a.put o.dst (.agg cells)) w) : wpList P ops Q (o :: rest) a w :=
  wpList_build hg t parts ho (by rw [hf]; rfl) (by rw [hf]; exact h)
theorem info_nm : (Try.prog.info? 70).map (·.size) = some nmA.size := by kernel_rfl
set_option maxRecDepth 100000 in
theorem names_any (w : World) : Calls Try.prog 32 #[] w fun e w' => e = .returned nmV ∧ Below w.heap.size w w' := by
  rw [show nmV = .agg nmA from rfl]
  go_enter Try.func32, Try.ntmps32
  go_upto_region 1 with (fail)
  refine wp_region_lit ?_
  refine wpList_build_to rfl _ _ rfl nmA (by kernel_rfl) ?_
  refine wpList_store_row rfl _ _ _ rfl w.heap.size nmA rfl rfl _ _ (heap_alloc_new w _) info_nm rfl (by kernel_rfl) ?_
  have hg := setRow_heap _ _ _ nmA _ _ (heap_alloc_new w (Obj.cells (nmL.map fun _ => Value.string ⟨#[]⟩).toArray 70))
  have hs : Below w.heap.size w ((w.alloc (Obj.cells (nmL.map fun _ => Value.string ⟨#[]⟩).toArray 70)).setRow w.heap.size nmA) :=
    ⟨rfl, rfl, rfl, by simp, fun k hk => (setRow_other _ _ _ _ (by omega)).trans (heap_alloc_old _ _ hk)⟩
  refine wpList_nil ?_
  change Exit.then _ _ _ { tmps := #[Value.pointer (some { block := w.heap.size, off := 0 }), .agg nmA], defers := [] } ((w.alloc (Obj.cells (nmL.map fun _ => Value.string ⟨#[]⟩).toArray 70)).setRow w.heap.size nmA)
  generalize (w.alloc (Obj.cells (nmL.map fun _ => Value.string ⟨#[]⟩).toArray 70)).setRow w.heap.size nmA = W at hg hs ⊢
  have HG := Lib.hid hg
  clear hg
  have hi := info_nm
  go_wp2
  refine bodyPost_ret (results_cell_row rfl _ _ w.heap.size 70 nmA (0, 0) _ rfl HG.out Try.underlying70 rfl hi) rfl ⟨rfl, hs⟩
theorem ix_0 (w : World) : (Instr.index 70 nmV (.int .i64 0)).run Try.prog w = .ok (.string ⟨#[]⟩) w := by kernel_rfl
theorem ix_1 (w : World) : (Instr.index 70 nmV (.int .i64 1)).run Try.prog w = .ok (.string ⟨#[97, 100, 100]⟩) w := by kernel_rfl
theorem ix_2 (w : World) : (Instr.index 70 nmV (.int .i64 2)).run Try.prog w = .ok (.string ⟨#[115, 117, 98]⟩) w := by kernel_rfl
theorem ix_3 (w : World) : (Instr.index 70 nmV (.int .i64 3)).run Try.prog w = .ok (.string ⟨#[109, 117, 108]⟩) w := by kernel_rfl
theorem ix_4 (w : World) : (Instr.index 70 nmV (.int .i64 4)).run Try.prog w = .ok (.string ⟨#[100, 105, 118]⟩) w := by kernel_rfl
theorem ix_5 (w : World) : (Instr.index 70 nmV (.int .i64 5)).run Try.prog w = .ok (.string ⟨#[114, 101, 109]⟩) w := by kernel_rfl
theorem ix_6 (w : World) : (Instr.index 70 nmV (.int .i64 6)).run Try.prog w = .ok (.string ⟨#[97, 110, 100]⟩) w := by kernel_rfl
theorem ix_7 (w : World) : (Instr.index 70 nmV (.int .i64 7)).run Try.prog w = .ok (.string ⟨#[111, 114]⟩) w := by kernel_rfl
theorem ix_8 (w : World) : (Instr.index 70 nmV (.int .i64 8)).run Try.prog w = .ok (.string ⟨#[120, 111, 114]⟩) w := by kernel_rfl
theorem ix_9 (w : World) : (Instr.index 70 nmV (.int .i64 9)).run Try.prog w = .ok (.string ⟨#[115, 104, 108]⟩) w := by kernel_rfl
theorem ix_10 (w : World) : (Instr.index 70 nmV (.int .i64 10)).run Try.prog w = .ok (.string ⟨#[115, 104, 114]⟩) w := by kernel_rfl
theorem ix_11 (w : World) : (Instr.index 70 nmV (.int .i64 11)).run Try.prog w = .ok (.string ⟨#[101, 113]⟩) w := by kernel_rfl
theorem ix_12 (w : World) : (Instr.index 70 nmV (.int .i64 12)).run Try.prog w = .ok (.string ⟨#[110, 101]⟩) w := by kernel_rfl
theorem ix_13 (w : World) : (Instr.index 70 nmV (.int .i64 13)).run Try.prog w = .ok (.string ⟨#[108, 116]⟩) w := by kernel_rfl
theorem ix_14 (w : World) : (Instr.index 70 nmV (.int .i64 14)).run Try.prog w = .ok (.string ⟨#[108, 101]⟩) w := by kernel_rfl
theorem ix_15 (w : World) : (Instr.index 70 nmV (.int .i64 15)).run Try.prog w = .ok (.string ⟨#[110, 101, 103]⟩) w := by kernel_rfl
theorem ix_16 (w : World) : (Instr.index 70 nmV (.int .i64 16)).run Try.prog w = .ok (.string ⟨#[110, 111, 116]⟩) w := by kernel_rfl
theorem ix_17 (w : World) : (Instr.index 70 nmV (.int .i64 17)).run Try.prog w = .ok (.string ⟨#[105, 110, 118]⟩) w := by kernel_rfl
theorem ix_18 (w : World) : (Instr.index 70 nmV (.int .i64 18)).run Try.prog w = .ok (.string ⟨#[]⟩) w := by kernel_rfl
theorem ix_19 (w : World) : (Instr.index 70 nmV (.int .i64 19)).run Try.prog w = .ok (.string ⟨#[]⟩) w := by kernel_rfl
theorem ix_20 (w : World) : (Instr.index 70 nmV (.int .i64 20)).run Try.prog w = .ok (.string ⟨#[]⟩) w := by kernel_rfl
theorem ix_21 (w : World) : (Instr.index 70 nmV (.int .i64 21)).run Try.prog w = .ok (.string ⟨#[]⟩) w := by kernel_rfl
theorem ix_22 (w : World) : (Instr.index 70 nmV (.int .i64 22)).run Try.prog w = .ok (.string ⟨#[]⟩) w := by kernel_rfl
theorem ix_23 (w : World) : (Instr.index 70 nmV (.int .i64 23)).run Try.prog w = .ok (.string ⟨#[]⟩) w := by kernel_rfl
theorem ix_24 (w : World) : (Instr.index 70 nmV (.int .i64 24)).run Try.prog w = .ok (.string ⟨#[]⟩) w := by kernel_rfl
theorem ix_25 (w : World) : (Instr.index 70 nmV (.int .i64 25)).run Try.prog w = .ok (.string ⟨#[]⟩) w := by kernel_rfl
theorem ix_26 (w : World) : (Instr.index 70 nmV (.int .i64 26)).run Try.prog w = .ok (.string ⟨#[]⟩) w := by kernel_rfl
theorem ix_27 (w : World) : (Instr.index 70 nmV (.int .i64 27)).run Try.prog w = .ok (.string ⟨#[]⟩) w := by kernel_rfl
theorem ix_28 (w : World) : (Instr.index 70 nmV (.int .i64 28)).run Try.prog w = .ok (.string ⟨#[]⟩) w := by kernel_rfl
theorem ix_29 (w : World) : (Instr.index 70 nmV (.int .i64 29)).run Try.prog w = .ok (.string ⟨#[]⟩) w := by kernel_rfl
theorem ix_30 (w : World) : (Instr.index 70 nmV (.int .i64 30)).run Try.prog w = .ok (.string ⟨#[]⟩) w := by kernel_rfl
theorem ix_31 (w : World) : (Instr.index 70 nmV (.int .i64 31)).run Try.prog w = .ok (.string ⟨#[]⟩) w := by kernel_rfl
theorem ix_32 (w : World) : (Instr.index 70 nmV (.int .i64 32)).run Try.prog w = .ok (.string ⟨#[99, 111, 110, 115, 116]⟩) w := by kernel_rfl
theorem ix_33 (w : World) : (Instr.index 70 nmV (.int .i64 33)).run Try.prog w = .ok (.string ⟨#[108, 111, 99, 97, 108]⟩) w := by kernel_rfl
theorem ix_34 (w : World) : (Instr.index 70 nmV (.int .i64 34)).run Try.prog w = .ok (.string ⟨#[115, 101, 116]⟩) w := by kernel_rfl
theorem ix_35 (w : World) : (Instr.index 70 nmV (.int .i64 35)).run Try.prog w = .ok (.string ⟨#[103, 108, 111, 98, 97, 108]⟩) w := by kernel_rfl
theorem ix_36 (w : World) : (Instr.index 70 nmV (.int .i64 36)).run Try.prog w = .ok (.string ⟨#[115, 101, 116, 103, 108, 111, 98, 97, 108]⟩) w := by kernel_rfl
theorem ix_37 (w : World) : (Instr.index 70 nmV (.int .i64 37)).run Try.prog w = .ok (.string ⟨#[108, 111, 97, 100]⟩) w := by kernel_rfl
theorem ix_38 (w : World) : (Instr.index 70 nmV (.int .i64 38)).run Try.prog w = .ok (.string ⟨#[115, 116, 111, 114, 101]⟩) w := by kernel_rfl
theorem ix_39 (w : World) : (Instr.index 70 nmV (.int .i64 39)).run Try.prog w = .ok (.string ⟨#[100, 117, 112]⟩) w := by kernel_rfl
theorem ix_40 (w : World) : (Instr.index 70 nmV (.int .i64 40)).run Try.prog w = .ok (.string ⟨#[115, 119, 97, 112]⟩) w := by kernel_rfl
theorem ix_41 (w : World) : (Instr.index 70 nmV (.int .i64 41)).run Try.prog w = .ok (.string ⟨#[112, 111, 112]⟩) w := by kernel_rfl
theorem ix_42 (w : World) : (Instr.index 70 nmV (.int .i64 42)).run Try.prog w = .ok (.string ⟨#[110, 111, 112]⟩) w := by kernel_rfl
theorem ix_43 (w : World) : (Instr.index 70 nmV (.int .i64 43)).run Try.prog w = .ok (.string ⟨#[106, 117, 109, 112]⟩) w := by kernel_rfl
theorem ix_44 (w : World) : (Instr.index 70 nmV (.int .i64 44)).run Try.prog w = .ok (.string ⟨#[122, 101, 114, 111]⟩) w := by kernel_rfl
theorem ix_45 (w : World) : (Instr.index 70 nmV (.int .i64 45)).run Try.prog w = .ok (.string ⟨#[99, 97, 108, 108]⟩) w := by kernel_rfl
theorem ix_46 (w : World) : (Instr.index 70 nmV (.int .i64 46)).run Try.prog w = .ok (.string ⟨#[114, 101, 116, 117, 114, 110]⟩) w := by kernel_rfl
theorem ix_47 (w : World) : (Instr.index 70 nmV (.int .i64 47)).run Try.prog w = .ok (.string ⟨#[115, 101, 110, 100]⟩) w := by kernel_rfl
theorem index_nm (k : Nat) (h : k < 48) (w : World) : (Instr.index 70 nmV (.int .i64 (k : Int))).run Try.prog w = .ok (.string (nmI k)) w := by
  match k, h with
  | 0, _ => exact ix_0 w
  | 1, _ => exact ix_1 w
  | 2, _ => exact ix_2 w
  | 3, _ => exact ix_3 w
  | 4, _ => exact ix_4 w
  | 5, _ => exact ix_5 w
  | 6, _ => exact ix_6 w
  | 7, _ => exact ix_7 w
  | 8, _ => exact ix_8 w
  | 9, _ => exact ix_9 w
  | 10, _ => exact ix_10 w
  | 11, _ => exact ix_11 w
  | 12, _ => exact ix_12 w
  | 13, _ => exact ix_13 w
  | 14, _ => exact ix_14 w
  | 15, _ => exact ix_15 w
  | 16, _ => exact ix_16 w
  | 17, _ => exact ix_17 w
  | 18, _ => exact ix_18 w
  | 19, _ => exact ix_19 w
  | 20, _ => exact ix_20 w
  | 21, _ => exact ix_21 w
  | 22, _ => exact ix_22 w
  | 23, _ => exact ix_23 w
  | 24, _ => exact ix_24 w
  | 25, _ => exact ix_25 w
  | 26, _ => exact ix_26 w
  | 27, _ => exact ix_27 w
  | 28, _ => exact ix_28 w
  | 29, _ => exact ix_29 w
  | 30, _ => exact ix_30 w
  | 31, _ => exact ix_31 w
  | 32, _ => exact ix_32 w
  | 33, _ => exact ix_33 w
  | 34, _ => exact ix_34 w
  | 35, _ => exact ix_35 w
  | 36, _ => exact ix_36 w
  | 37, _ => exact ix_37 w
  | 38, _ => exact ix_38 w
  | 39, _ => exact ix_39 w
  | 40, _ => exact ix_40 w
  | 41, _ => exact ix_41 w
  | 42, _ => exact ix_42 w
  | 43, _ => exact ix_43 w
  | 44, _ => exact ix_44 w
  | 45, _ => exact ix_45 w
  | 46, _ => exact ix_46 w
  | 47, _ => exact ix_47 w
  | n + 48, h => exact absurd h (by omega)

/-- What a name leads to. -/
def ByRes (s : ByteArray) (r : Int) (b : Bool) : Prop := (b = true ∧ knI r = true ∧ nmI r = s) ∨ (b = false ∧ r = 0 ∧ ∀ k : Nat, k < 48 → knI k = true → nmI k ≠ s)
theorem knI_nat {r : Int} (h : knI r = true) : ∃ k : Nat, k < 48 ∧ r = k := by
  unfold knI at h
  rw [decide_eq_true_iff] at h
  exact ⟨r.toNat, by omega, by omega⟩
theorem nm_inj {r q : Int} (h1 : knI r = true) (h2 : knI q = true) (h : nmI r = nmI q) : r = q := by
  obtain ⟨j, hj, rfl⟩ := knI_nat h1
  obtain ⟨k, hk, rfl⟩ := knI_nat h2
  have key : ∀ j k : Fin 48, knI j.val = true → knI k.val = true → (nmI j.val).data.toList = (nmI k.val).data.toList → j.val = k.val := by decide +kernel
  have := key ⟨j, hj⟩ ⟨k, hk⟩ h1 h2 (by rw [show nmI ((⟨j, hj⟩ : Fin 48).val : Int) = nmI j from rfl, show nmI ((⟨k, hk⟩ : Fin 48).val : Int) = nmI k from rfl, h])
  simp only at this
  omega
def ByRet (s : ByteArray) (w : World) (e : Ending) (w' : World) : Prop := ∃ r b, e = .returned (.tuple #[.int .i64 r, .bool b]) ∧ ByRes s r b ∧ Below w.heap.size w w'
theorem ByRes.same {s : ByteArray} {r q : Int} {b c : Bool} (h1 : ByRes s r b) (h2 : ByRes s q c) : r = q ∧ b = c := by
  rcases h1 with ⟨rfl, k1, n1⟩ | ⟨rfl, rfl, n1⟩
  · rcases h2 with ⟨rfl, k2, n2⟩ | ⟨rfl, rfl, n2⟩
    · exact ⟨nm_inj k1 k2 (n1.trans n2.symm), rfl⟩
    · obtain ⟨k, hk, rfl⟩ := knI_nat k1
      exact absurd n1 (n2 k hk k1)
  · rcases h2 with ⟨rfl, k2, n2⟩ | ⟨rfl, rfl, n2⟩
    · obtain ⟨k, hk, rfl⟩ := knI_nat k2
      exact absurd n2 (n1 k hk k2)
    · exact ⟨rfl, rfl⟩
theorem list_eq {x y : ByteArray} (h : (x.toList == y.toList) = true) : x = y := by
  rw [beq_iff_eq, Lib.toList_data, Lib.toList_data] at h
  exact ByteArray.ext (Array.toList_inj.1 h)
theorem list_ne {x y : ByteArray} (h : (x.toList == y.toList) = false) : x ≠ y := by
  rintro rfl
  simp at h

set_option maxRecDepth 100000 in
set_option maxHeartbeats 1000000 in
theorem Name_any (op : Int) (w : World) : Calls Try.prog 15 #[.int .i64 op] w fun e w' => e = .returned (.string (nmI op)) ∧ Below w.heap.size w w' := by
  have HK := Lib.hid (isKnown_any op)
  cases hk : knI op
  · rw [(out_default hk).1]
    rw [hk] at HK
    clear hk
    go_enter Try.func15, Try.ntmps15
    go_wp2_with fail
    refine (HK.out _).mono ?_
    rintro e w1 ⟨rfl, rfl⟩
    go_wp2
    go_ret
    exact ⟨rfl, Below.refl _ _⟩
  · rw [hk] at HK
    obtain ⟨k, hk48, rfl⟩ := knI_nat hk
    have HI := Lib.hid (index_nm k hk48)
    clear hk hk48
    generalize nmI (k : Int) = s at HI ⊢
    go_enter Try.func15, Try.ntmps15
    go_wp2_with fail
    refine (HK.out _).mono ?_
    rintro e w1 ⟨rfl, rfl⟩
    go_wp2_with fail
    refine (names_any _).mono ?_
    rintro e w1 ⟨rfl, hb⟩
    generalize nmV = V at HI
    have hx := HI.out w1
    go_wp2
    go_ret
    exact ⟨rfl, hb⟩

set_option maxRecDepth 100000 in
set_option maxHeartbeats 1000000 in
theorem ByName_any (s : ByteArray) (w : World) : Calls Try.prog 10 #[.string s] w (ByRet s w) := by
  have HX := Lib.hid index_nm
  go_enter Try.func10, Try.ntmps10
  go_wp2_with fail
  refine (names_any _).mono ?_
  rintro e w1 ⟨rfl, hb⟩
  have HB := Lib.hid hb
  clear hb
  generalize nmV = V at HX
  go_wp2
  go_loop [7] (fun i => ∃ k : Nat, k ≤ 48 ∧ i = .int .i64 k ∧ ∀ j : Nat, j < k → knI j = true → nmI j ≠ s) (fun i => 48 - (intOf i).toNat)
  case atStart => exact ⟨0, by omega, rfl, fun j hj => absurd hj (by omega)⟩
  case round =>
    obtain ⟨k, hk, rfl, hno⟩ := hrel
    have HN := Lib.hid hno
    clear hno
    by_cases hlt : k < 48
    · have hki : (k : Int) < 48 := by omega
      have hx := HX.out k hlt w1
      have HK := Lib.hid (isKnown_any k)
      obtain ⟨z, hz⟩ : ∃ z, nmI k = z := ⟨_, rfl⟩
      rw [hz] at hx
      have HZ := Lib.hid hz
      clear hz
      cases he : (z.toList == s.toList)
      · go_wp2
        exact ⟨⟨k + 1, by omega, by go_num, fun j hj hjk => by
          rcases Nat.lt_or_ge j k with h | h
          · exact HN.out j h hjk
          · obtain rfl : j = k := by omega
            rw [HZ.out]
            exact list_ne he⟩, by simp [intOf]; omega⟩
      · cases hkn : knI k
        · have HK2 := Lib.hid (hkn ▸ HK.out)
          clear HK
          have HKN := Lib.hid hkn
          clear hkn
          go_wp2_with fail
          refine (HK2.out _).mono ?_
          rintro e w2 ⟨rfl, rfl⟩
          go_wp2
          exact ⟨⟨k + 1, by omega, by go_num, fun j hj hjk => by
            rcases Nat.lt_or_ge j k with h | h
            · exact HN.out j h hjk
            · obtain rfl : j = k := by omega
              rw [HKN.out] at hjk
              cases hjk⟩, by simp [intOf]; omega⟩
        · have HK2 := Lib.hid (hkn ▸ HK.out)
          clear HK
          have HKN := Lib.hid hkn
          clear hkn
          go_wp2_with fail
          refine (HK2.out _).mono ?_
          rintro e w2 ⟨rfl, rfl⟩
          go_wp2
          go_ret2
          exact ⟨_, _, rfl, .inl ⟨rfl, HKN.out, HZ.out.trans (list_eq he)⟩, HB.out⟩
    · obtain rfl : k = 48 := by omega
      go_wp2
      go_ret2
      exact ⟨_, _, rfl, .inr ⟨rfl, rfl, fun j hj hjk => HN.out j hj hjk⟩, HB.out⟩

set_option maxRecDepth 100000 in
set_option maxHeartbeats 1000000 in
theorem refByName_any (s : ByteArray) (w : World) : Calls Try.prog 11 #[.string s] w (ByRet s w) := by
  have HT := Lib.hid Table_any
  go_enter Try.func11, Try.ntmps11
  go_wp2
  go_loopw [4] (fun i wr => ∃ k : Nat, 1 ≤ k ∧ k ≤ 48 ∧ i = .int .i64 k ∧ (∀ j : Nat, j < k → knI j = true → nmI j ≠ s) ∧ Below w.heap.size w wr) (fun i _ => 48 - (intOf i).toNat)
  case atStart => exact ⟨1, by omega, by omega, rfl, fun j hj hk => (by obtain rfl : j = 0 := by omega
                                                                        cases hk), Below.refl _ _⟩
  case round =>
    obtain ⟨k, hk1, hk, rfl, hno, hb⟩ := hrel
    have HN := Lib.hid hno
    have HB := Lib.hid hb
    clear hno hb
    by_cases hlt : k < 48
    · have hki : (k : Int) ≤ 47 := by omega
      have hT := Lib.hid (HT.out k)
      unfold tbV rwV at hT
      obtain ⟨z, hz⟩ : ∃ z, nmI k = z := ⟨_, rfl⟩
      rw [hz] at hT
      have HZ := Lib.hid hz
      clear hz
      generalize poI k = p1 at hT
      generalize puI k = p2 at hT
      generalize kiI k = p3 at hT
      cases hkn : knI k
      · rw [hkn] at hT
        have HKN := Lib.hid hkn
        clear hkn
        go_wp2_with fail
        refine (hT.out _).mono ?_
        rintro e w2 ⟨rfl, hb2⟩
        have HB2 := Lib.hid (HB.out.trans (hb2.mono HB.out.size))
        clear hb2
        go_wp2
        all_goals
          exact ⟨⟨k + 1, by omega, by omega, by go_num, (fun j hj hjk => (by
            rcases Nat.lt_or_ge j k with h | h
            · exact HN.out j h hjk
            · obtain rfl : j = k := by omega
              rw [HKN.out] at hjk
              cases hjk)), HB2.out.alloc HB2.out.size _⟩, by simp [intOf]; omega⟩
      · rw [hkn] at hT
        have HKN := Lib.hid hkn
        clear hkn
        cases he : (z.toList == s.toList)
        · go_wp2_with fail
          refine (hT.out _).mono ?_
          rintro e w2 ⟨rfl, hb2⟩
          have HB2 := Lib.hid (HB.out.trans (hb2.mono HB.out.size))
          clear hb2
          go_wp2
          all_goals
            exact ⟨⟨k + 1, by omega, by omega, by go_num, (fun j hj hjk => (by
              rcases Nat.lt_or_ge j k with h | h
              · exact HN.out j h hjk
              · obtain rfl : j = k := by omega
                rw [HZ.out]
                exact list_ne he)), HB2.out.alloc HB2.out.size _⟩, by simp [intOf]; omega⟩
        · go_wp2_with fail
          refine (hT.out _).mono ?_
          rintro e w2 ⟨rfl, hb2⟩
          have HB2 := Lib.hid (HB.out.trans (hb2.mono HB.out.size))
          clear hb2
          go_wp2
          all_goals
            go_ret2
            exact ⟨_, _, rfl, .inl ⟨rfl, HKN.out, HZ.out.trans (list_eq he)⟩, HB2.out.alloc HB2.out.size _⟩
    · obtain rfl : k = 48 := by omega
      go_wp2
      go_ret2
      exact ⟨_, _, rfl, .inr ⟨rfl, rfl, fun j hj hjk => HN.out j hj hjk⟩, HB.out⟩
end Go.Proofs.Ytahnhohccbnhjaa
