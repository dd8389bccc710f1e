/- Table and May of the document's answer, in every memory. -/
import Derived.Test.YtahnhohccbnhjaaCoA
namespace Go.Proofs.Ytahnhohccbnhjaa
open Go Go.RowKit

abbrev rwV (op : Int) : Value := .agg #[.string (nmI op), .int .i64 (poI op), .int .i64 (puI op), .int .i64 (kiI op)]
def tbV (op : Int) : Value := .tuple #[rwV op, .bool (knI op)]

theorem out_default {op : Int} (h : knI op = false) : nmI op = ⟨#[]⟩ ∧ poI op = 0 ∧ puI op = 0 ∧ kiI op = 0 := by
  unfold nmI poI puI kiI
  by_cases h2 : op.toNat < 48
  · have h3 : ∀ k : Fin 48, knI k.val = false → nmL.getD k.val ⟨#[]⟩ = ⟨#[]⟩ ∧ poL.getD k.val 0 = 0 ∧ puL.getD k.val 0 = 0 ∧ kiL.getD k.val 0 = 0 := by decide
    refine h3 ⟨op.toNat, h2⟩ ?_
    show knI ((op.toNat : Nat) : Int) = false
    by_cases h0 : 0 ≤ op
    · rw [show ((op.toNat : Nat) : Int) = op from by omega]; exact h
    · rw [show op.toNat = 0 from by omega]; rfl
  · simp only [List.getD_eq_getElem?_getD]
    rw [List.getElem?_eq_none (by show 48 ≤ _; omega), List.getElem?_eq_none (by show 48 ≤ _; omega), List.getElem?_eq_none (by show 48 ≤ _; omega), List.getElem?_eq_none (by show 48 ≤ _; omega)]
    exact ⟨rfl, rfl, rfl, rfl⟩
set_option maxRecDepth 100000 in
set_option maxHeartbeats 1000000 in
theorem Table_1 (w : World) : Calls Try.prog 9 #[.int .i64 1] w fun e w' => e = .returned (tbV 1) ∧ Below w.heap.size w w' := by
  rw [show tbV 1 = .tuple #[.agg #[.string ⟨#[97, 100, 100]⟩, .int .i64 (2), .int .i64 (1), .int .i64 (0)], .bool true] from rfl]
  go_enter Try.func9, Try.ntmps9
  go_wp2
  try simp only [Exit.inBlock, Exit.then]
  refine bodyPost_ret (v := .tuple #[.agg #[.string ⟨#[97, 100, 100]⟩, .int .i64 (2), .int .i64 (1), .int .i64 (0)], .bool true]) (by simp [results, Try.results9, go_sem]) rfl ⟨rfl, ?_⟩
  first
    | exact (Below.refl _ _).alloc (Nat.le_refl _) _
    | exact ((Below.refl _ _).alloc (Nat.le_refl _) _).alloc (by simp) _
set_option maxRecDepth 100000 in
set_option maxHeartbeats 1000000 in
theorem Table_2 (w : World) : Calls Try.prog 9 #[.int .i64 2] w fun e w' => e = .returned (tbV 2) ∧ Below w.heap.size w w' := by
  rw [show tbV 2 = .tuple #[.agg #[.string ⟨#[115, 117, 98]⟩, .int .i64 (2), .int .i64 (1), .int .i64 (0)], .bool true] from rfl]
  go_enter Try.func9, Try.ntmps9
  go_wp2
  try simp only [Exit.inBlock, Exit.then]
  refine bodyPost_ret (v := .tuple #[.agg #[.string ⟨#[115, 117, 98]⟩, .int .i64 (2), .int .i64 (1), .int .i64 (0)], .bool true]) (by simp [results, Try.results9, go_sem]) rfl ⟨rfl, ?_⟩
  first
    | exact (Below.refl _ _).alloc (Nat.le_refl _) _
    | exact ((Below.refl _ _).alloc (Nat.le_refl _) _).alloc (by simp) _
set_option maxRecDepth 100000 in
set_option maxHeartbeats 1000000 in
theorem Table_3 (w : World) : Calls Try.prog 9 #[.int .i64 3] w fun e w' => e = .returned (tbV 3) ∧ Below w.heap.size w w' := by
  rw [show tbV 3 = .tuple #[.agg #[.string ⟨#[109, 117, 108]⟩, .int .i64 (2), .int .i64 (1), .int .i64 (0)], .bool true] from rfl]
  go_enter Try.func9, Try.ntmps9
  go_wp2
  try simp only [Exit.inBlock, Exit.then]
  refine bodyPost_ret (v := .tuple #[.agg #[.string ⟨#[109, 117, 108]⟩, .int .i64 (2), .int .i64 (1), .int .i64 (0)], .bool true]) (by simp [results, Try.results9, go_sem]) rfl ⟨rfl, ?_⟩
  first
    | exact (Below.refl _ _).alloc (Nat.le_refl _) _
    | exact ((Below.refl _ _).alloc (Nat.le_refl _) _).alloc (by simp) _
set_option maxRecDepth 100000 in
set_option maxHeartbeats 1000000 in
theorem Table_4 (w : World) : Calls Try.prog 9 #[.int .i64 4] w fun e w' => e = .returned (tbV 4) ∧ Below w.heap.size w w' := by
  rw [show tbV 4 = .tuple #[.agg #[.string ⟨#[100, 105, 118]⟩, .int .i64 (2), .int .i64 (1), .int .i64 (0)], .bool true] from rfl]
  go_enter Try.func9, Try.ntmps9
  go_wp2
  try simp only [Exit.inBlock, Exit.then]
  refine bodyPost_ret (v := .tuple #[.agg #[.string ⟨#[100, 105, 118]⟩, .int .i64 (2), .int .i64 (1), .int .i64 (0)], .bool true]) (by simp [results, Try.results9, go_sem]) rfl ⟨rfl, ?_⟩
  first
    | exact (Below.refl _ _).alloc (Nat.le_refl _) _
    | exact ((Below.refl _ _).alloc (Nat.le_refl _) _).alloc (by simp) _
set_option maxRecDepth 100000 in
set_option maxHeartbeats 1000000 in
theorem Table_5 (w : World) : Calls Try.prog 9 #[.int .i64 5] w fun e w' => e = .returned (tbV 5) ∧ Below w.heap.size w w' := by
  rw [show tbV 5 = .tuple #[.agg #[.string ⟨#[114, 101, 109]⟩, .int .i64 (2), .int .i64 (1), .int .i64 (0)], .bool true] from rfl]
  go_enter Try.func9, Try.ntmps9
  go_wp2
  try simp only [Exit.inBlock, Exit.then]
  refine bodyPost_ret (v := .tuple #[.agg #[.string ⟨#[114, 101, 109]⟩, .int .i64 (2), .int .i64 (1), .int .i64 (0)], .bool true]) (by simp [results, Try.results9, go_sem]) rfl ⟨rfl, ?_⟩
  first
    | exact (Below.refl _ _).alloc (Nat.le_refl _) _
    | exact ((Below.refl _ _).alloc (Nat.le_refl _) _).alloc (by simp) _
set_option maxRecDepth 100000 in
set_option maxHeartbeats 1000000 in
theorem Table_6 (w : World) : Calls Try.prog 9 #[.int .i64 6] w fun e w' => e = .returned (tbV 6) ∧ Below w.heap.size w w' := by
  rw [show tbV 6 = .tuple #[.agg #[.string ⟨#[97, 110, 100]⟩, .int .i64 (2), .int .i64 (1), .int .i64 (0)], .bool true] from rfl]
  go_enter Try.func9, Try.ntmps9
  go_wp2
  try simp only [Exit.inBlock, Exit.then]
  refine bodyPost_ret (v := .tuple #[.agg #[.string ⟨#[97, 110, 100]⟩, .int .i64 (2), .int .i64 (1), .int .i64 (0)], .bool true]) (by simp [results, Try.results9, go_sem]) rfl ⟨rfl, ?_⟩
  first
    | exact (Below.refl _ _).alloc (Nat.le_refl _) _
    | exact ((Below.refl _ _).alloc (Nat.le_refl _) _).alloc (by simp) _
set_option maxRecDepth 100000 in
set_option maxHeartbeats 1000000 in
theorem Table_7 (w : World) : Calls Try.prog 9 #[.int .i64 7] w fun e w' => e = .returned (tbV 7) ∧ Below w.heap.size w w' := by
  rw [show tbV 7 = .tuple #[.agg #[.string ⟨#[111, 114]⟩, .int .i64 (2), .int .i64 (1), .int .i64 (0)], .bool true] from rfl]
  go_enter Try.func9, Try.ntmps9
  go_wp2
  try simp only [Exit.inBlock, Exit.then]
  refine bodyPost_ret (v := .tuple #[.agg #[.string ⟨#[111, 114]⟩, .int .i64 (2), .int .i64 (1), .int .i64 (0)], .bool true]) (by simp [results, Try.results9, go_sem]) rfl ⟨rfl, ?_⟩
  first
    | exact (Below.refl _ _).alloc (Nat.le_refl _) _
    | exact ((Below.refl _ _).alloc (Nat.le_refl _) _).alloc (by simp) _
set_option maxRecDepth 100000 in
set_option maxHeartbeats 1000000 in
theorem Table_8 (w : World) : Calls Try.prog 9 #[.int .i64 8] w fun e w' => e = .returned (tbV 8) ∧ Below w.heap.size w w' := by
  rw [show tbV 8 = .tuple #[.agg #[.string ⟨#[120, 111, 114]⟩, .int .i64 (2), .int .i64 (1), .int .i64 (0)], .bool true] from rfl]
  go_enter Try.func9, Try.ntmps9
  go_wp2
  try simp only [Exit.inBlock, Exit.then]
  refine bodyPost_ret (v := .tuple #[.agg #[.string ⟨#[120, 111, 114]⟩, .int .i64 (2), .int .i64 (1), .int .i64 (0)], .bool true]) (by simp [results, Try.results9, go_sem]) rfl ⟨rfl, ?_⟩
  first
    | exact (Below.refl _ _).alloc (Nat.le_refl _) _
    | exact ((Below.refl _ _).alloc (Nat.le_refl _) _).alloc (by simp) _
set_option maxRecDepth 100000 in
set_option maxHeartbeats 1000000 in
theorem Table_9 (w : World) : Calls Try.prog 9 #[.int .i64 9] w fun e w' => e = .returned (tbV 9) ∧ Below w.heap.size w w' := by
  rw [show tbV 9 = .tuple #[.agg #[.string ⟨#[115, 104, 108]⟩, .int .i64 (2), .int .i64 (1), .int .i64 (0)], .bool true] from rfl]
  go_enter Try.func9, Try.ntmps9
  go_wp2
  try simp only [Exit.inBlock, Exit.then]
  refine bodyPost_ret (v := .tuple #[.agg #[.string ⟨#[115, 104, 108]⟩, .int .i64 (2), .int .i64 (1), .int .i64 (0)], .bool true]) (by simp [results, Try.results9, go_sem]) rfl ⟨rfl, ?_⟩
  first
    | exact (Below.refl _ _).alloc (Nat.le_refl _) _
    | exact ((Below.refl _ _).alloc (Nat.le_refl _) _).alloc (by simp) _
set_option maxRecDepth 100000 in
set_option maxHeartbeats 1000000 in
theorem Table_10 (w : World) : Calls Try.prog 9 #[.int .i64 10] w fun e w' => e = .returned (tbV 10) ∧ Below w.heap.size w w' := by
  rw [show tbV 10 = .tuple #[.agg #[.string ⟨#[115, 104, 114]⟩, .int .i64 (2), .int .i64 (1), .int .i64 (0)], .bool true] from rfl]
  go_enter Try.func9, Try.ntmps9
  go_wp2
  try simp only [Exit.inBlock, Exit.then]
  refine bodyPost_ret (v := .tuple #[.agg #[.string ⟨#[115, 104, 114]⟩, .int .i64 (2), .int .i64 (1), .int .i64 (0)], .bool true]) (by simp [results, Try.results9, go_sem]) rfl ⟨rfl, ?_⟩
  first
    | exact (Below.refl _ _).alloc (Nat.le_refl _) _
    | exact ((Below.refl _ _).alloc (Nat.le_refl _) _).alloc (by simp) _
set_option maxRecDepth 100000 in
set_option maxHeartbeats 1000000 in
theorem Table_11 (w : World) : Calls Try.prog 9 #[.int .i64 11] w fun e w' => e = .returned (tbV 11) ∧ Below w.heap.size w w' := by
  rw [show tbV 11 = .tuple #[.agg #[.string ⟨#[101, 113]⟩, .int .i64 (2), .int .i64 (1), .int .i64 (0)], .bool true] from rfl]
  go_enter Try.func9, Try.ntmps9
  go_wp2
  try simp only [Exit.inBlock, Exit.then]
  refine bodyPost_ret (v := .tuple #[.agg #[.string ⟨#[101, 113]⟩, .int .i64 (2), .int .i64 (1), .int .i64 (0)], .bool true]) (by simp [results, Try.results9, go_sem]) rfl ⟨rfl, ?_⟩
  first
    | exact (Below.refl _ _).alloc (Nat.le_refl _) _
    | exact ((Below.refl _ _).alloc (Nat.le_refl _) _).alloc (by simp) _
set_option maxRecDepth 100000 in
set_option maxHeartbeats 1000000 in
theorem Table_12 (w : World) : Calls Try.prog 9 #[.int .i64 12] w fun e w' => e = .returned (tbV 12) ∧ Below w.heap.size w w' := by
  rw [show tbV 12 = .tuple #[.agg #[.string ⟨#[110, 101]⟩, .int .i64 (2), .int .i64 (1), .int .i64 (0)], .bool true] from rfl]
  go_enter Try.func9, Try.ntmps9
  go_wp2
  try simp only [Exit.inBlock, Exit.then]
  refine bodyPost_ret (v := .tuple #[.agg #[.string ⟨#[110, 101]⟩, .int .i64 (2), .int .i64 (1), .int .i64 (0)], .bool true]) (by simp [results, Try.results9, go_sem]) rfl ⟨rfl, ?_⟩
  first
    | exact (Below.refl _ _).alloc (Nat.le_refl _) _
    | exact ((Below.refl _ _).alloc (Nat.le_refl _) _).alloc (by simp) _
set_option maxRecDepth 100000 in
set_option maxHeartbeats 1000000 in
theorem Table_13 (w : World) : Calls Try.prog 9 #[.int .i64 13] w fun e w' => e = .returned (tbV 13) ∧ Below w.heap.size w w' := by
  rw [show tbV 13 = .tuple #[.agg #[.string ⟨#[108, 116]⟩, .int .i64 (2), .int .i64 (1), .int .i64 (0)], .bool true] from rfl]
  go_enter Try.func9, Try.ntmps9
  go_wp2
  try simp only [Exit.inBlock, Exit.then]
  refine bodyPost_ret (v := .tuple #[.agg #[.string ⟨#[108, 116]⟩, .int .i64 (2), .int .i64 (1), .int .i64 (0)], .bool true]) (by simp [results, Try.results9, go_sem]) rfl ⟨rfl, ?_⟩
  first
    | exact (Below.refl _ _).alloc (Nat.le_refl _) _
    | exact ((Below.refl _ _).alloc (Nat.le_refl _) _).alloc (by simp) _
set_option maxRecDepth 100000 in
set_option maxHeartbeats 1000000 in
theorem Table_14 (w : World) : Calls Try.prog 9 #[.int .i64 14] w fun e w' => e = .returned (tbV 14) ∧ Below w.heap.size w w' := by
  rw [show tbV 14 = .tuple #[.agg #[.string ⟨#[108, 101]⟩, .int .i64 (2), .int .i64 (1), .int .i64 (0)], .bool true] from rfl]
  go_enter Try.func9, Try.ntmps9
  go_wp2
  try simp only [Exit.inBlock, Exit.then]
  refine bodyPost_ret (v := .tuple #[.agg #[.string ⟨#[108, 101]⟩, .int .i64 (2), .int .i64 (1), .int .i64 (0)], .bool true]) (by simp [results, Try.results9, go_sem]) rfl ⟨rfl, ?_⟩
  first
    | exact (Below.refl _ _).alloc (Nat.le_refl _) _
    | exact ((Below.refl _ _).alloc (Nat.le_refl _) _).alloc (by simp) _
set_option maxRecDepth 100000 in
set_option maxHeartbeats 1000000 in
theorem Table_15 (w : World) : Calls Try.prog 9 #[.int .i64 15] w fun e w' => e = .returned (tbV 15) ∧ Below w.heap.size w w' := by
  rw [show tbV 15 = .tuple #[.agg #[.string ⟨#[110, 101, 103]⟩, .int .i64 (1), .int .i64 (1), .int .i64 (0)], .bool true] from rfl]
  go_enter Try.func9, Try.ntmps9
  go_wp2
  try simp only [Exit.inBlock, Exit.then]
  refine bodyPost_ret (v := .tuple #[.agg #[.string ⟨#[110, 101, 103]⟩, .int .i64 (1), .int .i64 (1), .int .i64 (0)], .bool true]) (by simp [results, Try.results9, go_sem]) rfl ⟨rfl, ?_⟩
  first
    | exact (Below.refl _ _).alloc (Nat.le_refl _) _
    | exact ((Below.refl _ _).alloc (Nat.le_refl _) _).alloc (by simp) _
set_option maxRecDepth 100000 in
set_option maxHeartbeats 1000000 in
theorem Table_16 (w : World) : Calls Try.prog 9 #[.int .i64 16] w fun e w' => e = .returned (tbV 16) ∧ Below w.heap.size w w' := by
  rw [show tbV 16 = .tuple #[.agg #[.string ⟨#[110, 111, 116]⟩, .int .i64 (1), .int .i64 (1), .int .i64 (0)], .bool true] from rfl]
  go_enter Try.func9, Try.ntmps9
  go_wp2
  try simp only [Exit.inBlock, Exit.then]
  refine bodyPost_ret (v := .tuple #[.agg #[.string ⟨#[110, 111, 116]⟩, .int .i64 (1), .int .i64 (1), .int .i64 (0)], .bool true]) (by simp [results, Try.results9, go_sem]) rfl ⟨rfl, ?_⟩
  first
    | exact (Below.refl _ _).alloc (Nat.le_refl _) _
    | exact ((Below.refl _ _).alloc (Nat.le_refl _) _).alloc (by simp) _
set_option maxRecDepth 100000 in
set_option maxHeartbeats 1000000 in
theorem Table_17 (w : World) : Calls Try.prog 9 #[.int .i64 17] w fun e w' => e = .returned (tbV 17) ∧ Below w.heap.size w w' := by
  rw [show tbV 17 = .tuple #[.agg #[.string ⟨#[105, 110, 118]⟩, .int .i64 (1), .int .i64 (1), .int .i64 (0)], .bool true] from rfl]
  go_enter Try.func9, Try.ntmps9
  go_wp2
  try simp only [Exit.inBlock, Exit.then]
  refine bodyPost_ret (v := .tuple #[.agg #[.string ⟨#[105, 110, 118]⟩, .int .i64 (1), .int .i64 (1), .int .i64 (0)], .bool true]) (by simp [results, Try.results9, go_sem]) rfl ⟨rfl, ?_⟩
  first
    | exact (Below.refl _ _).alloc (Nat.le_refl _) _
    | exact ((Below.refl _ _).alloc (Nat.le_refl _) _).alloc (by simp) _
set_option maxRecDepth 100000 in
set_option maxHeartbeats 1000000 in
theorem Table_32 (w : World) : Calls Try.prog 9 #[.int .i64 32] w fun e w' => e = .returned (tbV 32) ∧ Below w.heap.size w w' := by
  rw [show tbV 32 = .tuple #[.agg #[.string ⟨#[99, 111, 110, 115, 116]⟩, .int .i64 (0), .int .i64 (1), .int .i64 (1)], .bool true] from rfl]
  go_enter Try.func9, Try.ntmps9
  go_wp2
  try simp only [Exit.inBlock, Exit.then]
  refine bodyPost_ret (v := .tuple #[.agg #[.string ⟨#[99, 111, 110, 115, 116]⟩, .int .i64 (0), .int .i64 (1), .int .i64 (1)], .bool true]) (by simp [results, Try.results9, go_sem]) rfl ⟨rfl, ?_⟩
  first
    | exact (Below.refl _ _).alloc (Nat.le_refl _) _
    | exact ((Below.refl _ _).alloc (Nat.le_refl _) _).alloc (by simp) _
set_option maxRecDepth 100000 in
set_option maxHeartbeats 1000000 in
theorem Table_33 (w : World) : Calls Try.prog 9 #[.int .i64 33] w fun e w' => e = .returned (tbV 33) ∧ Below w.heap.size w w' := by
  rw [show tbV 33 = .tuple #[.agg #[.string ⟨#[108, 111, 99, 97, 108]⟩, .int .i64 (0), .int .i64 (1), .int .i64 (2)], .bool true] from rfl]
  go_enter Try.func9, Try.ntmps9
  go_wp2
  try simp only [Exit.inBlock, Exit.then]
  refine bodyPost_ret (v := .tuple #[.agg #[.string ⟨#[108, 111, 99, 97, 108]⟩, .int .i64 (0), .int .i64 (1), .int .i64 (2)], .bool true]) (by simp [results, Try.results9, go_sem]) rfl ⟨rfl, ?_⟩
  first
    | exact (Below.refl _ _).alloc (Nat.le_refl _) _
    | exact ((Below.refl _ _).alloc (Nat.le_refl _) _).alloc (by simp) _
set_option maxRecDepth 100000 in
set_option maxHeartbeats 1000000 in
theorem Table_34 (w : World) : Calls Try.prog 9 #[.int .i64 34] w fun e w' => e = .returned (tbV 34) ∧ Below w.heap.size w w' := by
  rw [show tbV 34 = .tuple #[.agg #[.string ⟨#[115, 101, 116]⟩, .int .i64 (1), .int .i64 (0), .int .i64 (2)], .bool true] from rfl]
  go_enter Try.func9, Try.ntmps9
  go_wp2
  try simp only [Exit.inBlock, Exit.then]
  refine bodyPost_ret (v := .tuple #[.agg #[.string ⟨#[115, 101, 116]⟩, .int .i64 (1), .int .i64 (0), .int .i64 (2)], .bool true]) (by simp [results, Try.results9, go_sem]) rfl ⟨rfl, ?_⟩
  first
    | exact (Below.refl _ _).alloc (Nat.le_refl _) _
    | exact ((Below.refl _ _).alloc (Nat.le_refl _) _).alloc (by simp) _
set_option maxRecDepth 100000 in
set_option maxHeartbeats 1000000 in
theorem Table_35 (w : World) : Calls Try.prog 9 #[.int .i64 35] w fun e w' => e = .returned (tbV 35) ∧ Below w.heap.size w w' := by
  rw [show tbV 35 = .tuple #[.agg #[.string ⟨#[103, 108, 111, 98, 97, 108]⟩, .int .i64 (0), .int .i64 (1), .int .i64 (3)], .bool true] from rfl]
  go_enter Try.func9, Try.ntmps9
  go_wp2
  try simp only [Exit.inBlock, Exit.then]
  refine bodyPost_ret (v := .tuple #[.agg #[.string ⟨#[103, 108, 111, 98, 97, 108]⟩, .int .i64 (0), .int .i64 (1), .int .i64 (3)], .bool true]) (by simp [results, Try.results9, go_sem]) rfl ⟨rfl, ?_⟩
  first
    | exact (Below.refl _ _).alloc (Nat.le_refl _) _
    | exact ((Below.refl _ _).alloc (Nat.le_refl _) _).alloc (by simp) _
set_option maxRecDepth 100000 in
set_option maxHeartbeats 1000000 in
theorem Table_36 (w : World) : Calls Try.prog 9 #[.int .i64 36] w fun e w' => e = .returned (tbV 36) ∧ Below w.heap.size w w' := by
  rw [show tbV 36 = .tuple #[.agg #[.string ⟨#[115, 101, 116, 103, 108, 111, 98, 97, 108]⟩, .int .i64 (1), .int .i64 (0), .int .i64 (3)], .bool true] from rfl]
  go_enter Try.func9, Try.ntmps9
  go_wp2
  try simp only [Exit.inBlock, Exit.then]
  refine bodyPost_ret (v := .tuple #[.agg #[.string ⟨#[115, 101, 116, 103, 108, 111, 98, 97, 108]⟩, .int .i64 (1), .int .i64 (0), .int .i64 (3)], .bool true]) (by simp [results, Try.results9, go_sem]) rfl ⟨rfl, ?_⟩
  first
    | exact (Below.refl _ _).alloc (Nat.le_refl _) _
    | exact ((Below.refl _ _).alloc (Nat.le_refl _) _).alloc (by simp) _
set_option maxRecDepth 100000 in
set_option maxHeartbeats 1000000 in
theorem Table_37 (w : World) : Calls Try.prog 9 #[.int .i64 37] w fun e w' => e = .returned (tbV 37) ∧ Below w.heap.size w w' := by
  rw [show tbV 37 = .tuple #[.agg #[.string ⟨#[108, 111, 97, 100]⟩, .int .i64 (1), .int .i64 (1), .int .i64 (4)], .bool true] from rfl]
  go_enter Try.func9, Try.ntmps9
  go_wp2
  try simp only [Exit.inBlock, Exit.then]
  refine bodyPost_ret (v := .tuple #[.agg #[.string ⟨#[108, 111, 97, 100]⟩, .int .i64 (1), .int .i64 (1), .int .i64 (4)], .bool true]) (by simp [results, Try.results9, go_sem]) rfl ⟨rfl, ?_⟩
  first
    | exact (Below.refl _ _).alloc (Nat.le_refl _) _
    | exact ((Below.refl _ _).alloc (Nat.le_refl _) _).alloc (by simp) _
set_option maxRecDepth 100000 in
set_option maxHeartbeats 1000000 in
theorem Table_38 (w : World) : Calls Try.prog 9 #[.int .i64 38] w fun e w' => e = .returned (tbV 38) ∧ Below w.heap.size w w' := by
  rw [show tbV 38 = .tuple #[.agg #[.string ⟨#[115, 116, 111, 114, 101]⟩, .int .i64 (2), .int .i64 (0), .int .i64 (4)], .bool true] from rfl]
  go_enter Try.func9, Try.ntmps9
  go_wp2
  try simp only [Exit.inBlock, Exit.then]
  refine bodyPost_ret (v := .tuple #[.agg #[.string ⟨#[115, 116, 111, 114, 101]⟩, .int .i64 (2), .int .i64 (0), .int .i64 (4)], .bool true]) (by simp [results, Try.results9, go_sem]) rfl ⟨rfl, ?_⟩
  first
    | exact (Below.refl _ _).alloc (Nat.le_refl _) _
    | exact ((Below.refl _ _).alloc (Nat.le_refl _) _).alloc (by simp) _
set_option maxRecDepth 100000 in
set_option maxHeartbeats 1000000 in
theorem Table_39 (w : World) : Calls Try.prog 9 #[.int .i64 39] w fun e w' => e = .returned (tbV 39) ∧ Below w.heap.size w w' := by
  rw [show tbV 39 = .tuple #[.agg #[.string ⟨#[100, 117, 112]⟩, .int .i64 (1), .int .i64 (2), .int .i64 (0)], .bool true] from rfl]
  go_enter Try.func9, Try.ntmps9
  go_wp2
  try simp only [Exit.inBlock, Exit.then]
  refine bodyPost_ret (v := .tuple #[.agg #[.string ⟨#[100, 117, 112]⟩, .int .i64 (1), .int .i64 (2), .int .i64 (0)], .bool true]) (by simp [results, Try.results9, go_sem]) rfl ⟨rfl, ?_⟩
  first
    | exact (Below.refl _ _).alloc (Nat.le_refl _) _
    | exact ((Below.refl _ _).alloc (Nat.le_refl _) _).alloc (by simp) _
set_option maxRecDepth 100000 in
set_option maxHeartbeats 1000000 in
theorem Table_40 (w : World) : Calls Try.prog 9 #[.int .i64 40] w fun e w' => e = .returned (tbV 40) ∧ Below w.heap.size w w' := by
  rw [show tbV 40 = .tuple #[.agg #[.string ⟨#[115, 119, 97, 112]⟩, .int .i64 (2), .int .i64 (2), .int .i64 (0)], .bool true] from rfl]
  go_enter Try.func9, Try.ntmps9
  go_wp2
  try simp only [Exit.inBlock, Exit.then]
  refine bodyPost_ret (v := .tuple #[.agg #[.string ⟨#[115, 119, 97, 112]⟩, .int .i64 (2), .int .i64 (2), .int .i64 (0)], .bool true]) (by simp [results, Try.results9, go_sem]) rfl ⟨rfl, ?_⟩
  first
    | exact (Below.refl _ _).alloc (Nat.le_refl _) _
    | exact ((Below.refl _ _).alloc (Nat.le_refl _) _).alloc (by simp) _
set_option maxRecDepth 100000 in
set_option maxHeartbeats 1000000 in
theorem Table_41 (w : World) : Calls Try.prog 9 #[.int .i64 41] w fun e w' => e = .returned (tbV 41) ∧ Below w.heap.size w w' := by
  rw [show tbV 41 = .tuple #[.agg #[.string ⟨#[112, 111, 112]⟩, .int .i64 (1), .int .i64 (0), .int .i64 (0)], .bool true] from rfl]
  go_enter Try.func9, Try.ntmps9
  go_wp2
  try simp only [Exit.inBlock, Exit.then]
  refine bodyPost_ret (v := .tuple #[.agg #[.string ⟨#[112, 111, 112]⟩, .int .i64 (1), .int .i64 (0), .int .i64 (0)], .bool true]) (by simp [results, Try.results9, go_sem]) rfl ⟨rfl, ?_⟩
  first
    | exact (Below.refl _ _).alloc (Nat.le_refl _) _
    | exact ((Below.refl _ _).alloc (Nat.le_refl _) _).alloc (by simp) _
set_option maxRecDepth 100000 in
set_option maxHeartbeats 1000000 in
theorem Table_42 (w : World) : Calls Try.prog 9 #[.int .i64 42] w fun e w' => e = .returned (tbV 42) ∧ Below w.heap.size w w' := by
  rw [show tbV 42 = .tuple #[.agg #[.string ⟨#[110, 111, 112]⟩, .int .i64 (0), .int .i64 (0), .int .i64 (0)], .bool true] from rfl]
  go_enter Try.func9, Try.ntmps9
  go_wp2
  try simp only [Exit.inBlock, Exit.then]
  refine bodyPost_ret (v := .tuple #[.agg #[.string ⟨#[110, 111, 112]⟩, .int .i64 (0), .int .i64 (0), .int .i64 (0)], .bool true]) (by simp [results, Try.results9, go_sem]) rfl ⟨rfl, ?_⟩
  first
    | exact (Below.refl _ _).alloc (Nat.le_refl _) _
    | exact ((Below.refl _ _).alloc (Nat.le_refl _) _).alloc (by simp) _
set_option maxRecDepth 100000 in
set_option maxHeartbeats 1000000 in
theorem Table_43 (w : World) : Calls Try.prog 9 #[.int .i64 43] w fun e w' => e = .returned (tbV 43) ∧ Below w.heap.size w w' := by
  rw [show tbV 43 = .tuple #[.agg #[.string ⟨#[106, 117, 109, 112]⟩, .int .i64 (0), .int .i64 (0), .int .i64 (5)], .bool true] from rfl]
  go_enter Try.func9, Try.ntmps9
  go_wp2
  try simp only [Exit.inBlock, Exit.then]
  refine bodyPost_ret (v := .tuple #[.agg #[.string ⟨#[106, 117, 109, 112]⟩, .int .i64 (0), .int .i64 (0), .int .i64 (5)], .bool true]) (by simp [results, Try.results9, go_sem]) rfl ⟨rfl, ?_⟩
  first
    | exact (Below.refl _ _).alloc (Nat.le_refl _) _
    | exact ((Below.refl _ _).alloc (Nat.le_refl _) _).alloc (by simp) _
set_option maxRecDepth 100000 in
set_option maxHeartbeats 1000000 in
theorem Table_44 (w : World) : Calls Try.prog 9 #[.int .i64 44] w fun e w' => e = .returned (tbV 44) ∧ Below w.heap.size w w' := by
  rw [show tbV 44 = .tuple #[.agg #[.string ⟨#[122, 101, 114, 111]⟩, .int .i64 (1), .int .i64 (0), .int .i64 (5)], .bool true] from rfl]
  go_enter Try.func9, Try.ntmps9
  go_wp2
  try simp only [Exit.inBlock, Exit.then]
  refine bodyPost_ret (v := .tuple #[.agg #[.string ⟨#[122, 101, 114, 111]⟩, .int .i64 (1), .int .i64 (0), .int .i64 (5)], .bool true]) (by simp [results, Try.results9, go_sem]) rfl ⟨rfl, ?_⟩
  first
    | exact (Below.refl _ _).alloc (Nat.le_refl _) _
    | exact ((Below.refl _ _).alloc (Nat.le_refl _) _).alloc (by simp) _
set_option maxRecDepth 100000 in
set_option maxHeartbeats 1000000 in
theorem Table_45 (w : World) : Calls Try.prog 9 #[.int .i64 45] w fun e w' => e = .returned (tbV 45) ∧ Below w.heap.size w w' := by
  rw [show tbV 45 = .tuple #[.agg #[.string ⟨#[99, 97, 108, 108]⟩, .int .i64 (-1), .int .i64 (-1), .int .i64 (6)], .bool true] from rfl]
  go_enter Try.func9, Try.ntmps9
  go_wp2
  try simp only [Exit.inBlock, Exit.then]
  refine bodyPost_ret (v := .tuple #[.agg #[.string ⟨#[99, 97, 108, 108]⟩, .int .i64 (-1), .int .i64 (-1), .int .i64 (6)], .bool true]) (by simp [results, Try.results9, go_sem]) rfl ⟨rfl, ?_⟩
  first
    | exact (Below.refl _ _).alloc (Nat.le_refl _) _
    | exact ((Below.refl _ _).alloc (Nat.le_refl _) _).alloc (by simp) _
set_option maxRecDepth 100000 in
set_option maxHeartbeats 1000000 in
theorem Table_46 (w : World) : Calls Try.prog 9 #[.int .i64 46] w fun e w' => e = .returned (tbV 46) ∧ Below w.heap.size w w' := by
  rw [show tbV 46 = .tuple #[.agg #[.string ⟨#[114, 101, 116, 117, 114, 110]⟩, .int .i64 (-1), .int .i64 (0), .int .i64 (0)], .bool true] from rfl]
  go_enter Try.func9, Try.ntmps9
  go_wp2
  try simp only [Exit.inBlock, Exit.then]
  refine bodyPost_ret (v := .tuple #[.agg #[.string ⟨#[114, 101, 116, 117, 114, 110]⟩, .int .i64 (-1), .int .i64 (0), .int .i64 (0)], .bool true]) (by simp [results, Try.results9, go_sem]) rfl ⟨rfl, ?_⟩
  first
    | exact (Below.refl _ _).alloc (Nat.le_refl _) _
    | exact ((Below.refl _ _).alloc (Nat.le_refl _) _).alloc (by simp) _
set_option maxRecDepth 100000 in
set_option maxHeartbeats 1000000 in
theorem Table_47 (w : World) : Calls Try.prog 9 #[.int .i64 47] w fun e w' => e = .returned (tbV 47) ∧ Below w.heap.size w w' := by
  rw [show tbV 47 = .tuple #[.agg #[.string ⟨#[115, 101, 110, 100]⟩, .int .i64 (1), .int .i64 (0), .int .i64 (7)], .bool true] from rfl]
  go_enter Try.func9, Try.ntmps9
  go_wp2
  try simp only [Exit.inBlock, Exit.then]
  refine bodyPost_ret (v := .tuple #[.agg #[.string ⟨#[115, 101, 110, 100]⟩, .int .i64 (1), .int .i64 (0), .int .i64 (7)], .bool true]) (by simp [results, Try.results9, go_sem]) rfl ⟨rfl, ?_⟩
  first
    | exact (Below.refl _ _).alloc (Nat.le_refl _) _
    | exact ((Below.refl _ _).alloc (Nat.le_refl _) _).alloc (by simp) _
set_option maxRecDepth 100000 in
set_option maxHeartbeats 1000000 in
theorem Table_none {op : Int} (hk : knI op = false) (w : World) : Calls Try.prog 9 #[.int .i64 op] w fun e w' => e = .returned (tbV op) ∧ Below w.heap.size w w' := by
  obtain ⟨h1, h2, h3, h4⟩ := out_default hk
  unfold tbV rwV
  rw [h1, h2, h3, h4, hk]
  clear h1 h2 h3 h4
  obtain ⟨n1, n2, n3, n4, n5, n6, n7, n8, n9, n10, n11, n12, n13, n14, n15, n16, n17, n32, n33, n34, n35, n36, n37, n38, n39, n40, n41, n42, n43, n44, n45, n46, n47⟩ := knI_not hk
  by_cases h1 : 1 ≤ op
  · have h2 : ¬ op ≤ 17 := by omega
    clear hk n1 n2 n3 n4 n5 n6 n7 n8 n9 n10 n11 n12 n13 n14 n15 n16 n17
    go_enter Try.func9, Try.ntmps9
    go_wp2
    try simp only [Exit.inBlock, Exit.then]
    refine bodyPost_ret (v := .tuple #[.agg #[.string ⟨#[]⟩, .int .i64 0, .int .i64 0, .int .i64 0], .bool false]) (by simp [results, Try.results9, go_sem]) rfl ⟨rfl, ?_⟩
    exact (Below.refl _ _).alloc (Nat.le_refl _) _
  · clear hk n1 n2 n3 n4 n5 n6 n7 n8 n9 n10 n11 n12 n13 n14 n15 n16 n17
    go_enter Try.func9, Try.ntmps9
    go_wp2
    try simp only [Exit.inBlock, Exit.then]
    refine bodyPost_ret (v := .tuple #[.agg #[.string ⟨#[]⟩, .int .i64 0, .int .i64 0, .int .i64 0], .bool false]) (by simp [results, Try.results9, go_sem]) rfl ⟨rfl, ?_⟩
    exact (Below.refl _ _).alloc (Nat.le_refl _) _

theorem Table_any (op : Int) (w : World) : Calls Try.prog 9 #[.int .i64 op] w fun e w' => e = .returned (tbV op) ∧ Below w.heap.size w w' := by
  by_cases hk : knI op = true
  · rcases knI_cases hk with rfl | rfl | rfl | rfl | rfl | rfl | rfl | rfl | rfl | rfl | rfl | rfl | rfl | rfl | rfl | rfl | rfl | rfl | rfl | rfl | rfl | rfl | rfl | rfl | rfl | rfl | rfl | rfl | rfl | rfl | rfl | rfl | rfl
    · exact Table_1 w
    · exact Table_2 w
    · exact Table_3 w
    · exact Table_4 w
    · exact Table_5 w
    · exact Table_6 w
    · exact Table_7 w
    · exact Table_8 w
    · exact Table_9 w
    · exact Table_10 w
    · exact Table_11 w
    · exact Table_12 w
    · exact Table_13 w
    · exact Table_14 w
    · exact Table_15 w
    · exact Table_16 w
    · exact Table_17 w
    · exact Table_32 w
    · exact Table_33 w
    · exact Table_34 w
    · exact Table_35 w
    · exact Table_36 w
    · exact Table_37 w
    · exact Table_38 w
    · exact Table_39 w
    · exact Table_40 w
    · exact Table_41 w
    · exact Table_42 w
    · exact Table_43 w
    · exact Table_44 w
    · exact Table_45 w
    · exact Table_46 w
    · exact Table_47 w
  · exact Table_none (by simpa using hk) w

end Go.Proofs.Ytahnhohccbnhjaa
