/- A principal's digits, once more: the one block that the call lays. -/
import Derived.Test.YthmcckdoneiglaaDoorRefG
namespace Go.Proofs.YthmcckdoneiglaaDoor
open Go Go.RowKit

set_option maxRecDepth 100000 in
set_option maxHeartbeats 1000000 in
theorem number_al (k : Nat) (hk : k < 64) (w : World) :
    Calls Tryd.prog 43 #[.int .i64 (k : Int)] w fun e w' => e = .returned (.string ⟨(Lib.decDigits k).toArray⟩) ∧ ∃ C, w' = w.alloc (.cells C 5) := by
  by_cases h9 : 9 < k
  · have h9' : (9 : Int) < k := by omega
    rw [dec_two ⟨k, hk⟩ h9]
    have n1 : (UInt8.ofNat (48 + k / 10)).toNat = 48 + k / 10 := by rw [UInt8.toNat_ofNat']; omega
    have n2 : (UInt8.ofNat (48 + k % 10)).toNat = 48 + k % 10 := by rw [UInt8.toNat_ofNat']; omega
    have e1 : (48 + (k : Int) / 10) = ((48 + k / 10 : Nat) : Int) := by omega
    have e2 : (48 + (k : Int) % 10) = ((48 + k % 10 : Nat) : Int) := by omega
    have hcv := run_convert_bytes_back (P := Tryd.prog) (w.alloc (.cells #[.int .u8 (48 + (k : Int) / 10), .int .u8 (48 + (k : Int) % 10)] 5)) 55 9 5 ⟨w.heap.size, 0, none⟩ 2 [UInt8.ofNat (48 + k / 10), UInt8.ofNat (48 + k % 10)] Tryd.underlying55 Tryd.underlying5 Tryd.underlying9 (fun j hj => by
      have h2 : j < 2 := hj
      rcases (show j = 0 ∨ j = 1 by omega) with rfl | rfl
      · rw [show (⟨w.heap.size, 0, none⟩ : Addr).add 0 = ⟨w.heap.size, 0, none⟩ from by simp [Addr.add], World.cell?_alloc_new]
        show some (Value.int .u8 (48 + (k : Int) / 10)) = some (Value.int .u8 ((UInt8.ofNat (48 + k / 10)).toNat : Int))
        rw [n1, e1]
      · rw [show (⟨w.heap.size, 0, none⟩ : Addr).add 1 = ⟨w.heap.size, 1, none⟩ from by simp [Addr.add], World.cell?_alloc_new]
        show some (Value.int .u8 (48 + (k : Int) % 10)) = some (Value.int .u8 ((UInt8.ofNat (48 + k % 10)).toNat : Int))
        rw [n2, e2])
    simp only [List.length_cons, List.length_nil, Nat.reduceAdd] at hcv
    clear e1 e2 n1 n2
    generalize [UInt8.ofNat (48 + k / 10), UInt8.ofNat (48 + k % 10)] = l at hcv ⊢
    go_enter Tryd.func43, Tryd.ntmps43
    go_wp2
    go_ret
    exact ⟨rfl, _, rfl⟩
  · have h9' : ¬ (9 : Int) < k := by omega
    rw [dec_one ⟨k, hk⟩ h9]
    have n1 : (UInt8.ofNat (48 + k)).toNat = 48 + k := by rw [UInt8.toNat_ofNat']; omega
    have e1 : (48 + (k : Int)) = ((48 + k : Nat) : Int) := by omega
    have hcv := run_convert_bytes_back (P := Tryd.prog) (w.alloc (.cells #[.int .u8 (48 + (k : Int))] 5)) 55 9 5 ⟨w.heap.size, 0, none⟩ 1 [UInt8.ofNat (48 + k)] Tryd.underlying55 Tryd.underlying5 Tryd.underlying9 (fun j hj => by
      have h2 : j < 1 := hj
      obtain rfl : j = 0 := by omega
      rw [show (⟨w.heap.size, 0, none⟩ : Addr).add 0 = ⟨w.heap.size, 0, none⟩ from by simp [Addr.add], World.cell?_alloc_new]
      show some (Value.int .u8 (48 + (k : Int))) = some (Value.int .u8 ((UInt8.ofNat (48 + k)).toNat : Int))
      rw [n1, e1])
    simp only [List.length_cons, List.length_nil, Nat.reduceAdd] at hcv
    clear e1 n1
    generalize [UInt8.ofNat (48 + k)] = l at hcv ⊢
    go_enter Tryd.func43, Tryd.ntmps43
    go_wp2
    go_ret
    exact ⟨rfl, _, rfl⟩
end Go.Proofs.YthmcckdoneiglaaDoor
