/- numbered and item of package bits: for every number from 0 to 63 and every row of 64 names. -/
import Derived.Test.YthmcckdoneiglaaGreatDoorE
namespace Go.Proofs.YthmcckdoneiglaaGreatDoor
open Go Go.RowKit

/-- '#' and the decimal digits. -/
def numB (k : Nat) : List UInt8 := 35 :: Lib.decDigits k

theorem cat_mk (a b : List UInt8) : (⟨a.toArray⟩ : ByteArray) ++ ⟨b.toArray⟩ = ⟨(a ++ b).toArray⟩ := by
  apply ByteArray.ext
  rw [ByteArray.data_append]
  simp

theorem dec_short : ∀ k : Fin 64, (Lib.decDigits k.val).length ≤ 2 := by
  intro k
  have h := k.isLt
  unfold Lib.decDigits
  split
  · simp
  · rename_i h1
    unfold Lib.decDigits
    rw [dif_pos (by omega)]
    simp

theorem numbered_any (k : Nat) (hk : k < 64) (w : World) :
    Calls Tryz.prog 49 #[.int .i64 (k : Int)] w fun e w' => e = .returned (.string ⟨(numB k).toArray⟩) ∧ w = w' := by
  have hc := same_flip (Tryz.strconv_Itoa_small k (by omega) w)
  have hlen := dec_short ⟨k, hk⟩
  simp only at hlen
  go_enter Tryz.func49, Tryz.ntmps49
  go_wp2_with (go_at_call 67; refine hc.mono ?_; rintro e w' ⟨rfl, rfl⟩)
  go_ret
  exact ⟨ret_str (cat_mk [35] (Lib.decDigits k)), rfl⟩

/-- What stands for a number: its good name, or '#' and its digits. -/
def itemB (zs : List ByteArray) (k : Nat) : List UInt8 := if (zs.getD k ByteArray.empty).data.toList = [] then numB k else (zs.getD k ByteArray.empty).data.toList

theorem item_any (k B : Nat) (hk : k < 64) (zs : List ByteArray) (w : World) (hG : GoodAt w B zs) :
    Calls Tryz.prog 38 #[.int .i64 (k : Int), .slice (some ⟨B, 0, none⟩) 64 64] w fun e w' => e = .returned (.string ⟨(itemB zs k).toArray⟩) ∧ w = w' := by
  have hc := (hG k hk).1
  obtain ⟨x, hx⟩ : ∃ x, zs.getD k ByteArray.empty = x := ⟨_, rfl⟩
  have hn := numbered_any k hk w
  unfold itemB
  rw [hx] at hc ⊢
  clear hx hG
  by_cases h0 : x.data.toList = []
  · rw [if_pos h0]
    have hx0 : x = ⟨#[]⟩ := by
      cases x with
      | mk d => simp at h0; subst h0; rfl
    subst hx0
    clear h0
    go_enter Tryz.func38, Tryz.ntmps38
    go_wp2_with (go_at_call 49; refine hn.mono ?_; rintro e w' ⟨rfl, rfl⟩)
    go_ret
    exact ⟨rfl, rfl⟩
  · rw [if_neg h0]
    have hne : x.toList.isEmpty = false := by
      rw [Lib.toList_data]
      cases h : x.data.toList with
      | nil => exact absurd h h0
      | cons _ _ => rfl
    go_enter Tryz.func38, Tryz.ntmps38
    go_wp2_with (go_at_call 49; refine hn.mono ?_; rintro e w' ⟨rfl, rfl⟩)

    go_ret
    exact ⟨ret_str (by simp), rfl⟩
end Go.Proofs.YthmcckdoneiglaaGreatDoor
