/- Plain facts on bytes: digits, letters, well-formed names, decimal digits of the numbers 0 to 63. -/
import Derived.Lib.Strings
import Derived.Lib.Small
namespace Go.Proofs.YthmcckdoneiglaaGreatDoor
open Go

def digB (c : UInt8) : Bool := decide (48 ≤ c.toNat) && decide (c.toNat ≤ 57)
def letB (c : UInt8) : Bool := (decide (97 ≤ c.toNat) && decide (c.toNat ≤ 122)) || decide (c.toNat = 95)
def okB (c : UInt8) : Bool := letB c || digB c

def wfB : List UInt8 → Bool
  | [] => false
  | c :: l => decide ((c :: l).length ≤ 32) && (!digB c && (c :: l).all okB)

theorem wfB_nil {l : List UInt8} (h : l.length < 1) : wfB l = false := by
  cases l with
  | nil => rfl
  | cons _ _ => simp at h
theorem wfB_long {l : List UInt8} (h : 32 < l.length) : wfB l = false := by
  cases l with
  | nil => rfl
  | cons c l =>
    have : ¬ (c :: l).length ≤ 32 := by omega
    simp only [wfB, this, decide_false, Bool.false_and]
theorem wfB_dig {l : List UInt8} (h0 : 0 < l.length) (h : digB l[0] = true) : wfB l = false := by
  cases l with
  | nil => rfl
  | cons c l =>
    simp only [List.getElem_cons_zero] at h
    simp [wfB, h]
theorem wfB_bad {l : List UInt8} {k : Nat} (hk : k < l.length) (h : okB l[k] = false) : wfB l = false := by
  cases l with
  | nil => rfl
  | cons c l =>
    have : (c :: l).all okB = false := by
      rw [List.all_eq_false]
      exact ⟨_, List.getElem_mem hk, by rw [h]; simp⟩
    simp only [wfB, this, Bool.and_false]
theorem wfB_good {l : List UInt8} (h0 : 0 < l.length) (h1 : l.length ≤ 32) (h2 : digB l[0] = false) (h3 : l.all okB = true) : wfB l = true := by
  cases l with
  | nil => simp at h0
  | cons c l =>
    simp only [List.getElem_cons_zero] at h2
    simp only [wfB, h2, h3, h1, decide_true, Bool.not_false, Bool.and_self]
theorem all_take_snoc {l : List UInt8} {k : Nat} (hk : k < l.length) (h : (l.take k).all okB = true) (h2 : okB l[k] = true) : (l.take (k + 1)).all okB = true := by
  rw [List.take_succ_eq_append_getElem hk]
  simp only [List.all_append, h, List.all_cons, h2, List.all_nil, Bool.and_self]
end Go.Proofs.YthmcckdoneiglaaGreatDoor
