/- Effect, of package code and of the document's answer, in every memory. -/
import Derived.Test.YtahnhohccbnhjaaCoI
namespace Go.Proofs.Ytahnhohccbnhjaa
open Go Go.RowKit Go.Proofs.Mm Go.Sort

theorem effE_out {ng na nh : Nat} {fs : List FnL} {f op a : Int} (h : f < 0 ∨ (fs.length : Int) ≤ f) : effE ng na nh fs f op a = (0, 0, false) := if_neg (by omega)
theorem effE_may {ng na nh : Nat} {fs : List FnL} {f op a : Int} (h : mayI op a = false) : effE ng na nh fs f op a = (0, 0, false) := if_neg (by rw [h]; simp)
theorem getD_at {fs : List FnL} {j : Nat} (hj : j < fs.length) : fs.getD j default = fs[j] := by rw [List.getD_eq_getElem?_getD, List.getElem?_eq_getElem hj]; rfl
theorem effE_th {ng na nh : Nat} {fs : List FnL} {j : Nat} {op a : Int} (hj : j < fs.length) (h : thI ng na nh fs.length fs[j] (kiI op) a = false) : effE ng na nh fs j op a = (0, 0, false) := if_neg (by
  rw [show ((j : Nat) : Int).toNat = j from rfl, getD_at hj, h]
  simp)
theorem effE_in {ng na nh : Nat} {fs : List FnL} {j : Nat} {op a : Int} (hj : j < fs.length) (hm : mayI op a = true) (h : thI ng na nh fs.length fs[j] (kiI op) a = true) :
    effE ng na nh fs j op a = (if op = 45 then (((fs.getD a.toNat default).np : Int), ((fs.getD a.toNat default).nr : Int), true) else if op = 46 then ((fs[j].nr : Int), 0, true) else (poI op, puI op, true) : Int × Int × Bool) := by
  unfold effE
  rw [if_pos ⟨by omega, by omega, hm, by rw [show ((j : Nat) : Int).toNat = j from rfl, getD_at hj, h]⟩, show ((j : Nat) : Int).toNat = j from rfl, getD_at hj]
theorem FnsAt.fn {C : Cl} {q : Option Addr} {fs : List FnL} (h : FnsAt C q fs) {j : Nat} (hj : j < fs.length) :
    ∃ g o lv qp cp qr cr stk qc cc, q = some ⟨g, o, none⟩ ∧ FnC C g o j lv qp fs[j].np cp qr fs[j].nr cr fs[j].loc stk qc fs[j].nc cc ∧ fs[j].np ≤ maxLen := by
  obtain ⟨g, o, lv, qp, cp, qr, cr, stk, qc, cc, e, h0, h1, h2, h3, h4, h5, h6⟩ := h j hj
  exact ⟨g, o, lv, qp, cp, qr, cr, stk, qc, cc, e, ⟨h0, h1, h2, h3, h4, h5⟩, h6⟩
section
variable (qg : Option Addr) (ng cg : Nat) (qa : Option Addr) (na ca : Nat) (qh : Option Addr) (nh ch : Nat) (qf : Option Addr) (cf : Nat)
theorem Effect_any (fs : List FnL) (hn : fs.length ≤ maxLen) (f op a : Int) (ha : a < 9223372036854775808) (w : World) (h : FnsAt (wC w) qf fs) :
    Calls Try.prog 26 #[moV qg ng cg qa na ca qh nh ch qf fs.length cf, .int .i64 f, inV op a] w fun e w' => e = .returned (efV (effE ng na nh fs f op a)) ∧ Below w.heap.size w w' := by
  by_cases hf : f < 0 ∨ (fs.length : Int) ≤ f
  · rw [effE_out hf]
    exact Effect_no1 qg ng cg qa na ca qh nh ch qf cf fs.length f op a hf w
  · obtain ⟨j, rfl⟩ : ∃ j : Nat, f = j := ⟨f.toNat, by omega⟩
    have hj : j < fs.length := by omega
    cases hm : mayI op a
    · rw [effE_may hm]
      exact Effect_no2 qg ng cg qa na ca qh nh ch qf cf fs.length j op a (by omega) (by omega) hm w
    · obtain ⟨g, o, lv, qp, cp, qr, cr, stk, qc, cc, rfl, hF, hp⟩ := h.fn hj
      cases ht : thI ng na nh fs.length fs[j] (kiI op) a
      · rw [effE_th hj ht]
        exact Effect_no3 qg ng cg qa na ca qh nh ch cf fs.length g o j op a hj hn hm ha hp ht w hF
      · rw [effE_in hj hm ht]
        by_cases h45 : op = 45
        · subst h45
          rw [if_pos rfl]
          have ha0 := mayI_call hm
          obtain ⟨i, rfl⟩ : ∃ i : Nat, a = i := ⟨a.toNat, by omega⟩
          have hi : i < fs.length := by
            have h2 : (decide ((i : Int) < (fs.length : Int))) = true := ht
            have := of_decide_eq_true h2
            omega
          obtain ⟨g', o', lv', qp', cp', qr', cr', stk', qc', cc', e', hG, hp'⟩ := h.fn hi
          injection e' with e'
          injection e' with e1 e2 e3
          subst e1 e2
          rw [show ((i : Nat) : Int).toNat = i from rfl, getD_at hi]
          exact Effect_call qg ng cg qa na ca qh nh ch cf fs.length g o j i hj hi hn hm ha hp ht w hF hG
        · rw [if_neg h45]
          have h2 := Effect_plain qg ng cg qa na ca qh nh ch cf fs.length g o j op a hj hn hm ha hp ht w hF h45
          unfold exI at h2
          rw [if_neg h45] at h2
          by_cases h46 : op = 46
          · rw [if_pos h46] at h2 ⊢
            exact h2
          · rw [if_neg h46] at h2 ⊢
            exact h2
theorem refEffect_any (fs : List FnL) (hn : fs.length ≤ maxLen) (f op a : Int) (ha : a < 9223372036854775808) (w : World) (h : FnsAt (wC w) qf fs) :
    Calls Try.prog 27 #[moV qg ng cg qa na ca qh nh ch qf fs.length cf, .int .i64 f, inV op a] w fun e w' => e = .returned (efV (effE ng na nh fs f op a)) ∧ Below w.heap.size w w' := by
  by_cases hf : f < 0 ∨ (fs.length : Int) ≤ f
  · rw [effE_out hf]
    exact refEffect_no1 qg ng cg qa na ca qh nh ch qf cf fs.length f op a hf w
  · obtain ⟨j, rfl⟩ : ∃ j : Nat, f = j := ⟨f.toNat, by omega⟩
    have hj : j < fs.length := by omega
    cases hm : mayI op a
    · rw [effE_may hm]
      exact refEffect_no2 qg ng cg qa na ca qh nh ch qf cf fs.length j op a (by omega) (by omega) hm w
    · obtain ⟨g, o, lv, qp, cp, qr, cr, stk, qc, cc, rfl, hF, hp⟩ := h.fn hj
      cases ht : thI ng na nh fs.length fs[j] (kiI op) a
      · rw [effE_th hj ht]
        exact refEffect_no3 qg ng cg qa na ca qh nh ch cf fs.length g o j op a hj hn hm ha hp ht w hF
      · rw [effE_in hj hm ht]
        by_cases h45 : op = 45
        · subst h45
          rw [if_pos rfl]
          have ha0 := mayI_call hm
          obtain ⟨i, rfl⟩ : ∃ i : Nat, a = i := ⟨a.toNat, by omega⟩
          have hi : i < fs.length := by
            have h2 : (decide ((i : Int) < (fs.length : Int))) = true := ht
            have := of_decide_eq_true h2
            omega
          obtain ⟨g', o', lv', qp', cp', qr', cr', stk', qc', cc', e', hG, hp'⟩ := h.fn hi
          injection e' with e'
          injection e' with e1 e2 e3
          subst e1 e2
          rw [show ((i : Nat) : Int).toNat = i from rfl, getD_at hi]
          exact refEffect_call qg ng cg qa na ca qh nh ch cf fs.length g o j i hi hj hn hm ha hp ht w hF hG
        · rw [if_neg h45]
          by_cases h46 : op = 46
          · subst h46
            rw [if_pos rfl]
            exact refEffect_ret qg ng cg qa na ca qh nh ch cf fs.length g o j a hj hn hm ha hp ht w hF
          · rw [if_neg h46]
            exact refEffect_plain qg ng cg qa na ca qh nh ch cf fs.length g o j op a hj hn hm ha hp ht w hF h45 h46
end
end Go.Proofs.Ytahnhohccbnhjaa
