/- Lists in memory that is handed out. -/
import Derived.Test.YtnmcjkabihihiaaDoorEI
namespace Go.Proofs.YtnmcjkabihihiaaDoor
open Go Go.RowKit Go.Proofs.Mm

/-- A row of cells, item by item. -/
def Enc {α : Type} (R : List Value → α → Prop) : List Value → List α → Prop
  | cs, [] => cs = []
  | cs, x :: xs => ∃ c r, cs = c ++ r ∧ R c x ∧ Enc R r xs
theorem Enc.app {α : Type} {R : List Value → α → Prop} : ∀ {xs ys : List α} {cs ds : List Value}, Enc R cs xs → Enc R ds ys → Enc R (cs ++ ds) (xs ++ ys)
  | [], ys, cs, ds, h, h' => by
    obtain rfl : cs = [] := h
    exact h'
  | x :: xs, ys, cs, ds, h, h' => by
    obtain ⟨c, r, rfl, h1, h2⟩ := h
    exact ⟨c, r ++ ds, by rw [List.append_assoc], h1, h2.app h'⟩
theorem Enc.one {α : Type} {R : List Value → α → Prop} {c : List Value} {x : α} (h : R c x) : Enc R c [x] := ⟨c, [], by simp, h, rfl⟩
theorem Enc.nil {α : Type} {R : List Value → α → Prop} : Enc R [] ([] : List α) := rfl
theorem Enc.mono {α : Type} {R R' : List Value → α → Prop} (hR : ∀ c x, R c x → R' c x) : ∀ {xs : List α} {cs : List Value}, Enc R cs xs → Enc R' cs xs
  | [], _, h => h
  | _ :: _, _, ⟨c, r, e, h1, h2⟩ => ⟨c, r, e, hR _ _ h1, h2.mono hR⟩

/-! ## What has been handed out -/
def TmM (m : Mem) (v : Value) (l : List Syn.Tm) : Prop := RowM m 46 3 v l.length (tmCells l)
def StrM (m : Mem) (v : Value) (l : List (List Nat)) : Prop := RowM m 9 1 v l.length (l.map fun s => .string (sb s))
def ExM (m : Mem) (v : Value) (l : List (List Syn.Tm)) : Prop := ∃ cs, RowM m 22 1 v l.length cs ∧ Enc (fun c x => ∃ u, c = [u] ∧ TmM m u x) cs l
def StM (m : Mem) (c : List Value) (s : Syn.St) : Prop := ∃ vt ve, c = [.int .i64 (s.kind : Int), .string (sb s.name), vt, ve] ∧ StrM m vt s.targets ∧ ExM m ve s.exprs
end Go.Proofs.YtnmcjkabihihiaaDoor
