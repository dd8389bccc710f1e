/- From what the cards list to the world that the calls of package bits ask; and what every law's row comes to: it returns true, and below the memory that came in nothing has turned. -/
import Derived.Test.YthmcckdoneiglaaGreatDoorN
import Derived.Test.YthmcckdoneiglaaGreatDoorTie
import Derived.Test.YthmcckdoneiglaaGreatDoorCards
import Derived.ProofKit
import Derived.OpenShut
import Derived.LaidMore
import Derived.Lay
import Derived.SevenTiedAt
import Derived.Stop.Joined
import Derived.Stop.LaidErr
import Derived.Stop.ErrReads
import Derived.PinnedBridge
import Derived.Lib.LaidU8T
namespace Go.Proofs.YthmcckdoneiglaaGreatDoor
open Go Go.ChangeShapes Go.WideShapes Go.ChangeAt Go.RowKit Go.Lib

theorem own : ownKnob Tryz.prog.godebug = none := by kernel_rfl
theorem laidOut : laidOutB Tryz.prog = true := by kernel_rfl

def ren8 : Go.Shelf.Ren := ⟨fun n => n, fun | 5 => 5 | 119 => 101 | 138 => 103 | 139 => 104 | n => n, fun | 3 => 1 | 4 => 2 | n => n⟩
theorem types8 : U8Types Tryz.prog ren8 := ⟨Tryz.underlying5, Tryz.underlying101, Tryz.underlying103, Tryz.underlying104⟩
theorem extra8 : U8Extra Tryz.prog ren8 := ⟨by kernel_rfl, by kernel_rfl, by kernel_rfl, by kernel_rfl, by kernel_rfl, by kernel_rfl, by kernel_rfl⟩

theorem star : "*" ++ "errors.errorString" = "*errors.errorString" := by decide
theorem g0 : Tryz.prog.globalNamed "math/bits.deBruijn64tab" = some 0 := by kernel_rfl
theorem g7 : Tryz.prog.globalNamed "math/bits.deBruijn32tab" = some 7 := by kernel_rfl
theorem y0 : (Tryz.prog.globals[0]?).map (·.type) = some 70 := by kernel_rfl
theorem y7 : (Tryz.prog.globals[7]?).map (·.type) = some 135 := by kernel_rfl
theorem u78 : Tryz.prog.underlying 135 = some (.array 32 5) := by kernel_rfl
theorem c78 : Tryz.prog.cellsOf 135 = 32 := by kernel_rfl
def tab32n : List Int := [0, 1, 28, 2, 29, 14, 24, 3, 30, 22, 20, 15, 25, 17, 4, 8, 31, 27, 13, 23, 21, 19, 16, 7, 26, 12, 18, 6, 11, 5, 10, 9]
theorem tab32 : (Rows.laid_math_bits_deBruijn32tab : DataW Unit) = tabData .u8 tab32n := by kernel_rfl
theorem c5 : Tryz.prog.cellsOf 5 = 1 := by kernel_rfl
theorem c79 : Tryz.prog.cellsOf 70 = 64 := by kernel_rfl
theorem tab64 : (Rows.laid_math_bits_deBruijn64tab : DataW Unit) = tabData .u8 (Lib.deBruijn64tab.map Int.ofNat) := by kernel_rfl
theorem acc8 : (Rows.laid_unicode_utf8_acceptRanges : DataW Unit) = acceptData := by kernel_rfl

def lays7 : List (String × DataW Unit) := [("math/bits.deBruijn32tab", Rows.laid_math_bits_deBruijn32tab), ("math/bits.deBruijn64tab", Rows.laid_math_bits_deBruijn64tab), ("internal/strconv.uint64pow10", Rows.laid_internal_strconv_uint64pow10), ("unicode/utf8.acceptRanges", Rows.laid_unicode_utf8_acceptRanges), ("strconv.ErrRange", Rows.laid_strconv_ErrRange), ("strconv.ErrSyntax", Rows.laid_strconv_ErrSyntax), ("unicode/utf8.first", Rows.laid_unicode_utf8_first)]

theorem sentinel {W : World} {n : String} {nm : String} {d : DataW Unit} {g : Nat} (hg : Tryz.prog.globalNamed n = some g) (hty : (Tryz.prog.globals[g]?).map (·.type) = some 63) (h : VarReads Tryz.prog W n (.iface nm d)) : ∃ tp p, W.var? Tryz.prog n = some #[.iface tp p] := by
  obtain ⟨g', t, cs, fuel, p, hg', hty', hvar, hd⟩ := h
  obtain rfl := Option.some.inj (hg.symm.trans hg')
  obtain rfl := Option.some.inj (hty.symm.trans hty')
  obtain ⟨f1, u, v, hcs, -, -⟩ := iface_of_trod Tryz.underlying63 hd
  obtain ⟨l⟩ := cs
  obtain rfl : l = [.iface u v] := hcs
  exact ⟨u, v, hvar⟩

theorem env_of_laid {W : World} (h : laidMetH Tryz.prog lays7 W) : Env W := by
  rw [MakeChecks.laidMetH_plain _ _ _ (by kernel_rfl)] at h
  have r0 : VarReads Tryz.prog W "math/bits.deBruijn64tab" (tabData .u8 (Lib.deBruijn64tab.map Int.ofNat)) := tab64 ▸ Lib.laidMet.reads h (by simp [lays7])
  have r1 : VarReads Tryz.prog W "unicode/utf8.first" firstData := Pinned.utf8First_eq ▸ Lib.laidMet.reads h (d := Pinned.utf8First) (by simp [lays7, Rows.laid_unicode_utf8_first])
  have r2 : VarReads Tryz.prog W "unicode/utf8.acceptRanges" acceptData := acc8 ▸ Lib.laidMet.reads h (by simp [lays7])
  have r7 : VarReads Tryz.prog W "math/bits.deBruijn32tab" Rows.laid_math_bits_deBruijn32tab := Lib.laidMet.reads h (by simp [lays7])
  refine ⟨⟨utf8Tabs_of_readsT types8 extra8 r1 r2, ⟨?_, ?_⟩, ?_⟩, ?_⟩
  · exact sentinel gErrS (by kernel_rfl) (Lib.laidMet.reads h (n := "strconv.ErrSyntax") (d := Rows.laid_strconv_ErrSyntax) (by simp [lays7]))
  · exact sentinel gErrR (by kernel_rfl) (Lib.laidMet.reads h (n := "strconv.ErrRange") (d := Rows.laid_strconv_ErrRange) (by simp [lays7]))
  · obtain ⟨g, t, cs, fuel, p, hg, hty, hvar, hd⟩ := r7
    obtain rfl := Option.some.inj (g7.symm.trans hg)
    obtain rfl := Option.some.inj (y7.symm.trans hty)
    have hcs := cells_of_tab u78 Tryz.underlying5 c5 c78 (tab32 ▸ hd)
    have := World.var?_cell hg hvar 0
    rw [← Array.getElem?_toList, hcs] at this
    exact World.block_lt_of_cell? _ _ this
  · obtain ⟨g, t, cs, fuel, p, hg, hty, hvar, hd⟩ := r0
    obtain rfl := Option.some.inj (g0.symm.trans hg)
    obtain rfl := Option.some.inj (y0.symm.trans hty)
    have hcs := cells_of_tab Tryz.underlying70 Tryz.underlying5 c5 c79 hd
    intro j hj
    have := World.var?_cell hg hvar j
    rw [this, ← Array.getElem?_toList, hcs]
    simp [hj, Int.ofNat_eq_natCast]

theorem trodAll_below {H : Type} {enc : TypeId × Value → H} {P : Program} (hl : laidOutB P = true) {W W' : World} (hb : Below W.heap.size W W') (ts : List TypeId) : ∀ {vs : List Value} {ds : List (DataW H)} {ps : List MemPlace},
    (∀ t ∈ ts, P.readableRec t = true ∧ t < P.types.size) → DataW.TrodAll enc P W 0 (fun _ => true) true ts vs ds ps → (∀ x ∈ ps, x.block < W.heap.size) → DataW.TrodAll enc P W' 0 (fun b => decide (b < W.heap.size)) true ts vs ds ps := by
  induction ts with
  | nil =>
    intro vs ds ps _ h _
    cases vs <;> cases ds <;> exact h
  | cons t ts ih =>
    intro vs ds ps hr h hlt
    cases vs with
    | nil => cases ds <;> cases h
    | cons v vs => cases ds with
      | nil => cases h
      | cons d ds =>
        obtain ⟨p, q, h1, h2, rfl⟩ := h
        have ht := hr t (List.mem_cons_self ..)
        exact ⟨p, q, Below.trod hl ht.1 ht.2 h1 hb fun x hx => hlt x (List.mem_append_left _ hx), ih (fun u hu => hr u (List.mem_cons_of_mem _ hu)) h2 fun x hx => hlt x (List.mem_append_right _ hx), rfl⟩

theorem post_true {H : Type} {enc : TypeId × Value → H} {fn : Func} {s : ChangeSpec} {W W' : World} {args : Array Value} {ds : List (DataW H)} {before : List MemPlace} (hv : s.vars = []) (hrt : fn.resultTypes = #[4])
    (hr : ∀ t ∈ fn.params.toList, Tryz.prog.readableRec t = true ∧ t < Tryz.prog.types.size) (hs : s.fn H ds = { results := [.lit (.bool true)], args := ds, vars := [] })
    (hW : DataW.Whole enc Tryz.prog fn.params.toList s.vars false W args.toList ds [] before) (hb : Below W.heap.size W W') : s.post enc Tryz.prog fn false true false false W args (.bool true) W' := by
  have hW' := hW
  obtain ⟨p, q, hA, hV, rfl, hfz, _⟩ := hW
  rw [hv] at hV
  obtain rfl : q = [] := hV
  refine ⟨ds, [], p ++ [], [], p, [], hW', ?_, ?_, ?_, hb.frame _, fun h => by cases h⟩
  · rw [List.append_nil, hs, hrt]; exact trodAll_mk1 (shut_bool Tryz.underlying4 _)
  · rw [List.append_nil, hs]
    exact trodAll_below laidOut hb _ hr hA fun x hx => by simpa using hW'.lt x (List.mem_append_left _ hx)
  · rw [List.append_nil, hs, hv]; rfl
end Go.Proofs.YthmcckdoneiglaaGreatDoor
