/- From what the cards list to the memory that package lex's calls ask; and what every law's row comes to: it returns true, and below the memory that came in nothing has turned. -/
import Derived.Test.YtpcniebkabkikaaGreatDoorPKpR5
import Derived.Test.YtpcniebkabkikaaGreatDoorTie
import Derived.Test.YtpcniebkabkikaaGreatDoorCards
import Derived.ProofKit
import Derived.OpenShut
import Derived.LaidMore
import Derived.Lay
import Derived.SizedLaws
import Derived.ChangeMaps5
import Derived.SevenTiedAt
import Derived.Stop.Joined
import Derived.Stop.LaidErr
import Derived.Stop.ErrReads
import Derived.PinnedBridge
import Derived.Lib.LaidU8T
namespace Go.Proofs.YtpcniebkabkikaaGreatDoor
open Go Go.ChangeShapes Go.WideShapes Go.ChangeAt Go.RowKit Go.Lib
theorem own : ownKnob Tryz.prog.godebug = none := by kernel_rfl
theorem laidOut : laidOutB Tryz.prog = true := by kernel_rfl
def lays6 : List (String × DataW Unit) := [("math/bits.deBruijn32tab",Rows.laid_math_bits_deBruijn32tab),("math/bits.deBruijn64tab",Rows.laid_math_bits_deBruijn64tab),("internal/strconv.uint64pow10",Rows.laid_internal_strconv_uint64pow10),("strconv.ErrRange",Rows.laid_strconv_ErrRange),("strconv.ErrSyntax",Rows.laid_strconv_ErrSyntax),("louver/print.levels",Rows.laid_louver_print_levels)]
theorem gErrR : Tryz.prog.globalNamed "strconv.ErrRange" = some 6 := by kernel_rfl
theorem sentinel {W : World} {n : String} {nm : String} {d : DataW Unit} {g : Nat} (hg : Tryz.prog.globalNamed n = some g) (hty : (Tryz.prog.globals[g]?).map (·.type) = some 136) (h : VarReads Tryz.prog W n (.iface nm d)) : ∃ tp p,W.var? Tryz.prog n = some #[.iface tp p] := by
  obtain ⟨g',t,cs,fuel,p,hg',hty',hvar,hd⟩ := h
  obtain rfl := Option.some.inj (hg.symm.trans hg')
  obtain rfl := Option.some.inj (hty.symm.trans hty')
  obtain ⟨f1,u,v,hcs,-,-⟩ := iface_of_trod Tryz.underlying136 hd
  obtain ⟨l⟩ := cs
  obtain rfl : l = [.iface u v] := hcs
  exact ⟨u,v,hvar⟩
theorem g64 : Tryz.prog.globalNamed "math/bits.deBruijn64tab" = some 2 := by kernel_rfl
theorem gLev : Tryz.prog.globalNamed "louver/print.levels" = some 0 := by kernel_rfl
theorem y64 : (Tryz.prog.globals[2]?).map (·.type) = some 277 := by kernel_rfl
theorem yLev : (Tryz.prog.globals[0]?).map (·.type) = some 143 := by kernel_rfl
theorem yPow : (Tryz.prog.globals[1]?).map (·.type) = some 273 := by kernel_rfl
theorem cU8 : Tryz.prog.cellsOf 5 = 1 := by kernel_rfl
theorem cInt : Tryz.prog.cellsOf 3 = 1 := by kernel_rfl
theorem cU64 : Tryz.prog.cellsOf 49 = 1 := by kernel_rfl
theorem c64 : Tryz.prog.cellsOf 277 = 64 := by kernel_rfl
theorem cLev : Tryz.prog.cellsOf 143 = 18 := by kernel_rfl
theorem cPow : Tryz.prog.cellsOf 273 = 20 := by kernel_rfl
theorem u64t : Tryz.prog.underlying 277 = some (.array 64 5) := by kernel_rfl
theorem uLev : Tryz.prog.underlying 143 = some (.array 18 3) := by kernel_rfl
theorem uPow : Tryz.prog.underlying 273 = some (.array 20 49) := by kernel_rfl
theorem tab64 : (Rows.laid_math_bits_deBruijn64tab : DataW Unit) = tabData .u8 (Lib.deBruijn64tab.map Int.ofNat) := by kernel_rfl
theorem tabLev : (Rows.laid_louver_print_levels : DataW Unit) = tabData .i64 (lvTab.map Int.ofNat) := by kernel_rfl
theorem tabPow : (Rows.laid_internal_strconv_uint64pow10 : DataW Unit) = tabData .u64 Lib.pow10Tab := by kernel_rfl
theorem envP_of_laid {W : World} (h : laidMetH Tryz.prog lays6 W) : EnvP W := by
  rw [MakeChecks.laidMetH_plain _ _ _ (by kernel_rfl)] at h
  have r0 : VarReads Tryz.prog W "math/bits.deBruijn64tab" (tabData .u8 (Lib.deBruijn64tab.map Int.ofNat)) := tab64 ▸ Lib.laidMet.reads h (by simp [lays6])
  have r1 : VarReads Tryz.prog W "louver/print.levels" (tabData .i64 (lvTab.map Int.ofNat)) := tabLev ▸ Lib.laidMet.reads h (by simp [lays6])
  have r2 : VarReads Tryz.prog W "internal/strconv.uint64pow10" (tabData .u64 Lib.pow10Tab) := tabPow ▸ Lib.laidMet.reads h (by simp [lays6])
  obtain ⟨tp,p,hv⟩ := sentinel gErrR (by kernel_rfl) (Lib.laidMet.reads h (n := "strconv.ErrRange") (d := Rows.laid_strconv_ErrRange) (by simp [lays6]))
  have hcell : W.cell? ⟨6,0,none⟩ = some (.iface tp p) := by rw [World.var?_cell gErrR hv 0]; rfl
  refine ⟨⟨tp,p,hcell⟩,?_,?_,?_,World.block_lt_of_cell? _ _ hcell⟩
  · obtain ⟨g,t,cs,fuel,p,hg,hty,hvar,hd⟩ := r1
    obtain rfl := Option.some.inj (gLev.symm.trans hg)
    obtain rfl := Option.some.inj (yLev.symm.trans hty)
    have hcs := cells_of_tab uLev Tryz.underlying3 cInt cLev hd
    intro j hj
    have := World.var?_cell hg hvar j
    rw [this,← Array.getElem?_toList,hcs]
    have hl : lvTab.length = 18 := rfl
    rw [List.map_map,List.getElem?_map,List.getElem?_eq_getElem (by rw [hl]; exact hj),List.getD_eq_getElem?_getD,List.getElem?_eq_getElem (by rw [hl]; exact hj)]
    rfl
  · obtain ⟨g,t,cs,fuel,p,hg,hty,hvar,hd⟩ := r2
    obtain rfl := Option.some.inj (gPow.symm.trans hg)
    obtain rfl := Option.some.inj (yPow.symm.trans hty)
    have hcs := cells_of_tab uPow Tryz.underlying49 cU64 cPow hd
    unfold Lib.TabIs
    rw [hvar,← hcs]
  · obtain ⟨g,t,cs,fuel,p,hg,hty,hvar,hd⟩ := r0
    obtain rfl := Option.some.inj (g64.symm.trans hg)
    obtain rfl := Option.some.inj (y64.symm.trans hty)
    have hcs := cells_of_tab u64t Tryz.underlying5 cU8 c64 hd
    intro j hj
    have := World.var?_cell hg hvar j
    rw [this,← Array.getElem?_toList,hcs]
    simp [hj,Int.ofNat_eq_natCast]
theorem trodAll_below {H : Type} {enc : TypeId × Value → H} {P : Program} (hl : laidOutB P = true) {W W' : World} (hb : Below W.heap.size W W') (ts : List TypeId) : ∀ {vs : List Value} {ds : List (DataW H)} {ps : List MemPlace},
    (∀ t ∈ ts,P.readableRec t = true ∧ t < P.types.size) → DataW.TrodAll enc P W 0 (fun _ => true) true ts vs ds ps → (∀ x ∈ ps,x.block < W.heap.size) → DataW.TrodAll enc P W' 0 (fun b => decide (b < W.heap.size)) true ts vs ds ps := by
  induction ts with
  | nil =>
    intro vs ds ps _ h _
    cases vs <;> cases ds <;> exact h
  | cons t ts ih =>
    intro vs ds ps hr h hlt
    cases vs with
    | nil => cases ds <;> cases h
    | cons v vs => cases ds with
      | nil => cases h
      | cons d ds =>
        obtain ⟨p,q,h1,h2,rfl⟩ := h
        have ht := hr t (List.mem_cons_self ..)
        exact ⟨p,q,Below.trod hl ht.1 ht.2 h1 hb fun x hx => hlt x (List.mem_append_left _ hx),ih (fun u hu => hr u (List.mem_cons_of_mem _ hu)) h2 fun x hx => hlt x (List.mem_append_right _ hx),rfl⟩
theorem post_true {H : Type} {enc : TypeId × Value → H} {fn : Func} {s : ChangeSpec} {W W' : World} {args : Array Value} {ds : List (DataW H)} {before : List MemPlace} (hv : s.vars = []) (hrt : fn.resultTypes = #[4])
    (hr : ∀ t ∈ fn.params.toList,Tryz.prog.readableRec t = true ∧ t < Tryz.prog.types.size) (hs : s.fn H ds = { results := [.lit (.bool true)],args := ds,vars := [] })
    (hW : DataW.Whole enc Tryz.prog fn.params.toList s.vars false W args.toList ds [] before) (hb : Below W.heap.size W W') : s.post enc Tryz.prog fn false true false false W args (.bool true) W' := by
  have hW' := hW
  obtain ⟨p,q,hA,hV,rfl,hfz,_⟩ := hW
  rw [hv] at hV
  obtain rfl : q = [] := hV
  refine ⟨ds,[],p ++ [],[],p,[],hW',?_,?_,?_,hb.frame _,fun h => by cases h⟩
  · rw [List.append_nil,hs,hrt]; exact trodAll_mk1 (shut_bool Tryz.underlying4 _)
  · rw [List.append_nil,hs]
    exact trodAll_below laidOut hb _ hr hA fun x hx => by simpa using hW'.lt x (List.mem_append_left _ hx)
  · rw [List.append_nil,hs,hv]; rfl
end Go.Proofs.YtpcniebkabkikaaGreatDoor
