/- A part of the proof of PrintBack: contracts and plain facts. -/
import Derived.Test.YtpcniebkabkikaaGreatDoorPBqR3
import Derived.Test.YtpcniebkabkikaaGreatDoorPBqR6
import Derived.Lib.ItoaMem
import Derived.Lib.LaidTab
set_option maxRecDepth 100000
set_option maxHeartbeats 8000000
open Go.Lib (hid)
open Go.Proofs.Tryz
namespace Go.Proofs.YtpcniebkabkikaaGreatDoor
open Go Go.RowKit Go.Proofs.Mm
def lvTab:List Nat:=[0,4,4,5,5,5,2,1,1,3,3,0,0,0,0,6,6,6]
structure EnvP (w:World):Prop where
 lex:Env w
 lev:∀j,j<18→w.cell? ⟨0,j,none⟩=some (.int .i64 (lvTab.getD j 0:Nat))
 pow : Lib.TabIs prog w "internal/strconv.uint64pow10" .u64 Lib.pow10Tab
 tz:TabAt 2 Lib.deBruijn64tab w
 lt:6<w.heap.size
theorem gPow : prog.globalNamed "internal/strconv.uint64pow10" = some 1 := by kernel_rfl
theorem o6_ {B : Nat} {w w' : World} (h : Lib.TabIs prog w "internal/strconv.uint64pow10" .u64 Lib.pow10Tab) (hb : Below B w w') (hB : 6 < B) : Lib.TabIs prog w' "internal/strconv.uint64pow10" .u64 Lib.pow10Tab := by
 unfold Lib.TabIs World.var? at *
 rw [gPow] at h ⊢
 simp only [Option.bind_some] at h ⊢
 rw [hb.block 1 (by omega)]
 exact h
theorem EnvP.below {B:Nat} {w w':World} (h:EnvP w) (hb:Below B w w') (hB:6<B):EnvP w' :=
 ⟨h.lex.below hb (by show 6<B;omega),fun j hj=>(hb.cell (p:=⟨0,j,none⟩) (by show 0<B;omega)).trans (h.lev j hj),o6_ h.pow hb hB,Bt.tab_below (by show 2<B;omega) hb h.tz,Nat.lt_of_lt_of_le h.lt hb.size⟩
theorem EnvP.all {w w':World} (h:EnvP w) (hb:Below w.heap.size w w'):EnvP w':=h.below hb h.lt
end Go.Proofs.YtpcniebkabkikaaGreatDoor
