/- The kit's lent source, each row in blocks of its own. (Written by a program.) -/
import Derived.Test.YtlpdjfimefjmcaaGreatDoorFlFewerPR4
namespace Go.Proofs.YtlpdjfimefjmcaaGreatDoor
open Go Go.RowKit Go.Proofs.Mm
def Mem.nil:Mem:=fun _=>none
theorem has_nil (w:World):Has w Mem.nil:=fun k o e=>by cases e
end Go.Proofs.YtlpdjfimefjmcaaGreatDoor
