/- The statements' sources that they know the faults of. -/
import Derived.Test.YtlpdjfimefjmcaaGreatDoorFlLevelsPR13
namespace Go.Proofs.YtlpdjfimefjmcaaGreatDoor
open Go Go.RowKit Go.Proofs.Mm
set_option maxRecDepth 100000
theorem slx_mk {α:Type} {bs:Nat} {C:Cl} {R:List Value→α→Prop} {l:List α} {g c:Nat} {cs:List Value} (hr:∀ j u,cs[j]?=some u→C ⟨g,0+j,none⟩=some u) (he:Enc R cs l) (hb:l.length * bs≤140737488351232) (hc:c≤maxLen) (hl:l.length≤c) :
    SlX [] bs C R (.slice (some ⟨g,0,none⟩) l.length c) l :=
  ⟨_,_,cs,rfl,.inl rfl,.inr ⟨g,0,rfl,by rw [List.append_nil];exact hr⟩,he,hb,hc,(fun h=>nomatch h),hl⟩
theorem slx_nil {α:Type} {bs:Nat} {C:Cl} {R:List Value→α→Prop}:SlX [] bs C R (.slice none 0 0) ([]:List α) :=
  ⟨none,0,[],rfl,.inl rfl,.inl rfl,Enc.nil,by simp,by decide,fun _=>rfl,by simp⟩
end Go.Proofs.YtlpdjfimefjmcaaGreatDoor
