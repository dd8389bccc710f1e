/- The rows of a module of which only what Check looks at is told: package shape's calls over them. Package shape's Check over rows of which only what it looks at is told. -/
import Derived.Test.YthjkbfamkogoiaaShMorePR4
import Derived.WalkMore
namespace Go.Proofs.Ythjkbfamkogoiaa
open Go Go.RowKit Go.Proofs.Mm Go.Sort
def ArS (C:Cl) (q:Option Addr) (l:List (Int × Int)):Prop:=∀ j (hj:j<l.length),∃ g o lb,q=some ⟨g,o,none⟩∧C ⟨g,o+j * 2,none⟩=some (.int .i64 l[j].1)∧C ⟨g,o+j * 2+1,none⟩=some (.int .u64 lb)
def InS (C:Cl) (q:Option Addr) (l:List (Int × Int)):Prop:=∀ j (hj:j<l.length),∃ g o av,q=some ⟨g,o,none⟩∧C ⟨g,o+j * 2,none⟩=some (.int .i64 l[j].1)∧C ⟨g,o+j * 2+1,none⟩=some (.int .i64 av)∧(l[j].1 ≠ 32→av=l[j].2)
def FnS (C:Cl) (q:Option Addr) (fs:List FnM):Prop:=∀ j (hj:j<fs.length),∃ g o lv qp cp qr cr qc cc,q=some ⟨g,o,none⟩ ∧
  C ⟨g,o+j * 6,none⟩=some (.int .u64 lv)∧C ⟨g,o+j * 6+1,none⟩=some (.slice qp fs[j].params.length cp)∧C ⟨g,o+j * 6+2,none⟩=some (.slice qr fs[j].results.length cr)∧C ⟨g,o+j * 6+3,none⟩=some (.int .i64 fs[j].locals) ∧
  C ⟨g,o+j * 6+4,none⟩=some (.int .i64 fs[j].stack)∧C ⟨g,o+j * 6+5,none⟩=some (.slice qc fs[j].code.length cc)∧InS C qc fs[j].code∧fs[j].params.length≤140737488351232∧fs[j].results.length≤140737488351232∧fs[j].code.length≤140737488351232
theorem ArS.le {C D:Cl} {q:Option Addr} {l:List (Int × Int)} (h:ArS C q l) (hc:CLe C D):ArS D q l:=fun j hj=>by
  obtain ⟨g,o,lb,e,a,b⟩:=h j hj
  exact ⟨g,o,lb,e,hc _ _ a,hc _ _ b⟩
theorem InS.le {C D:Cl} {q:Option Addr} {l:List (Int × Int)} (h:InS C q l) (hc:CLe C D):InS D q l:=fun j hj=>by
  obtain ⟨g,o,av,e,a,b,c⟩:=h j hj
  exact ⟨g,o,av,e,hc _ _ a,hc _ _ b,c⟩
theorem FnS.le {C D:Cl} {q:Option Addr} {l:List FnM} (h:FnS C q l) (hc:CLe C D):FnS D q l:=fun j hj=>by
  obtain ⟨g,o,lv,qp,cp,qr,cr,qc,cc,e,a0,a1,a2,a3,a4,a5,h6,h7⟩:=h j hj
  exact ⟨g,o,lv,qp,cp,qr,cr,qc,cc,e,hc _ _ a0,hc _ _ a1,hc _ _ a2,hc _ _ a3,hc _ _ a4,hc _ _ a5,h6.le hc,h7⟩
theorem ArAt.sh {C:Cl} {q:Option Addr} {l:List (Int × Int)} (h:ArAt C q l):ArS C q l:=fun j hj=>by
  obtain ⟨g,o,e,a,b⟩:=h j hj
  exact ⟨g,o,_,e,a,b⟩
theorem InAt.sh {C:Cl} {q:Option Addr} {l:List (Int × Int)} (h:InAt C q l):InS C q l:=fun j hj=>by
  obtain ⟨g,o,e,a,b⟩:=h j hj
  exact ⟨g,o,_,e,a,b,fun _=>rfl⟩
theorem FnAt.sh {lt:Bool} {w:World} {q:Option Addr} {l:List FnM} (h:FnAt lt (wC w) q l):FnS (wC w) q l:=fun j hj=>by
  obtain ⟨g,o,qp,cp,qr,cr,qc,cc,e,hK,hcd,b1,b2,b3⟩:=fn_at h hj
  exact ⟨g,o,_,qp,cp,qr,cr,qc,cc,e,hK.a0,hK.a1,hK.a2,hK.a3,hK.a4,hK.a5,hcd.cells.sh,b1,b2,b3⟩
theorem fn_atS {fs:List FnM} {w:World} {qf:Option Addr} (hF:FnS (wC w) qf fs) {j:Nat} (hj:j<fs.length):∃ g o qp cp qr cr qc cc,qf=some ⟨g,o,none⟩ ∧
    (∃ lv,FnK w g (o+j * 6) lv qp fs[j].params.length cp qr fs[j].results.length cr fs[j].locals fs[j].stack qc fs[j].code.length cc)∧InS (wC w) qc fs[j].code∧fs[j].params.length≤140737488351232∧fs[j].results.length≤140737488351232∧fs[j].code.length≤140737488351232:=by
  obtain ⟨g,o,lv,qp,cp,qr,cr,qc,cc,e,a0,a1,a2,a3,a4,a5,h6,h7⟩:=hF j hj
  exact ⟨g,o,qp,cp,qr,cr,qc,cc,e,⟨lv,a0,a1,a2,a3,a4,a5⟩,h6,h7⟩
theorem ins_const (ng na nh:Nat) (fs:List FnM) (f:Int) {op a b:Int} (h:op ≠ 32→a=b):insI ng na nh fs f op a=insI ng na nh fs f op b:=by
  by_cases e:op=32
  · subst e;rfl
  · rw [h e]
section
variable (qg:Option Addr) (ng cg:Nat) (qa:Option Addr) (na ca:Nat) (qh:Option Addr) (nh ch:Nat) (qf:Option Addr) (nf cf:Nat)
set_option maxRecDepth 100000 in
set_option maxHeartbeats 1000000 in
theorem Locals_s {fs:List FnM} (hn:fs.length=nf) {w:World} (hF:FnS (wC w) qf fs) (f:Int):Calls Try.prog 13 #[moV qg ng cg qa na ca qh nh ch qf nf cf,.int .i64 f] w fun e w'=>e=.returned (.int .i64 (locI fs f))∧Below w.heap.size w w':=by
  by_cases h:0≤f∧f<(nf:Int)
  · obtain ⟨j,rfl⟩:∃ j:Nat,f=(j:Int):=⟨f.toNat,by omega⟩
    have hj:j<fs.length:=by omega
    have hjn:(j:Int)<(nf:Int):=h.2
    have hk:fnI nf (j:Int)=true:=decide_eq_true h
    obtain ⟨g,o,qp,cp,qr,cr,qc,cc,rfl,⟨lv,hK⟩,hcd,m1,_,_⟩:=fn_atS hF hj
    clear hcd
    rw [locI_yes hj]
    generalize fs[j].params.length=np at *
    generalize fs[j].results.length=nr at *
    generalize fs[j].code.length=nc at *
    generalize fs[j].locals=lo at *
    generalize fs[j].stack=st at *
    have HM:=Lib.hid m1
    clear hF hn hj h m1
    go_enter Try.func13,Try.ntmps13
    go_wp2_with fail
    refine (isFn_any _ _ _ _ _ _ _ _ _ _ _ _ _ _).mono ?_
    rintro e w1 ⟨rfl,hb⟩
    have hB:=(bl_al (Below.refl _ w) (.cells #[.slice qg ng cg,.slice qa na ca,.slice qh nh ch,.slice (some ⟨g,o,none⟩) nf cf] 26)).trans (hb.mono (by simp))
    obtain ⟨a0,a1,a2,a3,a4,a5⟩:=hK.le hB
    have c3:w1.cell? ⟨w.heap.size,3,none⟩=some (.slice (some ⟨g,o,none⟩) nf cf):=cell_b ((InB.new w _ 26).cell rfl) hb
    have HB:=Lib.hid hB
    clear hb hB
    rw [hk]
    go_wp2_with fail
    go_ret
    exact ⟨ret_w rfl (by have:=HM.out;omega),bl_al HB.out _⟩
  · have hk:fnI nf f=false:=decide_eq_false h
    rw [locI_no (by rw [hn];exact h)]
    clear hF h
    go_enter Try.func13,Try.ntmps13
    go_wp2_with fail
    refine (isFn_any _ _ _ _ _ _ _ _ _ _ _ _ _ _).mono ?_
    rintro e w1 ⟨rfl,hb⟩
    rw [hk]
    go_wp2_with fail
    go_ret
    exact ⟨rfl,(bl_al (Below.refl _ w) _).trans (hb.mono (by simp))⟩
set_option maxRecDepth 100000 in
set_option maxHeartbeats 1000000 in
theorem opnS_32 {fs:List FnM} (hn:fs.length=nf) {w:World} (hF:FnS (wC w) qf fs) (j:Nat) (hj:j<nf) (a:Int) :Calls Try.prog 25 #[moV qg ng cg qa na ca qh nh ch qf nf cf,.int .i64 j,inV 32 a] w fun e w'=>e=.returned (.bool (true))∧Below w.heap.size w w':=by
  clear hF hn
  go_enter Try.func25,Try.ntmps25
  go_wp2_with fail
  go_ret
  exact ⟨rfl,bl_al (bl_al (Below.refl _ w) _) _⟩
set_option maxRecDepth 100000 in
set_option maxHeartbeats 1000000 in
theorem opnS_33 {fs:List FnM} (hn:fs.length=nf) {w:World} (hF:FnS (wC w) qf fs) (j:Nat) (hj:j<nf) (a:Int) :Calls Try.prog 25 #[moV qg ng cg qa na ca qh nh ch qf nf cf,.int .i64 j,inV 33 a] w fun e w'=>e=.returned (.bool (blI a (locI fs j)))∧Below w.heap.size w w':=by
  have HF:=Lib.hid (fun w' (hb:Below w.heap.size w w')=>(hF.le (below_cle hb):FnS (wC w') qf fs))
  clear hF
  go_enter Try.func25,Try.ntmps25
  go_wp2_with fail
  refine (Locals_s _ _ _ _ _ _ _ _ _ _ _ _ hn (HF.out _ (bl_al (bl_al (Below.refl _ w) _) _)) _).mono ?_
  rintro e w1 ⟨rfl,hb⟩
  have hi:w1.cell? ⟨w.heap.size+1,1,none⟩=some (.int .i64 a):=cell_b ((InB.new' (w:=w.alloc (.cells #[.slice qg ng cg,.slice qa na ca,.slice qh nh ch,.slice qf nf cf] 26)) #[.int .i64 33,.int .i64 a] 35 (by simp)).cell rfl) hb
  have HB:=Lib.hid ((bl_al (bl_al (Below.refl _ w) _) _:Below w.heap.size w ((w.alloc (.cells #[.slice qg ng cg,.slice qa na ca,.slice qh nh ch,.slice qf nf cf] 26)).alloc (.cells #[.int .i64 33,.int .i64 a] 35))).trans (hb.mono (by simp;omega)))
  clear hb
  go_wp2_with fail
  refine (below1_any _ a _ _ hi).mono ?_
  rintro e w2 ⟨rfl,rfl⟩
  go_wp2_with fail
  go_ret
  exact ⟨rfl,HB.out⟩
set_option maxRecDepth 100000 in
set_option maxHeartbeats 1000000 in
theorem opnS_34 {fs:List FnM} (hn:fs.length=nf) {w:World} (hF:FnS (wC w) qf fs) (j:Nat) (hj:j<nf) (a:Int) :Calls Try.prog 25 #[moV qg ng cg qa na ca qh nh ch qf nf cf,.int .i64 j,inV 34 a] w fun e w'=>e=.returned (.bool (blI a (locI fs j)))∧Below w.heap.size w w':=by
  have HF:=Lib.hid (fun w' (hb:Below w.heap.size w w')=>(hF.le (below_cle hb):FnS (wC w') qf fs))
  clear hF
  go_enter Try.func25,Try.ntmps25
  go_wp2_with fail
  refine (Locals_s _ _ _ _ _ _ _ _ _ _ _ _ hn (HF.out _ (bl_al (bl_al (Below.refl _ w) _) _)) _).mono ?_
  rintro e w1 ⟨rfl,hb⟩
  have hi:w1.cell? ⟨w.heap.size+1,1,none⟩=some (.int .i64 a):=cell_b ((InB.new' (w:=w.alloc (.cells #[.slice qg ng cg,.slice qa na ca,.slice qh nh ch,.slice qf nf cf] 26)) #[.int .i64 34,.int .i64 a] 35 (by simp)).cell rfl) hb
  have HB:=Lib.hid ((bl_al (bl_al (Below.refl _ w) _) _:Below w.heap.size w ((w.alloc (.cells #[.slice qg ng cg,.slice qa na ca,.slice qh nh ch,.slice qf nf cf] 26)).alloc (.cells #[.int .i64 34,.int .i64 a] 35))).trans (hb.mono (by simp;omega)))
  clear hb
  go_wp2_with fail
  refine (below1_any _ a _ _ hi).mono ?_
  rintro e w2 ⟨rfl,rfl⟩
  go_wp2_with fail
  go_ret
  exact ⟨rfl,HB.out⟩
set_option maxRecDepth 100000 in
set_option maxHeartbeats 1000000 in
theorem opnS_35 {fs:List FnM} (hn:fs.length=nf) {w:World} (hF:FnS (wC w) qf fs) (j:Nat) (hj:j<nf) (a:Int) :Calls Try.prog 25 #[moV qg ng cg qa na ca qh nh ch qf nf cf,.int .i64 j,inV 35 a] w fun e w'=>e=.returned (.bool (blI a ng))∧Below w.heap.size w w':=by
  clear hF hn
  go_enter Try.func25,Try.ntmps25
  go_wp2_with fail
  refine (below1_any _ a _ _ (new_in _ _ _ (by simp))).mono ?_
  rintro e w2 ⟨rfl,rfl⟩
  go_wp2_with fail
  go_ret
  exact ⟨rfl,bl_al (bl_al (Below.refl _ w) _) _⟩
set_option maxRecDepth 100000 in
set_option maxHeartbeats 1000000 in
theorem opnS_36 {fs:List FnM} (hn:fs.length=nf) {w:World} (hF:FnS (wC w) qf fs) (j:Nat) (hj:j<nf) (a:Int) :Calls Try.prog 25 #[moV qg ng cg qa na ca qh nh ch qf nf cf,.int .i64 j,inV 36 a] w fun e w'=>e=.returned (.bool (blI a ng))∧Below w.heap.size w w':=by
  clear hF hn
  go_enter Try.func25,Try.ntmps25
  go_wp2_with fail
  refine (below1_any _ a _ _ (new_in _ _ _ (by simp))).mono ?_
  rintro e w2 ⟨rfl,rfl⟩
  go_wp2_with fail
  go_ret
  exact ⟨rfl,bl_al (bl_al (Below.refl _ w) _) _⟩
set_option maxRecDepth 100000 in
set_option maxHeartbeats 1000000 in
theorem opnS_37 {fs:List FnM} (hn:fs.length=nf) {w:World} (hF:FnS (wC w) qf fs) (j:Nat) (hj:j<nf) (a:Int) :Calls Try.prog 25 #[moV qg ng cg qa na ca qh nh ch qf nf cf,.int .i64 j,inV 37 a] w fun e w'=>e=.returned (.bool (blI a na))∧Below w.heap.size w w':=by
  clear hF hn
  go_enter Try.func25,Try.ntmps25
  go_wp2_with fail
  refine (below1_any _ a _ _ (new_in _ _ _ (by simp))).mono ?_
  rintro e w2 ⟨rfl,rfl⟩
  go_wp2_with fail
  go_ret
  exact ⟨rfl,bl_al (bl_al (Below.refl _ w) _) _⟩
set_option maxRecDepth 100000 in
set_option maxHeartbeats 1000000 in
theorem opnS_38 {fs:List FnM} (hn:fs.length=nf) {w:World} (hF:FnS (wC w) qf fs) (j:Nat) (hj:j<nf) (a:Int) :Calls Try.prog 25 #[moV qg ng cg qa na ca qh nh ch qf nf cf,.int .i64 j,inV 38 a] w fun e w'=>e=.returned (.bool (blI a na))∧Below w.heap.size w w':=by
  clear hF hn
  go_enter Try.func25,Try.ntmps25
  go_wp2_with fail
  refine (below1_any _ a _ _ (new_in _ _ _ (by simp))).mono ?_
  rintro e w2 ⟨rfl,rfl⟩
  go_wp2_with fail
  go_ret
  exact ⟨rfl,bl_al (bl_al (Below.refl _ w) _) _⟩
set_option maxRecDepth 100000 in
set_option maxHeartbeats 1000000 in
theorem opnS_39 {fs:List FnM} (hn:fs.length=nf) {w:World} (hF:FnS (wC w) qf fs) (j:Nat) (hj:j<nf) (a:Int) :Calls Try.prog 25 #[moV qg ng cg qa na ca qh nh ch qf nf cf,.int .i64 j,inV 39 a] w fun e w'=>e=.returned (.bool (decide (a=0)))∧Below w.heap.size w w':=by
  clear hF hn
  by_cases ha:a=0
  · subst ha
    go_enter Try.func25,Try.ntmps25
    go_wp2_with fail
    go_ret
    exact ⟨rfl,bl_al (bl_al (Below.refl _ w) _) _⟩
  · have ka:(a == 0)=false:=eqb ha
    rw [decide_eq_false ha]
    clear ha
    go_enter Try.func25,Try.ntmps25
    go_wp2_with fail
    go_ret
    exact ⟨rfl,bl_al (bl_al (Below.refl _ w) _) _⟩
set_option maxRecDepth 100000 in
set_option maxHeartbeats 1000000 in
theorem opnS_40 {fs:List FnM} (hn:fs.length=nf) {w:World} (hF:FnS (wC w) qf fs) (j:Nat) (hj:j<nf) (a:Int) :Calls Try.prog 25 #[moV qg ng cg qa na ca qh nh ch qf nf cf,.int .i64 j,inV 40 a] w fun e w'=>e=.returned (.bool (decide (a=0)))∧Below w.heap.size w w':=by
  clear hF hn
  by_cases ha:a=0
  · subst ha
    go_enter Try.func25,Try.ntmps25
    go_wp2_with fail
    go_ret
    exact ⟨rfl,bl_al (bl_al (Below.refl _ w) _) _⟩
  · have ka:(a == 0)=false:=eqb ha
    rw [decide_eq_false ha]
    clear ha
    go_enter Try.func25,Try.ntmps25
    go_wp2_with fail
    go_ret
    exact ⟨rfl,bl_al (bl_al (Below.refl _ w) _) _⟩
set_option maxRecDepth 100000 in
set_option maxHeartbeats 1000000 in
theorem opnS_41 {fs:List FnM} (hn:fs.length=nf) {w:World} (hF:FnS (wC w) qf fs) (j:Nat) (hj:j<nf) (a:Int) :Calls Try.prog 25 #[moV qg ng cg qa na ca qh nh ch qf nf cf,.int .i64 j,inV 41 a] w fun e w'=>e=.returned (.bool (decide (a=0)))∧Below w.heap.size w w':=by
  clear hF hn
  by_cases ha:a=0
  · subst ha
    go_enter Try.func25,Try.ntmps25
    go_wp2_with fail
    go_ret
    exact ⟨rfl,bl_al (bl_al (Below.refl _ w) _) _⟩
  · have ka:(a == 0)=false:=eqb ha
    rw [decide_eq_false ha]
    clear ha
    go_enter Try.func25,Try.ntmps25
    go_wp2_with fail
    go_ret
    exact ⟨rfl,bl_al (bl_al (Below.refl _ w) _) _⟩
set_option maxRecDepth 100000 in
set_option maxHeartbeats 1000000 in
theorem opnS_42 {fs:List FnM} (hn:fs.length=nf) {w:World} (hF:FnS (wC w) qf fs) (j:Nat) (hj:j<nf) (a:Int) :Calls Try.prog 25 #[moV qg ng cg qa na ca qh nh ch qf nf cf,.int .i64 j,inV 42 a] w fun e w'=>e=.returned (.bool (decide (a=0)))∧Below w.heap.size w w':=by
  clear hF hn
  by_cases ha:a=0
  · subst ha
    go_enter Try.func25,Try.ntmps25
    go_wp2_with fail
    go_ret
    exact ⟨rfl,bl_al (bl_al (Below.refl _ w) _) _⟩
  · have ka:(a == 0)=false:=eqb ha
    rw [decide_eq_false ha]
    clear ha
    go_enter Try.func25,Try.ntmps25
    go_wp2_with fail
    go_ret
    exact ⟨rfl,bl_al (bl_al (Below.refl _ w) _) _⟩
set_option maxRecDepth 100000 in
set_option maxHeartbeats 1000000 in
theorem opnS_43 {fs:List FnM} (hn:fs.length=nf) {w:World} (hF:FnS (wC w) qf fs) (j:Nat) (hj:j<nf) (a:Int) :Calls Try.prog 25 #[moV qg ng cg qa na ca qh nh ch qf nf cf,.int .i64 j,inV 43 a] w fun e w'=>e=.returned (.bool (blI a (fs[j]'(by omega)).code.length))∧Below w.heap.size w w':=by
  have hj':j<fs.length:=by omega
  have hjn:(j:Int)<(nf:Int):=by omega
  obtain ⟨g,o,qp,cp,qr,cr,qc,cc,rfl,⟨lv,hK⟩,hcd,_,_,_⟩:=fn_atS hF hj'
  clear hcd
  obtain ⟨nc,hc⟩:∃ nc,fs[j].code.length=nc:=⟨_,rfl⟩
  rw [hc] at hK ⊢
  clear hc
  obtain ⟨a0,a1,a2,a3,a4,a5⟩:=hK.le (bl_al (bl_al (Below.refl _ w) _) _:Below w.heap.size w ((w.alloc (.cells #[.slice qg ng cg,.slice qa na ca,.slice qh nh ch,.slice (some ⟨g,o,none⟩) nf cf] 26)).alloc (.cells #[.int .i64 43,.int .i64 a] 35)))
  clear hF hn hK a0 a1 a2 a3 a4
  go_enter Try.func25,Try.ntmps25
  go_wp2_with fail
  refine (below1_any _ a _ _ (new_in _ _ _ (by simp))).mono ?_
  rintro e w2 ⟨rfl,rfl⟩
  go_wp2_with fail
  go_ret
  exact ⟨rfl,bl_al (bl_al (Below.refl _ w) _) _⟩
set_option maxRecDepth 100000 in
set_option maxHeartbeats 1000000 in
theorem opnS_44 {fs:List FnM} (hn:fs.length=nf) {w:World} (hF:FnS (wC w) qf fs) (j:Nat) (hj:j<nf) (a:Int) :Calls Try.prog 25 #[moV qg ng cg qa na ca qh nh ch qf nf cf,.int .i64 j,inV 44 a] w fun e w'=>e=.returned (.bool (blI a (fs[j]'(by omega)).code.length))∧Below w.heap.size w w':=by
  have hj':j<fs.length:=by omega
  have hjn:(j:Int)<(nf:Int):=by omega
  obtain ⟨g,o,qp,cp,qr,cr,qc,cc,rfl,⟨lv,hK⟩,hcd,_,_,_⟩:=fn_atS hF hj'
  clear hcd
  obtain ⟨nc,hc⟩:∃ nc,fs[j].code.length=nc:=⟨_,rfl⟩
  rw [hc] at hK ⊢
  clear hc
  obtain ⟨a0,a1,a2,a3,a4,a5⟩:=hK.le (bl_al (bl_al (Below.refl _ w) _) _:Below w.heap.size w ((w.alloc (.cells #[.slice qg ng cg,.slice qa na ca,.slice qh nh ch,.slice (some ⟨g,o,none⟩) nf cf] 26)).alloc (.cells #[.int .i64 44,.int .i64 a] 35)))
  clear hF hn hK a0 a1 a2 a3 a4
  go_enter Try.func25,Try.ntmps25
  go_wp2_with fail
  refine (below1_any _ a _ _ (new_in _ _ _ (by simp))).mono ?_
  rintro e w2 ⟨rfl,rfl⟩
  go_wp2_with fail
  go_ret
  exact ⟨rfl,bl_al (bl_al (Below.refl _ w) _) _⟩
set_option maxRecDepth 100000 in
set_option maxHeartbeats 1000000 in
theorem opnS_45 {fs:List FnM} (hn:fs.length=nf) {w:World} (hF:FnS (wC w) qf fs) (j:Nat) (hj:j<nf) (a:Int) :Calls Try.prog 25 #[moV qg ng cg qa na ca qh nh ch qf nf cf,.int .i64 j,inV 45 a] w fun e w'=>e=.returned (.bool (blI a nf))∧Below w.heap.size w w':=by
  clear hF hn
  go_enter Try.func25,Try.ntmps25
  go_wp2_with fail
  refine (below1_any _ a _ _ (new_in _ _ _ (by simp))).mono ?_
  rintro e w2 ⟨rfl,rfl⟩
  go_wp2_with fail
  go_ret
  exact ⟨rfl,bl_al (bl_al (Below.refl _ w) _) _⟩
set_option maxRecDepth 100000 in
set_option maxHeartbeats 1000000 in
theorem opnS_46 {fs:List FnM} (hn:fs.length=nf) {w:World} (hF:FnS (wC w) qf fs) (j:Nat) (hj:j<nf) (a:Int) :Calls Try.prog 25 #[moV qg ng cg qa na ca qh nh ch qf nf cf,.int .i64 j,inV 46 a] w fun e w'=>e=.returned (.bool (decide (a=0)))∧Below w.heap.size w w':=by
  clear hF hn
  by_cases ha:a=0
  · subst ha
    go_enter Try.func25,Try.ntmps25
    go_wp2_with fail
    go_ret
    exact ⟨rfl,bl_al (bl_al (Below.refl _ w) _) _⟩
  · have ka:(a == 0)=false:=eqb ha
    rw [decide_eq_false ha]
    clear ha
    go_enter Try.func25,Try.ntmps25
    go_wp2_with fail
    go_ret
    exact ⟨rfl,bl_al (bl_al (Below.refl _ w) _) _⟩
set_option maxRecDepth 100000 in
set_option maxHeartbeats 1000000 in
theorem opnS_47 {fs:List FnM} (hn:fs.length=nf) {w:World} (hF:FnS (wC w) qf fs) (j:Nat) (hj:j<nf) (a:Int) :Calls Try.prog 25 #[moV qg ng cg qa na ca qh nh ch qf nf cf,.int .i64 j,inV 47 a] w fun e w'=>e=.returned (.bool (blI a nh))∧Below w.heap.size w w':=by
  clear hF hn
  go_enter Try.func25,Try.ntmps25
  go_wp2_with fail
  refine (below1_any _ a _ _ (new_in _ _ _ (by simp))).mono ?_
  rintro e w2 ⟨rfl,rfl⟩
  go_wp2_with fail
  go_ret
  exact ⟨rfl,bl_al (bl_al (Below.refl _ w) _) _⟩
set_option maxRecDepth 100000 in
set_option maxHeartbeats 1000000 in
theorem opnS_ar {fs:List FnM} (hn:fs.length=nf) {w:World} (hF:FnS (wC w) qf fs) (j:Nat) (hj:j<nf) (a:Int) (op:Int) (h:¬ (32≤op∧op≤47)):Calls Try.prog 25 #[moV qg ng cg qa na ca qh nh ch qf nf cf,.int .i64 j,inV op a] w fun e w'=>e=.returned (.bool (decide (a=0)))∧Below w.heap.size w w':=by
  have k32:(op == 32)=false:=eqb (by omega)
  have k33:(op == 33)=false:=eqb (by omega)
  have k34:(op == 34)=false:=eqb (by omega)
  have k35:(op == 35)=false:=eqb (by omega)
  have k36:(op == 36)=false:=eqb (by omega)
  have k37:(op == 37)=false:=eqb (by omega)
  have k38:(op == 38)=false:=eqb (by omega)
  have k43:(op == 43)=false:=eqb (by omega)
  have k44:(op == 44)=false:=eqb (by omega)
  have k45:(op == 45)=false:=eqb (by omega)
  have k47:(op == 47)=false:=eqb (by omega)
  clear hF hn h
  by_cases ha:a=0
  · subst ha
    go_enter Try.func25,Try.ntmps25
    go_wp2_with fail
    go_ret
    exact ⟨rfl,bl_al (bl_al (Below.refl _ w) _) _⟩
  · have ka:(a == 0)=false:=eqb ha
    rw [decide_eq_false ha]
    clear ha
    go_enter Try.func25,Try.ntmps25
    go_wp2_with fail
    go_ret
    exact ⟨rfl,bl_al (bl_al (Below.refl _ w) _) _⟩
set_option maxRecDepth 100000 in
set_option maxHeartbeats 1000000 in
theorem mayOperand_s {fs:List FnM} (hn:fs.length=nf) {w:World} (hF:FnS (wC w) qf fs) (j:Nat) (hj:j<nf) (a:Int) (op:Int):Calls Try.prog 25 #[moV qg ng cg qa na ca qh nh ch qf nf cf,.int .i64 j,inV op a] w fun e w'=>e=.returned (.bool (opnI ng na nh fs j op a))∧Below w.heap.size w w':=by
  by_cases h3:32≤op∧op≤47
  · have e1:op=32 ∨ op=33 ∨ op=34 ∨ op=35 ∨ op=36 ∨ op=37 ∨ op=38 ∨ op=39 ∨ op=40 ∨ op=41 ∨ op=42 ∨ op=43 ∨ op=44 ∨ op=45 ∨ op=46 ∨ op=47:=by omega
    have hg:fs[j]?.getD default=fs[j]'(by omega):=by rw [List.getElem?_eq_getElem (by omega)];rfl
    rcases e1 with rfl | rfl | rfl | rfl | rfl | rfl | rfl | rfl | rfl | rfl | rfl | rfl | rfl | rfl | rfl | rfl
    · refine (opnS_32 qg ng cg qa na ca qh nh ch qf nf cf hn hF j hj a).mono ?_
      rintro e w' ⟨rfl,hb⟩
      exact ⟨by simp [opnI],hb⟩
    · refine (opnS_33 qg ng cg qa na ca qh nh ch qf nf cf hn hF j hj a).mono ?_
      rintro e w' ⟨rfl,hb⟩
      exact ⟨by simp [opnI],hb⟩
    · refine (opnS_34 qg ng cg qa na ca qh nh ch qf nf cf hn hF j hj a).mono ?_
      rintro e w' ⟨rfl,hb⟩
      exact ⟨by simp [opnI],hb⟩
    · refine (opnS_35 qg ng cg qa na ca qh nh ch qf nf cf hn hF j hj a).mono ?_
      rintro e w' ⟨rfl,hb⟩
      exact ⟨by simp [opnI],hb⟩
    · refine (opnS_36 qg ng cg qa na ca qh nh ch qf nf cf hn hF j hj a).mono ?_
      rintro e w' ⟨rfl,hb⟩
      exact ⟨by simp [opnI],hb⟩
    · refine (opnS_37 qg ng cg qa na ca qh nh ch qf nf cf hn hF j hj a).mono ?_
      rintro e w' ⟨rfl,hb⟩
      exact ⟨by simp [opnI],hb⟩
    · refine (opnS_38 qg ng cg qa na ca qh nh ch qf nf cf hn hF j hj a).mono ?_
      rintro e w' ⟨rfl,hb⟩
      exact ⟨by simp [opnI],hb⟩
    · refine (opnS_39 qg ng cg qa na ca qh nh ch qf nf cf hn hF j hj a).mono ?_
      rintro e w' ⟨rfl,hb⟩
      exact ⟨by simp [opnI],hb⟩
    · refine (opnS_40 qg ng cg qa na ca qh nh ch qf nf cf hn hF j hj a).mono ?_
      rintro e w' ⟨rfl,hb⟩
      exact ⟨by simp [opnI],hb⟩
    · refine (opnS_41 qg ng cg qa na ca qh nh ch qf nf cf hn hF j hj a).mono ?_
      rintro e w' ⟨rfl,hb⟩
      exact ⟨by simp [opnI],hb⟩
    · refine (opnS_42 qg ng cg qa na ca qh nh ch qf nf cf hn hF j hj a).mono ?_
      rintro e w' ⟨rfl,hb⟩
      exact ⟨by simp [opnI],hb⟩
    · refine (opnS_43 qg ng cg qa na ca qh nh ch qf nf cf hn hF j hj a).mono ?_
      rintro e w' ⟨rfl,hb⟩
      exact ⟨by simp [opnI,hg],hb⟩
    · refine (opnS_44 qg ng cg qa na ca qh nh ch qf nf cf hn hF j hj a).mono ?_
      rintro e w' ⟨rfl,hb⟩
      exact ⟨by simp [opnI,hg],hb⟩
    · refine (opnS_45 qg ng cg qa na ca qh nh ch qf nf cf hn hF j hj a).mono ?_
      rintro e w' ⟨rfl,hb⟩
      exact ⟨by simp [opnI,hn],hb⟩
    · refine (opnS_46 qg ng cg qa na ca qh nh ch qf nf cf hn hF j hj a).mono ?_
      rintro e w' ⟨rfl,hb⟩
      exact ⟨by simp [opnI],hb⟩
    · refine (opnS_47 qg ng cg qa na ca qh nh ch qf nf cf hn hF j hj a).mono ?_
      rintro e w' ⟨rfl,hb⟩
      exact ⟨by simp [opnI],hb⟩
  · have hz:opnI ng na nh fs j op a=decide (a=0):=by
      rw [opnI,if_neg (by omega),if_neg (by omega),if_neg (by omega),if_neg (by omega),if_neg (by omega),if_neg (by omega),if_neg (by omega)]
    rw [hz]
    exact opnS_ar qg ng cg qa na ca qh nh ch qf nf cf hn hF j hj a op h3
set_option maxRecDepth 100000 in
set_option maxHeartbeats 1000000 in
theorem Instr_s {fs:List FnM} (hn:fs.length=nf) {w:World} (hF:FnS (wC w) qf fs) (f op a:Int):Calls Try.prog 11 #[moV qg ng cg qa na ca qh nh ch qf nf cf,.int .i64 f,inV op a] w fun e w'=>e=.returned (.int .i64 (insI ng na nh fs f op a))∧Below w.heap.size w w':=by
  have HF:=Lib.hid (fun w' (hb:Below w.heap.size w w')=>(hF.le (below_cle hb):FnS (wC w') qf fs))
  have HN:=Lib.hid hn
  clear hF
  unfold insI
  rw [hn]
  clear hn
  by_cases hk:fnI nf f=false
  · rw [if_pos hk]
    go_enter Try.func11,Try.ntmps11
    go_wp2_with fail
    refine (isFn_any _ _ _ _ _ _ _ _ _ _ _ _ _ _).mono ?_
    rintro e w1 ⟨rfl,hb⟩
    have HX:=Lib.hid ((BxI.new w (.slice qg ng cg) (.slice qa na ca) (.slice qh nh ch) (.slice qf nf cf) op a).le hb)
    clear hb
    rw [hk]
    go_wp2_with fail
    go_ret
    exact ⟨rfl,HX.out.bl⟩
  · rw [if_neg hk]
    have hk1:fnI nf f=true:=by simpa using hk
    clear hk
    obtain ⟨j,rfl⟩:∃ j:Nat,f=(j:Int):=⟨f.toNat,by have:=of_decide_eq_true hk1;omega⟩
    have HJ:=Lib.hid (show j<nf from by have:=of_decide_eq_true hk1;omega)
    by_cases hk:knI op=false
    · rw [if_pos hk]
      go_enter Try.func11,Try.ntmps11
      go_wp2_with fail
      refine (isFn_any _ _ _ _ _ _ _ _ _ _ _ _ _ _).mono ?_
      rintro e w1 ⟨rfl,hb⟩
      have HX:=Lib.hid ((BxI.new w (.slice qg ng cg) (.slice qa na ca) (.slice qh nh ch) (.slice qf nf cf) op a).le hb)
      clear hb
      rw [hk1]
      have i0:=HX.out.i.cell (j:=0) rfl
      go_wp2_with fail
      refine (isKnown_any _ _).mono ?_
      rintro e w2 ⟨rfl,rfl⟩
      rw [hk]
      go_wp2_with fail
      go_ret
      exact ⟨rfl,HX.out.bl⟩
    · rw [if_neg hk]
      replace hk:knI op=true:=by simpa using hk
      by_cases ho:opnI ng na nh fs j op a=false
      · rw [if_pos ho]
        go_enter Try.func11,Try.ntmps11
        go_wp2_with fail
        refine (isFn_any _ _ _ _ _ _ _ _ _ _ _ _ _ _).mono ?_
        rintro e w1 ⟨rfl,hb⟩
        have HX:=Lib.hid ((BxI.new w (.slice qg ng cg) (.slice qa na ca) (.slice qh nh ch) (.slice qf nf cf) op a).le hb)
        clear hb
        rw [hk1]
        have i0:=HX.out.i.cell (j:=0) rfl
        go_wp2_with fail
        refine (isKnown_any _ _).mono ?_
        rintro e w2 ⟨rfl,rfl⟩
        rw [hk]
        have m0:=HX.out.m.cell (j:=0) rfl
        have m1:=HX.out.m.cell (j:=1) rfl
        have m2:=HX.out.m.cell (j:=2) rfl
        have m3:=HX.out.m.cell (j:=3) rfl
        have i1:=HX.out.i.cell (j:=1) rfl
        go_wp2_with fail
        refine (mayOperand_s _ _ _ _ _ _ _ _ _ _ _ _ HN.out (HF.out _ HX.out.bl) j HJ.out a op).mono ?_
        rintro e w3 ⟨rfl,hb⟩
        have HB:=Lib.hid (bl_tr HX.out.bl hb)
        clear hb i0 i1 m0 m1 m2 m3
        rw [ho]
        go_wp2_with fail
        go_ret
        exact ⟨rfl,HB.out⟩
      · rw [if_neg ho]
        replace ho:opnI ng na nh fs j op a=true:=by simpa using ho
        go_enter Try.func11,Try.ntmps11
        go_wp2_with fail
        refine (isFn_any _ _ _ _ _ _ _ _ _ _ _ _ _ _).mono ?_
        rintro e w1 ⟨rfl,hb⟩
        have HX:=Lib.hid ((BxI.new w (.slice qg ng cg) (.slice qa na ca) (.slice qh nh ch) (.slice qf nf cf) op a).le hb)
        clear hb
        rw [hk1]
        have i0:=HX.out.i.cell (j:=0) rfl
        go_wp2_with fail
        refine (isKnown_any _ _).mono ?_
        rintro e w2 ⟨rfl,rfl⟩
        rw [hk]
        have m0:=HX.out.m.cell (j:=0) rfl
        have m1:=HX.out.m.cell (j:=1) rfl
        have m2:=HX.out.m.cell (j:=2) rfl
        have m3:=HX.out.m.cell (j:=3) rfl
        have i1:=HX.out.i.cell (j:=1) rfl
        go_wp2_with fail
        refine (mayOperand_s _ _ _ _ _ _ _ _ _ _ _ _ HN.out (HF.out _ HX.out.bl) j HJ.out a op).mono ?_
        rintro e w3 ⟨rfl,hb⟩
        have HB:=Lib.hid (bl_tr HX.out.bl hb)
        clear hb i0 i1 m0 m1 m2 m3
        rw [ho]
        go_wp2_with fail
        go_ret
        exact ⟨rfl,HB.out⟩
end
end Go.Proofs.Ythjkbfamkogoiaa
namespace Go.Proofs.Ythjkbfamkogoiaa
open Go Go.RowKit Go.Proofs.Mm Go.Sort
set_option maxRecDepth 100000 in
set_option maxHeartbeats 2000000 in
theorem ixOdd_s {w:World} {q:Option Addr} {c:Nat} (l:List (Int × Int)) (hl:l.length≤9223372036854775807) (ha:ArS (wC w) q l) :
    Calls Try.prog 29 #[.slice q l.length c,.func (.func 30) #[] #[]] w fun e w'=>e=.returned (.int .i64 (optI (fstB (oddI l) l.length)))∧Below w.heap.size w w':=by
  obtain ⟨n,hn⟩:∃ n,l.length=n:=⟨_,rfl⟩
  have HN:=Lib.hid hn
  have HA:=Lib.hid ha
  rw [hn] at hl ⊢
  clear ha hn
  go_enter Try.func29,Try.ntmps29
  go_wp2
  go_loopw [8] (fun i wr=>∃ k:Nat,k≤n∧i=.int .i64 k∧Hid (Below w.heap.size w wr)∧Hid (∀ j,j<k→oddI l j=false)) (fun i _=>n - (intOf i).toNat)
  case atStart=>exact ⟨0,Nat.zero_le _,rfl,Lib.hid (Below.refl _ _),Lib.hid (fun j hj=>absurd hj (by omega))⟩
  case round =>
    obtain ⟨k,hk,rfl,HB,HT⟩:=hrel
    by_cases hlt:k<n
    · have hk1:k<l.length:=by rw [HN.out];exact hlt
      obtain ⟨g,o,z1,rfl,a0,a1⟩:=HA.out k hk1
      have e0:=below_cle HB.out _ _ a0
      have e1:=below_cle HB.out _ _ a1
      unfold wC at e0 e1
      have HO:=Lib.hid (show oddI l k=decide (l[k].1<1 ∨ l[k].1 > 256) from by unfold oddI;rw [getA_at hk1])
      clear a0 a1
      generalize l[k].1=z0 at *
      clear hk1
      have hki:(k:Int)<(n:Int):=by omega
      by_cases hz:z0<1 ∨ z0 > 256
      · have HS:=Lib.hid (fst_some HT.out hlt (HO.out.trans (decide_eq_true hz)))
        have hd:=decide_eq_true hz
        clear hz
        go_wp2_with fail
        refine (isOdd_any z0 z1 wr).mono ?_
        rintro e w2 ⟨rfl,hbel⟩
        rw [hd]
        have HB3:=Lib.hid (bl_tr HB.out hbel)
        clear hbel e0 e1 hd
        go_wp2_with fail
        go_ret
        exact ⟨by rw [HS.out];rfl,HB3.out⟩
      · have HS:=Lib.hid (step_no HT.out (HO.out.trans (decide_eq_false hz)))
        have hd:=decide_eq_false hz
        clear hz
        go_wp2_with fail
        refine (isOdd_any z0 z1 wr).mono ?_
        rintro e w2 ⟨rfl,hbel⟩
        rw [hd]
        have HB3:=Lib.hid (bl_tr HB.out hbel)
        clear hbel e0 e1 hd
        go_wp2_with fail
        exact ⟨⟨k+1,by omega,by go_num,HB3,HS⟩,by simp [intOf];omega⟩
    · have HS:=Lib.hid (fst_none (n:=n) (fun j hj=>HT.out j (by omega)))
      go_wp2
      go_ret
      exact ⟨by rw [HS.out];rfl,HB.out⟩
section
variable (qg:Option Addr) (ng cg:Nat) (qa:Option Addr) (na ca:Nat) (qh:Option Addr) (nh ch:Nat) (qf:Option Addr) (nf cf:Nat)
set_option maxRecDepth 100000 in
set_option maxHeartbeats 2000000 in
theorem tables_s {w:World} (arrs:List (Int × Int)) (hl:arrs.length=na) (hm:na≤140737488351232) (ha:ArS (wC w) qa arrs) :
    Calls Try.prog 19 #[moV qg ng cg qa na ca qh nh ch qf nf cf] w fun e w'=>e=.returned (.tuple #[.int .i64 (tabI ng na nh nf arrs).1,.int .i64 (tabI ng na nh nf arrs).2])∧Below w.heap.size w w':=by
  by_cases h1:(ng:Int) > 32
  · rw [show tabI ng na nh nf arrs=(0,74) from if_pos (by omega)]
    clear ha hl
    go_enter Try.func19,Try.ntmps19
    go_wp2
    go_ret2
    exact ⟨rfl,bl_al (Below.refl _ w) _⟩
  by_cases h2:(na:Int) > 16
  · rw [show tabI ng na nh nf arrs=(0,74) from if_pos (by omega)]
    clear ha hl
    go_enter Try.func19,Try.ntmps19
    go_wp2
    go_ret2
    exact ⟨rfl,bl_al (Below.refl _ w) _⟩
  by_cases h3:(nh:Int) > 16
  · rw [show tabI ng na nh nf arrs=(0,74) from if_pos (by omega)]
    clear ha hl
    go_enter Try.func19,Try.ntmps19
    go_wp2
    go_ret2
    exact ⟨rfl,bl_al (Below.refl _ w) _⟩
  by_cases h4:(nf:Int) > 32
  · rw [show tabI ng na nh nf arrs=(0,74) from if_pos (by omega)]
    clear ha hl
    go_enter Try.func19,Try.ntmps19
    go_wp2
    go_ret2
    exact ⟨rfl,bl_al (Below.refl _ w) _⟩
  have e:tabI ng na nh nf arrs=match fstB (oddI arrs) na with | some k=>((k:Int),(130:Int)) | none=>(0,0):=if_neg (by omega)
  rw [e]
  clear e
  have HC:=Lib.hid (fun W (hb:Below w.heap.size w W)=>hl ▸ ixOdd_s (c:=ca) arrs (by omega) (ha.le (below_cle hb)))
  clear ha
  cases hr:fstB (oddI arrs) na with
  | none =>
    have HR:=Lib.hid (show optI (fstB (oddI arrs) na)=-1 by rw [hr];rfl)
    clear hr hl hm
    go_enter Try.func19,Try.ntmps19
    go_wp2_with fail
    refine (HC.out _ (bl_al (Below.refl _ w) _)).mono ?_
    rintro e w1 ⟨rfl,hb⟩
    rw [HR.out]
    have HB:=Lib.hid (bl_tr (bl_al (Below.refl _ w) _) hb)
    clear hb
    go_wp2_with fail
    go_ret2
    exact ⟨rfl,HB.out⟩
  | some k =>
    have HR:=Lib.hid (show optI (fstB (oddI arrs) na)=k by rw [hr];rfl)
    have hk:(k:Int) ≥ 0:=by omega
    clear hr hl hm
    go_enter Try.func19,Try.ntmps19
    go_wp2_with fail
    refine (HC.out _ (bl_al (Below.refl _ w) _)).mono ?_
    rintro e w1 ⟨rfl,hb⟩
    rw [HR.out]
    have HB:=Lib.hid (bl_tr (bl_al (Below.refl _ w) _) hb)
    clear hb
    go_wp2_with fail
    go_ret2
    exact ⟨rfl,HB.out⟩
set_option maxRecDepth 100000 in
set_option maxHeartbeats 4000000 in
theorem function_s {fs:List FnM} (hn:fs.length=nf) {w:World} (hF:FnS (wC w) qf fs) (j:Nat) (hj:j<nf) :
    Calls Try.prog 20 #[moV qg ng cg qa na ca qh nh ch qf nf cf,.int .i64 j] w fun e w'=>e=.returned (.tuple #[.int .i64 (fnE ng na nh fs j).1,.int .i64 (fnE ng na nh fs j).2])∧Below w.heap.size w w':=by
  have HI:=Lib.hid (fun W (hb:Below w.heap.size w W) op a=>Instr_s qg ng cg qa na ca qh nh ch qf nf cf hn (w:=W) (hF.le (below_cle hb)) j op a)
  have hj':j<fs.length:=by omega
  have hjn:(j:Int)<(nf:Int):=by omega
  obtain ⟨g,o,qp,cp,qr,cr,qc,cc,rfl,⟨lv,hK⟩,hcd,_,_,hm⟩:=fn_atS hF hj'
  have HCD:=Lib.hid hcd
  clear hcd
  unfold fnE
  rw [getA_at hj']
  obtain ⟨s,hs⟩:∃ s,sizI fs[j].params.length fs[j].results.length fs[j].locals fs[j].stack fs[j].code.length=s:=⟨_,rfl⟩
  rw [hs]
  have h0:s=0→0<fs[j].code.length:=fun e=>by
    rw [e] at hs
    unfold sizI at hs
    split at hs
    · omega
    · split at hs
      · omega
      · split at hs <;> omega
  obtain ⟨code,hcode⟩:∃ code,fs[j].code=code:=⟨_,rfl⟩
  rw [hcode] at hK HCD hs hm h0 ⊢
  clear hcode
  generalize fs[j].params.length=np at *
  generalize fs[j].results.length=nr at *
  obtain ⟨nc,hnc⟩:∃ nc,code.length=nc:=⟨_,rfl⟩
  have HNC:=Lib.hid hnc
  rw [hnc] at hK hs h0 hm ⊢
  clear hnc
  generalize fs[j].locals=lo at *
  generalize fs[j].stack=st at *
  obtain ⟨a0,a1,a2,a3,a4,a5⟩:=hK.le (bl_al (Below.refl _ w) (.cells #[.slice qg ng cg,.slice qa na ca,.slice qh nh ch,.slice (some ⟨g,o,none⟩) nf cf] 26))
  have HS:=Lib.hid hs
  have HZ:=Lib.hid h0
  have HM:=Lib.hid hm
  clear hF hn hj hj' hK hs h0 hm
  by_cases hz:s=0
  · subst hz
    rw [if_neg (by simp)]
    obtain ⟨r1,hr1⟩:∃ r,(codE ng na nh fs j nc code).1=r:=⟨_,rfl⟩
    obtain ⟨r2,hr2⟩:∃ r,(codE ng na nh fs j nc code).2=r:=⟨_,rfl⟩
    rw [hr1,hr2]
    have HR:=Lib.hid (And.intro hr1 hr2)
    clear hr1 hr2
    go_enter Try.func20,Try.ntmps20
    go_wp2_with fail
    go_step3
    go_upto_region 1 with (fail)
    have HX0:=Lib.hid (InB.new w #[.slice qg ng cg,.slice qa na ca,.slice qh nh ch,.slice (some ⟨g,o,none⟩) nf cf] 26)
    have HB0:=Lib.hid (bl_al (Below.refl _ w) (.cells #[.slice qg ng cg,.slice qa na ca,.slice qh nh ch,.slice (some ⟨g,o,none⟩) nf cf] 26))
    generalize w.alloc (.cells #[.slice qg ng cg,.slice qa na ca,.slice qh nh ch,.slice (some ⟨g,o,none⟩) nf cf] 26)=W0 at *
    have m3:W0.cell? ⟨w.heap.size,3,none⟩=some (.slice (some ⟨g,o,none⟩) nf cf):=HX0.out.cell rfl
    go_wp2_with fail
    have HX:=Lib.hid (BxF.new' HB0.out HX0.out lv qp np cp qr nr cr lo st qc nc cc)
    generalize W0.alloc (.cells #[.int .u64 lv,.slice qp np cp,.slice qr nr cr,.int .i64 lo,.int .i64 st,.slice qc nc cc] 45)=W1 at *
    clear m3 HX0 HB0
    clear a0 a1 a2 a3 a4 a5
    refine (sizes_any _ _ _ _ _ _ _ _ _ _ _ _ _).mono ?_
    rintro e w1 ⟨rfl,hb⟩
    rw [HS.out]
    have HX1:=Lib.hid (HX.out.le hb)
    clear hb HX
    have f5:w1.cell? ⟨W0.heap.size,5,none⟩=some (.slice qc nc cc):=HX1.out.f.cell rfl
    go_wp2_with fail
    go_step3
    go_wp2_with fail
    go_loopw [8,9,24] (fun at9 er i wr=>∃ (k:Nat) (z:Int),k≤nc∧i=.int .i64 k∧er=.int .i64 0∧at9=.int .i64 z∧Hid ((k=0∧z=0) ∨ z+1=k)∧Hid (Below w1.heap.size w1 wr)∧Hid (∀ a,a<k→decide (insE ng na nh fs j nc code a ≠ 0)=false)) (fun _ _ i _=>nc - (intOf i).toNat)
    case atStart=>exact ⟨0,0,Nat.zero_le _,rfl,rfl,rfl,Lib.hid (.inl ⟨rfl,rfl⟩),Lib.hid (Below.refl _ _),Lib.hid (fun a h=>absurd h (by omega))⟩
    case round =>
      obtain ⟨k,z,hk,rfl,rfl,rfl,HZZ,HB,HT⟩:=hrel
      by_cases hlt:k<nc
      · have hk1:k<code.length:=by rw [HNC.out];exact hlt
        have HX2:=Lib.hid (HX1.out.le HB.out)
        obtain ⟨g2,o2,av,rfl,a0,a1,hav⟩:=HCD.out k hk1
        have c0:=below_cle HX2.out.bl _ _ a0
        have c1:=below_cle HX2.out.bl _ _ a1
        unfold wC at c0 c1
        have HE:=Lib.hid (show insE ng na nh fs j nc code k=if insI ng na nh fs j code[k].1 code[k].2 ≠ 0 then insI ng na nh fs j code[k].1 code[k].2 else if k+1=nc∧code[k].1 ≠ 43∧code[k].1 ≠ 46 then 131 else 0 from by unfold insE;rw [getA_at hk1])
        rw [← ins_const ng na nh fs (j:Int) hav] at HE
        clear a0 a1 f5 hav
        generalize code[k].1=op at *
        clear hk1
        have hki:(k:Int)<(nc:Int):=by omega
        have f5:wr.cell? ⟨W0.heap.size,5,none⟩=some (.slice (some ⟨g2,o2,none⟩) nc cc):=HX2.out.f.cell rfl
        go_upto_region 10 with (fail)
        have HX3:=Lib.hid (HX2.out.le (bl_al (Below.refl _ wr) (.cells #[.int .i64 op,.int .i64 av] 35)))
        have HI3:=Lib.hid (InB.new wr #[.int .i64 op,.int .i64 av] 35)
        have HB3:=Lib.hid (bl_tr HB.out (bl_al (Below.refl _ wr) (.cells #[.int .i64 op,.int .i64 av] 35)))
        generalize wr.alloc (.cells #[.int .i64 op,.int .i64 av] 35)=W3 at *
        obtain ⟨bi,hbi⟩:∃ bi,wr.heap.size=bi:=⟨_,rfl⟩
        rw [hbi] at HI3 ⊢
        clear hbi c0 c1 f5
        have m0:W3.cell? ⟨w.heap.size,0,none⟩=some (.slice qg ng cg):=HX3.out.m.cell rfl
        have m1:W3.cell? ⟨w.heap.size,1,none⟩=some (.slice qa na ca):=HX3.out.m.cell rfl
        have m2:W3.cell? ⟨w.heap.size,2,none⟩=some (.slice qh nh ch):=HX3.out.m.cell rfl
        have m3:W3.cell? ⟨w.heap.size,3,none⟩=some (.slice (some ⟨g,o,none⟩) nf cf):=HX3.out.m.cell rfl
        have i0:W3.cell? ⟨bi,0,none⟩=some (.int .i64 op):=HI3.out.cell rfl
        have i1:W3.cell? ⟨bi,1,none⟩=some (.int .i64 av):=HI3.out.cell rfl
        obtain ⟨ev,hev⟩:∃ ev,insI ng na nh fs j op av=ev:=⟨_,rfl⟩
        have HC:=Lib.hid (HI.out _ HX3.out.bl op av)
        rw [hev] at HC HE
        clear hev
        by_cases hz:ev=0
        · subst hz
          rw [if_neg (by simp)] at HE
          have hne:((0:Int) != 0)=false:=by decide
          by_cases hL:k+1=nc
          · have hl:((k:Int) == (nc:Int) - 1)=true:=by simp;omega
            have hw:wrap64 ((nc:Int) - 1)=(nc:Int) - 1:=by have:=HM.out;unfold wrap64;omega
            by_cases hG:op ≠ 43∧op ≠ 46
            · have hg:=decide_eq_true hG
              have HD:=Lib.hid (codE_hit HT.out hlt (ev:=131) (by rw [HE.out,if_pos ⟨hL,hG⟩]) (by decide))
              clear hG hL hlt hki
              go_wp2_with fail
              refine HC.out.mono ?_
              rintro e w4 ⟨rfl,hb⟩
              have HX4:=Lib.hid (HX3.out.le hb)
              have i0:w4.cell? ⟨bi,0,none⟩=some (.int .i64 op):=(HI3.out.le hb).cell rfl
              have i1:w4.cell? ⟨bi,1,none⟩=some (.int .i64 av):=(HI3.out.le hb).cell rfl
              have f5:w4.cell? ⟨W0.heap.size,5,none⟩=some (.slice (some ⟨g2,o2,none⟩) nc cc):=HX4.out.f.cell rfl
              have HB4:=Lib.hid (bl_tr HB3.out hb)
              clear hb m0 m1 m2 m3
              go_wp2_with fail
              refine (goesOn_any op av w4).mono ?_
              rintro e w5 ⟨rfl,hb⟩
              rw [hg]
              have HX5:=Lib.hid (HX4.out.le hb)
              have HB5:=Lib.hid (bl_tr HB4.out hb)
              clear hb i0 i1 f5
              go_wp2_with fail
              rw [Exit.noGoto_ret]
              go_ret2
              obtain ⟨u1,u2⟩:=HR.out
              rw [HD.out] at u1 u2
              subst u1 u2
              exact ⟨rfl,HX5.out.bl⟩
            · have hg:=decide_eq_false hG
              have HN:=Lib.hid (step_no HT.out (show decide (insE ng na nh fs j nc code k ≠ 0)=false from by rw [HE.out,if_neg (fun h=>hG h.2)];rfl))
              clear hG hL
              go_wp2_with fail
              refine HC.out.mono ?_
              rintro e w4 ⟨rfl,hb⟩
              have HX4:=Lib.hid (HX3.out.le hb)
              have i0:w4.cell? ⟨bi,0,none⟩=some (.int .i64 op):=(HI3.out.le hb).cell rfl
              have i1:w4.cell? ⟨bi,1,none⟩=some (.int .i64 av):=(HI3.out.le hb).cell rfl
              have f5:w4.cell? ⟨W0.heap.size,5,none⟩=some (.slice (some ⟨g2,o2,none⟩) nc cc):=HX4.out.f.cell rfl
              have HB4:=Lib.hid (bl_tr HB3.out hb)
              clear hb m0 m1 m2 m3
              have hmm:=HM.out
              go_wp2_with fail
              refine (goesOn_any op av w4).mono ?_
              rintro e w5 ⟨rfl,hb⟩
              rw [hg]
              have HX5:=Lib.hid (HX4.out.le hb)
              have HB5:=Lib.hid (bl_tr HB4.out hb)
              clear hb i0 i1 f5
              go_wp2_with fail
              clear hw hl
              exact ⟨⟨k+1,k,by omega,by go_num,rfl,rfl,Lib.hid (.inr (by omega)),HB5,HN⟩,by simp [intOf];omega⟩
          · have hl:((k:Int) == (nc:Int) - 1)=false:=eqb (by omega)
            have hw:wrap64 ((nc:Int) - 1)=(nc:Int) - 1:=by have:=HM.out;unfold wrap64;omega
            have HN:=Lib.hid (step_no HT.out (show decide (insE ng na nh fs j nc code k ≠ 0)=false from by rw [HE.out,if_neg (fun h=>hL h.1)];rfl))
            clear hL
            go_wp2_with fail
            refine HC.out.mono ?_
            rintro e w4 ⟨rfl,hb⟩
            have HX4:=Lib.hid (HX3.out.le hb)
            have i0:w4.cell? ⟨bi,0,none⟩=some (.int .i64 op):=(HI3.out.le hb).cell rfl
            have i1:w4.cell? ⟨bi,1,none⟩=some (.int .i64 av):=(HI3.out.le hb).cell rfl
            have f5:w4.cell? ⟨W0.heap.size,5,none⟩=some (.slice (some ⟨g2,o2,none⟩) nc cc):=HX4.out.f.cell rfl
            have HB4:=Lib.hid (bl_tr HB3.out hb)
            clear hb m0 m1 m2 m3
            have hmm:=HM.out
            go_wp2_with fail
            clear hw hl
            exact ⟨⟨k+1,k,by omega,by go_num,rfl,rfl,Lib.hid (.inr (by omega)),HB4,HN⟩,by simp [intOf];omega⟩
        · have hne:(ev != 0)=true:=by simpa using hz
          have HD:=Lib.hid (codE_hit HT.out hlt (by rw [HE.out,if_pos hz]) hz)
          clear hz
          go_wp2_with fail
          refine HC.out.mono ?_
          rintro e w4 ⟨rfl,hb⟩
          have HX4:=Lib.hid (HX3.out.le hb)
          clear hb m0 m1 m2 m3 i0 i1
          go_wp2_with fail
          rw [Exit.noGoto_ret]
          go_ret2
          obtain ⟨u1,u2⟩:=HR.out
          rw [HD.out] at u1 u2
          subst u1 u2
          exact ⟨rfl,HX4.out.bl⟩
      · obtain rfl:k=nc:=by omega
        have HD:=Lib.hid (codE_no HT.out)
        have HX4:=Lib.hid (HX1.out.le HB.out)
        have HZ2:=Lib.hid (show z=(k:Int) - 1 from by have:=HZ.out trivial;rcases HZZ.out with ⟨h,_⟩ | h <;> omega)
        clear hlt hk
        go_wp2_with fail
        rw [Exit.noGoto_ret]
        go_ret2
        obtain ⟨u1,u2⟩:=HR.out
        rw [HD.out] at u1 u2
        subst u1 u2
        exact ⟨by rw [HZ2.out];rfl,HX4.out.bl⟩
  · have hne:(s != 0)=true:=by simpa using hz
    rw [if_pos hz]
    clear hz HZ
    go_enter Try.func20,Try.ntmps20
    go_wp2_with fail
    go_step3
    go_upto_region 1 with (fail)
    have HX0:=Lib.hid (InB.new w #[.slice qg ng cg,.slice qa na ca,.slice qh nh ch,.slice (some ⟨g,o,none⟩) nf cf] 26)
    have HB0:=Lib.hid (bl_al (Below.refl _ w) (.cells #[.slice qg ng cg,.slice qa na ca,.slice qh nh ch,.slice (some ⟨g,o,none⟩) nf cf] 26))
    generalize w.alloc (.cells #[.slice qg ng cg,.slice qa na ca,.slice qh nh ch,.slice (some ⟨g,o,none⟩) nf cf] 26)=W0 at *
    have m3:W0.cell? ⟨w.heap.size,3,none⟩=some (.slice (some ⟨g,o,none⟩) nf cf):=HX0.out.cell rfl
    go_wp2_with fail
    have HX:=Lib.hid (BxF.new' HB0.out HX0.out lv qp np cp qr nr cr lo st qc nc cc)
    generalize W0.alloc (.cells #[.int .u64 lv,.slice qp np cp,.slice qr nr cr,.int .i64 lo,.int .i64 st,.slice qc nc cc] 45)=W1 at *
    clear m3 HX0 HB0 a0 a1 a2 a3 a4 a5
    refine (sizes_any _ _ _ _ _ _ _ _ _ _ _ _ _).mono ?_
    rintro e w1 ⟨rfl,hb⟩
    rw [HS.out]
    have HX1:=Lib.hid (HX.out.le hb)
    clear hb HX
    go_wp2_with fail
    rw [Exit.noGoto_ret]
    go_ret2
    exact ⟨rfl,HX1.out.bl⟩
set_option maxRecDepth 100000 in
set_option maxHeartbeats 4000000 in
theorem Check_s {fs:List FnM} {arrs:List (Int × Int)} (hn:fs.length=nf) (hna:arrs.length=na) (hm:na≤140737488351232) (hmf:nf≤140737488351232) {w:World} (hF:FnS (wC w) qf fs) (hA:ArS (wC w) qa arrs) :
    Calls Try.prog 8 #[moV qg ng cg qa na ca qh nh ch qf nf cf] w fun e w'=>e=.returned (.agg (faA (chkE ng na nh arrs fs)))∧Below w.heap.size w w':=by
  have HT:=Lib.hid (fun W (hb:Below w.heap.size w W)=>tables_s qg ng cg qa na ca qh nh ch qf nf cf (w:=W) arrs hna hm (hA.le (below_cle hb)))
  have HF:=Lib.hid (fun W (hb:Below w.heap.size w W) j hj=>function_s qg ng cg qa na ca qh nh ch qf nf cf hn (w:=W) (hF.le (below_cle hb)) j hj)
  have HN:=Lib.hid hn
  obtain ⟨R,hR⟩:∃ R,chkE ng na nh arrs fs=R:=⟨_,rfl⟩
  have HR:=Lib.hid hR
  rw [hR]
  clear hF hA hR hna hm hn
  obtain ⟨b,hb⟩:∃ b,w.heap.size=b:=⟨_,rfl⟩
  obtain ⟨ta,te,htt⟩:∃ ta te,tabI ng na nh nf arrs=(ta,te):=⟨_,_,rfl⟩
  have HTT:=Lib.hid (show tabI ng na nh fs.length arrs=(ta,te) by rw [HN.out];exact htt)
  rw [htt] at HT
  clear htt
  go_enter Try.func8,Try.ntmps8
  go_wp2_with fail
  have hbA:Below w.heap.size w ((w.alloc (.cells #[.slice qg ng cg,.slice qa na ca,.slice qh nh ch,.slice qf nf cf] 26)).alloc (.cells #[.int .i64 0,.int .i64 0,.int .i64 0] 30)):=bl_al (bl_al (Below.refl _ w) _) _
  have j0:InB ((w.alloc (.cells #[.slice qg ng cg,.slice qa na ca,.slice qh nh ch,.slice qf nf cf] 26)).alloc (.cells #[.int .i64 0,.int .i64 0,.int .i64 0] 30)) b #[.slice qg ng cg,.slice qa na ca,.slice qh nh ch,.slice qf nf cf] 26:=hb ▸ (InB.new _ _ _).le (bl_al (Below.refl _ _) _)
  have j1:InB ((w.alloc (.cells #[.slice qg ng cg,.slice qa na ca,.slice qh nh ch,.slice qf nf cf] 26)).alloc (.cells #[.int .i64 0,.int .i64 0,.int .i64 0] 30)) (b+1) #[.int .i64 0,.int .i64 0,.int .i64 0] 30:=InB.new' _ _ (by simp [hb])
  generalize (w.alloc (.cells #[.slice qg ng cg,.slice qa na ca,.slice qh nh ch,.slice qf nf cf] 26)).alloc (.cells #[.int .i64 0,.int .i64 0,.int .i64 0] 30)=w0 at *
  try rw [hb]
  have HBB:=Lib.hid hb
  have HBA:=Lib.hid hbA
  have HJ0:=Lib.hid j0
  have HJ1:=Lib.hid j1
  clear hbA j0 j1
  go_at_call 19
  refine (HT.out _ HBA.out).mono ?_
  rintro e w1 ⟨rfl,hb1⟩
  have HB1:=Lib.hid hb1
  clear hb1 HT
  by_cases hte:te=0
  · subst hte
    have k3:w1.cell? ⟨b,3,none⟩=some (.slice qf nf cf):=(HJ0.out.le HB1.out).cell rfl
    have hne:((0:Int) != 0)=false:=by decide
    go_wp2_with fail
    clear k3
    go_loopw [21] (fun i wr=>∃ k:Nat,k≤nf∧i=.int .i64 k∧Hid (Below w0.heap.size w0 wr)∧Hid (∀ j,j<k→decide ((fnE ng na nh fs j).2 ≠ 0)=false)) (fun i _=>nf - (intOf i).toNat)
    case atStart=>exact ⟨0,Nat.zero_le _,rfl,HB1,Lib.hid (fun j h=>absurd h (by omega))⟩
    case round =>
      obtain ⟨k,hk,rfl,HB,HTT2⟩:=hrel
      have HY:=Lib.hid (HJ1.out.le HB.out)
      by_cases hlt:k<nf
      · have HC:=Lib.hid (HF.out wr (bl_tr HBA.out HB.out) k hlt)
        obtain ⟨fa,fe,hff⟩:∃ fa fe,fnE ng na nh fs k=(fa,fe):=⟨_,_,rfl⟩
        have HFF:=Lib.hid hff
        rw [hff] at HC
        clear hff
        have k0:wr.cell? ⟨b,0,none⟩=some (.slice qg ng cg):=(HJ0.out.le HB.out).cell rfl
        have k1:wr.cell? ⟨b,1,none⟩=some (.slice qa na ca):=(HJ0.out.le HB.out).cell rfl
        have k2:wr.cell? ⟨b,2,none⟩=some (.slice qh nh ch):=(HJ0.out.le HB.out).cell rfl
        have k3:wr.cell? ⟨b,3,none⟩=some (.slice qf nf cf):=(HJ0.out.le HB.out).cell rfl
        have hki:(k:Int)<(nf:Int):=by omega
        go_wp2_with fail
        refine HC.out.mono ?_
        rintro e w2 ⟨rfl,hb2⟩
        have HB2:=Lib.hid (bl_tr HB.out hb2)
        have HY:=Lib.hid (HY.out.le hb2)
        clear hb2 HC k0 k1 k2 k3
        by_cases hfe:fe=0
        · subst hfe
          have HS:=Lib.hid (step_no HTT2.out (show decide ((fnE ng na nh fs k).2 ≠ 0)=false from by rw [HFF.out];rfl))
          go_wp2_with fail
          exact ⟨⟨k+1,by omega,by go_num,HB2,HS⟩,by simp [intOf];omega⟩
        · have hne:(fe != 0)=true:=by simpa using hfe
          have HD:=Lib.hid (HR.out.symm.trans (chk_hit HTT.out HTT2.out (by rw [HN.out];exact hlt) HFF.out hfe))
          clear hfe hlt hki hk
          have r0:w2.cell? ⟨b+1,0,none⟩=some (.int .i64 0):=HY.out.cell rfl
          have r1:w2.cell? ⟨b+1,1,none⟩=some (.int .i64 0):=HY.out.cell rfl
          have r2:w2.cell? ⟨b+1,2,none⟩=some (.int .i64 0):=HY.out.cell rfl
          have g0:w2.frozen? ⟨b+1,0,none⟩=false:=free_of HY.out
          have g1:w2.frozen? ⟨b+1,1,none⟩=false:=free_of HY.out
          have g2:w2.frozen? ⟨b+1,2,none⟩=false:=free_of HY.out
          go_wp2
          have hW:=heap_set (heap_set (heap_set HY.out 0 (.int .i64 (fe))) 1 (.int .i64 ((k:Int)))) 2 (.int .i64 (fa))
          have hbs:=HBB.out
          have hWB:=(((bl_tr HBA.out HB2.out).setCell (p:=⟨b+1,0,none⟩) (by show w.heap.size≤b+1;omega) (.int .i64 (fe))).setCell (p:=⟨b+1,1,none⟩) (by show w.heap.size≤b+1;omega) (.int .i64 ((k:Int)))).setCell (p:=⟨b+1,2,none⟩) (by show w.heap.size≤b+1;omega) (.int .i64 (fa))
          generalize ((World.setCell _ _ _).setCell _ _).setCell _ _=wE at *
          have c0:=cell_of (j:=0) hW rfl
          have c1:=cell_of (j:=1) hW rfl
          have c2:=cell_of (j:=2) hW rfl
          exact bodyPost_ret (v:=.agg #[.int .i64 (fe),.int .i64 ((k:Int)),.int .i64 (fa)]) (by simp [results,Try.results8,go_sem,c0,c1,c2]) rfl ⟨by rw [HD.out];rfl,hWB⟩
      · have HD:=Lib.hid (HR.out.symm.trans (chk_none HTT.out (fun j hj=>HTT2.out j (by have:=HN.out;omega))))
        have r0:wr.cell? ⟨b+1,0,none⟩=some (.int .i64 0):=HY.out.cell rfl
        have r1:wr.cell? ⟨b+1,1,none⟩=some (.int .i64 0):=HY.out.cell rfl
        have r2:wr.cell? ⟨b+1,2,none⟩=some (.int .i64 0):=HY.out.cell rfl
        have g0:wr.frozen? ⟨b+1,0,none⟩=false:=free_of HY.out
        have g1:wr.frozen? ⟨b+1,1,none⟩=false:=free_of HY.out
        have g2:wr.frozen? ⟨b+1,2,none⟩=false:=free_of HY.out
        go_wp2
        have hW:=heap_set (heap_set (heap_set HY.out 0 (.int .i64 (0))) 1 (.int .i64 (0))) 2 (.int .i64 (0))
        have hbs:=HBB.out
        have hWB:=(((bl_tr HBA.out HB.out).setCell (p:=⟨b+1,0,none⟩) (by show w.heap.size≤b+1;omega) (.int .i64 (0))).setCell (p:=⟨b+1,1,none⟩) (by show w.heap.size≤b+1;omega) (.int .i64 (0))).setCell (p:=⟨b+1,2,none⟩) (by show w.heap.size≤b+1;omega) (.int .i64 (0))
        generalize ((World.setCell _ _ _).setCell _ _).setCell _ _=wE at *
        have c0:=cell_of (j:=0) hW rfl
        have c1:=cell_of (j:=1) hW rfl
        have c2:=cell_of (j:=2) hW rfl
        exact bodyPost_ret (v:=.agg #[.int .i64 (0),.int .i64 (0),.int .i64 (0)]) (by simp [results,Try.results8,go_sem,c0,c1,c2]) rfl ⟨by rw [HD.out];rfl,hWB⟩
  · have hne:(te != 0)=true:=by simpa using hte
    have HD:=Lib.hid (HR.out.symm.trans (chk_tab HTT.out hte))
    have HY:=Lib.hid (HJ1.out.le HB1.out)
    clear hte
    have r0:w1.cell? ⟨b+1,0,none⟩=some (.int .i64 0):=HY.out.cell rfl
    have r1:w1.cell? ⟨b+1,1,none⟩=some (.int .i64 0):=HY.out.cell rfl
    have r2:w1.cell? ⟨b+1,2,none⟩=some (.int .i64 0):=HY.out.cell rfl
    have g0:w1.frozen? ⟨b+1,0,none⟩=false:=free_of HY.out
    have g1:w1.frozen? ⟨b+1,1,none⟩=false:=free_of HY.out
    have g2:w1.frozen? ⟨b+1,2,none⟩=false:=free_of HY.out
    go_wp2
    have hW:=heap_set (heap_set (heap_set HY.out 0 (.int .i64 (te))) 1 (.int .i64 (-1))) 2 (.int .i64 (ta))
    have hbs:=HBB.out
    have hWB:=(((bl_tr HBA.out HB1.out).setCell (p:=⟨b+1,0,none⟩) (by show w.heap.size≤b+1;omega) (.int .i64 (te))).setCell (p:=⟨b+1,1,none⟩) (by show w.heap.size≤b+1;omega) (.int .i64 (-1))).setCell (p:=⟨b+1,2,none⟩) (by show w.heap.size≤b+1;omega) (.int .i64 (ta))
    generalize ((World.setCell _ _ _).setCell _ _).setCell _ _=wE at *
    have c0:=cell_of (j:=0) hW rfl
    have c1:=cell_of (j:=1) hW rfl
    have c2:=cell_of (j:=2) hW rfl
    exact bodyPost_ret (v:=.agg #[.int .i64 (te),.int .i64 (-1),.int .i64 (ta)]) (by simp [results,Try.results8,go_sem,c0,c1,c2]) rfl ⟨by rw [HD.out];rfl,hWB⟩
end
end Go.Proofs.Ythjkbfamkogoiaa
