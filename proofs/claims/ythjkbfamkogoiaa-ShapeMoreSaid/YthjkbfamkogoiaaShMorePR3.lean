/- Package shape's small calls, in every memory. How many locals: package shape's and the document's. Operands and instructions: package shape's and the document's. Operands: package shape's. Instr: package shape's and the document's. ShapeInstrs: the law's walk. What Check goes through: the first of a -/
import Derived.Test.YthjkbfamkogoiaaShMorePR2
import Derived.BigQuiet
import Derived.IntWalk
namespace Go.Proofs.Ythjkbfamkogoiaa
open Go Go.RowKit Go.Proofs.Mm Go.Sort
def fnI (nf:Nat) (f:Int):Bool:=decide (0≤f∧f<nf)
def knI (op:Int):Bool:=decide (1≤op∧op≤17) || decide (32≤op∧op≤47)
def locI (fs:List FnM) (f:Int):Int:=if 0≤f∧f<fs.length then (fs.getD f.toNat default).params.length+min (max (fs.getD f.toNat default).locals 0) 32 else 0
def blI (a n:Int):Bool:=decide (0≤a∧a<n)
def opnI (ng na nh:Nat) (fs:List FnM) (f op a:Int):Bool :=
  if op=32 then true else if op=33 ∨ op=34 then blI a (locI fs f) else if op=35 ∨ op=36 then blI a ng else if op=37 ∨ op=38 then blI a na
  else if op=43 ∨ op=44 then blI a (fs.getD f.toNat default).code.length else if op=45 then blI a fs.length else if op=47 then blI a nh else decide (a=0)
def insI (ng na nh:Nat) (fs:List FnM) (f op a:Int):Int:=if fnI fs.length f=false then 1 else if knI op=false then 100 else if opnI ng na nh fs f op a=false then 130 else 0
section
variable (qg:Option Addr) (ng cg:Nat) (qa:Option Addr) (na ca:Nat) (qh:Option Addr) (nh ch:Nat) (qf:Option Addr) (nf cf:Nat)
set_option maxRecDepth 100000 in
set_option maxHeartbeats 1000000 in
theorem isFn_any (f:Int) (w:World):Calls Try.prog 23 #[moV qg ng cg qa na ca qh nh ch qf nf cf,.int .i64 f] w fun e w'=>e=.returned (.bool (fnI nf f))∧Below w.heap.size w w':=by
  unfold fnI
  by_cases h0:0≤f
  · by_cases h1:f<(nf:Int)
    · go_enter Try.func23,Try.ntmps23
      go_wp2
      go_ret
      exact ⟨by simp [h0,h1],bl_al (Below.refl _ w) _⟩
    · go_enter Try.func23,Try.ntmps23
      go_wp2
      go_ret
      exact ⟨by simp [h1],bl_al (Below.refl _ w) _⟩
  · go_enter Try.func23,Try.ntmps23
    go_wp2
    go_ret
    exact ⟨by simp;omega,bl_al (Below.refl _ w) _⟩
set_option maxRecDepth 100000 in
set_option maxHeartbeats 1000000 in
theorem isKnown_any (op:Int) (w:World):Calls Try.prog 24 #[.int .i64 op] w fun e w'=>e=.returned (.bool (knI op))∧w'=w:=by
  unfold knI
  by_cases h0:1≤op <;> by_cases h1:op≤17 <;> by_cases h2:32≤op <;> by_cases h3:op≤47 <;> first
  | (exfalso;omega)
  | (go_enter Try.func24,Try.ntmps24
     go_wp2
     go_ret
     exact ⟨by simp [h0,h1,h2,h3],rfl⟩)
set_option maxRecDepth 100000 in
theorem below1_any (n a:Int) (b:Nat) (w:World) (h:w.cell? ⟨b,1,none⟩=some (.int .i64 a)):Calls Try.prog 35 #[.int .i64 n,.pointer (some ⟨b,0,none⟩)] w fun e w'=>e=.returned (.bool (blI a n))∧w'=w:=by
  unfold blI
  by_cases h0:0≤a <;> by_cases h1:a<n <;>
  (go_enter Try.func35,Try.ntmps35
   go_wp2
   go_ret
   exact ⟨by simp [h0,h1],rfl⟩)
set_option maxRecDepth 100000 in
set_option maxHeartbeats 1000000 in
theorem goesOn_any (op a:Int) (w:World):Calls Try.prog 32 #[inV op a] w fun e w'=>e=.returned (.bool (decide (op ≠ 43∧op ≠ 46)))∧Below w.heap.size w w':=by
  by_cases h0:op=43
  · subst h0
    go_enter Try.func32,Try.ntmps32
    go_wp2
    go_ret
    exact ⟨by simp,bl_al (Below.refl _ w) _⟩
  · have k0:(op == 43)=false:=by simpa using h0
    by_cases h1:op=46
    · subst h1
      go_enter Try.func32,Try.ntmps32
      go_wp2
      go_ret
      exact ⟨by simp,bl_al (Below.refl _ w) _⟩
    · have k1:(op == 46)=false:=by simpa using h1
      go_enter Try.func32,Try.ntmps32
      go_wp2
      go_ret
      exact ⟨by simp [h0,h1],bl_al (Below.refl _ w) _⟩
set_option maxRecDepth 100000 in
set_option maxHeartbeats 1000000 in
theorem isOdd_any (n l:Int) (w:World):Calls Try.prog 30 #[.agg #[.int .i64 n,.int .u64 l]] w fun e w'=>e=.returned (.bool (decide (n<1 ∨ n > 256)))∧Below w.heap.size w w':=by
  by_cases h0:n<1 <;> by_cases h1:n > 256 <;> first
  | (exfalso;omega)
  | (go_enter Try.func30,Try.ntmps30
     go_wp2
     go_ret
     exact ⟨by simp [h0,h1],bl_al (Below.refl _ w) _⟩)
end
end Go.Proofs.Ythjkbfamkogoiaa
namespace Go.Proofs.Ythjkbfamkogoiaa
open Go Go.RowKit Go.Proofs.Mm Go.Sort
theorem ret_w {x y:Int} (h:x=y) (hy:-9223372036854775808≤y∧y<9223372036854775808):Ending.returned (.int .i64 (wrap64 x))=Ending.returned (.int .i64 y):=by
  subst h
  rw [show wrap64 x=x from by unfold wrap64;omega]
theorem locI_yes {fs:List FnM} {j:Nat} (h:j<fs.length):locI fs (j:Int)=fs[j].params.length+min (max fs[j].locals 0) 32:=by
  have e:fs.getD (j:Int).toNat default=fs[j]:=by rw [Int.toNat_natCast,List.getD_eq_getElem?_getD,List.getElem?_eq_getElem h];rfl
  unfold locI
  rw [if_pos (by omega),e]
theorem locI_no {fs:List FnM} {f:Int} (h:¬ (0≤f∧f<fs.length)):locI fs f=0:=if_neg h
structure FnK (w:World) (g k:Nat) (lv:Int) (qp:Option Addr) (np cp:Nat) (qr:Option Addr) (nr cr:Nat) (lo st:Int) (qc:Option Addr) (nc cc:Nat):Prop where
  a0:w.cell? ⟨g,k,none⟩=some (.int .u64 lv)
  a1:w.cell? ⟨g,k+1,none⟩=some (.slice qp np cp)
  a2:w.cell? ⟨g,k+2,none⟩=some (.slice qr nr cr)
  a3:w.cell? ⟨g,k+3,none⟩=some (.int .i64 lo)
  a4:w.cell? ⟨g,k+4,none⟩=some (.int .i64 st)
  a5:w.cell? ⟨g,k+5,none⟩=some (.slice qc nc cc)
theorem FnK.le {w w':World} {g k:Nat} {lv:Int} {qp:Option Addr} {np cp:Nat} {qr:Option Addr} {nr cr:Nat} {lo st:Int} {qc:Option Addr} {nc cc:Nat} (h:FnK w g k lv qp np cp qr nr cr lo st qc nc cc) (hb:Below w.heap.size w w'):FnK w' g k lv qp np cp qr nr cr lo st qc nc cc :=
  ⟨cell_b h.a0 hb,cell_b h.a1 hb,cell_b h.a2 hb,cell_b h.a3 hb,cell_b h.a4 hb,cell_b h.a5 hb⟩
theorem fn_at {lt:Bool} {fs:List FnM} {w:World} {qf:Option Addr} (hF:FnAt lt (wC w) qf fs) {j:Nat} (hj:j<fs.length):∃ g o qp cp qr cr qc cc,qf=some ⟨g,o,none⟩ ∧
    FnK w g (o+j * 6) fs[j].level qp fs[j].params.length cp qr fs[j].results.length cr fs[j].locals fs[j].stack qc fs[j].code.length cc∧CdR lt (wC w) (.slice qc fs[j].code.length cc) fs[j].code∧fs[j].params.length≤140737488351232∧fs[j].results.length≤140737488351232∧fs[j].code.length≤140737488351232:=by
  obtain ⟨g,o,vp,vr,vc,rfl,⟨_,_,_,e,p1,p2,p3⟩,a0,a1,a2,a3,a4,a5⟩:=hF j hj
  injection e with e0 e
  injection e with e1 e
  injection e with e2 e
  injection e with e3 e
  injection e with e4 e
  injection e with e5 e
  subst e1 e2 e5
  have h1:=slx_bytes p1
  have h2:=slx_bytes p2
  have h3:=slx_bytes p3
  obtain ⟨qp,cp,rfl⟩:=slx_shape p1
  obtain ⟨qr,cr,rfl⟩:=slx_shape p2
  obtain ⟨qc,cc,rfl⟩:=slx_shape p3
  exact ⟨g,o,qp,cp,qr,cr,qc,cc,rfl,⟨a0,a1,a2,a3,a4,a5⟩,p3,by omega,by omega,by omega⟩
theorem FnAt.le {lt:Bool} {fs:List FnM} {C D:Cl} {q:Option Addr} (h:FnAt lt C q fs) (hc:CLe C D):FnAt lt D q fs:=fun j hj=>by
  obtain ⟨g,o,vp,vr,vc,e,h0,a0,a1,a2,a3,a4,a5⟩:=h j hj
  exact ⟨g,o,vp,vr,vc,e,h0.le hc,hc _ _ a0,hc _ _ a1,hc _ _ a2,hc _ _ a3,hc _ _ a4,hc _ _ a5⟩
section
variable (qg:Option Addr) (ng cg:Nat) (qa:Option Addr) (na ca:Nat) (qh:Option Addr) (nh ch:Nat) (qf:Option Addr) (nf cf:Nat)
set_option maxRecDepth 100000 in
set_option maxHeartbeats 1000000 in
theorem Locals_any {lt:Bool} {fs:List FnM} (hn:fs.length=nf) {w:World} (hF:FnAt lt (wC w) qf fs) (f:Int):Calls Try.prog 13 #[moV qg ng cg qa na ca qh nh ch qf nf cf,.int .i64 f] w fun e w'=>e=.returned (.int .i64 (locI fs f))∧Below w.heap.size w w':=by
  by_cases h:0≤f∧f<(nf:Int)
  · obtain ⟨j,rfl⟩:∃ j:Nat,f=(j:Int):=⟨f.toNat,by omega⟩
    have hj:j<fs.length:=by omega
    have hjn:(j:Int)<(nf:Int):=h.2
    have hk:fnI nf (j:Int)=true:=decide_eq_true h
    obtain ⟨g,o,qp,cp,qr,cr,qc,cc,rfl,hK,hcd,m1,_,_⟩:=fn_at hF hj
    clear hcd
    rw [locI_yes hj]
    generalize fs[j].params.length=np at *
    generalize fs[j].results.length=nr at *
    generalize fs[j].code.length=nc at *
    generalize fs[j].locals=lo at *
    generalize fs[j].level=lv at *
    generalize fs[j].stack=st at *
    have HM:=Lib.hid m1
    clear hF hn hj h m1
    go_enter Try.func13,Try.ntmps13
    go_wp2_with fail
    refine (isFn_any _ _ _ _ _ _ _ _ _ _ _ _ _ _).mono ?_
    rintro e w1 ⟨rfl,hb⟩
    have hB:=(bl_al (Below.refl _ w) (.cells #[.slice qg ng cg,.slice qa na ca,.slice qh nh ch,.slice (some ⟨g,o,none⟩) nf cf] 26)).trans (hb.mono (by simp))
    obtain ⟨a0,a1,a2,a3,a4,a5⟩:=hK.le hB
    have c3:w1.cell? ⟨w.heap.size,3,none⟩=some (.slice (some ⟨g,o,none⟩) nf cf):=cell_b ((InB.new w _ 26).cell rfl) hb
    have HB:=Lib.hid hB
    clear hb hB
    rw [hk]
    go_wp2_with fail
    go_ret
    exact ⟨ret_w rfl (by have:=HM.out;omega),bl_al HB.out _⟩
  · have hk:fnI nf f=false:=decide_eq_false h
    rw [locI_no (by rw [hn];exact h)]
    clear hF h
    go_enter Try.func13,Try.ntmps13
    go_wp2_with fail
    refine (isFn_any _ _ _ _ _ _ _ _ _ _ _ _ _ _).mono ?_
    rintro e w1 ⟨rfl,hb⟩
    rw [hk]
    go_wp2_with fail
    go_ret
    exact ⟨rfl,(bl_al (Below.refl _ w) _).trans (hb.mono (by simp))⟩
end
end Go.Proofs.Ythjkbfamkogoiaa
namespace Go.Proofs.Ythjkbfamkogoiaa
open Go Go.RowKit Go.Proofs.Mm Go.Sort
theorem getD_at {fs:List FnM} {j:Nat} (hj:j<fs.length):fs.getD (j:Int).toNat default=fs[j]:=by rw [Int.toNat_natCast,List.getD_eq_getElem?_getD,List.getElem?_eq_getElem hj];rfl
theorem eqb {a b:Int} (h:a ≠ b):(a == b)=false:=by simpa using h
section
variable (qg:Option Addr) (ng cg:Nat) (qa:Option Addr) (na ca:Nat) (qh:Option Addr) (nh ch:Nat) (qf:Option Addr) (nf cf:Nat)
end
end Go.Proofs.Ythjkbfamkogoiaa
namespace Go.Proofs.Ythjkbfamkogoiaa
open Go Go.RowKit Go.Proofs.Mm Go.Sort
theorem new_in {w:World} {n:Nat} (op a:Int) (T:TypeId) (h:w.heap.size=n):(w.alloc (.cells #[.int .i64 op,.int .i64 a] T)).cell? ⟨n,1,none⟩=some (.int .i64 a):=by subst h;rw [World.cell?_alloc_new];rfl
section
variable (qg:Option Addr) (ng cg:Nat) (qa:Option Addr) (na ca:Nat) (qh:Option Addr) (nh ch:Nat) (qf:Option Addr) (nf cf:Nat)
set_option maxRecDepth 100000 in
set_option maxHeartbeats 1000000 in
theorem opn_32 {lt:Bool} {fs:List FnM} (hn:fs.length=nf) {w:World} (hF:FnAt lt (wC w) qf fs) (j:Nat) (hj:j<nf) (a:Int) :Calls Try.prog 25 #[moV qg ng cg qa na ca qh nh ch qf nf cf,.int .i64 j,inV 32 a] w fun e w'=>e=.returned (.bool (true))∧Below w.heap.size w w':=by
  clear hF hn
  go_enter Try.func25,Try.ntmps25
  go_wp2_with fail
  go_ret
  exact ⟨rfl,bl_al (bl_al (Below.refl _ w) _) _⟩
set_option maxRecDepth 100000 in
set_option maxHeartbeats 1000000 in
theorem opn_33 {lt:Bool} {fs:List FnM} (hn:fs.length=nf) {w:World} (hF:FnAt lt (wC w) qf fs) (j:Nat) (hj:j<nf) (a:Int) :Calls Try.prog 25 #[moV qg ng cg qa na ca qh nh ch qf nf cf,.int .i64 j,inV 33 a] w fun e w'=>e=.returned (.bool (blI a (locI fs j)))∧Below w.heap.size w w':=by
  have HF:=Lib.hid (fun w' (hb:Below w.heap.size w w')=>(hF.le (below_cle hb):FnAt lt (wC w') qf fs))
  clear hF
  go_enter Try.func25,Try.ntmps25
  go_wp2_with fail
  refine (Locals_any _ _ _ _ _ _ _ _ _ _ _ _ hn (HF.out _ (bl_al (bl_al (Below.refl _ w) _) _)) _).mono ?_
  rintro e w1 ⟨rfl,hb⟩
  have hi:w1.cell? ⟨w.heap.size+1,1,none⟩=some (.int .i64 a):=cell_b ((InB.new' (w:=w.alloc (.cells #[.slice qg ng cg,.slice qa na ca,.slice qh nh ch,.slice qf nf cf] 26)) #[.int .i64 33,.int .i64 a] 35 (by simp)).cell rfl) hb
  have HB:=Lib.hid ((bl_al (bl_al (Below.refl _ w) _) _:Below w.heap.size w ((w.alloc (.cells #[.slice qg ng cg,.slice qa na ca,.slice qh nh ch,.slice qf nf cf] 26)).alloc (.cells #[.int .i64 33,.int .i64 a] 35))).trans (hb.mono (by simp;omega)))
  clear hb
  go_wp2_with fail
  refine (below1_any _ a _ _ hi).mono ?_
  rintro e w2 ⟨rfl,rfl⟩
  go_wp2_with fail
  go_ret
  exact ⟨rfl,HB.out⟩
set_option maxRecDepth 100000 in
set_option maxHeartbeats 1000000 in
theorem opn_34 {lt:Bool} {fs:List FnM} (hn:fs.length=nf) {w:World} (hF:FnAt lt (wC w) qf fs) (j:Nat) (hj:j<nf) (a:Int) :Calls Try.prog 25 #[moV qg ng cg qa na ca qh nh ch qf nf cf,.int .i64 j,inV 34 a] w fun e w'=>e=.returned (.bool (blI a (locI fs j)))∧Below w.heap.size w w':=by
  have HF:=Lib.hid (fun w' (hb:Below w.heap.size w w')=>(hF.le (below_cle hb):FnAt lt (wC w') qf fs))
  clear hF
  go_enter Try.func25,Try.ntmps25
  go_wp2_with fail
  refine (Locals_any _ _ _ _ _ _ _ _ _ _ _ _ hn (HF.out _ (bl_al (bl_al (Below.refl _ w) _) _)) _).mono ?_
  rintro e w1 ⟨rfl,hb⟩
  have hi:w1.cell? ⟨w.heap.size+1,1,none⟩=some (.int .i64 a):=cell_b ((InB.new' (w:=w.alloc (.cells #[.slice qg ng cg,.slice qa na ca,.slice qh nh ch,.slice qf nf cf] 26)) #[.int .i64 34,.int .i64 a] 35 (by simp)).cell rfl) hb
  have HB:=Lib.hid ((bl_al (bl_al (Below.refl _ w) _) _:Below w.heap.size w ((w.alloc (.cells #[.slice qg ng cg,.slice qa na ca,.slice qh nh ch,.slice qf nf cf] 26)).alloc (.cells #[.int .i64 34,.int .i64 a] 35))).trans (hb.mono (by simp;omega)))
  clear hb
  go_wp2_with fail
  refine (below1_any _ a _ _ hi).mono ?_
  rintro e w2 ⟨rfl,rfl⟩
  go_wp2_with fail
  go_ret
  exact ⟨rfl,HB.out⟩
set_option maxRecDepth 100000 in
set_option maxHeartbeats 1000000 in
theorem opn_35 {lt:Bool} {fs:List FnM} (hn:fs.length=nf) {w:World} (hF:FnAt lt (wC w) qf fs) (j:Nat) (hj:j<nf) (a:Int) :Calls Try.prog 25 #[moV qg ng cg qa na ca qh nh ch qf nf cf,.int .i64 j,inV 35 a] w fun e w'=>e=.returned (.bool (blI a ng))∧Below w.heap.size w w':=by
  clear hF hn
  go_enter Try.func25,Try.ntmps25
  go_wp2_with fail
  refine (below1_any _ a _ _ (new_in _ _ _ (by simp))).mono ?_
  rintro e w2 ⟨rfl,rfl⟩
  go_wp2_with fail
  go_ret
  exact ⟨rfl,bl_al (bl_al (Below.refl _ w) _) _⟩
set_option maxRecDepth 100000 in
set_option maxHeartbeats 1000000 in
theorem opn_36 {lt:Bool} {fs:List FnM} (hn:fs.length=nf) {w:World} (hF:FnAt lt (wC w) qf fs) (j:Nat) (hj:j<nf) (a:Int) :Calls Try.prog 25 #[moV qg ng cg qa na ca qh nh ch qf nf cf,.int .i64 j,inV 36 a] w fun e w'=>e=.returned (.bool (blI a ng))∧Below w.heap.size w w':=by
  clear hF hn
  go_enter Try.func25,Try.ntmps25
  go_wp2_with fail
  refine (below1_any _ a _ _ (new_in _ _ _ (by simp))).mono ?_
  rintro e w2 ⟨rfl,rfl⟩
  go_wp2_with fail
  go_ret
  exact ⟨rfl,bl_al (bl_al (Below.refl _ w) _) _⟩
set_option maxRecDepth 100000 in
set_option maxHeartbeats 1000000 in
theorem opn_37 {lt:Bool} {fs:List FnM} (hn:fs.length=nf) {w:World} (hF:FnAt lt (wC w) qf fs) (j:Nat) (hj:j<nf) (a:Int) :Calls Try.prog 25 #[moV qg ng cg qa na ca qh nh ch qf nf cf,.int .i64 j,inV 37 a] w fun e w'=>e=.returned (.bool (blI a na))∧Below w.heap.size w w':=by
  clear hF hn
  go_enter Try.func25,Try.ntmps25
  go_wp2_with fail
  refine (below1_any _ a _ _ (new_in _ _ _ (by simp))).mono ?_
  rintro e w2 ⟨rfl,rfl⟩
  go_wp2_with fail
  go_ret
  exact ⟨rfl,bl_al (bl_al (Below.refl _ w) _) _⟩
set_option maxRecDepth 100000 in
set_option maxHeartbeats 1000000 in
theorem opn_38 {lt:Bool} {fs:List FnM} (hn:fs.length=nf) {w:World} (hF:FnAt lt (wC w) qf fs) (j:Nat) (hj:j<nf) (a:Int) :Calls Try.prog 25 #[moV qg ng cg qa na ca qh nh ch qf nf cf,.int .i64 j,inV 38 a] w fun e w'=>e=.returned (.bool (blI a na))∧Below w.heap.size w w':=by
  clear hF hn
  go_enter Try.func25,Try.ntmps25
  go_wp2_with fail
  refine (below1_any _ a _ _ (new_in _ _ _ (by simp))).mono ?_
  rintro e w2 ⟨rfl,rfl⟩
  go_wp2_with fail
  go_ret
  exact ⟨rfl,bl_al (bl_al (Below.refl _ w) _) _⟩
set_option maxRecDepth 100000 in
set_option maxHeartbeats 1000000 in
theorem opn_39 {lt:Bool} {fs:List FnM} (hn:fs.length=nf) {w:World} (hF:FnAt lt (wC w) qf fs) (j:Nat) (hj:j<nf) (a:Int) :Calls Try.prog 25 #[moV qg ng cg qa na ca qh nh ch qf nf cf,.int .i64 j,inV 39 a] w fun e w'=>e=.returned (.bool (decide (a=0)))∧Below w.heap.size w w':=by
  clear hF hn
  by_cases ha:a=0
  · subst ha
    go_enter Try.func25,Try.ntmps25
    go_wp2_with fail
    go_ret
    exact ⟨rfl,bl_al (bl_al (Below.refl _ w) _) _⟩
  · have ka:(a == 0)=false:=eqb ha
    rw [decide_eq_false ha]
    clear ha
    go_enter Try.func25,Try.ntmps25
    go_wp2_with fail
    go_ret
    exact ⟨rfl,bl_al (bl_al (Below.refl _ w) _) _⟩
set_option maxRecDepth 100000 in
set_option maxHeartbeats 1000000 in
theorem opn_40 {lt:Bool} {fs:List FnM} (hn:fs.length=nf) {w:World} (hF:FnAt lt (wC w) qf fs) (j:Nat) (hj:j<nf) (a:Int) :Calls Try.prog 25 #[moV qg ng cg qa na ca qh nh ch qf nf cf,.int .i64 j,inV 40 a] w fun e w'=>e=.returned (.bool (decide (a=0)))∧Below w.heap.size w w':=by
  clear hF hn
  by_cases ha:a=0
  · subst ha
    go_enter Try.func25,Try.ntmps25
    go_wp2_with fail
    go_ret
    exact ⟨rfl,bl_al (bl_al (Below.refl _ w) _) _⟩
  · have ka:(a == 0)=false:=eqb ha
    rw [decide_eq_false ha]
    clear ha
    go_enter Try.func25,Try.ntmps25
    go_wp2_with fail
    go_ret
    exact ⟨rfl,bl_al (bl_al (Below.refl _ w) _) _⟩
set_option maxRecDepth 100000 in
set_option maxHeartbeats 1000000 in
theorem opn_41 {lt:Bool} {fs:List FnM} (hn:fs.length=nf) {w:World} (hF:FnAt lt (wC w) qf fs) (j:Nat) (hj:j<nf) (a:Int) :Calls Try.prog 25 #[moV qg ng cg qa na ca qh nh ch qf nf cf,.int .i64 j,inV 41 a] w fun e w'=>e=.returned (.bool (decide (a=0)))∧Below w.heap.size w w':=by
  clear hF hn
  by_cases ha:a=0
  · subst ha
    go_enter Try.func25,Try.ntmps25
    go_wp2_with fail
    go_ret
    exact ⟨rfl,bl_al (bl_al (Below.refl _ w) _) _⟩
  · have ka:(a == 0)=false:=eqb ha
    rw [decide_eq_false ha]
    clear ha
    go_enter Try.func25,Try.ntmps25
    go_wp2_with fail
    go_ret
    exact ⟨rfl,bl_al (bl_al (Below.refl _ w) _) _⟩
set_option maxRecDepth 100000 in
set_option maxHeartbeats 1000000 in
theorem opn_42 {lt:Bool} {fs:List FnM} (hn:fs.length=nf) {w:World} (hF:FnAt lt (wC w) qf fs) (j:Nat) (hj:j<nf) (a:Int) :Calls Try.prog 25 #[moV qg ng cg qa na ca qh nh ch qf nf cf,.int .i64 j,inV 42 a] w fun e w'=>e=.returned (.bool (decide (a=0)))∧Below w.heap.size w w':=by
  clear hF hn
  by_cases ha:a=0
  · subst ha
    go_enter Try.func25,Try.ntmps25
    go_wp2_with fail
    go_ret
    exact ⟨rfl,bl_al (bl_al (Below.refl _ w) _) _⟩
  · have ka:(a == 0)=false:=eqb ha
    rw [decide_eq_false ha]
    clear ha
    go_enter Try.func25,Try.ntmps25
    go_wp2_with fail
    go_ret
    exact ⟨rfl,bl_al (bl_al (Below.refl _ w) _) _⟩
set_option maxRecDepth 100000 in
set_option maxHeartbeats 1000000 in
theorem opn_43 {lt:Bool} {fs:List FnM} (hn:fs.length=nf) {w:World} (hF:FnAt lt (wC w) qf fs) (j:Nat) (hj:j<nf) (a:Int) :Calls Try.prog 25 #[moV qg ng cg qa na ca qh nh ch qf nf cf,.int .i64 j,inV 43 a] w fun e w'=>e=.returned (.bool (blI a (fs[j]'(by omega)).code.length))∧Below w.heap.size w w':=by
  have hj':j<fs.length:=by omega
  have hjn:(j:Int)<(nf:Int):=by omega
  obtain ⟨g,o,qp,cp,qr,cr,qc,cc,rfl,hK,hcd,_,_,_⟩:=fn_at hF hj'
  clear hcd
  obtain ⟨nc,hc⟩:∃ nc,fs[j].code.length=nc:=⟨_,rfl⟩
  rw [hc] at hK ⊢
  clear hc
  obtain ⟨a0,a1,a2,a3,a4,a5⟩:=hK.le (bl_al (bl_al (Below.refl _ w) _) _:Below w.heap.size w ((w.alloc (.cells #[.slice qg ng cg,.slice qa na ca,.slice qh nh ch,.slice (some ⟨g,o,none⟩) nf cf] 26)).alloc (.cells #[.int .i64 43,.int .i64 a] 35)))
  clear hF hn hK a0 a1 a2 a3 a4
  go_enter Try.func25,Try.ntmps25
  go_wp2_with fail
  refine (below1_any _ a _ _ (new_in _ _ _ (by simp))).mono ?_
  rintro e w2 ⟨rfl,rfl⟩
  go_wp2_with fail
  go_ret
  exact ⟨rfl,bl_al (bl_al (Below.refl _ w) _) _⟩
set_option maxRecDepth 100000 in
set_option maxHeartbeats 1000000 in
theorem opn_44 {lt:Bool} {fs:List FnM} (hn:fs.length=nf) {w:World} (hF:FnAt lt (wC w) qf fs) (j:Nat) (hj:j<nf) (a:Int) :Calls Try.prog 25 #[moV qg ng cg qa na ca qh nh ch qf nf cf,.int .i64 j,inV 44 a] w fun e w'=>e=.returned (.bool (blI a (fs[j]'(by omega)).code.length))∧Below w.heap.size w w':=by
  have hj':j<fs.length:=by omega
  have hjn:(j:Int)<(nf:Int):=by omega
  obtain ⟨g,o,qp,cp,qr,cr,qc,cc,rfl,hK,hcd,_,_,_⟩:=fn_at hF hj'
  clear hcd
  obtain ⟨nc,hc⟩:∃ nc,fs[j].code.length=nc:=⟨_,rfl⟩
  rw [hc] at hK ⊢
  clear hc
  obtain ⟨a0,a1,a2,a3,a4,a5⟩:=hK.le (bl_al (bl_al (Below.refl _ w) _) _:Below w.heap.size w ((w.alloc (.cells #[.slice qg ng cg,.slice qa na ca,.slice qh nh ch,.slice (some ⟨g,o,none⟩) nf cf] 26)).alloc (.cells #[.int .i64 44,.int .i64 a] 35)))
  clear hF hn hK a0 a1 a2 a3 a4
  go_enter Try.func25,Try.ntmps25
  go_wp2_with fail
  refine (below1_any _ a _ _ (new_in _ _ _ (by simp))).mono ?_
  rintro e w2 ⟨rfl,rfl⟩
  go_wp2_with fail
  go_ret
  exact ⟨rfl,bl_al (bl_al (Below.refl _ w) _) _⟩
set_option maxRecDepth 100000 in
set_option maxHeartbeats 1000000 in
theorem opn_45 {lt:Bool} {fs:List FnM} (hn:fs.length=nf) {w:World} (hF:FnAt lt (wC w) qf fs) (j:Nat) (hj:j<nf) (a:Int) :Calls Try.prog 25 #[moV qg ng cg qa na ca qh nh ch qf nf cf,.int .i64 j,inV 45 a] w fun e w'=>e=.returned (.bool (blI a nf))∧Below w.heap.size w w':=by
  clear hF hn
  go_enter Try.func25,Try.ntmps25
  go_wp2_with fail
  refine (below1_any _ a _ _ (new_in _ _ _ (by simp))).mono ?_
  rintro e w2 ⟨rfl,rfl⟩
  go_wp2_with fail
  go_ret
  exact ⟨rfl,bl_al (bl_al (Below.refl _ w) _) _⟩
set_option maxRecDepth 100000 in
set_option maxHeartbeats 1000000 in
theorem opn_46 {lt:Bool} {fs:List FnM} (hn:fs.length=nf) {w:World} (hF:FnAt lt (wC w) qf fs) (j:Nat) (hj:j<nf) (a:Int) :Calls Try.prog 25 #[moV qg ng cg qa na ca qh nh ch qf nf cf,.int .i64 j,inV 46 a] w fun e w'=>e=.returned (.bool (decide (a=0)))∧Below w.heap.size w w':=by
  clear hF hn
  by_cases ha:a=0
  · subst ha
    go_enter Try.func25,Try.ntmps25
    go_wp2_with fail
    go_ret
    exact ⟨rfl,bl_al (bl_al (Below.refl _ w) _) _⟩
  · have ka:(a == 0)=false:=eqb ha
    rw [decide_eq_false ha]
    clear ha
    go_enter Try.func25,Try.ntmps25
    go_wp2_with fail
    go_ret
    exact ⟨rfl,bl_al (bl_al (Below.refl _ w) _) _⟩
set_option maxRecDepth 100000 in
set_option maxHeartbeats 1000000 in
theorem opn_47 {lt:Bool} {fs:List FnM} (hn:fs.length=nf) {w:World} (hF:FnAt lt (wC w) qf fs) (j:Nat) (hj:j<nf) (a:Int) :Calls Try.prog 25 #[moV qg ng cg qa na ca qh nh ch qf nf cf,.int .i64 j,inV 47 a] w fun e w'=>e=.returned (.bool (blI a nh))∧Below w.heap.size w w':=by
  clear hF hn
  go_enter Try.func25,Try.ntmps25
  go_wp2_with fail
  refine (below1_any _ a _ _ (new_in _ _ _ (by simp))).mono ?_
  rintro e w2 ⟨rfl,rfl⟩
  go_wp2_with fail
  go_ret
  exact ⟨rfl,bl_al (bl_al (Below.refl _ w) _) _⟩
set_option maxRecDepth 100000 in
set_option maxHeartbeats 1000000 in
theorem opn_ar {lt:Bool} {fs:List FnM} (hn:fs.length=nf) {w:World} (hF:FnAt lt (wC w) qf fs) (j:Nat) (hj:j<nf) (a:Int) (op:Int) (h:¬ (32≤op∧op≤47)):Calls Try.prog 25 #[moV qg ng cg qa na ca qh nh ch qf nf cf,.int .i64 j,inV op a] w fun e w'=>e=.returned (.bool (decide (a=0)))∧Below w.heap.size w w':=by
  have k32:(op == 32)=false:=eqb (by omega)
  have k33:(op == 33)=false:=eqb (by omega)
  have k34:(op == 34)=false:=eqb (by omega)
  have k35:(op == 35)=false:=eqb (by omega)
  have k36:(op == 36)=false:=eqb (by omega)
  have k37:(op == 37)=false:=eqb (by omega)
  have k38:(op == 38)=false:=eqb (by omega)
  have k43:(op == 43)=false:=eqb (by omega)
  have k44:(op == 44)=false:=eqb (by omega)
  have k45:(op == 45)=false:=eqb (by omega)
  have k47:(op == 47)=false:=eqb (by omega)
  clear hF hn h
  by_cases ha:a=0
  · subst ha
    go_enter Try.func25,Try.ntmps25
    go_wp2_with fail
    go_ret
    exact ⟨rfl,bl_al (bl_al (Below.refl _ w) _) _⟩
  · have ka:(a == 0)=false:=eqb ha
    rw [decide_eq_false ha]
    clear ha
    go_enter Try.func25,Try.ntmps25
    go_wp2_with fail
    go_ret
    exact ⟨rfl,bl_al (bl_al (Below.refl _ w) _) _⟩
set_option maxRecDepth 100000 in
set_option maxHeartbeats 1000000 in
theorem mayOperand_any {lt:Bool} {fs:List FnM} (hn:fs.length=nf) {w:World} (hF:FnAt lt (wC w) qf fs) (j:Nat) (hj:j<nf) (a:Int) (op:Int):Calls Try.prog 25 #[moV qg ng cg qa na ca qh nh ch qf nf cf,.int .i64 j,inV op a] w fun e w'=>e=.returned (.bool (opnI ng na nh fs j op a))∧Below w.heap.size w w':=by
  by_cases h3:32≤op∧op≤47
  · have e1:op=32 ∨ op=33 ∨ op=34 ∨ op=35 ∨ op=36 ∨ op=37 ∨ op=38 ∨ op=39 ∨ op=40 ∨ op=41 ∨ op=42 ∨ op=43 ∨ op=44 ∨ op=45 ∨ op=46 ∨ op=47:=by omega
    have hg:fs[j]?.getD default=fs[j]'(by omega):=by rw [List.getElem?_eq_getElem (by omega)];rfl
    rcases e1 with rfl | rfl | rfl | rfl | rfl | rfl | rfl | rfl | rfl | rfl | rfl | rfl | rfl | rfl | rfl | rfl
    · refine (opn_32 qg ng cg qa na ca qh nh ch qf nf cf hn hF j hj a).mono ?_
      rintro e w' ⟨rfl,hb⟩
      exact ⟨by simp [opnI],hb⟩
    · refine (opn_33 qg ng cg qa na ca qh nh ch qf nf cf hn hF j hj a).mono ?_
      rintro e w' ⟨rfl,hb⟩
      exact ⟨by simp [opnI],hb⟩
    · refine (opn_34 qg ng cg qa na ca qh nh ch qf nf cf hn hF j hj a).mono ?_
      rintro e w' ⟨rfl,hb⟩
      exact ⟨by simp [opnI],hb⟩
    · refine (opn_35 qg ng cg qa na ca qh nh ch qf nf cf hn hF j hj a).mono ?_
      rintro e w' ⟨rfl,hb⟩
      exact ⟨by simp [opnI],hb⟩
    · refine (opn_36 qg ng cg qa na ca qh nh ch qf nf cf hn hF j hj a).mono ?_
      rintro e w' ⟨rfl,hb⟩
      exact ⟨by simp [opnI],hb⟩
    · refine (opn_37 qg ng cg qa na ca qh nh ch qf nf cf hn hF j hj a).mono ?_
      rintro e w' ⟨rfl,hb⟩
      exact ⟨by simp [opnI],hb⟩
    · refine (opn_38 qg ng cg qa na ca qh nh ch qf nf cf hn hF j hj a).mono ?_
      rintro e w' ⟨rfl,hb⟩
      exact ⟨by simp [opnI],hb⟩
    · refine (opn_39 qg ng cg qa na ca qh nh ch qf nf cf hn hF j hj a).mono ?_
      rintro e w' ⟨rfl,hb⟩
      exact ⟨by simp [opnI],hb⟩
    · refine (opn_40 qg ng cg qa na ca qh nh ch qf nf cf hn hF j hj a).mono ?_
      rintro e w' ⟨rfl,hb⟩
      exact ⟨by simp [opnI],hb⟩
    · refine (opn_41 qg ng cg qa na ca qh nh ch qf nf cf hn hF j hj a).mono ?_
      rintro e w' ⟨rfl,hb⟩
      exact ⟨by simp [opnI],hb⟩
    · refine (opn_42 qg ng cg qa na ca qh nh ch qf nf cf hn hF j hj a).mono ?_
      rintro e w' ⟨rfl,hb⟩
      exact ⟨by simp [opnI],hb⟩
    · refine (opn_43 qg ng cg qa na ca qh nh ch qf nf cf hn hF j hj a).mono ?_
      rintro e w' ⟨rfl,hb⟩
      exact ⟨by simp [opnI,hg],hb⟩
    · refine (opn_44 qg ng cg qa na ca qh nh ch qf nf cf hn hF j hj a).mono ?_
      rintro e w' ⟨rfl,hb⟩
      exact ⟨by simp [opnI,hg],hb⟩
    · refine (opn_45 qg ng cg qa na ca qh nh ch qf nf cf hn hF j hj a).mono ?_
      rintro e w' ⟨rfl,hb⟩
      exact ⟨by simp [opnI,hn],hb⟩
    · refine (opn_46 qg ng cg qa na ca qh nh ch qf nf cf hn hF j hj a).mono ?_
      rintro e w' ⟨rfl,hb⟩
      exact ⟨by simp [opnI],hb⟩
    · refine (opn_47 qg ng cg qa na ca qh nh ch qf nf cf hn hF j hj a).mono ?_
      rintro e w' ⟨rfl,hb⟩
      exact ⟨by simp [opnI],hb⟩
  · have hz:opnI ng na nh fs j op a=decide (a=0):=by
      rw [opnI,if_neg (by omega),if_neg (by omega),if_neg (by omega),if_neg (by omega),if_neg (by omega),if_neg (by omega),if_neg (by omega)]
    rw [hz]
    exact opn_ar qg ng cg qa na ca qh nh ch qf nf cf hn hF j hj a op h3
end
end Go.Proofs.Ythjkbfamkogoiaa
namespace Go.Proofs.Ythjkbfamkogoiaa
open Go Go.RowKit Go.Proofs.Mm Go.Sort
section
variable (qg:Option Addr) (ng cg:Nat) (qa:Option Addr) (na ca:Nat) (qh:Option Addr) (nh ch:Nat) (qf:Option Addr) (nf cf:Nat)
structure BxI (w:World) (m0 m1 m2 m3:Value) (op a:Int) (W:World):Prop where
  bl:Below w.heap.size w W
  m:InB W w.heap.size #[m0,m1,m2,m3] 26
  i:InB W (w.heap.size+1) #[.int .i64 op,.int .i64 a] 35
theorem BxI.new (w:World) (m0 m1 m2 m3:Value) (op a:Int):BxI w m0 m1 m2 m3 op a ((w.alloc (.cells #[m0,m1,m2,m3] 26)).alloc (.cells #[.int .i64 op,.int .i64 a] 35)) :=
  ⟨bl_al (bl_al (Below.refl _ w) _) _,(InB.new _ _ _).le (bl_al (Below.refl _ _) _),InB.new' _ _ (by simp)⟩
theorem BxI.le {w:World} {m0 m1 m2 m3:Value} {op a:Int} {W V:World} (h:BxI w m0 m1 m2 m3 op a W) (hb:Below W.heap.size W V):BxI w m0 m1 m2 m3 op a V :=
  ⟨bl_tr h.bl hb,h.m.le hb,h.i.le hb⟩
set_option maxRecDepth 100000 in
set_option maxHeartbeats 1000000 in
theorem Instr_any {lt:Bool} {fs:List FnM} (hn:fs.length=nf) {w:World} (hF:FnAt lt (wC w) qf fs) (f op a:Int):Calls Try.prog 11 #[moV qg ng cg qa na ca qh nh ch qf nf cf,.int .i64 f,inV op a] w fun e w'=>e=.returned (.int .i64 (insI ng na nh fs f op a))∧Below w.heap.size w w':=by
  have HF:=Lib.hid (fun w' (hb:Below w.heap.size w w')=>(hF.le (below_cle hb):FnAt lt (wC w') qf fs))
  have HN:=Lib.hid hn
  clear hF
  unfold insI
  rw [hn]
  clear hn
  by_cases hk:fnI nf f=false
  · rw [if_pos hk]
    go_enter Try.func11,Try.ntmps11
    go_wp2_with fail
    refine (isFn_any _ _ _ _ _ _ _ _ _ _ _ _ _ _).mono ?_
    rintro e w1 ⟨rfl,hb⟩
    have HX:=Lib.hid ((BxI.new w (.slice qg ng cg) (.slice qa na ca) (.slice qh nh ch) (.slice qf nf cf) op a).le hb)
    clear hb
    rw [hk]
    go_wp2_with fail
    go_ret
    exact ⟨rfl,HX.out.bl⟩
  · rw [if_neg hk]
    have hk1:fnI nf f=true:=by simpa using hk
    clear hk
    obtain ⟨j,rfl⟩:∃ j:Nat,f=(j:Int):=⟨f.toNat,by have:=of_decide_eq_true hk1;omega⟩
    have HJ:=Lib.hid (show j<nf from by have:=of_decide_eq_true hk1;omega)
    by_cases hk:knI op=false
    · rw [if_pos hk]
      go_enter Try.func11,Try.ntmps11
      go_wp2_with fail
      refine (isFn_any _ _ _ _ _ _ _ _ _ _ _ _ _ _).mono ?_
      rintro e w1 ⟨rfl,hb⟩
      have HX:=Lib.hid ((BxI.new w (.slice qg ng cg) (.slice qa na ca) (.slice qh nh ch) (.slice qf nf cf) op a).le hb)
      clear hb
      rw [hk1]
      have i0:=HX.out.i.cell (j:=0) rfl
      go_wp2_with fail
      refine (isKnown_any _ _).mono ?_
      rintro e w2 ⟨rfl,rfl⟩
      rw [hk]
      go_wp2_with fail
      go_ret
      exact ⟨rfl,HX.out.bl⟩
    · rw [if_neg hk]
      replace hk:knI op=true:=by simpa using hk
      by_cases ho:opnI ng na nh fs j op a=false
      · rw [if_pos ho]
        go_enter Try.func11,Try.ntmps11
        go_wp2_with fail
        refine (isFn_any _ _ _ _ _ _ _ _ _ _ _ _ _ _).mono ?_
        rintro e w1 ⟨rfl,hb⟩
        have HX:=Lib.hid ((BxI.new w (.slice qg ng cg) (.slice qa na ca) (.slice qh nh ch) (.slice qf nf cf) op a).le hb)
        clear hb
        rw [hk1]
        have i0:=HX.out.i.cell (j:=0) rfl
        go_wp2_with fail
        refine (isKnown_any _ _).mono ?_
        rintro e w2 ⟨rfl,rfl⟩
        rw [hk]
        have m0:=HX.out.m.cell (j:=0) rfl
        have m1:=HX.out.m.cell (j:=1) rfl
        have m2:=HX.out.m.cell (j:=2) rfl
        have m3:=HX.out.m.cell (j:=3) rfl
        have i1:=HX.out.i.cell (j:=1) rfl
        go_wp2_with fail
        refine (mayOperand_any _ _ _ _ _ _ _ _ _ _ _ _ HN.out (HF.out _ HX.out.bl) j HJ.out a op).mono ?_
        rintro e w3 ⟨rfl,hb⟩
        have HB:=Lib.hid (bl_tr HX.out.bl hb)
        clear hb i0 i1 m0 m1 m2 m3
        rw [ho]
        go_wp2_with fail
        go_ret
        exact ⟨rfl,HB.out⟩
      · rw [if_neg ho]
        replace ho:opnI ng na nh fs j op a=true:=by simpa using ho
        go_enter Try.func11,Try.ntmps11
        go_wp2_with fail
        refine (isFn_any _ _ _ _ _ _ _ _ _ _ _ _ _ _).mono ?_
        rintro e w1 ⟨rfl,hb⟩
        have HX:=Lib.hid ((BxI.new w (.slice qg ng cg) (.slice qa na ca) (.slice qh nh ch) (.slice qf nf cf) op a).le hb)
        clear hb
        rw [hk1]
        have i0:=HX.out.i.cell (j:=0) rfl
        go_wp2_with fail
        refine (isKnown_any _ _).mono ?_
        rintro e w2 ⟨rfl,rfl⟩
        rw [hk]
        have m0:=HX.out.m.cell (j:=0) rfl
        have m1:=HX.out.m.cell (j:=1) rfl
        have m2:=HX.out.m.cell (j:=2) rfl
        have m3:=HX.out.m.cell (j:=3) rfl
        have i1:=HX.out.i.cell (j:=1) rfl
        go_wp2_with fail
        refine (mayOperand_any _ _ _ _ _ _ _ _ _ _ _ _ HN.out (HF.out _ HX.out.bl) j HJ.out a op).mono ?_
        rintro e w3 ⟨rfl,hb⟩
        have HB:=Lib.hid (bl_tr HX.out.bl hb)
        clear hb i0 i1 m0 m1 m2 m3
        rw [ho]
        go_wp2_with fail
        go_ret
        exact ⟨rfl,HB.out⟩
end
end Go.Proofs.Ythjkbfamkogoiaa
namespace Go.Proofs.Ythjkbfamkogoiaa
open Go Go.RowKit Go.Proofs.Mm Go.Sort
theorem mo_open {lt:Bool} {C:Cl} {v:Value} {m:MoM} (h:MoR lt C v m):∃ qg cg qa ca qh ch qf cf,v=moV qg m.globals.length cg qa m.arrays.length ca qh m.channels.length ch qf m.funcs.length cf∧ArAt C qa m.arrays∧FnAt lt C qf m.funcs ∧
    m.globals.length≤140737488351232∧m.arrays.length≤140737488351232∧m.channels.length≤140737488351232∧m.funcs.length≤140737488351232:=by
  obtain ⟨v1,v2,v3,v4,rfl,h1,h2,h3,h4⟩:=h
  have b1:=slx_bytes h1
  have b2:=slx_bytes h2
  have b3:=slx_bytes h3
  have b4:=slx_bytes h4
  obtain ⟨q1,c1,rfl⟩:=slx_shape h1
  obtain ⟨q2,c2,rfl⟩:=slx_shape h2
  obtain ⟨q3,c3,rfl⟩:=slx_shape h3
  obtain ⟨q4,c4,rfl⟩:=slx_shape h4
  exact ⟨q1,c1,q2,c2,q3,c3,q4,c4,rfl,h2.cells,h4.cells,by omega,by omega,by omega,by omega⟩
structure TwoM (w:World) (b1 b2:Nat) (m:MoM) (q1:Option Addr) (c1:Nat) (q2:Option Addr) (c2:Nat) (q3:Option Addr) (c3:Nat) (q4:Option Addr) (c4:Nat) (p1:Option Addr) (d1:Nat) (p2:Option Addr) (d2:Nat) (p3:Option Addr) (d3:Nat) (p4:Option Addr) (d4:Nat) (W:World):Prop where
  bl:Below w.heap.size w W
  x:InB W b1 #[.slice q1 m.globals.length c1,.slice q2 m.arrays.length c2,.slice q3 m.channels.length c3,.slice q4 m.funcs.length c4] 26
  y:InB W b2 #[.slice p1 m.globals.length d1,.slice p2 m.arrays.length d2,.slice p3 m.channels.length d3,.slice p4 m.funcs.length d4] 26
  fx:FnAt false (wC W) q4 m.funcs
  fy:FnAt true (wC W) p4 m.funcs
  ax:ArAt (wC W) q2 m.arrays
  ay:ArAt (wC W) p2 m.arrays
  mx:MoR false (wC W) (moV q1 m.globals.length c1 q2 m.arrays.length c2 q3 m.channels.length c3 q4 m.funcs.length c4) m
  my:MoR true (wC W) (moV p1 m.globals.length d1 p2 m.arrays.length d2 p3 m.channels.length d3 p4 m.funcs.length d4) m
theorem ArAt.le {C D:Cl} {q:Option Addr} {l:List (Int × Int)} (h:ArAt C q l) (hc:CLe C D):ArAt D q l:=fun j hj=>by
  obtain ⟨g,o,e,a,b⟩:=h j hj
  exact ⟨g,o,e,hc _ _ a,hc _ _ b⟩
theorem MoR.le {lt:Bool} {C D:Cl} {v:Value} {m:MoM} (h:MoR lt C v m) (hc:CLe C D):MoR lt D v m:=by
  obtain ⟨v1,v2,v3,v4,e,h1,h2,h3,h4⟩:=h
  exact ⟨v1,v2,v3,v4,e,h1.le hc,h2.le hc,h3.le hc,h4.le hc⟩
theorem mo_parts {lt:Bool} {C:Cl} {m:MoM} {q1:Option Addr} {n1 c1:Nat} {q2:Option Addr} {n2 c2:Nat} {q3:Option Addr} {n3 c3:Nat} {q4:Option Addr} {n4 c4:Nat} (h:MoR lt C (moV q1 n1 c1 q2 n2 c2 q3 n3 c3 q4 n4 c4) m):ArAt C q2 m.arrays∧FnAt lt C q4 m.funcs:=by
  obtain ⟨v1,v2,v3,v4,e,h1,h2,h3,h4⟩:=h
  injection e with e
  obtain ⟨rfl,rfl,rfl,rfl⟩:Value.slice q1 n1 c1=v1∧Value.slice q2 n2 c2=v2∧Value.slice q3 n3 c3=v3∧Value.slice q4 n4 c4=v4:=by simpa using e
  exact ⟨h2.cells,h4.cells⟩
section
variable {w:World} {b1 b2:Nat} {m:MoM} {q1:Option Addr} {c1:Nat} {q2:Option Addr} {c2:Nat} {q3:Option Addr} {c3:Nat} {q4:Option Addr} {c4:Nat} {p1:Option Addr} {d1:Nat} {p2:Option Addr} {d2:Nat} {p3:Option Addr} {d3:Nat} {p4:Option Addr} {d4:Nat}
theorem TwoM.le {W V:World} (h:TwoM w b1 b2 m q1 c1 q2 c2 q3 c3 q4 c4 p1 d1 p2 d2 p3 d3 p4 d4 W) (hb:Below W.heap.size W V):TwoM w b1 b2 m q1 c1 q2 c2 q3 c3 q4 c4 p1 d1 p2 d2 p3 d3 p4 d4 V :=
  ⟨bl_tr h.bl hb,h.x.le hb,h.y.le hb,h.fx.le (below_cle hb),h.fy.le (below_cle hb),h.ax.le (below_cle hb),h.ay.le (below_cle hb),h.mx.le (below_cle hb),h.my.le (below_cle hb)⟩
end
end Go.Proofs.Ythjkbfamkogoiaa
namespace Go.Proofs.Ythjkbfamkogoiaa
open Go Go.RowKit Go.Proofs.Mm Go.Sort
def fstB (p:Nat→Bool) (n:Nat):Option Nat:=(List.range n).find? p
theorem fst_some {p:Nat→Bool} {n k:Nat} (h:∀ j,j<k→p j=false) (hk:k<n) (hp:p k=true):fstB p n=some k:=by
  unfold fstB
  rw [List.find?_range_eq_some]
  exact ⟨hp,List.mem_range.2 hk,fun j hj=>by simp [h j hj]⟩
theorem fst_none {p:Nat→Bool} {n:Nat} (h:∀ j,j<n→p j=false):fstB p n=none:=by
  unfold fstB
  rw [List.find?_range_eq_none]
  intro j hj
  simp [h j hj]
theorem none_fst {p:Nat→Bool} {n:Nat} (h:fstB p n=none):∀ j,j<n→p j=false:=by
  unfold fstB at h
  rw [List.find?_range_eq_none] at h
  intro j hj
  simpa using h j hj
def optI:Option Nat→Int
  | some k=>k
  | none=>-1
def oddI (l:List (Int × Int)) (j:Nat):Bool:=decide ((l.getD j default).1<1 ∨ (l.getD j default).1 > 256)
theorem getA_at {α:Type} [Inhabited α] {l:List α} {j:Nat} (hj:j<l.length):l.getD j default=l[j]:=by rw [List.getD_eq_getElem?_getD,List.getElem?_eq_getElem hj];rfl
theorem step_no {p:Nat→Bool} {k:Nat} (h:∀ j,j<k→p j=false) (hp:p k=false):∀ j,j<k+1→p j=false:=fun j hj=>by
  by_cases e:j=k
  · rw [e];exact hp
  · exact h j (by omega)
set_option maxRecDepth 100000 in
set_option maxHeartbeats 2000000 in
theorem ixOdd_any {w:World} {q:Option Addr} {c:Nat} (l:List (Int × Int)) (hl:l.length≤9223372036854775807) (ha:ArAt (wC w) q l) :
    Calls Try.prog 29 #[.slice q l.length c,.func (.func 30) #[] #[]] w fun e w'=>e=.returned (.int .i64 (optI (fstB (oddI l) l.length)))∧Below w.heap.size w w':=by
  obtain ⟨n,hn⟩:∃ n,l.length=n:=⟨_,rfl⟩
  have HN:=Lib.hid hn
  have HA:=Lib.hid ha
  rw [hn] at hl ⊢
  clear ha hn
  go_enter Try.func29,Try.ntmps29
  go_wp2
  go_loopw [8] (fun i wr=>∃ k:Nat,k≤n∧i=.int .i64 k∧Hid (Below w.heap.size w wr)∧Hid (∀ j,j<k→oddI l j=false)) (fun i _=>n - (intOf i).toNat)
  case atStart=>exact ⟨0,Nat.zero_le _,rfl,Lib.hid (Below.refl _ _),Lib.hid (fun j hj=>absurd hj (by omega))⟩
  case round =>
    obtain ⟨k,hk,rfl,HB,HT⟩:=hrel
    by_cases hlt:k<n
    · have hk1:k<l.length:=by rw [HN.out];exact hlt
      obtain ⟨g,o,rfl,a0,a1⟩:=HA.out k hk1
      have e0:=below_cle HB.out _ _ a0
      have e1:=below_cle HB.out _ _ a1
      unfold wC at e0 e1
      have HO:=Lib.hid (show oddI l k=decide (l[k].1<1 ∨ l[k].1 > 256) from by unfold oddI;rw [getA_at hk1])
      clear a0 a1
      generalize l[k].1=z0 at *
      generalize l[k].2=z1 at *
      clear hk1
      have hki:(k:Int)<(n:Int):=by omega
      by_cases hz:z0<1 ∨ z0 > 256
      · have HS:=Lib.hid (fst_some HT.out hlt (HO.out.trans (decide_eq_true hz)))
        have hd:=decide_eq_true hz
        clear hz
        go_wp2_with fail
        refine (isOdd_any z0 z1 wr).mono ?_
        rintro e w2 ⟨rfl,hbel⟩
        rw [hd]
        have HB3:=Lib.hid (bl_tr HB.out hbel)
        clear hbel e0 e1 hd
        go_wp2_with fail
        go_ret
        exact ⟨by rw [HS.out];rfl,HB3.out⟩
      · have HS:=Lib.hid (step_no HT.out (HO.out.trans (decide_eq_false hz)))
        have hd:=decide_eq_false hz
        clear hz
        go_wp2_with fail
        refine (isOdd_any z0 z1 wr).mono ?_
        rintro e w2 ⟨rfl,hbel⟩
        rw [hd]
        have HB3:=Lib.hid (bl_tr HB.out hbel)
        clear hbel e0 e1 hd
        go_wp2_with fail
        exact ⟨⟨k+1,by omega,by go_num,HB3,HS⟩,by simp [intOf];omega⟩
    · have HS:=Lib.hid (fst_none (n:=n) (fun j hj=>HT.out j (by omega)))
      go_wp2
      go_ret
      exact ⟨by rw [HS.out];rfl,HB.out⟩
def sizI (np nr:Nat) (lo st:Int) (nc:Nat):Int :=
  if (np:Int) > 8 ∨ (nr:Int) > 4 ∨ (nc:Int) > 2048 ∨ lo > 32 ∨ st > 64 then 74 else if lo<0 ∨ st<0 then 130 else if nc=0 then 132 else 0
abbrev fnV (lv:Int) (qp:Option Addr) (np cp:Nat) (qr:Option Addr) (nr cr:Nat) (lo st:Int) (qc:Option Addr) (nc cc:Nat):Value :=
  .agg #[.int .u64 lv,.slice qp np cp,.slice qr nr cr,.int .i64 lo,.int .i64 st,.slice qc nc cc]
set_option maxRecDepth 100000 in
set_option maxHeartbeats 2000000 in
theorem sizes_any (lv:Int) (qp:Option Addr) (np cp:Nat) (qr:Option Addr) (nr cr:Nat) (lo st:Int) (qc:Option Addr) (nc cc:Nat) (w:World) :
    Calls Try.prog 31 #[fnV lv qp np cp qr nr cr lo st qc nc cc] w fun e w'=>e=.returned (.int .i64 (sizI np nr lo st nc))∧Below w.heap.size w w':=by
  by_cases h1:(np:Int) > 8
  · rw [show sizI np nr lo st nc=74 from if_pos (by omega)]
    go_enter Try.func31,Try.ntmps31
    go_wp2
    go_ret
    exact ⟨rfl,bl_al (Below.refl _ w) _⟩
  by_cases h2:(nr:Int) > 4
  · rw [show sizI np nr lo st nc=74 from if_pos (by omega)]
    go_enter Try.func31,Try.ntmps31
    go_wp2
    go_ret
    exact ⟨rfl,bl_al (Below.refl _ w) _⟩
  by_cases h3:(nc:Int) > 2048
  · rw [show sizI np nr lo st nc=74 from if_pos (by omega)]
    go_enter Try.func31,Try.ntmps31
    go_wp2
    go_ret
    exact ⟨rfl,bl_al (Below.refl _ w) _⟩
  by_cases h4:lo > 32
  · rw [show sizI np nr lo st nc=74 from if_pos (by omega)]
    go_enter Try.func31,Try.ntmps31
    go_wp2
    go_ret
    exact ⟨rfl,bl_al (Below.refl _ w) _⟩
  by_cases h5:st > 64
  · rw [show sizI np nr lo st nc=74 from if_pos (by omega)]
    go_enter Try.func31,Try.ntmps31
    go_wp2
    go_ret
    exact ⟨rfl,bl_al (Below.refl _ w) _⟩
  by_cases h6:lo<0
  · rw [show sizI np nr lo st nc=130 from by rw [sizI,if_neg (by omega),if_pos (by omega)]]
    go_enter Try.func31,Try.ntmps31
    go_wp2
    go_ret
    exact ⟨rfl,bl_al (Below.refl _ w) _⟩
  by_cases h7:st<0
  · rw [show sizI np nr lo st nc=130 from by rw [sizI,if_neg (by omega),if_pos (by omega)]]
    go_enter Try.func31,Try.ntmps31
    go_wp2
    go_ret
    exact ⟨rfl,bl_al (Below.refl _ w) _⟩
  by_cases h8:nc=0
  · subst h8
    rw [show sizI np nr lo st 0=132 from by rw [sizI,if_neg (by omega),if_neg (by omega),if_pos rfl]]
    go_enter Try.func31,Try.ntmps31
    go_wp2
    go_ret
    exact ⟨rfl,bl_al (Below.refl _ w) _⟩
  · rw [show sizI np nr lo st nc=0 from by rw [sizI,if_neg (by omega),if_neg (by omega),if_neg (by omega)]]
    have h9:((nc:Int) == 0)=false:=eqb (by omega)
    go_enter Try.func31,Try.ntmps31
    go_wp2
    go_ret
    exact ⟨rfl,bl_al (Below.refl _ w) _⟩
end Go.Proofs.Ythjkbfamkogoiaa
namespace Go.Proofs.Ythjkbfamkogoiaa
open Go Go.RowKit Go.Proofs.Mm Go.Sort
def tabI (ng na nh nf:Nat) (arrs:List (Int × Int)):Int × Int :=
  if (ng:Int) > 32 ∨ (na:Int) > 16 ∨ (nh:Int) > 16 ∨ (nf:Int) > 32 then (0,74) else match fstB (oddI arrs) na with | some k=>(k,130) | none=>(0,0)
def insE (ng na nh:Nat) (fs:List FnM) (j nc:Nat) (code:List (Int × Int)) (a:Nat):Int :=
  if insI ng na nh fs j (code.getD a default).1 (code.getD a default).2 ≠ 0 then insI ng na nh fs j (code.getD a default).1 (code.getD a default).2
  else if a+1=nc∧(code.getD a default).1 ≠ 43∧(code.getD a default).1 ≠ 46 then 131 else 0
def codE (ng na nh:Nat) (fs:List FnM) (j nc:Nat) (code:List (Int × Int)):Int × Int :=
  match fstB (fun a=>decide (insE ng na nh fs j nc code a ≠ 0)) nc with | some a=>(a,insE ng na nh fs j nc code a) | none=>((nc:Int) - 1,0)
def fnE (ng na nh:Nat) (fs:List FnM) (j:Nat):Int × Int :=
  if sizI (fs.getD j default).params.length (fs.getD j default).results.length (fs.getD j default).locals (fs.getD j default).stack (fs.getD j default).code.length ≠ 0
  then (-1,sizI (fs.getD j default).params.length (fs.getD j default).results.length (fs.getD j default).locals (fs.getD j default).stack (fs.getD j default).code.length)
  else codE ng na nh fs j (fs.getD j default).code.length (fs.getD j default).code
def chkE (ng na nh:Nat) (arrs:List (Int × Int)) (fs:List FnM):Int × Int × Int :=
  if (tabI ng na nh fs.length arrs).2 ≠ 0 then ((tabI ng na nh fs.length arrs).2,-1,(tabI ng na nh fs.length arrs).1)
  else match fstB (fun j=>decide ((fnE ng na nh fs j).2 ≠ 0)) fs.length with | some j=>((fnE ng na nh fs j).2,j,(fnE ng na nh fs j).1) | none=>(0,0,0)
section
variable (qg:Option Addr) (ng cg:Nat) (qa:Option Addr) (na ca:Nat) (qh:Option Addr) (nh ch:Nat) (qf:Option Addr) (nf cf:Nat)
set_option maxRecDepth 100000 in
set_option maxHeartbeats 2000000 in
theorem tables_any {w:World} (arrs:List (Int × Int)) (hl:arrs.length=na) (hm:na≤140737488351232) (ha:ArAt (wC w) qa arrs) :
    Calls Try.prog 19 #[moV qg ng cg qa na ca qh nh ch qf nf cf] w fun e w'=>e=.returned (.tuple #[.int .i64 (tabI ng na nh nf arrs).1,.int .i64 (tabI ng na nh nf arrs).2])∧Below w.heap.size w w':=by
  by_cases h1:(ng:Int) > 32
  · rw [show tabI ng na nh nf arrs=(0,74) from if_pos (by omega)]
    clear ha hl
    go_enter Try.func19,Try.ntmps19
    go_wp2
    go_ret2
    exact ⟨rfl,bl_al (Below.refl _ w) _⟩
  by_cases h2:(na:Int) > 16
  · rw [show tabI ng na nh nf arrs=(0,74) from if_pos (by omega)]
    clear ha hl
    go_enter Try.func19,Try.ntmps19
    go_wp2
    go_ret2
    exact ⟨rfl,bl_al (Below.refl _ w) _⟩
  by_cases h3:(nh:Int) > 16
  · rw [show tabI ng na nh nf arrs=(0,74) from if_pos (by omega)]
    clear ha hl
    go_enter Try.func19,Try.ntmps19
    go_wp2
    go_ret2
    exact ⟨rfl,bl_al (Below.refl _ w) _⟩
  by_cases h4:(nf:Int) > 32
  · rw [show tabI ng na nh nf arrs=(0,74) from if_pos (by omega)]
    clear ha hl
    go_enter Try.func19,Try.ntmps19
    go_wp2
    go_ret2
    exact ⟨rfl,bl_al (Below.refl _ w) _⟩
  have e:tabI ng na nh nf arrs=match fstB (oddI arrs) na with | some k=>((k:Int),(130:Int)) | none=>(0,0):=if_neg (by omega)
  rw [e]
  clear e
  have HC:=Lib.hid (fun W (hb:Below w.heap.size w W)=>hl ▸ ixOdd_any (c:=ca) arrs (by omega) (ha.le (below_cle hb)))
  clear ha
  cases hr:fstB (oddI arrs) na with
  | none =>
    have HR:=Lib.hid (show optI (fstB (oddI arrs) na)=-1 by rw [hr];rfl)
    clear hr hl hm
    go_enter Try.func19,Try.ntmps19
    go_wp2_with fail
    refine (HC.out _ (bl_al (Below.refl _ w) _)).mono ?_
    rintro e w1 ⟨rfl,hb⟩
    rw [HR.out]
    have HB:=Lib.hid (bl_tr (bl_al (Below.refl _ w) _) hb)
    clear hb
    go_wp2_with fail
    go_ret2
    exact ⟨rfl,HB.out⟩
  | some k =>
    have HR:=Lib.hid (show optI (fstB (oddI arrs) na)=k by rw [hr];rfl)
    have hk:(k:Int) ≥ 0:=by omega
    clear hr hl hm
    go_enter Try.func19,Try.ntmps19
    go_wp2_with fail
    refine (HC.out _ (bl_al (Below.refl _ w) _)).mono ?_
    rintro e w1 ⟨rfl,hb⟩
    rw [HR.out]
    have HB:=Lib.hid (bl_tr (bl_al (Below.refl _ w) _) hb)
    clear hb
    go_wp2_with fail
    go_ret2
    exact ⟨rfl,HB.out⟩
end
end Go.Proofs.Ythjkbfamkogoiaa
