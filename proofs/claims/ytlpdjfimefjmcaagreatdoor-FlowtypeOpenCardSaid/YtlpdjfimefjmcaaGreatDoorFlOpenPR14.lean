/- Package names: Check. Plain: labels of a source, levels of statements, which statements keep the labels. Contracts of Join and Of of package bits, for every list and every memory. Package flowtype: the small calls. Package flowtype: what a name's label is. Package flowtype: labels of what is found,  -/
import Derived.Test.YtlpdjfimefjmcaaGreatDoorFlOpenPR7
import Derived.Test.YtlpdjfimefjmcaaGreatDoorFlOpenPR13
import Derived.Test.YtlpdjfimefjmcaaGreatDoorProg
import Derived.WalkKit
import Derived.Laws.Bits64b
import Derived.LoopTactic
import Derived.Lib.Hide
import Derived.Test.YtlpdjfimefjmcaaGreatDoorFlOpenPR6
import Derived.Deep.CutRange
open Go.Lib (hid)
namespace Go.Proofs.YtlpdjfimefjmcaaGreatDoor
open Go Go.RowKit Go.Proofs.Mm
def flA (x:Int × Int × Int):Array Value:=#[.int .i64 x.1,.int .i64 x.2.1,.int .i64 x.2.2]
def SmallZ (s:SoZ):Prop:=∀d∈s.funcs,∀x∈d.body,x.targets.length≤8796093021952
theorem small_of {lt:Bool} {C:Cl} {s:SoZ} {q1:Option Addr} {c1:Nat} {q2:Option Addr} {c2:Nat} {q3:Option Addr} {c3:Nat} {q4:Option Addr} {c4:Nat} {q5:Option Addr} {c5:Nat} (h:SrcO lt C s q1 c1 q2 c2 q3 c3 q4 c4 q5 c5):SmallZ s:=by
 intro d hd x hx
 obtain ⟨j,hj,rfl⟩:=List.getElem_of_mem hd
 obtain ⟨g,o,qp,cp,qr,cr,qv,cv,qb,cb,e,a0,a1,a2,a3,a4,a5,hl,hp,hr,hv,hb⟩:=h.fn.cells j hj
 obtain ⟨i,hi,rfl⟩:=List.getElem_of_mem hx
 obtain ⟨g,o,qt,ct,qe,ce,e,b0,b1,b2,b3,ht,he⟩:=hb.cells i hi
 have:=slx_len ht
 omega
def resF:Option (Nat × Int × Nat)→Int × Int × Int
 | some (f,a,e)=>((e:Int),(f:Int),a)
 | none=>(0,0,0)
theorem fnsF_next {nest:List Int→Bool} {s:SoZ} {k:Nat} (hk:k<s.funcs.length) (h:fnE nest s k s.funcs[k]=none):fnsF nest s (s.funcs.drop k) k=fnsF nest s (s.funcs.drop (k+1)) (k+1):=by
 rw [List.drop_eq_getElem_cons hk,fnsF,h]
theorem fnsF_hit {nest:List Int→Bool} {s:SoZ} {k:Nat} {a:Int} {e:Nat} (hk:k<s.funcs.length) (h:fnE nest s k s.funcs[k]=some (a,e)):fnsF nest s (s.funcs.drop k) k=some (k,a,e):=by
 rw [List.drop_eq_getElem_cons hk,fnsF,h]
theorem chk_none {s:SoZ} (h:declsZE s=none):chkZ nstZ s=resF (fnsF nstZ s (s.funcs.drop 0) 0):=by
 unfold chkZ
 rw [h]
 show _=resF (fnsF nstZ s s.funcs 0)
 cases fnsF nstZ s s.funcs 0 <;> rfl
theorem declsZE_ne {s:SoZ} {a e:Nat} (h:declsZE s=some (a,e)):¬e=0:=by
 have grp:∀(most:Nat) (ef:Nat→Nat) (base n k:Nat) (x:Nat × Nat),grpF most ef base n k=some x→¬x.2=0:=by
  intro most ef base n
  induction n with
  | zero=>intro k x hx;cases hx
  | succ n ih =>
   intro k x hx
   rw [grpF] at hx
   split at hx
   ·cases hx;show ¬(74:Nat)=0;decide
   ·split at hx
    ·exact ih _ _ hx
    ·rename_i h2;cases hx;exact h2
 have all:∀(gs:List (Nat × Nat × (Nat→Nat))) (base:Nat) (x:Nat × Nat),grpsF gs base=some x→¬x.2=0:=by
  intro gs
  induction gs with
  | nil=>intro base x hx;cases hx
  | cons g gs ih =>
   intro base x hx
   rw [grpsF] at hx
   cases hg:grpF g.2.1 g.2.2 base g.1 0 with
   | none=>rw [hg] at hx;exact ih _ _ hx
   | some y=>rw [hg] at hx;cases hx;exact grp _ _ _ _ _ _ hg
 rw [decls_gs] at h
 exact all _ _ _ h
theorem fnE_ne {nest:List Int→Bool} {s:SoZ} {f:Nat} {d:FnZ} {a:Int} {e:Nat} (h:fnE nest s f d=some (a,e)):¬e=0:=by
 have bd:∀(l:List StZ) (i:Nat) (x:Int × Nat),bodyF s f l i=some x→¬x.2=0:=by
  intro l
  induction l with
  | nil=>intro i x hx;cases hx
  | cons y l ih =>
   intro i x hx
   rw [bodyF] at hx
   split at hx
   ·exact ih _ _ hx
   ·rename_i h2;cases hx;exact h2
 unfold fnE at h
 simp only at h
 split at h
 ·exact bd _ _ _ h
 ·rename_i h2;cases h;exact h2
section
variable {lt:Bool} {C:Cl} {W:World} {s:SoZ} {q1:Option Addr} {c1:Nat} {q2:Option Addr} {c2:Nat} {q3:Option Addr} {c3:Nat} {q4:Option Addr} {c4:Nat} {q5:Option Addr} {c5:Nat}
set_option maxRecDepth 100000 in
set_option maxHeartbeats 8000000 in
theorem check_p (h:SrcO lt C s q1 c1 q2 c2 q3 c3 q4 c4 q5 c5) (hC:CLe C (wC W)) (hsm:SmallZ s) :
 Calls Tryz.prog 8 #[.agg (srV s q1 c1 q2 c2 q3 c3 q4 c4 q5 c5)] W (RetB (.agg (flA (chkZ nstZ s))) W):=by
 have HD:=hid (fun (w:World) (hw:Below W.heap.size W w)=>declarations_p (W:=w) h (hC.trans (below_cle hw)))
 have HF:=hid (fun (w:World) (hw:Below W.heap.size W w) f (hf:f<s.funcs.length) (m:Nat) (hm:m=s.funcs.length)=>show Calls Tryz.prog 18 #[.agg #[.slice q1 s.principals.length c1,.slice q2 s.globals.length c2,.slice q3 s.arrays.length c3,.slice q4 s.channels.length c4,.slice q5 m c5],.int .i64 (f:Int)] w (RetB (fnV (fnE nstZ s f s.funcs[f])) w) from by subst hm;exact function_p (W:=w) h (hC.trans (below_cle hw)) f hf (hsm _ (List.getElem_mem hf)))
 have HN:=hid (fun (a e:Nat) hd=>declsZE_ne (s:=s) (a:=a) (e:=e) hd)
 have HFN:=hid (fun f (hf:f<s.funcs.length) (a:Int) (e:Nat) (hh:fnE nstZ s f s.funcs[f]=some (a,e))=>fnE_ne (nest:=nstZ) (s:=s) (f:=f) (d:=s.funcs[f]) (a:=a) (e:=e) hh)
 have HX1:=hid (fun a e (hd:declsZE s=some (a,e))=>show chkZ nstZ s=((e:Int),-1,(a:Int)) by unfold chkZ;rw [hd])
 have HX2:=hid (fun (hd:declsZE s=none)=>chk_none hd)
 have HAT0:=hid (fun k (hk:k<s.funcs.length)=>fnsF_next (nest:=nstZ) hk)
 have HAT1:=hid (fun k (hk:k<s.funcs.length) (a:Int) (e:Nat) (hh:fnE nstZ s k s.funcs[k]=some (a,e))=>fnsF_hit (nest:=nstZ) hk hh)
 have HL5:=hid (slx_len h.fn)
 clear h hC hsm
 unfold srV at HD ⊢
 generalize declsZE s=D at *
 generalize chkZ nstZ s=R at *
 obtain ⟨n5,hn5⟩:∃n5,s.funcs.length=n5:=⟨_,rfl⟩
 have HN5:=hid hn5
 rw [hn5] at HD HL5 ⊢
 clear hn5
 have h5b:n5≤1172812402928:=by have:=HL5.out;omega
 generalize s.principals.length=n1 at *
 generalize s.globals.length=n2 at *
 generalize s.arrays.length=n3 at *
 generalize s.channels.length=n4 at *
 obtain ⟨b,hb⟩:∃b,W.heap.size=b:=⟨_,rfl⟩
 go_enter Tryz.func8,Tryz.ntmps8
 go_wp2_with fail
 have hbA:Below W.heap.size W ((W.alloc (.cells #[.slice q1 n1 c1,.slice q2 n2 c2,.slice q3 n3 c3,.slice q4 n4 c4,.slice q5 n5 c5] 27)).alloc (.cells #[.int .i64 0,.int .i64 0,.int .i64 0] 33)):=bl_al (bl_al (Below.refl _ _) _) _
 have j0:InB ((W.alloc (.cells #[.slice q1 n1 c1,.slice q2 n2 c2,.slice q3 n3 c3,.slice q4 n4 c4,.slice q5 n5 c5] 27)).alloc (.cells #[.int .i64 0,.int .i64 0,.int .i64 0] 33)) b #[.slice q1 n1 c1,.slice q2 n2 c2,.slice q3 n3 c3,.slice q4 n4 c4,.slice q5 n5 c5] 27:=(InB.new' _ _ hb).le (bl_al (Below.refl _ _) _)
 have j1:InB ((W.alloc (.cells #[.slice q1 n1 c1,.slice q2 n2 c2,.slice q3 n3 c3,.slice q4 n4 c4,.slice q5 n5 c5] 27)).alloc (.cells #[.int .i64 0,.int .i64 0,.int .i64 0] 33)) (b+1) #[.int .i64 0,.int .i64 0,.int .i64 0] 33:=InB.new' _ _ (by simp [hb])
 generalize (W.alloc (.cells #[.slice q1 n1 c1,.slice q2 n2 c2,.slice q3 n3 c3,.slice q4 n4 c4,.slice q5 n5 c5] 27)).alloc (.cells #[.int .i64 0,.int .i64 0,.int .i64 0] 33)=w0 at *
 try rw [hb]
 have HBB:=hid hb
 have HBA:=hid hbA
 have HJ0:=hid j0
 have HJ1:=hid j1
 clear hbA j0 j1
 go_at_call 17
 refine (HD.out _ HBA.out).mono ?_
 rintro e w1 ⟨rfl,hb1⟩
 have HB1:=hid hb1
 clear hb1
 have k4:=(HJ0.out.le HB1.out).cell (j:=4) (v:=.slice q5 n5 c5) rfl
 cases hdd:D with
 | some z =>
  obtain ⟨a,e⟩:=z
  have HR:=hid (HX1.out a e hdd)
  have hne0:=HN.out a e hdd
  have hne:(((e:Nat):Int) != 0)=true:=by simpa using hne0
  have hne2:(((e:Nat):Int) == 0)=false:=by simpa using hne0
  have HY:=hid (HJ1.out.le HB1.out)
  have r0:=HY.out.cell (j:=0) (v:=.int .i64 0) rfl
  have r1:=HY.out.cell (j:=1) (v:=.int .i64 0) rfl
  have r2:=HY.out.cell (j:=2) (v:=.int .i64 0) rfl
  have f0:w1.frozen? ⟨b+1,0,none⟩=false:=free_of HY.out
  have f1:w1.frozen? ⟨b+1,1,none⟩=false:=free_of HY.out
  have f2:w1.frozen? ⟨b+1,2,none⟩=false:=free_of HY.out
  clear hdd hne0 k4
  unfold daV
  go_wp2
  have hW:=heap_set (heap_set (heap_set HY.out 0 (.int .i64 (e:Int))) 1 (.int .i64 (-1))) 2 (.int .i64 (a:Int))
  have hbs:=HBB.out
  have hWB:=(((bl_tr HBA.out HB1.out).setCell (p:=⟨b+1,0,none⟩) (by show W.heap.size≤b+1;omega) (.int .i64 (e:Int))).setCell (p:=⟨b+1,1,none⟩) (by show W.heap.size≤b+1;omega) (.int .i64 (-1))).setCell (p:=⟨b+1,2,none⟩) (by show W.heap.size≤b+1;omega) (.int .i64 (a:Int))
  generalize ((w1.setCell _ _).setCell _ _).setCell _ _=wE at *
  have c0:=cell_of (j:=0) hW rfl
  have c1:=cell_of (j:=1) hW rfl
  have c2:=cell_of (j:=2) hW rfl
  exact bodyPost_ret (v:=.agg #[.int .i64 (e:Int),.int .i64 (-1),.int .i64 (a:Int)]) (by simp [results,Tryz.results8,go_sem,c0,c1,c2]) rfl ⟨by rw [HR.out];rfl,hWB⟩
 | none =>
  have HR0:=hid (HX2.out hdd)
  have k0:=(HJ0.out.le HB1.out).cell (j:=0) (v:=.slice q1 n1 c1) rfl
  clear hdd k0
  unfold daV
  go_wp2_with fail
  clear k4
  go_loopw [21] (fun i wr=>∃k:Nat,k≤n5∧i=.int .i64 k∧Hid (Below w0.heap.size w0 wr)∧Hid (R=resF (fnsF nstZ s (s.funcs.drop k) k))) (fun i _=>n5 - (intOf i).toNat)
  case atStart=>exact ⟨0,Nat.zero_le _,rfl,HB1,HR0⟩
  case round =>
   obtain ⟨k,hk,rfl,HB,HT⟩:=hrel
   have HY:=hid (HJ1.out.le HB.out)
   by_cases hlt:k<n5
   ·have hk1:k<s.funcs.length:=by rw [HN5.out];exact hlt
    have HFF:=hid (fun w hw=>HF.out w hw k hk1 n5 HN5.out.symm)
    have HNE:=hid (HFN.out k hk1)
    have HT0:=hid (fun (hh:fnE nstZ s k s.funcs[k]=none)=>show R=resF (fnsF nstZ s (s.funcs.drop (k+1)) (k+1)) from HT.out.trans (congrArg resF (HAT0.out k hk1 hh)))
    have HT1:=hid (fun (a:Int) (e:Nat) (hh:fnE nstZ s k s.funcs[k]=some (a,e))=>show R=((e:Int),(k:Int),a) from HT.out.trans (congrArg resF (HAT1.out k hk1 a e hh)))
    generalize fnE nstZ s k s.funcs[k]=X at *
    clear hk1
    have k0:=(HJ0.out.le HB.out).cell (j:=0) (v:=.slice q1 n1 c1) rfl
    have k1:=(HJ0.out.le HB.out).cell (j:=1) (v:=.slice q2 n2 c2) rfl
    have k2:=(HJ0.out.le HB.out).cell (j:=2) (v:=.slice q3 n3 c3) rfl
    have k3:=(HJ0.out.le HB.out).cell (j:=3) (v:=.slice q4 n4 c4) rfl
    have k4:=(HJ0.out.le HB.out).cell (j:=4) (v:=.slice q5 n5 c5) rfl
    have hki:(k:Int)<(n5:Int):=by omega
    go_wp2_with fail
    go_at_call 18
    refine (HFF.out _ (bl_tr HBA.out HB.out)).mono ?_
    rintro e w2 ⟨rfl,hb2⟩
    have HB2:=hid (bl_tr HB.out hb2)
    have HY2:=hid (HJ1.out.le HB2.out)
    clear hb2 k0 k1 k2 k3 k4
    cases X with
    | none =>
     have HTD:=hid (HT0.out rfl)
     clear HT0 HT1 HNE
     unfold fnV
     go_wp2
     exact ⟨⟨k+1,by omega,by go_num,HB2,HTD⟩,by simp [intOf];omega⟩
    | some z =>
     obtain ⟨a,e⟩:=z
     have hne0:=HNE.out a e rfl
     have HTD:=hid (HT1.out a e rfl)
     clear HT0 HT1 HNE
     have hne:(((e:Nat):Int) != 0)=true:=by simpa using hne0
     have hne2:(((e:Nat):Int) == 0)=false:=by simpa using hne0
     have r0:=HY2.out.cell (j:=0) (v:=.int .i64 0) rfl
     have r1:=HY2.out.cell (j:=1) (v:=.int .i64 0) rfl
     have r2:=HY2.out.cell (j:=2) (v:=.int .i64 0) rfl
     have f0:w2.frozen? ⟨b+1,0,none⟩=false:=free_of HY2.out
     have f1:w2.frozen? ⟨b+1,1,none⟩=false:=free_of HY2.out
     have f2:w2.frozen? ⟨b+1,2,none⟩=false:=free_of HY2.out
     clear hne0
     unfold fnV
     go_wp2
     have hW:=heap_set (heap_set (heap_set HY2.out 0 (.int .i64 (e:Int))) 1 (.int .i64 (k:Int))) 2 (.int .i64 a)
     have hbs:=HBB.out
     have hWB:=(((bl_tr HBA.out HB2.out).setCell (p:=⟨b+1,0,none⟩) (by show W.heap.size≤b+1;omega) (.int .i64 (e:Int))).setCell (p:=⟨b+1,1,none⟩) (by show W.heap.size≤b+1;omega) (.int .i64 (k:Int))).setCell (p:=⟨b+1,2,none⟩) (by show W.heap.size≤b+1;omega) (.int .i64 a)
     generalize ((w2.setCell _ _).setCell _ _).setCell _ _=wE at *
     have c0:=cell_of (j:=0) hW rfl
     have c1:=cell_of (j:=1) hW rfl
     have c2:=cell_of (j:=2) hW rfl
     exact bodyPost_ret (v:=.agg #[.int .i64 (e:Int),.int .i64 (k:Int),.int .i64 a]) (by simp [results,Tryz.results8,go_sem,c0,c1,c2]) rfl ⟨by rw [HTD.out];rfl,hWB⟩
   ·obtain rfl:k=n5:=by omega
    have HR:=hid (show R=(0,0,0) by rw [HT.out,List.drop_of_length_le (by rw [HN5.out];exact Nat.le_refl _)];rfl)
    have r0:=HY.out.cell (j:=0) (v:=.int .i64 0) rfl
    have r1:=HY.out.cell (j:=1) (v:=.int .i64 0) rfl
    have r2:=HY.out.cell (j:=2) (v:=.int .i64 0) rfl
    have f0:wr.frozen? ⟨b+1,0,none⟩=false:=free_of HY.out
    have f1:wr.frozen? ⟨b+1,1,none⟩=false:=free_of HY.out
    have f2:wr.frozen? ⟨b+1,2,none⟩=false:=free_of HY.out
    go_wp2
    have hW:=heap_set (heap_set (heap_set HY.out 0 (.int .i64 0)) 1 (.int .i64 0)) 2 (.int .i64 0)
    have hbs:=HBB.out
    have hWB:=(((bl_tr HBA.out HB.out).setCell (p:=⟨b+1,0,none⟩) (by show W.heap.size≤b+1;omega) (.int .i64 0)).setCell (p:=⟨b+1,1,none⟩) (by show W.heap.size≤b+1;omega) (.int .i64 0)).setCell (p:=⟨b+1,2,none⟩) (by show W.heap.size≤b+1;omega) (.int .i64 0)
    generalize ((wr.setCell _ _).setCell _ _).setCell _ _=wE at *
    have c0:=cell_of (j:=0) hW rfl
    have c1:=cell_of (j:=1) hW rfl
    have c2:=cell_of (j:=2) hW rfl
    exact bodyPost_ret (v:=.agg #[.int .i64 0,.int .i64 0,.int .i64 0]) (by simp [results,Tryz.results8,go_sem,c0,c1,c2]) rfl ⟨by rw [HR.out];rfl,hWB⟩
end
end Go.Proofs.YtlpdjfimefjmcaaGreatDoor
namespace Go.Proofs.YtlpdjfimefjmcaaGreatDoor
open Go
def lblZ (s:SoZ) (f:Nat) (kd k:Nat):Nat :=
 if kd=1 then (match s.funcs[f]? with | some d=>(((d.params++d.vars)[k]?).map DeZ.label).getD 0 | none=>0)
 else if kd=2 then ((s.globals[k]?).map DeZ.label).getD 0
 else if kd=3 then ((s.arrays[k]?).map ArZ.label).getD 0
 else if kd=4 then ((s.channels[k]?).map DeZ.label).getD 0
 else 0
def nmdZ (s:SoZ) (f:Nat) (n:ByteArray) (kinds:List Nat):Option Nat:=match fndZ s f n with
 | none=>none
 | some (kd,k)=>if kd∈kinds then some (lblZ s f kd k) else none
def tmL (s:SoZ) (f:Nat) (t:TmZ):Option Nat :=
 if t.kind=2 then nmdZ s f t.name [1,2] else if t.kind=3 then nmdZ s f t.name [3] else some 0
def exL (s:SoZ) (f:Nat):List TmZ→Nat→Option Nat
 | [],a=>some a
 | t::l,a=>match tmL s f t with
  | none=>none
  | some x=>exL s f l (a ||| x)
def exprL (s:SoZ) (f:Nat) (e:List TmZ):Option Nat:=if f<s.funcs.length then exL s f e 0 else none
def exsF (s:SoZ) (f:Nat):List (List TmZ)→Nat→Nat
 | [],a=>a
 | e::l,a=>exsF s f l (a ||| (exprL s f e).getD 0)
def exsL (s:SoZ) (f:Nat) (l:List (List TmZ)):Nat:=exsF s f l 0
def arZ (x:StZ) (row:List Nat):Nat:=if x.kind=6∨x.kind=8 then row.length - 1 else row.length
def lvZ1 (x:StZ) (row:List Nat):Nat:=row.getD (arZ x row - 1) 0
def rowZ (s:SoZ) (f:Nat) (x:StZ) (row:List Nat):List Nat :=
 if x.kind=5∨x.kind=7 then row++[lvZ1 x row ||| exsL s f x.exprs] else if x.kind=8 then row.take (arZ x row) else row
def lvF (s:SoZ) (f:Nat):List StZ→List Nat→List Nat
 | [],_=>[]
 | x::l,row=>lvZ1 x row::lvF s f l (rowZ s f x row)
def levelsZ (s:SoZ) (f:Nat):List Nat:=match s.funcs[f]? with
 | none=>[]
 | some d=>if nstZ (d.body.map StZ.kind) then lvF s f d.body [d.level] else []
def minusN (a b:Nat):Nat:=a &&& (b ^^^ 18446744073709551615)
def within (a b:Nat):Bool:=minusN a b == 0
end Go.Proofs.YtlpdjfimefjmcaaGreatDoor
namespace Go.Proofs.YtlpdjfimefjmcaaGreatDoor
open Go Go.RowKit
theorem cast_wrap (x:Nat) (h:x<18446744073709551616):IntKind.u64.wrap (x:Int)=(x:Int):=by
 rw [IntKind.wrap_u64];omega
def orAll (zs:List Nat):Nat:=zs.foldl (fun x y=>x ||| y) 0
theorem orAll_snoc (zs:List Nat) (x:Nat):orAll (zs++[x])=orAll zs ||| x:=by simp [orAll]
theorem or_lt {a b:Nat} (ha:a<18446744073709551616) (hb:b<18446744073709551616):a ||| b<18446744073709551616 :=
 Nat.or_lt_two_pow (n:=64) ha hb
theorem orAll_lt (zs:List Nat) (h:∀z∈zs,z<18446744073709551616):orAll zs<18446744073709551616:=by
 unfold orAll
 have:∀(l:List Nat) (a:Nat),a<18446744073709551616→(∀z∈l,z<18446744073709551616)→l.foldl (fun x y=>x ||| y) a<18446744073709551616:=by
  intro l
  induction l with
  | nil=>intro a ha _;exact ha
  | cons x l ih=>intro a ha hl;exact ih _ (or_lt ha (hl x (by simp))) (fun z hz=>hl z (by simp [hz]))
 exact this zs 0 (by omega) h
theorem take_snoc_getD (zs:List Nat) (k:Nat) (h:k<zs.length):zs.take (k+1)=zs.take k++[zs.getD k 0]:=by
 rw [List.take_succ_eq_append_getElem h];simp [h]
set_option maxHeartbeats 400000 in
theorem join_any (b off c:Nat) (zs:List Nat) (hz:∀z∈zs,z<18446744073709551616) (hlen:zs.length≤maxLen) (w:World)
 (hc:∀i,i<zs.length→w.cell? ⟨b,off+i,none⟩=some (.int .u64 ((zs.getD i 0:Nat):Int))) :
 Calls Tryz.prog 25 #[.slice (some ⟨b,off,none⟩) zs.length c] w fun e w'=>e=.returned (.int .u64 (orAll zs:Nat))∧w=w':=by
 unfold maxLen at hlen
 go_enter Tryz.func25,Tryz.ntmps25
 go_wp2
 go_loop [3,8] (fun t i=>∃k:Nat,k≤zs.length∧i=.int .i64 k∧t=.int .u64 (orAll (zs.take k):Nat))
  (fun _ i=>zs.length - (intOf i).toNat)
 case atStart=>exact ⟨0,Nat.zero_le _,rfl,by simp [orAll]⟩
 case round =>
  obtain ⟨k,hk,rfl,rfl⟩:=hrel
  by_cases hlt:k<zs.length
  ·have hcell:=hc k hlt
   have hb1:orAll (zs.take k)<18446744073709551616:=orAll_lt _ (fun z hz'=>hz z (List.mem_of_mem_take hz'))
   have hb2:zs.getD k 0<18446744073709551616:=hz _ (by simp [hlt])
   have HO:=hid (bits_or_u64_nat _ _ hb1 hb2)
   have HS:=hid (take_snoc_getD zs k hlt)
   clear hb1 hb2
   go_wp2
   go_round
   case rel=>exact ⟨k+1,by omega,by go_num,by rw [HS.out,orAll_snoc,←HO.out];simp [hlt]⟩
   case measure=>simp [intOf];omega
  ·go_wp2
   go_ret
   exact ⟨by rw [List.take_of_length_le (by omega)];rfl,rfl⟩
def ofStep (a:Nat) (k:Int):Nat:=if 0≤k∧k<64 then a ||| 2 ^ k.toNat else a
def ofInts (zs:List Int):Nat:=zs.foldl ofStep 0
theorem ofInts_snoc (zs:List Int) (x:Int):ofInts (zs++[x])=ofStep (ofInts zs) x:=by simp [ofInts]
theorem pow_lt64 (n:Nat) (h:n<64):2 ^ n<18446744073709551616:=Nat.pow_lt_pow_right (a:=2) (m:=n) (n:=64) (by omega) h
theorem ofStep_lt (a:Nat) (k:Int) (ha:a<18446744073709551616):ofStep a k<18446744073709551616:=by
 unfold ofStep
 split
 ·exact or_lt ha (pow_lt64 _ (by omega))
 ·exact ha
theorem ofInts_lt (zs:List Int):ofInts zs<18446744073709551616:=by
 have:∀(l:List Int) (a:Nat),a<18446744073709551616→l.foldl ofStep a<18446744073709551616:=by
  intro l
  induction l with
  | nil=>intro a ha;exact ha
  | cons x l ih=>intro a ha;exact ih _ (ofStep_lt a x ha)
 exact this zs 0 (by omega)
theorem take_snoc_int (zs:List Int) (k:Nat) (h:k<zs.length):zs.take (k+1)=zs.take k++[zs.getD k 0]:=by
 rw [List.take_succ_eq_append_getElem h];simp [h]
theorem pow_wrap (n:Nat) (h:n<64):IntKind.u64.wrap ((2:Int) ^ n)=((2 ^ n:Nat):Int):=by
 have:((2:Int) ^ n)=((2 ^ n:Nat):Int):=by push_cast;rfl
 rw [this]
 exact cast_wrap _ (pow_lt64 n h)
set_option maxHeartbeats 400000 in
theorem of_any (b off c:Nat) (zs:List Int) (hlen:zs.length≤maxLen) (w:World)
 (hc:∀i,i<zs.length→w.cell? ⟨b,off+i,none⟩=some (.int .i64 (zs.getD i 0))) :
 Calls Tryz.prog 168 #[.slice (some ⟨b,off,none⟩) zs.length c] w fun e w'=>e=.returned (.int .u64 (ofInts zs:Nat))∧w=w':=by
 unfold maxLen at hlen
 go_enter Tryz.func168,Tryz.ntmps168
 go_wp2
 go_loop [3,8] (fun t i=>∃k:Nat,k≤zs.length∧i=.int .i64 k∧t=.int .u64 (ofInts (zs.take k):Nat))
  (fun _ i=>zs.length - (intOf i).toNat)
 case atStart=>exact ⟨0,Nat.zero_le _,rfl,by simp [ofInts]⟩
 case round =>
  obtain ⟨k,hk,rfl,rfl⟩:=hrel
  by_cases hlt:k<zs.length
  ·obtain ⟨x,hx⟩:∃x,zs.getD k 0=x:=⟨_,rfl⟩
   have hcell:=hc k hlt
   rw [hx] at hcell
   have HS:=hid (take_snoc_int zs k hlt)
   have HX:=hid hx
   clear hx hc
   have hb:=ofInts_lt (zs.take k)
   by_cases hr:0≤x∧x<64
   ·obtain ⟨h0,h1⟩:=hr
    have HO:=hid (bits_or_u64_nat _ _ hb (pow_lt64 x.toNat (by omega)))
    clear hb
    have HW:=hid (pow_wrap x.toNat (by omega))
    go_wp2
    go_round
    case rel=>exact ⟨k+1,by omega,by go_num,by rw [HS.out,HX.out,ofInts_snoc,ofStep,if_pos ⟨h0,h1⟩,←HO.out,HW.out]⟩
    case measure=>simp [intOf];omega
   ·clear hb
    by_cases h0:0≤x
    ·have h1:¬x<64:=fun h=>hr ⟨h0,h⟩
     have HR:=hid hr
     clear hr
     go_wp2
     go_round
     case rel=>exact ⟨k+1,by omega,by go_num,by rw [HS.out,HX.out,ofInts_snoc,ofStep,if_neg HR.out]⟩
     case measure=>simp [intOf];omega
    ·have HR:=hid hr
     clear hr
     go_wp2
     go_round
     case rel=>exact ⟨k+1,by omega,by go_num,by rw [HS.out,HX.out,ofInts_snoc,ofStep,if_neg HR.out]⟩
     case measure=>simp [intOf];omega
  ·go_wp2
   go_ret
   exact ⟨by rw [List.take_of_length_le (by omega)];rfl,rfl⟩
end Go.Proofs.YtlpdjfimefjmcaaGreatDoor
namespace Go.Proofs.YtlpdjfimefjmcaaGreatDoor
open Go Go.RowKit Go.Proofs.Mm
theorem bits_andNot_nat (a b:Nat) (ha:a<18446744073709551616) (hb:b<18446744073709551616):bits .andNot .u64 (a:Int) (b:Int)=((minusN a b:Nat):Int):=by
 have h1:(BitVec.ofInt 64 (a:Int)).toNat=a:=by
  rw [BitVec.ofInt_natCast,BitVec.toNat_ofNat];exact Nat.mod_eq_of_lt (by omega)
 have h2:(BitVec.ofInt 64 (b:Int)).toNat=b:=by
  rw [BitVec.ofInt_natCast,BitVec.toNat_ofNat];exact Nat.mod_eq_of_lt (by omega)
 have h3:(~~~(BitVec.ofInt 64 (b:Int))).toNat=b ^^^ 18446744073709551615:=by
  have: ~~~(BitVec.ofInt 64 (b:Int))=(BitVec.ofInt 64 (b:Int)) ^^^ BitVec.allOnes 64:=by
   rw [BitVec.xor_allOnes]
  rw [this,BitVec.toNat_xor,h2];rfl
 have hx:minusN a b<18446744073709551616:=by
  have:=@Nat.and_le_left a (b ^^^ 18446744073709551615)
  unfold minusN;omega
 show IntKind.u64.wrap ((BitVec.ofInt 64 (a:Int) &&& ~~~(BitVec.ofInt 64 (b:Int))).toNat:Int)=_
 rw [BitVec.toNat_and,h1,h3]
 exact cast_wrap _ hx
theorem minus_p (a b:Nat) (ha:a<u64B) (hb:b<u64B) (w:World):Calls Tryz.prog 98 #[.int .u64 a,.int .u64 b] w fun e w'=>e=.returned (.int .u64 (minusN a b:Nat))∧w=w':=by
 have he:=bits_andNot_nat a b ha hb
 rw [←he]
 clear he ha hb
 go_enter Tryz.func98,Tryz.ntmps98
 go_wp2
 go_ret
 exact ⟨rfl,rfl⟩
theorem within_p (a b:Nat) (ha:a<u64B) (hb:b<u64B) (w:World):Calls Tryz.prog 48 #[.int .u64 a,.int .u64 b] w fun e w'=>e=.returned (.bool (within a b))∧w=w':=by
 have HM:=hid (fun w=>minus_p a b ha hb w)
 have he:within a b=((minusN a b:Int) == 0):=by
  unfold within
  rw [Bool.eq_iff_iff,beq_iff_eq,beq_iff_eq];omega
 rw [he]
 clear he ha hb
 generalize minusN a b=m at *
 go_enter Tryz.func48,Tryz.ntmps48
 go_wp2_with fail
 go_at_call 98
 refine (HM.out _).mono ?_
 rintro e w' ⟨rfl,rfl⟩
 go_wp2
 go_ret
 exact ⟨rfl,rfl⟩
theorem join2_p (a b:Nat) (ha:a<u64B) (hb:b<u64B) (g:Nat) (w:World) (h:InB w g #[.int .u64 a,.int .u64 b] 29):Calls Tryz.prog 25 #[.slice (some ⟨g,0,none⟩) 2 2] w fun e w'=>e=.returned (.int .u64 ((a ||| b:Nat):Int))∧w=w':=by
 have hj:=join_any g 0 2 [a,b] (by intro z hz;simp only [List.mem_cons,List.not_mem_nil,or_false] at hz;rcases hz with rfl|rfl <;> assumption) (by simp [maxLen]) w (by
  intro i hi
  rcases i with _|_|i
  ·exact h.cell rfl
  ·exact h.cell rfl
  ·simp only [List.length_cons,List.length_nil] at hi;omega)
 have e:orAll [a,b]=a ||| b:=by simp [orAll]
 rw [e] at hj
 exact hj
def optV:Option Nat→Value
 | some x=>.tuple #[.int .u64 (x:Nat),.bool true]
 | none=>.tuple #[.int .u64 0,.bool false]
theorem wrapN_small {m:Nat} (h:m≤9223372036854775807):wrap64 (m:Int)=(m:Int):=by unfold wrap64;omega
section
variable {W:World}
set_option maxRecDepth 100000 in
theorem indexI_p (xs:List Nat) (y:Nat) (q:Option Addr) (c:Nat) (g:Nat) (hq:q=some ⟨g,0,none⟩) (hn:xs.length≤9) (h:∀j (hj:j<xs.length),W.cell? ⟨g,j,none⟩=some (.int .i64 (xs[j]:Int))) :
 Calls Tryz.prog 177 #[.slice q xs.length c,.int .i64 (y:Int)] W fun e w'=>(∃k:Int,e=.returned (.int .i64 k)∧(0≤k↔y∈xs)∧-1≤k∧k≤9)∧W=w':=by
 subst hq
 have HC:=hid h
 obtain ⟨n,hnn⟩:∃n,xs.length=n:=⟨_,rfl⟩
 have HN:=hid hnn
 rw [hnn] at hn ⊢
 clear hnn h
 go_enter Tryz.func177,Tryz.ntmps177
 go_wp2_with fail
 go_loop [8] (fun i=>∃k:Nat,k≤n∧i=.int .i64 k∧Hid (∀j (hj:j<xs.length),j<k→xs[j]≠y)) (fun i=>n - (intOf i).toNat)
 case atStart=>exact ⟨0,Nat.zero_le _,rfl,hid (fun j _ hk=>absurd hk (by omega))⟩
 case round =>
  obtain ⟨k,hk,rfl,HO⟩:=hrel
  by_cases hlt:k<n
  ·have hk1:k<xs.length:=by rw [HN.out];exact hlt
   have c0:=HC.out k hk1
   have hgl:=World.block_lt_of_cell? _ _ c0
   by_cases hy:xs[k]=y
   ·have HY:=hid (show y∈xs from hy ▸ List.getElem_mem hk1)
    rw [hy] at c0
    clear hy hk1
    have hki:(k:Int)<(n:Int):=by omega
    go_wp2
    go_ret
    exact ⟨⟨k,rfl,⟨fun _=>HY.out,fun _=>by omega⟩,by omega,by omega⟩,rfl⟩
   ·have hb:((y:Int) == (xs[k]:Int))=false:=by rw [beq_eq_false_iff_ne];omega
    have HO2:=hid (show ∀j (hj:j<xs.length),j<k+1→xs[j]≠y from fun j hj hk2=>by
     by_cases e:j=k
     ·subst e;exact hy
     ·exact HO.out j hj (by omega))
    clear hy
    generalize xs[k]=x at *
    have hki:(k:Int)<(n:Int):=by omega
    go_wp2
    go_round
    case rel=>exact ⟨k+1,by omega,by go_num,HO2⟩
    case measure=>simp [intOf];omega
  ·obtain rfl:n=k:=by omega
   have HNO:=hid (show ¬y∈xs from fun hm=>by
    obtain ⟨j,hj,e⟩:=List.getElem_of_mem hm
    exact HO.out j hj (by rw [←HN.out];exact hj) e)
   go_wp2
   go_ret
   exact ⟨⟨-1,rfl,⟨fun h=>absurd h (by decide),fun h=>absurd h HNO.out⟩,by decide,by decide⟩,rfl⟩
set_option maxRecDepth 100000 in
theorem containsI_p (xs:List Nat) (y:Nat) (q:Option Addr) (c:Nat) (g:Nat) (hq:q=some ⟨g,0,none⟩) (hn:xs.length≤9) (h:∀j (hj:j<xs.length),W.cell? ⟨g,j,none⟩=some (.int .i64 (xs[j]:Int))) :
 Calls Tryz.prog 162 #[.slice q xs.length c,.int .i64 (y:Int)] W fun e w'=>e=.returned (.bool (decide (y∈xs)))∧W=w':=by
 have HI:=hid (indexI_p xs y q c g hq hn h)
 obtain ⟨n,hnn⟩:∃n,xs.length=n:=⟨_,rfl⟩
 rw [hnn] at HI ⊢
 clear hnn h hq hn
 go_enter Tryz.func162,Tryz.ntmps162
 go_wp2_with fail
 go_at_call 177
 refine HI.out.mono ?_
 rintro e w' ⟨⟨k,rfl,hk,_,_⟩,rfl⟩
 have HK:=hid hk
 clear hk
 go_wp2
 go_ret
 refine ⟨?_,rfl⟩
 have:(decide (0≤k))=decide (y∈xs):=by rw [decide_eq_decide];exact HK.out
 rw [←this];rfl
variable {lt:Bool} {C:Cl} {s:SoZ} {q1:Option Addr} {c1:Nat} {q2:Option Addr} {c2:Nat} {q3:Option Addr} {c3:Nat} {q4:Option Addr} {c4:Nat} {q5:Option Addr} {c5:Nat}
set_option maxRecDepth 100000 in
theorem isFunc_p (n1 n2 n3 n4 n5:Nat) (f:Int):Calls Tryz.prog 24 #[.agg #[.slice q1 n1 c1,.slice q2 n2 c2,.slice q3 n3 c3,.slice q4 n4 c4,.slice q5 n5 c5],.int .i64 f] W (RetB (.bool (decide (0≤f∧f<n5))) W):=by
 by_cases h0:0≤f
 ·have hb:decide (0≤f)=true:=decide_eq_true h0
  have HR:=hid (show decide (0≤f∧f<n5)=decide (f<n5) by simp [h0])
  rw [HR.out]
  go_enter Tryz.func24,Tryz.ntmps24
  go_wp2
  go_ret
  exact ⟨rfl,by repeat (first|exact Below.refl _ _|refine bl_al ?_ _)⟩
 ·have hb:decide (0≤f)=false:=decide_eq_false h0
  have HR:=hid (show decide (0≤f∧f<n5)=false by simp [h0])
  rw [HR.out]
  go_enter Tryz.func24,Tryz.ntmps24
  go_wp2
  go_ret
  exact ⟨rfl,by repeat (first|exact Below.refl _ _|refine bl_al ?_ _)⟩
set_option maxRecDepth 100000 in
theorem locLab_p (d:FnZ) {qp qr qv qb:Option Addr} {cp cr cv cb:Nat} (hp:DesR lt C (.slice qp d.params.length cp) d.params) (hv:DesR lt C (.slice qv d.vars.length cv) d.vars) (hC:CLe C (wC W)) (nr nb:Nat) (k:Nat) (hk:k<(d.params++d.vars).length) :
 Calls Tryz.prog 99 #[.agg #[.string d.name,.int .u64 (d.level:Nat),.slice qp d.params.length cp,.slice qr nr cr,.slice qv d.vars.length cv,.slice qb nb cb],.int .i64 (k:Int)] W (RetB (.int .u64 (((d.params++d.vars)[k].label:Nat):Int)) W):=by
 have hlp:=slx_len hp
 have hlv:=slx_len hv
 obtain ⟨L,hL⟩:∃L,(d.params++d.vars)[k].label=L:=⟨_,rfl⟩
 rw [hL]
 have HL:=hid hL
 have hkk:k<d.params.length+d.vars.length:=by rw [List.length_append] at hk;exact hk
 by_cases hlt:k<d.params.length
 ·obtain ⟨g,o,rfl,-,a1,-⟩:=hp.cells k hlt
  have e1:=hC _ _ a1
  unfold wC at e1
  have el:d.params[k].label=L:=by rw [←HL.out,List.getElem_append_left hlt]
  rw [el] at e1
  have hgl:=World.block_lt_of_cell? _ _ e1
  clear a1 el hL HL hp hv hC hk
  generalize d.params.length=np at *
  generalize d.vars.length=nv at *
  have hki:(k:Int)<(np:Int):=by omega
  go_enter Tryz.func99,Tryz.ntmps99
  go_wp2
  go_ret
  exact ⟨rfl,by repeat (first|exact Below.refl _ _|refine bl_al ?_ _)⟩
 ·have hlt2:k - d.params.length<d.vars.length:=by omega
  obtain ⟨g,o,rfl,-,a1,-⟩:=hv.cells (k - d.params.length) hlt2
  have e1:=hC _ _ a1
  unfold wC at e1
  have el:d.vars[k - d.params.length].label=L:=by rw [←HL.out,List.getElem_append_right (by omega)]
  rw [el] at e1
  have hgl:=World.block_lt_of_cell? _ _ e1
  clear a1 el hL HL hp hv hC hk
  generalize d.params.length=np at *
  generalize d.vars.length=nv at *
  obtain ⟨m,rfl⟩:∃m,k=np+m:=⟨k - np,by omega⟩
  rw [Nat.add_sub_cancel_left] at e1 hlt2
  have hki:¬((np+m:Nat):Int)<(np:Int):=by omega
  have hmi:(m:Int)<(nv:Int):=by omega
  have hsub:wrap64 (((np+m:Nat):Int) - (np:Int))=(m:Int):=by
   rw [show ((np+m:Nat):Int) - (np:Int)=(m:Int) by omega]
   exact wrapN_small (by omega)
  go_enter Tryz.func99,Tryz.ntmps99
  go_wp2
  go_ret
  exact ⟨rfl,by repeat (first|exact Below.refl _ _|refine bl_al ?_ _)⟩
end
def RefOk (s:SoZ) (f kd k:Nat):Prop:=(kd=1∧∃hf:f<s.funcs.length,k<(s.funcs[f].params++s.funcs[f].vars).length)∨(kd=2∧k<s.globals.length)∨(kd=3∧k<s.arrays.length)∨(kd=4∧k<s.channels.length)∨(kd=5∧k<s.funcs.length)
theorem loc_lt {s:SoZ} {f:Nat} {n:ByteArray} {k:Nat} (h:locZ s (f:Int) n=some k):∃hf:f<s.funcs.length,k<(s.funcs[f].params++s.funcs[f].vars).length:=by
 by_cases hf:f<s.funcs.length
 ·refine ⟨hf,?_⟩
  rw [locZ_at hf] at h
  rw [List.length_append]
  split at h
  ·rename_i k' hk
   injection h with h
   have:=idx_lt hk
   rw [List.length_map] at this
   omega
  ·cases hx:idxZ (s.funcs[f].vars.map DeZ.name) n with
   | none=>rw [hx] at h;cases h
   | some x =>
    rw [hx] at h
    simp only [Option.map_some,Option.some.injEq] at h
    have:=idx_lt hx
    rw [List.length_map] at this
    omega
 ·rw [locZ_out (by omega)] at h;cases h
theorem fnd_ref {s:SoZ} {f:Nat} {n:ByteArray} {kd k:Nat} (h:fndZ s (f:Int) n=some (kd,k)):RefOk s f kd k:=by
 unfold fndZ at h
 split at h
 ·rename_i x hx
  injection h with h;injection h with h1 h2
  subst h1 h2
  exact .inl ⟨rfl,loc_lt hx⟩
 ·split at h
  ·rename_i x hx
   injection h with h;injection h with h1 h2
   subst h1 h2
   have:=idx_lt hx;rw [List.length_map] at this
   exact .inr (.inl ⟨rfl,this⟩)
  ·split at h
   ·rename_i x hx
    injection h with h;injection h with h1 h2
    subst h1 h2
    have:=idx_lt hx;rw [List.length_map] at this
    exact .inr (.inr (.inl ⟨rfl,this⟩))
   ·split at h
    ·rename_i x hx
     injection h with h;injection h with h1 h2
     subst h1 h2
     have:=idx_lt hx;rw [List.length_map] at this
     exact .inr (.inr (.inr (.inl ⟨rfl,this⟩)))
    ·rename_i hx
     cases hx5:idxZ (s.funcs.map FnZ.name) n with
     | none=>rw [hx5] at h;cases h
     | some x =>
      rw [hx5] at h
      injection h with h;injection h with h1 h2
      subst h1 h2
      have:=idx_lt hx5;rw [List.length_map] at this
      exact .inr (.inr (.inr (.inr ⟨rfl,this⟩)))
section
variable {W:World} {lt:Bool} {C:Cl} {s:SoZ} {q1:Option Addr} {c1:Nat} {q2:Option Addr} {c2:Nat} {q3:Option Addr} {c3:Nat} {q4:Option Addr} {c4:Nat} {q5:Option Addr} {c5:Nat}
set_option maxRecDepth 100000 in
set_option maxHeartbeats 4000000 in
theorem label_p (h:SrcO lt C s q1 c1 q2 c2 q3 c3 q4 c4 q5 c5) (hC:CLe C (wC W)) (f kd k:Nat) (hr:RefOk s f kd k) :
 Calls Tryz.prog 50 #[.agg (srV s q1 c1 q2 c2 q3 c3 q4 c4 q5 c5),.int .i64 (f:Int),.agg #[.int .i64 (kd:Int),.int .i64 (k:Int)]] W (RetB (.int .u64 ((lblZ s f kd k:Nat):Int)) W):=by
 unfold srV
 have hl2:=slx_len h.gl
 have hl3:=slx_len h.ar
 have hl4:=slx_len h.ch
 have hl5:=slx_len h.fn
 rcases hr with ⟨rfl,hf,hk⟩|⟨rfl,hk⟩|⟨rfl,hk⟩|⟨rfl,hk⟩|⟨rfl,hk⟩
 ·obtain ⟨g,o,qp,cp,qr,cr,qv,cv,qb,cb,rfl,a0,a1,a2,a3,a4,a5,-,hp,hrr,hv,hb⟩:=h.fn.cells f hf
  have HL:=hid (fun (w:World) (hw:Below W.heap.size W w) (nr nb:Nat)=>locLab_p (W:=w) s.funcs[f] (qr:=qr) (qb:=qb) (cr:=cr) (cb:=cb) hp hv (hC.trans (below_cle hw)) nr nb k hk)
  have hlb:lblZ s f 1 k=(s.funcs[f].params++s.funcs[f].vars)[k].label:=by
   unfold lblZ
   rw [if_pos rfl,List.getElem?_eq_getElem hf]
   simp only
   rw [List.getElem?_eq_getElem hk]
   rfl
  rw [hlb]
  have e0:W.cell? ⟨g,o+f*6,none⟩=some (.string s.funcs[f].name):=hC _ _ a0
  have e1:W.cell? ⟨g,o+f*6+1,none⟩=some (.int .u64 (s.funcs[f].level:Nat)):=hC _ _ a1
  have e2:W.cell? ⟨g,o+f*6+2,none⟩=some (.slice qp s.funcs[f].params.length cp):=hC _ _ a2
  have e3:W.cell? ⟨g,o+f*6+3,none⟩=some (.slice qr s.funcs[f].results.length cr):=hC _ _ a3
  have e4:W.cell? ⟨g,o+f*6+4,none⟩=some (.slice qv s.funcs[f].vars.length cv):=hC _ _ a4
  have e5:W.cell? ⟨g,o+f*6+5,none⟩=some (.slice qb s.funcs[f].body.length cb):=hC _ _ a5
  have HL2:=hid (fun w hw=>HL.out w hw s.funcs[f].results.length s.funcs[f].body.length)
  generalize (s.funcs[f].params++s.funcs[f].vars)[k].label=L at *
  have hfi:(f:Int)<(s.funcs.length:Int):=by omega
  clear HL hlb a0 a1 a2 a3 a4 a5 hp hrr hv hb h hk
  generalize s.funcs[f]=d at *
  clear hf
  generalize s.principals.length=n1 at *
  generalize s.globals.length=n2 at *
  generalize s.arrays.length=n3 at *
  generalize s.channels.length=n4 at *
  generalize s.funcs.length=n5 at *
  generalize d.params.length=np at *
  generalize d.results.length=nr at *
  generalize d.vars.length=nv at *
  generalize d.body.length=nb at *
  obtain ⟨b,hb⟩:∃b,W.heap.size=b:=⟨_,rfl⟩
  have hglt:=World.block_lt_of_cell? _ _ e0
  go_enter Tryz.func50,Tryz.ntmps50
  go_wp2_with fail
  have hbA:=bl_al (bl_al (Below.refl W.heap.size W) (.cells #[.slice q1 n1 c1,.slice q2 n2 c2,.slice q3 n3 c3,.slice q4 n4 c4,.slice (some ⟨g,o,none⟩) n5 c5] 27)) (.cells #[.int .i64 1,.int .i64 (k:Int)] 54)
  have j0:=(InB.new' (w:=W) #[.slice q1 n1 c1,.slice q2 n2 c2,.slice q3 n3 c3,.slice q4 n4 c4,.slice (some ⟨g,o,none⟩) n5 c5] 27 hb).le (bl_al (Below.refl _ _) (.cells #[.int .i64 1,.int .i64 (k:Int)] 54))
  have j1:=InB.new' (w:=W.alloc (.cells #[.slice q1 n1 c1,.slice q2 n2 c2,.slice q3 n3 c3,.slice q4 n4 c4,.slice (some ⟨g,o,none⟩) n5 c5] 27)) #[.int .i64 1,.int .i64 (k:Int)] 54 (b:=b+1) (by simp [hb])
  have HBA:=hid hbA
  have HS:=hid (fun (w:World) (hw:Below ((W.alloc (.cells #[.slice q1 n1 c1,.slice q2 n2 c2,.slice q3 n3 c3,.slice q4 n4 c4,.slice (some ⟨g,o,none⟩) n5 c5] 27)).alloc (.cells #[.int .i64 1,.int .i64 (k:Int)] 54)).heap.size ((W.alloc (.cells #[.slice q1 n1 c1,.slice q2 n2 c2,.slice q3 n3 c3,.slice q4 n4 c4,.slice (some ⟨g,o,none⟩) n5 c5] 27)).alloc (.cells #[.int .i64 1,.int .i64 (k:Int)] 54)) w)=>show w.cell? ⟨b,4,none⟩=some (.slice (some ⟨g,o,none⟩) n5 c5)∧w.cell? ⟨b+1,1,none⟩=some (.int .i64 (k:Int))∧w.cell? ⟨g,o+f*6,none⟩=some (.string d.name)∧w.cell? ⟨g,o+f*6+1,none⟩=some (.int .u64 (d.level:Nat))∧w.cell? ⟨g,o+f*6+2,none⟩=some (.slice qp np cp)∧w.cell? ⟨g,o+f*6+3,none⟩=some (.slice qr nr cr)∧w.cell? ⟨g,o+f*6+4,none⟩=some (.slice qv nv cv)∧w.cell? ⟨g,o+f*6+5,none⟩=some (.slice qb nb cb) from
   ⟨(j0.le hw).cell rfl,(j1.le hw).cell rfl,cell_b (cell_b e0 hbA) hw,cell_b (cell_b e1 hbA) hw,cell_b (cell_b e2 hbA) hw,cell_b (cell_b e3 hbA) hw,cell_b (cell_b e4 hbA) hw,cell_b (cell_b e5 hbA) hw⟩)
  clear e0 e1 e2 e3 e4 e5 hbA j0 j1
  try rw [hb]
  generalize (W.alloc (.cells #[.slice q1 n1 c1,.slice q2 n2 c2,.slice q3 n3 c3,.slice q4 n4 c4,.slice (some ⟨g,o,none⟩) n5 c5] 27)).alloc (.cells #[.int .i64 1,.int .i64 (k:Int)] 54)=w0 at *
  go_region_held_law (fun w=>w.cell? ⟨b,4,none⟩=some (.slice (some ⟨g,o,none⟩) n5 c5)∧w.cell? ⟨b+1,1,none⟩=some (.int .i64 (k:Int))∧w.cell? ⟨g,o+f*6,none⟩=some (.string d.name)∧w.cell? ⟨g,o+f*6+1,none⟩=some (.int .u64 (d.level:Nat))∧w.cell? ⟨g,o+f*6+2,none⟩=some (.slice qp np cp)∧w.cell? ⟨g,o+f*6+3,none⟩=some (.slice qr nr cr)∧w.cell? ⟨g,o+f*6+4,none⟩=some (.slice qv nv cv)∧w.cell? ⟨g,o+f*6+5,none⟩=some (.slice qb nb cb))
   ((refine HS.out _ ?_;repeat (first | exact Below.refl _ _ | refine bl_al ?_ _ | refine bl_dr ?_ | refine bl_dN ?_ _ | refine bl_tr ?_ hbs)))
   ((go_at_call 99;refine (HL2.out _ (bl_tr HBA.out (by repeat (first | exact Below.refl _ _ | refine bl_al ?_ _ | refine bl_dr ?_ | refine bl_dN ?_ _)))).mono ?_;rintro e ws ⟨rfl,hbs⟩))
  all_goals
   go_wp2
   go_ret
   refine ⟨rfl,bl_tr HBA.out ?_⟩
   repeat (first|exact Below.refl _ _|refine bl_al ?_ _|refine bl_dr ?_|refine bl_dN ?_ _|refine bl_tr ?_ hbs)
 ·obtain ⟨g,o,rfl,-,a1,-⟩:=h.gl.cells k hk
  have e1:=hC _ _ a1
  unfold wC at e1
  have hlb:lblZ s f 2 k=s.globals[k].label:=by unfold lblZ;rw [if_neg (by decide),if_pos rfl,List.getElem?_eq_getElem hk];rfl
  rw [hlb]
  have hglt:=World.block_lt_of_cell? _ _ e1
  have hki:(k:Int)<(s.globals.length:Int):=by omega
  clear a1 hlb h
  generalize s.globals[k].label=L at *
  clear hk
  generalize s.globals.length=n2 at *
  go_enter Tryz.func50,Tryz.ntmps50
  go_wp2
  go_ret
  exact ⟨rfl,by repeat (first|exact Below.refl _ _|refine bl_al ?_ _)⟩
 ·obtain ⟨g,o,rfl,-,-,a1,-⟩:=h.ar.cells k hk
  have e1:=hC _ _ a1
  unfold wC at e1
  have hlb:lblZ s f 3 k=s.arrays[k].label:=by unfold lblZ;rw [if_neg (by decide),if_neg (by decide),if_pos rfl,List.getElem?_eq_getElem hk];rfl
  rw [hlb]
  have hglt:=World.block_lt_of_cell? _ _ e1
  have hki:(k:Int)<(s.arrays.length:Int):=by omega
  clear a1 hlb h
  generalize s.arrays[k].label=L at *
  clear hk
  generalize s.arrays.length=n3 at *
  go_enter Tryz.func50,Tryz.ntmps50
  go_wp2
  go_ret
  exact ⟨rfl,by repeat (first|exact Below.refl _ _|refine bl_al ?_ _)⟩
 ·obtain ⟨g,o,rfl,-,a1,-⟩:=h.ch.cells k hk
  have e1:=hC _ _ a1
  unfold wC at e1
  have hlb:lblZ s f 4 k=s.channels[k].label:=by unfold lblZ;rw [if_neg (by decide),if_neg (by decide),if_neg (by decide),if_pos rfl,List.getElem?_eq_getElem hk];rfl
  rw [hlb]
  have hglt:=World.block_lt_of_cell? _ _ e1
  have hki:(k:Int)<(s.channels.length:Int):=by omega
  clear a1 hlb h
  generalize s.channels[k].label=L at *
  clear hk
  generalize s.channels.length=n4 at *
  go_enter Tryz.func50,Tryz.ntmps50
  go_wp2
  go_ret
  exact ⟨rfl,by repeat (first|exact Below.refl _ _|refine bl_al ?_ _)⟩
 ·have hlb:lblZ s f 5 k=0:=by unfold lblZ;simp
  rw [hlb]
  clear h hlb
  go_enter Tryz.func50,Tryz.ntmps50
  go_wp2
  go_ret
  exact ⟨rfl,by repeat (first|exact Below.refl _ _|refine bl_al ?_ _)⟩
end
theorem five_cells' {w:World} {b:Nat} {x0 x1 x2 x3 x4:Value} {T:TypeId} (h:InB w b #[x0,x1,x2,x3,x4] T):w.cell? ⟨b,0,none⟩=some x0∧w.cell? ⟨b,1,none⟩=some x1∧w.cell? ⟨b,2,none⟩=some x2∧w.cell? ⟨b,3,none⟩=some x3∧w.cell? ⟨b,4,none⟩=some x4 :=
 ⟨h.cell rfl,h.cell rfl,h.cell rfl,h.cell rfl,h.cell rfl⟩
section
variable {W:World} {lt:Bool} {C:Cl} {s:SoZ} {q1:Option Addr} {c1:Nat} {q2:Option Addr} {c2:Nat} {q3:Option Addr} {c3:Nat} {q4:Option Addr} {c4:Nat} {q5:Option Addr} {c5:Nat}
set_option maxRecDepth 100000 in
set_option maxHeartbeats 4000000 in
theorem named_p (h:SrcO lt C s q1 c1 q2 c2 q3 c3 q4 c4 q5 c5) (hC:CLe C (wC W)) (f:Nat) (nm:ByteArray) (ks:List Nat) (q:Option Addr) (c g:Nat) (hq:q=some ⟨g,0,none⟩) (hn:ks.length≤9) (hks:∀j (hj:j<ks.length),W.cell? ⟨g,j,none⟩=some (.int .i64 (ks[j]:Int))) :
 Calls Tryz.prog 136 #[.agg (srV s q1 c1 q2 c2 q3 c3 q4 c4 q5 c5),.int .i64 (f:Int),.string nm,.slice q ks.length c] W (RetB (optV (nmdZ s f nm ks)) W):=by
 have HF:=hid (fun (w:World) (hw:Below W.heap.size W w)=>find_q (W:=w) h (hC.trans (below_cle hw)) (f:Int) nm)
 have HLB:=hid (fun (w:World) (hw:Below W.heap.size W w) kd k (hr:RefOk s f kd k)=>label_p (W:=w) h (hC.trans (below_cle hw)) f kd k hr)
 have HCO:=hid (fun (w:World) (hw:Below W.heap.size W w) (y:Nat)=>containsI_p (W:=w) ks y q c g hq hn (fun j hj=>cell_b (hks j hj) hw))
 have HR:=hid (fun kd k (e:fndZ s (f:Int) nm=some (kd,k))=>fnd_ref e)
 have HN:=hid (show nmdZ s f nm ks=match fndZ s (f:Int) nm with | none=>none | some (kd,k)=>if kd∈ks then some (lblZ s f kd k) else none from rfl)
 unfold srV at HF HLB ⊢
 generalize nmdZ s f nm ks=R at *
 generalize fndZ s (f:Int) nm=X at *
 clear h hC hks hq
 generalize s.principals.length=n1 at *
 generalize s.globals.length=n2 at *
 generalize s.arrays.length=n3 at *
 generalize s.channels.length=n4 at *
 generalize s.funcs.length=n5 at *
 obtain ⟨m,hm⟩:∃m,ks.length=m:=⟨_,rfl⟩
 rw [hm] at HCO ⊢
 clear hm hn
 obtain ⟨b,hb⟩:∃b,W.heap.size=b:=⟨_,rfl⟩
 go_enter Tryz.func136,Tryz.ntmps136
 go_wp2_with fail
 have hbA:=bl_al (Below.refl W.heap.size W) (.cells #[.slice q1 n1 c1,.slice q2 n2 c2,.slice q3 n3 c3,.slice q4 n4 c4,.slice q5 n5 c5] 27)
 have j0:=InB.new' (w:=W) #[.slice q1 n1 c1,.slice q2 n2 c2,.slice q3 n3 c3,.slice q4 n4 c4,.slice q5 n5 c5] 27 hb
 try rw [hb]
 generalize W.alloc (.cells #[.slice q1 n1 c1,.slice q2 n2 c2,.slice q3 n3 c3,.slice q4 n4 c4,.slice q5 n5 c5] 27)=w0 at *
 have HBA:=hid hbA
 have HJ0:=hid j0
 clear hb hbA j0
 go_at_call 13
 refine (HF.out _ HBA.out).mono ?_
 rintro e w1 ⟨rfl,hb1⟩
 have HB1:=hid (bl_tr HBA.out hb1)
 have HJ1:=hid (HJ0.out.le hb1)
 clear hb1
 cases X with
 | none =>
  have HX:=hid (show R=none from HN.out)
  unfold refV
  go_wp2
  refine bodyPost_ret (results_tmp2 rfl _ _ _) rfl ⟨by rw [HX.out];rfl,?_⟩
  repeat (first|exact HB1.out|refine bl_al ?_ _)
 | some z =>
  obtain ⟨kd,k⟩:=z
  have hRk:=HR.out kd k rfl
  have HLL:=hid (fun w hw=>HLB.out w hw kd k hRk)
  have HNN:=hid (show R=if kd∈ks then some (lblZ s f kd k) else none from HN.out)
  clear hRk
  generalize lblZ s f kd k=L at *
  have HB2:=hid (bl_al HB1.out (.cells #[.int .i64 (kd:Int),.int .i64 (k:Int)] 54))
  have HJ2:=hid (HJ1.out.le (bl_al (Below.refl _ _) (.cells #[.int .i64 (kd:Int),.int .i64 (k:Int)] 54)))
  have HI2:=hid (InB.new w1 #[.int .i64 (kd:Int),.int .i64 (k:Int)] 54)
  unfold refV
  go_wp2_with fail
  go_at_call 162
  obtain ⟨b9,hb9⟩:∃b9,w1.heap.size=b9:=⟨_,rfl⟩
  rw [hb9] at HI2
  try rw [hb9]
  clear hb9
  generalize w1.alloc (.cells #[.int .i64 (kd:Int),.int .i64 (k:Int)] 54)=w2 at *
  refine (HCO.out _ HB2.out kd).mono ?_
  rintro e w' ⟨rfl,rfl⟩
  by_cases hk:kd∈ks
  ·have hd:decide (kd∈ks)=true:=decide_eq_true hk
   have HRR:=hid (show R=some L by rw [HNN.out,if_pos hk])
   clear hk
   rw [hd]
   obtain ⟨x0,x1,x2,x3,x4⟩:=five_cells' HJ2.out
   have y0:=HI2.out.cell (j:=0) rfl
   have y1:=HI2.out.cell (j:=1) rfl
   have hl9:=HI2.out.lt
   have hlb:=HJ2.out.lt
   go_wp2_with fail
   go_at_call 50
   refine (HLL.out _ HB2.out).mono ?_
   rintro e w3 ⟨rfl,hb3⟩
   go_wp2
   exact bodyPost_ret (results_tmp2 rfl _ _ _) rfl ⟨by rw [HRR.out];rfl,bl_tr HB2.out hb3⟩
  ·have hd:decide (kd∈ks)=false:=decide_eq_false hk
   have HRR:=hid (show R=none by rw [HNN.out,if_neg hk])
   clear hk
   rw [hd]
   go_wp2
   exact bodyPost_ret (results_tmp2 rfl _ _ _) rfl ⟨by rw [HRR.out];rfl,HB2.out⟩
end
theorem nmd_lt {s:SoZ} {f:Nat} {n:ByteArray} {ks:List Nat} {x:Nat} (hl:∀kd k,lblZ s f kd k<u64B) (h:nmdZ s f n ks=some x):x<u64B:=by
 unfold nmdZ at h
 split at h
 ·cases h
 ·split at h
  ·injection h with h;rw [←h];exact hl _ _
  ·cases h
section
variable {W:World} {lt:Bool} {C:Cl} {s:SoZ} {q1:Option Addr} {c1:Nat} {q2:Option Addr} {c2:Nat} {q3:Option Addr} {c3:Nat} {q4:Option Addr} {c4:Nat} {q5:Option Addr} {c5:Nat}
theorem lbl_lt (h:SrcO lt C s q1 c1 q2 c2 q3 c3 q4 c4 q5 c5) (f kd k:Nat):lblZ s f kd k<u64B:=by
 have h0:0<u64B:=by decide
 have hd:∀(q:Option Addr) (n c:Nat) (l:List DeZ) (j:Nat),DesR lt C (.slice q n c) l→((l[j]?).map DeZ.label).getD 0<u64B:=fun q n c l j hl=>by
  by_cases hj:j<l.length
  ·obtain ⟨g,o,e,a,b,hb⟩:=hl.cells j hj
   rw [List.getElem?_eq_getElem hj];exact hb
  ·rw [List.getElem?_eq_none (by omega)];exact h0
 unfold lblZ
 split
 ·cases hf:s.funcs[f]? with
  | none=>exact h0
  | some d =>
   simp only
   obtain ⟨hf1,hf2⟩:=List.getElem?_eq_some_iff.1 hf
   obtain ⟨g,o,qp,cp,qr,cr,qv,cv,qb,cb,e,a0,a1,a2,a3,a4,a5,-,hp,hrr,hv,hb⟩:=h.fn.cells f hf1
   rw [hf2] at hp hv
   by_cases hk:k<d.params.length
   ·have:=hd _ _ _ _ k hp
    rw [List.getElem?_append_left hk];exact this
   ·have:=hd _ _ _ _ (k - d.params.length) hv
    rw [List.getElem?_append_right (by omega)];exact this
 ·split
  ·exact hd _ _ _ _ _ h.gl
  ·split
   ·by_cases hj:k<s.arrays.length
    ·obtain ⟨g,o,e,a,b,c,hb⟩:=h.ar.cells k hj
     rw [List.getElem?_eq_getElem hj];exact hb
    ·rw [List.getElem?_eq_none (by omega)];exact h0
   ·split
    ·exact hd _ _ _ _ _ h.ch
    ·exact h0
theorem tm_lt (h:SrcO lt C s q1 c1 q2 c2 q3 c3 q4 c4 q5 c5) {f:Nat} {t:TmZ} {x:Nat} (hx:tmL s f t=some x):x<u64B:=by
 unfold tmL at hx
 split at hx
 ·exact nmd_lt (lbl_lt h f) hx
 ·split at hx
  ·exact nmd_lt (lbl_lt h f) hx
  ·injection hx with hx;rw [←hx];decide
theorem ex_lt (h:SrcO lt C s q1 c1 q2 c2 q3 c3 q4 c4 q5 c5) {f:Nat}:∀{e:List TmZ} {a x:Nat},a<u64B→exL s f e a=some x→x<u64B
 | [],a,x,ha,hx=>by injection hx with hx;rw [←hx];exact ha
 | t::e,a,x,ha,hx=>by
  unfold exL at hx
  cases ht:tmL s f t with
  | none=>rw [ht] at hx;cases hx
  | some y=>rw [ht] at hx;exact ex_lt h (or_lt ha (tm_lt h ht)) hx
theorem expr_lt (h:SrcO lt C s q1 c1 q2 c2 q3 c3 q4 c4 q5 c5) (f:Nat) (e:List TmZ):(exprL s f e).getD 0<u64B:=by
 unfold exprL
 split
 ·cases hx:exL s f e 0 with
  | none=>show (0:Nat)<u64B;decide
  | some x=>exact ex_lt h (by decide) hx
 ·show (0:Nat)<u64B;decide
theorem exs_lt (h:SrcO lt C s q1 c1 q2 c2 q3 c3 q4 c4 q5 c5) (f:Nat):∀(l:List (List TmZ)) (a:Nat),a<u64B→exsF s f l a<u64B
 | [],a,ha=>ha
 | e::l,a,ha=>by unfold exsF;exact exs_lt h f l _ (or_lt ha (expr_lt h f e))
set_option maxRecDepth 100000 in
set_option maxHeartbeats 4000000 in
theorem term_p (h:SrcO lt C s q1 c1 q2 c2 q3 c3 q4 c4 q5 c5) (hC:CLe C (wC W)) (f:Nat) (t:TmZ) :
 Calls Tryz.prog 100 #[.agg (srV s q1 c1 q2 c2 q3 c3 q4 c4 q5 c5),.int .i64 (f:Int),.agg #[.int .i64 t.kind,.int .i64 t.value,.string t.name]] W (RetB (optV (tmL s f t)) W):=by
 have HNM:=hid (fun (w:World) (hw:Below W.heap.size W w) (ks:List Nat) (g n:Nat) (hnn:n=ks.length) (hn:ks.length≤9) (hks:∀j (hj:j<ks.length),w.cell? ⟨g,j,none⟩=some (.int .i64 (ks[j]:Int)))=>show Calls Tryz.prog 136 #[.agg (srV s q1 c1 q2 c2 q3 c3 q4 c4 q5 c5),.int .i64 (f:Int),.string t.name,.slice (some ⟨g,0,none⟩) n n] w (RetB (optV (nmdZ s f t.name ks)) w) from by
  subst hnn;exact named_p (W:=w) h (hC.trans (below_cle hw)) f t.name ks _ _ g rfl hn hks)
 have HT:=hid (show tmL s f t=if t.kind=2 then nmdZ s f t.name [1,2] else if t.kind=3 then nmdZ s f t.name [3] else some 0 from rfl)
 unfold srV at HNM ⊢
 generalize tmL s f t=R at *
 obtain ⟨kd,vl,nm⟩:=t
 simp only at HNM HT ⊢
 clear h hC
 generalize s.principals.length=n1 at *
 generalize s.globals.length=n2 at *
 generalize s.arrays.length=n3 at *
 generalize s.channels.length=n4 at *
 generalize s.funcs.length=n5 at *
 obtain ⟨b,hb⟩:∃b,W.heap.size=b:=⟨_,rfl⟩
 have hbA:=bl_al (bl_al (Below.refl W.heap.size W) (.cells #[.slice q1 n1 c1,.slice q2 n2 c2,.slice q3 n3 c3,.slice q4 n4 c4,.slice q5 n5 c5] 27)) (.cells #[.int .i64 kd,.int .i64 vl,.string nm] 140)
 have j0:=(InB.new' (w:=W) #[.slice q1 n1 c1,.slice q2 n2 c2,.slice q3 n3 c3,.slice q4 n4 c4,.slice q5 n5 c5] 27 hb).le (bl_al (Below.refl _ _) (.cells #[.int .i64 kd,.int .i64 vl,.string nm] 140))
 have j1:=InB.new' (w:=W.alloc (.cells #[.slice q1 n1 c1,.slice q2 n2 c2,.slice q3 n3 c3,.slice q4 n4 c4,.slice q5 n5 c5] 27)) #[.int .i64 kd,.int .i64 vl,.string nm] 140 (b:=b+1) (by simp [hb])
 have HBA:=hid hbA
 have HJ0:=hid j0
 have HJ1:=hid j1
 clear hbA j0 j1
 by_cases hk2:kd=2
 ·subst hk2
  have HT2:=hid (show R=nmdZ s f nm [1,2] by rw [HT.out];rfl)
  have HB2:=hid (bl_al HBA.out (.cells #[.int .i64 1,.int .i64 2] 3))
  obtain ⟨w0,hw0⟩:∃w0,(W.alloc (.cells #[.slice q1 n1 c1,.slice q2 n2 c2,.slice q3 n3 c3,.slice q4 n4 c4,.slice q5 n5 c5] 27)).alloc (.cells #[.int .i64 2,.int .i64 vl,.string nm] 140)=w0:=⟨_,rfl⟩
  rw [hw0] at HBA HJ0 HJ1 HB2
  have HI2:=hid (InB.new w0 #[.int .i64 1,.int .i64 2] 3)
  obtain ⟨x0,x1,x2,x3,x4⟩:=five_cells' HJ0.out
  have y0:=HJ1.out.cell (j:=0) rfl
  have y2:=HJ1.out.cell (j:=2) rfl
  have hl1:=HJ1.out.lt
  have hl0:=HJ0.out.lt
  go_enter Tryz.func100,Tryz.ntmps100
  go_upto_region 1 with fail
  try rw [hb]
  try rw [hw0]
  clear hw0
  go_wp2_with fail
  go_at_call 136
  refine (HNM.out _ HB2.out [1,2] w0.heap.size 2 rfl (by decide) (by
   intro j hj
   rcases j with _|_|j
   ·exact HI2.out.cell rfl
   ·exact HI2.out.cell rfl
   ·simp only [List.length_cons,List.length_nil] at hj;omega)).mono ?_
  rintro e w3 ⟨rfl,hb3⟩
  have HB3:=hid (bl_tr HB2.out hb3)
  clear hb3 x0 x1 x2 x3 x4 y0 y2 hl1 hl0
  generalize nmdZ s f nm [1,2]=X at *
  cases X with
  | none =>
   unfold optV
   go_wp2
   exact bodyPost_ret (results_tmp2 rfl _ _ _) rfl ⟨by rw [HT2.out];rfl,HB3.out⟩
  | some x =>
   unfold optV
   go_wp2
   exact bodyPost_ret (results_tmp2 rfl _ _ _) rfl ⟨by rw [HT2.out];rfl,HB3.out⟩
 by_cases hk3:kd=3
 ·subst hk3
  have HT2:=hid (show R=nmdZ s f nm [3] by rw [HT.out];rfl)
  have HB2:=hid (bl_al HBA.out (.cells #[.int .i64 3] 3))
  obtain ⟨w0,hw0⟩:∃w0,(W.alloc (.cells #[.slice q1 n1 c1,.slice q2 n2 c2,.slice q3 n3 c3,.slice q4 n4 c4,.slice q5 n5 c5] 27)).alloc (.cells #[.int .i64 3,.int .i64 vl,.string nm] 140)=w0:=⟨_,rfl⟩
  rw [hw0] at HBA HJ0 HJ1 HB2
  have HI2:=hid (InB.new w0 #[.int .i64 3] 3)
  obtain ⟨x0,x1,x2,x3,x4⟩:=five_cells' HJ0.out
  have y0:=HJ1.out.cell (j:=0) rfl
  have y2:=HJ1.out.cell (j:=2) rfl
  have hl1:=HJ1.out.lt
  have hl0:=HJ0.out.lt
  go_enter Tryz.func100,Tryz.ntmps100
  go_upto_region 1 with fail
  try rw [hb]
  try rw [hw0]
  clear hw0
  go_wp2_with fail
  go_at_call 136
  refine (HNM.out _ HB2.out [3] w0.heap.size 1 rfl (by decide) (by
   intro j hj
   rcases j with _|j
   ·exact HI2.out.cell rfl
   ·simp only [List.length_cons,List.length_nil] at hj;omega)).mono ?_
  rintro e w3 ⟨rfl,hb3⟩
  have HB3:=hid (bl_tr HB2.out hb3)
  clear hb3 x0 x1 x2 x3 x4 y0 y2 hl1 hl0
  generalize nmdZ s f nm [3]=X at *
  cases X with
  | none =>
   unfold optV
   go_wp2
   exact bodyPost_ret (results_tmp2 rfl _ _ _) rfl ⟨by rw [HT2.out];rfl,HB3.out⟩
  | some x =>
   unfold optV
   go_wp2
   exact bodyPost_ret (results_tmp2 rfl _ _ _) rfl ⟨by rw [HT2.out];rfl,HB3.out⟩
 have HT2:=hid (show R=some 0 by rw [HT.out,if_neg hk2,if_neg hk3])
 have e2:(kd == 2)=false:=by rw [beq_eq_false_iff_ne];exact hk2
 have e3:(kd == 3)=false:=by rw [beq_eq_false_iff_ne];exact hk3
 clear hk2 hk3
 have y0:=HJ1.out.cell (j:=0) rfl
 have hl1:=HJ1.out.lt
 go_enter Tryz.func100,Tryz.ntmps100
 go_wp2
 exact bodyPost_ret (results_tmp2 rfl _ _ _) rfl ⟨by rw [HT2.out];rfl,HBA.out⟩
end
end Go.Proofs.YtlpdjfimefjmcaaGreatDoor
