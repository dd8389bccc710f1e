/- Package names: the checks of one declaration of a kind. (Written by a program.) Package names: the checks of one principal, of one function's name. Package names: the kinds of declarations in a row. Package names: the first declaration that is not in order. Package names: terms that are right by the -/
import Derived.Test.YtlpdjfimefjmcaaGreatDoorFlOpenPR6
import Derived.BigQuiet
import Derived.Deep.QuietTactic
open Go.Lib (hid)
namespace Go.Proofs.YtlpdjfimefjmcaaGreatDoor
open Go Go.RowKit Go.Proofs.Mm
section
variable {lt:Bool} {C:Cl} {W:World} {s:SoZ} {q1:Option Addr} {c1:Nat} {q2:Option Addr} {c2:Nat} {q3:Option Addr} {c3:Nat} {q4:Option Addr} {c4:Nat} {q5:Option Addr} {c5:Nat}
set_option maxRecDepth 100000 in
set_option maxHeartbeats 16000000 in
theorem group3_p (h:SrcO lt C s q1 c1 q2 c2 q3 c3 q4 c4 q5 c5) (hC:CLe C (wC W)) (b0:Nat) (h0:InB W b0 (srV s q1 c1 q2 c2 q3 c3 q4 c4 q5 c5) 27) (k:Nat) (hk:k<s.arrays.length) :
 Calls Tryz.prog 73 #[.int .i64 (k:Int),.pointer (some ⟨b0,0,none⟩)] W (Rows1 (arE s k) W):=by
 have HD:=hid (fun (w:World) (hb:Below W.heap.size W w) nm=>declared_p (W:=w) h (hC.trans (below_cle hb)) nm 3 k (by decide))
 have HE:=hid (show arE s k=fst0 [decE s s.arrays[k].name (3,k),unl (decide (1≤s.arrays[k].len∧s.arrays[k].len≤256)) 1,lblE s s.arrays[k].label] by unfold arE;rw [List.getElem?_eq_getElem hk])
 have HLB:=hid (lb_eq s s.arrays[k].label)
 obtain ⟨g,o,rfl,a0,a1,a2,hlab⟩:=h.ar.cells k hk
 have e0:W.cell? ⟨g,o+k*3,none⟩=some (.string s.arrays[k].name):=hC _ _ a0
 have e1:W.cell? ⟨g,o+k*3+1,none⟩=some (.int .i64 s.arrays[k].len):=hC _ _ a1
 have e2:W.cell? ⟨g,o+k*3+2,none⟩=some (.int .u64 (s.arrays[k].label:Nat)):=hC _ _ a2
 obtain ⟨x0,x1,x2,x3,x4⟩:=srV_cells h0
 have hki:(k:Int)<(s.arrays.length:Int):=by omega
 generalize arE s k=E at *
 generalize s.arrays[k]=d at *
 obtain ⟨nm,ln,lab⟩:=d
 simp only at *
 have HD2:=hid (fun w hb=>HD.out w hb nm)
 generalize decE s nm (3,k)=e1' at *
 generalize lblE s lab=e2' at *
 have hg:g<W.heap.size:=cell_lt e0
 have hb0:b0<W.heap.size:=h0.lt
 clear h hC a0 a1 a2 h0 hk HD
 unfold srV at HD2
 generalize s.principals.length=n1 at *
 generalize s.globals.length=n2 at *
 generalize s.arrays.length=n3 at *
 generalize s.channels.length=n4 at *
 generalize s.funcs.length=n5 at *
 go_enter Tryz.func73,Tryz.ntmps73
 go_wp2_with fail
 have HBW:=hid (show Below W.heap.size W (W.alloc (.cells #[.string nm,.int .i64 ln,.int .u64 (lab:Nat)] 39)) from bl_al (Below.refl _ _) _)
 have i4:InB (W.alloc (.cells #[.string nm,.int .i64 ln,.int .u64 (lab:Nat)] 39)) W.heap.size #[.string nm,.int .i64 ln,.int .u64 (lab:Nat)] 39:=InB.new _ _ _
 obtain ⟨b4,hb4⟩:∃b,W.heap.size=b:=⟨_,rfl⟩
 rw [hb4] at i4
 try rw [hb4]
 have z0:=cell_b x0 HBW.out
 have z1:=cell_b x1 HBW.out
 have z2:=cell_b x2 HBW.out
 have z3:=cell_b x3 HBW.out
 have z4:=cell_b x4 HBW.out
 have y0:=i4.cell (j:=0) (v:=.string nm) rfl
 have y1:=i4.cell (j:=1) (v:=.int .i64 ln) rfl
 have y2:=i4.cell (j:=2) (v:=.int .u64 (lab:Nat)) rfl
 generalize W.alloc (.cells #[.string nm,.int .i64 ln,.int .u64 (lab:Nat)] 39)=w0 at *
 have HS:=hid (fun w' (hb:Below w0.heap.size w0 w')=>show w'.cell? ⟨b0,0,none⟩=some (.slice q1 n1 c1)∧w'.cell? ⟨b0,1,none⟩=some (.slice q2 n2 c2)∧w'.cell? ⟨b0,2,none⟩=some (.slice (some ⟨g,o,none⟩) n3 c3)∧w'.cell? ⟨b0,3,none⟩=some (.slice q4 n4 c4)∧w'.cell? ⟨b0,4,none⟩=some (.slice q5 n5 c5)∧w'.cell? ⟨b4,0,none⟩=some (.string nm)∧w'.cell? ⟨b4,1,none⟩=some (.int .i64 ln)∧w'.cell? ⟨b4,2,none⟩=some (.int .u64 (lab:Nat)) from
  ⟨cell_b z0 hb,cell_b z1 hb,cell_b z2 hb,cell_b z3 hb,cell_b z4 hb,cell_b y0 hb,cell_b y1 hb,cell_b y2 hb⟩)
 have HHB:=hid hb4
 clear x0 x1 x2 x3 x4 e0 e1 e2 i4 hb4 z0 z1 z2 z3 z4 y0 y1 y2 hb0 hg
 go_region_held_law (fun w'=>w'.cell? ⟨b0,0,none⟩=some (.slice q1 n1 c1)∧w'.cell? ⟨b0,1,none⟩=some (.slice q2 n2 c2)∧w'.cell? ⟨b0,2,none⟩=some (.slice (some ⟨g,o,none⟩) n3 c3)∧w'.cell? ⟨b0,3,none⟩=some (.slice q4 n4 c4)∧w'.cell? ⟨b0,4,none⟩=some (.slice q5 n5 c5)∧w'.cell? ⟨b4,0,none⟩=some (.string nm)∧w'.cell? ⟨b4,1,none⟩=some (.int .i64 ln)∧w'.cell? ⟨b4,2,none⟩=some (.int .u64 (lab:Nat)))
  ((refine HS.out _ ?_;repeat (first | exact Below.refl _ _ | refine bl_al ?_ _ | refine bl_dr ?_ | refine bl_tr ?_ hbl | refine bl_tr ?_ hbn | refine bl_tr ?_ hbd)))
  (first | (go_at_call 72;refine (HD2.out _ ?hbw).mono ?_;(case hbw=>refine bl_tr HBW.out ?_;repeat (first | exact Below.refl _ _ | refine bl_al ?_ _ | refine bl_dr ?_ | refine bl_tr ?_ hbl | refine bl_tr ?_ hbn | refine bl_tr ?_ hbd));rintro e wd hmk;obtain ⟨Kd,cd,rfl,hbd,hfd⟩:=hmk.fn) | (go_at_call 74;refine (length_p ln).mono ?_;rintro e wn hmk;obtain ⟨Kn,cn,rfl,hbn,hfn⟩:=hmk.fn) | (go_at_call 39;refine (labels_p [lab] n1 q1 c1 (by simp) ?hrow).mono ?_;(case hrow=>refine la_one ?_ hlab;first | exact new_cell' _ _ rfl | exact new_cell_d _ _ rfl | exact cell_b (new_cell' _ _ rfl) hbn | exact cell_b (new_cell_d _ _ rfl) hbn | exact cell_b (new_cell' _ _ rfl) hbd | exact cell_b (new_cell_d _ _ rfl) hbd | exact cell_b (cell_b (new_cell' _ _ rfl) hbd) hbn | exact cell_b (cell_b (new_cell_d _ _ rfl) hbd) hbn | exact cell_b (cell_b (new_cell' _ _ rfl) hbd) (bl_tr (bl_dr (Below.refl _ _)) hbn));rintro e wl hmk;obtain ⟨Kl,cl,rfl,hbl,hfl⟩:=hmk.fn))
 all_goals
  go_wp2
  go_ret
  have i9:InB (wl.alloc (.cells #[.func (.func Kd) #[] cd,.func (.func Kn) #[] cn,.func (.func Kl) #[] cl] 90)) wl.heap.size _ _:=InB.new _ _ _
  refine ⟨_,3,[e1',unl (decide (1≤ln∧ln≤256)) 1,e2'],rfl,?_,chk3 ⟨i9.cell (j:=0) rfl,i9.cell (j:=1) rfl,i9.cell (j:=2) rfl⟩ (hfd.le ?_) (hfn.le ?_) ?_,by simp,by rw [HE.out]⟩
  ·refine bl_tr HBW.out ?_
   repeat (first|exact Below.refl _ _|refine bl_al ?_ _|refine bl_dr ?_|refine bl_tr ?_ hbl|refine bl_tr ?_ hbn|refine bl_tr ?_ hbd)
  ·repeat (first|exact Below.refl _ _|refine bl_al ?_ _|refine bl_dr ?_|refine bl_tr ?_ hbl|refine bl_tr ?_ hbn|refine bl_tr ?_ hbd)
  ·repeat (first|exact Below.refl _ _|refine bl_al ?_ _|refine bl_dr ?_|refine bl_tr ?_ hbl|refine bl_tr ?_ hbn|refine bl_tr ?_ hbd)
  ·rw [HLB.out] at hfl
   refine hfl.le ?_
   repeat (first|exact Below.refl _ _|refine bl_al ?_ _|refine bl_dr ?_|refine bl_tr ?_ hbl|refine bl_tr ?_ hbn|refine bl_tr ?_ hbd)
end
section
variable {lt:Bool} {C:Cl} {W:World} {s:SoZ} {q1:Option Addr} {c1:Nat} {q2:Option Addr} {c2:Nat} {q3:Option Addr} {c3:Nat} {q4:Option Addr} {c4:Nat} {q5:Option Addr} {c5:Nat}
set_option maxRecDepth 100000 in
set_option maxHeartbeats 2000000 in
theorem ixStr_p {q:Option Addr} {c:Nat} (l:List ByteArray) (hl:l.length≤9223372036854775807) (hrow:StrAt C q l) (hC:CLe C (wC W)) (nm:ByteArray) :
 Calls Tryz.prog 70 #[.slice q l.length c,.string nm] W fun e w'=>e=.returned (.int .i64 (ixI (idxZ l nm)))∧W=w':=by
 have HA:=hid hrow
 have HCC:=hid hC
 obtain ⟨n,hn⟩:∃n,l.length=n:=⟨_,rfl⟩
 have HN:=hid hn
 rw [hn] at hl ⊢
 clear hrow hC hn
 go_enter Tryz.func70,Tryz.ntmps70
 go_wp2
 go_loop [8] (fun i=>∃k:Nat,k≤n∧i=.int .i64 k∧Hid (∀j (hj:j<l.length),j<k→decide (l[j]=nm)=false)) (fun i=>n - (intOf i).toNat)
 case atStart=>exact ⟨0,Nat.zero_le _,rfl,hid (fun j hj h=>absurd h (by omega))⟩
 case round =>
  obtain ⟨k,hk,rfl,HT⟩:=hrel
  by_cases hlt:k<n
  ·have hk1:k<l.length:=by rw [HN.out];exact hlt
   have HK:=hid hk1
   obtain ⟨g,o,rfl,a0⟩:=HA.out k hk1
   have e0:W.cell? ⟨g,o+k,none⟩=some (.string l[k]):=HCC.out _ _ a0
   have HS0:=hid (fun h:decide (l[k]=nm)=false=>ix_step (p:=fun x=>decide (x=nm)) HK.out HT.out h)
   have HS1:=hid (fun h:decide (l[k]=nm)=true=>ix_hit (p:=fun x=>decide (x=nm)) HK.out HT.out h)
   have HDC:=hid (str_dec (a:=nm) (b:=l[k]))
   clear a0
   generalize l[k]=x at *
   clear hk1
   have hki:(k:Int)<(n:Int):=by omega
   by_cases hx:nm=x
   ·have HR:=hid (HS1.out (by rw [decide_eq_true];exact hx.symm))
    have hd:(nm.toList == x.toList)=true:=by rw [HDC.out,decide_eq_true hx]
    clear hx
    go_wp2
    go_ret
    exact ⟨by unfold idxZ;rw [HR.out];rfl,rfl⟩
   ·have HR:=hid (HS0.out (by rw [decide_eq_false];exact fun e=>hx e.symm))
    have hd:(nm.toList == x.toList)=false:=by rw [HDC.out,decide_eq_false hx]
    clear hx
    go_wp2
    exact ⟨⟨k+1,by omega,by go_num,HR⟩,by simp [intOf];omega⟩
  ·have HR:=hid (ix_no (p:=fun x=>decide (x=nm)) (fun j hj _=>HT.out j hj (by have:=HN.out;omega)))
   go_wp2
   go_ret
   exact ⟨by unfold idxZ;rw [HR.out];rfl,rfl⟩
theorem ne_ix (x:Option Nat) (k:Nat):(ixI x != (k:Int))=(x != some k):=by
 rw [Bool.eq_iff_iff]
 cases x with
 | none=>simp [ixI]
 | some j=>simp [ixI];omega
set_option maxRecDepth 100000 in
set_option maxHeartbeats 2000000 in
theorem takenPr_p (h:SrcO lt C s q1 c1 q2 c2 q3 c3 q4 c4 q5 c5) (hC:CLe C (wC W)) (nm:ByteArray) (k:Nat) (b0 b1 b2:Nat)
 (h0:InB W b0 (srV s q1 c1 q2 c2 q3 c3 q4 c4 q5 c5) 27) (h1:W.cell? ⟨b1,0,none⟩=some (.string nm)) (h2:W.cell? ⟨b2,0,none⟩=some (.int .i64 (k:Int))) :
 Calls Tryz.prog 69 #[.pointer (some ⟨b0,0,none⟩),.pointer (some ⟨b1,0,none⟩),.pointer (some ⟨b2,0,none⟩)] W (RetB (.bool (idxZ s.principals nm != some k)) W):=by
 have hlen:=slx_len h.pr
 have HI:=hid (fun (w:World) (hb:Below W.heap.size W w)=>ixStr_p (W:=w) (c:=c1) s.principals (by omega) h.pr.cells (hC.trans (below_cle hb)) nm)
 obtain ⟨x0,-,-,-,-⟩:=srV_cells h0
 have HX:=hid (ne_ix (idxZ s.principals nm) k)
 clear h hC h0 hlen
 generalize s.principals.length=n1 at *
 generalize idxZ s.principals nm=r at *
 go_enter Tryz.func69,Tryz.ntmps69
 go_wp2_with fail
 have HS:=hid (fun w' (hb:Below W.heap.size W w')=>show w'.cell? ⟨b0,0,none⟩=some (.slice q1 n1 c1)∧w'.cell? ⟨b1,0,none⟩=some (.string nm)∧w'.cell? ⟨b2,0,none⟩=some (.int .i64 (k:Int)) from ⟨cell_b x0 hb,cell_b h1 hb,cell_b h2 hb⟩)
 clear x0 h1 h2
 go_region_held_law (fun w'=>w'.cell? ⟨b0,0,none⟩=some (.slice q1 n1 c1)∧w'.cell? ⟨b1,0,none⟩=some (.string nm)∧w'.cell? ⟨b2,0,none⟩=some (.int .i64 (k:Int)))
  ((refine HS.out _ ?_;repeat (first | exact Below.refl _ _ | refine bl_al ?_ _ | refine bl_dr ?_ | refine bl_tr ?_ hbl | refine bl_tr ?_ hbn | refine bl_tr ?_ hbd)))
  ((go_at_call 70;refine (HI.out _ ?hbw).mono ?_;(case hbw=>repeat (first | exact Below.refl _ _ | refine bl_al ?_ _ | refine bl_dr ?_ | refine bl_tr ?_ hbl | refine bl_tr ?_ hbn | refine bl_tr ?_ hbd));rintro e w' ⟨rfl,rfl⟩))
 all_goals
  go_wp2
  go_ret
  refine ⟨ret_bool HX.out,?_⟩
  repeat (first|exact Below.refl _ _|refine bl_al ?_ _|refine bl_dr ?_|refine bl_tr ?_ hbl|refine bl_tr ?_ hbn|refine bl_tr ?_ hbd)
set_option maxRecDepth 100000 in
set_option maxHeartbeats 4000000 in
theorem group1_p (h:SrcO lt C s q1 c1 q2 c2 q3 c3 q4 c4 q5 c5) (hC:CLe C (wC W)) (b0:Nat) (h0:InB W b0 (srV s q1 c1 q2 c2 q3 c3 q4 c4 q5 c5) 27) (k:Nat) (hk:k<s.principals.length) :
 Calls Tryz.prog 67 #[.int .i64 (k:Int),.pointer (some ⟨b0,0,none⟩)] W (Rows1 (prE s k) W):=by
 have hmf:∀(fn:Fn) (first cap:Array Value) (w:World),(Instr.makeFunc fn first cap).run Tryz.prog w=.ok (.func fn first cap) w:=fun _ _ _ _=>rfl
 have ek:Ent 69:=ent_of Tryz.func69 (by kernel_rfl) rfl
 have HE:=hid (show prE s k=newE s.principals[k] (idxZ s.principals s.principals[k] != some k) by unfold prE;rw [List.getElem?_eq_getElem hk])
 obtain ⟨g,o,rfl,a0⟩:=h.pr.cells k hk
 have HT:=hid (fun (w:World) (b1 b2:Nat) (hb:Below W.heap.size W w)=>takenPr_p (W:=w) h (hC.trans (below_cle hb)) s.principals[k] k b0 b1 b2 (h0.le hb))
 have e0:W.cell? ⟨g,o+k,none⟩=some (.string s.principals[k]):=hC _ _ a0
 obtain ⟨x0,x1,x2,x3,x4⟩:=srV_cells h0
 have hki:(k:Int)<(s.principals.length:Int):=by omega
 generalize prE s k=E at *
 generalize s.principals[k]=nm at *
 have hg:g<W.heap.size:=cell_lt e0
 have hb0:b0<W.heap.size:=h0.lt
 clear h hC a0 h0 hk
 generalize (idxZ s.principals nm != some k)=r at *
 generalize s.principals.length=n1 at *
 go_enter Tryz.func67,Tryz.ntmps67
 go_wp2_with fail
 have hb:Below W.heap.size W ((W.alloc (.cells #[.int .i64 (k:Int)] 3)).alloc (.cells #[.string nm] 9)):=bl_al (bl_al (Below.refl _ _) _) _
 have i1:((W.alloc (.cells #[.int .i64 (k:Int)] 3)).alloc (.cells #[.string nm] 9)).cell? ⟨W.heap.size,0,none⟩=some (.int .i64 (k:Int)):=cell_b (new_cell _ _ _) (bl_al (Below.refl _ _) _)
 have i2:((W.alloc (.cells #[.int .i64 (k:Int)] 3)).alloc (.cells #[.string nm] 9)).cell? ⟨W.heap.size+1,0,none⟩=some (.string nm):=new_cell' _ _ (by simp)
 generalize (W.alloc _).alloc _=w0 at *
 have HB0:=hid hb
 have HF:=hid (show FunV w0 (.func (.func 69) #[] #[.pointer (some ⟨b0,0,none⟩),.pointer (some ⟨W.heap.size+1,0,none⟩),.pointer (some ⟨W.heap.size,0,none⟩)]) (.bool r) from
  ⟨_,_,rfl,ek,fun w hw=>HT.out w _ _ (bl_tr hb hw) (cell_b i2 hw) (cell_b i1 hw)⟩)
 clear hb i1 i2 HT ek x0 x1 x2 x3 x4 e0 hg hb0
 go_at_call 68
 refine (newName_p nm r _ HF.out).mono ?_
 rintro e w1 hmk
 obtain ⟨Kd,cd,rfl,hbd,hfd⟩:=hmk.fn
 have HB1:=hid (bl_tr HB0.out hbd)
 have HF1:=hid hfd
 clear hbd hfd hmk
 go_wp2
 go_ret
 have i9:InB (w1.alloc (.cells #[.func (.func Kd) #[] cd] 90)) w1.heap.size _ _:=InB.new _ _ _
 refine ⟨_,1,[newE nm r],rfl,bl_al HB1.out _,chk1 (i9.cell (j:=0) rfl) (HF1.out.le (bl_al (Below.refl _ _) _)),by simp,?_⟩
 rw [HE.out]
 unfold fst0 fst0
 split
 ·rename_i h;exact h.symm
 ·rfl
set_option maxRecDepth 100000 in
set_option maxHeartbeats 8000000 in
theorem group5_p (h:SrcO lt C s q1 c1 q2 c2 q3 c3 q4 c4 q5 c5) (hC:CLe C (wC W)) (b0:Nat) (h0:InB W b0 (srV s q1 c1 q2 c2 q3 c3 q4 c4 q5 c5) 27) (k:Nat) (hk:k<s.funcs.length) :
 Calls Tryz.prog 76 #[.int .i64 (k:Int),.pointer (some ⟨b0,0,none⟩)] W (Rows1 (fuE s k) W):=by
 have HD:=hid (fun (w:World) (hb:Below W.heap.size W w) nm=>declared_p (W:=w) h (hC.trans (below_cle hb)) nm 5 k (by decide))
 have HE:=hid (show fuE s k=decE s s.funcs[k].name (5,k) by unfold fuE;rw [List.getElem?_eq_getElem hk])
 obtain ⟨g,o,qp,cp,qr,cr,qv,cv,qb,cb,rfl,a0,-⟩:=h.fn.cells k hk
 have e0:W.cell? ⟨g,o+k*6,none⟩=some (.string s.funcs[k].name):=hC _ _ a0
 obtain ⟨x0,x1,x2,x3,x4⟩:=srV_cells h0
 have hki:(k:Int)<(s.funcs.length:Int):=by omega
 generalize fuE s k=E at *
 generalize s.funcs[k]=d at *
 obtain ⟨nm,_,_,_,_,_⟩:=d
 simp only at *
 have HD2:=hid (fun w hb=>HD.out w hb nm)
 generalize decE s nm (5,k)=e1' at *
 clear h hC a0 h0 hk HD
 unfold srV at HD2
 generalize s.principals.length=n1 at *
 generalize s.globals.length=n2 at *
 generalize s.arrays.length=n3 at *
 generalize s.channels.length=n4 at *
 generalize s.funcs.length=n5 at *
 have HS:=hid (fun w' (hb:Below W.heap.size W w')=>show w'.cell? ⟨b0,0,none⟩=some (.slice q1 n1 c1)∧w'.cell? ⟨b0,1,none⟩=some (.slice q2 n2 c2)∧w'.cell? ⟨b0,2,none⟩=some (.slice q3 n3 c3)∧w'.cell? ⟨b0,3,none⟩=some (.slice q4 n4 c4)∧w'.cell? ⟨b0,4,none⟩=some (.slice (some ⟨g,o,none⟩) n5 c5)∧w'.cell? ⟨g,o+k*6,none⟩=some (.string nm) from ⟨cell_b x0 hb,cell_b x1 hb,cell_b x2 hb,cell_b x3 hb,cell_b x4 hb,cell_b e0 hb⟩)
 go_enter Tryz.func76,Tryz.ntmps76
 go_wp2_with fail
 clear x0 x1 x2 x3 x4 e0
 go_region_held_law (fun w'=>w'.cell? ⟨b0,0,none⟩=some (.slice q1 n1 c1)∧w'.cell? ⟨b0,1,none⟩=some (.slice q2 n2 c2)∧w'.cell? ⟨b0,2,none⟩=some (.slice q3 n3 c3)∧w'.cell? ⟨b0,3,none⟩=some (.slice q4 n4 c4)∧w'.cell? ⟨b0,4,none⟩=some (.slice (some ⟨g,o,none⟩) n5 c5)∧w'.cell? ⟨g,o+k*6,none⟩=some (.string nm))
  ((refine HS.out _ ?_;repeat (first | exact Below.refl _ _ | refine bl_al ?_ _ | refine bl_dr ?_ | refine bl_tr ?_ hbl | refine bl_tr ?_ hbn | refine bl_tr ?_ hbd)))
  ((go_at_call 72;refine (HD2.out _ ?hbw).mono ?_;(case hbw=>repeat (first | exact Below.refl _ _ | refine bl_al ?_ _ | refine bl_dr ?_ | refine bl_tr ?_ hbl | refine bl_tr ?_ hbn | refine bl_tr ?_ hbd));rintro e wd hmk;obtain ⟨Kd,cd,rfl,hbd,hfd⟩:=hmk.fn))
 all_goals
  go_wp2
  go_ret
  have i9:InB (wd.alloc (.cells #[.func (.func Kd) #[] cd] 90)) wd.heap.size _ _:=InB.new _ _ _
  refine ⟨_,1,[e1'],rfl,?_,chk1 (i9.cell (j:=0) rfl) (hfd.le (bl_al (Below.refl _ _) _)),by simp,?_⟩
  ·repeat (first|exact Below.refl _ _|refine bl_al ?_ _|refine bl_dr ?_|refine bl_tr ?_ hbl|refine bl_tr ?_ hbn|refine bl_tr ?_ hbd)
  ·rw [HE.out]
   unfold fst0 fst0
   split
   ·rename_i h;exact h.symm
   ·rfl
end
def grpsF:List (Nat × Nat × (Nat→Nat))→Nat→Option (Nat × Nat)
 | [],_=>none
 | x::r,base=>orO (grpF x.2.1 x.2.2 base x.1 0) (grpsF r (base+x.1))
def gsOf (s:SoZ):List (Nat × Nat × (Nat→Nat)):=[(s.principals.length,64,prE s),(s.globals.length,32,glE s 2 s.globals),(s.arrays.length,16,arE s),(s.channels.length,16,glE s 4 s.channels),(s.funcs.length,32,fuE s)]
theorem orO_none {α:Type} (x:Option α):orO x none=x:=by cases x <;> rfl
theorem decls_gs (s:SoZ):declsZE s=grpsF (gsOf s) 0:=by
 unfold declsZE gsOf
 simp only [grpsF,orO_none,Nat.zero_add]
def GrpAt (w:World) (b:Nat) (gs:List (Nat × Nat × (Nat→Nat))):Prop:=∀i (hi:i<gs.length),∃K ca,w.cell? ⟨b,i*3,none⟩=some (.int .i64 ((gs[i].1:Nat):Int))∧w.cell? ⟨b,i*3+1,none⟩=some (.int .i64 ((gs[i].2.1:Nat):Int))∧w.cell? ⟨b,i*3+2,none⟩=some (.func (.func K) #[] ca)∧Ent K∧gs[i].1≤140737488351232∧gs[i].2.1≤64 ∧
 ∀k,k<gs[i].1→∀w',Below w.heap.size w w'→Calls Tryz.prog K (#[]++#[.int .i64 (k:Int)]++ca) w' (Rows1 (gs[i].2.2 k) w')
theorem GrpAt.le {w w':World} {b:Nat} {gs:List (Nat × Nat × (Nat→Nat))} (h:GrpAt w b gs) (hb:Below w.heap.size w w'):GrpAt w' b gs:=by
 intro i hi
 obtain ⟨K,ca,h1,h2,h3,h4,h5,h6,h7⟩:=h i hi
 exact ⟨K,ca,cell_b h1 hb,cell_b h2 hb,cell_b h3 hb,h4,h5,h6,fun k hk w' hw=>h7 k hk w' (bl_tr hb hw)⟩
section
variable {lt:Bool} {C:Cl} {W:World} {s:SoZ} {q1:Option Addr} {c1:Nat} {q2:Option Addr} {c2:Nat} {q3:Option Addr} {c3:Nat} {q4:Option Addr} {c4:Nat} {q5:Option Addr} {c5:Nat}
set_option maxRecDepth 100000 in
set_option maxHeartbeats 4000000 in
theorem groups_p (h:SrcO lt C s q1 c1 q2 c2 q3 c3 q4 c4 q5 c5) (hC:CLe C (wC W)) :
 Calls Tryz.prog 36 #[.agg (srV s q1 c1 q2 c2 q3 c3 q4 c4 q5 c5)] W fun e w'=>∃b,e=.returned (.slice (some ⟨b,0,none⟩) 5 5)∧Below W.heap.size W w'∧GrpAt w' b (gsOf s):=by
 have hmf:∀(fn:Fn) (first cap:Array Value) (w:World),(Instr.makeFunc fn first cap).run Tryz.prog w=.ok (.func fn first cap) w:=fun _ _ _ _=>rfl
 have E1:Ent 67:=ent_of Tryz.func67 (by kernel_rfl) rfl
 have E2:Ent 71:=ent_of Tryz.func71 (by kernel_rfl) rfl
 have E3:Ent 73:=ent_of Tryz.func73 (by kernel_rfl) rfl
 have E4:Ent 75:=ent_of Tryz.func75 (by kernel_rfl) rfl
 have E5:Ent 76:=ent_of Tryz.func76 (by kernel_rfl) rfl
 have HALL:=hid (fun (w:World) (b b0:Nat) (cs:Array Value) (hw:Below W.heap.size W w) (i0:InB w b0 (srV s q1 c1 q2 c2 q3 c3 q4 c4 q5 c5) 27)
  (hcs:InB w b #[.int .i64 ((s.principals.length:Nat):Int),.int .i64 64,.func (.func 67) #[] #[.pointer (some ⟨b0,0,none⟩)],.int .i64 ((s.globals.length:Nat):Int),.int .i64 32,.func (.func 71) #[] #[.pointer (some ⟨b0,0,none⟩)],.int .i64 ((s.arrays.length:Nat):Int),.int .i64 16,.func (.func 73) #[] #[.pointer (some ⟨b0,0,none⟩)],.int .i64 ((s.channels.length:Nat):Int),.int .i64 16,.func (.func 75) #[] #[.pointer (some ⟨b0,0,none⟩)],.int .i64 ((s.funcs.length:Nat):Int),.int .i64 32,.func (.func 76) #[] #[.pointer (some ⟨b0,0,none⟩)]] 86) =>
  show GrpAt w b (gsOf s) from by
   intro i hi
   have l1:=slx_len h.pr
   have l2:=slx_len h.gl
   have l3:=slx_len h.ar
   have l4:=slx_len h.ch
   have l5:=slx_len h.fn
   have hi5:i=0∨i=1∨i=2∨i=3∨i=4:=by unfold gsOf at hi;simp at hi;omega
   rcases hi5 with rfl|rfl|rfl|rfl|rfl
   ·exact ⟨_,_,hcs.cell (j:=0) rfl,hcs.cell (j:=1) rfl,hcs.cell (j:=2) rfl,E1,by show s.principals.length≤_;omega,by show 64≤64;omega,fun k hk w' hb=>group1_p h (hC.trans (below_cle (bl_tr hw hb))) b0 (i0.le hb) k hk⟩
   ·exact ⟨_,_,hcs.cell (j:=3) rfl,hcs.cell (j:=4) rfl,hcs.cell (j:=5) rfl,E2,by show s.globals.length≤_;omega,by show 32≤64;omega,fun k hk w' hb=>group2_p h (hC.trans (below_cle (bl_tr hw hb))) b0 (i0.le hb) k hk⟩
   ·exact ⟨_,_,hcs.cell (j:=6) rfl,hcs.cell (j:=7) rfl,hcs.cell (j:=8) rfl,E3,by show s.arrays.length≤_;omega,by show 16≤64;omega,fun k hk w' hb=>group3_p h (hC.trans (below_cle (bl_tr hw hb))) b0 (i0.le hb) k hk⟩
   ·exact ⟨_,_,hcs.cell (j:=9) rfl,hcs.cell (j:=10) rfl,hcs.cell (j:=11) rfl,E4,by show s.channels.length≤_;omega,by show 16≤64;omega,fun k hk w' hb=>group4_p h (hC.trans (below_cle (bl_tr hw hb))) b0 (i0.le hb) k hk⟩
   ·exact ⟨_,_,hcs.cell (j:=12) rfl,hcs.cell (j:=13) rfl,hcs.cell (j:=14) rfl,E5,by show s.funcs.length≤_;omega,by show 32≤64;omega,fun k hk w' hb=>group5_p h (hC.trans (below_cle (bl_tr hw hb))) b0 (i0.le hb) k hk⟩)
 clear h hC E1 E2 E3 E4 E5
 unfold srV at HALL ⊢
 generalize gsOf s=G at *
 generalize s.principals.length=n1 at *
 generalize s.globals.length=n2 at *
 generalize s.arrays.length=n3 at *
 generalize s.channels.length=n4 at *
 generalize s.funcs.length=n5 at *
 go_enter Tryz.func36,Tryz.ntmps36
 go_wp2
 go_ret
 refine ⟨_,rfl,by repeat (first|exact Below.refl _ _|refine bl_al ?_ _|refine bl_dr ?_),HALL.out _ _ W.heap.size #[] (by repeat (first|exact Below.refl _ _|refine bl_al ?_ _|refine bl_dr ?_)) ?_ ?_⟩
 ·exact (InB.new _ _ _).le (bl_al (Below.refl _ _) _)
 ·exact InB.new' _ _ (by simp)
end
theorem grpsF_at {gs:List (Nat × Nat × (Nat→Nat))} {i base:Nat} (hi:i<gs.length):grpsF (gs.drop i) base=orO (grpF gs[i].2.1 gs[i].2.2 base gs[i].1 0) (grpsF (gs.drop (i+1)) (base+gs[i].1)):=by
 rw [List.drop_eq_getElem_cons hi,grpsF]
theorem grpsF_end {gs:List (Nat × Nat × (Nat→Nat))} {i base:Nat} (hi:gs.length≤i):grpsF (gs.drop i) base=none:=by
 rw [List.drop_of_length_le hi];rfl
theorem grpF_many {most:Nat} {e:Nat→Nat} {base n k:Nat} (hk:k<n) (h:k=most):grpF most e base (n - k) k=some (base+k,74):=by
 obtain ⟨m,hm⟩:∃m,n - k=m+1:=⟨n - k - 1,by omega⟩
 rw [hm,grpF,if_pos h]
theorem grpF_bad {most:Nat} {e:Nat→Nat} {base n k:Nat} (hk:k<n) (h:¬k=most) (he:¬e k=0):grpF most e base (n - k) k=some (base+k,e k):=by
 obtain ⟨m,hm⟩:∃m,n - k=m+1:=⟨n - k - 1,by omega⟩
 rw [hm,grpF,if_neg h,if_neg he]
theorem grpF_next {most:Nat} {e:Nat→Nat} {base n k:Nat} (hk:k<n) (h:¬k=most) (he:e k=0):grpF most e base (n - k) k=grpF most e base (n - (k+1)) (k+1):=by
 obtain ⟨m,hm⟩:∃m,n - k=m+1:=⟨n - k - 1,by omega⟩
 rw [hm,grpF,if_neg h,if_pos he,show n - (k+1)=m by omega]
theorem grpF_end {most:Nat} {e:Nat→Nat} {base n:Nat}:grpF most e base (n - n) n=none:=by rw [Nat.sub_self];rfl
def daV:Option (Nat × Nat)→Value
 | some (a,e)=>.tuple #[.int .i64 (a:Int),.int .i64 (e:Int)]
 | none=>.tuple #[.int .i64 0,.int .i64 0]
section
variable {lt:Bool} {C:Cl} {W:World} {s:SoZ} {q1:Option Addr} {c1:Nat} {q2:Option Addr} {c2:Nat} {q3:Option Addr} {c3:Nat} {q4:Option Addr} {c4:Nat} {q5:Option Addr} {c5:Nat}
set_option maxRecDepth 100000 in
set_option maxHeartbeats 8000000 in
theorem declarations_p (h:SrcO lt C s q1 c1 q2 c2 q3 c3 q4 c4 q5 c5) (hC:CLe C (wC W)) :
 Calls Tryz.prog 17 #[.agg (srV s q1 c1 q2 c2 q3 c3 q4 c4 q5 c5)] W (RetB (daV (declsZE s)) W):=by
 have HG:=hid (fun (w:World) (hb:Below W.heap.size W w)=>groups_p (W:=w) h (hC.trans (below_cle hb)))
 rw [decls_gs]
 have hgl:(gsOf s).length=5:=rfl
 clear h hC
 unfold srV at HG ⊢
 generalize gsOf s=G at *
 have HGL:=hid hgl
 generalize s.principals.length=n1 at *
 generalize s.globals.length=n2 at *
 generalize s.arrays.length=n3 at *
 generalize s.channels.length=n4 at *
 generalize s.funcs.length=n5 at *
 clear hgl
 have HR:=hid (show grpsF G 0=grpsF (G.drop 0) 0 from rfl)
 generalize grpsF G 0=R at *
 go_enter Tryz.func17,Tryz.ntmps17
 go_wp2_with fail
 go_at_call 36
 refine (HG.out _ (bl_al (Below.refl _ _) _)).mono ?_
 rintro e w0 ⟨b,rfl,hb0,hgr⟩
 have HB0:=hid (bl_tr (bl_al (Below.refl W.heap.size W) _) hb0)
 have HGR:=hid hgr
 clear hb0 hgr HG
 go_wp2_with fail
 go_loopw [4,12] (fun a i wr=>∃j base:Nat,j≤5∧i=.int .i64 (j:Nat)∧base≤j*64∧a=.int .i64 (base:Nat)∧Hid (Below w0.heap.size w0 wr)∧Hid (R=grpsF (G.drop j) base)) (fun _ i _=>5 - (intOf i).toNat)
 case atStart=>exact ⟨0,0,by omega,rfl,by omega,rfl,hid (Below.refl _ _),HR⟩
 case round =>
  obtain ⟨j,base,hj,rfl,hbs,rfl,HB,HJ⟩:=hrel
  by_cases hlt:j<5
  ·have hjl:j<G.length:=by rw [HGL.out];exact hlt
   have HJ2:=hid (HJ.out.trans (grpsF_at hjl))
   obtain ⟨K,ca,e0,e1,e2,ek,hn,hm,hc⟩:=(HGR.out.le HB.out) j hjl
   generalize G[j]=x at *
   obtain ⟨n,most,ef⟩:=x
   simp only at e0 e1 e2 hn hm hc HJ2
   have HC:=hid hc
   unfold Ent at ek
   have hji:(j:Int)<5:=by omega
   have hblt:b<wr.heap.size:=cell_lt e0
   clear hc hjl
   obtain ⟨bx,hbx⟩:∃bx,wr.heap.size=bx:=⟨_,rfl⟩
   have hrow0:InB (wr.alloc (.cells #[.int .i64 (n:Int),.int .i64 (most:Int),.func (.func K) #[] ca] 86)) bx #[.int .i64 (n:Int),.int .i64 (most:Int),.func (.func K) #[] ca] 86:=InB.new' _ _ hbx
   have HB2:=hid (show Below wr.heap.size wr (wr.alloc (.cells #[.int .i64 (n:Int),.int .i64 (most:Int),.func (.func K) #[] ca] 86)) from bl_al (Below.refl _ _) _)
   have HRW:=hid hrow0
   have HBX:=hid hbx
   clear hrow0
   go_wp2_with fail
   try rw [HBX.out]
   generalize wr.alloc (.cells #[.int .i64 (n:Int),.int .i64 (most:Int),.func (.func K) #[] ca] 86)=w2 at *
   clear hbx e0 e1 e2 hblt
   generalize wr=wo at *
   have HJI:=hid hji
   have HJJ:=hid hlt
   have HBS:=hid hbs
   go_loopw [4,18] (fun a i wi=>∃k:Nat,k≤n∧k≤most∧i=.int .i64 (k:Nat)∧a=.int .i64 ((base+k:Nat):Int)∧Hid (Below w2.heap.size w2 wi)∧Hid (grpF most ef base n 0=grpF most ef base (n - k) k)) (fun _ i _=>n - (intOf i).toNat)
   case atStart=>exact ⟨0,by omega,by omega,rfl,rfl,hid (Below.refl _ _),hid rfl⟩
   case round =>
    obtain ⟨k,hk,hkm,rfl,rfl,HBI,HT⟩:=hrel
    have g0:=(HRW.out.le HBI.out).cell (j:=0) rfl
    have g1:=(HRW.out.le HBI.out).cell (j:=1) rfl
    have g2:=(HRW.out.le HBI.out).cell (j:=2) rfl
    have hxl:=(HRW.out.le HBI.out).lt
    have HBW:=hid (bl_tr HB.out (bl_tr HB2.out HBI.out))
    by_cases hkn:k<n
    ·have hki:(k:Int)<(n:Int):=by omega
     by_cases hko:k=most
     ·have HX:=hid (HT.out.trans (grpF_many hkn hko))
      have hke:((k:Int) == (most:Int))=true:=by rw [beq_iff_eq];omega
      have HR2:=hid (show R=some (base+k,74) by rw [HJ2.out,HX.out];rfl)
      clear hko
      go_wp2
      go_ret2
      exact ⟨by rw [HR2.out];rfl,bl_tr HB0.out HBW.out⟩
     ·have hke:((k:Int) == (most:Int))=false:=by rw [beq_eq_false_iff_ne];omega
      have HC2:=hid (HC.out k hkn wr (bl_tr HB2.out HBI.out))
      have HKN:=hid (And.intro hkn hko)
      go_wp2_with fail
      refine HC2.out.mono ?_
      rintro e w3 ⟨qe,ce,es,rfl,hb3,hrow,hle,hfe⟩
      have HFI:=hid (first_p (W:=w3) es hle (c:=ce) hrow)
      have HB3:=hid (bl_tr HBI.out hb3)
      have HFE:=hid hfe
      clear hb3 hrow hle hfe HC2
      generalize es.length=m at *
      generalize fst0 es=x at *
      go_wp2_with fail
      go_at_call 37
      refine HFI.out.mono ?_
      rintro e w4 ⟨rfl,hb4⟩
      have HB4:=hid (bl_tr HB3.out hb4)
      clear hb4 HFI g0 g1 g2 hxl
      by_cases hx:x=0
      ·have HT2:=hid (HT.out.trans (grpF_next HKN.out.1 HKN.out.2 (by rw [←HFE.out];exact hx)))
       subst hx
       go_wp2
       exact ⟨⟨k+1,by omega,by omega,by go_num,by go_num,HB4,HT2⟩,by simp [intOf];omega⟩
      ·have HX:=hid (HT.out.trans (grpF_bad HKN.out.1 HKN.out.2 (by rw [←HFE.out];exact hx)))
       have HR2:=hid (show R=some (base+k,x) by rw [HJ2.out,HX.out,HFE.out];rfl)
       have hne:(((x:Nat):Int) != 0)=true:=by simpa using hx
       have hne2:(((x:Nat):Int) == 0)=false:=by simpa using hx
       clear hx
       go_wp2
       go_ret2
       exact ⟨by rw [HR2.out];rfl,bl_tr HB0.out (bl_tr HB.out (bl_tr HB2.out HB4.out))⟩
    ·obtain rfl:k=n:=by omega
     have HX:=hid (HT.out.trans grpF_end)
     have HR2:=hid (show R=grpsF (G.drop (j+1)) (base+k) by rw [HJ2.out,HX.out];rfl)
     clear g0 g1 g2
     go_wp2
     exact ⟨⟨j+1,base+k,by omega,by go_num,by omega,rfl,HBW,HR2⟩,by simp [intOf];omega⟩
  ·obtain rfl:j=5:=by omega
   have HR2:=hid (HJ.out.trans (grpsF_end (by rw [HGL.out];exact Nat.le_refl _)))
   go_wp2
   go_ret2
   exact ⟨by rw [HR2.out];rfl,bl_tr HB0.out HB.out⟩
end
def tv (t:TmZ):Value:=.agg #[.int .i64 t.kind,.int .i64 t.value,.string t.name]
section
variable {W:World}
set_option maxRecDepth 100000 in
theorem taken_p (t:TmZ) (W:World):Calls Tryz.prog 159 #[tv t] W (RetB (.int .i64 ((tkT t:Nat):Int)) W):=by
 obtain ⟨k,v,s⟩:=t
 unfold tv tkT
 simp only
 by_cases h5:k=5
 ·subst h5
  go_enter Tryz.func159,Tryz.ntmps159
  go_wp2
  go_ret
  exact ⟨rfl,bl_al (Below.refl _ _) _⟩
 by_cases h3:k=3
 ·subst h3
  go_enter Tryz.func159,Tryz.ntmps159
  go_wp2
  go_ret
  exact ⟨rfl,bl_al (Below.refl _ _) _⟩
 by_cases h4:k=4
 ·subst h4
  go_enter Tryz.func159,Tryz.ntmps159
  go_wp2
  go_ret
  exact ⟨rfl,bl_al (Below.refl _ _) _⟩
 rw [if_neg h5,if_neg (by omega)]
 have e5:(k == 5)=false:=by simpa using h5
 have e3:(k == 3)=false:=by simpa using h3
 have e4:(k == 4)=false:=by simpa using h4
 go_enter Tryz.func159,Tryz.ntmps159
 go_wp2
 go_ret
 exact ⟨rfl,bl_al (Below.refl _ _) _⟩
theorem goodT_1 (v:Int) (s:ByteArray):goodT ⟨1,v,s⟩=(decide (0≤v) && s.toList.isEmpty):=rfl
theorem goodT_n {k:Int} (h:k=2∨k=3) (v:Int) (s:ByteArray):goodT ⟨k,v,s⟩=(decide (v=0) && nameZ s):=by rcases h with rfl | rfl <;> rfl
theorem goodT_4 (v:Int) (s:ByteArray):goodT ⟨4,v,s⟩=(decide (15≤v∧v≤17) && s.toList.isEmpty):=rfl
theorem goodT_5 (v:Int) (s:ByteArray):goodT ⟨5,v,s⟩=(decide (1≤v∧v≤14) && s.toList.isEmpty):=rfl
theorem goodT_o {k:Int} (h1:¬k=1) (h2:¬k=2) (h3:¬k=3) (h4:¬k=4) (h5:¬k=5) (v:Int) (s:ByteArray):goodT ⟨k,v,s⟩=false:=by
 unfold goodT
 simp only
 rw [if_neg h1,if_neg (by omega),if_neg h4,if_neg h5]
set_option maxRecDepth 100000 in
set_option maxHeartbeats 2000000 in
theorem good_p (t:TmZ) (W:World):Calls Tryz.prog 160 #[tv t] W (RetB (.bool (goodT t)) W):=by
 obtain ⟨k,v,s⟩:=t
 unfold tv
 simp only
 by_cases h1:k=1
 ·subst h1
  rw [goodT_1]
  by_cases hv:0≤v
  ·rw [decide_eq_true hv,Bool.true_and]
   cases hs:s.toList.isEmpty
   all_goals
    go_enter Tryz.func160,Tryz.ntmps160
    go_wp2
    go_ret
    exact ⟨rfl,bl_al (Below.refl _ _) _⟩
  ·rw [decide_eq_false hv,Bool.false_and]
   go_enter Tryz.func160,Tryz.ntmps160
   go_wp2
   go_ret
   exact ⟨rfl,bl_al (Below.refl _ _) _⟩
 by_cases h23:k=2∨k=3
 ·rw [goodT_n h23]
  have e1:(k == 1)=false:=by simpa using h1
  have HN:=hid (fun W=>name_p s W)
  by_cases hv:v=0
  ·subst hv
   rw [decide_eq_true rfl,Bool.true_and]
   generalize nameZ s=r at *
   rcases h23 with rfl|rfl
   all_goals
    go_enter Tryz.func160,Tryz.ntmps160
    go_wp2_with (go_at_call 121;refine (HN.out _).mono ?_;rintro e w1 ⟨rfl,rfl⟩)
    go_ret
    exact ⟨rfl,bl_al (Below.refl _ _) _⟩
  ·have ev:(v == 0)=false:=by simpa using hv
   rw [decide_eq_false hv,Bool.false_and]
   rcases h23 with rfl|rfl
   all_goals
    go_enter Tryz.func160,Tryz.ntmps160
    go_wp2
    go_ret
    exact ⟨rfl,bl_al (Below.refl _ _) _⟩
 by_cases h4:k=4
 ·subst h4
  rw [goodT_4]
  by_cases hv:15≤v
  ·by_cases hu:v≤17
   ·rw [decide_eq_true ⟨hv,hu⟩,Bool.true_and]
    cases hs:s.toList.isEmpty
    all_goals
     go_enter Tryz.func160,Tryz.ntmps160
     go_wp2
     go_ret
     exact ⟨rfl,bl_al (Below.refl _ _) _⟩
   ·rw [decide_eq_false (by omega),Bool.false_and]
    go_enter Tryz.func160,Tryz.ntmps160
    go_wp2
    go_ret
    exact ⟨rfl,bl_al (Below.refl _ _) _⟩
  ·rw [decide_eq_false (by omega),Bool.false_and]
   go_enter Tryz.func160,Tryz.ntmps160
   go_wp2
   go_ret
   exact ⟨rfl,bl_al (Below.refl _ _) _⟩
 by_cases h5:k=5
 ·subst h5
  rw [goodT_5]
  by_cases hv:1≤v
  ·by_cases hu:v≤14
   ·rw [decide_eq_true ⟨hv,hu⟩,Bool.true_and]
    cases hs:s.toList.isEmpty
    all_goals
     go_enter Tryz.func160,Tryz.ntmps160
     go_wp2
     go_ret
     exact ⟨rfl,bl_al (Below.refl _ _) _⟩
   ·rw [decide_eq_false (by omega),Bool.false_and]
    go_enter Tryz.func160,Tryz.ntmps160
    go_wp2
    go_ret
    exact ⟨rfl,bl_al (Below.refl _ _) _⟩
  ·rw [decide_eq_false (by omega),Bool.false_and]
   go_enter Tryz.func160,Tryz.ntmps160
   go_wp2
   go_ret
   exact ⟨rfl,bl_al (Below.refl _ _) _⟩
 have h2:¬k=2:=fun e=>h23 (.inl e)
 have h3:¬k=3:=fun e=>h23 (.inr e)
 rw [goodT_o h1 h2 h3 h4 h5]
 have e1:(k == 1)=false:=by simpa using h1
 have e2:(k == 2)=false:=by simpa using h2
 have e3:(k == 3)=false:=by simpa using h3
 have e4:(k == 4)=false:=by simpa using h4
 have e5:(k == 5)=false:=by simpa using h5
 clear h23
 go_enter Tryz.func160,Tryz.ntmps160
 go_wp2
 go_ret
 exact ⟨rfl,bl_al (Below.refl _ _) _⟩
theorem whF_stop {t:TmZ} {r:List TmZ} {n:Nat} (h:goodT t=false∨n<tkT t):whF (t::r) n=false:=by
 unfold whF
 rcases h with h|h
 ·rw [h];simp
 ·rw [decide_eq_false (by omega)];simp
theorem whF_go {t:TmZ} {r:List TmZ} {n:Nat} (h:goodT t=true) (h2:¬n<tkT t):whF (t::r) n=whF r (n - tkT t+1):=by
 rw [whF,h,decide_eq_true (by omega)];simp
theorem drop_next {α:Type} {l:List α} {k:Nat} (h:k<l.length):l.drop k=l[k]::l.drop (k+1):=by rw [List.drop_eq_getElem_cons h]
set_option maxRecDepth 100000 in
set_option maxHeartbeats 2000000 in
theorem whole_p {C:Cl} {q:Option Addr} {c:Nat} (l:List TmZ) (hl:l.length≤4611686018427387904) (hrow:TmAt C q l) (hC:CLe C (wC W)):Calls Tryz.prog 132 #[.slice q l.length c] W (RetB (.bool (whF l 0)) W):=by
 have HA:=hid hrow
 have HCC:=hid hC
 obtain ⟨n,hn⟩:∃n,l.length=n:=⟨_,rfl⟩
 have HN:=hid hn
 rw [hn] at hl ⊢
 clear hrow hC hn
 go_enter Tryz.func132,Tryz.ntmps132
 go_wp2
 go_loopw [3,9] (fun v i wr=>∃k m:Nat,k≤n∧i=.int .i64 k∧m≤k∧v=.int .i64 (m:Nat)∧Hid (Below W.heap.size W wr)∧Hid (whF l 0=whF (l.drop k) m)) (fun _ i _=>n - (intOf i).toNat)
 case atStart=>exact ⟨0,0,Nat.zero_le _,rfl,Nat.le_refl _,rfl,hid (Below.refl _ _),hid rfl⟩
 case round =>
  obtain ⟨k,m,hk,rfl,hm,rfl,HB,HT⟩:=hrel
  by_cases hlt:k<n
  ·have hk1:k<l.length:=by rw [HN.out];exact hlt
   obtain ⟨g,o,rfl,a0,a1,a2⟩:=HA.out k hk1
   have HD:=hid (drop_next hk1)
   have e0:wr.cell? ⟨g,o+k*3,none⟩=some (.int .i64 l[k].kind):=below_cle HB.out _ _ (HCC.out _ _ a0)
   have e1:wr.cell? ⟨g,o+k*3+1,none⟩=some (.int .i64 l[k].value):=below_cle HB.out _ _ (HCC.out _ _ a1)
   have e2:wr.cell? ⟨g,o+k*3+2,none⟩=some (.string l[k].name):=below_cle HB.out _ _ (HCC.out _ _ a2)
   have hg:g<wr.heap.size:=cell_lt e0
   clear a0 a1 a2
   generalize l[k]=t at *
   have HTK:=hid (fun w=>taken_p t w)
   have HGD:=hid (fun w=>good_p t w)
   have HST:=hid (fun r=>@whF_stop t r m)
   have HGO:=hid (fun r=>@whF_go t r m)
   have htk:tkT t≤2:=by unfold tkT;split <;> (try split) <;> omega
   clear hk1
   obtain ⟨kd,vl,nm⟩:=t
   unfold tv at HTK HGD
   generalize tkT ⟨kd,vl,nm⟩=tk at *
   generalize goodT ⟨kd,vl,nm⟩=gd at *
   have hki:(k:Int)<(n:Int):=by omega
   simp only at e0 e1 e2 HTK HGD
   obtain ⟨bx,hbx⟩:∃bx,wr.heap.size=bx:=⟨_,rfl⟩
   have hbb:Below wr.heap.size wr (wr.alloc (.cells #[.int .i64 kd,.int .i64 vl,.string nm] 140)):=bl_al (Below.refl _ _) _
   have hrow0:(wr.alloc (.cells #[.int .i64 kd,.int .i64 vl,.string nm] 140)).heap[bx]?=some (.cells #[.int .i64 kd,.int .i64 vl,.string nm] 140 (0,0)):=by rw [←hbx];exact World.alloc_heap_new _ _
   have HBX:=hid hbb
   have HRW:=hid hrow0
   have HSZ:=hid (show bx<(wr.alloc (.cells #[.int .i64 kd,.int .i64 vl,.string nm] 140)).heap.size by simp [hbx])
   clear hbb hrow0
   go_wp2_with fail
   generalize wr.alloc (.cells #[.int .i64 kd,.int .i64 vl,.string nm] 140)=w0 at *
   go_at_call 159
   refine (HTK.out _).mono ?_
   rintro e w1 ⟨rfl,hb1⟩
   have hr1:=(hb1.block bx HSZ.out).trans HRW.out
   have HB1:=hid (bl_tr (bl_tr HB.out HBX.out) hb1)
   have g0:=cell_of (j:=0) hr1 rfl
   have g1:=cell_of (j:=1) hr1 rfl
   have g2:=cell_of (j:=2) hr1 rfl
   clear hb1 hr1 e0 e1 e2
   go_wp2_with fail
   go_at_call 160
   refine (HGD.out _).mono ?_
   rintro e w2 ⟨rfl,hb2⟩
   have HB2:=hid (bl_tr HB1.out hb2)
   clear hb2 g0 g1 g2
   by_cases hlt2:m<tk
   ·have HF:=hid (show whF l 0=false by rw [HT.out,HD.out];exact HST.out _ (.inr hlt2))
    have hlt3:((m:Nat):Int)<((tk:Nat):Int):=by omega
    cases gd
    all_goals
     go_wp2
     go_ret
     exact ⟨ret_bool HF.out.symm,HB2.out⟩
   ·have hlt3:¬((m:Nat):Int)<((tk:Nat):Int):=by omega
    cases hgd:gd
    ·have HF:=hid (show whF l 0=false by rw [HT.out,HD.out];exact HST.out _ (.inl hgd))
     clear hgd
     go_wp2
     go_ret
     exact ⟨ret_bool HF.out.symm,HB2.out⟩
    ·have HF:=hid (show whF l 0=whF (l.drop (k+1)) (m - tk+1) by rw [HT.out,HD.out];exact HGO.out _ hgd hlt2)
     clear hgd
     go_wp2
     exact ⟨⟨k+1,m - tk+1,by omega,by go_num,by omega,by
      congr 1
      first|omega|(unfold wrap64;omega),HB2,HF⟩,by simp [intOf];omega⟩
  ·have hk':k=n:=by omega
   subst hk'
   have HF:=hid (show whF l 0=(m == 1) by rw [HT.out,List.drop_of_length_le (by rw [HN.out];exact Nat.le_refl _)];rfl)
   by_cases h1:m=1
   ·subst h1
    go_wp2
    go_ret
    exact ⟨ret_bool HF.out.symm,HB.out⟩
   ·have h2:(((m:Nat):Int) == 1)=false:=by simp;omega
    go_wp2
    go_ret
    exact ⟨ret_bool (by rw [HF.out];symm;simpa using h1),HB.out⟩
end
def cnI:Option Nat→Int
 | none=>-1
 | some k=>(k:Int)
def fmV (x:Bool × Option Nat × Option Nat):Value:=.agg #[.bool x.1,.int .i64 (cnI x.2.1),.int .i64 (cnI x.2.2)]
def foV:Option (Bool × Option Nat × Option Nat)→Value
 | some x=>.tuple #[fmV x,.bool true]
 | none=>.tuple #[.agg #[.bool false,.int .i64 0,.int .i64 0],.bool false]
section
variable {W:World}
set_option maxRecDepth 100000 in
set_option maxHeartbeats 1000000 in
theorem formOf_p (k:Int) (W:World):Calls Tryz.prog 129 #[.int .i64 k] W (RetB (foV (formZ k)) W):=by
 by_cases h1:k=1
 ·subst h1
  show Calls _ _ _ _ (RetB (foV (some (false,some 1,some 1))) W)
  go_enter Tryz.func129,Tryz.ntmps129
  go_wp2
  exact bodyPost_ret (v:=foV (some (false,some 1,some 1))) (by simp [results,Tryz.results129,go_sem,foV,fmV,cnI]) rfl ⟨rfl,by repeat (first|exact Below.refl _ _|refine bl_al ?_ _|refine bl_dr ?_)⟩
 by_cases h2:k=2
 ·subst h2
  show Calls _ _ _ _ (RetB (foV (some (true,some 0,some 2))) W)
  go_enter Tryz.func129,Tryz.ntmps129
  go_wp2
  exact bodyPost_ret (v:=foV (some (true,some 0,some 2))) (by simp [results,Tryz.results129,go_sem,foV,fmV,cnI]) rfl ⟨rfl,by repeat (first|exact Below.refl _ _|refine bl_al ?_ _|refine bl_dr ?_)⟩
 by_cases h3:k=3
 ·subst h3
  show Calls _ _ _ _ (RetB (foV (some (true,some 0,some 1))) W)
  go_enter Tryz.func129,Tryz.ntmps129
  go_wp2
  exact bodyPost_ret (v:=foV (some (true,some 0,some 1))) (by simp [results,Tryz.results129,go_sem,foV,fmV,cnI]) rfl ⟨rfl,by repeat (first|exact Below.refl _ _|refine bl_al ?_ _|refine bl_dr ?_)⟩
 by_cases h4:k=4
 ·subst h4
  show Calls _ _ _ _ (RetB (foV (some (true,none,none))) W)
  go_enter Tryz.func129,Tryz.ntmps129
  go_wp2
  exact bodyPost_ret (v:=foV (some (true,none,none))) (by simp [results,Tryz.results129,go_sem,foV,fmV,cnI]) rfl ⟨rfl,by repeat (first|exact Below.refl _ _|refine bl_al ?_ _|refine bl_dr ?_)⟩
 by_cases h5:k=5
 ·subst h5
  show Calls _ _ _ _ (RetB (foV (some (false,some 0,some 1))) W)
  go_enter Tryz.func129,Tryz.ntmps129
  go_wp2
  exact bodyPost_ret (v:=foV (some (false,some 0,some 1))) (by simp [results,Tryz.results129,go_sem,foV,fmV,cnI]) rfl ⟨rfl,by repeat (first|exact Below.refl _ _|refine bl_al ?_ _|refine bl_dr ?_)⟩
 by_cases h6:k=6
 ·subst h6
  show Calls _ _ _ _ (RetB (foV (some (false,some 0,some 0))) W)
  go_enter Tryz.func129,Tryz.ntmps129
  go_wp2
  exact bodyPost_ret (v:=foV (some (false,some 0,some 0))) (by simp [results,Tryz.results129,go_sem,foV,fmV,cnI]) rfl ⟨rfl,by repeat (first|exact Below.refl _ _|refine bl_al ?_ _|refine bl_dr ?_)⟩
 by_cases h7:k=7
 ·subst h7
  show Calls _ _ _ _ (RetB (foV (some (false,some 0,some 1))) W)
  go_enter Tryz.func129,Tryz.ntmps129
  go_wp2
  exact bodyPost_ret (v:=foV (some (false,some 0,some 1))) (by simp [results,Tryz.results129,go_sem,foV,fmV,cnI]) rfl ⟨rfl,by repeat (first|exact Below.refl _ _|refine bl_al ?_ _|refine bl_dr ?_)⟩
 by_cases h8:k=8
 ·subst h8
  show Calls _ _ _ _ (RetB (foV (some (false,some 0,some 0))) W)
  go_enter Tryz.func129,Tryz.ntmps129
  go_wp2
  exact bodyPost_ret (v:=foV (some (false,some 0,some 0))) (by simp [results,Tryz.results129,go_sem,foV,fmV,cnI]) rfl ⟨rfl,by repeat (first|exact Below.refl _ _|refine bl_al ?_ _|refine bl_dr ?_)⟩
 by_cases h9:k=9
 ·subst h9
  show Calls _ _ _ _ (RetB (foV (some (false,some 0,none))) W)
  go_enter Tryz.func129,Tryz.ntmps129
  go_wp2
  exact bodyPost_ret (v:=foV (some (false,some 0,none))) (by simp [results,Tryz.results129,go_sem,foV,fmV,cnI]) rfl ⟨rfl,by repeat (first|exact Below.refl _ _|refine bl_al ?_ _|refine bl_dr ?_)⟩
 have hz:formZ k=none:=by
  unfold formZ
  rw [if_neg h1,if_neg h2,if_neg h3,if_neg h4,if_neg (by omega),if_neg (by omega),if_neg h9]
 rw [hz]
 have e1:(k == 1)=false:=by simpa using h1
 have e2:(k == 2)=false:=by simpa using h2
 have e3:(k == 3)=false:=by simpa using h3
 have e4:(k == 4)=false:=by simpa using h4
 have e5:(k == 5)=false:=by simpa using h5
 have e6:(k == 6)=false:=by simpa using h6
 have e7:(k == 7)=false:=by simpa using h7
 have e8:(k == 8)=false:=by simpa using h8
 have e9:(k == 9)=false:=by simpa using h9
 clear h1 h2 h3 h4 h5 h6 h7 h8 h9 hz
 go_enter Tryz.func129,Tryz.ntmps129
 go_wp2
 exact bodyPost_ret (v:=foV none) (by simp [results,Tryz.results129,go_sem,foV]) rfl ⟨rfl,by repeat (first|exact Below.refl _ _|refine bl_al ?_ _|refine bl_dr ?_)⟩
theorem isCount_p (n:Nat) (x:Option Nat) (W:World):Calls Tryz.prog 156 #[.int .i64 (n:Int),.int .i64 (cnI x)] W fun e w'=>e=.returned (.bool (isC n x))∧W=w':=by
 cases x with
 | none =>
  show Calls Tryz.prog 156 #[.int .i64 (n:Int),.int .i64 (-1)] W _
  go_enter Tryz.func156,Tryz.ntmps156
  go_wp2
  go_ret
  exact ⟨rfl,rfl⟩
 | some m =>
  show Calls Tryz.prog 156 #[.int .i64 (n:Int),.int .i64 (m:Int)] W _
  have h1:((m:Int) == -1)=false:=by rw [beq_eq_false_iff_ne];omega
  go_enter Tryz.func156,Tryz.ntmps156
  go_wp2
  go_ret
  exact ⟨ret_bool (by rw [Bool.eq_iff_iff];first|(simp [isC];done)|(simp [isC];omega)),rfl⟩
def stV (x:StZ) (qt:Option Addr) (ct:Nat) (qe:Option Addr) (ce:Nat):Value:=.agg #[.int .i64 x.kind,.string x.name,.slice qt x.targets.length ct,.slice qe x.exprs.length ce]
set_option maxRecDepth 100000 in
set_option maxHeartbeats 2000000 in
theorem matches_p (x:StZ) (qt:Option Addr) (ct:Nat) (qe:Option Addr) (ce:Nat) (nd:Bool) (tg ex:Option Nat) (W:World) :
 Calls Tryz.prog 130 #[fmV (nd,tg,ex),stV x qt ct qe ce] W (RetB (.bool ((if nd then nameZ x.name else x.name.toList.isEmpty) && isC x.targets.length tg && isC x.exprs.length ex)) W):=by
 obtain ⟨kd,nm,ts,es⟩:=x
 unfold fmV stV
 simp only
 have HT:=hid (fun W=>isCount_p ts.length tg W)
 have HE:=hid (fun W=>isCount_p es.length ex W)
 have HN:=hid (fun W=>name_p nm W)
 generalize ts.length=nt at *
 generalize es.length=ne at *
 generalize isC nt tg=b1 at *
 generalize isC ne ex=b2 at *
 generalize cnI tg=z1 at *
 generalize cnI ex=z2 at *
 generalize nameZ nm=b3 at *
 cases nd
 ·rw [if_neg (by decide)]
  cases hs:nm.toList.isEmpty
  ·go_enter Tryz.func130,Tryz.ntmps130
   go_wp2
   go_ret
   exact ⟨rfl,by repeat (first|exact Below.refl _ _|refine bl_al ?_ _|refine bl_dr ?_)⟩
  ·go_enter Tryz.func130,Tryz.ntmps130
   go_wp2_with fail
   go_at_call 156
   refine (HT.out _).mono ?_
   rintro e w1 ⟨rfl,rfl⟩
   cases b1
   ·go_wp2
    go_ret
    exact ⟨rfl,by repeat (first|exact Below.refl _ _|refine bl_al ?_ _|refine bl_dr ?_)⟩
   ·go_wp2_with fail
    go_at_call 156
    refine (HE.out _).mono ?_
    rintro e w1 ⟨rfl,rfl⟩
    go_wp2
    go_ret
    exact ⟨rfl,by repeat (first|exact Below.refl _ _|refine bl_al ?_ _|refine bl_dr ?_)⟩
 ·rw [if_pos rfl]
  cases b3
  ·go_enter Tryz.func130,Tryz.ntmps130
   go_wp2_with (go_at_call 121;refine (HN.out _).mono ?_;rintro e w1 ⟨rfl,rfl⟩)
   go_ret
   exact ⟨rfl,by repeat (first|exact Below.refl _ _|refine bl_al ?_ _|refine bl_dr ?_)⟩
  ·go_enter Tryz.func130,Tryz.ntmps130
   go_wp2_with fail
   go_at_call 121
   refine (HN.out _).mono ?_
   rintro e w1 ⟨rfl,rfl⟩
   go_wp2_with fail
   go_at_call 156
   refine (HT.out _).mono ?_
   rintro e w1 ⟨rfl,rfl⟩
   cases b1
   ·go_wp2
    go_ret
    exact ⟨rfl,by repeat (first|exact Below.refl _ _|refine bl_al ?_ _|refine bl_dr ?_)⟩
   ·go_wp2_with fail
    go_at_call 156
    refine (HE.out _).mono ?_
    rintro e w1 ⟨rfl,rfl⟩
    go_wp2
    go_ret
    exact ⟨rfl,by repeat (first|exact Below.refl _ _|refine bl_al ?_ _|refine bl_dr ?_)⟩
theorem fitZ_none {x:StZ} (h:formZ x.kind=none):fitZ x=false:=by unfold fitZ;rw [h]
theorem fitZ_some {x:StZ} {nd:Bool} {tg ex:Option Nat} (h:formZ x.kind=some (nd,tg,ex)):fitZ x=((((if nd then nameZ x.name else x.name.toList.isEmpty) && isC x.targets.length tg && isC x.exprs.length ex) && x.targets.all nameZ) && x.exprs.all fun e=>whF e 0):=by unfold fitZ;rw [h]
set_option maxRecDepth 100000 in
set_option maxHeartbeats 4000000 in
theorem fits_p {lt:Bool} {C:Cl} (x:StZ) {qt:Option Addr} {ct:Nat} {qe:Option Addr} {ce:Nat} (ht:StrR lt C (.slice qt x.targets.length ct) x.targets) (he:ExsR lt C (.slice qe x.exprs.length ce) x.exprs) (hC:CLe C (wC W)) :
 Calls Tryz.prog 89 #[stV x qt ct qe ce] W (RetB (.bool (fitZ x)) W):=by
 have eN:Ent 121:=ent_of Tryz.func121 (by kernel_rfl) rfl
 have eW:Ent 132:=ent_of Tryz.func132 (by kernel_rfl) rfl
 have hlt:=slx_len ht
 have hle:=slx_len he
 have HF:=hid (fun W=>formOf_p x.kind W)
 have HM:=hid (fun nd tg ex W=>matches_p x qt ct qe ce nd tg ex W)
 have HT:=hid (fun (w:World) (hb:Below W.heap.size W w)=>allSr_p (W:=w) (c:=ct) (by omega) ht.cells (hC.trans (below_cle hb)) eN (ca:=#[]) nameZ (fun k hk w' _=>(name_p _ w').mono (fun _ _ h=>RetB.of_eq h)))
 have HE:=hid (fun (w:World) (hb:Below W.heap.size W w)=>allEx_p (W:=w) (c:=ce) (by omega) he.cells (hC.trans (below_cle hb)) eW (ca:=#[]) (fun e=>whF e 0) (fun k hk qe ce hx w' hb'=>whole_p _ (by have:=slx_len hx;omega) hx.cells ((hC.trans (below_cle hb)).trans (below_cle hb'))))
 have HZ0:=hid (fun h=>fitZ_none (x:=x) h)
 have HZ1:=hid (fun nd tg ex h=>fitZ_some (x:=x) (nd:=nd) (tg:=tg) (ex:=ex) h)
 clear ht he hC hlt hle eN eW
 unfold stV at HM ⊢
 obtain ⟨kd,nm,ts,es⟩:=x
 simp only at HF HM HT HE HZ0 HZ1 ⊢
 generalize ts.length=nt at *
 generalize es.length=ne at *
 generalize ts.all nameZ=b1 at *
 generalize (es.all fun e=>whF e 0)=b2 at *
 cases hf:formZ kd with
 | none =>
  have HZ2:=hid (HZ0.out hf)
  rw [hf] at HF
  clear hf HZ0 HZ1
  go_enter Tryz.func89,Tryz.ntmps89
  go_wp2_with fail
  go_at_call 129
  refine (HF.out _).mono ?_
  rintro e w1 ⟨rfl,hb1⟩
  have HB:=hid (bl_tr (bl_al (Below.refl W.heap.size W) _) hb1)
  clear hb1
  unfold foV
  go_wp2
  go_ret
  exact ⟨ret_bool HZ2.out.symm,by repeat (first|exact HB.out|refine bl_al ?_ _|refine bl_dr ?_)⟩
 | some z =>
  obtain ⟨nd,tg,ex⟩:=z
  have HZ2:=hid (HZ1.out nd tg ex hf)
  rw [hf] at HF
  clear hf HZ0 HZ1
  have HM2:=hid (fun W=>HM.out nd tg ex W)
  try simp only at HZ2 HM2
  generalize ((if nd=true then nameZ nm else nm.toList.isEmpty) && isC nt tg && isC ne ex)=b0 at *
  simp only [foV,fmV] at HF
  simp only [fmV] at HM2
  generalize cnI tg=z1 at *
  generalize cnI ex=z2 at *
  clear HM
  go_enter Tryz.func89,Tryz.ntmps89
  go_wp2_with fail
  go_at_call 129
  refine (HF.out _).mono ?_
  rintro e w1 ⟨rfl,hb1⟩
  obtain ⟨bx,hbx⟩:∃bx,W.heap.size=bx:=⟨_,rfl⟩
  have hrow0:(W.alloc (.cells #[.int .i64 kd,.string nm,.slice qt nt ct,.slice qe ne ce] 47)).heap[bx]?=some (.cells #[.int .i64 kd,.string nm,.slice qt nt ct,.slice qe ne ce] 47 (0,0)):=by rw [←hbx];exact World.alloc_heap_new _ _
  have HSZ:=hid (show bx<(W.alloc (.cells #[.int .i64 kd,.string nm,.slice qt nt ct,.slice qe ne ce] 47)).heap.size by simp [hbx])
  have hr1:=(hb1.block bx HSZ.out).trans hrow0
  have HR1:=hid hr1
  have HS1:=hid (Nat.lt_of_lt_of_le HSZ.out hb1.size)
  have HB:=hid (bl_tr (bl_al (Below.refl W.heap.size W) _) hb1)
  have g0:=cell_of (j:=0) hr1 rfl
  have g1:=cell_of (j:=1) hr1 rfl
  have g2:=cell_of (j:=2) hr1 rfl
  have g3:=cell_of (j:=3) hr1 rfl
  have HBX:=hid hbx
  clear hb1 hrow0 hr1 HSZ
  try rw [HBX.out]
  have hs1:=HS1.out
  go_wp2_with fail
  clear hs1
  generalize hw2:w1.alloc (.cells #[.bool nd,.int .i64 z1,.int .i64 z2] 174)=w2 at *
  have HB2:=hid (show Below W.heap.size W w2 by rw [←hw2];exact bl_al HB.out _)
  have HR2:=hid (show w2.heap[bx]?=some (.cells #[.int .i64 kd,.string nm,.slice qt nt ct,.slice qe ne ce] 47 (0,0)) by rw [←hw2];exact heap_new _ _ HR1.out)
  have HS2:=hid (heap_lt HR2.out)
  go_at_call 130
  refine (HM2.out _).mono ?_
  rintro e w3 ⟨rfl,hb3⟩
  have HB3:=hid (bl_tr HB2.out hb3)
  have HR3:=hid ((hb3.block bx HS2.out).trans HR2.out)
  clear hb3 hw2
  cases b0
  ·go_wp2
   go_ret
   exact ⟨ret_bool (by rw [HZ2.out];rfl),HB3.out⟩
  ·have k0:=cell_of (j:=0) HR3.out rfl
   have k1:=cell_of (j:=1) HR3.out rfl
   have k2:=cell_of (j:=2) HR3.out rfl
   have k3:=cell_of (j:=3) HR3.out rfl
   have HS3:=hid (heap_lt HR3.out)
   clear g0 g1 g2 g3
   go_wp2_with fail
   go_at_call 131
   refine (HT.out _ HB3.out).mono ?_
   rintro e w4 ⟨rfl,hb4⟩
   have HB4:=hid (bl_tr HB3.out hb4)
   have HR4:=hid ((hb4.block bx HS3.out).trans HR3.out)
   clear hb4 k0 k1 k2 k3
   cases b1
   ·go_wp2
    go_ret
    exact ⟨ret_bool (by rw [HZ2.out];rfl),HB4.out⟩
   ·have k0:=cell_of (j:=0) HR4.out rfl
    have k1:=cell_of (j:=1) HR4.out rfl
    have k2:=cell_of (j:=2) HR4.out rfl
    have k3:=cell_of (j:=3) HR4.out rfl
    go_wp2_with fail
    go_at_call 92
    refine (HE.out _ HB4.out).mono ?_
    rintro e w5 ⟨rfl,hb5⟩
    have HB5:=hid (bl_tr HB4.out hb5)
    clear hb5 k0 k1 k2 k3
    go_wp2
    go_ret
    exact ⟨ret_bool (by rw [HZ2.out];simp),HB5.out⟩
end
end Go.Proofs.YtlpdjfimefjmcaaGreatDoor
