/- Package flowtype: Expr and exprs. (Written by a program.) Package flowtype: exprs. (Written by a program.) Package flowtype: the closures of keeps. Package flowtype: keeps. (Written by genFlJ.py.) Package flowtype: keeps, a return. (Written by genFlM.py.) -/
import Derived.Test.YtlpdjfimefjmcaaGreatDoorFlOpenPR14
open Go.Lib (hid)
namespace Go.Proofs.YtlpdjfimefjmcaaGreatDoor
open Go Go.RowKit Go.Proofs.Mm
section
variable {W:World} {lt:Bool} {C:Cl} {s:SoZ} {q1:Option Addr} {c1:Nat} {q2:Option Addr} {c2:Nat} {q3:Option Addr} {c3:Nat} {q4:Option Addr} {c4:Nat} {q5:Option Addr} {c5:Nat}
theorem exL_next {s:SoZ} {f:Nat} {e:List TmZ} {a x k:Nat} (hk:k<e.length) (h:tmL s f e[k]=some x):exL s f (e.drop k) a=exL s f (e.drop (k+1)) (a ||| x):=by
 rw [List.drop_eq_getElem_cons hk,exL,h]
theorem exL_stop {s:SoZ} {f:Nat} {e:List TmZ} {a k:Nat} (hk:k<e.length) (h:tmL s f e[k]=none):exL s f (e.drop k) a=none:=by
 rw [List.drop_eq_getElem_cons hk,exL,h]
set_option maxRecDepth 100000 in
set_option maxHeartbeats 4000000 in
theorem expr_p (h:SrcO lt C s q1 c1 q2 c2 q3 c3 q4 c4 q5 c5) (hC:CLe C (wC W)) (f:Nat) (e:List TmZ) {q:Option Addr} {c:Nat} (he:TmsR lt C (.slice q e.length c) e) :
 Calls Tryz.prog 51 #[.agg (srV s q1 c1 q2 c2 q3 c3 q4 c4 q5 c5),.int .i64 (f:Int),.slice q e.length c] W (RetB (optV (exprL s f e)) W):=by
 have HT:=hid (fun (w:World) (hw:Below W.heap.size W w) (t:TmZ)=>term_p (W:=w) h (hC.trans (below_cle hw)) f t)
 have HL:=hid (fun (t:TmZ) x (hx:tmL s f t=some x)=>tm_lt h hx)
 have HE:=hid he.cells
 have HC:=hid hC
 have hle:=slx_len he
 have HIF:=hid (fun (w:World) (n1 n2 n3 n4 n5:Nat)=>isFunc_p (W:=w) (q1:=q1) (q2:=q2) (q3:=q3) (q4:=q4) (q5:=q5) (c1:=c1) (c2:=c2) (c3:=c3) (c4:=c4) (c5:=c5) n1 n2 n3 n4 n5 (f:Int))
 have HR:=hid (show exprL s f e=if f<s.funcs.length then exL s f (e.drop 0) 0 else none from rfl)
 unfold srV at HT ⊢
 generalize exprL s f e=R at *
 clear h hC he
 obtain ⟨n,hn⟩:∃n,e.length=n:=⟨_,rfl⟩
 have HN:=hid hn
 rw [hn] at hle ⊢
 clear hn
 generalize s.principals.length=n1 at *
 generalize s.globals.length=n2 at *
 generalize s.arrays.length=n3 at *
 generalize s.channels.length=n4 at *
 generalize s.funcs.length=n5 at *
 obtain ⟨b,hb⟩:∃b,W.heap.size=b:=⟨_,rfl⟩
 go_enter Tryz.func51,Tryz.ntmps51
 go_wp2_with fail
 have hbA:=bl_al (Below.refl W.heap.size W) (.cells #[.slice q1 n1 c1,.slice q2 n2 c2,.slice q3 n3 c3,.slice q4 n4 c4,.slice q5 n5 c5] 27)
 have j0:=InB.new' (w:=W) #[.slice q1 n1 c1,.slice q2 n2 c2,.slice q3 n3 c3,.slice q4 n4 c4,.slice q5 n5 c5] 27 hb
 try rw [hb]
 generalize W.alloc (.cells #[.slice q1 n1 c1,.slice q2 n2 c2,.slice q3 n3 c3,.slice q4 n4 c4,.slice q5 n5 c5] 27)=w0 at *
 have HBA:=hid hbA
 have HJ0:=hid j0
 clear hb hbA j0
 go_at_call 24
 refine (HIF.out _ n1 n2 n3 n4 n5).mono ?_
 rintro e' w1 ⟨rfl,hb1⟩
 have HB1:=hid (bl_tr HBA.out hb1)
 have HJ1:=hid (HJ0.out.le hb1)
 clear hb1
 by_cases hf:f<n5
 case neg =>
  have hd:decide ((0:Int)≤f∧(f:Int)<n5)=false:=decide_eq_false (by omega)
  have HRR:=hid (show R=none by rw [HR.out,if_neg hf])
  rw [hd]
  clear hf hd
  go_wp2
  exact bodyPost_ret (results_tmp2 rfl _ _ _) rfl ⟨by rw [HRR.out];rfl,HB1.out⟩
 have hd:decide ((0:Int)≤f∧(f:Int)<n5)=true:=decide_eq_true (by omega)
 have HRR:=hid (show R=exL s f (e.drop 0) 0 by rw [HR.out,if_pos hf])
 rw [hd]
 clear hf hd HR
 go_wp2_with fail
 go_loopw [8,19] (fun a i wr=>∃(k x:Nat),k≤n∧i=.int .i64 k∧a=.int .u64 (x:Nat)∧x<u64B∧Hid (R=exL s f (e.drop k) x)∧Hid (Below w1.heap.size w1 wr)) (fun _ i _=>n - (intOf i).toNat)
 case atStart=>exact ⟨0,0,Nat.zero_le _,rfl,rfl,by decide,HRR,hid (Below.refl _ _)⟩
 case round =>
  obtain ⟨k,x,hk,rfl,rfl,hx,HX,HB⟩:=hrel
  obtain ⟨V,h9⟩:∃w,w=wr:=⟨_,rfl⟩
  subst h9
  by_cases hlt:k<n
  ·have hk1:k<e.length:=by rw [HN.out];exact hlt
   obtain ⟨g,o,rfl,a0,a1,a2⟩:=HE.out k hk1
   have HBV:=hid (bl_tr HB1.out HB.out)
   have hle2:=HC.out.trans (below_cle HBV.out)
   have y0:=hle2 _ _ a0
   have y1:=hle2 _ _ a1
   have y2:=hle2 _ _ a2
   unfold wC at y0 y1 y2
   have hgl:=World.block_lt_of_cell? _ _ y0
   have HTM:=hid (fun w hw=>HT.out w hw e[k])
   have HNX:=hid (fun y hy=>exL_next (a:=x) (x:=y) (s:=s) (f:=f) hk1 hy)
   have HST:=hid (fun hy=>exL_stop (a:=x) (s:=s) (f:=f) hk1 hy)
   have HLX:=hid (HL.out e[k])
   clear a0 a1 a2 hle2
   generalize e[k]=t at *
   generalize tmL s f t=T at *
   obtain ⟨tk,tv,tn⟩:=t
   simp only at HTM y0 y1 y2
   clear hk1
   have hki:(k:Int)<(n:Int):=by omega
   have hkb:n<9223372036854775807:=by omega
   have HB2:=hid (bl_al HBV.out (.cells #[.int .i64 tk,.int .i64 tv,.string tn] 140))
   have HBL:=hid (bl_al HB.out (.cells #[.int .i64 tk,.int .i64 tv,.string tn] 140))
   have HI2:=hid (InB.new V #[.int .i64 tk,.int .i64 tv,.string tn] 140)
   have HJ2:=hid ((HJ1.out.le HB.out).le (bl_al (Below.refl _ _) (.cells #[.int .i64 tk,.int .i64 tv,.string tn] 140)))
   obtain ⟨V2,hV2⟩:∃V2,V.alloc (.cells #[.int .i64 tk,.int .i64 tv,.string tn] 140)=V2:=⟨_,rfl⟩
   rw [hV2] at HB2 HBL HI2 HJ2
   go_upto_region 7 with fail
   try rw [hV2]
   clear hV2 y0 y1 y2
   obtain ⟨x0,x1,x2,x3,x4⟩:=five_cells' HJ2.out
   have y0:=HI2.out.cell (j:=0) rfl
   have y1:=HI2.out.cell (j:=1) rfl
   have y2:=HI2.out.cell (j:=2) rfl
   have hi2:=HI2.out.lt
   have hj2:=HJ2.out.lt
   go_wp2_with fail
   go_at_call 100
   refine (HTM.out _ HB2.out).mono ?_
   rintro e' w3 ⟨rfl,hb3⟩
   have HB3:=hid (bl_tr HB2.out hb3)
   have HBL3:=hid (bl_tr HBL.out hb3)
   clear hb3 x0 x1 x2 x3 x4 y0 y1 y2 hi2 hj2
   cases T with
   | none =>
    have HRN:=hid (show R=none by rw [HX.out];exact HST.out rfl)
    unfold optV
    go_wp2
    exact bodyPost_ret (results_tmp2 rfl _ _ _) rfl ⟨by rw [HRN.out];rfl,HB3.out⟩
   | some y =>
    have hy:=HLX.out y rfl
    have HRN:=hid (show R=exL s f (e.drop (k+1)) (x ||| y) by rw [HX.out];exact HNX.out y rfl)
    have HJN:=hid (join2_p x y hx hy w3.heap.size (w3.alloc (.cells #[.int .u64 (x:Nat),.int .u64 (y:Nat)] 29)) (InB.new _ _ _))
    have hor:=or_lt hx hy
    unfold optV
    go_wp2_with fail
    go_at_call 25
    refine HJN.out.mono ?_
    rintro e' w' ⟨rfl,rfl⟩
    go_wp2
    exact ⟨⟨k+1,x ||| y,by omega,by go_num,rfl,hor,HRN,hid (bl_al HBL3.out _)⟩,by simp [intOf];omega⟩
  ·obtain rfl:n=k:=by omega
   have HRN:=hid (show R=some x by rw [HX.out,List.drop_of_length_le (by rw [HN.out];exact Nat.le_refl _)];rfl)
   go_wp2
   exact bodyPost_ret (results_tmp2 rfl _ _ _) rfl ⟨by rw [HRN.out];rfl,bl_tr HB1.out HB.out⟩
end
section
variable {W:World} {lt:Bool} {C:Cl} {s:SoZ} {q1:Option Addr} {c1:Nat} {q2:Option Addr} {c2:Nat} {q3:Option Addr} {c3:Nat} {q4:Option Addr} {c4:Nat} {q5:Option Addr} {c5:Nat}
theorem exsF_next {s:SoZ} {f:Nat} {l:List (List TmZ)} {a k:Nat} (hk:k<l.length):exsF s f (l.drop k) a=exsF s f (l.drop (k+1)) (a ||| (exprL s f l[k]).getD 0):=by
 rw [List.drop_eq_getElem_cons hk,exsF]
def ExW (lt:Bool) (C:Cl) (w:World) (q:Option Addr) (l:List (List TmZ)):Prop:=∀j (hj:j<l.length),∃g o qe ce,q=some ⟨g,o,none⟩∧w.cell? ⟨g,o+j,none⟩=some (.slice qe l[j].length ce)∧TmsR lt C (.slice qe l[j].length ce) l[j]
set_option maxRecDepth 100000 in
set_option maxHeartbeats 4000000 in
theorem exprs_p (h:SrcO lt C s q1 c1 q2 c2 q3 c3 q4 c4 q5 c5) (hC:CLe C (wC W)) (f:Nat) (l:List (List TmZ)) {q:Option Addr} {c:Nat} (he:ExW lt C W q l) (hln:l.length<9223372036854775807) :
 Calls Tryz.prog 26 #[.agg (srV s q1 c1 q2 c2 q3 c3 q4 c4 q5 c5),.int .i64 (f:Int),.slice q l.length c] W (RetB (.int .u64 ((exsL s f l:Nat):Int)) W):=by
 have HX:=hid (fun (w:World) (hw:Below W.heap.size W w) (e:List TmZ) (q:Option Addr) (c:Nat) (ht:TmsR lt C (.slice q e.length c) e)=>expr_p (W:=w) h (hC.trans (below_cle hw)) f e ht)
 have HL:=hid (fun (e:List TmZ)=>expr_lt h f e)
 have HE:=hid he
 have HR:=hid (show exsL s f l=exsF s f (l.drop 0) 0 from rfl)
 unfold srV at HX ⊢
 generalize exsL s f l=R at *
 clear h hC he
 obtain ⟨n,hn⟩:∃n,l.length=n:=⟨_,rfl⟩
 have HN:=hid hn
 rw [hn] at hln ⊢
 clear hn
 generalize s.principals.length=n1 at *
 generalize s.globals.length=n2 at *
 generalize s.arrays.length=n3 at *
 generalize s.channels.length=n4 at *
 generalize s.funcs.length=n5 at *
 obtain ⟨b,hb⟩:∃b,W.heap.size=b:=⟨_,rfl⟩
 go_enter Tryz.func26,Tryz.ntmps26
 go_wp2_with fail
 have hbA:=bl_al (Below.refl W.heap.size W) (.cells #[.slice q1 n1 c1,.slice q2 n2 c2,.slice q3 n3 c3,.slice q4 n4 c4,.slice q5 n5 c5] 27)
 have j0:=InB.new' (w:=W) #[.slice q1 n1 c1,.slice q2 n2 c2,.slice q3 n3 c3,.slice q4 n4 c4,.slice q5 n5 c5] 27 hb
 try rw [hb]
 generalize W.alloc (.cells #[.slice q1 n1 c1,.slice q2 n2 c2,.slice q3 n3 c3,.slice q4 n4 c4,.slice q5 n5 c5] 27)=w0 at *
 have HBA:=hid hbA
 have HJ0:=hid j0
 clear hb hbA j0
 go_loopw [7,14] (fun a i wr=>∃(k x:Nat),k≤n∧i=.int .i64 k∧a=.int .u64 (x:Nat)∧x<u64B∧Hid (R=exsF s f (l.drop k) x)∧Hid (Below w0.heap.size w0 wr)) (fun _ i _=>n - (intOf i).toNat)
 case atStart=>exact ⟨0,0,Nat.zero_le _,rfl,rfl,by decide,HR,hid (Below.refl _ _)⟩
 case round =>
  obtain ⟨k,x,hk,rfl,rfl,hx,HXX,HB⟩:=hrel
  obtain ⟨V,h9⟩:∃w,w=wr:=⟨_,rfl⟩
  subst h9
  by_cases hlt:k<n
  ·have hk1:k<l.length:=by rw [HN.out];exact hlt
   obtain ⟨g,o,qe,ce,rfl,a0,ht⟩:=HE.out k hk1
   have HBV:=hid (bl_tr HBA.out HB.out)
   have y0:=cell_b a0 HBV.out
   have hgl:=World.block_lt_of_cell? _ _ y0
   have HXE:=hid (fun w hw=>HX.out w hw l[k] qe ce ht)
   have HNX:=hid (exsF_next (a:=x) (s:=s) (f:=f) hk1)
   have hly:=HL.out l[k]
   clear a0 ht
   generalize l[k]=e at *
   obtain ⟨m,hm⟩:∃m,e.length=m:=⟨_,rfl⟩
   rw [hm] at HXE y0
   clear hm hk1
   generalize exprL s f e=Y at *
   have hki:(k:Int)<(n:Int):=by omega
   obtain ⟨x0,x1,x2,x3,x4⟩:=five_cells' (HJ0.out.le HB.out)
   have hj2:=(HJ0.out.le HB.out).lt
   go_wp2_with fail
   go_at_call 51
   refine (HXE.out _ HBV.out).mono ?_
   rintro e' w3 ⟨rfl,hb3⟩
   have HBL3:=hid (bl_tr HB.out hb3)
   clear hb3 x0 x1 x2 x3 x4 y0 hj2 hgl
   cases Y with
   | none =>
    have HRN:=hid (show R=exsF s f (l.drop (k+1)) x by rw [HXX.out];exact HNX.out.trans (by rw [Option.getD_none,Nat.or_zero]))
    have HJN:=hid (join2_p x 0 hx (by decide) w3.heap.size (w3.alloc (.cells #[.int .u64 (x:Nat),.int .u64 (0:Nat)] 29)) (InB.new _ _ _))
    have hor:=or_lt hx (show 0<u64B by decide)
    unfold optV
    go_wp2_with fail
    go_at_call 25
    refine HJN.out.mono ?_
    rintro e' w' ⟨rfl,rfl⟩
    go_wp2
    exact ⟨⟨k+1,x,by omega,by go_num,rfl,hx,HRN,hid (bl_al HBL3.out _)⟩,by simp [intOf];omega⟩
   | some y =>
    have hy:y<u64B:=hly
    have HRN:=hid (show R=exsF s f (l.drop (k+1)) (x ||| y) by rw [HXX.out];exact HNX.out)
    have HJN:=hid (join2_p x y hx hy w3.heap.size (w3.alloc (.cells #[.int .u64 (x:Nat),.int .u64 (y:Nat)] 29)) (InB.new _ _ _))
    have hor:=or_lt hx hy
    clear hly
    unfold optV
    go_wp2_with fail
    go_at_call 25
    refine HJN.out.mono ?_
    rintro e' w' ⟨rfl,rfl⟩
    go_wp2
    exact ⟨⟨k+1,x ||| y,by omega,by go_num,rfl,hor,HRN,hid (bl_al HBL3.out _)⟩,by simp [intOf];omega⟩
  ·obtain rfl:n=k:=by omega
   have HRN:=hid (show R=x by rw [HXX.out,List.drop_of_length_le (by rw [HN.out];exact Nat.le_refl _)];rfl)
   go_wp2
   go_ret
   exact ⟨by rw [HRN.out];rfl,bl_tr HBA.out HB.out⟩
end
theorem chgB {b:Nat} {a w:World} {u:Value} (h:Chg (fun k=>k=b) a w):Chg (fun k=>k=b) a (w.setCell ⟨b,0,none⟩ u):=h.setCell (p:=⟨b,0,none⟩) (.inl rfl) u
section
variable {W:World} {lt:Bool} {C:Cl} {s:SoZ} {q1:Option Addr} {c1:Nat} {q2:Option Addr} {c2:Nat} {q3:Option Addr} {c3:Nat} {q4:Option Addr} {c4:Nat} {q5:Option Addr} {c5:Nat}
set_option maxRecDepth 100000 in
set_option maxHeartbeats 4000000 in
theorem flow_p (x y lv:Nat) (hx:x<u64B) (hy:y<u64B) (hl:lv<u64B) (kept:Bool) (b9 b7:Nat) (h9:InB W b9 #[.bool kept] 4) (h7:W.cell? ⟨b7,0,none⟩=some (.int .u64 (lv:Nat))) :
 Calls Tryz.prog 47 #[.int .u64 (x:Nat),.int .u64 (y:Nat),.pointer (some ⟨b9,0,none⟩),.pointer (some ⟨b7,0,none⟩)] W fun e w'=>e=.returned (.tuple #[])∧InB w' b9 #[.bool (kept && within (x ||| lv) y)] 4∧Chg (fun k=>k=b9) W w':=by
 have c9:=h9.cell (j:=0) rfl
 have f9:=free_of (j:=0) h9
 have hl9:=h9.lt
 have hl7:=cell_lt h7
 cases kept with
 | false =>
  have H9:=hid h9
  clear h9
  go_enter Tryz.func47,Tryz.ntmps47
  go_wp2
  first|go_end0|refine bodyPost_ret (results_none rfl _ _ _) rfl ?_
  refine ⟨rfl,?_,?_⟩
  ·exact heap_set H9.out 0 _
  ·exact chgB (Chg.refl _ W)
 | true =>
  have hor:=or_lt hx hl
  have HJN:=hid (join2_p x lv hx hl W.heap.size (W.alloc (.cells #[.int .u64 (x:Nat),.int .u64 (lv:Nat)] 29)) (InB.new _ _ _))
  have HW:=hid (fun w=>within_p (x ||| lv) y hor hy w)
  have HW9:=hid h9
  have H9:=hid (h9.le (bl_al (Below.refl _ _) (.cells #[.int .u64 (x:Nat),.int .u64 (lv:Nat)] 29)))
  clear h9 hor
  generalize within (x ||| lv) y=r at *
  generalize x ||| lv=z at *
  go_enter Tryz.func47,Tryz.ntmps47
  go_wp2_with fail
  go_at_call 25
  refine HJN.out.mono ?_
  rintro e w' ⟨rfl,rfl⟩
  go_wp2_with fail
  go_at_call 48
  refine (HW.out _).mono ?_
  rintro e w' ⟨rfl,rfl⟩
  go_wp2
  first|go_end0|refine bodyPost_ret (results_none rfl _ _ _) rfl ?_
  refine ⟨rfl,?_,?_⟩
  ·exact InB.le (heap_set HW9.out 0 (.bool r)) (bl_al (Below.refl _ _) _)
  ·exact (chgB (Chg.refl _ W)).alloc _
set_option maxRecDepth 100000 in
set_option maxHeartbeats 4000000 in
theorem nameTo_p (h:SrcO lt C s q1 c1 q2 c2 q3 c3 q4 c4 q5 c5) (hC:CLe C (wC W)) (f:Nat) (nm:ByteArray) (b4 b5:Nat) (i4:InB W b4 (srV s q1 c1 q2 c2 q3 c3 q4 c4 q5 c5) 27) (i5:W.cell? ⟨b5,0,none⟩=some (.int .i64 (f:Int))) (z:Nat × Nat) (hz:fndZ s (f:Int) nm=some z) :
 Calls Tryz.prog 49 #[.string nm,.pointer (some ⟨b4,0,none⟩),.pointer (some ⟨b5,0,none⟩)] W (RetB (.int .u64 ((lblZ s f z.1 z.2:Nat):Int)) W):=by
 obtain ⟨kd,k⟩:=z
 have HF:=hid (find_q (W:=W) h hC (f:Int) nm)
 rw [hz] at HF
 have HLB:=hid (fun (w:World) (hw:Below W.heap.size W w)=>label_p (W:=w) h (hC.trans (below_cle hw)) f kd k (fnd_ref hz))
 have HI4:=hid i4
 have HI5:=hid i5
 unfold srV at HF HLB HI4
 obtain ⟨x0,x1,x2,x3,x4⟩:=srV_cells i4
 have hl4:=i4.lt
 have hl5:=cell_lt i5
 simp only
 generalize lblZ s f kd k=L at *
 clear h hC i4 hz
 generalize s.principals.length=n1 at *
 generalize s.globals.length=n2 at *
 generalize s.arrays.length=n3 at *
 generalize s.channels.length=n4 at *
 generalize s.funcs.length=n5 at *
 go_enter Tryz.func49,Tryz.ntmps49
 go_wp2_with fail
 go_at_call 13
 refine HF.out.mono ?_
 rintro e w1 ⟨rfl,hb1⟩
 have HB1:=hid hb1
 have HB2:=hid (bl_al hb1 (.cells #[.int .i64 (kd:Int),.int .i64 (k:Int)] 54))
 have HJ2:=hid (HI4.out.le HB2.out)
 have HI2:=hid (InB.new w1 #[.int .i64 (kd:Int),.int .i64 (k:Int)] 54)
 have c5:=cell_b HI5.out HB2.out
 clear hb1 x0 x1 x2 x3 x4 i5 hl4 hl5
 unfold refV
 go_upto_region 2 with fail
 obtain ⟨b9,hb9⟩:∃b9,w1.heap.size=b9:=⟨_,rfl⟩
 rw [hb9] at HI2
 try rw [hb9]
 clear hb9
 generalize w1.alloc (.cells #[.int .i64 (kd:Int),.int .i64 (k:Int)] 54)=w2 at *
 obtain ⟨x0,x1,x2,x3,x4⟩:=five_cells' HJ2.out
 have y0:=HI2.out.cell (j:=0) rfl
 have y1:=HI2.out.cell (j:=1) rfl
 have hl9:=HI2.out.lt
 have hlb:=HJ2.out.lt
 have hl5:=cell_lt c5
 go_wp2_with fail
 go_at_call 50
 refine (HLB.out _ HB2.out).mono ?_
 rintro e w3 ⟨rfl,hb3⟩
 go_wp2
 go_ret
 exact ⟨rfl,bl_tr HB2.out hb3⟩
end
def toZ (s:SoZ) (f:Nat) (n:ByteArray):Nat:=match fndZ s (f:Int) n with | some z=>lblZ s f z.1 z.2 | none=>0
def flowF (lv:Nat):List Nat→List Nat→Bool→Bool
 | a::xs,b::ys,acc=>flowF lv xs ys (acc && within (a ||| lv) b)
 | _,_,acc=>acc
def oneL (s:SoZ) (f:Nat) (l:List (List TmZ)):List Nat:=l.map fun e=>exsL s f [e]
def keepsZ (s:SoZ) (f:Nat) (x:StZ) (lv:Nat):Bool :=
 if x.kind=1 then within (exsL s f x.exprs ||| lv) (toZ s f (x.targets.headD ⟨#[]⟩))
 else if x.kind=2∨x.kind=3 then within (exsL s f x.exprs ||| lv) (toZ s f x.name)
 else if x.kind=4 then match fndZ s (f:Int) x.name with
  | none=>true
  | some z=>match s.funcs[z.2]? with
   | none=>true
   | some d=>flowF lv d.results (x.targets.map (toZ s f)) (flowF lv (oneL s f x.exprs) (d.params.map DeZ.label) true && within (0 ||| lv) d.level)
 else if x.kind=9 then match s.funcs[f]? with
  | none=>true
  | some d=>flowF lv (oneL s f x.exprs) d.results true
 else true
structure KpW (W:World) (S X:Array Value) (f lv:Value) (b4 b5 b6 b7 b9:Nat) (k:Bool) (w:World):Prop where
 i4:InB w b4 S 27
 i5:InB w b5 #[f] 3
 i6:InB w b6 X 47
 i7:InB w b7 #[lv] 29
 i9:InB w b9 #[.bool k] 4
 lo:W.heap.size≤b9
 n4:b4≠b9
 n5:b5≠b9
 n6:b6≠b9
 n7:b7≠b9
 bl:Below W.heap.size W w
theorem KpW.new (W:World) (S X:Array Value) (f lv:Value) (k:Bool):KpW W S X f lv W.heap.size (W.heap.size+1) (W.heap.size+1+1) (W.heap.size+1+1+1) (W.heap.size+1+1+1+1) k (((((W.alloc (.cells S 27)).alloc (.cells #[f] 3)).alloc (.cells X 47)).alloc (.cells #[lv] 29)).alloc (.cells #[.bool k] 4)):=by
 have h1:=InB.new W S 27
 have h2:=InB.new (W.alloc (.cells S 27)) #[f] 3
 have h3:=InB.new ((W.alloc (.cells S 27)).alloc (.cells #[f] 3)) X 47
 have h4:=InB.new (((W.alloc (.cells S 27)).alloc (.cells #[f] 3)).alloc (.cells X 47)) #[lv] 29
 have h5:=InB.new ((((W.alloc (.cells S 27)).alloc (.cells #[f] 3)).alloc (.cells X 47)).alloc (.cells #[lv] 29)) #[.bool k] 4
 simp only [World.size_alloc] at h2 h3 h4 h5
 exact ⟨h1.le (bl_al (bl_al (bl_al (bl_al (Below.refl _ _) _) _) _) _),h2.le (bl_al (bl_al (bl_al (Below.refl _ _) _) _) _),h3.le (bl_al (bl_al (Below.refl _ _) _) _),h4.le (bl_al (Below.refl _ _) _),h5,by omega,by omega,by omega,by omega,by omega,bl_al (bl_al (bl_al (bl_al (bl_al (Below.refl _ _) _) _) _) _) _⟩
section
variable {W w w':World} {S X:Array Value} {f lv:Value} {b4 b5 b6 b7 b9:Nat} {k k':Bool}
theorem KpW.le (h:KpW W S X f lv b4 b5 b6 b7 b9 k w) (hb:Below w.heap.size w w'):KpW W S X f lv b4 b5 b6 b7 b9 k w' :=
 ⟨h.i4.le hb,h.i5.le hb,h.i6.le hb,h.i7.le hb,h.i9.le hb,h.lo,h.n4,h.n5,h.n6,h.n7,bl_tr h.bl hb⟩
theorem KpW.drew (h:KpW W S X f lv b4 b5 b6 b7 b9 k w):KpW W S X f lv b4 b5 b6 b7 b9 k w.drew:=h.le (bl_dr (Below.refl _ _))
theorem KpW.flow (h:KpW W S X f lv b4 b5 b6 b7 b9 k w) (hi:InB w' b9 #[.bool k'] 4) (hc:Chg (fun b=>b=b9) w w'):KpW W S X f lv b4 b5 b6 b7 b9 k' w' :=
 ⟨hc.heap h.i4 h.n4,hc.heap h.i5 h.n5,hc.heap h.i6 h.n6,hc.heap h.i7 h.n7,hi,h.lo,h.n4,h.n5,h.n6,h.n7,h.bl.trans (hc.below h.bl.size (fun b hb=>by subst hb;exact h.lo))⟩
end
theorem exW_le {lt:Bool} {C:Cl} {W w:World} {q:Option Addr} {l:List (List TmZ)} (he:ExW lt C W q l) (hw:Below W.heap.size W w):ExW lt C w q l:=fun j hj=>by
 obtain ⟨g,o,q9,c9,e,b0,b1⟩:=he j hj
 exact ⟨g,o,q9,c9,e,below_cle hw _ _ b0,b1⟩
section
variable {W:World} {lt:Bool} {C:Cl} {s:SoZ} {q1:Option Addr} {c1:Nat} {q2:Option Addr} {c2:Nat} {q3:Option Addr} {c3:Nat} {q4:Option Addr} {c4:Nat} {q5:Option Addr} {c5:Nat}
set_option maxRecDepth 100000 in
set_option maxHeartbeats 8000000 in
theorem keeps_other (f:Nat) (kd:Int) (lv:Nat) (xn:ByteArray) (qt qe:Option Addr) (nt ct ne ce:Nat) (h1:¬kd=1) (h2:¬kd=2) (h3:¬kd=3) (h4:¬kd=4) (h9:¬kd=9) :
 Calls Tryz.prog 23 #[.agg (srV s q1 c1 q2 c2 q3 c3 q4 c4 q5 c5),.int .i64 (f:Int),.agg #[.int .i64 kd,.string xn,.slice qt nt ct,.slice qe ne ce],.int .u64 (lv:Nat)] W (RetB (.bool true) W):=by
 unfold srV
 generalize s.principals.length=n1 at *
 generalize s.globals.length=n2 at *
 generalize s.arrays.length=n3 at *
 generalize s.channels.length=n4 at *
 generalize s.funcs.length=n5 at *
 have e1:(kd == 1)=false:=by simpa using h1
 have e2:(kd == 2)=false:=by simpa using h2
 have e3:(kd == 3)=false:=by simpa using h3
 have e4:(kd == 4)=false:=by simpa using h4
 have e9:(kd == 9)=false:=by simpa using h9
 have HK:=hid (KpW.new W #[.slice q1 n1 c1,.slice q2 n2 c2,.slice q3 n3 c3,.slice q4 n4 c4,.slice q5 n5 c5] #[.int .i64 (kd),.string xn,.slice qt nt ct,.slice qe ne ce] (.int .i64 (f:Int)) (.int .u64 (lv:Nat)) true)
 go_enter Tryz.func23,Tryz.ntmps23
 go_upto_region 4 with fail
 obtain ⟨w5,hw5⟩:∃w,(((((W.alloc (.cells #[.slice q1 n1 c1,.slice q2 n2 c2,.slice q3 n3 c3,.slice q4 n4 c4,.slice q5 n5 c5] 27)).alloc (.cells #[.int .i64 (f:Int)] 3)).alloc (.cells #[.int .i64 (kd),.string xn,.slice qt nt ct,.slice qe ne ce] 47)).alloc (.cells #[.int .u64 (lv:Nat)] 29)).alloc (.cells #[.bool true] 4))=w:=⟨_,rfl⟩
 rw [hw5] at HK ⊢
 clear hw5
 obtain ⟨b9,hb9⟩:∃b,W.heap.size+1+1+1+1=b:=⟨_,rfl⟩
 rw [hb9] at HK ⊢
 clear hb9
 obtain ⟨b7,hb7⟩:∃b,W.heap.size+1+1+1=b:=⟨_,rfl⟩
 rw [hb7] at HK ⊢
 clear hb7
 obtain ⟨b6,hb6⟩:∃b,W.heap.size+1+1=b:=⟨_,rfl⟩
 rw [hb6] at HK ⊢
 clear hb6
 obtain ⟨b5,hb5⟩:∃b,W.heap.size+1=b:=⟨_,rfl⟩
 rw [hb5] at HK ⊢
 clear hb5
 obtain ⟨b4,hb4⟩:∃b,W.heap.size=b:=⟨_,rfl⟩
 rw [hb4] at HK ⊢
 clear hb4
 have k0:=HK.out.i6.cell (j:=0) (v:=.int .i64 (kd)) rfl
 have l6:=HK.out.i6.lt
 have k9:=HK.out.i9.cell (j:=0) (v:=.bool true) rfl
 have l9:=HK.out.i9.lt
 go_wp2_with fail
 go_ret
 exact ⟨rfl,HK.out.bl⟩
set_option maxRecDepth 100000 in
set_option maxHeartbeats 8000000 in
theorem keeps_2 (h:SrcO lt C s q1 c1 q2 c2 q3 c3 q4 c4 q5 c5) (hC:CLe C (wC W)) (f lv:Nat) (hlv:lv<u64B) (xn:ByteArray) (xs:List (List TmZ)) (qt qe:Option Addr) (nt ct ce:Nat) (he:ExW lt C W qe xs) (hln:xs.length<9223372036854775807) (z:Nat × Nat) (hz:fndZ s (f:Int) xn=some z) :
 Calls Tryz.prog 23 #[.agg (srV s q1 c1 q2 c2 q3 c3 q4 c4 q5 c5),.int .i64 (f:Int),.agg #[.int .i64 2,.string xn,.slice qt nt ct,.slice qe xs.length ce],.int .u64 (lv:Nat)] W (RetB (.bool (within (exsL s f xs ||| lv) (toZ s f xn))) W):=by
 have hto:toZ s f xn=lblZ s f z.1 z.2:=by unfold toZ;rw [hz]
 rw [hto]
 have HXS:=hid (fun (w:World) (hw:Below W.heap.size W w)=>exprs_p (W:=w) h (hC.trans (below_cle hw)) f xs (q:=qe) (c:=ce) (exW_le he hw) hln)
 have HNT:=hid (fun (w:World) (hw:Below W.heap.size W w) b4 b5 i4 i5=>nameTo_p (W:=w) h (hC.trans (below_cle hw)) f xn b4 b5 i4 i5 z hz)
 have HFL:=hid (fun (w:World) b9 b7 h9 h7=>flow_p (W:=w) (exsL s f xs) (lblZ s f z.1 z.2) lv (exs_lt h f xs 0 (by decide)) (lbl_lt h f z.1 z.2) hlv true b9 b7 h9 h7)
 unfold srV at HXS HNT ⊢
 generalize exsL s f xs=ex at *
 generalize lblZ s f z.1 z.2=tg at *
 clear h hC hto hz he
 generalize xs.length=ne at *
 generalize s.principals.length=n1 at *
 generalize s.globals.length=n2 at *
 generalize s.arrays.length=n3 at *
 generalize s.channels.length=n4 at *
 generalize s.funcs.length=n5 at *
 have HK:=hid (KpW.new W #[.slice q1 n1 c1,.slice q2 n2 c2,.slice q3 n3 c3,.slice q4 n4 c4,.slice q5 n5 c5] #[.int .i64 (2),.string xn,.slice qt nt ct,.slice qe ne ce] (.int .i64 (f:Int)) (.int .u64 (lv:Nat)) true)
 go_enter Tryz.func23,Tryz.ntmps23
 go_upto_region 4 with fail
 obtain ⟨w5,hw5⟩:∃w,(((((W.alloc (.cells #[.slice q1 n1 c1,.slice q2 n2 c2,.slice q3 n3 c3,.slice q4 n4 c4,.slice q5 n5 c5] 27)).alloc (.cells #[.int .i64 (f:Int)] 3)).alloc (.cells #[.int .i64 (2),.string xn,.slice qt nt ct,.slice qe ne ce] 47)).alloc (.cells #[.int .u64 (lv:Nat)] 29)).alloc (.cells #[.bool true] 4))=w:=⟨_,rfl⟩
 rw [hw5] at HK ⊢
 clear hw5
 obtain ⟨b9,hb9⟩:∃b,W.heap.size+1+1+1+1=b:=⟨_,rfl⟩
 rw [hb9] at HK ⊢
 clear hb9
 obtain ⟨b7,hb7⟩:∃b,W.heap.size+1+1+1=b:=⟨_,rfl⟩
 rw [hb7] at HK ⊢
 clear hb7
 obtain ⟨b6,hb6⟩:∃b,W.heap.size+1+1=b:=⟨_,rfl⟩
 rw [hb6] at HK ⊢
 clear hb6
 obtain ⟨b5,hb5⟩:∃b,W.heap.size+1=b:=⟨_,rfl⟩
 rw [hb5] at HK ⊢
 clear hb5
 obtain ⟨b4,hb4⟩:∃b,W.heap.size=b:=⟨_,rfl⟩
 rw [hb4] at HK ⊢
 clear hb4
 have k0:=HK.out.i6.cell (j:=0) (v:=.int .i64 (2)) rfl
 have l6:=HK.out.i6.lt
 go_wp2_with fail
 clear k0 l6
 have HS:=hid (fun (w:World) (k:Bool) (h:KpW W #[.slice q1 n1 c1,.slice q2 n2 c2,.slice q3 n3 c3,.slice q4 n4 c4,.slice q5 n5 c5] #[.int .i64 (2),.string xn,.slice qt nt ct,.slice qe ne ce] (.int .i64 (f:Int)) (.int .u64 (lv:Nat)) b4 b5 b6 b7 b9 k w)=>show w.cell? ⟨b4,0,none⟩=some (.slice q1 n1 c1)∧w.cell? ⟨b4,1,none⟩=some (.slice q2 n2 c2)∧w.cell? ⟨b4,2,none⟩=some (.slice q3 n3 c3)∧w.cell? ⟨b4,3,none⟩=some (.slice q4 n4 c4)∧w.cell? ⟨b4,4,none⟩=some (.slice q5 n5 c5)∧w.cell? ⟨b5,0,none⟩=some (.int .i64 (f:Int))∧w.cell? ⟨b6,1,none⟩=some (.string xn)∧w.cell? ⟨b6,3,none⟩=some (.slice qe ne ce) from
  ⟨h.i4.cell (j:=0) rfl,h.i4.cell (j:=1) rfl,h.i4.cell (j:=2) rfl,h.i4.cell (j:=3) rfl,h.i4.cell (j:=4) rfl,h.i5.cell (j:=0) rfl,h.i6.cell (j:=1) rfl,h.i6.cell (j:=3) rfl⟩)
 have HKB:=hid (fun (w:World) (k:Bool) (h:KpW W #[.slice q1 n1 c1,.slice q2 n2 c2,.slice q3 n3 c3,.slice q4 n4 c4,.slice q5 n5 c5] #[.int .i64 (2),.string xn,.slice qt nt ct,.slice qe ne ce] (.int .i64 (f:Int)) (.int .u64 (lv:Nat)) b4 b5 b6 b7 b9 k w)=>h.bl)
 have HKK:=hid (fun (w:World) (h:KpW W #[.slice q1 n1 c1,.slice q2 n2 c2,.slice q3 n3 c3,.slice q4 n4 c4,.slice q5 n5 c5] #[.int .i64 (2),.string xn,.slice qt nt ct,.slice qe ne ce] (.int .i64 (f:Int)) (.int .u64 (lv:Nat)) b4 b5 b6 b7 b9 true w)=>And.intro h.bl (And.intro h.i4 (And.intro (h.i5.cell (j:=0) (v:=.int .i64 (f:Int)) rfl) (And.intro h.i9 (h.i7.cell (j:=0) (v:=.int .u64 (lv:Nat)) rfl)))))
 go_region_held_law (fun w=>w.cell? ⟨b4,0,none⟩=some (.slice q1 n1 c1)∧w.cell? ⟨b4,1,none⟩=some (.slice q2 n2 c2)∧w.cell? ⟨b4,2,none⟩=some (.slice q3 n3 c3)∧w.cell? ⟨b4,3,none⟩=some (.slice q4 n4 c4)∧w.cell? ⟨b4,4,none⟩=some (.slice q5 n5 c5)∧w.cell? ⟨b5,0,none⟩=some (.int .i64 (f:Int))∧w.cell? ⟨b6,1,none⟩=some (.string xn)∧w.cell? ⟨b6,3,none⟩=some (.slice qe ne ce))
  ((first | (refine HS.out _ true ?_;(repeat (first | exact HK.out | refine KpW.drew ?_ | refine KpW.le ?_ hbe | refine KpW.le ?_ hbn | refine KpW.flow (k:=true) ?_ hif hcf));done) | (refine HS.out _ (true && within (ex ||| lv) tg) ?_;(repeat (first | exact HK.out | refine KpW.drew ?_ | refine KpW.le ?_ hbe | refine KpW.le ?_ hbn | refine KpW.flow (k:=true) ?_ hif hcf));done)))
  (first | (go_at_call 26;refine (HXS.out _ ?hbw).mono ?_;(case hbw=>refine (HKK.out _ ?_).1;(repeat (first | exact HK.out | refine KpW.drew ?_ | refine KpW.le ?_ hbe | refine KpW.le ?_ hbn | refine KpW.flow (k:=true) ?_ hif hcf)));rintro e we ⟨rfl,hbe⟩) | (go_at_call 49;refine (HNT.out _ ?hbw b4 b5 ?h4 ?h5).mono ?_;(case hbw=>refine (HKK.out _ ?_).1;(repeat (first | exact HK.out | refine KpW.drew ?_ | refine KpW.le ?_ hbe | refine KpW.le ?_ hbn | refine KpW.flow (k:=true) ?_ hif hcf)));(case h4=>refine (HKK.out _ ?_).2.1;(repeat (first | exact HK.out | refine KpW.drew ?_ | refine KpW.le ?_ hbe | refine KpW.le ?_ hbn | refine KpW.flow (k:=true) ?_ hif hcf)));(case h5=>refine (HKK.out _ ?_).2.2.1;(repeat (first | exact HK.out | refine KpW.drew ?_ | refine KpW.le ?_ hbe | refine KpW.le ?_ hbn | refine KpW.flow (k:=true) ?_ hif hcf)));rintro e wn ⟨rfl,hbn⟩) | (go_at_call 47;refine (HFL.out _ b9 b7 ?h9 ?h7).mono ?_;(case h9=>refine (HKK.out _ ?_).2.2.2.1;(repeat (first | exact HK.out | refine KpW.drew ?_ | refine KpW.le ?_ hbe | refine KpW.le ?_ hbn | refine KpW.flow (k:=true) ?_ hif hcf)));(case h7=>refine (HKK.out _ ?_).2.2.2.2;(repeat (first | exact HK.out | refine KpW.drew ?_ | refine KpW.le ?_ hbe | refine KpW.le ?_ hbn | refine KpW.flow (k:=true) ?_ hif hcf)));rintro e wf ⟨rfl,hif,hcf⟩))
 all_goals
  have c9:=hif.cell (j:=0) (v:=.bool (true && within (ex ||| lv) tg)) rfl
  have l9:=hif.lt
  rw [Bool.true_and] at c9
  go_wp2_with fail
  go_ret
  refine ⟨rfl,HKB.out _ (true && within (ex ||| lv) tg) ?_⟩
  (repeat (first | exact HK.out | refine KpW.drew ?_ | refine KpW.le ?_ hbe | refine KpW.le ?_ hbn | refine KpW.flow (k:=true) ?_ hif hcf))
set_option maxRecDepth 100000 in
set_option maxHeartbeats 8000000 in
theorem keeps_3 (h:SrcO lt C s q1 c1 q2 c2 q3 c3 q4 c4 q5 c5) (hC:CLe C (wC W)) (f lv:Nat) (hlv:lv<u64B) (xn:ByteArray) (xs:List (List TmZ)) (qt qe:Option Addr) (nt ct ce:Nat) (he:ExW lt C W qe xs) (hln:xs.length<9223372036854775807) (z:Nat × Nat) (hz:fndZ s (f:Int) xn=some z) :
 Calls Tryz.prog 23 #[.agg (srV s q1 c1 q2 c2 q3 c3 q4 c4 q5 c5),.int .i64 (f:Int),.agg #[.int .i64 3,.string xn,.slice qt nt ct,.slice qe xs.length ce],.int .u64 (lv:Nat)] W (RetB (.bool (within (exsL s f xs ||| lv) (toZ s f xn))) W):=by
 have hto:toZ s f xn=lblZ s f z.1 z.2:=by unfold toZ;rw [hz]
 rw [hto]
 have HXS:=hid (fun (w:World) (hw:Below W.heap.size W w)=>exprs_p (W:=w) h (hC.trans (below_cle hw)) f xs (q:=qe) (c:=ce) (exW_le he hw) hln)
 have HNT:=hid (fun (w:World) (hw:Below W.heap.size W w) b4 b5 i4 i5=>nameTo_p (W:=w) h (hC.trans (below_cle hw)) f xn b4 b5 i4 i5 z hz)
 have HFL:=hid (fun (w:World) b9 b7 h9 h7=>flow_p (W:=w) (exsL s f xs) (lblZ s f z.1 z.2) lv (exs_lt h f xs 0 (by decide)) (lbl_lt h f z.1 z.2) hlv true b9 b7 h9 h7)
 unfold srV at HXS HNT ⊢
 generalize exsL s f xs=ex at *
 generalize lblZ s f z.1 z.2=tg at *
 clear h hC hto hz he
 generalize xs.length=ne at *
 generalize s.principals.length=n1 at *
 generalize s.globals.length=n2 at *
 generalize s.arrays.length=n3 at *
 generalize s.channels.length=n4 at *
 generalize s.funcs.length=n5 at *
 have HK:=hid (KpW.new W #[.slice q1 n1 c1,.slice q2 n2 c2,.slice q3 n3 c3,.slice q4 n4 c4,.slice q5 n5 c5] #[.int .i64 (3),.string xn,.slice qt nt ct,.slice qe ne ce] (.int .i64 (f:Int)) (.int .u64 (lv:Nat)) true)
 go_enter Tryz.func23,Tryz.ntmps23
 go_upto_region 4 with fail
 obtain ⟨w5,hw5⟩:∃w,(((((W.alloc (.cells #[.slice q1 n1 c1,.slice q2 n2 c2,.slice q3 n3 c3,.slice q4 n4 c4,.slice q5 n5 c5] 27)).alloc (.cells #[.int .i64 (f:Int)] 3)).alloc (.cells #[.int .i64 (3),.string xn,.slice qt nt ct,.slice qe ne ce] 47)).alloc (.cells #[.int .u64 (lv:Nat)] 29)).alloc (.cells #[.bool true] 4))=w:=⟨_,rfl⟩
 rw [hw5] at HK ⊢
 clear hw5
 obtain ⟨b9,hb9⟩:∃b,W.heap.size+1+1+1+1=b:=⟨_,rfl⟩
 rw [hb9] at HK ⊢
 clear hb9
 obtain ⟨b7,hb7⟩:∃b,W.heap.size+1+1+1=b:=⟨_,rfl⟩
 rw [hb7] at HK ⊢
 clear hb7
 obtain ⟨b6,hb6⟩:∃b,W.heap.size+1+1=b:=⟨_,rfl⟩
 rw [hb6] at HK ⊢
 clear hb6
 obtain ⟨b5,hb5⟩:∃b,W.heap.size+1=b:=⟨_,rfl⟩
 rw [hb5] at HK ⊢
 clear hb5
 obtain ⟨b4,hb4⟩:∃b,W.heap.size=b:=⟨_,rfl⟩
 rw [hb4] at HK ⊢
 clear hb4
 have k0:=HK.out.i6.cell (j:=0) (v:=.int .i64 (3)) rfl
 have l6:=HK.out.i6.lt
 go_wp2_with fail
 clear k0 l6
 have HS:=hid (fun (w:World) (k:Bool) (h:KpW W #[.slice q1 n1 c1,.slice q2 n2 c2,.slice q3 n3 c3,.slice q4 n4 c4,.slice q5 n5 c5] #[.int .i64 (3),.string xn,.slice qt nt ct,.slice qe ne ce] (.int .i64 (f:Int)) (.int .u64 (lv:Nat)) b4 b5 b6 b7 b9 k w)=>show w.cell? ⟨b4,0,none⟩=some (.slice q1 n1 c1)∧w.cell? ⟨b4,1,none⟩=some (.slice q2 n2 c2)∧w.cell? ⟨b4,2,none⟩=some (.slice q3 n3 c3)∧w.cell? ⟨b4,3,none⟩=some (.slice q4 n4 c4)∧w.cell? ⟨b4,4,none⟩=some (.slice q5 n5 c5)∧w.cell? ⟨b5,0,none⟩=some (.int .i64 (f:Int))∧w.cell? ⟨b6,1,none⟩=some (.string xn)∧w.cell? ⟨b6,3,none⟩=some (.slice qe ne ce) from
  ⟨h.i4.cell (j:=0) rfl,h.i4.cell (j:=1) rfl,h.i4.cell (j:=2) rfl,h.i4.cell (j:=3) rfl,h.i4.cell (j:=4) rfl,h.i5.cell (j:=0) rfl,h.i6.cell (j:=1) rfl,h.i6.cell (j:=3) rfl⟩)
 have HKB:=hid (fun (w:World) (k:Bool) (h:KpW W #[.slice q1 n1 c1,.slice q2 n2 c2,.slice q3 n3 c3,.slice q4 n4 c4,.slice q5 n5 c5] #[.int .i64 (3),.string xn,.slice qt nt ct,.slice qe ne ce] (.int .i64 (f:Int)) (.int .u64 (lv:Nat)) b4 b5 b6 b7 b9 k w)=>h.bl)
 have HKK:=hid (fun (w:World) (h:KpW W #[.slice q1 n1 c1,.slice q2 n2 c2,.slice q3 n3 c3,.slice q4 n4 c4,.slice q5 n5 c5] #[.int .i64 (3),.string xn,.slice qt nt ct,.slice qe ne ce] (.int .i64 (f:Int)) (.int .u64 (lv:Nat)) b4 b5 b6 b7 b9 true w)=>And.intro h.bl (And.intro h.i4 (And.intro (h.i5.cell (j:=0) (v:=.int .i64 (f:Int)) rfl) (And.intro h.i9 (h.i7.cell (j:=0) (v:=.int .u64 (lv:Nat)) rfl)))))
 go_region_held_law (fun w=>w.cell? ⟨b4,0,none⟩=some (.slice q1 n1 c1)∧w.cell? ⟨b4,1,none⟩=some (.slice q2 n2 c2)∧w.cell? ⟨b4,2,none⟩=some (.slice q3 n3 c3)∧w.cell? ⟨b4,3,none⟩=some (.slice q4 n4 c4)∧w.cell? ⟨b4,4,none⟩=some (.slice q5 n5 c5)∧w.cell? ⟨b5,0,none⟩=some (.int .i64 (f:Int))∧w.cell? ⟨b6,1,none⟩=some (.string xn)∧w.cell? ⟨b6,3,none⟩=some (.slice qe ne ce))
  ((first | (refine HS.out _ true ?_;(repeat (first | exact HK.out | refine KpW.drew ?_ | refine KpW.le ?_ hbe | refine KpW.le ?_ hbn | refine KpW.flow (k:=true) ?_ hif hcf));done) | (refine HS.out _ (true && within (ex ||| lv) tg) ?_;(repeat (first | exact HK.out | refine KpW.drew ?_ | refine KpW.le ?_ hbe | refine KpW.le ?_ hbn | refine KpW.flow (k:=true) ?_ hif hcf));done)))
  (first | (go_at_call 26;refine (HXS.out _ ?hbw).mono ?_;(case hbw=>refine (HKK.out _ ?_).1;(repeat (first | exact HK.out | refine KpW.drew ?_ | refine KpW.le ?_ hbe | refine KpW.le ?_ hbn | refine KpW.flow (k:=true) ?_ hif hcf)));rintro e we ⟨rfl,hbe⟩) | (go_at_call 49;refine (HNT.out _ ?hbw b4 b5 ?h4 ?h5).mono ?_;(case hbw=>refine (HKK.out _ ?_).1;(repeat (first | exact HK.out | refine KpW.drew ?_ | refine KpW.le ?_ hbe | refine KpW.le ?_ hbn | refine KpW.flow (k:=true) ?_ hif hcf)));(case h4=>refine (HKK.out _ ?_).2.1;(repeat (first | exact HK.out | refine KpW.drew ?_ | refine KpW.le ?_ hbe | refine KpW.le ?_ hbn | refine KpW.flow (k:=true) ?_ hif hcf)));(case h5=>refine (HKK.out _ ?_).2.2.1;(repeat (first | exact HK.out | refine KpW.drew ?_ | refine KpW.le ?_ hbe | refine KpW.le ?_ hbn | refine KpW.flow (k:=true) ?_ hif hcf)));rintro e wn ⟨rfl,hbn⟩) | (go_at_call 47;refine (HFL.out _ b9 b7 ?h9 ?h7).mono ?_;(case h9=>refine (HKK.out _ ?_).2.2.2.1;(repeat (first | exact HK.out | refine KpW.drew ?_ | refine KpW.le ?_ hbe | refine KpW.le ?_ hbn | refine KpW.flow (k:=true) ?_ hif hcf)));(case h7=>refine (HKK.out _ ?_).2.2.2.2;(repeat (first | exact HK.out | refine KpW.drew ?_ | refine KpW.le ?_ hbe | refine KpW.le ?_ hbn | refine KpW.flow (k:=true) ?_ hif hcf)));rintro e wf ⟨rfl,hif,hcf⟩))
 all_goals
  have c9:=hif.cell (j:=0) (v:=.bool (true && within (ex ||| lv) tg)) rfl
  have l9:=hif.lt
  rw [Bool.true_and] at c9
  go_wp2_with fail
  go_ret
  refine ⟨rfl,HKB.out _ (true && within (ex ||| lv) tg) ?_⟩
  (repeat (first | exact HK.out | refine KpW.drew ?_ | refine KpW.le ?_ hbe | refine KpW.le ?_ hbn | refine KpW.flow (k:=true) ?_ hif hcf))
set_option maxRecDepth 100000 in
set_option maxHeartbeats 8000000 in
theorem keeps_1 (h:SrcO lt C s q1 c1 q2 c2 q3 c3 q4 c4 q5 c5) (hC:CLe C (wC W)) (f lv:Nat) (hlv:lv<u64B) (xn:ByteArray) (xs:List (List TmZ)) (qt qe:Option Addr) (nt ct ce:Nat) (he:ExW lt C W qe xs) (tn:ByteArray) (gt ot:Nat) (hqt:qt=some ⟨gt,ot,none⟩) (hnt:0<nt) (htn:W.cell? ⟨gt,ot,none⟩=some (.string tn)) (hln:xs.length<9223372036854775807) (z:Nat × Nat) (hz:fndZ s (f:Int) tn=some z) :
 Calls Tryz.prog 23 #[.agg (srV s q1 c1 q2 c2 q3 c3 q4 c4 q5 c5),.int .i64 (f:Int),.agg #[.int .i64 1,.string xn,.slice qt nt ct,.slice qe xs.length ce],.int .u64 (lv:Nat)] W (RetB (.bool (within (exsL s f xs ||| lv) (toZ s f tn))) W):=by
 have hto:toZ s f tn=lblZ s f z.1 z.2:=by unfold toZ;rw [hz]
 rw [hto]
 have HXS:=hid (fun (w:World) (hw:Below W.heap.size W w)=>exprs_p (W:=w) h (hC.trans (below_cle hw)) f xs (q:=qe) (c:=ce) (exW_le he hw) hln)
 have HNT:=hid (fun (w:World) (hw:Below W.heap.size W w) b4 b5 i4 i5=>nameTo_p (W:=w) h (hC.trans (below_cle hw)) f tn b4 b5 i4 i5 z hz)
 have HFL:=hid (fun (w:World) b9 b7 h9 h7=>flow_p (W:=w) (exsL s f xs) (lblZ s f z.1 z.2) lv (exs_lt h f xs 0 (by decide)) (lbl_lt h f z.1 z.2) hlv true b9 b7 h9 h7)
 subst hqt
 have htl:=World.block_lt_of_cell? _ _ htn
 have hnt0:(0:Int)<(nt:Int):=by omega
 have HTN:=hid htn
 unfold srV at HXS HNT ⊢
 generalize exsL s f xs=ex at *
 generalize lblZ s f z.1 z.2=tg at *
 clear h hC hto hz he
 generalize xs.length=ne at *
 generalize s.principals.length=n1 at *
 generalize s.globals.length=n2 at *
 generalize s.arrays.length=n3 at *
 generalize s.channels.length=n4 at *
 generalize s.funcs.length=n5 at *
 have HK:=hid (KpW.new W #[.slice q1 n1 c1,.slice q2 n2 c2,.slice q3 n3 c3,.slice q4 n4 c4,.slice q5 n5 c5] #[.int .i64 (1),.string xn,.slice (some ⟨gt,ot,none⟩) nt ct,.slice qe ne ce] (.int .i64 (f:Int)) (.int .u64 (lv:Nat)) true)
 go_enter Tryz.func23,Tryz.ntmps23
 go_upto_region 4 with fail
 obtain ⟨w5,hw5⟩:∃w,(((((W.alloc (.cells #[.slice q1 n1 c1,.slice q2 n2 c2,.slice q3 n3 c3,.slice q4 n4 c4,.slice q5 n5 c5] 27)).alloc (.cells #[.int .i64 (f:Int)] 3)).alloc (.cells #[.int .i64 (1),.string xn,.slice (some ⟨gt,ot,none⟩) nt ct,.slice qe ne ce] 47)).alloc (.cells #[.int .u64 (lv:Nat)] 29)).alloc (.cells #[.bool true] 4))=w:=⟨_,rfl⟩
 rw [hw5] at HK ⊢
 clear hw5
 obtain ⟨b9,hb9⟩:∃b,W.heap.size+1+1+1+1=b:=⟨_,rfl⟩
 rw [hb9] at HK ⊢
 clear hb9
 obtain ⟨b7,hb7⟩:∃b,W.heap.size+1+1+1=b:=⟨_,rfl⟩
 rw [hb7] at HK ⊢
 clear hb7
 obtain ⟨b6,hb6⟩:∃b,W.heap.size+1+1=b:=⟨_,rfl⟩
 rw [hb6] at HK ⊢
 clear hb6
 obtain ⟨b5,hb5⟩:∃b,W.heap.size+1=b:=⟨_,rfl⟩
 rw [hb5] at HK ⊢
 clear hb5
 obtain ⟨b4,hb4⟩:∃b,W.heap.size=b:=⟨_,rfl⟩
 rw [hb4] at HK ⊢
 clear hb4
 have k0:=HK.out.i6.cell (j:=0) (v:=.int .i64 (1)) rfl
 have l6:=HK.out.i6.lt
 go_wp2_with fail
 clear k0 l6
 have HS:=hid (fun (w:World) (k:Bool) (h:KpW W #[.slice q1 n1 c1,.slice q2 n2 c2,.slice q3 n3 c3,.slice q4 n4 c4,.slice q5 n5 c5] #[.int .i64 (1),.string xn,.slice (some ⟨gt,ot,none⟩) nt ct,.slice qe ne ce] (.int .i64 (f:Int)) (.int .u64 (lv:Nat)) b4 b5 b6 b7 b9 k w)=>show w.cell? ⟨b4,0,none⟩=some (.slice q1 n1 c1)∧w.cell? ⟨b4,1,none⟩=some (.slice q2 n2 c2)∧w.cell? ⟨b4,2,none⟩=some (.slice q3 n3 c3)∧w.cell? ⟨b4,3,none⟩=some (.slice q4 n4 c4)∧w.cell? ⟨b4,4,none⟩=some (.slice q5 n5 c5)∧w.cell? ⟨b5,0,none⟩=some (.int .i64 (f:Int))∧w.cell? ⟨b6,2,none⟩=some (.slice (some ⟨gt,ot,none⟩) nt ct)∧w.cell? ⟨b6,3,none⟩=some (.slice qe ne ce)∧w.cell? ⟨gt,ot,none⟩=some (.string tn) from
  ⟨h.i4.cell (j:=0) rfl,h.i4.cell (j:=1) rfl,h.i4.cell (j:=2) rfl,h.i4.cell (j:=3) rfl,h.i4.cell (j:=4) rfl,h.i5.cell (j:=0) rfl,h.i6.cell (j:=2) rfl,h.i6.cell (j:=3) rfl,cell_b HTN.out h.bl⟩)
 have HKB:=hid (fun (w:World) (k:Bool) (h:KpW W #[.slice q1 n1 c1,.slice q2 n2 c2,.slice q3 n3 c3,.slice q4 n4 c4,.slice q5 n5 c5] #[.int .i64 (1),.string xn,.slice (some ⟨gt,ot,none⟩) nt ct,.slice qe ne ce] (.int .i64 (f:Int)) (.int .u64 (lv:Nat)) b4 b5 b6 b7 b9 k w)=>h.bl)
 have HKK:=hid (fun (w:World) (h:KpW W #[.slice q1 n1 c1,.slice q2 n2 c2,.slice q3 n3 c3,.slice q4 n4 c4,.slice q5 n5 c5] #[.int .i64 (1),.string xn,.slice (some ⟨gt,ot,none⟩) nt ct,.slice qe ne ce] (.int .i64 (f:Int)) (.int .u64 (lv:Nat)) b4 b5 b6 b7 b9 true w)=>And.intro h.bl (And.intro h.i4 (And.intro (h.i5.cell (j:=0) (v:=.int .i64 (f:Int)) rfl) (And.intro h.i9 (h.i7.cell (j:=0) (v:=.int .u64 (lv:Nat)) rfl)))))
 go_region_held_law (fun w=>w.cell? ⟨b4,0,none⟩=some (.slice q1 n1 c1)∧w.cell? ⟨b4,1,none⟩=some (.slice q2 n2 c2)∧w.cell? ⟨b4,2,none⟩=some (.slice q3 n3 c3)∧w.cell? ⟨b4,3,none⟩=some (.slice q4 n4 c4)∧w.cell? ⟨b4,4,none⟩=some (.slice q5 n5 c5)∧w.cell? ⟨b5,0,none⟩=some (.int .i64 (f:Int))∧w.cell? ⟨b6,2,none⟩=some (.slice (some ⟨gt,ot,none⟩) nt ct)∧w.cell? ⟨b6,3,none⟩=some (.slice qe ne ce)∧w.cell? ⟨gt,ot,none⟩=some (.string tn))
  ((first | (refine HS.out _ true ?_;(repeat (first | exact HK.out | refine KpW.drew ?_ | refine KpW.le ?_ hbe | refine KpW.le ?_ hbn | refine KpW.flow (k:=true) ?_ hif hcf));done) | (refine HS.out _ (true && within (ex ||| lv) tg) ?_;(repeat (first | exact HK.out | refine KpW.drew ?_ | refine KpW.le ?_ hbe | refine KpW.le ?_ hbn | refine KpW.flow (k:=true) ?_ hif hcf));done)))
  (first | (go_at_call 26;refine (HXS.out _ ?hbw).mono ?_;(case hbw=>refine (HKK.out _ ?_).1;(repeat (first | exact HK.out | refine KpW.drew ?_ | refine KpW.le ?_ hbe | refine KpW.le ?_ hbn | refine KpW.flow (k:=true) ?_ hif hcf)));rintro e we ⟨rfl,hbe⟩) | (go_at_call 49;refine (HNT.out _ ?hbw b4 b5 ?h4 ?h5).mono ?_;(case hbw=>refine (HKK.out _ ?_).1;(repeat (first | exact HK.out | refine KpW.drew ?_ | refine KpW.le ?_ hbe | refine KpW.le ?_ hbn | refine KpW.flow (k:=true) ?_ hif hcf)));(case h4=>refine (HKK.out _ ?_).2.1;(repeat (first | exact HK.out | refine KpW.drew ?_ | refine KpW.le ?_ hbe | refine KpW.le ?_ hbn | refine KpW.flow (k:=true) ?_ hif hcf)));(case h5=>refine (HKK.out _ ?_).2.2.1;(repeat (first | exact HK.out | refine KpW.drew ?_ | refine KpW.le ?_ hbe | refine KpW.le ?_ hbn | refine KpW.flow (k:=true) ?_ hif hcf)));rintro e wn ⟨rfl,hbn⟩) | (go_at_call 47;refine (HFL.out _ b9 b7 ?h9 ?h7).mono ?_;(case h9=>refine (HKK.out _ ?_).2.2.2.1;(repeat (first | exact HK.out | refine KpW.drew ?_ | refine KpW.le ?_ hbe | refine KpW.le ?_ hbn | refine KpW.flow (k:=true) ?_ hif hcf)));(case h7=>refine (HKK.out _ ?_).2.2.2.2;(repeat (first | exact HK.out | refine KpW.drew ?_ | refine KpW.le ?_ hbe | refine KpW.le ?_ hbn | refine KpW.flow (k:=true) ?_ hif hcf)));rintro e wf ⟨rfl,hif,hcf⟩))
 all_goals
  have c9:=hif.cell (j:=0) (v:=.bool (true && within (ex ||| lv) tg)) rfl
  have l9:=hif.lt
  rw [Bool.true_and] at c9
  go_wp2_with fail
  go_ret
  refine ⟨rfl,HKB.out _ (true && within (ex ||| lv) tg) ?_⟩
  (repeat (first | exact HK.out | refine KpW.drew ?_ | refine KpW.le ?_ hbe | refine KpW.le ?_ hbn | refine KpW.flow (k:=true) ?_ hif hcf))
end
theorem flow_nil (lv:Nat) (ys:List Nat) (acc:Bool):flowF lv [] ys acc=acc:=by cases ys <;> rfl
theorem flow_step (lv:Nat) (xs ys:List Nat) (acc:Bool) {k:Nat} (h1:k<xs.length) (h2:k<ys.length):flowF lv (xs.drop k) (ys.drop k) acc=flowF lv (xs.drop (k+1)) (ys.drop (k+1)) (acc && within (xs[k] ||| lv) ys[k]):=by
 rw [List.drop_eq_getElem_cons h1,List.drop_eq_getElem_cons h2]
 rfl
theorem oneX {lt:Bool} {C:Cl} {w:World} {g n:Nat} {e:List TmZ} {qe:Option Addr} {ce:Nat} (hn:e.length=n) (hc:w.cell? ⟨g,0,none⟩=some (.slice qe n ce)) (ht:TmsR lt C (.slice qe n ce) e):ExW lt C w (some ⟨g,0,none⟩) [e]:=fun j hj=>by
 subst hn
 obtain rfl:j=0:=by simpa using hj
 exact ⟨g,0,qe,ce,rfl,hc,ht⟩
theorem KpW.al {W w:World} {S X:Array Value} {f lv:Value} {b4 b5 b6 b7 b9:Nat} {k:Bool} (h:KpW W S X f lv b4 b5 b6 b7 b9 k w) (o:Obj):KpW W S X f lv b4 b5 b6 b7 b9 k (w.alloc o):=h.le (bl_al (Below.refl _ _) o)
section
variable {W:World} {lt:Bool} {C:Cl} {s:SoZ} {q1:Option Addr} {c1:Nat} {q2:Option Addr} {c2:Nat} {q3:Option Addr} {c3:Nat} {q4:Option Addr} {c4:Nat} {q5:Option Addr} {c5:Nat}
set_option maxRecDepth 100000 in
set_option maxHeartbeats 8000000 in
theorem keeps_9 (h:SrcO lt C s q1 c1 q2 c2 q3 c3 q4 c4 q5 c5) (hC:CLe C (wC W)) (f lv:Nat) (hf:f<s.funcs.length) (hlv:lv<u64B) (xn:ByteArray) (xs:List (List TmZ)) (qt qe:Option Addr) (nt ct ce:Nat) (he:ExW lt C W qe xs) (hln:xs.length<9223372036854775807) (hle:xs.length≤s.funcs[f].results.length) :
 Calls Tryz.prog 23 #[.agg (srV s q1 c1 q2 c2 q3 c3 q4 c4 q5 c5),.int .i64 (f:Int),.agg #[.int .i64 9,.string xn,.slice qt nt ct,.slice qe xs.length ce],.int .u64 (lv:Nat)] W (RetB (.bool (flowF lv (oneL s f xs) s.funcs[f].results true)) W):=by
 have HXS:=hid (fun (w:World) (hw:Below W.heap.size W w) (e:List TmZ) (q:Option Addr) (c:Nat) (hx:ExW lt C w q [e])=>show Calls Tryz.prog 26 #[.agg (srV s q1 c1 q2 c2 q3 c3 q4 c4 q5 c5),.int .i64 (f:Int),.slice q 1 c] w (RetB (.int .u64 ((exsL s f [e]:Nat):Int)) w) from exprs_p (W:=w) h (hC.trans (below_cle hw)) f [e] hx (by show 1<_;decide))
 have HXL:=hid (fun (e:List TmZ)=>show exsL s f [e]<u64B from exs_lt h f [e] 0 (by decide))
 have HFL:=hid (fun (w:World) (k:Bool) (b9 b7 x y:Nat) (hx:x<u64B) (hy:y<u64B) h9 h7=>flow_p (W:=w) x y lv hx hy hlv k b9 b7 h9 h7)
 obtain ⟨g,o,qp,cp,qr,cr,qv,cv,qb,cb,rfl,a0,a1,a2,a3,a4,a5,hlvl,hp,hrr,hv,hb⟩:=h.fn.cells f hf
 have HLA:=hid hrr.cells
 have HC:=hid hC
 have HE:=hid he
 have HOL:=hid (fun k (hk:k<xs.length)=>And.intro (show k<(oneL s f xs).length by unfold oneL;simpa using hk) (fun hk2=>show (oneL s f xs)[k]'hk2=exsL s f [xs[k]] from List.getElem_map _))
 have HOE:=hid (show (oneL s f xs).length=xs.length by unfold oneL;simp)
 have hnr:=slx_len hrr
 have e3:W.cell? ⟨g,o+f*6+3,none⟩=some (.slice qr s.funcs[f].results.length cr):=hC _ _ a3
 have hfi:(f:Int)<(s.funcs.length:Int):=by omega
 have HR:=hid (show flowF lv (oneL s f xs) s.funcs[f].results true=flowF lv ((oneL s f xs).drop 0) (s.funcs[f].results.drop 0) true from rfl)
 unfold srV at HXS ⊢
 generalize flowF lv (oneL s f xs) s.funcs[f].results true=R at *
 generalize oneL s f xs=ol at *
 clear h hC he a0 a1 a2 a3 a4 a5 hp hrr hv hb hlvl
 generalize s.funcs[f].results=res at *
 clear hf
 obtain ⟨nr,hnr0⟩:∃n,res.length=n:=⟨_,rfl⟩
 have HNR:=hid hnr0
 obtain ⟨ne,hne0⟩:∃n,xs.length=n:=⟨_,rfl⟩
 have HNE:=hid hne0
 rw [hnr0] at e3 hnr hle
 rw [hne0] at hln hle ⊢
 clear hnr0 hne0
 generalize s.principals.length=n1 at *
 generalize s.globals.length=n2 at *
 generalize s.arrays.length=n3 at *
 generalize s.channels.length=n4 at *
 generalize s.funcs.length=n5 at *
 have E3:=hid e3
 clear e3
 have HK:=hid (KpW.new W #[.slice q1 n1 c1,.slice q2 n2 c2,.slice q3 n3 c3,.slice q4 n4 c4,.slice (some ⟨g,o,none⟩) n5 c5] #[.int .i64 (9),.string xn,.slice qt nt ct,.slice qe ne ce] (.int .i64 (f:Int)) (.int .u64 (lv:Nat)) true)
 go_enter Tryz.func23,Tryz.ntmps23
 go_upto_region 4 with fail
 obtain ⟨w5,hw5⟩:∃w,(((((W.alloc (.cells #[.slice q1 n1 c1,.slice q2 n2 c2,.slice q3 n3 c3,.slice q4 n4 c4,.slice (some ⟨g,o,none⟩) n5 c5] 27)).alloc (.cells #[.int .i64 (f:Int)] 3)).alloc (.cells #[.int .i64 (9),.string xn,.slice qt nt ct,.slice qe ne ce] 47)).alloc (.cells #[.int .u64 (lv:Nat)] 29)).alloc (.cells #[.bool true] 4))=w:=⟨_,rfl⟩
 rw [hw5] at HK ⊢
 clear hw5
 obtain ⟨b9,hb9⟩:∃b,W.heap.size+1+1+1+1=b:=⟨_,rfl⟩
 rw [hb9] at HK ⊢
 clear hb9
 obtain ⟨b7,hb7⟩:∃b,W.heap.size+1+1+1=b:=⟨_,rfl⟩
 rw [hb7] at HK ⊢
 clear hb7
 obtain ⟨b6,hb6⟩:∃b,W.heap.size+1+1=b:=⟨_,rfl⟩
 rw [hb6] at HK ⊢
 clear hb6
 obtain ⟨b5,hb5⟩:∃b,W.heap.size+1=b:=⟨_,rfl⟩
 rw [hb5] at HK ⊢
 clear hb5
 obtain ⟨b4,hb4⟩:∃b,W.heap.size=b:=⟨_,rfl⟩
 rw [hb4] at HK ⊢
 clear hb4
 have k0:=HK.out.i6.cell (j:=0) (v:=.int .i64 (9)) rfl
 have l6:=HK.out.i6.lt
 have k3:=HK.out.i6.cell (j:=3) (v:=.slice qe ne ce) rfl
 go_wp2_with fail
 clear k0 k3 l6
 go_loopw [120] (fun i wr=>∃(k:Nat) (acc:Bool),k≤ne∧i=.int .i64 k∧Hid (R=flowF lv (ol.drop k) (res.drop k) acc)∧Hid (KpW W #[.slice q1 n1 c1,.slice q2 n2 c2,.slice q3 n3 c3,.slice q4 n4 c4,.slice (some ⟨g,o,none⟩) n5 c5] #[.int .i64 (9),.string xn,.slice qt nt ct,.slice qe ne ce] (.int .i64 (f:Int)) (.int .u64 (lv:Nat)) b4 b5 b6 b7 b9 acc wr)) (fun i _=>ne - (intOf i).toNat)
 case atStart=>exact ⟨0,true,Nat.zero_le _,rfl,HR,HK⟩
 case round =>
  clear HR HK
  obtain ⟨k,acc,hk,rfl,HR,HKV⟩:=hrel
  obtain ⟨V,h9⟩:∃w,w=wr:=⟨_,rfl⟩
  subst h9
  by_cases hlt:k<ne
  ·have hk1:k<xs.length:=by rw [HNE.out];exact hlt
   have hk2:k<res.length:=by rw [HNR.out];omega
   obtain ⟨gx,ox,qx,cx,rfl,x0,hxt⟩:=HE.out k hk1
   obtain ⟨gr,orr,rfl,r0,hyl⟩:=HLA.out k hk2
   have HRN:=hid (show R=flowF lv (ol.drop (k+1)) (res.drop (k+1)) (acc && within (exsL s f [xs[k]] ||| lv) res[k]) by rw [HR.out,flow_step lv ol res acc (HOL.out k hk1).1 hk2,(HOL.out k hk1).2])
   have HXE:=hid (fun (w:World) (hw:Below W.heap.size W w) (q:Option Addr) (c:Nat) (hx:ExW lt C w q [xs[k]])=>HXS.out w hw xs[k] q c hx)
   have hxl:=HXL.out xs[k]
   generalize exsL s f [xs[k]]=ex at *
   have HXT:=hid hxt
   have hki:(k:Int)<(ne:Int):=by omega
   have hkr:(k:Int)<(nr:Int):=by omega
   have r1:W.cell? ⟨gr,orr+k,none⟩=some (.int .u64 (res[k]:Nat)):=HC.out _ _ r0
   generalize res[k]=y at *
   have y0:=cell_b x0 HKV.out.bl
   have hly:=World.block_lt_of_cell? _ _ y0
   have R1:=hid r1
   clear r0 r1 x0 hxt
   generalize xs[k]=e0 at *
   obtain ⟨nx,hnx⟩:∃n,e0.length=n:=⟨_,rfl⟩
   have HNX:=hid hnx
   rw [hnx] at y0 HXT
   clear hnx
   have HS:=hid (fun (w:World) (kk:Bool) (h:KpW W #[.slice q1 n1 c1,.slice q2 n2 c2,.slice q3 n3 c3,.slice q4 n4 c4,.slice (some ⟨g,o,none⟩) n5 c5] #[.int .i64 (9),.string xn,.slice qt nt ct,.slice (some ⟨gx,ox,none⟩) ne ce] (.int .i64 (f:Int)) (.int .u64 (lv:Nat)) b4 b5 b6 b7 b9 kk w)=>show w.cell? ⟨b4,0,none⟩=some (.slice q1 n1 c1)∧w.cell? ⟨b4,1,none⟩=some (.slice q2 n2 c2)∧w.cell? ⟨b4,2,none⟩=some (.slice q3 n3 c3)∧w.cell? ⟨b4,3,none⟩=some (.slice q4 n4 c4)∧w.cell? ⟨b4,4,none⟩=some (.slice (some ⟨g,o,none⟩) n5 c5)∧w.cell? ⟨b5,0,none⟩=some (.int .i64 (f:Int))∧w.cell? ⟨g,o+f*6+3,none⟩=some (.slice (some ⟨gr,orr,none⟩) nr cr)∧w.cell? ⟨gr,orr+k,none⟩=some (.int .u64 (y:Nat)) from
    ⟨h.i4.cell (j:=0) rfl,h.i4.cell (j:=1) rfl,h.i4.cell (j:=2) rfl,h.i4.cell (j:=3) rfl,h.i4.cell (j:=4) rfl,h.i5.cell (j:=0) rfl,cell_b E3.out h.bl,cell_b R1.out h.bl⟩)
   have HKK:=hid (fun (w:World) (h:KpW W #[.slice q1 n1 c1,.slice q2 n2 c2,.slice q3 n3 c3,.slice q4 n4 c4,.slice (some ⟨g,o,none⟩) n5 c5] #[.int .i64 (9),.string xn,.slice qt nt ct,.slice (some ⟨gx,ox,none⟩) ne ce] (.int .i64 (f:Int)) (.int .u64 (lv:Nat)) b4 b5 b6 b7 b9 acc w)=>And.intro h.bl (And.intro h.i9 (h.i7.cell (j:=0) (v:=.int .u64 (lv:Nat)) rfl)))
   go_upto_region 28 with fail
   clear y0 hly
   go_region_held_law (fun w=>w.cell? ⟨b4,0,none⟩=some (.slice q1 n1 c1)∧w.cell? ⟨b4,1,none⟩=some (.slice q2 n2 c2)∧w.cell? ⟨b4,2,none⟩=some (.slice q3 n3 c3)∧w.cell? ⟨b4,3,none⟩=some (.slice q4 n4 c4)∧w.cell? ⟨b4,4,none⟩=some (.slice (some ⟨g,o,none⟩) n5 c5)∧w.cell? ⟨b5,0,none⟩=some (.int .i64 (f:Int))∧w.cell? ⟨g,o+f*6+3,none⟩=some (.slice (some ⟨gr,orr,none⟩) nr cr)∧w.cell? ⟨gr,orr+k,none⟩=some (.int .u64 (y:Nat)))
    ((first | (refine HS.out _ acc ?_;(repeat (first | exact HKV.out | refine KpW.drew ?_ | refine KpW.al ?_ _ | refine KpW.le ?_ hbe | refine KpW.flow (k:=acc) ?_ hif hcf));done) | (refine HS.out _ (acc && within (ex ||| lv) y) ?_;(repeat (first | exact HKV.out | refine KpW.drew ?_ | refine KpW.al ?_ _ | refine KpW.le ?_ hbe | refine KpW.flow (k:=acc) ?_ hif hcf));done)))
    (first | (go_at_call 26;refine (HXE.out _ ?hbw _ _ ?hx).mono ?_;(case hbw=>refine (HKK.out _ ?_).1;(repeat (first | exact HKV.out | refine KpW.drew ?_ | refine KpW.al ?_ _ | refine KpW.le ?_ hbe | refine KpW.flow (k:=acc) ?_ hif hcf)));(case hx=>refine oneX HNX.out ?_ HXT.out;first | exact new_cell' _ _ rfl | exact new_cell_d _ _ rfl);rintro e we ⟨rfl,hbe⟩) | (go_at_call 47;refine (HFL.out _ acc b9 b7 ex y hxl hyl ?h9 ?h7).mono ?_;(case h9=>refine (HKK.out _ ?_).2.1;(repeat (first | exact HKV.out | refine KpW.drew ?_ | refine KpW.al ?_ _ | refine KpW.le ?_ hbe | refine KpW.flow (k:=acc) ?_ hif hcf)));(case h7=>refine (HKK.out _ ?_).2.2;(repeat (first | exact HKV.out | refine KpW.drew ?_ | refine KpW.al ?_ _ | refine KpW.le ?_ hbe | refine KpW.flow (k:=acc) ?_ hif hcf)));rintro e wf ⟨rfl,hif,hcf⟩))
   all_goals
    go_wp2_with fail
    refine ⟨⟨k+1,acc && within (ex ||| lv) y,by omega,by go_num,HRN,hid ?_⟩,by simp [intOf];omega⟩
    (repeat (first | exact HKV.out | refine KpW.drew ?_ | refine KpW.al ?_ _ | refine KpW.le ?_ hbe | refine KpW.flow (k:=acc) ?_ hif hcf))
  ·obtain rfl:ne=k:=by omega
   have HF:=hid (show R=acc by rw [HR.out,List.drop_of_length_le (by rw [HOE.out,HNE.out];exact Nat.le_refl _),flow_nil])
   have c9:=HKV.out.i9.cell (j:=0) (v:=.bool acc) rfl
   have l9:=HKV.out.i9.lt
   go_wp2_with fail
   go_ret
   exact ⟨by rw [HF.out];rfl,HKV.out.bl⟩
end
end Go.Proofs.YtlpdjfimefjmcaaGreatDoor
