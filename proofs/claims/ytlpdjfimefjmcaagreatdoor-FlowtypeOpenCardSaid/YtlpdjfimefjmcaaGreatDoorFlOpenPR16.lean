/- Package flowtype: keeps, a call. (Written by genFlN.py.) -/
import Derived.Test.YtlpdjfimefjmcaaGreatDoorFlOpenPR15
open Go.Lib (hid)
namespace Go.Proofs.YtlpdjfimefjmcaaGreatDoor
open Go Go.RowKit Go.Proofs.Mm
theorem flow_nil2 (lv:Nat) (xs:List Nat) (acc:Bool):flowF lv xs [] acc=acc:=by cases xs <;> rfl
structure KpD (W:World) (S X D:Array Value) (f lv:Value) (b4 b5 b6 b7 b9 b14:Nat) (k:Bool) (w:World):Prop where
 kp:KpW W S X f lv b4 b5 b6 b7 b9 k w
 i14:InB w b14 D 43
 n14:b14≠b9
section
variable {W w w':World} {S X D:Array Value} {f lv:Value} {b4 b5 b6 b7 b9 b14:Nat} {k k':Bool}
theorem KpD.le (h:KpD W S X D f lv b4 b5 b6 b7 b9 b14 k w) (hb:Below w.heap.size w w'):KpD W S X D f lv b4 b5 b6 b7 b9 b14 k w':=⟨h.kp.le hb,h.i14.le hb,h.n14⟩
theorem KpD.drew (h:KpD W S X D f lv b4 b5 b6 b7 b9 b14 k w):KpD W S X D f lv b4 b5 b6 b7 b9 b14 k w.drew:=h.le (bl_dr (Below.refl _ _))
theorem KpD.al (h:KpD W S X D f lv b4 b5 b6 b7 b9 b14 k w) (o:Obj):KpD W S X D f lv b4 b5 b6 b7 b9 b14 k (w.alloc o):=h.le (bl_al (Below.refl _ _) o)
theorem KpD.flow (h:KpD W S X D f lv b4 b5 b6 b7 b9 b14 k w) (hi:InB w' b9 #[.bool k'] 4) (hc:Chg (fun b=>b=b9) w w'):KpD W S X D f lv b4 b5 b6 b7 b9 b14 k' w':=⟨h.kp.flow hi hc,hc.heap h.i14 h.n14,h.n14⟩
end
section
variable {W:World} {lt:Bool} {C:Cl} {s:SoZ} {q1:Option Addr} {c1:Nat} {q2:Option Addr} {c2:Nat} {q3:Option Addr} {c3:Nat} {q4:Option Addr} {c4:Nat} {q5:Option Addr} {c5:Nat}
set_option maxRecDepth 100000 in
set_option maxHeartbeats 8000000 in
theorem keeps_4 (h:SrcO lt C s q1 c1 q2 c2 q3 c3 q4 c4 q5 c5) (hC:CLe C (wC W)) (f lv:Nat) (hlv:lv<u64B) (xn:ByteArray) (xs:List (List TmZ)) (ts:List ByteArray) (qt qe:Option Addr) (ct ce:Nat) (he:ExW lt C W qe xs) (hln:xs.length<9223372036854775807) (htg:StrR lt C (.slice qt ts.length ct) ts)
 (z:Nat × Nat) (hz:fndZ s (f:Int) xn=some z) (hf:z.2<s.funcs.length) (hle:xs.length≤s.funcs[z.2].params.length) (hlt2:ts.length≤s.funcs[z.2].results.length) (hfd:∀t∈ts,∃z,fndZ s (f:Int) t=some z) :
 Calls Tryz.prog 23 #[.agg (srV s q1 c1 q2 c2 q3 c3 q4 c4 q5 c5),.int .i64 (f:Int),.agg #[.int .i64 4,.string xn,.slice qt ts.length ct,.slice qe xs.length ce],.int .u64 (lv:Nat)] W (RetB (.bool (flowF lv s.funcs[z.2].results (ts.map (toZ s f)) (flowF lv (oneL s f xs) (s.funcs[z.2].params.map DeZ.label) true && within (0 ||| lv) s.funcs[z.2].level))) W):=by
 have HXS:=hid (fun (w:World) (hw:Below W.heap.size W w) (e:List TmZ) (q:Option Addr) (c:Nat) (hx:ExW lt C w q [e])=>show Calls Tryz.prog 26 #[.agg (srV s q1 c1 q2 c2 q3 c3 q4 c4 q5 c5),.int .i64 (f:Int),.slice q 1 c] w (RetB (.int .u64 ((exsL s f [e]:Nat):Int)) w) from exprs_p (W:=w) h (hC.trans (below_cle hw)) f [e] hx (by show 1<_;decide))
 have HXL:=hid (fun (e:List TmZ)=>show exsL s f [e]<u64B from exs_lt h f [e] 0 (by decide))
 have HFL:=hid (fun (w:World) (k:Bool) (b9 b7 x y:Nat) (hx:x<u64B) (hy:y<u64B) h9 h7=>flow_p (W:=w) x y lv hx hy hlv k b9 b7 h9 h7)
 have HNT:=hid (fun (w:World) (hw:Below W.heap.size W w) (t:ByteArray) (ht:t∈ts) b4 b5 i4 i5=>show Calls Tryz.prog 49 #[.string t,.pointer (some ⟨b4,0,none⟩),.pointer (some ⟨b5,0,none⟩)] w (RetB (.int .u64 ((toZ s f t:Nat):Int)) w) from by
  obtain ⟨z,hz⟩:=hfd t ht
  have hto:toZ s f t=lblZ s f z.1 z.2:=by unfold toZ;rw [hz]
  rw [hto]
  exact nameTo_p (W:=w) h (hC.trans (below_cle hw)) f t b4 b5 i4 i5 z hz)
 have HNL:=hid (fun (t:ByteArray)=>show toZ s f t<u64B from by
  unfold toZ
  cases fndZ s (f:Int) t with
  | none=>exact (by decide:0<u64B)
  | some z=>exact lbl_lt h f z.1 z.2)
 have HFD:=hid (fun (w:World) (hw:Below W.heap.size W w)=>find_q (W:=w) h (hC.trans (below_cle hw)) (f:Int) xn)
 rw [hz] at HFD
 obtain ⟨kz,kx⟩:=z
 simp only at hf hle hlt2 ⊢
 obtain ⟨g,o,qp,cp,qr,cr,qv,cv,qb,cb,rfl,a0,a1,a2,a3,a4,a5,hlvl,hp,hrr,hv,hb⟩:=h.fn.cells kx hf
 have HLA:=hid hrr.cells
 have HPA:=hid hp.cells
 have HTA:=hid htg.cells
 have HC:=hid hC
 have HE:=hid he
 have HOL:=hid (fun k (hk:k<xs.length)=>And.intro (show k<(oneL s f xs).length by unfold oneL;simpa using hk) (fun hk2=>show (oneL s f xs)[k]'hk2=exsL s f [xs[k]] from List.getElem_map _))
 have HOE:=hid (show (oneL s f xs).length=xs.length by unfold oneL;simp)
 have HPL:=hid (fun k (hk:k<s.funcs[kx].params.length)=>And.intro (show k<(s.funcs[kx].params.map DeZ.label).length by simpa using hk) (fun (hk2:k<(s.funcs[kx].params.map DeZ.label).length)=>show (s.funcs[kx].params.map DeZ.label)[k]'hk2=s.funcs[kx].params[k].label from List.getElem_map _))
 have HTL:=hid (fun k (hk:k<ts.length)=>And.intro (show k<(ts.map (toZ s f)).length by simpa using hk) (fun hk2=>show (ts.map (toZ s f))[k]'hk2=toZ s f ts[k] from List.getElem_map _))
 have HTE:=hid (show (ts.map (toZ s f)).length=ts.length by simp)
 have hnr:=slx_len hrr
 have hnp:=slx_len hp
 have hnt:=slx_len htg
 have e0:W.cell? ⟨g,o+kx*6,none⟩=some (.string s.funcs[kx].name):=hC _ _ a0
 have e1:W.cell? ⟨g,o+kx*6+1,none⟩=some (.int .u64 (s.funcs[kx].level:Nat)):=hC _ _ a1
 have e2:W.cell? ⟨g,o+kx*6+2,none⟩=some (.slice qp s.funcs[kx].params.length cp):=hC _ _ a2
 have e3:W.cell? ⟨g,o+kx*6+3,none⟩=some (.slice qr s.funcs[kx].results.length cr):=hC _ _ a3
 have e4:W.cell? ⟨g,o+kx*6+4,none⟩=some (.slice qv s.funcs[kx].vars.length cv):=hC _ _ a4
 have e5:W.cell? ⟨g,o+kx*6+5,none⟩=some (.slice qb s.funcs[kx].body.length cb):=hC _ _ a5
 have HCE:=hid (And.intro e0 (And.intro e1 (And.intro e2 (And.intro e3 (And.intro e4 e5)))))
 have hfi:(kx:Int)<(s.funcs.length:Int):=by omega
 unfold srV at HXS HFD HNT ⊢
 generalize hR0:flowF lv (oneL s f xs) (s.funcs[kx].params.map DeZ.label) true=R0
 generalize hR1:flowF lv s.funcs[kx].results (ts.map (toZ s f)) (R0 && within (0 ||| lv) s.funcs[kx].level)=R1
 have HR0:=hid (show R0=flowF lv ((oneL s f xs).drop 0) ((s.funcs[kx].params.map DeZ.label).drop 0) true from hR0.symm)
 have HR1:=hid (show R1=flowF lv (s.funcs[kx].results.drop 0) ((ts.map (toZ s f)).drop 0) (R0 && within (0 ||| lv) s.funcs[kx].level) from hR1.symm)
 clear hR0 hR1 h hC he a0 a1 a2 a3 a4 a5 hp hrr hv hb e0 e1 e2 e3 e4 e5 hfd htg hz
 generalize oneL s f xs=ol at *
 generalize hpl:s.funcs[kx].params.map DeZ.label=pl at *
 generalize htl:ts.map (toZ s f)=tl at *
 clear hpl htl
 generalize s.funcs[kx]=d at *
 clear hf
 obtain ⟨nr,hnr0⟩:∃n,d.results.length=n:=⟨_,rfl⟩
 have HNR:=hid hnr0
 obtain ⟨np,hnp0⟩:∃n,d.params.length=n:=⟨_,rfl⟩
 have HNP:=hid hnp0
 obtain ⟨ne,hne0⟩:∃n,xs.length=n:=⟨_,rfl⟩
 have HNE:=hid hne0
 obtain ⟨nt,hnt0⟩:∃n,ts.length=n:=⟨_,rfl⟩
 have HNS:=hid hnt0
 rw [hnr0,hnp0] at HCE
 rw [hnr0] at hnr hlt2
 rw [hnp0] at hnp hle
 rw [hne0] at hln hle ⊢
 rw [hnt0] at hnt hlt2 ⊢
 clear hnr0 hnp0 hne0 hnt0
 generalize d.vars.length=nv at *
 generalize d.body.length=nb at *
 generalize s.principals.length=n1 at *
 generalize s.globals.length=n2 at *
 generalize s.arrays.length=n3 at *
 generalize s.channels.length=n4 at *
 generalize s.funcs.length=n5 at *
 have HK:=hid (KpW.new W #[.slice q1 n1 c1,.slice q2 n2 c2,.slice q3 n3 c3,.slice q4 n4 c4,.slice (some ⟨g,o,none⟩) n5 c5] #[.int .i64 (4),.string xn,.slice qt nt ct,.slice qe ne ce] (.int .i64 (f:Int)) (.int .u64 (lv:Nat)) true)
 go_enter Tryz.func23,Tryz.ntmps23
 go_upto_region 4 with fail
 obtain ⟨w5,hw5⟩:∃w,(((((W.alloc (.cells #[.slice q1 n1 c1,.slice q2 n2 c2,.slice q3 n3 c3,.slice q4 n4 c4,.slice (some ⟨g,o,none⟩) n5 c5] 27)).alloc (.cells #[.int .i64 (f:Int)] 3)).alloc (.cells #[.int .i64 (4),.string xn,.slice qt nt ct,.slice qe ne ce] 47)).alloc (.cells #[.int .u64 (lv:Nat)] 29)).alloc (.cells #[.bool true] 4))=w:=⟨_,rfl⟩
 rw [hw5] at HK ⊢
 clear hw5
 obtain ⟨b9,hb9⟩:∃b,W.heap.size+1+1+1+1=b:=⟨_,rfl⟩
 rw [hb9] at HK ⊢
 clear hb9
 obtain ⟨b7,hb7⟩:∃b,W.heap.size+1+1+1=b:=⟨_,rfl⟩
 rw [hb7] at HK ⊢
 clear hb7
 obtain ⟨b6,hb6⟩:∃b,W.heap.size+1+1=b:=⟨_,rfl⟩
 rw [hb6] at HK ⊢
 clear hb6
 obtain ⟨b5,hb5⟩:∃b,W.heap.size+1=b:=⟨_,rfl⟩
 rw [hb5] at HK ⊢
 clear hb5
 obtain ⟨b4,hb4⟩:∃b,W.heap.size=b:=⟨_,rfl⟩
 rw [hb4] at HK ⊢
 clear hb4
 have k0:=HK.out.i6.cell (j:=0) (v:=.int .i64 (4)) rfl
 have l6:=HK.out.i6.lt
 have k1:=HK.out.i6.cell (j:=1) (v:=.string xn) rfl
 obtain ⟨x0,x1,x2,x3,x4⟩:=five_cells' HK.out.i4
 have k5:=HK.out.i5.cell (j:=0) (v:=.int .i64 (f:Int)) rfl
 have l4:=HK.out.i4.lt
 have l5:=HK.out.i5.lt
 go_wp2_with fail
 refine (HFD.out w5 HK.out.bl).mono ?_
 rintro e' w6 ⟨rfl,hb6⟩
 have HK6:=hid (HK.out.le hb6)
 clear hb6 k1 x0 x1 x2 x3 x4 k5 l4 l5 k0 l6 HK
 unfold refV
 have HK7:=hid (HK6.out.al (.cells #[.int .i64 (kz:Int),.int .i64 (kx:Int)] 54))
 have HI7:=hid (InB.new w6 #[.int .i64 (kz:Int),.int .i64 (kx:Int)] 54)
 go_upto_region 12 with fail
 obtain ⟨b12,hb12⟩:∃b,w6.heap.size=b:=⟨_,rfl⟩
 rw [hb12] at HI7
 try rw [hb12]
 clear hb12 HK6
 generalize w6.alloc (.cells #[.int .i64 (kz:Int),.int .i64 (kx:Int)] 54)=w7 at *
 have x4:=HK7.out.i4.cell (j:=4) (v:=.slice (some ⟨g,o,none⟩) n5 c5) rfl
 have y1:=HI7.out.cell (j:=1) (v:=.int .i64 (kx:Int)) rfl
 have l4:=HK7.out.i4.lt
 have l12:=HI7.out.lt
 have f0:=cell_b HCE.out.1 HK7.out.bl
 have f1:=cell_b HCE.out.2.1 HK7.out.bl
 have f2:=cell_b HCE.out.2.2.1 HK7.out.bl
 have f3:=cell_b HCE.out.2.2.2.1 HK7.out.bl
 have f4:=cell_b HCE.out.2.2.2.2.1 HK7.out.bl
 have f5:=cell_b HCE.out.2.2.2.2.2 HK7.out.bl
 have hgl:=World.block_lt_of_cell? _ _ f0
 have HD8:=hid (show KpD W #[.slice q1 n1 c1,.slice q2 n2 c2,.slice q3 n3 c3,.slice q4 n4 c4,.slice (some ⟨g,o,none⟩) n5 c5] #[.int .i64 (4),.string xn,.slice qt nt ct,.slice qe ne ce] #[.string d.name,.int .u64 (d.level:Nat),.slice qp np cp,.slice qr nr cr,.slice qv nv cv,.slice qb nb cb] (.int .i64 (f:Int)) (.int .u64 (lv:Nat)) b4 b5 b6 b7 b9 w7.heap.size true (w7.alloc (.cells #[.string d.name,.int .u64 (d.level:Nat),.slice qp np cp,.slice qr nr cr,.slice qv nv cv,.slice qb nb cb] 43)) from ⟨HK7.out.al _,InB.new _ _ _,Nat.ne_of_gt HK7.out.i9.lt⟩)
 obtain ⟨w8,hw8⟩:∃w,w7.alloc (.cells #[.string d.name,.int .u64 (d.level:Nat),.slice qp np cp,.slice qr nr cr,.slice qv nv cv,.slice qb nb cb] 43)=w:=⟨_,rfl⟩
 rw [hw8] at HD8
 go_upto_region 13 with fail
 try rw [hw8]
 obtain ⟨b14,hb14⟩:∃b,w7.heap.size=b:=⟨_,rfl⟩
 rw [hb14] at HD8
 try rw [hb14]
 clear hw8 hb14 x4 y1 l4 l12 f0 f1 f2 f3 f4 f5 hgl HI7 HK7
 have k3:=HD8.out.kp.i6.cell (j:=3) (v:=.slice qe ne ce) rfl
 have l6:=HD8.out.kp.i6.lt
 go_wp2_with fail
 clear k3 l6
 go_loopw [73] (fun i wr=>∃(k:Nat) (acc:Bool),k≤ne∧i=.int .i64 k∧Hid (R0=flowF lv (ol.drop k) (pl.drop k) acc)∧Hid (KpD W #[.slice q1 n1 c1,.slice q2 n2 c2,.slice q3 n3 c3,.slice q4 n4 c4,.slice (some ⟨g,o,none⟩) n5 c5] #[.int .i64 (4),.string xn,.slice qt nt ct,.slice qe ne ce] #[.string d.name,.int .u64 (d.level:Nat),.slice qp np cp,.slice qr nr cr,.slice qv nv cv,.slice qb nb cb] (.int .i64 (f:Int)) (.int .u64 (lv:Nat)) b4 b5 b6 b7 b9 b14 acc wr)) (fun i _=>ne - (intOf i).toNat)
 case atStart=>exact ⟨0,true,Nat.zero_le _,rfl,HR0,HD8⟩
 case round =>
  clear HR0 HD8
  obtain ⟨k,acc,hk,rfl,HR,HKV⟩:=hrel
  obtain ⟨V,h9⟩:∃w,w=wr:=⟨_,rfl⟩
  subst h9
  by_cases hlt:k<ne
  ·have hk1:k<xs.length:=by rw [HNE.out];exact hlt
   have hk2:k<d.params.length:=by rw [HNP.out];omega
   obtain ⟨gx,ox,qx,cx,rfl,x0,hxt⟩:=HE.out k hk1
   obtain ⟨gp,op,rfl,-,r0,hyl⟩:=HPA.out k hk2
   have HRN:=hid (show R0=flowF lv (ol.drop (k+1)) (pl.drop (k+1)) (acc && within (exsL s f [xs[k]] ||| lv) d.params[k].label) by rw [HR.out,flow_step lv ol pl acc (HOL.out k hk1).1 (HPL.out k hk2).1,(HOL.out k hk1).2,(HPL.out k hk2).2])
   have HXE:=hid (fun (w:World) (hw:Below W.heap.size W w) (q:Option Addr) (c:Nat) (hx:ExW lt C w q [xs[k]])=>HXS.out w hw xs[k] q c hx)
   have hxl:=HXL.out xs[k]
   generalize exsL s f [xs[k]]=ex at *
   have HXT:=hid hxt
   have hki:(k:Int)<(ne:Int):=by omega
   have hkr:(k:Int)<(np:Int):=by omega
   have r1:W.cell? ⟨gp,op+k*2+1,none⟩=some (.int .u64 (d.params[k].label:Nat)):=HC.out _ _ r0
   generalize d.params[k].label=y at *
   have y0:=cell_b x0 HKV.out.kp.bl
   have hly:=World.block_lt_of_cell? _ _ y0
   have R1':=hid r1
   clear r0 r1 x0 hxt
   generalize xs[k]=e0 at *
   obtain ⟨nx,hnx⟩:∃n,e0.length=n:=⟨_,rfl⟩
   have HNX:=hid hnx
   rw [hnx] at y0 HXT
   clear hnx
   have HS:=hid (fun (w:World) (kk:Bool) (h:KpD W #[.slice q1 n1 c1,.slice q2 n2 c2,.slice q3 n3 c3,.slice q4 n4 c4,.slice (some ⟨g,o,none⟩) n5 c5] #[.int .i64 (4),.string xn,.slice qt nt ct,.slice (some ⟨gx,ox,none⟩) ne ce] #[.string d.name,.int .u64 (d.level:Nat),.slice (some ⟨gp,op,none⟩) np cp,.slice qr nr cr,.slice qv nv cv,.slice qb nb cb] (.int .i64 (f:Int)) (.int .u64 (lv:Nat)) b4 b5 b6 b7 b9 b14 kk w)=>show w.cell? ⟨b4,0,none⟩=some (.slice q1 n1 c1)∧w.cell? ⟨b4,1,none⟩=some (.slice q2 n2 c2)∧w.cell? ⟨b4,2,none⟩=some (.slice q3 n3 c3)∧w.cell? ⟨b4,3,none⟩=some (.slice q4 n4 c4)∧w.cell? ⟨b4,4,none⟩=some (.slice (some ⟨g,o,none⟩) n5 c5)∧w.cell? ⟨b5,0,none⟩=some (.int .i64 (f:Int))∧w.cell? ⟨b14,2,none⟩=some (.slice (some ⟨gp,op,none⟩) np cp)∧w.cell? ⟨gp,op+k*2+1,none⟩=some (.int .u64 (y:Nat)) from
    ⟨h.kp.i4.cell (j:=0) rfl,h.kp.i4.cell (j:=1) rfl,h.kp.i4.cell (j:=2) rfl,h.kp.i4.cell (j:=3) rfl,h.kp.i4.cell (j:=4) rfl,h.kp.i5.cell (j:=0) rfl,h.i14.cell (j:=2) rfl,cell_b R1'.out h.kp.bl⟩)
   have HKK:=hid (fun (w:World) (h:KpD W #[.slice q1 n1 c1,.slice q2 n2 c2,.slice q3 n3 c3,.slice q4 n4 c4,.slice (some ⟨g,o,none⟩) n5 c5] #[.int .i64 (4),.string xn,.slice qt nt ct,.slice (some ⟨gx,ox,none⟩) ne ce] #[.string d.name,.int .u64 (d.level:Nat),.slice (some ⟨gp,op,none⟩) np cp,.slice qr nr cr,.slice qv nv cv,.slice qb nb cb] (.int .i64 (f:Int)) (.int .u64 (lv:Nat)) b4 b5 b6 b7 b9 b14 acc w)=>And.intro h.kp.bl (And.intro h.kp.i9 (h.kp.i7.cell (j:=0) (v:=.int .u64 (lv:Nat)) rfl)))
   go_upto_region 16 with fail
   clear y0 hly
   go_region_held_law (fun w=>w.cell? ⟨b4,0,none⟩=some (.slice q1 n1 c1)∧w.cell? ⟨b4,1,none⟩=some (.slice q2 n2 c2)∧w.cell? ⟨b4,2,none⟩=some (.slice q3 n3 c3)∧w.cell? ⟨b4,3,none⟩=some (.slice q4 n4 c4)∧w.cell? ⟨b4,4,none⟩=some (.slice (some ⟨g,o,none⟩) n5 c5)∧w.cell? ⟨b5,0,none⟩=some (.int .i64 (f:Int))∧w.cell? ⟨b14,2,none⟩=some (.slice (some ⟨gp,op,none⟩) np cp)∧w.cell? ⟨gp,op+k*2+1,none⟩=some (.int .u64 (y:Nat)))
    ((first | (refine HS.out _ acc ?_;(repeat (first | exact HKV.out | refine KpD.drew ?_ | refine KpD.al ?_ _ | refine KpD.le ?_ hbe | refine KpD.flow (k:=acc) ?_ hif hcf));done) | (refine HS.out _ (acc && within (ex ||| lv) y) ?_;(repeat (first | exact HKV.out | refine KpD.drew ?_ | refine KpD.al ?_ _ | refine KpD.le ?_ hbe | refine KpD.flow (k:=acc) ?_ hif hcf));done)))
    (first | (go_at_call 26;refine (HXE.out _ ?hbw _ _ ?hx).mono ?_;(case hbw=>refine (HKK.out _ ?_).1;(repeat (first | exact HKV.out | refine KpD.drew ?_ | refine KpD.al ?_ _ | refine KpD.le ?_ hbe | refine KpD.flow (k:=acc) ?_ hif hcf)));(case hx=>refine oneX HNX.out ?_ HXT.out;first | exact new_cell' _ _ rfl | exact new_cell_d _ _ rfl);rintro e we ⟨rfl,hbe⟩) | (go_at_call 47;refine (HFL.out _ acc b9 b7 ex y hxl hyl ?h9 ?h7).mono ?_;(case h9=>refine (HKK.out _ ?_).2.1;(repeat (first | exact HKV.out | refine KpD.drew ?_ | refine KpD.al ?_ _ | refine KpD.le ?_ hbe | refine KpD.flow (k:=acc) ?_ hif hcf)));(case h7=>refine (HKK.out _ ?_).2.2;(repeat (first | exact HKV.out | refine KpD.drew ?_ | refine KpD.al ?_ _ | refine KpD.le ?_ hbe | refine KpD.flow (k:=acc) ?_ hif hcf)));rintro e wf ⟨rfl,hif,hcf⟩))
   all_goals
    go_wp2_with fail
    refine ⟨⟨k+1,acc && within (ex ||| lv) y,by omega,by go_num,HRN,hid ?_⟩,by simp [intOf];omega⟩
    (repeat (first | exact HKV.out | refine KpD.drew ?_ | refine KpD.al ?_ _ | refine KpD.le ?_ hbe | refine KpD.flow (k:=acc) ?_ hif hcf))
  ·obtain rfl:ne=k:=by omega
   have HF:=hid (show R0=acc by rw [HR.out,List.drop_of_length_le (by rw [HOE.out,HNE.out];exact Nat.le_refl _),flow_nil])
   rw [HF.out] at HR1
   have k14:=HKV.out.i14.cell (j:=1) (v:=.int .u64 (d.level:Nat)) rfl
   have l14:=HKV.out.i14.lt
   have HFL0:=hid (fun (w:World) h9 h7=>show Calls Tryz.prog 47 #[.int .u64 0,.int .u64 (d.level:Nat),.pointer (some ⟨b9,0,none⟩),.pointer (some ⟨b7,0,none⟩)] w _ from HFL.out w acc b9 b7 0 d.level (by decide) hlvl h9 h7)
   clear HR HF
   go_wp2_with fail
   go_at_call 47
   refine (HFL0.out V HKV.out.kp.i9 (HKV.out.kp.i7.cell (j:=0) rfl)).mono ?_
   rintro e wf ⟨rfl,hif,hcf⟩
   have HDF:=hid (HKV.out.flow hif hcf)
   generalize (acc && within (0 ||| lv) d.level)=a1 at *
   clear hif hcf k14 l14 HFL0 HKV
   have k2:=HDF.out.kp.i6.cell (j:=2) (v:=.slice qt nt ct) rfl
   have l6:=HDF.out.kp.i6.lt
   go_wp2_with fail
   clear k2 l6
   have HR2:=HR1
   go_loopw [99] (fun i wr=>∃(k:Nat) (acc:Bool),k≤nt∧i=.int .i64 k∧Hid (R1=flowF lv (d.results.drop k) (tl.drop k) acc)∧Hid (KpD W #[.slice q1 n1 c1,.slice q2 n2 c2,.slice q3 n3 c3,.slice q4 n4 c4,.slice (some ⟨g,o,none⟩) n5 c5] #[.int .i64 (4),.string xn,.slice qt nt ct,.slice qe ne ce] #[.string d.name,.int .u64 (d.level:Nat),.slice qp np cp,.slice qr nr cr,.slice qv nv cv,.slice qb nb cb] (.int .i64 (f:Int)) (.int .u64 (lv:Nat)) b4 b5 b6 b7 b9 b14 acc wr)) (fun i _=>nt - (intOf i).toNat)
   case atStart=>exact ⟨0,a1,Nat.zero_le _,rfl,HR2,HDF⟩
   case round =>
    clear HR1 HR2 HDF
    obtain ⟨k,acc,hk,rfl,HR,HKV⟩:=hrel
    obtain ⟨V,h9⟩:∃w,w=wr:=⟨_,rfl⟩
    subst h9
    by_cases hlt:k<nt
    ·have hk1:k<ts.length:=by rw [HNS.out];exact hlt
     have hk2:k<d.results.length:=by rw [HNR.out];omega
     obtain ⟨gt,ot,rfl,t0⟩:=HTA.out k hk1
     obtain ⟨gr,orr,rfl,r0,hxl⟩:=HLA.out k hk2
     have HRN:=hid (show R1=flowF lv (d.results.drop (k+1)) (tl.drop (k+1)) (acc && within (d.results[k] ||| lv) (toZ s f ts[k])) by rw [HR.out,flow_step lv d.results tl acc hk2 (HTL.out k hk1).1,(HTL.out k hk1).2])
     have HNX:=hid (fun (w:World) (hw:Below W.heap.size W w)=>HNT.out w hw ts[k] (List.getElem_mem hk1))
     have hyl:=HNL.out ts[k]
     have t1:W.cell? ⟨gt,ot+k,none⟩=some (.string ts[k]):=HC.out _ _ t0
     have r1:W.cell? ⟨gr,orr+k,none⟩=some (.int .u64 (d.results[k]:Nat)):=HC.out _ _ r0
     generalize toZ s f ts[k]=y at *
     generalize ts[k]=tn at *
     generalize d.results[k]=x at *
     have hki:(k:Int)<(nt:Int):=by omega
     have hkr:(k:Int)<(nr:Int):=by omega
     have y0:=cell_b t1 HKV.out.kp.bl
     have hly:=World.block_lt_of_cell? _ _ y0
     have R1':=hid r1
     clear r0 r1 t0 t1
     have HS:=hid (fun (w:World) (kk:Bool) (h:KpD W #[.slice q1 n1 c1,.slice q2 n2 c2,.slice q3 n3 c3,.slice q4 n4 c4,.slice (some ⟨g,o,none⟩) n5 c5] #[.int .i64 (4),.string xn,.slice (some ⟨gt,ot,none⟩) nt ct,.slice qe ne ce] #[.string d.name,.int .u64 (d.level:Nat),.slice qp np cp,.slice (some ⟨gr,orr,none⟩) nr cr,.slice qv nv cv,.slice qb nb cb] (.int .i64 (f:Int)) (.int .u64 (lv:Nat)) b4 b5 b6 b7 b9 b14 kk w)=>show w.cell? ⟨b4,0,none⟩=some (.slice q1 n1 c1)∧w.cell? ⟨b4,1,none⟩=some (.slice q2 n2 c2)∧w.cell? ⟨b4,2,none⟩=some (.slice q3 n3 c3)∧w.cell? ⟨b4,3,none⟩=some (.slice q4 n4 c4)∧w.cell? ⟨b4,4,none⟩=some (.slice (some ⟨g,o,none⟩) n5 c5)∧w.cell? ⟨b5,0,none⟩=some (.int .i64 (f:Int))∧w.cell? ⟨b14,3,none⟩=some (.slice (some ⟨gr,orr,none⟩) nr cr)∧w.cell? ⟨gr,orr+k,none⟩=some (.int .u64 (x:Nat)) from
      ⟨h.kp.i4.cell (j:=0) rfl,h.kp.i4.cell (j:=1) rfl,h.kp.i4.cell (j:=2) rfl,h.kp.i4.cell (j:=3) rfl,h.kp.i4.cell (j:=4) rfl,h.kp.i5.cell (j:=0) rfl,h.i14.cell (j:=3) rfl,cell_b R1'.out h.kp.bl⟩)
     have HKK:=hid (fun (w:World) (h:KpD W #[.slice q1 n1 c1,.slice q2 n2 c2,.slice q3 n3 c3,.slice q4 n4 c4,.slice (some ⟨g,o,none⟩) n5 c5] #[.int .i64 (4),.string xn,.slice (some ⟨gt,ot,none⟩) nt ct,.slice qe ne ce] #[.string d.name,.int .u64 (d.level:Nat),.slice qp np cp,.slice (some ⟨gr,orr,none⟩) nr cr,.slice qv nv cv,.slice qb nb cb] (.int .i64 (f:Int)) (.int .u64 (lv:Nat)) b4 b5 b6 b7 b9 b14 acc w)=>And.intro h.kp.bl (And.intro h.kp.i4 (And.intro (h.kp.i5.cell (j:=0) (v:=.int .i64 (f:Int)) rfl) (And.intro h.kp.i9 (h.kp.i7.cell (j:=0) (v:=.int .u64 (lv:Nat)) rfl)))))
     go_upto_region 22 with fail
     clear y0 hly
     go_region_held_law (fun w=>w.cell? ⟨b4,0,none⟩=some (.slice q1 n1 c1)∧w.cell? ⟨b4,1,none⟩=some (.slice q2 n2 c2)∧w.cell? ⟨b4,2,none⟩=some (.slice q3 n3 c3)∧w.cell? ⟨b4,3,none⟩=some (.slice q4 n4 c4)∧w.cell? ⟨b4,4,none⟩=some (.slice (some ⟨g,o,none⟩) n5 c5)∧w.cell? ⟨b5,0,none⟩=some (.int .i64 (f:Int))∧w.cell? ⟨b14,3,none⟩=some (.slice (some ⟨gr,orr,none⟩) nr cr)∧w.cell? ⟨gr,orr+k,none⟩=some (.int .u64 (x:Nat)))
      ((first | (refine HS.out _ acc ?_;(repeat (first | exact HKV.out | refine KpD.drew ?_ | refine KpD.al ?_ _ | refine KpD.le ?_ hbe | refine KpD.flow (k:=acc) ?_ hif hcf));done) | (refine HS.out _ (acc && within (x ||| lv) y) ?_;(repeat (first | exact HKV.out | refine KpD.drew ?_ | refine KpD.al ?_ _ | refine KpD.le ?_ hbe | refine KpD.flow (k:=acc) ?_ hif hcf));done)))
      (first | (go_at_call 49;refine (HNX.out _ ?hbw b4 b5 ?h4 ?h5).mono ?_;(case hbw=>refine (HKK.out _ ?_).1;(repeat (first | exact HKV.out | refine KpD.drew ?_ | refine KpD.al ?_ _ | refine KpD.le ?_ hbe | refine KpD.flow (k:=acc) ?_ hif hcf)));(case h4=>refine (HKK.out _ ?_).2.1;(repeat (first | exact HKV.out | refine KpD.drew ?_ | refine KpD.al ?_ _ | refine KpD.le ?_ hbe | refine KpD.flow (k:=acc) ?_ hif hcf)));(case h5=>refine (HKK.out _ ?_).2.2.1;(repeat (first | exact HKV.out | refine KpD.drew ?_ | refine KpD.al ?_ _ | refine KpD.le ?_ hbe | refine KpD.flow (k:=acc) ?_ hif hcf)));rintro e we ⟨rfl,hbe⟩) | (go_at_call 47;refine (HFL.out _ acc b9 b7 x y hxl hyl ?h9 ?h7).mono ?_;(case h9=>refine (HKK.out _ ?_).2.2.2.1;(repeat (first | exact HKV.out | refine KpD.drew ?_ | refine KpD.al ?_ _ | refine KpD.le ?_ hbe | refine KpD.flow (k:=acc) ?_ hif hcf)));(case h7=>refine (HKK.out _ ?_).2.2.2.2;(repeat (first | exact HKV.out | refine KpD.drew ?_ | refine KpD.al ?_ _ | refine KpD.le ?_ hbe | refine KpD.flow (k:=acc) ?_ hif hcf)));rintro e wf ⟨rfl,hif,hcf⟩))
     all_goals
      go_wp2_with fail
      refine ⟨⟨k+1,acc && within (x ||| lv) y,by omega,by go_num,HRN,hid ?_⟩,by simp [intOf];omega⟩
      (repeat (first | exact HKV.out | refine KpD.drew ?_ | refine KpD.al ?_ _ | refine KpD.le ?_ hbe | refine KpD.flow (k:=acc) ?_ hif hcf))
    ·obtain rfl:nt=k:=by omega
     have HF:=hid (show R1=acc by rw [HR.out,List.drop_of_length_le (l:=tl) (by rw [HTE.out,HNS.out];exact Nat.le_refl _),flow_nil2])
     have c9:=HKV.out.kp.i9.cell (j:=0) (v:=.bool acc) rfl
     have l9:=HKV.out.kp.i9.lt
     go_wp2_with fail
     go_ret
     exact ⟨by rw [HF.out];rfl,HKV.out.kp.bl⟩
end
end Go.Proofs.YtlpdjfimefjmcaaGreatDoor
