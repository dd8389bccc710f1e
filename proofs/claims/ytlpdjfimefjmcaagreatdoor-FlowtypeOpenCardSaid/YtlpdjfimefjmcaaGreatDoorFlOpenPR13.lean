/- Package names: the first fault of a statement. (Written by a program.) -/
import Derived.Test.YtlpdjfimefjmcaaGreatDoorFlOpenPR12
open Go.Lib (hid)
namespace Go.Proofs.YtlpdjfimefjmcaaGreatDoor
open Go Go.RowKit Go.Proofs.Mm
section
variable {lt:Bool} {C:Cl} {W:World} {s:SoZ} {q1:Option Addr} {c1:Nat} {q2:Option Addr} {c2:Nat} {q3:Option Addr} {c3:Nat} {q4:Option Addr} {c4:Nat} {q5:Option Addr} {c5:Nat}
theorem stE_eq (s:SoZ) (f:Nat) (x:StZ):stE s f x=fst0 [unl (fitZ x) 50,bulkE x,usesE s f x,cntE s f x]:=rfl
theorem bodyF_bad {s:SoZ} {f:Nat} {x:StZ} {l:List StZ} {i:Nat} (h:¬stE s f x=0):bodyF s f (x::l) i=some ((i:Int),stE s f x):=by unfold bodyF;rw [if_neg h]
theorem bodyF_ok {s:SoZ} {f:Nat} {x:StZ} {l:List StZ} {i:Nat} (h:stE s f x=0):bodyF s f (x::l) i=bodyF s f l (i+1):=by rw [bodyF,if_pos h]
def fnV:Option (Int × Nat)→Value
 | some (a,e)=>.tuple #[.int .i64 a,.int .i64 (e:Int)]
 | none=>.tuple #[.int .i64 0,.int .i64 0]
theorem fnE_bad {nest:List Int→Bool} {s:SoZ} {f:Nat} {d:FnZ} {x0 x1 x2 x3 x4:Nat} (e0:x0=unl (decide (d.params.length≤8) && decide (d.results.length≤4) && decide (d.vars.length≤32) && decide (d.body.length≤256)) 74) (e1:x1=lblE s d.level) (e2:x2=locE s f (d.params++d.vars) 0) (e3:x3=lbsE s d.results) (e4:x4=unl (nest (d.body.map StZ.kind) && decide (deepZ d.body 0 0≤12) && onceZ d.body) 50)
 (h:¬fst0 [x0,x1,x2,x3,x4]=0):fnE nest s f d=some (-1,fst0 [x0,x1,x2,x3,x4]):=by
 subst e0 e1 e2 e3 e4
 unfold fnE
 simp only
 rw [if_neg h]
theorem fnE_ok {nest:List Int→Bool} {s:SoZ} {f:Nat} {d:FnZ} {x0 x1 x2 x3 x4:Nat} (e0:x0=unl (decide (d.params.length≤8) && decide (d.results.length≤4) && decide (d.vars.length≤32) && decide (d.body.length≤256)) 74) (e1:x1=lblE s d.level) (e2:x2=locE s f (d.params++d.vars) 0) (e3:x3=lbsE s d.results) (e4:x4=unl (nest (d.body.map StZ.kind) && decide (deepZ d.body 0 0≤12) && onceZ d.body) 50)
 (h:fst0 [x0,x1,x2,x3,x4]=0):fnE nest s f d=bodyF s f d.body 0:=by
 subst e0 e1 e2 e3 e4
 unfold fnE
 simp only
 rw [if_pos h]
set_option maxRecDepth 100000 in
set_option maxHeartbeats 32000000 in
theorem function_p (h:SrcO lt C s q1 c1 q2 c2 q3 c3 q4 c4 q5 c5) (hC:CLe C (wC W)) (f:Nat) (hf:f<s.funcs.length) (hsm:∀x∈s.funcs[f].body,x.targets.length≤8796093021952) :
 Calls Tryz.prog 18 #[.agg (srV s q1 c1 q2 c2 q3 c3 q4 c4 q5 c5),.int .i64 (f:Int)] W (RetB (fnV (fnE nstZ s f s.funcs[f])) W):=by
 obtain ⟨g,o,qp,cp,qr,cr,qv,cv,qb,cb,rfl,a0,a1,a2,a3,a4,a5,hlv,hp,hr,hv,hb⟩:=h.fn.cells f hf
 have e0:W.cell? ⟨g,o+f*6,none⟩=some (.string s.funcs[f].name):=hC _ _ a0
 have e1:W.cell? ⟨g,o+f*6+1,none⟩=some (.int .u64 (s.funcs[f].level:Nat)):=hC _ _ a1
 have e2:W.cell? ⟨g,o+f*6+2,none⟩=some (.slice qp s.funcs[f].params.length cp):=hC _ _ a2
 have e3:W.cell? ⟨g,o+f*6+3,none⟩=some (.slice qr s.funcs[f].results.length cr):=hC _ _ a3
 have e4:W.cell? ⟨g,o+f*6+4,none⟩=some (.slice qv s.funcs[f].vars.length cv):=hC _ _ a4
 have e5:W.cell? ⟨g,o+f*6+5,none⟩=some (.slice qb s.funcs[f].body.length cb):=hC _ _ a5
 have hfi:(f:Int)<(s.funcs.length:Int):=by omega
 have hbl:s.funcs[f].body.length≤2199023255552:=by have:=slx_len hb;omega
 have hrl:=slx_len hr
 have HSZ:=hid (fun w=>sizes_p (W:=w) (qp:=qp) (cp:=cp) (qr:=qr) (cr:=cr) (qv:=qv) (cv:=cv) (qb:=qb) (cb:=cb) s.funcs[f])
 have HLV:=hid (lb_eq s s.funcs[f].level)
 have HLC:=hid (fun (w:World) (hw:Below W.heap.size W w)=>locals_p (W:=w) h (hC.trans (below_cle hw)) f hf)
 have HLS:=hid (fun (w:World) (hw:Below W.heap.size W w)=>labels_p (W:=w) (q:=qr) (c:=cr) (q1:=q1) (c1:=c1) (q2:=q2) (q3:=q3) (q4:=q4) (q5:=some ⟨g,o,none⟩) (n2:=s.globals.length) (n3:=s.arrays.length) (n4:=s.channels.length) (n5:=s.funcs.length) (c2:=c2) (c3:=c3) (c4:=c4) (c5:=c5) s.funcs[f].results s.principals.length (by omega) (fun j hj=>by
  obtain ⟨g',o',k1,k2,k3⟩:=hr.cells j hj
  exact ⟨g',o',k1,below_cle hw _ _ (hC _ _ k2),k3⟩))
 have HBK:=hid (fun (w:World) (hw:Below W.heap.size W w)=>blocks_p (W:=w) (c:=cb) s.funcs[f].body hbl hb.cells (hC.trans (below_cle hw)))
 have HSO:=hid (@sizes_ok s.funcs[f])
 have HBAD:=hid (fnE_bad (nest:=nstZ) (s:=s) (f:=f) (d:=s.funcs[f]) (x0:=unl (decide (s.funcs[f].params.length≤8) && decide (s.funcs[f].results.length≤4) && decide (s.funcs[f].vars.length≤32) && decide (s.funcs[f].body.length≤256)) 74) (x1:=lblE s s.funcs[f].level) (x2:=locE s f (s.funcs[f].params++s.funcs[f].vars) 0) (x3:=lbsU s.principals.length s.funcs[f].results) (x4:=blkE s.funcs[f].body) rfl rfl rfl (lbsE_eq s _).symm rfl)
 have HOKK:=hid (fnE_ok (nest:=nstZ) (s:=s) (f:=f) (d:=s.funcs[f]) (x0:=unl (decide (s.funcs[f].params.length≤8) && decide (s.funcs[f].results.length≤4) && decide (s.funcs[f].vars.length≤32) && decide (s.funcs[f].body.length≤256)) 74) (x1:=lblE s s.funcs[f].level) (x2:=locE s f (s.funcs[f].params++s.funcs[f].vars) 0) (x3:=lbsU s.principals.length s.funcs[f].results) (x4:=blkE s.funcs[f].body) rfl rfl rfl (lbsE_eq s _).symm rfl)
 have HCE:=hid hb.cells
 have HSM:=hid hsm
 have HCC:=hid hC
 have HUS:=hid (fun (w:World) (hw:Below W.heap.size W w) x {qt ct qe ce} ht he=>uses_p (W:=w) (qt:=qt) (ct:=ct) (qe:=qe) (ce:=ce) h (hC.trans (below_cle hw)) f x ht he)
 have HCT:=hid (fun (w:World) (hw:Below W.heap.size W w) x {qt ct qe ce}=>counts_p (W:=w) (qt:=qt) (ct:=ct) (qe:=qe) (ce:=ce) h (hC.trans (below_cle hw)) f hf x)
 clear h hC a0 a1 a2 a3 a4 a5 hp hr hv hb hsm hrl
 generalize hd0:s.funcs[f]=d at *
 clear hd0 hf
 generalize fnE nstZ s f d=R at *
 unfold srV at HLC HUS HCT ⊢
 unfold fdA at HSZ
 generalize unl (decide (d.params.length≤8) && decide (d.results.length≤4) && decide (d.vars.length≤32) && decide (d.body.length≤256)) 74=x0 at *
 generalize lblE s d.level=x1 at *
 generalize locE s f (d.params++d.vars) 0=x2 at *
 generalize lbsU s.principals.length d.results=x3 at *
 generalize blkE d.body=x4 at *
 generalize hpq:(d.params.length≤8∧d.vars.length≤32)=pq at *
 clear hpq
 generalize d.name=nm at *
 generalize d.level=lv at *
 generalize d.params.length=np at *
 generalize d.results.length=nr at *
 generalize d.vars.length=nv at *
 obtain ⟨nb,hnb⟩:∃nb,d.body.length=nb:=⟨_,rfl⟩
 have HNB:=hid hnb
 rw [hnb] at hbl e5 HBK HSZ
 clear hnb
 generalize s.principals.length=n1 at *
 generalize s.globals.length=n2 at *
 generalize s.arrays.length=n3 at *
 generalize s.channels.length=n4 at *
 generalize s.funcs.length=n5 at *
 have hlvb:=hlv
 have hg:g<W.heap.size:=cell_lt e0
 go_enter Tryz.func18,Tryz.ntmps18
 go_wp2_with fail
 have hbA:Below W.heap.size W ((W.alloc (.cells #[.slice q1 n1 c1,.slice q2 n2 c2,.slice q3 n3 c3,.slice q4 n4 c4,.slice (some ⟨g,o,none⟩) n5 c5] 27)).alloc (.cells #[.string nm,.int .u64 (lv:Nat),.slice qp np cp,.slice qr nr cr,.slice qv nv cv,.slice qb nb cb] 43)):=bl_al (bl_al (Below.refl _ _) _) _
 have j0:InB ((W.alloc (.cells #[.slice q1 n1 c1,.slice q2 n2 c2,.slice q3 n3 c3,.slice q4 n4 c4,.slice (some ⟨g,o,none⟩) n5 c5] 27)).alloc (.cells #[.string nm,.int .u64 (lv:Nat),.slice qp np cp,.slice qr nr cr,.slice qv nv cv,.slice qb nb cb] 43)) W.heap.size #[.slice q1 n1 c1,.slice q2 n2 c2,.slice q3 n3 c3,.slice q4 n4 c4,.slice (some ⟨g,o,none⟩) n5 c5] 27:=(InB.new _ _ _).le (bl_al (Below.refl _ _) _)
 have j1:InB ((W.alloc (.cells #[.slice q1 n1 c1,.slice q2 n2 c2,.slice q3 n3 c3,.slice q4 n4 c4,.slice (some ⟨g,o,none⟩) n5 c5] 27)).alloc (.cells #[.string nm,.int .u64 (lv:Nat),.slice qp np cp,.slice qr nr cr,.slice qv nv cv,.slice qb nb cb] 43)) (W.heap.size+1) #[.string nm,.int .u64 (lv:Nat),.slice qp np cp,.slice qr nr cr,.slice qv nv cv,.slice qb nb cb] 43:=InB.new' _ _ (by simp)
 generalize ((W.alloc (.cells #[.slice q1 n1 c1,.slice q2 n2 c2,.slice q3 n3 c3,.slice q4 n4 c4,.slice (some ⟨g,o,none⟩) n5 c5] 27)).alloc (.cells #[.string nm,.int .u64 (lv:Nat),.slice qp np cp,.slice qr nr cr,.slice qv nv cv,.slice qb nb cb] 43))=w0 at *
 have HBA:=hid hbA
 have HJ0:=hid j0
 have HJ1:=hid j1
 have HS:=hid (fun w' (hb:Below w0.heap.size w0 w')=>show w'.cell? ⟨W.heap.size,0,none⟩=some (.slice q1 n1 c1)∧w'.cell? ⟨W.heap.size,1,none⟩=some (.slice q2 n2 c2)∧w'.cell? ⟨W.heap.size,2,none⟩=some (.slice q3 n3 c3)∧w'.cell? ⟨W.heap.size,3,none⟩=some (.slice q4 n4 c4)∧w'.cell? ⟨W.heap.size,4,none⟩=some (.slice (some ⟨g,o,none⟩) n5 c5)∧w'.cell? ⟨W.heap.size+1,0,none⟩=some (.string nm)∧w'.cell? ⟨W.heap.size+1,1,none⟩=some (.int .u64 (lv:Nat))∧w'.cell? ⟨W.heap.size+1,2,none⟩=some (.slice qp np cp)∧w'.cell? ⟨W.heap.size+1,3,none⟩=some (.slice qr nr cr)∧w'.cell? ⟨W.heap.size+1,4,none⟩=some (.slice qv nv cv)∧w'.cell? ⟨W.heap.size+1,5,none⟩=some (.slice qb nb cb) from
  ⟨(j0.le hb).cell rfl,(j0.le hb).cell rfl,(j0.le hb).cell rfl,(j0.le hb).cell rfl,(j0.le hb).cell rfl,(j1.le hb).cell rfl,(j1.le hb).cell rfl,(j1.le hb).cell rfl,(j1.le hb).cell rfl,(j1.le hb).cell rfl,(j1.le hb).cell rfl⟩)
 clear hbA j0 j1 e0 e1 e2 e3 e4 e5 hg
 go_region_held_law (fun w'=>w'.cell? ⟨W.heap.size,0,none⟩=some (.slice q1 n1 c1)∧w'.cell? ⟨W.heap.size,1,none⟩=some (.slice q2 n2 c2)∧w'.cell? ⟨W.heap.size,2,none⟩=some (.slice q3 n3 c3)∧w'.cell? ⟨W.heap.size,3,none⟩=some (.slice q4 n4 c4)∧w'.cell? ⟨W.heap.size,4,none⟩=some (.slice (some ⟨g,o,none⟩) n5 c5)∧w'.cell? ⟨W.heap.size+1,0,none⟩=some (.string nm)∧w'.cell? ⟨W.heap.size+1,1,none⟩=some (.int .u64 (lv:Nat))∧w'.cell? ⟨W.heap.size+1,2,none⟩=some (.slice qp np cp)∧w'.cell? ⟨W.heap.size+1,3,none⟩=some (.slice qr nr cr)∧w'.cell? ⟨W.heap.size+1,4,none⟩=some (.slice qv nv cv)∧w'.cell? ⟨W.heap.size+1,5,none⟩=some (.slice qb nb cb))
  ((refine HS.out _ ?_;repeat (first | exact Below.refl _ _ | refine bl_al ?_ _ | refine bl_dr ?_ | refine bl_dN ?_ _ | refine bl_tr ?_ hbf | refine bl_tr ?_ hb5 | refine bl_tr ?_ hb4 | refine bl_tr ?_ hb3 | refine bl_tr ?_ hb2 | refine bl_tr ?_ hb1)))
  (first | (go_at_call 38;refine (HSZ.out _).mono ?_;rintro e wa hmk;obtain ⟨K1,k1,rfl,hb1,hf1⟩:=hmk.fn) | (have hx2:=hb2;clear hx2;go_at_call 39;refine (HLS.out _ ?hbw).mono ?_;(case hbw=>refine bl_tr HBA.out ?_;repeat (first | exact Below.refl _ _ | refine bl_al ?_ _ | refine bl_dr ?_ | refine bl_dN ?_ _ | refine bl_tr ?_ hbf | refine bl_tr ?_ hb5 | refine bl_tr ?_ hb4 | refine bl_tr ?_ hb3 | refine bl_tr ?_ hb2 | refine bl_tr ?_ hb1));rintro e wd hmk;obtain ⟨K4,k4,rfl,hb4,hf4⟩:=hmk.fn) | (go_at_call 39;refine (labels_p [lv] n1 q1 c1 (by simp) ?hrow).mono ?_;(case hrow=>refine la_one ?_ hlvb;first | exact new_cell' _ _ rfl | exact new_cell_d _ _ rfl | exact cell_b (new_cell' _ _ rfl) hb1 | exact cell_b (new_cell_d _ _ rfl) hb1);rintro e wb hmk;obtain ⟨K2,k2,rfl,hb2,hf2⟩:=hmk.fn) | (go_at_call 40;refine (HLC.out _ ?hbw).mono ?_;(case hbw=>refine bl_tr HBA.out ?_;repeat (first | exact Below.refl _ _ | refine bl_al ?_ _ | refine bl_dr ?_ | refine bl_dN ?_ _ | refine bl_tr ?_ hbf | refine bl_tr ?_ hb5 | refine bl_tr ?_ hb4 | refine bl_tr ?_ hb3 | refine bl_tr ?_ hb2 | refine bl_tr ?_ hb1));rintro e wc ⟨K3,k3,rfl,hb3,hf3⟩) | (go_at_call 41;refine (HBK.out _ ?hbw).mono ?_;(case hbw=>refine bl_tr HBA.out ?_;repeat (first | exact Below.refl _ _ | refine bl_al ?_ _ | refine bl_dr ?_ | refine bl_dN ?_ _ | refine bl_tr ?_ hbf | refine bl_tr ?_ hb5 | refine bl_tr ?_ hb4 | refine bl_tr ?_ hb3 | refine bl_tr ?_ hb2 | refine bl_tr ?_ hb1));rintro e we hmk;obtain ⟨K5,k5,rfl,hb5,hf5⟩:=hmk.fn) | (go_at_call 37;refine (first_p [x0,x1,x2,x3,x4] (by simp) ?hrow).mono ?_;(case hrow=>refine chk5 (InB.new' _ _ rfl) (hf1.le ?_) ?_ (fun hz=>(hf3 (HSO.out hz)).le ?_) (hf4.le ?_) (hf5.le ?_);(repeat (first | exact Below.refl _ _ | refine bl_al ?_ _ | refine bl_dr ?_ | refine bl_dN ?_ _ | refine bl_tr ?_ hbf | refine bl_tr ?_ hb5 | refine bl_tr ?_ hb4 | refine bl_tr ?_ hb3 | refine bl_tr ?_ hb2 | refine bl_tr ?_ hb1));(rw [HLV.out] at hf2;refine hf2.le ?_;repeat (first | exact Below.refl _ _ | refine bl_al ?_ _ | refine bl_dr ?_ | refine bl_dN ?_ _ | refine bl_tr ?_ hbf | refine bl_tr ?_ hb5 | refine bl_tr ?_ hb4 | refine bl_tr ?_ hb3 | refine bl_tr ?_ hb2 | refine bl_tr ?_ hb1));(repeat (first | exact Below.refl _ _ | refine bl_al ?_ _ | refine bl_dr ?_ | refine bl_dN ?_ _ | refine bl_tr ?_ hbf | refine bl_tr ?_ hb5 | refine bl_tr ?_ hb4 | refine bl_tr ?_ hb3 | refine bl_tr ?_ hb2 | refine bl_tr ?_ hb1));(repeat (first | exact Below.refl _ _ | refine bl_al ?_ _ | refine bl_dr ?_ | refine bl_dN ?_ _ | refine bl_tr ?_ hbf | refine bl_tr ?_ hb5 | refine bl_tr ?_ hb4 | refine bl_tr ?_ hb3 | refine bl_tr ?_ hb2 | refine bl_tr ?_ hb1));(repeat (first | exact Below.refl _ _ | refine bl_al ?_ _ | refine bl_dr ?_ | refine bl_dN ?_ _ | refine bl_tr ?_ hbf | refine bl_tr ?_ hb5 | refine bl_tr ?_ hb4 | refine bl_tr ?_ hb3 | refine bl_tr ?_ hb2 | refine bl_tr ?_ hb1)));rintro e wf ⟨rfl,hbf⟩))
 all_goals
  have HBF:=hid (show Below w0.heap.size w0 wf by repeat (first|exact Below.refl _ _|refine bl_al ?_ _|refine bl_dr ?_|refine bl_dN ?_ _|refine bl_tr ?_ hbf|refine bl_tr ?_ hb5|refine bl_tr ?_ hb4|refine bl_tr ?_ hb3|refine bl_tr ?_ hb2|refine bl_tr ?_ hb1))
  clear hb1 hb2 hb3 hb4 hb5 hbf hf1 hf2 hf3 hf4 hf5
  by_cases hx:fst0 [x0,x1,x2,x3,x4]=0
  ·have HX:=hid (HOKK.out hx)
   rw [hx]
   clear hx
   obtain ⟨t0,t1,t2,t3,t4,t5,t6,t7,t8,t9,t10⟩:=HS.out _ HBF.out
   go_wp2_with fail
   clear t0 t1 t2 t3 t4 t5 t6 t7 t8 t9 t10
   have HX0:=hid (show R=bodyF s f (d.body.drop 0) 0 from HX.out)
   go_loopw [41] (fun i wr=>∃k:Nat,k≤nb∧i=.int .i64 k∧Hid (Below wf.heap.size wf wr)∧Hid (R=bodyF s f (d.body.drop k) k)) (fun i _=>nb - (intOf i).toNat)
   case atStart=>exact ⟨0,Nat.zero_le _,rfl,hid (Below.refl _ _),HX0⟩
   case round =>
    obtain ⟨k,hk,rfl,HB,HT⟩:=hrel
    by_cases hlt:k<nb
    ·have hk1:k<d.body.length:=by rw [HNB.out];exact hlt
     obtain ⟨g2,o2,qt,ct,qe,ce,rfl,a0,a1,a2,a3,ht,he⟩:=HCE.out k hk1
     have HBX:=hid (bl_tr HBF.out HB.out)
     have HBW:=hid (bl_tr HBA.out HBX.out)
     have e0:=below_cle HBW.out _ _ (HCC.out _ _ a0)
     have e1:=below_cle HBW.out _ _ (HCC.out _ _ a1)
     have e2:=below_cle HBW.out _ _ (HCC.out _ _ a2)
     have e3:=below_cle HBW.out _ _ (HCC.out _ _ a3)
     unfold wC at e0 e1 e2 e3
     have hg2:g2<wr.heap.size:=cell_lt e0
     have HTD:=hid (show R=bodyF s f (d.body[k]::d.body.drop (k+1)) k by rw [HT.out,drop_next hk1])
     have HGR:=hid (fun (w:World) (hw:Below W.heap.size W w)=>grammar_p (W:=w) d.body[k] ht he (HCC.out.trans (below_cle hw)))
     have HBU:=hid (fun (w:World) (hw:Below W.heap.size W w)=>bulk_p (W:=w) (qt:=qt) (ct:=ct) d.body[k] he (HCC.out.trans (below_cle hw)))
     have HUS2:=hid (fun (w:World) (hw:Below W.heap.size W w)=>HUS.out w hw d.body[k] ht he)
     have HCT2:=hid (fun (w:World) (hw:Below W.heap.size W w)=>HCT.out w hw d.body[k] (qt:=qt) (ct:=ct) (qe:=qe) (ce:=ce))
     have HUO:=hid (fun (hh:bulkE d.body[k]=0)=>bulk_ok (x:=d.body[k]) hh (HSM.out _ (List.getElem_mem hk1)))
     have HSB:=hid (fun (hh:¬stE s f d.body[k]=0)=>bodyF_bad (s:=s) (f:=f) (x:=d.body[k]) (l:=d.body.drop (k+1)) (i:=k) hh)
     have HSK:=hid (fun (hh:stE s f d.body[k]=0)=>bodyF_ok (s:=s) (f:=f) (x:=d.body[k]) (l:=d.body.drop (k+1)) (i:=k) hh)
     have HSE:=hid (stE_eq s f d.body[k])
     clear a0 a1 a2 a3 ht he
     generalize d.body[k]=x at *
     clear hk1
     generalize stE s f x=Y at *
     generalize unl (fitZ x) 50=y0 at *
     generalize bulkE x=y1 at *
     generalize usesE s f x=y2 at *
     generalize cntE s f x=y3 at *
     generalize UsOk x=pu at *
     generalize bodyF s f (x::d.body.drop (k+1)) k=B1 at *
     unfold stA at HGR HBU HUS2 HCT2
     generalize x.kind=kd at *
     generalize x.name=xn at *
     generalize x.targets.length=nt at *
     generalize x.exprs.length=ne at *
     have hki:(k:Int)<(nb:Int):=by omega
     go_wp2_with fail
     have hvA:Below wr.heap.size wr (wr.alloc (.cells #[.int .i64 kd,.string xn,.slice qt nt ct,.slice qe ne ce] 47)):=bl_al (Below.refl _ _) _
     have jx:InB (wr.alloc (.cells #[.int .i64 kd,.string xn,.slice qt nt ct,.slice qe ne ce] 47)) wr.heap.size #[.int .i64 kd,.string xn,.slice qt nt ct,.slice qe ne ce] 47:=InB.new _ _ _
     generalize wr.alloc (.cells #[.int .i64 kd,.string xn,.slice qt nt ct,.slice qe ne ce] 47)=v0 at *
     have HVA:=hid (bl_tr HBX.out hvA)
     have HVR:=hid (bl_tr HB.out hvA)
     have HS2:=hid (fun w' (hb:Below v0.heap.size v0 w')=>show w'.cell? ⟨W.heap.size,0,none⟩=some (.slice q1 n1 c1)∧w'.cell? ⟨W.heap.size,1,none⟩=some (.slice q2 n2 c2)∧w'.cell? ⟨W.heap.size,2,none⟩=some (.slice q3 n3 c3)∧w'.cell? ⟨W.heap.size,3,none⟩=some (.slice q4 n4 c4)∧w'.cell? ⟨W.heap.size,4,none⟩=some (.slice (some ⟨g,o,none⟩) n5 c5)∧w'.cell? ⟨wr.heap.size,0,none⟩=some (.int .i64 kd)∧w'.cell? ⟨wr.heap.size,1,none⟩=some (.string xn)∧w'.cell? ⟨wr.heap.size,2,none⟩=some (.slice qt nt ct)∧w'.cell? ⟨wr.heap.size,3,none⟩=some (.slice qe ne ce) from by
      obtain ⟨t0,t1,t2,t3,t4,-⟩:=HS.out _ (bl_tr HVA.out hb)
      exact ⟨t0,t1,t2,t3,t4,(jx.le hb).cell rfl,(jx.le hb).cell rfl,(jx.le hb).cell rfl,(jx.le hb).cell rfl⟩)
     clear hvA e0 e1 e2 e3 hg2
     go_region_held_law (fun w'=>w'.cell? ⟨W.heap.size,0,none⟩=some (.slice q1 n1 c1)∧w'.cell? ⟨W.heap.size,1,none⟩=some (.slice q2 n2 c2)∧w'.cell? ⟨W.heap.size,2,none⟩=some (.slice q3 n3 c3)∧w'.cell? ⟨W.heap.size,3,none⟩=some (.slice q4 n4 c4)∧w'.cell? ⟨W.heap.size,4,none⟩=some (.slice (some ⟨g,o,none⟩) n5 c5)∧w'.cell? ⟨wr.heap.size,0,none⟩=some (.int .i64 kd)∧w'.cell? ⟨wr.heap.size,1,none⟩=some (.string xn)∧w'.cell? ⟨wr.heap.size,2,none⟩=some (.slice qt nt ct)∧w'.cell? ⟨wr.heap.size,3,none⟩=some (.slice qe ne ce))
      ((refine HS2.out _ ?_;repeat (first | exact Below.refl _ _ | refine bl_al ?_ _ | refine bl_dr ?_ | refine bl_dN ?_ _ | refine bl_tr ?_ hbf | refine bl_tr ?_ hb5 | refine bl_tr ?_ hb4 | refine bl_tr ?_ hb3 | refine bl_tr ?_ hb2 | refine bl_tr ?_ hb1)))
      (first | (go_at_call 42;refine (HGR.out _ ?hbw).mono ?_;(case hbw=>refine bl_tr HBA.out (bl_tr HVA.out ?_);repeat (first | exact Below.refl _ _ | refine bl_al ?_ _ | refine bl_dr ?_ | refine bl_dN ?_ _ | refine bl_tr ?_ hbf | refine bl_tr ?_ hb5 | refine bl_tr ?_ hb4 | refine bl_tr ?_ hb3 | refine bl_tr ?_ hb2 | refine bl_tr ?_ hb1));rintro e wa hmk;obtain ⟨K1,k1,rfl,hb1,hf1⟩:=hmk.fn) | (go_at_call 43;refine (HBU.out _ ?hbw).mono ?_;(case hbw=>refine bl_tr HBA.out (bl_tr HVA.out ?_);repeat (first | exact Below.refl _ _ | refine bl_al ?_ _ | refine bl_dr ?_ | refine bl_dN ?_ _ | refine bl_tr ?_ hbf | refine bl_tr ?_ hb5 | refine bl_tr ?_ hb4 | refine bl_tr ?_ hb3 | refine bl_tr ?_ hb2 | refine bl_tr ?_ hb1));rintro e wb hmk;obtain ⟨K2,k2,rfl,hb2,hf2⟩:=hmk.fn) | (go_at_call 44;refine (HUS2.out _ ?hbw).mono ?_;(case hbw=>refine bl_tr HBA.out (bl_tr HVA.out ?_);repeat (first | exact Below.refl _ _ | refine bl_al ?_ _ | refine bl_dr ?_ | refine bl_dN ?_ _ | refine bl_tr ?_ hbf | refine bl_tr ?_ hb5 | refine bl_tr ?_ hb4 | refine bl_tr ?_ hb3 | refine bl_tr ?_ hb2 | refine bl_tr ?_ hb1));rintro e wc ⟨K3,k3,rfl,hb3,hf3⟩) | (go_at_call 45;refine (HCT2.out _ ?hbw).mono ?_;(case hbw=>refine bl_tr HBA.out (bl_tr HVA.out ?_);repeat (first | exact Below.refl _ _ | refine bl_al ?_ _ | refine bl_dr ?_ | refine bl_dN ?_ _ | refine bl_tr ?_ hbf | refine bl_tr ?_ hb5 | refine bl_tr ?_ hb4 | refine bl_tr ?_ hb3 | refine bl_tr ?_ hb2 | refine bl_tr ?_ hb1));rintro e wd ⟨K4,k4,rfl,hb4,hf4⟩) | (go_at_call 37;refine (first_p [y0,y1,y2,y3] (by simp) ?hrow).mono ?_;(case hrow=>refine chk4 (InB.new' _ _ rfl) (hf1.le ?_) (hf2.le ?_) (fun hz=>(hf3 (HUO.out hz)).le ?_) (fun hz=>(hf4 hz).le ?_);(repeat (first | exact Below.refl _ _ | refine bl_al ?_ _ | refine bl_dr ?_ | refine bl_dN ?_ _ | refine bl_tr ?_ hbf | refine bl_tr ?_ hb5 | refine bl_tr ?_ hb4 | refine bl_tr ?_ hb3 | refine bl_tr ?_ hb2 | refine bl_tr ?_ hb1));(repeat (first | exact Below.refl _ _ | refine bl_al ?_ _ | refine bl_dr ?_ | refine bl_dN ?_ _ | refine bl_tr ?_ hbf | refine bl_tr ?_ hb5 | refine bl_tr ?_ hb4 | refine bl_tr ?_ hb3 | refine bl_tr ?_ hb2 | refine bl_tr ?_ hb1));(repeat (first | exact Below.refl _ _ | refine bl_al ?_ _ | refine bl_dr ?_ | refine bl_dN ?_ _ | refine bl_tr ?_ hbf | refine bl_tr ?_ hb5 | refine bl_tr ?_ hb4 | refine bl_tr ?_ hb3 | refine bl_tr ?_ hb2 | refine bl_tr ?_ hb1));(repeat (first | exact Below.refl _ _ | refine bl_al ?_ _ | refine bl_dr ?_ | refine bl_dN ?_ _ | refine bl_tr ?_ hbf | refine bl_tr ?_ hb5 | refine bl_tr ?_ hb4 | refine bl_tr ?_ hb3 | refine bl_tr ?_ hb2 | refine bl_tr ?_ hb1)));rintro e wg ⟨rfl,hbf⟩))
     all_goals
      have HBG:=hid (show Below wf.heap.size wf wg by
       refine bl_tr HVR.out ?_
       repeat (first|exact Below.refl _ _|refine bl_al ?_ _|refine bl_dr ?_|refine bl_dN ?_ _|refine bl_tr ?_ hbf|refine bl_tr ?_ hb5|refine bl_tr ?_ hb4|refine bl_tr ?_ hb3|refine bl_tr ?_ hb2|refine bl_tr ?_ hb1))
      clear hb1 hb2 hb3 hb4 hbf hf1 hf2 hf3 hf4
      by_cases hy:fst0 [y0,y1,y2,y3]=0
      ·have HX2:=hid (show R=bodyF s f (d.body.drop (k+1)) (k+1) from HTD.out.trans (HSK.out (HSE.out.trans hy)))
       rw [hy]
       clear hy
       go_wp2
       refine ⟨?_,by simp [intOf];omega⟩
       repeat apply Exists.intro
       refine ⟨?rel,?fr⟩
       case fr=>repeat' (first | exact rfl | refine ⟨rfl,?_⟩)
       case rel=>exact ⟨k+1,by omega,by go_num,HBG,HX2⟩
      ·have HX2:=hid (show R=some ((k:Int),fst0 [y0,y1,y2,y3]) from HTD.out.trans ((HSB.out (fun hh=>hy (HSE.out.symm.trans hh))).trans (by rw [HSE.out])))
       have hne:(((fst0 [y0,y1,y2,y3]:Nat):Int) != 0)=true:=by simpa using hy
       have hne2:(((fst0 [y0,y1,y2,y3]:Nat):Int) == 0)=false:=by simpa using hy
       generalize fst0 [y0,y1,y2,y3]=Y2 at *
       clear hy
       go_wp2
       go_ret2
       exact ⟨by rw [HX2.out];rfl,bl_tr HBA.out (bl_tr HBF.out HBG.out)⟩
    ·obtain rfl:k=nb:=by omega
     have HX2:=hid (show R=none by rw [HT.out,List.drop_of_length_le (by rw [HNB.out];exact Nat.le_refl _)];rfl)
     go_wp2
     go_ret2
     exact ⟨by rw [HX2.out];rfl,bl_tr HBA.out (bl_tr HBF.out HB.out)⟩
  ·have HX:=hid (HBAD.out hx)
   have hne:(((fst0 [x0,x1,x2,x3,x4]:Nat):Int) != 0)=true:=by simpa using hx
   have hne2:(((fst0 [x0,x1,x2,x3,x4]:Nat):Int) == 0)=false:=by simpa using hx
   generalize fst0 [x0,x1,x2,x3,x4]=X at *
   clear hx
   go_wp2
   go_ret2
   exact ⟨by rw [HX.out];rfl,bl_tr HBA.out HBF.out⟩
end
end Go.Proofs.YtlpdjfimefjmcaaGreatDoor
