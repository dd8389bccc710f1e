/- Package flowtype: Check. -/
import Derived.Test.YtlpdjfimefjmcaaGreatDoorFlOpenPR17
import Derived.Lib.QuietBelow
import Derived.Test.YtlpdjfimefjmcaaGreatDoorFlOpenPR18
import Derived.Test.YtlpdjfimefjmcaaGreatDoorFlOpenPR19
open Go.Lib (hid)
namespace Go.Proofs.YtlpdjfimefjmcaaGreatDoor
open Go Go.RowKit Go.Proofs.Mm Go.Sort
def resB:Option (Nat × Nat)→Int × Int × Int
 | none=>(0,0,0)
 | some p=>(80,p.1,p.2)
section
variable {s:SoZ}
theorem flowZ_ok (h:chkZ nstZ s=(0,0,0)):flowZ s=resB (flowsF s (s.funcs.drop 0) 0):=by
 unfold flowZ
 rw [if_pos h,List.drop_zero]
 cases flowsF s s.funcs 0 <;> rfl
theorem flowsF_next {k:Nat} (hk:k<s.funcs.length) (h:badF s k s.funcs[k].body (levelsZ s k) 0=none):flowsF s (s.funcs.drop k) k=flowsF s (s.funcs.drop (k+1)) (k+1):=by
 rw [List.drop_eq_getElem_cons hk,flowsF,h]
theorem flowsF_hit {k i:Nat} (hk:k<s.funcs.length) (h:badF s k s.funcs[k].body (levelsZ s k) 0=some i):flowsF s (s.funcs.drop k) k=some (k,i):=by
 rw [List.drop_eq_getElem_cons hk,flowsF,h]
theorem badF_next {f:Nat} {b:List StZ} {L:List Nat} {i:Nat} (hb:i<b.length) (hl:i<L.length) (h:keepsZ s f b[i] (L.getD i 0)=true):badF s f (b.drop i) (L.drop i) i=badF s f (b.drop (i+1)) (L.drop (i+1)) (i+1):=by
 rw [List.getD_eq_getElem?_getD,List.getElem?_eq_getElem hl,Option.getD_some] at h
 rw [List.drop_eq_getElem_cons hb,List.drop_eq_getElem_cons hl,badF,if_pos h]
theorem badF_hit {f:Nat} {b:List StZ} {L:List Nat} {i:Nat} (hb:i<b.length) (hl:i<L.length) (h:keepsZ s f b[i] (L.getD i 0)=false):badF s f (b.drop i) (L.drop i) i=some i:=by
 rw [List.getD_eq_getElem?_getD,List.getElem?_eq_getElem hl,Option.getD_some] at h
 rw [List.drop_eq_getElem_cons hb,List.drop_eq_getElem_cons hl,badF,if_neg (by rw [h];decide)]
theorem badF_end {f:Nat} {b:List StZ} {L:List Nat} {i:Nat} (hb:b.length≤i):badF s f (b.drop i) (L.drop i) i=none:=by
 rw [List.drop_of_length_le hb]
 unfold badF
 rfl
theorem lvsF_lt {f:Nat} (hb:∀l,exsL s f l<u64B):∀(l:List StZ) (row:List Nat),(∀x∈row,x<u64B)→∀j,(lvF s f l row).getD j 0<u64B
 | [],_,_,j=>by unfold lvF;show (0:Nat)<u64B;decide
 | y::l,row,hr,j=>by
  have hd:∀j,row.getD j 0<u64B:=fun j=>by
   by_cases hj:j<row.length
   ·rw [List.getD_eq_getElem?_getD,List.getElem?_eq_getElem hj];exact hr _ (List.getElem_mem hj)
   ·rw [List.getD_eq_getElem?_getD,List.getElem?_eq_none (by omega)];show (0:Nat)<u64B;decide
  rw [lvF]
  cases j with
  | zero=>exact hd _
  | succ j =>
   refine lvsF_lt hb l _ (fun z hz=>?_) j
   unfold rowZ at hz
   split at hz
   ·rcases List.mem_append.1 hz with hz|hz
    ·exact hr z hz
    ·rw [List.mem_singleton.1 hz]
     exact Nat.or_lt_two_pow (n:=64) (hd _) (hb _)
   ·split at hz
    ·exact hr z (List.mem_of_mem_take hz)
    ·exact hr z hz
theorem levelsZ_lt {f:Nat} (hb:∀l,exsL s f l<u64B) (hf:f<s.funcs.length) (hv:s.funcs[f].level<u64B) (j:Nat):(levelsZ s f).getD j 0<u64B:=by
 unfold levelsZ
 rw [List.getElem?_eq_getElem hf]
 simp only
 split
 ·exact lvsF_lt hb _ _ (fun z hz=>by rw [List.mem_singleton.1 hz];exact hv) j
 ·show (0:Nat)<u64B;decide
end
section
variable {W:World} {lt:Bool} {C:Cl} {s:SoZ} {q1:Option Addr} {c1:Nat} {q2:Option Addr} {c2:Nat} {q3:Option Addr} {c3:Nat} {q4:Option Addr} {c4:Nat} {q5:Option Addr} {c5:Nat}
set_option maxRecDepth 100000 in
set_option maxHeartbeats 8000000 in
theorem flows_p (h:SrcO lt C s q1 c1 q2 c2 q3 c3 q4 c4 q5 c5) (hC:CLe C (wC W)) :
 Calls Tryz.prog 10 #[.agg (srV s q1 c1 q2 c2 q3 c3 q4 c4 q5 c5)] W (RetB (.agg (flA (flowZ s))) W):=by
 have HCK:=hid (fun (w:World) (hw:Below W.heap.size W w)=>check_p (W:=w) h (hC.trans (below_cle hw)) (small_of h))
 have HL5:=hid (slx_len h.fn)
 have HZ:=hid (fun (hz:¬chkZ nstZ s=(0,0,0))=>show flowZ s=chkZ nstZ s by unfold flowZ;rw [if_neg hz])
 have HLV:=hid (fun (w:World) (hw:Below W.heap.size W w) f (hf:f<s.funcs.length)=>levels_p (W:=w) h (hC.trans (below_cle hw)) f hf)
 have HKP:=hid (fun (w:World) (hw:Below W.heap.size W w) f x qt ct qe ce he hln htg ok lv hlv=>keeps_p (W:=w) h (hC.trans (below_cle hw)) f lv hlv x qt qe ct ce he hln htg ok)
 have HZ1:=hid (fun (hz:chkZ nstZ s=(0,0,0))=>flowZ_ok hz)
 have HEL:=hid (fun f=>fun l=>show exsL s f l<u64B from exs_lt h f l 0 (by decide))
 unfold srV at HCK HLV HKP ⊢
 generalize flowZ s=R at *
 obtain ⟨⟨a,b,c⟩,hR⟩:∃r,chkZ nstZ s=r:=⟨_,rfl⟩
 have HCZ:=hid hR
 rw [hR] at HCK HZ HZ1
 clear hR
 obtain ⟨n5,hn5⟩:∃n5,s.funcs.length=n5:=⟨_,rfl⟩
 have HN5:=hid hn5
 rw [hn5] at HCK HL5 HLV HKP ⊢
 clear hn5
 generalize s.principals.length=n1 at *
 generalize s.globals.length=n2 at *
 generalize s.arrays.length=n3 at *
 generalize s.channels.length=n4 at *
 obtain ⟨b1,hb⟩:∃b,W.heap.size=b:=⟨_,rfl⟩
 go_enter Tryz.func10,Tryz.ntmps10
 go_upto_region 1 with fail
 have hbA:Below W.heap.size W ((W.alloc (.cells #[.slice q1 n1 c1,.slice q2 n2 c2,.slice q3 n3 c3,.slice q4 n4 c4,.slice q5 n5 c5] 27)).alloc (.cells #[.int .i64 0,.int .i64 0,.int .i64 0] 33)):=bl_al (bl_al (Below.refl _ _) _) _
 have j0:InB ((W.alloc (.cells #[.slice q1 n1 c1,.slice q2 n2 c2,.slice q3 n3 c3,.slice q4 n4 c4,.slice q5 n5 c5] 27)).alloc (.cells #[.int .i64 0,.int .i64 0,.int .i64 0] 33)) b1 #[.slice q1 n1 c1,.slice q2 n2 c2,.slice q3 n3 c3,.slice q4 n4 c4,.slice q5 n5 c5] 27:=(InB.new' _ _ hb).le (bl_al (Below.refl _ _) _)
 have j1:InB ((W.alloc (.cells #[.slice q1 n1 c1,.slice q2 n2 c2,.slice q3 n3 c3,.slice q4 n4 c4,.slice q5 n5 c5] 27)).alloc (.cells #[.int .i64 0,.int .i64 0,.int .i64 0] 33)) (b1+1) #[.int .i64 0,.int .i64 0,.int .i64 0] 33:=InB.new' _ _ (by simp [hb])
 generalize (W.alloc (.cells #[.slice q1 n1 c1,.slice q2 n2 c2,.slice q3 n3 c3,.slice q4 n4 c4,.slice q5 n5 c5] 27)).alloc (.cells #[.int .i64 0,.int .i64 0,.int .i64 0] 33)=w0 at *
 try rw [hb]
 obtain ⟨b2,hb2⟩:∃b,b1+1=b:=⟨_,rfl⟩
 rw [hb2] at j1
 try rw [hb2]
 have HBB:=hid (show W.heap.size≤b2 by omega)
 have HBA:=hid hbA
 have HJ0:=hid j0
 have HJ1:=hid j1
 clear hbA j0 j1 hb hb2
 obtain ⟨x0,x1,x2,x3,x4⟩:=five_cells' HJ0.out
 have l0:=HJ0.out.lt
 go_wp2_with fail
 refine (HCK.out _ HBA.out).mono ?_
 rintro e w1 ⟨rfl,hb1⟩
 unfold flA
 have HB1:=hid hb1
 clear hb1 x0 x1 x2 x3 x4 l0
 have HB2:=hid (bl_al HB1.out (.cells #[.int .i64 a,.int .i64 b,.int .i64 c] 33))
 have HI2:=hid (InB.new w1 #[.int .i64 a,.int .i64 b,.int .i64 c] 33)
 simp only
 go_upto_region 2 with fail
 obtain ⟨b3,hb3⟩:∃b,w1.heap.size=b:=⟨_,rfl⟩
 rw [hb3] at HI2
 try rw [hb3]
 clear hb3
 generalize w1.alloc (.cells #[.int .i64 a,.int .i64 b,.int .i64 c] 33)=w2 at *
 have r0:=HI2.out.cell (j:=0) (v:=.int .i64 a) rfl
 have r1:=HI2.out.cell (j:=1) (v:=.int .i64 b) rfl
 have r2:=HI2.out.cell (j:=2) (v:=.int .i64 c) rfl
 have l3:=HI2.out.lt
 have HY:=hid (HJ1.out.le HB2.out)
 have y0:=HY.out.cell (j:=0) (v:=.int .i64 0) rfl
 have y1:=HY.out.cell (j:=1) (v:=.int .i64 0) rfl
 have y2:=HY.out.cell (j:=2) (v:=.int .i64 0) rfl
 have f0:w2.frozen? ⟨b2,0,none⟩=false:=free_of HY.out
 have f1:w2.frozen? ⟨b2,1,none⟩=false:=free_of HY.out
 have f2:w2.frozen? ⟨b2,2,none⟩=false:=free_of HY.out
 by_cases hz:(a,b,c)=(0,0,0)
 ·simp only [Prod.mk.injEq] at hz
  obtain ⟨rfl,rfl,rfl⟩:=hz
  have HOK:=hid (fun f (hf:f<s.funcs.length)=>all_ok HCZ.out hf)
  have HLN:=hid (fun f (hf:f<s.funcs.length)=>levels_length HCZ.out hf)
  have HR0:=hid (HZ1.out rfl)
  have HWW:=hid (bl_tr HBA.out HB2.out)
  have k4:=(HJ0.out.le HB2.out).cell (j:=4) (v:=.slice q5 n5 c5) rfl
  have hl0:=(HJ0.out.le HB2.out).lt
  have hC0:=hid hC
  go_wp2_with fail
  clear k4 hl0 y0 y1 y2 r0 r1 r2 f0 f1 f2 l3 HY
  go_loopw [18] (fun i wr=>∃k:Nat,k≤n5∧i=.int .i64 k∧Hid (Below w2.heap.size w2 wr)∧Hid (R=resB (flowsF s (s.funcs.drop k) k))) (fun i _=>n5 - (intOf i).toNat)
  case atStart=>exact ⟨0,Nat.zero_le _,rfl,hid (Below.refl _ _),HR0⟩
  case round =>
   obtain ⟨k,hk,rfl,HB,HT⟩:=hrel
   have HW:=hid (bl_tr HWW.out HB.out)
   have HBX:=hid (bl_tr HB2.out HB.out)
   have h5b:n5≤1172812402928:=by have:=HL5.out;omega
   by_cases hlt:k<n5
   ·have hk1:k<s.funcs.length:=by rw [HN5.out];exact hlt
    obtain ⟨g,o,qp,cp,qr,cr,qv,cv,qb,cb,hq,a0,a1,a2,a3,a4,a5,hlv,hp,hrr,hv,hb⟩:=h.fn.cells k hk1
    have hle:=hC0.out.trans (below_cle HW.out)
    have z0:=hle _ _ a0
    have z1:=hle _ _ a1
    have z2:=hle _ _ a2
    have z3:=hle _ _ a3
    have z4:=hle _ _ a4
    have z5:=hle _ _ a5
    unfold wC at z0 z1 z2 z3 z4 z5
    have HBD:=hid hb.cells
    have hnb:=slx_len hb
    have HOK2:=hid (HOK.out k hk1)
    have HLN2:=hid (HLN.out k hk1)
    have HLT:=hid (fun j=>levelsZ_lt (s:=s) (f:=k) (HEL.out k) hk1 hlv j)
    have HNX:=hid (fun hh=>HT.out.trans (congrArg resB (flowsF_next hk1 hh)))
    have HHT:=hid (fun i hh=>HT.out.trans (congrArg resB (flowsF_hit (i:=i) hk1 hh)))
    have HBN:=hid (show badF s k s.funcs[k].body (levelsZ s k) 0=badF s k (s.funcs[k].body.drop 0) ((levelsZ s k).drop 0) 0 by rw [List.drop_zero,List.drop_zero])
    have HLL:=hid (fun w hw=>HLV.out w hw k (by rw [←HN5.out];exact hk1))
    obtain ⟨d,hd⟩:∃d,s.funcs[k]=d:=⟨_,rfl⟩
    obtain ⟨L,hL⟩:∃L,levelsZ s k=L:=⟨_,rfl⟩
    simp only [hd,hL] at HBD hnb HOK2 HLN2 HLT HNX HHT HBN HLL z0 z1 z2 z3 z4 z5
    clear a0 a1 a2 a3 a4 a5 hp hrr hv hb hle hlv hd hL
    generalize d.params.length=np at *
    generalize d.results.length=nr at *
    generalize d.vars.length=nv at *
    obtain ⟨nb,hnb2⟩:∃nb,d.body.length=nb:=⟨_,rfl⟩
    have HNB:=hid hnb2
    rw [hnb2] at z5 hnb HLN2
    clear hnb2
    rw [hq]
    rw [hq] at HLL
    have k4:=(HJ0.out.le HBX.out).cell (j:=4) (v:=.slice q5 n5 c5) rfl
    have hgz:=World.block_lt_of_cell? _ _ z0
    have hki:(k:Int)<(n5:Int):=by omega
    have HB3:=hid (bl_al HW.out (.cells #[.string d.name,.int .u64 (d.level:Nat),.slice qp np cp,.slice qr nr cr,.slice qv nv cv,.slice qb nb cb] 43))
    have HK3:=hid (bl_al HB.out (.cells #[.string d.name,.int .u64 (d.level:Nat),.slice qp np cp,.slice qr nr cr,.slice qv nv cv,.slice qb nb cb] 43))
    have HI3:=hid (InB.new wr #[.string d.name,.int .u64 (d.level:Nat),.slice qp np cp,.slice qr nr cr,.slice qv nv cv,.slice qb nb cb] 43)
    obtain ⟨w3,hw3⟩:∃w3,wr.alloc (.cells #[.string d.name,.int .u64 (d.level:Nat),.slice qp np cp,.slice qr nr cr,.slice qv nv cv,.slice qb nb cb] 43)=w3:=⟨_,rfl⟩
    rw [hw3] at HB3 HK3 HI3
    go_upto_region 7 with fail
    try rw [hw3]
    obtain ⟨b5,hb5⟩:∃b5,wr.heap.size=b5:=⟨_,rfl⟩
    rw [hb5] at HI3
    try rw [hb5]
    clear hw3 hb5 z0 z1 z2 z3 z4 z5 hgz k4
    have HJ3:=hid (HJ0.out.le (bl_tr HB2.out HK3.out))
    obtain ⟨x0,x1,x2,x3,x4⟩:=five_cells' HJ3.out
    have l0:=HJ3.out.lt
    rw [hq] at x4
    go_wp2_with fail
    go_at_call 11
    refine (HLL.out _ HB3.out).mono ?_
    rintro e w4 ⟨v4,rfl,hb4,ho4⟩
    rw [HLN2.out] at ho4
    obtain ⟨qL,cL,rfl⟩:=own_shape ho4
    have HB4:=hid (bl_tr HB3.out hb4)
    have HK4:=hid (bl_tr HK3.out hb4)
    have HI4:=hid (HI3.out.le hb4)
    have HJ4:=hid (HJ3.out.le hb4)
    have HO4:=hid ho4
    clear hb4 ho4 x0 x1 x2 x3 x4 l0 HI3 HJ3 HB3 HK3 HLL
    have z5:=HI4.out.cell (j:=5) (v:=.slice qb nb cb) rfl
    have hi4:=HI4.out.lt
    go_wp2_with fail
    clear z5 hi4
    go_loopw [29] (fun i wi=>∃j:Nat,j≤nb∧i=.int .i64 j∧Hid (Below w4.heap.size w4 wi)∧Hid (badF s k d.body L 0=badF s k (d.body.drop j) (L.drop j) j)) (fun i _=>nb - (intOf i).toNat)
    case atStart=>exact ⟨0,Nat.zero_le _,rfl,hid (Below.refl _ _),HBN⟩
    case round =>
     clear HBN
     obtain ⟨j,hj,rfl,HBI,HBN⟩:=hrel
     obtain ⟨V,h9⟩:∃w,w=wr:=⟨_,rfl⟩
     subst h9
     have HBV:=hid (bl_tr HB4.out HBI.out)
     by_cases hlj:j<nb
     ·have hj1:j<d.body.length:=by rw [HNB.out];exact hlj
      obtain ⟨gb,ob,qt,ct,qe,ce,hqb,a0,a1,a2,a3,ht,he⟩:=HBD.out j hj1
      have hle:=hC0.out.trans (below_cle HBV.out)
      have y0:=hle _ _ a0
      have y1:=hle _ _ a1
      have y2:=hle _ _ a2
      have y3:=hle _ _ a3
      unfold wC at y0 y1 y2 y3
      have hgb:=World.block_lt_of_cell? _ _ y0
      have HSL:=slx_len he
      have HEX:=hid (fun (w:World) (hw:Below W.heap.size W w)=>show ExW lt C w qe d.body[j].exprs from fun i hi=>by
       obtain ⟨g,o,q9,c9,e,b0,b1⟩:=he.cells i hi
       exact ⟨g,o,q9,c9,e,below_cle hw _ _ (hC0.out _ _ b0),b1⟩)
      have hLj:j<L.length:=by rw [HLN2.out];exact hlj
      have HN:=hid (fun hh=>HBN.out.trans (badF_next hj1 hLj hh))
      have HH:=hid (fun hh=>HBN.out.trans (badF_hit hj1 hLj hh))
      have HKX:=hid (fun w hw=>HKP.out w hw k d.body[j] qt ct qe ce (HEX.out w hw) (by omega) ht (HOK2.out.2 _ (List.getElem_mem hj1)) (L.getD j 0) (HLT.out j))
      have HRO:=hid (own_chg HO4.out (Below.chg HBI.out (Nat.le_refl _) (fun _=>False)) (fun _ _ e=>e))
      obtain ⟨gL,hqL,hcL⟩:=own_lab HRO.out hLj
      obtain ⟨lv,hlv⟩:∃lv,L.getD j 0=lv:=⟨_,rfl⟩
      rw [hlv] at HN HH HKX hcL
      clear a0 a1 a2 a3 ht he hle HEX HSL hlv HRO
      generalize keepsZ s k d.body[j] lv=kp at *
      obtain ⟨x,hx⟩:∃x,d.body[j]=x:=⟨_,rfl⟩
      rw [hx] at y0 y1 y2 y3 HKX
      clear hx
      obtain ⟨kd,xn,ts,es'⟩:=x
      simp only at y0 y1 y2 y3 HKX
      generalize ts.length=nt at *
      generalize es'.length=ne at *
      have hji:(j:Int)<(nb:Int):=by omega
      have hnbb:(nb:Int)<9223372036854775807:=by omega
      have HBX2:=hid (bl_al HBV.out (.cells #[.int .i64 kd,.string xn,.slice qt nt ct,.slice qe ne ce] 47))
      have HIX:=hid (InB.new V #[.int .i64 kd,.string xn,.slice qt nt ct,.slice qe ne ce] 47)
      have HJX:=hid ((HJ4.out.le HBI.out).le (bl_al (Below.refl _ _) (.cells #[.int .i64 kd,.string xn,.slice qt nt ct,.slice qe ne ce] 47)))
      have hcX:=below_cle (bl_al (Below.refl _ V) (.cells #[.int .i64 kd,.string xn,.slice qt nt ct,.slice qe ne ce] 47)) _ _ hcL
      unfold wC at hcX
      have HBY:=hid (bl_al HBI.out (.cells #[.int .i64 kd,.string xn,.slice qt nt ct,.slice qe ne ce] 47))
      obtain ⟨V2,hV2⟩:∃V2,V.alloc (.cells #[.int .i64 kd,.string xn,.slice qt nt ct,.slice qe ne ce] 47)=V2:=⟨_,rfl⟩
      obtain ⟨bx,hbx⟩:∃bx,V.heap.size=bx:=⟨_,rfl⟩
      rw [hV2] at HBX2 HIX HJX hcX HBY
      rw [hbx] at HIX
      subst hqb
      subst hqL
      go_upto_region 11 with fail
      try rw [hV2]
      try rw [hbx]
      clear hV2 hbx y0 y1 y2 y3 hgb hcL
      have x0:=cell_regrown (HJX.out.cell (j:=0) rfl)
      have x1:=cell_regrown (HJX.out.cell (j:=1) rfl)
      have x2:=cell_regrown (HJX.out.cell (j:=2) rfl)
      have x3:=cell_regrown (HJX.out.cell (j:=3) rfl)
      have x4:=cell_regrown (HJX.out.cell (j:=4) rfl)
      rw [hq] at x4 HKX
      have y0:=cell_regrown (HIX.out.cell (j:=0) rfl)
      have y1:=cell_regrown (HIX.out.cell (j:=1) rfl)
      have y2:=cell_regrown (HIX.out.cell (j:=2) rfl)
      have y3:=cell_regrown (HIX.out.cell (j:=3) rfl)
      have yL:=cell_regrown hcX
      have c1':∀d os,Calls Tryz.prog 23 #[.agg #[.slice q1 n1 c1,.slice q2 n2 c2,.slice q3 n3 c3,.slice q4 n4 c4,.slice (some ⟨g,o,none⟩) n5 c5],.int .i64 (k:Int),.agg #[.int .i64 kd,.string xn,.slice qt nt ct,.slice qe ne ce],.int .u64 (lv:Nat)] (grow (redrawn V2 d) os) fun e w''=>e=.returned (.bool kp)∧∃p:Regrown,w''=grow (redrawn V2 p.d) p.os:=fun d os=>Calls.regrown_of (HKX.out _ (HBX2.out.trans ((below_regrown V2 d os).mono HBX2.out.size)))
      clear HJX HIX hcX HKX
      refine wp_region_quiet_below (by kernel_rfl) (by kernel_rfl) ?_
      iterate 9 (go_big_quiet_step (exact c1' _ _))
      refine wpQuiet_nil ?_
      intro _ hw'
      obtain ⟨⟨dq,osq⟩,hw''⟩:=hw'
      subst hw''
      have HBZ:=hid (bl_tr HBY.out (below_regrown V2 dq osq))
      generalize grow (redrawn V2 dq) osq=V3 at HBZ ⊢
      clear c1' x0 x1 x2 x3 x4 y0 y1 y2 y3 yL
      cases kp with
      | true =>
       have HND:=hid (HN.out rfl)
       clear HN HH HHT HNX HLN2 HOK2 HLT HBN HNB HBD HO4 HLN HOK hq
       rename_i hK
       refine hK _ _ ?_
       clear hnbb hLj hj1 hji h hC hK
       go_wp2
       exact ⟨⟨j+1,by omega,by go_num,HBZ,HND⟩,by simp [intOf];omega⟩
      | false =>
       have HRR:=hid (HHT.out _ (HH.out rfl))
       have HY:=hid (HJ1.out.le (bl_tr HB2.out (bl_tr HK4.out HBZ.out)))
       have y0:=HY.out.cell (j:=0) (v:=.int .i64 0) rfl
       have y1:=HY.out.cell (j:=1) (v:=.int .i64 0) rfl
       have y2:=HY.out.cell (j:=2) (v:=.int .i64 0) rfl
       have f0:V3.frozen? ⟨b2,0,none⟩=false:=free_of HY.out
       have f1:V3.frozen? ⟨b2,1,none⟩=false:=free_of HY.out
       have f2:V3.frozen? ⟨b2,2,none⟩=false:=free_of HY.out
       have HWZ:=hid (bl_tr HB4.out HBZ.out)
       clear HN HH HHT HNX HLN2 HOK2 HLT HBN HNB HBD HO4 HLN HOK hq
       rename_i hK
       refine hK _ _ ?_
       clear hnbb hLj hj1 hji h hC hK
       go_wp2
       have hW:=heap_set (heap_set (heap_set HY.out 0 (.int .i64 80)) 1 (.int .i64 (k:Int))) 2 (.int .i64 (j:Int))
       have hbs:=HBB.out
       have hWB:=((HWZ.out.setCell (p:=⟨b2,0,none⟩) hbs (.int .i64 80)).setCell (p:=⟨b2,1,none⟩) hbs (.int .i64 (k:Int))).setCell (p:=⟨b2,2,none⟩) hbs (.int .i64 (j:Int))
       generalize ((V3.setCell _ _).setCell _ _).setCell _ _=wE at *
       have c0:=cell_of (j:=0) hW rfl
       have c1:=cell_of (j:=1) hW rfl
       have c2:=cell_of (j:=2) hW rfl
       exact bodyPost_ret (v:=.agg #[.int .i64 80,.int .i64 (k:Int),.int .i64 (j:Int)]) (by simp [results,Tryz.results10,go_sem,c0,c1,c2]) rfl ⟨by rw [HRR.out];rfl,hWB⟩
     ·obtain rfl:j=nb:=by omega
      have HEND:=hid (HNX.out (HBN.out.trans (badF_end (by rw [HNB.out];exact Nat.le_refl _))))
      go_wp2
      exact ⟨⟨k+1,by omega,by go_num,hid (bl_tr HK4.out HBI.out),HEND⟩,by simp [intOf];omega⟩
   ·obtain rfl:k=n5:=by omega
    have HRR:=hid (show R=(0,0,0) by rw [HT.out,List.drop_of_length_le (by rw [HN5.out];exact Nat.le_refl _)];rfl)
    have HY:=hid (HJ1.out.le HBX.out)
    have y0:=HY.out.cell (j:=0) (v:=.int .i64 0) rfl
    have y1:=HY.out.cell (j:=1) (v:=.int .i64 0) rfl
    have y2:=HY.out.cell (j:=2) (v:=.int .i64 0) rfl
    have f0:wr.frozen? ⟨b2,0,none⟩=false:=free_of HY.out
    have f1:wr.frozen? ⟨b2,1,none⟩=false:=free_of HY.out
    have f2:wr.frozen? ⟨b2,2,none⟩=false:=free_of HY.out
    go_wp2
    have hW:=heap_set (heap_set (heap_set HY.out 0 (.int .i64 0)) 1 (.int .i64 0)) 2 (.int .i64 0)
    have hbs:=HBB.out
    have hWB:=((HW.out.setCell (p:=⟨b2,0,none⟩) hbs (.int .i64 0)).setCell (p:=⟨b2,1,none⟩) hbs (.int .i64 0)).setCell (p:=⟨b2,2,none⟩) hbs (.int .i64 0)
    generalize ((wr.setCell _ _).setCell _ _).setCell _ _=wE at *
    have c0:=cell_of (j:=0) hW rfl
    have c1:=cell_of (j:=1) hW rfl
    have c2:=cell_of (j:=2) hW rfl
    exact bodyPost_ret (v:=.agg #[.int .i64 0,.int .i64 0,.int .i64 0]) (by simp [results,Tryz.results10,go_sem,c0,c1,c2]) rfl ⟨by rw [HRR.out];rfl,hWB⟩
 ·have HR:=hid (HZ.out hz)
  have hcase:(¬a=0)∨(a=0∧¬b=0)∨(a=0∧b=0∧¬c=0):=by
   by_cases ha:a=0
   ·by_cases hb0:b=0
    ·exact .inr (.inr ⟨ha,hb0,fun hc0=>hz (by rw [ha,hb0,hc0])⟩)
    ·exact .inr (.inl ⟨ha,hb0⟩)
   ·exact .inl ha
  clear hz HZ HLV HKP HZ1 HCZ
  rcases hcase with ha|⟨rfl,hb0⟩|⟨rfl,rfl,hc0⟩
  ·go_wp2
   have hW:=heap_set (heap_set (heap_set HY.out 0 (.int .i64 a)) 1 (.int .i64 b)) 2 (.int .i64 c)
   have hbs:=HBB.out
   have hWB:=(((bl_tr HBA.out HB2.out).setCell (p:=⟨b2,0,none⟩) hbs (.int .i64 a)).setCell (p:=⟨b2,1,none⟩) hbs (.int .i64 b)).setCell (p:=⟨b2,2,none⟩) hbs (.int .i64 c)
   generalize ((w2.setCell _ _).setCell _ _).setCell _ _=wE at *
   have c0:=cell_of (j:=0) hW rfl
   have c1:=cell_of (j:=1) hW rfl
   have c2:=cell_of (j:=2) hW rfl
   exact bodyPost_ret (v:=.agg #[.int .i64 a,.int .i64 b,.int .i64 c]) (by simp [results,Tryz.results10,go_sem,c0,c1,c2]) rfl ⟨by rw [HR.out];rfl,hWB⟩
  ·go_wp2
   have hW:=heap_set (heap_set (heap_set HY.out 0 (.int .i64 0)) 1 (.int .i64 b)) 2 (.int .i64 c)
   have hbs:=HBB.out
   have hWB:=(((bl_tr HBA.out HB2.out).setCell (p:=⟨b2,0,none⟩) hbs (.int .i64 0)).setCell (p:=⟨b2,1,none⟩) hbs (.int .i64 b)).setCell (p:=⟨b2,2,none⟩) hbs (.int .i64 c)
   generalize ((w2.setCell _ _).setCell _ _).setCell _ _=wE at *
   have c0:=cell_of (j:=0) hW rfl
   have c1:=cell_of (j:=1) hW rfl
   have c2:=cell_of (j:=2) hW rfl
   exact bodyPost_ret (v:=.agg #[.int .i64 0,.int .i64 b,.int .i64 c]) (by simp [results,Tryz.results10,go_sem,c0,c1,c2]) rfl ⟨by rw [HR.out];rfl,hWB⟩
  ·go_wp2
   have hW:=heap_set (heap_set (heap_set HY.out 0 (.int .i64 0)) 1 (.int .i64 0)) 2 (.int .i64 c)
   have hbs:=HBB.out
   have hWB:=(((bl_tr HBA.out HB2.out).setCell (p:=⟨b2,0,none⟩) hbs (.int .i64 0)).setCell (p:=⟨b2,1,none⟩) hbs (.int .i64 0)).setCell (p:=⟨b2,2,none⟩) hbs (.int .i64 c)
   generalize ((w2.setCell _ _).setCell _ _).setCell _ _=wE at *
   have c0:=cell_of (j:=0) hW rfl
   have c1:=cell_of (j:=1) hW rfl
   have c2:=cell_of (j:=2) hW rfl
   exact bodyPost_ret (v:=.agg #[.int .i64 0,.int .i64 0,.int .i64 c]) (by simp [results,Tryz.results10,go_sem,c0,c1,c2]) rfl ⟨by rw [HR.out];rfl,hWB⟩
end
end Go.Proofs.YtlpdjfimefjmcaaGreatDoor
