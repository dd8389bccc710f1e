/- The kit's lent source: it reads as what came in, with a mark behind each row, in memory of its own. (Written by a program.) -/
import Derived.Test.YtlpdjfimefjmcaaGreatDoorFlOpenPR4
open Go.Lib (hid)
namespace Go.Proofs.YtlpdjfimefjmcaaGreatDoor
open Go Go.RowKit Go.Proofs.Mm
set_option maxRecDepth 100000 in
set_option maxHeartbeats 8000000 in
theorem lentSource_any {w:World} {v:Value} {s:SoZ} (h:SrcR false (wC w) v s) {m:Mem} (hm:Has w m) :
 Calls Tryz.prog 9 #[v] w fun e w'=>∃v' m',e=.returned v'∧Below w.heap.size w w'∧m.More w m'∧Has w' m'∧SrcR true (mC m') v' s:=by
 obtain ⟨v1,v2,v3,v4,v5,rfl,h1,h2,h3,h4,h5⟩:=h
 obtain ⟨q1,c1,rfl⟩:=SlX.shape h1
 obtain ⟨q2,c2,rfl⟩:=SlX.shape h2
 obtain ⟨q3,c3,rfl⟩:=SlX.shape h3
 obtain ⟨q4,c4,rfl⟩:=SlX.shape h4
 obtain ⟨q5,c5,rfl⟩:=SlX.shape h5
 have hl5:=slx_len h5
 obtain ⟨n1,hn1⟩:∃n,s.principals.length=n:=⟨_,rfl⟩
 obtain ⟨n2,hn2⟩:∃n,s.globals.length=n:=⟨_,rfl⟩
 obtain ⟨n3,hn3⟩:∃n,s.arrays.length=n:=⟨_,rfl⟩
 obtain ⟨n4,hn4⟩:∃n,s.channels.length=n:=⟨_,rfl⟩
 obtain ⟨n5,hn5⟩:∃n,s.funcs.length=n:=⟨_,rfl⟩
 rw [hn1] at h1 ⊢
 rw [hn2] at h2 ⊢
 rw [hn3] at h3 ⊢
 rw [hn4] at h4 ⊢
 rw [hn5] at h5 hl5 ⊢
 obtain ⟨cs3,l3,hq3,hmc3,hcl3,hnw3,hon3,hmx3,hby3,he3⟩:=h3.take
 have H1:=hid (fun w' (hb:Below w.heap.size w w')=>show StrR false (wC w') (.slice q1 n1 c1) s.principals from StrR.le h1 (below_cle hb))
 have H2:=hid (fun w' (hb:Below w.heap.size w w')=>show DesR false (wC w') (.slice q2 n2 c2) s.globals from h2.le (below_cle hb))
 have H3:=hid (fun w' (hb:Below w.heap.size w w')=>show ∀ad,q3=some ad→∀j u,cs3[j]?=some u→w'.cell? (ad.add j)=some u from fun ad e j u hu=>below_cle hb _ _ (hnw3 ad e j u hu))
 have H4:=hid (fun w' (hb:Below w.heap.size w w')=>show DesR false (wC w') (.slice q4 n4 c4) s.channels from h4.le (below_cle hb))
 have HA5:=hid h5.cells
 have HN1:=hid hn1
 have HN2:=hid hn2
 have HN4:=hid hn4
 have HN5:=hid hn5
 have HE3:=hid he3
 have HL3:=hid l3
 have HM:=hid hm
 clear h1 h2 h3 h4 h5 hn1 hn2 hn3 hn4 hn5 he3 hnw3 l3 hm
 obtain ⟨i3,hi3,hz3,hs3,hbb3⟩:=infoAz
 obtain ⟨i5,hi5,hz5,hs5,hbb5⟩:=infoFz
 go_enter Tryz.func9,Tryz.ntmps9
 go_wp2_with fail
 obtain ⟨wA,hA⟩:∃wA,(w.alloc (.cells #[.slice q1 n1 c1,.slice q2 n2 c2,.slice q3 n3 c3,.slice q4 n4 c4,.slice q5 n5 c5] 27)).alloc (.cells #[.slice none 0 0,.slice none 0 0,.slice none 0 0,.slice none 0 0,.slice none 0 0] 27)=wA:=⟨_,rfl⟩
 have hbA:Below w.heap.size w wA:=by rw [←hA];exact ((Below.refl _ w).alloc (Nat.le_refl _) _).alloc (by simp) _
 have hszA:wA.heap.size=w.heap.size+1+1:=by rw [←hA];simp
 have hX1:wA.heap[w.heap.size+1]?=some (.cells #[.slice none 0 0,.slice none 0 0,.slice none 0 0,.slice none 0 0,.slice none 0 0] 27 (0,0)):=by
  have h9:=World.alloc_heap_new (w.alloc (.cells #[.slice q1 n1 c1,.slice q2 n2 c2,.slice q3 n3 c3,.slice q4 n4 c4,.slice q5 n5 c5] 27)) (.cells #[.slice none 0 0,.slice none 0 0,.slice none 0 0,.slice none 0 0,.slice none 0 0] 27)
  rwa [show (w.alloc (.cells #[.slice q1 n1 c1,.slice q2 n2 c2,.slice q3 n3 c3,.slice q4 n4 c4,.slice q5 n5 c5] 27)).heap.size=w.heap.size+1 by simp,hA] at h9
 have hX0:wA.heap[w.heap.size]?=some (.cells #[.slice q1 n1 c1,.slice q2 n2 c2,.slice q3 n3 c3,.slice q4 n4 c4,.slice q5 n5 c5] 27 (0,0)):=by rw [←hA];exact heap_new _ _ (World.alloc_heap_new _ _)
 rw [hA]
 obtain ⟨W1,hW1⟩:∃W1,wA.alloc (.cells #[.slice none 0 0,.slice none 0 0,.slice none 0 0,.slice none 0 0,.slice none 0 0] 27)=W1:=⟨_,rfl⟩
 have hK:Kp wA m (w.heap.size+1+1) #[.slice none 0 0,.slice none 0 0,.slice none 0 0,.slice none 0 0,.slice none 0 0] 27 W1 m:=by rw [←hW1,←hszA];exact Kp.start (has_grown HM.out hbA) _ _
 rw [hW1]
 clear hW1 hA
 have HBA:=hid (show ∀w',Below wA.heap.size wA w'→Below w.heap.size w w' from fun w' hb=>hbA.trans (hb.mono hbA.size))
 have HS:=hid (fun w' (hb:Below wA.heap.size wA w')=>show w'.cell? ⟨w.heap.size,0,none⟩=some (.slice q1 n1 c1)∧w'.cell? ⟨w.heap.size,1,none⟩=some (.slice q2 n2 c2)∧w'.cell? ⟨w.heap.size,2,none⟩=some (.slice q3 n3 c3)∧w'.cell? ⟨w.heap.size,3,none⟩=some (.slice q4 n4 c4)∧w'.cell? ⟨w.heap.size,4,none⟩=some (.slice q5 n5 c5) from by
  have hx:w'.heap[w.heap.size]?=_:=(hb.block _ (by omega)).trans hX0
  exact ⟨cell_of hx rfl,cell_of hx rfl,cell_of hx rfl,cell_of hx rfl,cell_of hx rfl⟩)
 have HX1:=hid (fun w' (hb:Below wA.heap.size wA w')=>(hb.block (w.heap.size+1) (by omega)).trans hX1)
 have HSZ:=hid hszA
 clear hX0 hX1 hszA
 go_at_call 19
 refine (lentStrings_any (H1.out _ (HBA.out _ hK.below)) hK.has).mono ?_
 rintro e w2 ⟨x1,m1,rfl,hb2,hmo2,hH2,hS1⟩
 obtain ⟨p1,d1,rfl⟩:=SlX.shape hS1
 rw [HN1.out] at hS1 ⊢
 have HS1:=hid hS1
 have hK1:=hK.step hb2 hmo2 hH2
 clear hK hS1 hb2 hmo2 hH2
 have HK1:=hid (hK1.set 0 (.slice p1 n1 d1))
 have f0:=hK1.free 0
 have g0:=hK1.cell (i:=0) rfl
 have s1:=(HS.out _ hK1.below).2.1
 have hle1:=hK1.below.size
 clear hK1
 go_wp2_with fail
 go_at_call 20
 refine (lentDecls_any (H2.out _ (HBA.out _ HK1.out.below)) HK1.out.has).mono ?_
 rintro e w3 ⟨x2,m2,rfl,hb3,hmo3,hH3,hS2⟩
 obtain ⟨p2,d2,rfl⟩:=SlX.shape hS2
 rw [HN2.out] at hS2 ⊢
 have HS2:=hid hS2
 have hK2:=HK1.out.step hb3 hmo3 hH3
 have HLE2:=hid hmo3.le
 clear hS2 hb3 hmo3 hH3 f0 g0 s1 hle1 HK1
 have HK2:=hid (hK2.set 1 (.slice p2 n2 d2))
 have f1:=hK2.free 1
 have g1:=hK2.cell (i:=1) rfl
 have s3:=(HS.out _ hK2.below).2.2.2.1
 clear hK2
 go_wp2_with fail
 go_at_call 20
 refine (lentDecls_any (H4.out _ (HBA.out _ HK2.out.below)) HK2.out.has).mono ?_
 rintro e w4 ⟨x4,m3,rfl,hb4,hmo4,hH4,hS4⟩
 obtain ⟨p4,d4,rfl⟩:=SlX.shape hS4
 rw [HN4.out] at hS4 ⊢
 have HS4:=hid hS4
 have hK3:=HK2.out.step hb4 hmo4 hH4
 have HLE3:=hid hmo4.le
 clear hS4 hb4 hmo4 hH4 f1 g1 s3 HK2
 have HK3:=hid (hK3.set 3 (.slice p4 n4 d4))
 have f3:=hK3.free 3
 have g3:=hK3.cell (i:=3) rfl
 obtain ⟨u3,hu3⟩:∃u3,Value.slice q3 n3 c3=u3:=⟨_,rfl⟩
 have HU3:=hid hu3.symm
 have s2:=(HS.out _ hK3.below).2.2.1
 rw [hu3] at s2
 clear hu3
 clear hK3
 go_wp2_with (at_builtin;refine wpList_append_rd rfl _ _ 24 rfl 39 i3 _ 3 32 und_ars hi3 hz3 hs3 hbb3 rfl (by decide) rfl q3 n3 c3 cs3 HU3.out hq3 hmc3 hcl3 (H3.out _ (HBA.out _ HK3.out.below)) hon3 hmx3 (by omega) ?_)
 intro q' c' w5 hR5 hb5
 clear f3 g3 s2
 obtain ⟨W4,hW4⟩:∃W4,w4.setCell ⟨w.heap.size+1+1,3,none⟩ (.slice p4 n4 d4)=W4:=⟨_,rfl⟩
 have hWs:w4.heap.size=W4.heap.size:=by rw [←hW4];simp
 rw [hW4] at HK3 hb5
 rw [hWs] at hR5 hb5
 clear hW4 hWs
 have hnew:=row_new w5 (mkA true) 39
 have hone:∀u∈mkA true,u.oneCell'=true:=by intro u hu;simp only [mkA,if_true,List.mem_cons,List.not_mem_nil,or_false] at hu;rcases hu with rfl|rfl|rfl <;> rfl
 have hz5:=hb5.size
 go_wp2_with (at_builtin;refine wpList_append_own_at _ rfl _ _ 24 rfl W4.heap.size 39 i3 _ 3 32 und_ars hi3 hz3 hs3 hbb3 rfl (by decide) _ n3 cs3 rfl (hR5.alloc _) ⟨w5.heap.size,0,none⟩ 1 1 (mkA true) rfl rfl hnew hone (by unfold maxLen;omega) (by omega) (by simp;omega) ?_)
 intro v6 w6 hR6 hg6 _ _
 obtain ⟨p3,d3,rfl⟩:=own_shape hR6
 have hb6:Below W4.heap.size W4 w6:=grown_below (hb5.alloc hz5 _) (by simp;omega) hg6 (fun j hj=>(hR5.lt j hj).1)
 have hcap:n3+1≤d3:=by
  rcases hR6.2 with ⟨_,h0⟩|⟨g',cap',cur,h0,_,_,h1,_,_⟩
  ·omega
  ·injection h0 with _ _ h4
   omega
 obtain ⟨m4,hmo6,hH6,hS3⟩:=lent_done (w:=W4) (bs:=32) (R:=fun _=>(fun c s=>c=arZv s∧s.label<u64B)) (has_grown HK3.out.has hb6) (fun k hk=>HK3.out.has.lt (hR6.lt k hk).1) hR6 HL3.out HE3.out (fun _ _ _ _ _ h=>h) hby3
 have HS3:=hid (show ArsR true (mC m4) (.slice p3 n3 d3) s.arrays from hS3)
 have hK4:=HK3.out.step hb6 hmo6 hH6
 have HLE4:=hid hmo6.le
 clear hS3 hb6 hmo6 hH6 hg6 hR6 hR5 hnew hone hz5 hb5 HK3
 have HK4:=hid (hK4.set 2 (.slice p3 n3 d3))
 have f2:=hK4.free 2
 have g2:=hK4.cell (i:=2) rfl
 have s2:=(HS.out _ hK4.below).2.2.1
 clear hK4
 go_wp2_with fail
 clear f2 g2 s2
 obtain ⟨W5,hW5⟩:∃W5,w6.setCell ⟨w.heap.size+1+1,2,none⟩ (.slice p3 n3 d3)=W5:=⟨_,rfl⟩
 rw [hW5] at HK4
 try rw [hW5]
 clear hW5
 have HW5:=hid (show ∀w',Below W5.heap.size W5 w'→Below wA.heap.size wA w' from fun w' hb=>HK4.out.below.trans (hb.mono HK4.out.below.size))
 go_loopw [5,6] (RwI 43 6 (fun m=>FnR1 true (mC m)) W5 m4 n5 s.funcs) (fun _ i _=>n5 - (intOf i).toNat)
 case atStart=>exact RwI.start HK4.out.has
 case round =>
  obtain ⟨k,qF,cF,cs,mm,hk,rfl,rfl,HF,HE,HM1,HMo,HFr,HB⟩:=hrel
  generalize wr=V at *
  have HBW:=hid (HW5.out _ HB.out)
  have s4:=(HS.out _ HBW.out).2.2.2.2
  by_cases hlt:k<n5
  ·have hkl:k<s.funcs.length:=by rw [HN5.out];exact hlt
   obtain ⟨g,o,qp,cp,qr,cr,qv,cv,qb,cb,rfl,a0,a1,a2,a3,a4,a5,hfl⟩:=HA5.out k hkl
   have hle:=below_cle (HBA.out _ HBW.out)
   have x0:=hle _ _ a0
   have x1:=hle _ _ a1
   have x2:=hle _ _ a2
   have x3:=hle _ _ a3
   have x4:=hle _ _ a4
   have x5:=hle _ _ a5
   unfold wC at x0 x1 x2 x3 x4 x5
   clear a0 a1 a2 a3 a4 a5 hle
   have HBV:=hid (show ∀w',Below V.heap.size V w'→Below w.heap.size w w' from fun w' hb=>HBA.out _ (HBW.out.trans (hb.mono HBW.out.size)))
   obtain ⟨hlv,hp,hr,hv,hbd⟩:=hfl
   obtain ⟨d,hd⟩:∃d,s.funcs[k]=d:=⟨_,rfl⟩
   rw [hd] at x0 x1 x2 x3 x4 x5 hlv hp hr hv hbd
   have HDD:=hid hd
   clear hd
   obtain ⟨np,hnp⟩:∃n,d.params.length=n:=⟨_,rfl⟩
   obtain ⟨nr,hnr⟩:∃n,d.results.length=n:=⟨_,rfl⟩
   obtain ⟨nv,hnv⟩:∃n,d.vars.length=n:=⟨_,rfl⟩
   obtain ⟨nb,hnb⟩:∃n,d.body.length=n:=⟨_,rfl⟩
   rw [hnp] at x2 hp
   rw [hnr] at x3 hr
   rw [hnv] at x4 hv
   rw [hnb] at x5 hbd
   obtain ⟨nm,hnm⟩:∃n,d.name=n:=⟨_,rfl⟩
   obtain ⟨lv,hlvl⟩:∃n,d.level=n:=⟨_,rfl⟩
   rw [hnm] at x0
   rw [hlvl] at x1
   have HP:=hid hp
   have HR:=hid hr
   have HV:=hid hv
   have HBD:=hid hbd
   have HNP:=hid hnp
   have HNR:=hid hnr
   have HNV:=hid hnv
   have HNB:=hid hnb
   have HNM:=hid hnm
   have HLV:=hid hlvl
   have HLU:=hid hlv
   clear hp hr hv hbd hnp hnr hnv hnb hnm hlvl hlv
   have hglt:g<V.heap.size:=World.block_lt_of_cell? _ _ x0
   have hki:(k:Int)<(n5:Int):=by omega
   go_wp2_with fail
   obtain ⟨W6,hW6⟩:∃W6,V.alloc (.cells #[.string nm,.int .u64 (lv:Nat),.slice qp np cp,.slice qr nr cr,.slice qv nv cv,.slice qb nb cb] 43)=W6:=⟨_,rfl⟩
   have HP0:=hid (show Kp V mm V.heap.size #[.string nm,.int .u64 (lv:Nat),.slice qp np cp,.slice qr nr cr,.slice qv nv cv,.slice qb nb cb] 43 W6 mm by rw [←hW6];exact Kp.start HM1.out _ _)
   rw [hW6]
   clear hW6 x0 x1 x2 x3 x4 x5 hglt s4
   go_at_call 20
   refine (lentDecls_any (HP.out.le (below_cle (HBV.out _ HP0.out.below))) HP0.out.has).mono ?_
   rintro e y1 ⟨x,e1,rfl,hb,hmo,hH,hS⟩
   obtain ⟨pp,dp,rfl⟩:=SlX.shape hS
   rw [HNP.out] at hS ⊢
   have HR1:=hid hS
   have hP:=HP0.out.step hb hmo hH
   have HLF1:=hid hmo.le
   clear hS hb hmo hH
   have HP1:=hid (hP.set 2 (.slice pp np dp))
   have ff:=hP.free 2
   have gg:=hP.cell (i:=2) rfl
   have jj:=hP.cell (i:=3) rfl
   have hle:=hP.below.size
   clear hP
   go_wp2_with fail
   clear ff gg hle jj
   go_at_call 21
   refine (lentLabels_any (HR.out.le (below_cle (HBV.out _ HP1.out.below))) HP1.out.has).mono ?_
   rintro e y2 ⟨x,e2,rfl,hb,hmo,hH,hS⟩
   obtain ⟨pr,dr,rfl⟩:=SlX.shape hS
   rw [HNR.out] at hS ⊢
   have HR2:=hid hS
   have hP:=HP1.out.step hb hmo hH
   have HLF2:=hid hmo.le
   clear hS hb hmo hH
   have HP2:=hid (hP.set 3 (.slice pr nr dr))
   have ff:=hP.free 3
   have gg:=hP.cell (i:=3) rfl
   have jj:=hP.cell (i:=4) rfl
   have hle:=hP.below.size
   clear hP
   go_wp2_with fail
   clear ff gg hle jj
   go_at_call 20
   refine (lentDecls_any (HV.out.le (below_cle (HBV.out _ HP2.out.below))) HP2.out.has).mono ?_
   rintro e y3 ⟨x,e3,rfl,hb,hmo,hH,hS⟩
   obtain ⟨pv,dv,rfl⟩:=SlX.shape hS
   rw [HNV.out] at hS ⊢
   have HR3:=hid hS
   have hP:=HP2.out.step hb hmo hH
   have HLF3:=hid hmo.le
   clear hS hb hmo hH
   have HP3:=hid (hP.set 4 (.slice pv nv dv))
   have ff:=hP.free 4
   have gg:=hP.cell (i:=4) rfl
   have jj:=hP.cell (i:=5) rfl
   have hle:=hP.below.size
   clear hP
   go_wp2_with fail
   clear ff gg hle jj
   go_at_call 22
   refine (lentStmts_any (HBD.out.le (below_cle (HBV.out _ HP3.out.below))) HP3.out.has).mono ?_
   rintro e y4 ⟨x,e4,rfl,⟨gb,db,rfl⟩,hb,hmo,hH,hS⟩
   rw [HNB.out] at hS ⊢
   have HR4:=hid hS
   have hP:=HP3.out.step hb hmo hH
   have HLF4:=hid hmo.le
   clear hS hb hmo hH
   have HP4:=hid (hP.set 5 (.slice (some ⟨gb,0,none⟩) nb db))
   have ff:=hP.free 5
   have gg:=hP.cell (i:=5) rfl
   have hle:=hP.below.size
   clear hP
   obtain ⟨W7,hW7⟩:∃W7,y4.setCell ⟨V.heap.size,5,none⟩ (.slice (some ⟨gb,0,none⟩) nb db)=W7:=⟨_,rfl⟩
   rw [hW7] at HP4
   have t0:W7.cell? ⟨V.heap.size,0,none⟩=some (.string nm):=HP4.out.cell rfl
   have t1:W7.cell? ⟨V.heap.size,1,none⟩=some (.int .u64 (lv:Nat)):=HP4.out.cell rfl
   have t2:W7.cell? ⟨V.heap.size,2,none⟩=some (.slice pp np dp):=HP4.out.cell rfl
   have t3:W7.cell? ⟨V.heap.size,3,none⟩=some (.slice pr nr dr):=HP4.out.cell rfl
   have t4:W7.cell? ⟨V.heap.size,4,none⟩=some (.slice pv nv dv):=HP4.out.cell rfl
   have t5:W7.cell? ⟨V.heap.size,5,none⟩=some (.slice (some ⟨gb,0,none⟩) nb db):=HP4.out.cell rfl
   have hrow:=own_chg HF.out (Below.chg HP4.out.below (Nat.le_refl _) (fun _=>False)) (fun _ _ e=>e)
   have hnew:=row_new W7 [.string nm,.int .u64 (lv:Nat),.slice pp np dp,.slice pr nr dr,.slice pv nv dv,.slice (some ⟨gb,0,none⟩) nb db] 43
   have hone:∀u∈[Value.string nm,.int .u64 (lv:Nat),.slice pp np dp,.slice pr nr dr,.slice pv nv dv,.slice (some ⟨gb,0,none⟩) nb db],u.oneCell'=true:=by
    intro u hu
    simp only [List.mem_cons,List.not_mem_nil,or_false] at hu
    rcases hu with rfl|rfl|rfl|rfl|rfl|rfl <;> rfl
   have hs7:=HP4.out.below.size
   have hs6:=HB.out.size
   go_wp2_with (at_builtin;refine wpList_append_own_at _ rfl _ _ 25 rfl W5.heap.size 43 i5 _ 6 120 und_fns hi5 hz5 hs5 hbb5 rfl (by decide) _ _ _ rfl (hrow.alloc _) ⟨W7.heap.size,0,none⟩ 1 1 [.string nm,.int .u64 (lv:Nat),.slice pp np dp,.slice pr nr dr,.slice pv nv dv,.slice (some ⟨gb,0,none⟩) nb db] rfl rfl hnew hone (by unfold maxLen;omega) (by omega) (by simp;omega) ?_)
   intro v10 w10 hR10 hg10 _ hat
   obtain ⟨q10,c10,rfl,r1,r2,r3,r4,r5,r6⟩:=rw_step hkl HE.out HMo.out HFr.out HB.out HF.out HP4.out.below HP4.out.more HP4.out.has fnR_mono (by
    rw [HDD.out]
    refine ⟨_,_,_,_,by rw [HNM.out,HLV.out],HLU.out,HR1.out.le (mle_cle (HLF2.out.trans (HLF3.out.trans HLF4.out))),HR2.out.le (mle_cle (HLF3.out.trans HLF4.out)),HR3.out.le (mle_cle HLF4.out),HR4.out⟩) hR10 hg10 (by simpa using hat)
   clear hR10 hg10 hat hrow t0 t1 t2 t3 t4 t5 hnew hone hs7 hs6
   go_wp2_with fail
   exact ⟨⟨k+1,q10,c10,_,e4,by omega,by go_num,rfl,r1,r2,r3,r4,r5,r6⟩,by simp [intOf];omega⟩
  ·obtain rfl:k=n5:=by omega
   have hrow:=HF.out
   have hnew:=row_new V (mkF true) 43
   have hone:∀u∈mkF true,u.oneCell'=true:=by intro u hu;simp only [mkF,if_true,List.mem_cons,List.not_mem_nil,or_false] at hu;rcases hu with rfl|rfl|rfl|rfl|rfl|rfl <;> rfl
   have hws:=HB.out.size
   go_wp2_with (at_builtin;refine wpList_append_own_at _ rfl _ _ 25 rfl W5.heap.size 43 i5 _ 6 120 und_fns hi5 hz5 hs5 hbb5 rfl (by decide) _ _ _ rfl (hrow.alloc _) ⟨V.heap.size,0,none⟩ 1 1 (mkF true) rfl rfl hnew hone (by unfold maxLen;omega) (by omega) (by simp;omega) ?_)
   intro v2 w8 hR2 hg2 _ hat
   obtain ⟨p5,d5,rfl,hcap5,-,HD,HB2⟩:=rw_end (m:=m4) HN5.out HE.out HMo.out HFr.out HB.out hrow HM1.out fnR_mono hR2 hg2 (by simpa using hat) hl5
   clear hg2 hR2 hrow hat s4 hnew hone hws
   obtain ⟨m5,hmo,hH,hS⟩:=HD.out
   have hK5:=HK4.out.step HB2.out hmo hH
   have HLE5:=hid hmo.le
   have HS5:=hid (show FnsR true (mC m5) (.slice p5 k d5) s.funcs from hS)
   clear hmo hH hS HD
   have HK5:=hid (hK5.set 4 (.slice p5 k d5))
   have f4:=hK5.free 4
   have g4:=hK5.cell (i:=4) rfl
   have s4:=(HS.out _ hK5.below).2.2.2.2
   have j0:=hK5.cell (i:=0) rfl
   have j1:=hK5.cell (i:=1) rfl
   have j2:=hK5.cell (i:=2) rfl
   have j3:=hK5.cell (i:=3) rfl
   have hx1:=HX1.out _ hK5.below
   have k0:=cell_of (j:=0) hx1 rfl
   have k1:=cell_of (j:=1) hx1 rfl
   have k2:=cell_of (j:=2) hx1 rfl
   have k3:=cell_of (j:=3) hx1 rfl
   have k4:=cell_of (j:=4) hx1 rfl
   have l0:=free_of (j:=0) hx1
   have l1:=free_of (j:=1) hx1
   have l2:=free_of (j:=2) hx1
   have l3:=free_of (j:=3) hx1
   have l4:=free_of (j:=4) hx1
   clear hK5
   go_wp2
   (try simp only [Exit.inBlock,Exit.then])
   obtain ⟨d9,u1,u2⟩:=undSo
   have hx2:=heap_other (b:=w.heap.size+1+1) (j:=4) (v:=.slice p5 k d5) hx1 (by omega)
   have hx3:=heap_set (heap_set (heap_set (heap_set (heap_set hx2 0 (.slice p1 n1 d1)) 1 (.slice p2 n2 d2)) 2 (.slice p3 n3 d3)) 3 (.slice p4 n4 d4)) 4 (.slice p5 k d5)
   refine bodyPost_ret (results_cell_row rfl _ _ (w.heap.size+1) 27 _ (0,0) d9 rfl hx3 u1 (by cases d9 <;> first|rfl|cases u2) sizeSo) rfl ?_
   have h0:m5 (w.heap.size+1)=none:=HK5.out.more.new _ (HM.out.lt (by omega)) (by rw [HSZ.out];omega)
   have st:∀(W:World) i v,Has W m5→Has (W.setCell ⟨w.heap.size+1,i,none⟩ v) m5:=fun W i v h=>h.chg ((Chg.refl (fun k=>k=w.heap.size+1) W).setCell (.inl rfl) v) (fun k e=>by rw [e];exact h0)
   have hq:w.heap.size≤w.heap.size+1:=Nat.le_succ _
   refine ⟨_,m5,rfl,?_,HK5.out.more.from (by rw [HSZ.out];omega),st _ 4 _ (st _ 3 _ (st _ 2 _ (st _ 1 _ (st _ 0 _ HK5.out.has)))),?_⟩
   ·exact (((((HBA.out _ HK5.out.below).setCell hq _).setCell hq _).setCell hq _).setCell hq _).setCell hq _
   ·show SrcR true (mC m5) (.agg #[.slice p1 n1 d1,.slice p2 n2 d2,.slice p3 n3 d3,.slice p4 n4 d4,.slice p5 k d5]) s
    have hL4:=HLE5.out
    have hL3:=HLE4.out.trans hL4
    have hL2:=HLE3.out.trans hL3
    have hL1:=HLE2.out.trans hL2
    exact ⟨_,_,_,_,_,rfl,StrR.le HS1.out (mle_cle hL1),HS2.out.le (mle_cle hL2),HS3.out.le (mle_cle hL4),HS4.out.le (mle_cle hL3),HS5.out⟩
end Go.Proofs.YtlpdjfimefjmcaaGreatDoor
