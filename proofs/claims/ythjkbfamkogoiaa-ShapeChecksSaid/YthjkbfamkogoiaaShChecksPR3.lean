/- The kit's lent module. The kit's kept module. Package shape's small calls, in every memory. How many locals: package shape's and the document's. -/
import Derived.Test.YthjkbfamkogoiaaShChecksPR2
import Derived.Laws.StructEq
import Derived.BigQuiet
import Derived.IntWalk
namespace Go.Proofs.Ythjkbfamkogoiaa
open Go Go.RowKit Go.Proofs.Mm
theorem be_drew {n:Nat} {a w:World} (h:Below n a w):Below n a w.drew:=⟨h.os,h.tape,h.output,h.size,h.block⟩
theorem be_le {a w w':World} (h:Below a.heap.size a w) (k:Below w.heap.size w w'):Below a.heap.size a w':=h.trans (k.mono h.size)
set_option maxRecDepth 100000 in
set_option maxHeartbeats 8000000 in
theorem lentModule_any {w:World} {v:Value} {s:MoM} (h:MoR false (wC w) v s) {m:Mem} (hm:Has w m) :
    Calls Try.prog 7 #[v] w fun e w'=>∃ v' m',e=.returned v'∧Below w.heap.size w w'∧m.More w m'∧Has w' m'∧MoR true (mC m') v' s:=by
  obtain ⟨v1,v2,v3,v4,rfl,h1,h2,h3,h4⟩:=h
  obtain ⟨q1,c1,rfl⟩:=slx_shape h1
  obtain ⟨q2,c2,rfl⟩:=slx_shape h2
  obtain ⟨q3,c3,rfl⟩:=slx_shape h3
  obtain ⟨q4,c4,rfl⟩:=slx_shape h4
  have hl4:=slx_bytes h4
  obtain ⟨n1,hn1⟩:∃ n,s.globals.length=n:=⟨_,rfl⟩
  obtain ⟨n2,hn2⟩:∃ n,s.arrays.length=n:=⟨_,rfl⟩
  obtain ⟨n3,hn3⟩:∃ n,s.channels.length=n:=⟨_,rfl⟩
  obtain ⟨n4,hn4⟩:∃ n,s.funcs.length=n:=⟨_,rfl⟩
  rw [hn1] at h1 ⊢
  rw [hn2] at h2 ⊢
  rw [hn3] at h3 ⊢
  rw [hn4] at h4 hl4 ⊢
  obtain ⟨cs2,l2,hq2,hmc2,hcl2,hnw2,hon2,hmx2,hby2,he2⟩:=h2.take
  have H1:=Lib.hid (fun w' (hb:Below w.heap.size w w')=>show LasR false (wC w') (.slice q1 n1 c1) s.globals from h1.le (below_cle hb))
  have H2:=Lib.hid (fun w' (hb:Below w.heap.size w w')=>show ∀ ad,q2=some ad→∀ j u,cs2[j]?=some u→w'.cell? (ad.add j)=some u from fun ad e j u hu=>below_cle hb _ _ (hnw2 ad e j u hu))
  have H3:=Lib.hid (fun w' (hb:Below w.heap.size w w')=>show LasR false (wC w') (.slice q3 n3 c3) s.channels from h3.le (below_cle hb))
  have HA4:=Lib.hid h4.cells
  have HN1:=Lib.hid hn1
  have HN3:=Lib.hid hn3
  have HN4:=Lib.hid hn4
  have HE2:=Lib.hid he2
  have HL2:=Lib.hid l2
  have HM:=Lib.hid hm
  clear h1 h2 h3 h4 hn1 hn2 hn3 hn4 he2 hnw2 l2 hm
  obtain ⟨i2,hi2,hz2,hs2,hbb2⟩:=infoA
  obtain ⟨i5,hi5,hz5,hs5,hbb5⟩:=infoFn
  go_enter Try.func7,Try.ntmps7
  obtain ⟨u2,hu2⟩:∃ u2,Value.slice q2 n2 c2=u2:=⟨_,rfl⟩
  have HU2:=Lib.hid hu2.symm
  rw [hu2]
  clear hu2
  go_wp2_with (at_builtin;refine wpList_append_rd rfl _ _ 23 rfl 49 i2 _ 2 16 und_A hi2 hz2 hs2 hbb2 rfl (by decide) rfl q2 n2 c2 cs2 HU2.out hq2 hmc2 hcl2 (H2.out _ (((Below.refl _ w).alloc (Nat.le_refl _) _).alloc (by simp) _)) hon2 hmx2 (by omega) ?_)
  intro q' c' w5 hR5 hb5
  obtain ⟨wA,hA⟩:∃ wA,(w.alloc (.cells #[.slice q1 n1 c1,u2,.slice q3 n3 c3,.slice q4 n4 c4] 26)).alloc (.cells #[.slice none 0 0,.slice none 0 0,.slice none 0 0,.slice none 0 0] 26)=wA:=⟨_,rfl⟩
  have hszA:wA.heap.size=w.heap.size+1+1:=by rw [← hA];simp
  have HK0:=Lib.hid (show Kp w m w.heap.size #[.slice q1 n1 c1,u2,.slice q3 n3 c3,.slice q4 n4 c4] 26 wA m by rw [← hA];exact (Kp.start HM.out _ _).step ((Below.refl _ _).alloc (Nat.le_refl _) _) (Mem.More.refl _ _) (has_grown (Kp.start HM.out _ _).has ((Below.refl _ _).alloc (Nat.le_refl _) _)))
  have HZ0:=Lib.hid (show Kp w m (w.heap.size+1) #[.slice none 0 0,.slice none 0 0,.slice none 0 0,.slice none 0 0] 26 wA m from by
    refine ⟨HK0.out.below,HK0.out.has,HK0.out.more,Nat.le_succ _,?_,HM.out.lt (Nat.le_succ _)⟩
    have h9:=World.alloc_heap_new (w.alloc (.cells #[.slice q1 n1 c1,u2,.slice q3 n3 c3,.slice q4 n4 c4] 26)) (.cells #[.slice none 0 0,.slice none 0 0,.slice none 0 0,.slice none 0 0] 26)
    rwa [show (w.alloc (.cells #[.slice q1 n1 c1,u2,.slice q3 n3 c3,.slice q4 n4 c4] 26)).heap.size=w.heap.size+1 by simp,hA] at h9)
  have HSZ:=Lib.hid hszA
  rw [hA] at hb5
  rw [← hszA] at hR5 hb5
  clear hA hszA
  have hnew:=row_new w5 (mkA true) 49
  have hone:∀ u ∈ mkA true,u.oneCell'=true:=by intro u hu;simp only [mkA,if_true,List.mem_cons,List.not_mem_nil,or_false] at hu;rcases hu with rfl | rfl <;> rfl
  have hz5':=hb5.size
  go_wp2_with (at_builtin;refine wpList_append_own_at _ rfl _ _ 23 rfl wA.heap.size 49 i2 _ 2 16 und_A hi2 hz2 hs2 hbb2 rfl (by decide) _ n2 cs2 rfl (hR5.alloc _) ⟨w5.heap.size,0,none⟩ 1 1 (mkA true) rfl rfl hnew hone (by unfold maxLen;omega) (by omega) (by simp;omega) ?_)
  intro v6 w6 hR6 hg6 _ _
  obtain ⟨p2,d2,rfl⟩:=own_shape hR6
  have hb6:Below wA.heap.size wA w6:=grown_below (hb5.alloc hz5' _) (by simp;omega) hg6 (fun j hj=>(hR5.lt j hj).1)
  have hcap:n2+1≤d2:=by
    rcases hR6.2 with ⟨_,h0⟩ | ⟨g',cap',cur,h0,_,_,h1,_,_⟩
    · omega
    · injection h0 with _ _ h4
      omega
  obtain ⟨m4,hmo6,hH6,hS2⟩:=lent_done (w:=wA) (bs:=16) (R:=fun _=>arR) (has_grown HK0.out.has hb6) (fun k hk=>HK0.out.has.lt (hR6.lt k hk).1) hR6 HL2.out HE2.out (fun _ _ _ _ _ h=>h) hby2
  have HS2:=Lib.hid (show ArsR true (mC m4) (.slice p2 n2 d2) s.arrays from hS2)
  have HK1:=Lib.hid (HK0.out.step hb6 hmo6 hH6)
  have HZ1:=Lib.hid (HZ0.out.step hb6 hmo6 hH6)
  have hw6:=HK1.out.below.size
  clear hS2 hb6 hmo6 hH6 hg6 hR6 hR5 hnew hone hz5' hb5 HK0 HZ0
  go_wp2_with fail
  go_loopw [4,5] (RwI 45 6 (fun m=>FnR1 true (mC m)) w6 m4 n4 s.funcs) (fun _ i _=>n4 - (intOf i).toNat)
  case atStart=>exact RwI.start HK1.out.has
  case round =>
    obtain ⟨k,qF,cF,cs,mm,hk,rfl,rfl,HF,HE,HM1,HMo,HFr,HB⟩:=hrel
    generalize wr=V at *
    have hKV:=HK1.out.step HB.out HMo.out HM1.out
    have s3:=hKV.cell (i:=3) rfl
    by_cases hlt:k<n4
    · have hkl:k<s.funcs.length:=by rw [HN4.out];exact hlt
      obtain ⟨g,o,vp,vr,vc,rfl,hfl,a0,a1,a2,a3,a4,a5⟩:=HA4.out k hkl
      have hle:=below_cle hKV.below
      have x0:=hle _ _ a0
      have x1:=hle _ _ a1
      have x2:=hle _ _ a2
      have x3:=hle _ _ a3
      have x4:=hle _ _ a4
      have x5:=hle _ _ a5
      unfold wC at x0 x1 x2 x3 x4 x5
      have HFL:=Lib.hid (hfl.le hle)
      clear a0 a1 a2 a3 a4 a5 hle hfl hKV
      generalize hd:s.funcs[k]=d at x0 x1 x2 x3 x4 x5 HFL
      have HDD:=Lib.hid hd
      clear hd
      have hki:(k:Int)<(n4:Int):=by omega
      obtain ⟨lv,hlv⟩:∃ n,d.level=n:=⟨_,rfl⟩
      obtain ⟨lo,hlo⟩:∃ n,d.locals=n:=⟨_,rfl⟩
      obtain ⟨stk,hst⟩:∃ n,d.stack=n:=⟨_,rfl⟩
      rw [hlv] at x0 HFL
      rw [hlo] at x3 HFL
      rw [hst] at x4 HFL
      clear hlv hlo hst
      go_wp2_with fail
      go_at_call 17
      refine (lentFunction_any HFL.out HM1.out).mono ?_
      rintro e y1 ⟨ds,e1,rfl,hb,hmo,hH,hS⟩
      have HS:=Lib.hid hS
      obtain ⟨wp,wr',wc,hds,z1,z2,z3⟩:=hS
      subst hds
      obtain ⟨qp,cp,rfl⟩:=slx_shape z1
      obtain ⟨qr,cr,rfl⟩:=slx_shape z2
      obtain ⟨qc,cc,rfl⟩:=slx_shape z3
      clear z1 z2 z3
      obtain ⟨np,hnp⟩:∃ n,d.params.length=n:=⟨_,rfl⟩
      obtain ⟨nr,hnr⟩:∃ n,d.results.length=n:=⟨_,rfl⟩
      obtain ⟨nc,hnc⟩:∃ n,d.code.length=n:=⟨_,rfl⟩
      obtain ⟨lv2,hlv2⟩:∃ n,d.level=n:=⟨_,rfl⟩
      obtain ⟨lo2,hlo2⟩:∃ n,d.locals=n:=⟨_,rfl⟩
      obtain ⟨st2,hst2⟩:∃ n,d.stack=n:=⟨_,rfl⟩
      rw [hnp,hnr,hnc,hlv2,hlo2,hst2] at HS
      rw [hnp,hnr,hnc,hlv2,hlo2,hst2]
      clear hnp hnr hnc hlv2 hlo2 hst2
      clear x0 x1 x2 x3 x4 x5 s3
      have hby:=hb.size
      have HB1:=Lib.hid hb
      have HMO1:=Lib.hid hmo
      have HH1:=Lib.hid hH
      clear hb hmo hH
      have hrow:=own_chg HF.out (Below.chg HB1.out (Nat.le_refl _) (fun _=>False)) (fun _ _ e=>e)
      obtain ⟨W7,hW7⟩:∃ W7,y1.alloc (.cells #[.int .u64 lv2,.slice qp np cp,.slice qr nr cr,.int .i64 lo2,.int .i64 st2,.slice qc nc cc] 45)=W7:=⟨_,rfl⟩
      have hs7:W7.heap.size=y1.heap.size+1:=by rw [← hW7];simp
      have hnew:∀ (j:Nat) (u:Value),([.int .u64 lv2,.slice qp np cp,.slice qr nr cr,.int .i64 lo2,.int .i64 st2,.slice qc nc cc]:List Value)[j]?=some u→((y1.alloc (.cells #[.int .u64 lv2,.slice qp np cp,.slice qr nr cr,.int .i64 lo2,.int .i64 st2,.slice qc nc cc] 45)).alloc (.cells ([.int .u64 lv2,.slice qp np cp,.slice qr nr cr,.int .i64 lo2,.int .i64 st2,.slice qc nc cc]:List Value).toArray 45)).cell? ((⟨y1.heap.size+1,0,none⟩:Addr).add j)=some u:=by
        have:=row_new W7 [.int .u64 lv2,.slice qp np cp,.slice qr nr cr,.int .i64 lo2,.int .i64 st2,.slice qc nc cc] 45
        rw [hs7] at this
        rw [hW7]
        exact this
      have hb7:Below V.heap.size V W7:=by rw [← hW7];exact HB1.out.alloc hby _
      have hH7:Has W7 e1:=has_grown HH1.out (by rw [← hW7];exact (Below.refl _ _).alloc (Nat.le_refl _) _)
      have hone:∀ u ∈ ([.int .u64 lv2,.slice qp np cp,.slice qr nr cr,.int .i64 lo2,.int .i64 st2,.slice qc nc cc]:List Value),u.oneCell'=true:=by
        intro u hu
        simp only [List.mem_cons,List.not_mem_nil,or_false] at hu
        rcases hu with rfl | rfl | rfl | rfl | rfl | rfl <;> rfl
      have HB7:=Lib.hid hb7
      have HH7:=Lib.hid hH7
      have HW7:=Lib.hid hW7
      have HS7:=Lib.hid hs7
      clear hb7 hH7 hs7 hW7
      have hsV:=HB.out.size
      go_wp2_with (at_builtin;refine wpList_append_own_at _ rfl _ _ 24 rfl w6.heap.size 45 i5 _ 6 96 und_Fn hi5 hz5 hs5 hbb5 rfl (by decide) _ _ _ rfl ((hrow.alloc _).alloc _) ⟨y1.heap.size+1,0,none⟩ 1 1 [.int .u64 lv2,.slice qp np cp,.slice qr nr cr,.int .i64 lo2,.int .i64 st2,.slice qc nc cc] rfl rfl hnew hone (by unfold maxLen;omega) (by omega) (by simp;omega) ?_)
      intro v10 w10 hR10 hg10 _ hat
      rw [HW7.out] at hg10
      obtain ⟨q10,c10,rfl,r1,r2,r3,r4,r5,r6⟩:=rw_step hkl HE.out HMo.out HFr.out HB.out HF.out HB7.out HMO1.out HH7.out fnR_mono (by rw [HDD.out];exact HS.out) hR10 hg10 (by rw [HS7.out];simpa using hat)
      clear hR10 hg10 hat hrow hnew hone hsV
      go_wp2_with fail
      exact ⟨⟨k+1,q10,c10,_,e1,by omega,by go_num,rfl,r1,r2,r3,r4,r5,r6⟩,by simp [intOf];omega⟩
    · obtain rfl:k=n4:=by omega
      clear hKV
      have hrow:=HF.out
      have hnew:=row_new V (mkF true) 45
      have hone:∀ u ∈ mkF true,u.oneCell'=true:=by intro u hu;simp only [mkF,if_true,List.mem_cons,List.not_mem_nil,or_false] at hu;rcases hu with rfl | rfl | rfl | rfl | rfl | rfl <;> rfl
      have hws:=HB.out.size
      go_wp2_with (at_builtin;refine wpList_append_own_at _ rfl _ _ 24 rfl w6.heap.size 45 i5 _ 6 96 und_Fn hi5 hz5 hs5 hbb5 rfl (by decide) _ _ _ rfl (hrow.alloc _) ⟨V.heap.size,0,none⟩ 1 1 (mkF true) rfl rfl hnew hone (by unfold maxLen;omega) (by omega) (by simp;omega) ?_)
      intro v2 w8 hR2 hg2 _ hat
      obtain ⟨p5,d5,rfl,hcap5,-,HD,HB2⟩:=rw_end (m:=m4) HN4.out HE.out HMo.out HFr.out HB.out hrow HM1.out fnR_mono hR2 hg2 (by simpa using hat) hl4
      clear hg2 hR2 hrow hat s3 hnew hone hws
      obtain ⟨m5,hmo,hH,hS⟩:=HD.out
      have HK2:=Lib.hid (HK1.out.step HB2.out hmo hH)
      have HZ2:=Lib.hid (HZ1.out.step HB2.out hmo hH)
      have HLE5:=Lib.hid hmo.le
      have HS4:=Lib.hid (show FnsR true (mC m5) (.slice p5 k d5) s.funcs from hS)
      clear hmo hH hS HD
      have e0:=HK2.out.cell (i:=0) rfl
      have e1:=HK2.out.cell (i:=1) rfl
      have e2:=HK2.out.cell (i:=2) rfl
      have e3:=HK2.out.cell (i:=3) rfl
      generalize w8=wE at *
      have hU:=HU2.out
      subst hU
      have HX:=Lib.hid (fun (W:World) (h:Below wE.heap.size wE W)=>show W.heap[w.heap.size+1]?=some (.cells #[.slice none 0 0,.slice none 0 0,.slice none 0 0,.slice none 0 0] 26 (0,0)) from (h.block _ (heap_lt HZ2.out.lies)).trans HZ2.out.lies)
      have HBE:=Lib.hid (fun (W:World) (h:Below wE.heap.size wE W)=>show Below w.heap.size w W from HK2.out.below.trans (h.mono HK2.out.below.size))
      have HC1:=Lib.hid (fun (W:World) (h:Below wE.heap.size wE W)=>show Calls Try.prog 18 #[.slice q1 n1 c1] W fun e w'=>∃ g d m',e=.returned (.slice g n1 d)∧Below W.heap.size W w'∧m5.More W m'∧Has w' m'∧LasR true (mC m') (.slice g n1 d) s.globals from
        (lentLabels_any (H1.out _ (HBE.out _ h)) (has_grown HK2.out.has h)).mono (by
          rintro e w2 ⟨x,m',rfl,hb,hmo,hH,hS⟩
          obtain ⟨g,d,rfl⟩:=slx_shape hS
          rw [HN1.out] at hS ⊢
          exact ⟨g,d,m',rfl,hb,hmo,hH,hS⟩))
      have HC3:=Lib.hid (fun (W:World) (m6:Mem) (h:Below wE.heap.size wE W) (hH:Has W m6)=>show Calls Try.prog 18 #[.slice q3 n3 c3] W fun e w'=>∃ g d m',e=.returned (.slice g n3 d)∧Below W.heap.size W w'∧m6.More W m'∧Has w' m'∧LasR true (mC m') (.slice g n3 d) s.channels from
        (lentLabels_any (H3.out _ (HBE.out _ h)) hH).mono (by
          rintro e w2 ⟨x,m',rfl,hb,hmo,hH,hS⟩
          obtain ⟨g,d,rfl⟩:=slx_shape hS
          rw [HN3.out] at hS ⊢
          exact ⟨g,d,m',rfl,hb,hmo,hH,hS⟩))
      have hcn2:(n2:Int)≤(d2:Int):=by omega
      have hcn5:(k:Int)≤(d5:Int):=by omega
      clear e0 e1 e2 e3
      go_wp2_with fail
      have hmx:Try.prog.follows .mixedOrders=true:=by kernel_rfl
      have HY:=Lib.hid (show wE.drew.heap[w.heap.size]?=some (.cells #[.slice q1 n1 c1,.slice q2 n2 c2,.slice q3 n3 c3,.slice q4 k c4] 26 (0,0)) from HK2.out.lies)
      have HYZ:=Lib.hid (show wE.drew.heap[w.heap.size+1]?=some (.cells #[.slice none 0 0,.slice none 0 0,.slice none 0 0,.slice none 0 0] 26 (0,0)) from HZ2.out.lies)
      have HBY:=Lib.hid (be_drew (Below.refl wE.heap.size wE))
      refine wp_region_held_drew (S:=fun x=>x.heap[w.heap.size]?=some (.cells #[.slice q1 n1 c1,.slice q2 n2 c2,.slice q3 n3 c3,.slice q4 k c4] 26 (0,0))) hmx HY.out (fun hHeld=>?_)
      generalize wE.drew=Y at *
      refine wpAnyH_take (i:=0) (v:=.pointer (some ⟨w.heap.size,0,none⟩)) rfl (by kernel_rfl) (by kernel_rfl) (by kernel_rfl) (fun _ _ _ h=>h) (Or.inl ⟨by rfl,fun w hSw=>by (skip);go_simp⟩) (by assumption) ?_
      try simp only [Act.put,List.setIfInBounds_toArray,List.set_cons_zero,List.set_cons_succ,List.getElem_toArray,List.getElem_cons_zero,List.getElem_cons_succ]
      refine wpAnyH_take (i:=1) (v:=.slice q1 n1 c1) rfl (by kernel_rfl) (by kernel_rfl) (by kernel_rfl) (fun _ _ _ h=>h) (Or.inl ⟨by rfl,fun w hSw=>by (have s0:=cell_of (j:=0) hSw rfl);go_simp⟩) (by assumption) ?_
      try simp only [Act.put,List.setIfInBounds_toArray,List.set_cons_zero,List.set_cons_succ,List.getElem_toArray,List.getElem_cons_zero,List.getElem_cons_succ]
      refine wpAnyH_take (i:=3) (v:=.slice p2 (n2+1) d2) rfl (by kernel_rfl) (by kernel_rfl) (by kernel_rfl) (fun _ _ _ h=>h) (Or.inl ⟨by rfl,fun w hSw=>by (skip);go_simp⟩) (by assumption) ?_
      try simp only [Act.put,List.setIfInBounds_toArray,List.set_cons_zero,List.set_cons_succ,List.getElem_toArray,List.getElem_cons_zero,List.getElem_cons_succ]
      refine wpAnyH_take (i:=4) (v:=.pointer (some ⟨w.heap.size,1,none⟩)) rfl (by kernel_rfl) (by kernel_rfl) (by kernel_rfl) (fun _ _ _ h=>h) (Or.inl ⟨by rfl,fun w hSw=>by (skip);go_simp⟩) (by assumption) ?_
      try simp only [Act.put,List.setIfInBounds_toArray,List.set_cons_zero,List.set_cons_succ,List.getElem_toArray,List.getElem_cons_zero,List.getElem_cons_succ]
      refine wpAnyH_take (i:=5) (v:=.slice q2 n2 c2) rfl (by kernel_rfl) (by kernel_rfl) (by kernel_rfl) (fun _ _ _ h=>h) (Or.inl ⟨by rfl,fun w hSw=>by (have s0:=cell_of (j:=1) hSw rfl);go_simp⟩) (by assumption) ?_
      try simp only [Act.put,List.setIfInBounds_toArray,List.set_cons_zero,List.set_cons_succ,List.getElem_toArray,List.getElem_cons_zero,List.getElem_cons_succ]
      refine wpAnyH_take (i:=6) (v:=.int .i64 (n2:Int)) rfl (by kernel_rfl) (by kernel_rfl) (by kernel_rfl) (fun _ _ _ h=>h) (Or.inl ⟨by rfl,fun w hSw=>by (skip);go_simp⟩) (by assumption) ?_
      try simp only [Act.put,List.setIfInBounds_toArray,List.set_cons_zero,List.set_cons_succ,List.getElem_toArray,List.getElem_cons_zero,List.getElem_cons_succ]
      refine wpAnyH_take (i:=7) (v:=.slice p2 n2 d2) rfl (by kernel_rfl) (by kernel_rfl) (by kernel_rfl) (fun _ _ _ h=>h) (Or.inl ⟨by rfl,fun w hSw=>by (skip);go_simp⟩) (by assumption) ?_
      try simp only [Act.put,List.setIfInBounds_toArray,List.set_cons_zero,List.set_cons_succ,List.getElem_toArray,List.getElem_cons_zero,List.getElem_cons_succ]
      refine wpAnyH_take (i:=8) (v:=.pointer (some ⟨w.heap.size,2,none⟩)) rfl (by kernel_rfl) (by kernel_rfl) (by kernel_rfl) (fun _ _ _ h=>h) (Or.inl ⟨by rfl,fun w hSw=>by (skip);go_simp⟩) (by assumption) ?_
      try simp only [Act.put,List.setIfInBounds_toArray,List.set_cons_zero,List.set_cons_succ,List.getElem_toArray,List.getElem_cons_zero,List.getElem_cons_succ]
      refine wpAnyH_take (i:=9) (v:=.slice q3 n3 c3) rfl (by kernel_rfl) (by kernel_rfl) (by kernel_rfl) (fun _ _ _ h=>h) (Or.inl ⟨by rfl,fun w hSw=>by (have s0:=cell_of (j:=2) hSw rfl);go_simp⟩) (by assumption) ?_
      try simp only [Act.put,List.setIfInBounds_toArray,List.set_cons_zero,List.set_cons_succ,List.getElem_toArray,List.getElem_cons_zero,List.getElem_cons_succ]
      refine wpAnyH_take (i:=11) (v:=.slice p5 (k+1) d5) rfl (by kernel_rfl) (by kernel_rfl) (by kernel_rfl) (fun _ _ _ h=>h) (Or.inl ⟨by rfl,fun w hSw=>by (skip);go_simp⟩) (by assumption) ?_
      try simp only [Act.put,List.setIfInBounds_toArray,List.set_cons_zero,List.set_cons_succ,List.getElem_toArray,List.getElem_cons_zero,List.getElem_cons_succ]
      refine wpAnyH_take (i:=12) (v:=.pointer (some ⟨w.heap.size,3,none⟩)) rfl (by kernel_rfl) (by kernel_rfl) (by kernel_rfl) (fun _ _ _ h=>h) (Or.inl ⟨by rfl,fun w hSw=>by (skip);go_simp⟩) (by assumption) ?_
      try simp only [Act.put,List.setIfInBounds_toArray,List.set_cons_zero,List.set_cons_succ,List.getElem_toArray,List.getElem_cons_zero,List.getElem_cons_succ]
      refine wpAnyH_take (i:=13) (v:=.slice q4 k c4) rfl (by kernel_rfl) (by kernel_rfl) (by kernel_rfl) (fun _ _ _ h=>h) (Or.inl ⟨by rfl,fun w hSw=>by (have s0:=cell_of (j:=3) hSw rfl);go_simp⟩) (by assumption) ?_
      try simp only [Act.put,List.setIfInBounds_toArray,List.set_cons_zero,List.set_cons_succ,List.getElem_toArray,List.getElem_cons_zero,List.getElem_cons_succ]
      refine wpAnyH_take (i:=14) (v:=.int .i64 (k:Int)) rfl (by kernel_rfl) (by kernel_rfl) (by kernel_rfl) (fun _ _ _ h=>h) (Or.inl ⟨by rfl,fun w hSw=>by (skip);go_simp⟩) (by assumption) ?_
      try simp only [Act.put,List.setIfInBounds_toArray,List.set_cons_zero,List.set_cons_succ,List.getElem_toArray,List.getElem_cons_zero,List.getElem_cons_succ]
      refine wpAnyH_take (i:=15) (v:=.slice p5 k d5) rfl (by kernel_rfl) (by kernel_rfl) (by kernel_rfl) (fun _ _ _ h=>h) (Or.inl ⟨by rfl,fun w hSw=>by (skip);go_simp⟩) (by assumption) ?_
      try simp only [Act.put,List.setIfInBounds_toArray,List.set_cons_zero,List.set_cons_succ,List.getElem_toArray,List.getElem_cons_zero,List.getElem_cons_succ]
      refine wpAnyH_ready (rs:=[2]) (by kernel_rfl) (by simp) ?_
      refine AllReadyH.cons rfl (fun K1 hK1=>?_) AllReadyH.nil
      go_simp
      go_at_call 18
      refine (HC1.out Y HBY.out).mono ?_
      rintro e wa ⟨g1,x1,m6,rfl,hba,hmoa,hHa,hSa⟩
      have HYa:=Lib.hid ((hba.block _ (heap_lt HY.out)).trans HY.out)
      have HZa:=Lib.hid ((hba.block _ (heap_lt HYZ.out)).trans HYZ.out)
      have HBa:=Lib.hid (be_le HBY.out hba)
      have HMa:=Lib.hid hmoa
      have HHa:=Lib.hid hHa
      have HSa:=Lib.hid hSa
      clear hba hmoa hHa hSa
      refine hK1.out _ _ HYa.out (fun hHeld=>?_)
      clear hK1 K1
      try simp only [Act.put,List.setIfInBounds_toArray,List.set_cons_zero,List.set_cons_succ,List.getElem_toArray,List.getElem_cons_zero,List.getElem_cons_succ]
      refine wpAnyH_ready (rs:=[10]) (by kernel_rfl) (by simp) ?_
      refine AllReadyH.cons rfl (fun K2 hK2=>?_) AllReadyH.nil
      go_simp
      go_at_call 18
      refine (HC3.out wa m6 HBa.out HHa.out).mono ?_
      rintro e wb ⟨g3,x3,m7,rfl,hbb,hmob,hHb,hSb⟩
      have HYb:=Lib.hid ((hbb.block _ (heap_lt HYa.out)).trans HYa.out)
      have HZb:=Lib.hid ((hbb.block _ (heap_lt HZa.out)).trans HZa.out)
      have HBb:=Lib.hid (be_le HBa.out hbb)
      have HMb:=Lib.hid hmob
      have HHb:=Lib.hid hHb
      have HSb:=Lib.hid hSb
      clear hbb hmob hHb hSb
      refine hK2.out _ _ HYb.out (fun hHeld=>?_)
      clear hK2 K2
      try simp only [Act.put,List.setIfInBounds_toArray,List.set_cons_zero,List.set_cons_succ,List.getElem_toArray,List.getElem_cons_zero,List.getElem_cons_succ]
      refine wpAnyH_take (i:=16) (v:=.agg #[.slice g1 n1 x1,.slice p2 n2 d2,.slice g3 n3 x3,.slice p5 k d5]) rfl (by kernel_rfl) (by kernel_rfl) (by kernel_rfl) (fun _ _ _ h=>h) (Or.inl ⟨by rfl,fun w hSw=>by (skip);go_simp⟩) (by assumption) ?_
      try simp only [Act.put,List.setIfInBounds_toArray,List.set_cons_zero,List.set_cons_succ,List.getElem_toArray,List.getElem_cons_zero,List.getElem_cons_succ]
      refine wpAnyH_ready (rs:=[17]) (by kernel_rfl) (by simp) ?_
      refine AllReadyH.cons rfl (fun K3 hK3=>?_) AllReadyH.nil
      have k0:=cell_of (j:=0) HZb.out rfl
      have l0:=free_of (j:=0) HZb.out
      have k1:=cell_of (j:=1) HZb.out rfl
      have l1:=free_of (j:=1) HZb.out
      have k2:=cell_of (j:=2) HZb.out rfl
      have l2:=free_of (j:=2) HZb.out
      have k3:=cell_of (j:=3) HZb.out rfl
      have l3:=free_of (j:=3) HZb.out
      go_simp
      refine hK3.out _ _ (heap_other (heap_other (heap_other (heap_other HYb.out (by omega)) (by omega)) (by omega)) (by omega)) (fun hHeld=>?_)
      clear hK3 K3
      try simp only [Act.put,List.setIfInBounds_toArray,List.set_cons_zero,List.set_cons_succ,List.getElem_toArray,List.getElem_cons_zero,List.getElem_cons_succ]
      refine wpAnyH_done (by kernel_rfl) ?_ _
      clear k0 k1 k2 k3 l0 l1 l2 l3 HYb HYa HY hHeld
      try go_wp2
      (try simp only [Exit.inBlock,Exit.then])
      obtain ⟨d9,u1,u2⟩:=undMo
      have hx3:=heap_set (heap_set (heap_set (heap_set HZb.out 0 (.slice g1 n1 x1)) 1 (.slice p2 n2 d2)) 2 (.slice g3 n3 x3)) 3 (.slice p5 k d5)
      refine bodyPost_ret (results_cell_row rfl _ _ (w.heap.size+1) 26 _ (0,0) d9 rfl hx3 u1 (by cases d9 <;> first | rfl | cases u2) sizeMo) rfl ?_
      have h0:m7 (w.heap.size+1)=none:=HMb.out.new _ (HMa.out.new _ HZ2.out.new (heap_lt HYZ.out)) (heap_lt HZa.out)
      have st:∀ (W:World) i v,Has W m7→Has (W.setCell ⟨w.heap.size+1,i,none⟩ v) m7:=fun W i v h=>h.chg ((Chg.refl (fun k=>k=w.heap.size+1) W).setCell (.inl rfl) v) (fun k e=>by rw [e];exact h0)
      have hq:w.heap.size≤w.heap.size+1:=Nat.le_succ _
      refine ⟨_,m7,rfl,((((HBE.out _ HBb.out).setCell hq _).setCell hq _).setCell hq _).setCell hq _,(HK2.out.more.trans HMa.out (HBE.out _ HBY.out).size).trans HMb.out (HBE.out _ HBa.out).size,st _ 3 _ (st _ 2 _ (st _ 1 _ (st _ 0 _ HHb.out))),?_⟩
      exact ⟨_,_,_,_,rfl,HSa.out.le (mle_cle HMb.out.le),HS2.out.le (mle_cle (HLE5.out.trans (HMa.out.le.trans HMb.out.le))),HSb.out,HS4.out.le (mle_cle (HMa.out.le.trans HMb.out.le))⟩
end Go.Proofs.Ythjkbfamkogoiaa
namespace Go.Proofs.Ythjkbfamkogoiaa
open Go Go.RowKit Go.Proofs.Mm
theorem eqArr (a b c d:Int) (w:World):(Op.equalIn 10000 49 (.agg #[.int .i64 a,.int .u64 b]) (.agg #[.int .i64 c,.int .u64 d])).run Try.prog w=.ok (a == c && b == d) w:=by
  have u3:=Try.underlying3
  have u2:=Try.underlying42
  have hS:Try.prog.underlying 49=some (.struct (Try.prog.fieldsOf 49)):=by kernel_rfl
  have hp:Try.prog.stoodInHeld 49=false:=by kernel_rfl
  rw [show (10000:Nat)=9999+1 from rfl,run_equalIn_agg w 9999 49 _ _ hS hp]
  simp only [Program.fieldsOf,Try.underlying49]
  go_simp
  by_cases h1:a=c <;> by_cases h2:b=d <;> simp [h1,h2]
theorem neArr' (a b c d:Int) (w:World):(binOp .neq 49 (.agg #[.int .i64 a,.int .u64 b]) (.agg #[.int .i64 c,.int .u64 d])).run Try.prog w=.ok (.bool (!(a == c && b == d))) w:=by
  rw [run_neq_struct,eqArr];rfl
set_option maxRecDepth 100000 in
set_option maxHeartbeats 4000000 in
theorem keptModule_true {w:World} {v v':Value} {s:MoM} (ha:MoR true (wC w) v s) (hb:MoR false (wC w) v' s) :
    Calls Try.prog 10 #[v,v'] w fun e w'=>e=.returned (.bool true)∧Below w.heap.size w w':=by
  obtain ⟨v1,v2,v3,v4,rfl,h1,h2,h3,h4⟩:=ha
  obtain ⟨u1,u2,u3,u4,rfl,g1,g2,g3,g4⟩:=hb
  obtain ⟨q1,c1,rfl⟩:=slx_shape h1
  obtain ⟨q2,c2,rfl⟩:=slx_shape h2
  obtain ⟨q3,c3,rfl⟩:=slx_shape h3
  obtain ⟨q4,c4,rfl⟩:=slx_shape h4
  obtain ⟨r1,e1,rfl⟩:=slx_shape g1
  obtain ⟨r2,e2,rfl⟩:=slx_shape g2
  obtain ⟨r3,e3,rfl⟩:=slx_shape g3
  obtain ⟨r4,e4,rfl⟩:=slx_shape g4
  have hm2:=slx_max h2
  have hm4:=slx_max h4
  unfold maxLen at hm2 hm4
  obtain ⟨_,hc2,hx2,ga,oa,rfl,hka⟩:=slx_mark (size:=2) h2 (by decide) ar_len (by simp [mkA])
  obtain ⟨_,hc4,hx4,gf,of',rfl,hkf⟩:=slx_mark (size:=6) h4 (by decide) fn_len (by simp [mkF])
  unfold maxLen at hx2 hx4
  have HA:=Lib.hid h2.cells
  have HA':=Lib.hid g2.cells
  have HF:=Lib.hid h4.cells
  have HF':=Lib.hid g4.cells
  have K1:=Lib.hid (fun W (h:Below w.heap.size w W)=>keptLabels_true (w:=W) (h1.le (below_cle h)) (g1.le (below_cle h)))
  have K3:=Lib.hid (fun W (h:Below w.heap.size w W)=>keptLabels_true (w:=W) (h3.le (below_cle h)) (g3.le (below_cle h)))
  obtain ⟨n1,hn1⟩:∃ n,s.globals.length=n:=⟨_,rfl⟩
  obtain ⟨n2,hn2⟩:∃ n,s.arrays.length=n:=⟨_,rfl⟩
  obtain ⟨n3,hn3⟩:∃ n,s.channels.length=n:=⟨_,rfl⟩
  obtain ⟨n4,hn4⟩:∃ n,s.funcs.length=n:=⟨_,rfl⟩
  clear h1 h2 h3 h4 g1 g2 g3 g4
  rw [hn1] at K1 ⊢
  rw [hn2] at hm2 hc2 hka ⊢
  rw [hn3] at K3 ⊢
  rw [hn4] at hm4 hc4 hkf ⊢
  have HN2:=Lib.hid hn2
  have HN4:=Lib.hid hn4
  have HKA:=Lib.hid (show wC w ⟨ga,oa+n2 * 2,none⟩=some (.int .i64 (-71))∧wC w ⟨ga,oa+n2 * 2+1,none⟩=some (.int .u64 0) from ⟨by have:=hka 0 _ rfl;simpa using this,hka 1 _ rfl⟩)
  have HKF:=Lib.hid (show wC w ⟨gf,of'+n4 * 6,none⟩=some (.int .u64 0)∧wC w ⟨gf,of'+n4 * 6+1,none⟩=some (.slice none 0 0)∧wC w ⟨gf,of'+n4 * 6+2,none⟩=some (.slice none 0 0)∧wC w ⟨gf,of'+n4 * 6+3,none⟩=some (.int .i64 0)∧wC w ⟨gf,of'+n4 * 6+4,none⟩=some (.int .i64 (-71))∧wC w ⟨gf,of'+n4 * 6+5,none⟩=some (.slice none 0 0) from ⟨by have:=hkf 0 _ rfl;simpa using this,hkf 1 _ rfl,hkf 2 _ rfl,hkf 3 _ rfl,hkf 4 _ rfl,hkf 5 _ rfl⟩)
  have hneq2:((n2:Int) != (n2:Int))=false:=by simp
  have hneq4:((n4:Int) != (n4:Int))=false:=by simp
  have hi2:(n2:Int)<(n2:Int)+1:=by omega
  have hi4:(n4:Int)<(n4:Int)+1:=by omega
  have hcc2:(n2:Int)+1≤(c2:Int):=by omega
  have hcc4:(n4:Int)+1≤(c4:Int):=by omega
  clear hka hkf hn1 hn2 hn3 hn4
  go_enter Try.func10,Try.ntmps10
  go_wp2_with fail
  obtain ⟨W0,hW0⟩:∃ W0,(w.alloc (.cells #[.slice q1 n1 c1,.slice (some ⟨ga,oa,none⟩) n2 c2,.slice q3 n3 c3,.slice (some ⟨gf,of',none⟩) n4 c4] 26)).alloc (.cells #[.slice r1 n1 e1,.slice r2 n2 e2,.slice r3 n3 e3,.slice r4 n4 e4] 26)=W0:=⟨_,rfl⟩
  have HB0:=Lib.hid (show Below w.heap.size w W0 by rw [← hW0];exact ((Below.refl _ w).alloc (Nat.le_refl _) _).alloc (by simp) _)
  have hX:W0.heap[w.heap.size]?=some (.cells #[.slice q1 n1 c1,.slice (some ⟨ga,oa,none⟩) n2 c2,.slice q3 n3 c3,.slice (some ⟨gf,of',none⟩) n4 c4] 26 (0,0)):=by rw [← hW0];exact heap_new _ _ (World.alloc_heap_new _ _)
  have hY:W0.heap[w.heap.size+1]?=some (.cells #[.slice r1 n1 e1,.slice r2 n2 e2,.slice r3 n3 e3,.slice r4 n4 e4] 26 (0,0)):=by
    have h9:=World.alloc_heap_new (w.alloc (.cells #[.slice q1 n1 c1,.slice (some ⟨ga,oa,none⟩) n2 c2,.slice q3 n3 c3,.slice (some ⟨gf,of',none⟩) n4 c4] 26)) (.cells #[.slice r1 n1 e1,.slice r2 n2 e2,.slice r3 n3 e3,.slice r4 n4 e4] 26)
    rwa [show (w.alloc (.cells #[.slice q1 n1 c1,.slice (some ⟨ga,oa,none⟩) n2 c2,.slice q3 n3 c3,.slice (some ⟨gf,of',none⟩) n4 c4] 26)).heap.size=w.heap.size+1 by simp,hW0] at h9
  rw [hW0]
  clear hW0
  have x0:=cell_of (j:=0) hX rfl
  have y0:=cell_of (j:=0) hY rfl
  have x1:=cell_of (j:=1) hX rfl
  have y1:=cell_of (j:=1) hY rfl
  have x2:=cell_of (j:=2) hX rfl
  have y2:=cell_of (j:=2) hY rfl
  have x3:=cell_of (j:=3) hX rfl
  have y3:=cell_of (j:=3) hY rfl
  have HX:=Lib.hid hX
  have HY:=Lib.hid hY
  clear hX hY
  go_at_call 21
  refine (K1.out W0 HB0.out).mono ?_
  rintro e w2 ⟨rfl,k1,rfl⟩
  go_wp2_with fail
  go_at_call 21
  refine (K3.out (W0.drewN k1) (HB0.out.drewK k1)).mono ?_
  rintro e w2 ⟨rfl,k2,rfl⟩
  go_wp2_with fail
  have HB1:=Lib.hid (HB0.out.drewK (k1+k2))
  have HX1:=Lib.hid (show (W0.drewN (k1+k2)).heap[w.heap.size]?=_ from HX.out)
  have HY1:=Lib.hid (show (W0.drewN (k1+k2)).heap[w.heap.size+1]?=_ from HY.out)
  clear x0 x1 x2 x3 y0 y1 y2 y3 HX HY HB0 K1 K3
  generalize W0.drewN (k1+k2)=W1 at *
  have x1:=cell_of (j:=1) HX1.out rfl
  have y1:=cell_of (j:=1) HY1.out rfl
  have HLE:=Lib.hid (below_cle HB1.out)
  go_loopw [5] (fun i wr=>∃ k nq:Nat,k≤n2∧i=.int .i64 k∧wr=W1.drewN nq) (fun i _=>n2 - (intOf i).toNat)
  case atStart=>exact ⟨0,0,Nat.zero_le _,rfl,rfl⟩
  case round =>
    obtain ⟨k,nq,hk,rfl,rfl⟩:=hrel
    by_cases hlt:k<n2
    · have hk':k<s.arrays.length:=by rw [HN2.out];exact hlt
      obtain ⟨g,o,hq,a1,a2⟩:=HA.out k hk'
      obtain ⟨rfl,rfl⟩:ga=g∧oa=o:=by injection hq with hq;injection hq with hq1 hq2;exact ⟨hq1,hq2⟩
      obtain ⟨g',o',rfl,b1,b2⟩:=HA'.out k hk'
      have z1:W1.cell? ⟨ga,oa+k * 2,none⟩=some (.int .i64 s.arrays[k].1):=HLE.out _ _ a1
      have z2:W1.cell? ⟨ga,oa+k * 2+1,none⟩=some (.int .u64 s.arrays[k].2):=HLE.out _ _ a2
      have z3:W1.cell? ⟨g',o'+k * 2,none⟩=some (.int .i64 s.arrays[k].1):=HLE.out _ _ b1
      have z4:W1.cell? ⟨g',o'+k * 2+1,none⟩=some (.int .u64 s.arrays[k].2):=HLE.out _ _ b2
      clear a1 a2 b1 b2 hq
      generalize s.arrays[k].1=m1 at *
      generalize s.arrays[k].2=m2 at *
      have hki:(k:Int)<(n2:Int):=by omega
      have hne:∀ W,(binOp .neq 49 (.agg #[.int .i64 m1,.int .u64 m2]) (.agg #[.int .i64 m1,.int .u64 m2])).run Try.prog W=.ok (.bool false) W:=fun W=>by rw [neArr'];simp
      go_wp2
      go_quiet (fail)
      go_wp2
      exact ⟨⟨k+1,_,by omega,by go_num,rfl⟩,by simp [intOf];omega⟩
    · go_wp2_with fail
      obtain rfl:k=n2:=by omega
      have HB2:=Lib.hid (HB1.out.drewK nq)
      have HX2:=Lib.hid (show (W1.drewN nq).heap[w.heap.size]?=_ from HX1.out)
      have HY2:=Lib.hid (show (W1.drewN nq).heap[w.heap.size+1]?=_ from HY1.out)
      clear x1 y1 HX1 HY1 HB1 HLE
      generalize W1.drewN nq=W2 at *
      go_loopw [6] (fun i wr=>∃ j:Nat,j≤n4∧i=.int .i64 j∧Hid (Below W2.heap.size W2 wr)) (fun i _=>n4 - (intOf i).toNat)
      case atStart=>exact ⟨0,Nat.zero_le _,rfl,Lib.hid (Below.refl _ _)⟩
      case round =>
        obtain ⟨j,hj,rfl,HBV⟩:=hrel
        generalize wr=V at *
        have HXV:=Lib.hid ((HBV.out.block _ (heap_lt HX2.out)).trans HX2.out)
        have HYV:=Lib.hid ((HBV.out.block _ (heap_lt HY2.out)).trans HY2.out)
        have HBW:=Lib.hid (show Below w.heap.size w V from HB2.out.trans (HBV.out.mono HB2.out.size))
        have HLV:=Lib.hid (below_cle HBW.out)
        have x1:=cell_of (j:=1) HXV.out rfl
        have x3:=cell_of (j:=3) HXV.out rfl
        have y3:=cell_of (j:=3) HYV.out rfl
        by_cases hlt4:j<n4
        · have hj':j<s.funcs.length:=by rw [HN4.out];exact hlt4
          obtain ⟨g,o,vp,vr,vc,hq,hf,a0,a1,a2,a3,a4,a5⟩:=HF.out j hj'
          obtain ⟨rfl,rfl⟩:gf=g∧of'=o:=by injection hq with hq;injection hq with hq1 hq2;exact ⟨hq1,hq2⟩
          obtain ⟨g',o',vp',vr',vc',rfl,hf',b0,b1,b2,b3,b4,b5⟩:=HF'.out j hj'
          have HKEP:=Lib.hid (fun W (h:Below w.heap.size w W)=>keptFunction_true (w:=W) (hf.le (below_cle h)) (hf'.le (below_cle h)))
          have z0:=HLV.out _ _ a0
          have z1:=HLV.out _ _ a1
          have z2:=HLV.out _ _ a2
          have z3:=HLV.out _ _ a3
          have z4:=HLV.out _ _ a4
          have z5:=HLV.out _ _ a5
          have t0:=HLV.out _ _ b0
          have t1:=HLV.out _ _ b1
          have t2:=HLV.out _ _ b2
          have t3:=HLV.out _ _ b3
          have t4:=HLV.out _ _ b4
          have t5:=HLV.out _ _ b5
          unfold wC at z0 z1 z2 z3 z4 z5 t0 t1 t2 t3 t4 t5
          clear a0 a1 a2 a3 a4 a5 b0 b1 b2 b3 b4 b5 hf hf' hq
          generalize s.funcs[j].level=lv at *
          generalize s.funcs[j].locals=lo at *
          generalize s.funcs[j].stack=stk at *
          have hji:(j:Int)<(n4:Int):=by omega
          go_wp2_with fail
          have hmx:Try.prog.follows .mixedOrders=true:=by kernel_rfl
          have HBY:=Lib.hid (be_drew (Below.refl V.heap.size V))
          refine wp_region_held_drew (S:=fun x=>Below V.heap.size V x) hmx HBY.out (fun hHeld=>?_)
          generalize V.drew=Y at *
          refine wpAnyH_take (i:=0) (v:=.pointer (some ⟨w.heap.size,3,none⟩)) rfl (by kernel_rfl) (by kernel_rfl) (by kernel_rfl) (fun _ _ _ h=>h) (Or.inl ⟨by rfl,fun w hSw=>by (skip);go_simp⟩) (by assumption) ?_
          try simp only [Act.put,List.setIfInBounds_toArray,List.set_cons_zero,List.set_cons_succ,List.getElem_toArray,List.getElem_cons_zero,List.getElem_cons_succ]
          refine wpAnyH_take (i:=1) (v:=.slice (some ⟨gf,of',none⟩) n4 c4) rfl (by kernel_rfl) (by kernel_rfl) (by kernel_rfl) (fun _ _ _ h=>h) (Or.inl ⟨by rfl,fun w hSw=>by (have s0:w.cell? _=some _:=below_cle hSw _ _ x3);go_simp⟩) (by assumption) ?_
          try simp only [Act.put,List.setIfInBounds_toArray,List.set_cons_zero,List.set_cons_succ,List.getElem_toArray,List.getElem_cons_zero,List.getElem_cons_succ]
          refine wpAnyH_take (i:=2) (v:=.int .i64 (j:Int)) rfl (by kernel_rfl) (by kernel_rfl) (by kernel_rfl) (fun _ _ _ h=>h) (Or.inl ⟨by rfl,fun w hSw=>by (skip);go_simp⟩) (by assumption) ?_
          try simp only [Act.put,List.setIfInBounds_toArray,List.set_cons_zero,List.set_cons_succ,List.getElem_toArray,List.getElem_cons_zero,List.getElem_cons_succ]
          refine wpAnyH_take (i:=3) (v:=.pointer (some ⟨gf,of'+j * 6,none⟩)) rfl (by kernel_rfl) (by kernel_rfl) (by kernel_rfl) (fun _ _ _ h=>h) (Or.inl ⟨by rfl,fun w hSw=>by (skip);go_simp⟩) (by assumption) ?_
          try simp only [Act.put,List.setIfInBounds_toArray,List.set_cons_zero,List.set_cons_succ,List.getElem_toArray,List.getElem_cons_zero,List.getElem_cons_succ]
          refine wpAnyH_take (i:=4) (v:=.agg #[.int .u64 lv,vp,vr,.int .i64 lo,.int .i64 stk,vc]) rfl (by kernel_rfl) (by kernel_rfl) (by kernel_rfl) (fun _ _ _ h=>h) (Or.inl ⟨by rfl,fun w hSw=>by (have s0:w.cell? _=some _:=below_cle hSw _ _ z0;have s1:w.cell? _=some _:=below_cle hSw _ _ z1;have s2:w.cell? _=some _:=below_cle hSw _ _ z2;have s3:w.cell? _=some _:=below_cle hSw _ _ z3;have s4:w.cell? _=some _:=below_cle hSw _ _ z4;have s5:w.cell? _=some _:=below_cle hSw _ _ z5);go_simp⟩) (by assumption) ?_
          try simp only [Act.put,List.setIfInBounds_toArray,List.set_cons_zero,List.set_cons_succ,List.getElem_toArray,List.getElem_cons_zero,List.getElem_cons_succ]
          refine wpAnyH_take (i:=5) (v:=.pointer (some ⟨w.heap.size+1,3,none⟩)) rfl (by kernel_rfl) (by kernel_rfl) (by kernel_rfl) (fun _ _ _ h=>h) (Or.inl ⟨by rfl,fun w hSw=>by (skip);go_simp⟩) (by assumption) ?_
          try simp only [Act.put,List.setIfInBounds_toArray,List.set_cons_zero,List.set_cons_succ,List.getElem_toArray,List.getElem_cons_zero,List.getElem_cons_succ]
          refine wpAnyH_take (i:=6) (v:=.slice (some ⟨g',o',none⟩) n4 e4) rfl (by kernel_rfl) (by kernel_rfl) (by kernel_rfl) (fun _ _ _ h=>h) (Or.inl ⟨by rfl,fun w hSw=>by (have s0:w.cell? _=some _:=below_cle hSw _ _ y3);go_simp⟩) (by assumption) ?_
          try simp only [Act.put,List.setIfInBounds_toArray,List.set_cons_zero,List.set_cons_succ,List.getElem_toArray,List.getElem_cons_zero,List.getElem_cons_succ]
          refine wpAnyH_take (i:=7) (v:=.int .i64 (j:Int)) rfl (by kernel_rfl) (by kernel_rfl) (by kernel_rfl) (fun _ _ _ h=>h) (Or.inl ⟨by rfl,fun w hSw=>by (skip);go_simp⟩) (by assumption) ?_
          try simp only [Act.put,List.setIfInBounds_toArray,List.set_cons_zero,List.set_cons_succ,List.getElem_toArray,List.getElem_cons_zero,List.getElem_cons_succ]
          refine wpAnyH_take (i:=8) (v:=.pointer (some ⟨g',o'+j * 6,none⟩)) rfl (by kernel_rfl) (by kernel_rfl) (by kernel_rfl) (fun _ _ _ h=>h) (Or.inl ⟨by rfl,fun w hSw=>by (skip);go_simp⟩) (by assumption) ?_
          try simp only [Act.put,List.setIfInBounds_toArray,List.set_cons_zero,List.set_cons_succ,List.getElem_toArray,List.getElem_cons_zero,List.getElem_cons_succ]
          refine wpAnyH_take (i:=9) (v:=.agg #[.int .u64 lv,vp',vr',.int .i64 lo,.int .i64 stk,vc']) rfl (by kernel_rfl) (by kernel_rfl) (by kernel_rfl) (fun _ _ _ h=>h) (Or.inl ⟨by rfl,fun w hSw=>by (have s0:w.cell? _=some _:=below_cle hSw _ _ t0;have s1:w.cell? _=some _:=below_cle hSw _ _ t1;have s2:w.cell? _=some _:=below_cle hSw _ _ t2;have s3:w.cell? _=some _:=below_cle hSw _ _ t3;have s4:w.cell? _=some _:=below_cle hSw _ _ t4;have s5:w.cell? _=some _:=below_cle hSw _ _ t5);go_simp⟩) (by assumption) ?_
          try simp only [Act.put,List.setIfInBounds_toArray,List.set_cons_zero,List.set_cons_succ,List.getElem_toArray,List.getElem_cons_zero,List.getElem_cons_succ]
          refine wpAnyH_ready (rs:=[10]) (by kernel_rfl) (by simp) ?_
          refine AllReadyH.cons rfl (fun K1 hK1=>?_) AllReadyH.nil
          go_simp
          go_at_call 22
          refine (HKEP.out Y (HBW.out.trans (HBY.out.mono HBW.out.size))).mono ?_
          rintro e wk ⟨rfl,hbk⟩
          have HBK:=Lib.hid (be_le HBY.out hbk)
          refine hK1.out _ _ HBK.out (fun hHeld=>?_)
          clear hK1 K1 hbk
          try simp only [Act.put,List.setIfInBounds_toArray,List.set_cons_zero,List.set_cons_succ,List.getElem_toArray,List.getElem_cons_zero,List.getElem_cons_succ]
          refine wpAnyH_take (i:=11) (v:=.bool false) rfl (by kernel_rfl) (by kernel_rfl) (by kernel_rfl) (fun _ _ _ h=>h) (Or.inl ⟨by rfl,fun w hSw=>by (skip);go_simp⟩) (by assumption) ?_
          try simp only [Act.put,List.setIfInBounds_toArray,List.set_cons_zero,List.set_cons_succ,List.getElem_toArray,List.getElem_cons_zero,List.getElem_cons_succ]
          refine wpAnyH_done (by kernel_rfl) ?_ _
          clear x1 x3 y3 z0 z1 z2 z3 z4 z5 t0 t1 t2 t3 t4 t5 hHeld
          go_wp2
          exact ⟨⟨j+1,by omega,by go_num,Lib.hid (be_le HBV.out HBK.out)⟩,by simp [intOf];omega⟩
        · obtain rfl:j=n4:=by omega
          have z0:=HLV.out _ _ HKA.out.1
          have z1:=HLV.out _ _ HKA.out.2
          have t0:=HLV.out _ _ HKF.out.1
          have t1:=HLV.out _ _ HKF.out.2.1
          have t2:=HLV.out _ _ HKF.out.2.2.1
          have t3:=HLV.out _ _ HKF.out.2.2.2.1
          have t4:=HLV.out _ _ HKF.out.2.2.2.2.1
          have t5:=HLV.out _ _ HKF.out.2.2.2.2.2
          unfold wC at z0 z1 t0 t1 t2 t3 t4 t5
          go_wp2
          go_ret
          exact ⟨rfl,HBW.out⟩
end Go.Proofs.Ythjkbfamkogoiaa
namespace Go.Proofs.Ythjkbfamkogoiaa
open Go Go.RowKit Go.Proofs.Mm Go.Sort
def fnI (nf:Nat) (f:Int):Bool:=decide (0≤f∧f<nf)
def knI (op:Int):Bool:=decide (1≤op∧op≤17) || decide (32≤op∧op≤47)
def locI (fs:List FnM) (f:Int):Int:=if 0≤f∧f<fs.length then (fs.getD f.toNat default).params.length+min (max (fs.getD f.toNat default).locals 0) 32 else 0
def blI (a n:Int):Bool:=decide (0≤a∧a<n)
def opnI (ng na nh:Nat) (fs:List FnM) (f op a:Int):Bool :=
  if op=32 then true else if op=33 ∨ op=34 then blI a (locI fs f) else if op=35 ∨ op=36 then blI a ng else if op=37 ∨ op=38 then blI a na
  else if op=43 ∨ op=44 then blI a (fs.getD f.toNat default).code.length else if op=45 then blI a fs.length else if op=47 then blI a nh else decide (a=0)
def insI (ng na nh:Nat) (fs:List FnM) (f op a:Int):Int:=if fnI fs.length f=false then 1 else if knI op=false then 100 else if opnI ng na nh fs f op a=false then 130 else 0
section
variable (qg:Option Addr) (ng cg:Nat) (qa:Option Addr) (na ca:Nat) (qh:Option Addr) (nh ch:Nat) (qf:Option Addr) (nf cf:Nat)
set_option maxRecDepth 100000 in
set_option maxHeartbeats 1000000 in
theorem isFn_any (f:Int) (w:World):Calls Try.prog 23 #[moV qg ng cg qa na ca qh nh ch qf nf cf,.int .i64 f] w fun e w'=>e=.returned (.bool (fnI nf f))∧Below w.heap.size w w':=by
  unfold fnI
  by_cases h0:0≤f
  · by_cases h1:f<(nf:Int)
    · go_enter Try.func23,Try.ntmps23
      go_wp2
      go_ret
      exact ⟨by simp [h0,h1],bl_al (Below.refl _ w) _⟩
    · go_enter Try.func23,Try.ntmps23
      go_wp2
      go_ret
      exact ⟨by simp [h1],bl_al (Below.refl _ w) _⟩
  · go_enter Try.func23,Try.ntmps23
    go_wp2
    go_ret
    exact ⟨by simp;omega,bl_al (Below.refl _ w) _⟩
set_option maxRecDepth 100000 in
set_option maxHeartbeats 1000000 in
theorem isKnown_any (op:Int) (w:World):Calls Try.prog 24 #[.int .i64 op] w fun e w'=>e=.returned (.bool (knI op))∧w'=w:=by
  unfold knI
  by_cases h0:1≤op <;> by_cases h1:op≤17 <;> by_cases h2:32≤op <;> by_cases h3:op≤47 <;> first
  | (exfalso;omega)
  | (go_enter Try.func24,Try.ntmps24
     go_wp2
     go_ret
     exact ⟨by simp [h0,h1,h2,h3],rfl⟩)
set_option maxRecDepth 100000 in
theorem below1_any (n a:Int) (b:Nat) (w:World) (h:w.cell? ⟨b,1,none⟩=some (.int .i64 a)):Calls Try.prog 35 #[.int .i64 n,.pointer (some ⟨b,0,none⟩)] w fun e w'=>e=.returned (.bool (blI a n))∧w'=w:=by
  unfold blI
  by_cases h0:0≤a <;> by_cases h1:a<n <;>
  (go_enter Try.func35,Try.ntmps35
   go_wp2
   go_ret
   exact ⟨by simp [h0,h1],rfl⟩)
set_option maxRecDepth 100000 in
set_option maxHeartbeats 1000000 in
theorem goesOn_any (op a:Int) (w:World):Calls Try.prog 32 #[inV op a] w fun e w'=>e=.returned (.bool (decide (op ≠ 43∧op ≠ 46)))∧Below w.heap.size w w':=by
  by_cases h0:op=43
  · subst h0
    go_enter Try.func32,Try.ntmps32
    go_wp2
    go_ret
    exact ⟨by simp,bl_al (Below.refl _ w) _⟩
  · have k0:(op == 43)=false:=by simpa using h0
    by_cases h1:op=46
    · subst h1
      go_enter Try.func32,Try.ntmps32
      go_wp2
      go_ret
      exact ⟨by simp,bl_al (Below.refl _ w) _⟩
    · have k1:(op == 46)=false:=by simpa using h1
      go_enter Try.func32,Try.ntmps32
      go_wp2
      go_ret
      exact ⟨by simp [h0,h1],bl_al (Below.refl _ w) _⟩
set_option maxRecDepth 100000 in
set_option maxHeartbeats 1000000 in
theorem isOdd_any (n l:Int) (w:World):Calls Try.prog 30 #[.agg #[.int .i64 n,.int .u64 l]] w fun e w'=>e=.returned (.bool (decide (n<1 ∨ n > 256)))∧Below w.heap.size w w':=by
  by_cases h0:n<1 <;> by_cases h1:n > 256 <;> first
  | (exfalso;omega)
  | (go_enter Try.func30,Try.ntmps30
     go_wp2
     go_ret
     exact ⟨by simp [h0,h1],bl_al (Below.refl _ w) _⟩)
end
end Go.Proofs.Ythjkbfamkogoiaa
namespace Go.Proofs.Ythjkbfamkogoiaa
open Go Go.RowKit Go.Proofs.Mm Go.Sort
theorem ret_w {x y:Int} (h:x=y) (hy:-9223372036854775808≤y∧y<9223372036854775808):Ending.returned (.int .i64 (wrap64 x))=Ending.returned (.int .i64 y):=by
  subst h
  rw [show wrap64 x=x from by unfold wrap64;omega]
theorem locI_yes {fs:List FnM} {j:Nat} (h:j<fs.length):locI fs (j:Int)=fs[j].params.length+min (max fs[j].locals 0) 32:=by
  have e:fs.getD (j:Int).toNat default=fs[j]:=by rw [Int.toNat_natCast,List.getD_eq_getElem?_getD,List.getElem?_eq_getElem h];rfl
  unfold locI
  rw [if_pos (by omega),e]
theorem locI_no {fs:List FnM} {f:Int} (h:¬ (0≤f∧f<fs.length)):locI fs f=0:=if_neg h
structure FnK (w:World) (g k:Nat) (lv:Int) (qp:Option Addr) (np cp:Nat) (qr:Option Addr) (nr cr:Nat) (lo st:Int) (qc:Option Addr) (nc cc:Nat):Prop where
  a0:w.cell? ⟨g,k,none⟩=some (.int .u64 lv)
  a1:w.cell? ⟨g,k+1,none⟩=some (.slice qp np cp)
  a2:w.cell? ⟨g,k+2,none⟩=some (.slice qr nr cr)
  a3:w.cell? ⟨g,k+3,none⟩=some (.int .i64 lo)
  a4:w.cell? ⟨g,k+4,none⟩=some (.int .i64 st)
  a5:w.cell? ⟨g,k+5,none⟩=some (.slice qc nc cc)
theorem FnK.le {w w':World} {g k:Nat} {lv:Int} {qp:Option Addr} {np cp:Nat} {qr:Option Addr} {nr cr:Nat} {lo st:Int} {qc:Option Addr} {nc cc:Nat} (h:FnK w g k lv qp np cp qr nr cr lo st qc nc cc) (hb:Below w.heap.size w w'):FnK w' g k lv qp np cp qr nr cr lo st qc nc cc :=
  ⟨cell_b h.a0 hb,cell_b h.a1 hb,cell_b h.a2 hb,cell_b h.a3 hb,cell_b h.a4 hb,cell_b h.a5 hb⟩
theorem fn_at {lt:Bool} {fs:List FnM} {w:World} {qf:Option Addr} (hF:FnAt lt (wC w) qf fs) {j:Nat} (hj:j<fs.length):∃ g o qp cp qr cr qc cc,qf=some ⟨g,o,none⟩ ∧
    FnK w g (o+j * 6) fs[j].level qp fs[j].params.length cp qr fs[j].results.length cr fs[j].locals fs[j].stack qc fs[j].code.length cc∧CdR lt (wC w) (.slice qc fs[j].code.length cc) fs[j].code∧fs[j].params.length≤140737488351232∧fs[j].results.length≤140737488351232∧fs[j].code.length≤140737488351232:=by
  obtain ⟨g,o,vp,vr,vc,rfl,⟨_,_,_,e,p1,p2,p3⟩,a0,a1,a2,a3,a4,a5⟩:=hF j hj
  injection e with e0 e
  injection e with e1 e
  injection e with e2 e
  injection e with e3 e
  injection e with e4 e
  injection e with e5 e
  subst e1 e2 e5
  have h1:=slx_bytes p1
  have h2:=slx_bytes p2
  have h3:=slx_bytes p3
  obtain ⟨qp,cp,rfl⟩:=slx_shape p1
  obtain ⟨qr,cr,rfl⟩:=slx_shape p2
  obtain ⟨qc,cc,rfl⟩:=slx_shape p3
  exact ⟨g,o,qp,cp,qr,cr,qc,cc,rfl,⟨a0,a1,a2,a3,a4,a5⟩,p3,by omega,by omega,by omega⟩
theorem FnAt.le {lt:Bool} {fs:List FnM} {C D:Cl} {q:Option Addr} (h:FnAt lt C q fs) (hc:CLe C D):FnAt lt D q fs:=fun j hj=>by
  obtain ⟨g,o,vp,vr,vc,e,h0,a0,a1,a2,a3,a4,a5⟩:=h j hj
  exact ⟨g,o,vp,vr,vc,e,h0.le hc,hc _ _ a0,hc _ _ a1,hc _ _ a2,hc _ _ a3,hc _ _ a4,hc _ _ a5⟩
section
variable (qg:Option Addr) (ng cg:Nat) (qa:Option Addr) (na ca:Nat) (qh:Option Addr) (nh ch:Nat) (qf:Option Addr) (nf cf:Nat)
set_option maxRecDepth 100000 in
set_option maxHeartbeats 1000000 in
theorem Locals_any {lt:Bool} {fs:List FnM} (hn:fs.length=nf) {w:World} (hF:FnAt lt (wC w) qf fs) (f:Int):Calls Try.prog 13 #[moV qg ng cg qa na ca qh nh ch qf nf cf,.int .i64 f] w fun e w'=>e=.returned (.int .i64 (locI fs f))∧Below w.heap.size w w':=by
  by_cases h:0≤f∧f<(nf:Int)
  · obtain ⟨j,rfl⟩:∃ j:Nat,f=(j:Int):=⟨f.toNat,by omega⟩
    have hj:j<fs.length:=by omega
    have hjn:(j:Int)<(nf:Int):=h.2
    have hk:fnI nf (j:Int)=true:=decide_eq_true h
    obtain ⟨g,o,qp,cp,qr,cr,qc,cc,rfl,hK,hcd,m1,_,_⟩:=fn_at hF hj
    clear hcd
    rw [locI_yes hj]
    generalize fs[j].params.length=np at *
    generalize fs[j].results.length=nr at *
    generalize fs[j].code.length=nc at *
    generalize fs[j].locals=lo at *
    generalize fs[j].level=lv at *
    generalize fs[j].stack=st at *
    have HM:=Lib.hid m1
    clear hF hn hj h m1
    go_enter Try.func13,Try.ntmps13
    go_wp2_with fail
    refine (isFn_any _ _ _ _ _ _ _ _ _ _ _ _ _ _).mono ?_
    rintro e w1 ⟨rfl,hb⟩
    have hB:=(bl_al (Below.refl _ w) (.cells #[.slice qg ng cg,.slice qa na ca,.slice qh nh ch,.slice (some ⟨g,o,none⟩) nf cf] 26)).trans (hb.mono (by simp))
    obtain ⟨a0,a1,a2,a3,a4,a5⟩:=hK.le hB
    have c3:w1.cell? ⟨w.heap.size,3,none⟩=some (.slice (some ⟨g,o,none⟩) nf cf):=cell_b ((InB.new w _ 26).cell rfl) hb
    have HB:=Lib.hid hB
    clear hb hB
    rw [hk]
    go_wp2_with fail
    go_ret
    exact ⟨ret_w rfl (by have:=HM.out;omega),bl_al HB.out _⟩
  · have hk:fnI nf f=false:=decide_eq_false h
    rw [locI_no (by rw [hn];exact h)]
    clear hF h
    go_enter Try.func13,Try.ntmps13
    go_wp2_with fail
    refine (isFn_any _ _ _ _ _ _ _ _ _ _ _ _ _ _).mono ?_
    rintro e w1 ⟨rfl,hb⟩
    rw [hk]
    go_wp2_with fail
    go_ret
    exact ⟨rfl,(bl_al (Below.refl _ w) _).trans (hb.mono (by simp))⟩
set_option maxRecDepth 100000 in
set_option maxHeartbeats 1000000 in
theorem refLocals_any {lt:Bool} {fs:List FnM} (hn:fs.length=nf) {w:World} (hF:FnAt lt (wC w) qf fs) (f:Int):Calls Try.prog 14 #[moV qg ng cg qa na ca qh nh ch qf nf cf,.int .i64 f] w fun e w'=>e=.returned (.int .i64 (locI fs f))∧Below w.heap.size w w':=by
  by_cases h:0≤f∧f<(nf:Int)
  · obtain ⟨j,rfl⟩:∃ j:Nat,f=(j:Int):=⟨f.toNat,by omega⟩
    have hj:j<fs.length:=by omega
    have hjn:(j:Int)<(nf:Int):=h.2
    obtain ⟨g,o,qp,cp,qr,cr,qc,cc,rfl,hK,hcd,m1,_,_⟩:=fn_at hF hj
    clear hcd
    rw [locI_yes hj]
    generalize fs[j].params.length=np at *
    generalize fs[j].results.length=nr at *
    generalize fs[j].code.length=nc at *
    generalize fs[j].locals=lo at *
    generalize fs[j].level=lv at *
    generalize fs[j].stack=st at *
    obtain ⟨a0,a1,a2,a3,a4,a5⟩:=hK.le (bl_al (Below.refl _ w) (.cells #[.slice qg ng cg,.slice qa na ca,.slice qh nh ch,.slice (some ⟨g,o,none⟩) nf cf] 26))
    have HM:=Lib.hid m1
    clear hF hn hj h m1 hK
    by_cases h0:lo<0
    · go_enter Try.func14,Try.ntmps14
      go_wp2_with fail
      go_ret
      exact ⟨ret_w (by omega) (by have:=HM.out;omega),bl_al (Below.refl _ w) _⟩
    · by_cases h1:lo > 32
      · go_enter Try.func14,Try.ntmps14
        go_wp2_with fail
        go_ret
        exact ⟨ret_w (by omega) (by have:=HM.out;omega),bl_al (Below.refl _ w) _⟩
      · have e:min (max lo 0) 32=lo:=by omega
        rw [e]
        clear e
        go_enter Try.func14,Try.ntmps14
        go_wp2_with fail
        go_ret
        exact ⟨ret_w rfl (by have:=HM.out;omega),bl_al (Below.refl _ w) _⟩
  · rw [locI_no (by rw [hn];exact h)]
    clear hF hn
    by_cases h0:f<0
    · go_enter Try.func14,Try.ntmps14
      go_wp2_with fail
      go_ret
      exact ⟨rfl,bl_al (Below.refl _ w) _⟩
    · have h1:f ≥ (nf:Int):=by omega
      clear h
      go_enter Try.func14,Try.ntmps14
      go_wp2_with fail
      go_ret
      exact ⟨rfl,bl_al (Below.refl _ w) _⟩
end
end Go.Proofs.Ythjkbfamkogoiaa
