/- FlowtypeLevels walked. -/
import Derived.Test.YtlpdjfimefjmcaaGreatDoorFlLevelsPR36
import Derived.Test.YtlpdjfimefjmcaaGreatDoorFlLevelsPR37
import Derived.Test.YtlpdjfimefjmcaaGreatDoorFlLevelsPR4
namespace Go.Proofs.YtlpdjfimefjmcaaGreatDoor
open Go Go.RowKit Go.Proofs.Mm Go.Sort
section
variable {W:World} {q1:Option Addr} {c1:Nat} {q2:Option Addr} {c2:Nat} {q3:Option Addr} {c3:Nat} {q4:Option Addr} {c4:Nat} {q5:Option Addr} {c5:Nat}
theorem levels_out (n1 n2 n3 n4 n5:Nat) (f:Int) (hf:¬ (0≤f∧f<n5)) :
    Calls Tryz.prog 11 #[.agg #[.slice q1 n1 c1,.slice q2 n2 c2,.slice q3 n3 c3,.slice q4 n4 c4,.slice q5 n5 c5],.int .i64 f] W (RetB (.slice none 0 0) W):=by
  have HIF:=Lib.hid (fun (w:World)=>isFunc_p (W:=w) (q1:=q1) (q2:=q2) (q3:=q3) (q4:=q4) (q5:=q5) (c1:=c1) (c2:=c2) (c3:=c3) (c4:=c4) (c5:=c5) n1 n2 n3 n4 n5 f)
  rw [decide_eq_false hf] at HIF
  have HBA:=Lib.hid (bl_al (Below.refl W.heap.size W) (.cells #[.slice q1 n1 c1,.slice q2 n2 c2,.slice q3 n3 c3,.slice q4 n4 c4,.slice q5 n5 c5] 27))
  clear hf
  go_enter Tryz.func11,Tryz.ntmps11
  go_wp2_with fail
  go_at_call 24
  refine (HIF.out _).mono ?_
  rintro e' w1 ⟨rfl,hb1⟩
  have HB1:=Lib.hid (bl_tr HBA.out hb1)
  clear hb1
  go_wp2
  go_ret
  exact ⟨rfl,HB1.out⟩
end
section
variable {W:World} {s:SoZ} {q1:Option Addr} {c1:Nat} {q2:Option Addr} {c2:Nat} {q3:Option Addr} {c3:Nat} {q4:Option Addr} {c4:Nat} {q5:Option Addr} {c5:Nat}
set_option maxRecDepth 100000 in
set_option maxHeartbeats 40000000 in
theorem flevels_p (h:SrcO false (wC W) s q1 c1 q2 c2 q3 c3 q4 c4 q5 c5) (hE:Q.Env W) (f:Int) :
    Calls Tryz.prog 5 #[.agg (srV s q1 c1 q2 c2 q3 c3 q4 c4 q5 c5),.int .i64 f] W (RetB (.bool true) W):=by
  have hlt:=hE.lt
  have HE:=Lib.hid (fun (w:World) (hw:Below W.heap.size W w)=>hE.below hw hlt)
  clear hE
  have HO:=Lib.hid h
  have HSR:=Lib.hid (fun (w:World) (hb:Below W.heap.size W w)=>show SrcR false (wC w) (.agg #[.slice q1 s.principals.length c1,.slice q2 s.globals.length c2,.slice q3 s.arrays.length c3,.slice q4 s.channels.length c4,.slice q5 s.funcs.length c5]) s from SrcR.le ⟨_,_,_,_,_,rfl,h.pr,h.gl,h.ar,h.ch,h.fn⟩ (below_cle hb))
  have HFI:=Lib.hid (fun (w:World) (hb:Below W.heap.size W w) (f:Int) (nm:ByteArray)=>find_p (W:=w) h (below_cle hb) f nm)
  have HCH:=Lib.hid h.ch.cells
  have HFN:=Lib.hid h.fn.cells
  have hl4:=slx_len h.ch
  have hl5:=slx_len h.fn
  clear h
  unfold srV
  obtain ⟨n1,hn1⟩:∃ n,s.principals.length=n:=⟨_,rfl⟩
  obtain ⟨n2,hn2⟩:∃ n,s.globals.length=n:=⟨_,rfl⟩
  obtain ⟨n3,hn3⟩:∃ n,s.arrays.length=n:=⟨_,rfl⟩
  obtain ⟨n4,hn4⟩:∃ n,s.channels.length=n:=⟨_,rfl⟩
  obtain ⟨n5,hn5⟩:∃ n,s.funcs.length=n:=⟨_,rfl⟩
  rw [hn1,hn2,hn3,hn4,hn5] at HSR HFI
  rw [hn1,hn2,hn3,hn4,hn5]
  rw [hn4] at hl4
  rw [hn5] at hl5
  have HN1:=Lib.hid hn1
  have HN2:=Lib.hid hn2
  have HN3:=Lib.hid hn3
  have HN4:=Lib.hid hn4
  have HN5:=Lib.hid hn5
  clear hn1 hn2 hn3 hn4 hn5
  obtain ⟨b,hb⟩:∃ b,W.heap.size=b:=⟨_,rfl⟩
  go_enter Tryz.func5,Tryz.ntmps5
  go_wp2_with fail
  have HJ:=Lib.hid (InB.new' (w:=W) #[.slice q1 n1 c1,.slice q2 n2 c2,.slice q3 n3 c3,.slice q4 n4 c4,.slice q5 n5 c5] 27 hb)
  have HB0:=Lib.hid (show Below W.heap.size W (W.alloc (.cells #[.slice q1 n1 c1,.slice q2 n2 c2,.slice q3 n3 c3,.slice q4 n4 c4,.slice q5 n5 c5] 27)) from bl_al (Below.refl _ _) _)
  try rw [hb]
  generalize W.alloc (.cells #[.slice q1 n1 c1,.slice q2 n2 c2,.slice q3 n3 c3,.slice q4 n4 c4,.slice q5 n5 c5] 27)=w0 at *
  clear hb
  go_at_call 7
  refine (known_p _ (HE.out _ HB0.out)).mono ?_
  rintro e w1 ⟨rfl,hb1'⟩
  have HB1:=Lib.hid (bl_tr HB0.out hb1')
  have HJ1:=Lib.hid (HJ.out.le hb1')
  clear hb1' HJ HB0
  have k0:=HJ1.out.cell (j:=0) rfl
  have k1:=HJ1.out.cell (j:=1) rfl
  have k2:=HJ1.out.cell (j:=2) rfl
  have k3:=HJ1.out.cell (j:=3) rfl
  have k4:=HJ1.out.cell (j:=4) rfl
  go_wp2_with fail
  go_at_call 9
  refine (lentSource_any (HSR.out _ HB1.out) (m:=fun _=>none) (fun k o e=>by cases e)).mono ?_
  rintro e w2 ⟨v2,m2,rfl,hb2,-,hH2,hS2⟩
  obtain ⟨p1,d1,p2,d2,p3,d3,p4,d4,p5,d5,rfl,hO2⟩:=hS2.opened
  have HB2:=Lib.hid (bl_tr HB1.out hb2)
  have HJ2:=Lib.hid (HJ1.out.le hb2)
  clear k0 k1 k2 k3 k4 hb2 hS2 HJ1 HB1
  by_cases hin:0≤f∧f<(n5:Int)
  case neg =>
    have HLO:=Lib.hid (levels_out (W:=w2) (q1:=p1) (q2:=p2) (q3:=p3) (q4:=p4) (q5:=p5) (c1:=d1) (c2:=d2) (c3:=d3) (c4:=d4) (c5:=d5) n1 n2 n3 n4 n5 f hin)
    rw [HN1.out,HN2.out,HN3.out,HN4.out,HN5.out]
    clear hH2 hO2
    go_wp2_with fail
    go_at_call 11
    refine HLO.out.mono ?_
    rintro e w3 ⟨rfl,hb3⟩
    have HB3:=Lib.hid (bl_tr HB2.out hb3)
    have HJ3:=Lib.hid (HJ2.out.le hb3)
    clear hb3 HLO HJ2 HB2
    have k4:=HJ3.out.cell (j:=4) (v:=.slice q5 n5 c5) rfl
    have hj3:=HJ3.out.lt
    by_cases h0:f<0
    · go_wp2
      go_ret
      exact ⟨rfl,HB3.out⟩
    · have h1:(n5:Int)≤f:=by omega
      go_wp2
      go_ret
      exact ⟨rfl,HB3.out⟩
  obtain ⟨hf0,hf1⟩:=hin
  obtain ⟨k,rfl⟩:=Int.eq_ofNat_of_zero_le hf0
  have hk:k<n5:=by omega
  have hk1:k<s.funcs.length:=by rw [HN5.out];exact hk
  have HLV:=Lib.hid (levels_p hO2 (has_cle hH2) k hk1)
  unfold srV at HLV
  rw [HN1.out,HN2.out,HN3.out,HN4.out,HN5.out] at HLV
  rw [HN1.out,HN2.out,HN3.out,HN4.out,HN5.out]
  clear hH2 hO2
  go_wp2_with fail
  go_at_call 11
  refine HLV.out.mono ?_
  rintro e w3 ⟨v3,rfl,hb3,ho3⟩
  obtain ⟨qL,cL,rfl⟩:=own_shape ho3
  have HO3:=Lib.hid ho3
  have HB3:=Lib.hid (bl_tr HB2.out hb3)
  have HJ3:=Lib.hid (HJ2.out.le hb3)
  clear hb3 HLV HJ2 HB2 ho3
  obtain ⟨g,o,qp,cp,qr,cr,qv,cv,qb,cb,hq,a0,a1,a2,a3,a4,a5,hlv,hp,hrr,hv,hbd⟩:=HFN.out k hk1
  subst hq
  have hnb:=slx_len hbd
  have HBD:=Lib.hid hbd.cells
  have HEN:=Lib.hid (fun (w:World) (hw:Below W.heap.size W w) (n:Nat) (hn:s.funcs[k].body.length=n)=>ends_any (w:=w) (q:=qb) (c:=cb) (n:=n) (s.funcs[k].body.map StZ.kind) (by rw [List.length_map];exact hn) (hbd.cells.body (below_cle hw)) (by omega))
  have HCK:=Lib.hid (fun (w:World) (m:Mem) (hm:Has w m) p1 d1 p2 d2 p3 d3 p4 d4 p5 d5 (hO:SrcO true (mC m) s p1 d1 p2 d2 p3 d3 p4 d4 p5 d5)=>flows_p hO (has_cle hm))
  have HSG:=Lib.hid (fun (hz:flowZ s=(0,0,0)) (i:Nat) (x:StZ) (hx:s.funcs[k].body[i]?=some x) (h3:x.kind=3)=>show ∃ j,∃ hj:j<s.channels.length,fndZ s (k:Int) x.name=some (4,j)∧within ((levelsZ s k).getD i 0) s.channels[j].label=true from by
    obtain ⟨hi,rfl⟩:=List.getElem?_eq_some_iff.1 hx
    exact send_good hz hk1 hi h3 (fun l=>exs_lt HO.out k l 0 (by decide)) (levels_lt (fun l=>exs_lt HO.out k l 0 (by decide)) (fun _=>hlv)))
  have HLF:=Lib.hid (fun hn=>levels_facts (s:=s) hk1 hn hlv)
  have HL0:=Lib.hid (fun hn=>levels_none (s:=s) hk1 hn)
  have hll:∀ j,(levelsZ s k).getD j 0<u64B:=fun j=>levelsZ_lt (fun l=>exs_lt HO.out k l 0 (by decide)) hk1 hlv j
  have HLL:=Lib.hid hll
  clear hll
  unfold wC at a0 a1 a2 a3 a4 a5
  unfold srV at HCK
  rw [HN1.out,HN2.out,HN3.out,HN4.out,HN5.out] at HCK
  obtain ⟨L,hL⟩:∃ L,levelsZ s k=L:=⟨_,rfl⟩
  rw [hL] at HO3 HSG HLF HL0 HLL ⊢
  clear hL
  obtain ⟨d,hd⟩:∃ d,s.funcs[k]=d:=⟨_,rfl⟩
  rw [hd] at a0 a1 a2 a3 a4 a5 hlv hnb HBD HEN HLF HL0 HSG
  clear hd hp hrr hv hbd
  obtain ⟨nb,hnb2⟩:∃ nb,d.body.length=nb:=⟨_,rfl⟩
  have HNB:=Lib.hid hnb2
  have HEN2:=Lib.hid (fun w hw=>HEN.out w hw nb hnb2)
  rw [hnb2] at a5 hnb
  clear hnb2 HEN
  generalize d.params.length=np at *
  generalize d.results.length=nr at *
  generalize d.vars.length=nv at *
  have k4:=HJ3.out.cell (j:=4) (v:=.slice (some ⟨g,o,none⟩) n5 c5) rfl
  have hj3:=HJ3.out.lt
  have y5:=cell_b a5 HB3.out
  have hgl:=World.block_lt_of_cell? _ _ y5
  have hki:(k:Int)<(n5:Int):=by omega
  have hkn:¬ (k:Int)<0:=by omega
  have hkm:¬ (n5:Int)≤(k:Int):=by omega
  go_wp2_with fail
  go_at_call 12
  refine (HEN2.out _ HB3.out).mono ?_
  rintro e w4 ⟨hb4,hr⟩
  have HB4:=Lib.hid (bl_tr HB3.out hb4)
  have HJ4:=Lib.hid (HJ3.out.le hb4)
  have HO4:=Lib.hid (own_chg HO3.out (Below.chg hb4 (Nat.le_refl _) (fun _=>False)) (fun _ _ e=>e))
  clear hb4 k4 hj3 y5 hgl HJ3 HB3 HO3 HEN2
  cases hE:Syn.endsM ((d.body.map StZ.kind).map Int.toNat) with
  | none =>
    rw [hE] at hr
    obtain rfl:e=_:=hr
    have HRR:=Lib.hid (HL0.out (by unfold nstZ;rw [hE];rfl))
    clear hE
    have e0:L.length=0:=by rw [HRR.out];rfl
    rw [e0]
    go_wp2
    go_ret
    exact ⟨rfl,HB4.out⟩
  | some p =>
  obtain ⟨es,ls⟩:=p
  rw [hE] at hr
  obtain ⟨qe,ce,qf,cf,H,rfl,-⟩:=hr
  have HF:=Lib.hid (HLF.out (by unfold nstZ;rw [hE];rfl))
  clear hE HLF HL0
  have hLn:L.length=nb:=by rw [HF.out.1,HNB.out]
  rw [hLn] at HO4
  rw [hLn]
  have k4:=HJ4.out.cell (j:=4) (v:=.slice (some ⟨g,o,none⟩) n5 c5) rfl
  have k0:=HJ4.out.cell (j:=0) (v:=.slice q1 n1 c1) rfl
  have k1:=HJ4.out.cell (j:=1) (v:=.slice q2 n2 c2) rfl
  have k2:=HJ4.out.cell (j:=2) (v:=.slice q3 n3 c3) rfl
  have k3:=HJ4.out.cell (j:=3) (v:=.slice q4 n4 c4) rfl
  have hj4:=HJ4.out.lt
  have y5:=cell_b a5 HB4.out
  have hgl:=World.block_lt_of_cell? _ _ y5
  go_wp2_with fail
  go_at_call 9
  refine (lentSource_any (HSR.out _ HB4.out) (m:=fun _=>none) (fun k o e=>by cases e)).mono ?_
  rintro e w5 ⟨v5,m5,rfl,hb5,-,hH5,hS5⟩
  obtain ⟨p1,d1,p2,d2,p3,d3,p4,d4,p5,d5,rfl,hO5⟩:=hS5.opened
  have HB5:=Lib.hid (bl_tr HB4.out hb5)
  have HJ5:=Lib.hid (HJ4.out.le hb5)
  have HO5:=Lib.hid (own_chg HO4.out (Below.chg hb5 (Nat.le_refl _) (fun _=>False)) (fun _ _ e=>e))
  have HCC:=Lib.hid (HCK.out w5 m5 hH5 _ _ _ _ _ _ _ _ _ _ hO5)
  clear k0 k1 k2 k3 k4 hj4 y5 hgl hb5 hS5 hH5 hO5 HJ4 HB4 HO4 HCK
  rw [HN1.out,HN2.out,HN3.out,HN4.out,HN5.out]
  go_wp2_with fail
  go_at_call 10
  refine HCC.out.mono ?_
  rintro e w6 ⟨rfl,hb6⟩
  have HB6:=Lib.hid (bl_tr HB5.out hb6)
  have HJ6:=Lib.hid (HJ5.out.le hb6)
  have HO6:=Lib.hid (own_chg HO5.out (Below.chg hb6 (Nat.le_refl _) (fun _=>False)) (fun _ _ e=>e))
  clear hb6 HJ5 HB5 HO5 HCC
  have HNZ:=Lib.hid (fun (hz:(flowZ s).1=0)=>flow_ne hz)
  generalize flowZ s=R at *
  obtain ⟨ra,rb,rc⟩:=R
  unfold flA
  by_cases hg:ra=0
  · have hz:=HNZ.out hg
    simp only [Prod.mk.injEq] at hz
    obtain ⟨-,rfl,rfl⟩:=hz
    subst hg
    go_upto_region 13 with fail
    have HI0:=Lib.hid (Below.refl w6.heap.size w6)
    go_loopw [10] (fun i wr=>∃ j:Nat,j≤nb∧i=.int .i64 j∧Hid (Below w6.heap.size w6 wr)) (fun i _=>nb - (intOf i).toNat)
    case atStart=>exact ⟨0,Nat.zero_le _,rfl,HI0⟩
    case round =>
      clear HI0
      obtain ⟨j,hj,rfl,HBI⟩:=hrel
      obtain ⟨V,h9⟩:∃ w,w=wr:=⟨_,rfl⟩
      subst h9
      have HBV:=Lib.hid (bl_tr HB6.out HBI.out)
      have HJV:=Lib.hid (HJ6.out.le HBI.out)
      have HOV:=Lib.hid (own_chg HO6.out (Below.chg HBI.out (Nat.le_refl _) (fun _=>False)) (fun _ _ e=>e))
      by_cases hlj:j<nb
      · have hj1:j<d.body.length:=by rw [HNB.out];exact hlj
        obtain ⟨gb,ob,qt,ct,qe,ce,hqb,b0,b1,b2,b3,ht,he⟩:=HBD.out j hj1
        have hle:=below_cle HBV.out
        have y0:=hle _ _ b0
        have y1:=hle _ _ b1
        have y2:=hle _ _ b2
        have y3:=hle _ _ b3
        unfold wC at y0 y1 y2 y3
        have HSL:=slx_len he
        have hLj:j<L.length:=by rw [hLn];exact hlj
        obtain ⟨gL,hqL,hcL⟩:=own_lab HOV.out hLj
        obtain ⟨f1,f2,f3⟩:=HF.out.2 j hj1
        have HX:=Lib.hid (fun hz (h3:d.body[j].kind=3)=>HSG.out hz j d.body[j] (List.getElem?_eq_getElem hj1) h3)
        have hlvj:=HLL.out j
        obtain ⟨lv,hlv2⟩:∃ lv,L.getD j 0=lv:=⟨_,rfl⟩
        rw [hlv2] at HX hcL f1 f2 f3 hlvj
        obtain ⟨x,hx⟩:∃ x,d.body[j]=x:=⟨_,rfl⟩
        rw [hx] at y0 y1 y2 y3 HX
        clear hx b0 b1 b2 b3 ht he hle hlv2 HSL
        obtain ⟨kd,xn,ts,es'⟩:=x
        simp only at y0 y1 y2 y3 HX
        generalize ts.length=nt at *
        generalize es'.length=ne at *
        have eand:bits .andNot .u64 (d.level:Int) (lv:Int)=0:=by
          rw [bits_andNot_nat _ _ hlv hlvj]
          have e9:minusN d.level lv=0:=by unfold within at f1;exact beq_iff_eq.1 f1
          rw [e9];rfl
        rw [HNB.out] at f3
        subst hqb
        subst hqL
        have hji:(j:Int)<(nb:Int):=by omega
        have HBX:=Lib.hid (bl_al HBV.out (.cells #[.int .i64 kd,.string xn,.slice qt nt ct,.slice qe ne ce] 47))
        have HIX:=Lib.hid (InB.new V #[.int .i64 kd,.string xn,.slice qt nt ct,.slice qe ne ce] 47)
        have HJX:=Lib.hid (HJV.out.le (bl_al (Below.refl _ _) (.cells #[.int .i64 kd,.string xn,.slice qt nt ct,.slice qe ne ce] 47)))
        have hcX:=below_cle (bl_al (Below.refl _ V) (.cells #[.int .i64 kd,.string xn,.slice qt nt ct,.slice qe ne ce] 47)) _ _ hcL
        unfold wC at hcX
        have HBY:=Lib.hid (bl_al HBI.out (.cells #[.int .i64 kd,.string xn,.slice qt nt ct,.slice qe ne ce] 47))
        have k4:=HJV.out.cell (j:=4) (v:=.slice (some ⟨g,o,none⟩) n5 c5) rfl
        have hjv:=HJV.out.lt
        have y5:=cell_b a5 HBV.out
        have hgl:=World.block_lt_of_cell? _ _ y5
        have hgb:=World.block_lt_of_cell? _ _ y0
        obtain ⟨V2,hV2⟩:∃ V2,V.alloc (.cells #[.int .i64 kd,.string xn,.slice qt nt ct,.slice qe ne ce] 47)=V2:=⟨_,rfl⟩
        obtain ⟨bx,hbx⟩:∃ bx,V.heap.size=bx:=⟨_,rfl⟩
        rw [hV2] at HBX HIX HJX hcX HBY
        rw [hbx] at HIX
        go_upto_region 16 with fail
        try rw [hV2]
        try rw [hbx]
        clear hV2 hbx y0 y1 y2 y3 y5 hgl hgb hcL k4 hjv HJV HOV
        have k4:=cell_regrown (HJX.out.cell (j:=4) rfl)
        have yv:=cell_regrown (cell_b a1 HBX.out)
        have yL:=cell_regrown hcX
        clear hcX
        obtain ⟨dl,hdl⟩:∃ dl,d.level=dl:=⟨_,rfl⟩
        rw [hdl] at yv eand f2 f3
        clear hdl
        by_cases h0:j=0
        · subst h0
          obtain rfl:lv=dl:=f2 rfl
          by_cases h1:0+1=nb
          · have h1i:((0:Int) == (nb:Int) - 1)=true:=by rw [beq_iff_eq];omega
            clear h1
            refine wp_region_quiet_below (by kernel_rfl) (by kernel_rfl) ?_
            iterate 49 (go_big_quiet_step (fail))
            refine wpQuiet_nil ?_
            intro _ hw'
            obtain ⟨⟨dq,osq⟩,hw''⟩:=hw'
            subst hw''
            have HV3:=Lib.hid (below_regrown V2 dq osq)
            have HBZ:=Lib.hid (bl_tr HBY.out HV3.out)
            have HYL:=Lib.hid (yL dq osq)
            generalize grow (redrawn V2 dq) osq=V3 at HV3 HBZ HYL ⊢
            clear k4 yv yL
            rename_i hK
            refine hK _ _ ?_
            clear hK
            have HIZ:=Lib.hid (HIX.out.le HV3.out)
            have HJZ:=Lib.hid (HJX.out.le HV3.out)
            have y0:=HIZ.out.cell (j:=0) (v:=.int .i64 kd) rfl
            have y1:=HIZ.out.cell (j:=1) (v:=.string xn) rfl
            have hlx:=HIZ.out.lt
            by_cases h3:kd=3
            case neg =>
              clear hji hj1 hLj HX
              go_wp2
              exact ⟨⟨0+1,by omega,by go_num,HBZ⟩,by simp [intOf] <;> omega⟩
            subst h3
            obtain ⟨jc,hjc,hfz,hwz⟩:=HX.out trivial rfl
            have HFD:=Lib.hid (fun w hw=>HFI.out w hw (k:Int) xn)
            rw [hfz] at HFD
            unfold refV at HFD
            obtain ⟨g4,o4,hq4,z0,z1,hcl⟩:=HCH.out jc hjc
            subst hq4
            have eand2:bits .andNot .u64 (lv:Int) (s.channels[jc].label:Int)=0:=by
              rw [bits_andNot_nat _ _ hlvj hcl]
              have e9:minusN lv s.channels[jc].label=0:=by unfold within at hwz;exact beq_iff_eq.1 hwz
              rw [e9];rfl
            obtain ⟨cl,hcl2⟩:∃ cl,s.channels[jc].label=cl:=⟨_,rfl⟩
            rw [hcl2] at z1 eand2
            have hj4:jc<n4:=by rw [← HN4.out];exact hjc
            clear hcl2 hcl hwz hfz z0 HX
            have k0:=HJZ.out.cell (j:=0) (v:=.slice q1 n1 c1) rfl
            have k1:=HJZ.out.cell (j:=1) (v:=.slice q2 n2 c2) rfl
            have k2:=HJZ.out.cell (j:=2) (v:=.slice q3 n3 c3) rfl
            have k3:=HJZ.out.cell (j:=3) (v:=.slice (some ⟨g4,o4,none⟩) n4 c4) rfl
            have k4:=HJZ.out.cell (j:=4) (v:=.slice (some ⟨g,o,none⟩) n5 c5) rfl
            have hjz:=HJZ.out.lt
            have HCL:=Lib.hid z1
            clear hji hj1 hLj z1
            go_wp2_with fail
            go_at_call 13
            refine (HFD.out _ (bl_tr HB6.out HBZ.out)).mono ?_
            rintro e V4 ⟨rfl,hb4⟩
            have HB8:=Lib.hid (bl_tr HBZ.out hb4)
            have HJ8:=Lib.hid (HJZ.out.le hb4)
            have hyl:=cell_b HYL.out hb4
            clear k0 k1 k2 k3 k4 hjz y0 y1 hlx hb4 HJZ HFD HIZ HIX HJX HYL
            have HB9:=Lib.hid (bl_tr HB8.out (bl_al (Below.refl V4.heap.size V4) (.cells #[.int .i64 4,.int .i64 (jc:Int)] 54)))
            have HI9:=Lib.hid (InB.new V4 #[.int .i64 4,.int .i64 (jc:Int)] 54)
            have HJ9:=Lib.hid (HJ8.out.le (bl_al (Below.refl V4.heap.size V4) (.cells #[.int .i64 4,.int .i64 (jc:Int)] 54)))
            have hyl9:=cell_b hyl (bl_al (Below.refl V4.heap.size V4) (.cells #[.int .i64 4,.int .i64 (jc:Int)] 54))
            have hjci:(jc:Int)<(n4:Int):=by omega
            clear hyl HJ8
            go_upto_region 20 with fail
            obtain ⟨V5,hV5⟩:∃ V5,V4.alloc (.cells #[.int .i64 4,.int .i64 (jc:Int)] 54)=V5:=⟨_,rfl⟩
            obtain ⟨br,hbr⟩:∃ br,V4.heap.size=br:=⟨_,rfl⟩
            rw [hV5] at HB9 HI9 HJ9 hyl9 ⊢
            rw [hbr] at HI9
            try rw [hbr]
            clear hV5 hbr
            have k3:=cell_regrown (HJ9.out.cell (j:=3) rfl)
            have r0:=cell_regrown (HI9.out.cell (j:=0) rfl)
            have r1:=cell_regrown (HI9.out.cell (j:=1) rfl)
            have yL:=cell_regrown hyl9
            have zc:=cell_regrown (cell_b HCL.out (bl_tr HB6.out HB9.out))
            clear hyl9 HI9 HJ9 HCL
            have hji:(0:Int)<(nb:Int):=by omega
            refine wp_region_quiet_below (by kernel_rfl) (by kernel_rfl) ?_
            iterate 22 (go_big_quiet_step (fail))
            refine wpQuiet_nil ?_
            intro _ hw'
            obtain ⟨⟨dq2,osq2⟩,hw''⟩:=hw'
            subst hw''
            have HBX2:=Lib.hid (bl_tr HB9.out (below_regrown V5 dq2 osq2))
            generalize grow (redrawn V5 dq2) osq2=V6 at HBX2 ⊢
            clear k3 r0 r1 yL zc
            rename_i hK
            refine hK _ _ ?_
            clear hK hji hjci
            go_wp2
            exact ⟨⟨0+1,by omega,by go_num,HBX2⟩,by simp [intOf] <;> omega⟩
          · have h1i:((0:Int) == (nb:Int) - 1)=false:=by rw [beq_eq_false_iff_ne];omega
            refine wp_region_quiet_below (by kernel_rfl) (by kernel_rfl) ?_
            iterate 49 (go_big_quiet_step (fail))
            refine wpQuiet_nil ?_
            intro _ hw'
            obtain ⟨⟨dq,osq⟩,hw''⟩:=hw'
            subst hw''
            have HV3:=Lib.hid (below_regrown V2 dq osq)
            have HBZ:=Lib.hid (bl_tr HBY.out HV3.out)
            have HYL:=Lib.hid (yL dq osq)
            generalize grow (redrawn V2 dq) osq=V3 at HV3 HBZ HYL ⊢
            clear k4 yv yL
            rename_i hK
            refine hK _ _ ?_
            clear hK
            have HIZ:=Lib.hid (HIX.out.le HV3.out)
            have HJZ:=Lib.hid (HJX.out.le HV3.out)
            have y0:=HIZ.out.cell (j:=0) (v:=.int .i64 kd) rfl
            have y1:=HIZ.out.cell (j:=1) (v:=.string xn) rfl
            have hlx:=HIZ.out.lt
            by_cases h3:kd=3
            case neg =>
              clear hji hj1 hLj HX
              go_wp2
              exact ⟨⟨0+1,by omega,by go_num,HBZ⟩,by simp [intOf] <;> omega⟩
            subst h3
            obtain ⟨jc,hjc,hfz,hwz⟩:=HX.out trivial rfl
            have HFD:=Lib.hid (fun w hw=>HFI.out w hw (k:Int) xn)
            rw [hfz] at HFD
            unfold refV at HFD
            obtain ⟨g4,o4,hq4,z0,z1,hcl⟩:=HCH.out jc hjc
            subst hq4
            have eand2:bits .andNot .u64 (lv:Int) (s.channels[jc].label:Int)=0:=by
              rw [bits_andNot_nat _ _ hlvj hcl]
              have e9:minusN lv s.channels[jc].label=0:=by unfold within at hwz;exact beq_iff_eq.1 hwz
              rw [e9];rfl
            obtain ⟨cl,hcl2⟩:∃ cl,s.channels[jc].label=cl:=⟨_,rfl⟩
            rw [hcl2] at z1 eand2
            have hj4:jc<n4:=by rw [← HN4.out];exact hjc
            clear hcl2 hcl hwz hfz z0 HX
            have k0:=HJZ.out.cell (j:=0) (v:=.slice q1 n1 c1) rfl
            have k1:=HJZ.out.cell (j:=1) (v:=.slice q2 n2 c2) rfl
            have k2:=HJZ.out.cell (j:=2) (v:=.slice q3 n3 c3) rfl
            have k3:=HJZ.out.cell (j:=3) (v:=.slice (some ⟨g4,o4,none⟩) n4 c4) rfl
            have k4:=HJZ.out.cell (j:=4) (v:=.slice (some ⟨g,o,none⟩) n5 c5) rfl
            have hjz:=HJZ.out.lt
            have HCL:=Lib.hid z1
            clear hji hj1 hLj z1
            go_wp2_with fail
            go_at_call 13
            refine (HFD.out _ (bl_tr HB6.out HBZ.out)).mono ?_
            rintro e V4 ⟨rfl,hb4⟩
            have HB8:=Lib.hid (bl_tr HBZ.out hb4)
            have HJ8:=Lib.hid (HJZ.out.le hb4)
            have hyl:=cell_b HYL.out hb4
            clear k0 k1 k2 k3 k4 hjz y0 y1 hlx hb4 HJZ HFD HIZ HIX HJX HYL
            have HB9:=Lib.hid (bl_tr HB8.out (bl_al (Below.refl V4.heap.size V4) (.cells #[.int .i64 4,.int .i64 (jc:Int)] 54)))
            have HI9:=Lib.hid (InB.new V4 #[.int .i64 4,.int .i64 (jc:Int)] 54)
            have HJ9:=Lib.hid (HJ8.out.le (bl_al (Below.refl V4.heap.size V4) (.cells #[.int .i64 4,.int .i64 (jc:Int)] 54)))
            have hyl9:=cell_b hyl (bl_al (Below.refl V4.heap.size V4) (.cells #[.int .i64 4,.int .i64 (jc:Int)] 54))
            have hjci:(jc:Int)<(n4:Int):=by omega
            clear hyl HJ8
            go_upto_region 20 with fail
            obtain ⟨V5,hV5⟩:∃ V5,V4.alloc (.cells #[.int .i64 4,.int .i64 (jc:Int)] 54)=V5:=⟨_,rfl⟩
            obtain ⟨br,hbr⟩:∃ br,V4.heap.size=br:=⟨_,rfl⟩
            rw [hV5] at HB9 HI9 HJ9 hyl9 ⊢
            rw [hbr] at HI9
            try rw [hbr]
            clear hV5 hbr
            have k3:=cell_regrown (HJ9.out.cell (j:=3) rfl)
            have r0:=cell_regrown (HI9.out.cell (j:=0) rfl)
            have r1:=cell_regrown (HI9.out.cell (j:=1) rfl)
            have yL:=cell_regrown hyl9
            have zc:=cell_regrown (cell_b HCL.out (bl_tr HB6.out HB9.out))
            clear hyl9 HI9 HJ9 HCL
            have hji:(0:Int)<(nb:Int):=by omega
            refine wp_region_quiet_below (by kernel_rfl) (by kernel_rfl) ?_
            iterate 22 (go_big_quiet_step (fail))
            refine wpQuiet_nil ?_
            intro _ hw'
            obtain ⟨⟨dq2,osq2⟩,hw''⟩:=hw'
            subst hw''
            have HBX2:=Lib.hid (bl_tr HB9.out (below_regrown V5 dq2 osq2))
            generalize grow (redrawn V5 dq2) osq2=V6 at HBX2 ⊢
            clear k3 r0 r1 yL zc
            rename_i hK
            refine hK _ _ ?_
            clear hK hji hjci
            go_wp2
            exact ⟨⟨0+1,by omega,by go_num,HBX2⟩,by simp [intOf] <;> omega⟩
        · have h0i:((j:Int) == 0)=false:=by rw [beq_eq_false_iff_ne];omega
          by_cases h1:j+1=nb
          · obtain rfl:lv=dl:=f3 h1
            have h1i:((j:Int) == (nb:Int) - 1)=true:=by rw [beq_iff_eq];omega
            clear h1
            refine wp_region_quiet_below (by kernel_rfl) (by kernel_rfl) ?_
            iterate 49 (go_big_quiet_step (fail))
            refine wpQuiet_nil ?_
            intro _ hw'
            obtain ⟨⟨dq,osq⟩,hw''⟩:=hw'
            subst hw''
            have HV3:=Lib.hid (below_regrown V2 dq osq)
            have HBZ:=Lib.hid (bl_tr HBY.out HV3.out)
            have HYL:=Lib.hid (yL dq osq)
            generalize grow (redrawn V2 dq) osq=V3 at HV3 HBZ HYL ⊢
            clear k4 yv yL
            rename_i hK
            refine hK _ _ ?_
            clear hK
            have HIZ:=Lib.hid (HIX.out.le HV3.out)
            have HJZ:=Lib.hid (HJX.out.le HV3.out)
            have y0:=HIZ.out.cell (j:=0) (v:=.int .i64 kd) rfl
            have y1:=HIZ.out.cell (j:=1) (v:=.string xn) rfl
            have hlx:=HIZ.out.lt
            by_cases h3:kd=3
            case neg =>
              clear hji hj1 hLj HX
              go_wp2
              exact ⟨⟨j+1,by omega,by go_num,HBZ⟩,by simp [intOf] <;> omega⟩
            subst h3
            obtain ⟨jc,hjc,hfz,hwz⟩:=HX.out trivial rfl
            have HFD:=Lib.hid (fun w hw=>HFI.out w hw (k:Int) xn)
            rw [hfz] at HFD
            unfold refV at HFD
            obtain ⟨g4,o4,hq4,z0,z1,hcl⟩:=HCH.out jc hjc
            subst hq4
            have eand2:bits .andNot .u64 (lv:Int) (s.channels[jc].label:Int)=0:=by
              rw [bits_andNot_nat _ _ hlvj hcl]
              have e9:minusN lv s.channels[jc].label=0:=by unfold within at hwz;exact beq_iff_eq.1 hwz
              rw [e9];rfl
            obtain ⟨cl,hcl2⟩:∃ cl,s.channels[jc].label=cl:=⟨_,rfl⟩
            rw [hcl2] at z1 eand2
            have hj4:jc<n4:=by rw [← HN4.out];exact hjc
            clear hcl2 hcl hwz hfz z0 HX
            have k0:=HJZ.out.cell (j:=0) (v:=.slice q1 n1 c1) rfl
            have k1:=HJZ.out.cell (j:=1) (v:=.slice q2 n2 c2) rfl
            have k2:=HJZ.out.cell (j:=2) (v:=.slice q3 n3 c3) rfl
            have k3:=HJZ.out.cell (j:=3) (v:=.slice (some ⟨g4,o4,none⟩) n4 c4) rfl
            have k4:=HJZ.out.cell (j:=4) (v:=.slice (some ⟨g,o,none⟩) n5 c5) rfl
            have hjz:=HJZ.out.lt
            have HCL:=Lib.hid z1
            clear hji hj1 hLj z1
            go_wp2_with fail
            go_at_call 13
            refine (HFD.out _ (bl_tr HB6.out HBZ.out)).mono ?_
            rintro e V4 ⟨rfl,hb4⟩
            have HB8:=Lib.hid (bl_tr HBZ.out hb4)
            have HJ8:=Lib.hid (HJZ.out.le hb4)
            have hyl:=cell_b HYL.out hb4
            clear k0 k1 k2 k3 k4 hjz y0 y1 hlx hb4 HJZ HFD HIZ HIX HJX HYL
            have HB9:=Lib.hid (bl_tr HB8.out (bl_al (Below.refl V4.heap.size V4) (.cells #[.int .i64 4,.int .i64 (jc:Int)] 54)))
            have HI9:=Lib.hid (InB.new V4 #[.int .i64 4,.int .i64 (jc:Int)] 54)
            have HJ9:=Lib.hid (HJ8.out.le (bl_al (Below.refl V4.heap.size V4) (.cells #[.int .i64 4,.int .i64 (jc:Int)] 54)))
            have hyl9:=cell_b hyl (bl_al (Below.refl V4.heap.size V4) (.cells #[.int .i64 4,.int .i64 (jc:Int)] 54))
            have hjci:(jc:Int)<(n4:Int):=by omega
            clear hyl HJ8
            go_upto_region 20 with fail
            obtain ⟨V5,hV5⟩:∃ V5,V4.alloc (.cells #[.int .i64 4,.int .i64 (jc:Int)] 54)=V5:=⟨_,rfl⟩
            obtain ⟨br,hbr⟩:∃ br,V4.heap.size=br:=⟨_,rfl⟩
            rw [hV5] at HB9 HI9 HJ9 hyl9 ⊢
            rw [hbr] at HI9
            try rw [hbr]
            clear hV5 hbr
            have k3:=cell_regrown (HJ9.out.cell (j:=3) rfl)
            have r0:=cell_regrown (HI9.out.cell (j:=0) rfl)
            have r1:=cell_regrown (HI9.out.cell (j:=1) rfl)
            have yL:=cell_regrown hyl9
            have zc:=cell_regrown (cell_b HCL.out (bl_tr HB6.out HB9.out))
            clear hyl9 HI9 HJ9 HCL
            have hji:(j:Int)<(nb:Int):=by omega
            refine wp_region_quiet_below (by kernel_rfl) (by kernel_rfl) ?_
            iterate 22 (go_big_quiet_step (fail))
            refine wpQuiet_nil ?_
            intro _ hw'
            obtain ⟨⟨dq2,osq2⟩,hw''⟩:=hw'
            subst hw''
            have HBX2:=Lib.hid (bl_tr HB9.out (below_regrown V5 dq2 osq2))
            generalize grow (redrawn V5 dq2) osq2=V6 at HBX2 ⊢
            clear k3 r0 r1 yL zc
            rename_i hK
            refine hK _ _ ?_
            clear hK hji hjci
            go_wp2
            exact ⟨⟨j+1,by omega,by go_num,HBX2⟩,by simp [intOf] <;> omega⟩
          · have h1i:((j:Int) == (nb:Int) - 1)=false:=by rw [beq_eq_false_iff_ne];omega
            refine wp_region_quiet_below (by kernel_rfl) (by kernel_rfl) ?_
            iterate 49 (go_big_quiet_step (fail))
            refine wpQuiet_nil ?_
            intro _ hw'
            obtain ⟨⟨dq,osq⟩,hw''⟩:=hw'
            subst hw''
            have HV3:=Lib.hid (below_regrown V2 dq osq)
            have HBZ:=Lib.hid (bl_tr HBY.out HV3.out)
            have HYL:=Lib.hid (yL dq osq)
            generalize grow (redrawn V2 dq) osq=V3 at HV3 HBZ HYL ⊢
            clear k4 yv yL
            rename_i hK
            refine hK _ _ ?_
            clear hK
            have HIZ:=Lib.hid (HIX.out.le HV3.out)
            have HJZ:=Lib.hid (HJX.out.le HV3.out)
            have y0:=HIZ.out.cell (j:=0) (v:=.int .i64 kd) rfl
            have y1:=HIZ.out.cell (j:=1) (v:=.string xn) rfl
            have hlx:=HIZ.out.lt
            by_cases h3:kd=3
            case neg =>
              clear hji hj1 hLj HX
              go_wp2
              exact ⟨⟨j+1,by omega,by go_num,HBZ⟩,by simp [intOf] <;> omega⟩
            subst h3
            obtain ⟨jc,hjc,hfz,hwz⟩:=HX.out trivial rfl
            have HFD:=Lib.hid (fun w hw=>HFI.out w hw (k:Int) xn)
            rw [hfz] at HFD
            unfold refV at HFD
            obtain ⟨g4,o4,hq4,z0,z1,hcl⟩:=HCH.out jc hjc
            subst hq4
            have eand2:bits .andNot .u64 (lv:Int) (s.channels[jc].label:Int)=0:=by
              rw [bits_andNot_nat _ _ hlvj hcl]
              have e9:minusN lv s.channels[jc].label=0:=by unfold within at hwz;exact beq_iff_eq.1 hwz
              rw [e9];rfl
            obtain ⟨cl,hcl2⟩:∃ cl,s.channels[jc].label=cl:=⟨_,rfl⟩
            rw [hcl2] at z1 eand2
            have hj4:jc<n4:=by rw [← HN4.out];exact hjc
            clear hcl2 hcl hwz hfz z0 HX
            have k0:=HJZ.out.cell (j:=0) (v:=.slice q1 n1 c1) rfl
            have k1:=HJZ.out.cell (j:=1) (v:=.slice q2 n2 c2) rfl
            have k2:=HJZ.out.cell (j:=2) (v:=.slice q3 n3 c3) rfl
            have k3:=HJZ.out.cell (j:=3) (v:=.slice (some ⟨g4,o4,none⟩) n4 c4) rfl
            have k4:=HJZ.out.cell (j:=4) (v:=.slice (some ⟨g,o,none⟩) n5 c5) rfl
            have hjz:=HJZ.out.lt
            have HCL:=Lib.hid z1
            clear hji hj1 hLj z1
            go_wp2_with fail
            go_at_call 13
            refine (HFD.out _ (bl_tr HB6.out HBZ.out)).mono ?_
            rintro e V4 ⟨rfl,hb4⟩
            have HB8:=Lib.hid (bl_tr HBZ.out hb4)
            have HJ8:=Lib.hid (HJZ.out.le hb4)
            have hyl:=cell_b HYL.out hb4
            clear k0 k1 k2 k3 k4 hjz y0 y1 hlx hb4 HJZ HFD HIZ HIX HJX HYL
            have HB9:=Lib.hid (bl_tr HB8.out (bl_al (Below.refl V4.heap.size V4) (.cells #[.int .i64 4,.int .i64 (jc:Int)] 54)))
            have HI9:=Lib.hid (InB.new V4 #[.int .i64 4,.int .i64 (jc:Int)] 54)
            have HJ9:=Lib.hid (HJ8.out.le (bl_al (Below.refl V4.heap.size V4) (.cells #[.int .i64 4,.int .i64 (jc:Int)] 54)))
            have hyl9:=cell_b hyl (bl_al (Below.refl V4.heap.size V4) (.cells #[.int .i64 4,.int .i64 (jc:Int)] 54))
            have hjci:(jc:Int)<(n4:Int):=by omega
            clear hyl HJ8
            go_upto_region 20 with fail
            obtain ⟨V5,hV5⟩:∃ V5,V4.alloc (.cells #[.int .i64 4,.int .i64 (jc:Int)] 54)=V5:=⟨_,rfl⟩
            obtain ⟨br,hbr⟩:∃ br,V4.heap.size=br:=⟨_,rfl⟩
            rw [hV5] at HB9 HI9 HJ9 hyl9 ⊢
            rw [hbr] at HI9
            try rw [hbr]
            clear hV5 hbr
            have k3:=cell_regrown (HJ9.out.cell (j:=3) rfl)
            have r0:=cell_regrown (HI9.out.cell (j:=0) rfl)
            have r1:=cell_regrown (HI9.out.cell (j:=1) rfl)
            have yL:=cell_regrown hyl9
            have zc:=cell_regrown (cell_b HCL.out (bl_tr HB6.out HB9.out))
            clear hyl9 HI9 HJ9 HCL
            have hji:(j:Int)<(nb:Int):=by omega
            refine wp_region_quiet_below (by kernel_rfl) (by kernel_rfl) ?_
            iterate 22 (go_big_quiet_step (fail))
            refine wpQuiet_nil ?_
            intro _ hw'
            obtain ⟨⟨dq2,osq2⟩,hw''⟩:=hw'
            subst hw''
            have HBX2:=Lib.hid (bl_tr HB9.out (below_regrown V5 dq2 osq2))
            generalize grow (redrawn V5 dq2) osq2=V6 at HBX2 ⊢
            clear k3 r0 r1 yL zc
            rename_i hK
            refine hK _ _ ?_
            clear hK hji hjci
            go_wp2
            exact ⟨⟨j+1,by omega,by go_num,HBX2⟩,by simp [intOf] <;> omega⟩
      · obtain rfl:j=nb:=by omega
        go_wp2
        go_ret
        exact ⟨rfl,HBV.out⟩
  · clear HSG HNZ
    go_upto_region 13 with fail
    have HI0:=Lib.hid (Below.refl w6.heap.size w6)
    go_loopw [10] (fun i wr=>∃ j:Nat,j≤nb∧i=.int .i64 j∧Hid (Below w6.heap.size w6 wr)) (fun i _=>nb - (intOf i).toNat)
    case atStart=>exact ⟨0,Nat.zero_le _,rfl,HI0⟩
    case round =>
      clear HI0
      obtain ⟨j,hj,rfl,HBI⟩:=hrel
      obtain ⟨V,h9⟩:∃ w,w=wr:=⟨_,rfl⟩
      subst h9
      have HBV:=Lib.hid (bl_tr HB6.out HBI.out)
      have HJV:=Lib.hid (HJ6.out.le HBI.out)
      have HOV:=Lib.hid (own_chg HO6.out (Below.chg HBI.out (Nat.le_refl _) (fun _=>False)) (fun _ _ e=>e))
      by_cases hlj:j<nb
      · have hj1:j<d.body.length:=by rw [HNB.out];exact hlj
        obtain ⟨gb,ob,qt,ct,qe,ce,hqb,b0,b1,b2,b3,ht,he⟩:=HBD.out j hj1
        have hle:=below_cle HBV.out
        have y0:=hle _ _ b0
        have y1:=hle _ _ b1
        have y2:=hle _ _ b2
        have y3:=hle _ _ b3
        unfold wC at y0 y1 y2 y3
        have HSL:=slx_len he
        have hLj:j<L.length:=by rw [hLn];exact hlj
        obtain ⟨gL,hqL,hcL⟩:=own_lab HOV.out hLj
        obtain ⟨f1,f2,f3⟩:=HF.out.2 j hj1
        have hlvj:=HLL.out j
        obtain ⟨lv,hlv2⟩:∃ lv,L.getD j 0=lv:=⟨_,rfl⟩
        rw [hlv2] at hcL f1 f2 f3 hlvj
        obtain ⟨x,hx⟩:∃ x,d.body[j]=x:=⟨_,rfl⟩
        rw [hx] at y0 y1 y2 y3
        clear hx b0 b1 b2 b3 ht he hle hlv2 HSL
        obtain ⟨kd,xn,ts,es'⟩:=x
        simp only at y0 y1 y2 y3
        generalize ts.length=nt at *
        generalize es'.length=ne at *
        have eand:bits .andNot .u64 (d.level:Int) (lv:Int)=0:=by
          rw [bits_andNot_nat _ _ hlv hlvj]
          have e9:minusN d.level lv=0:=by unfold within at f1;exact beq_iff_eq.1 f1
          rw [e9];rfl
        rw [HNB.out] at f3
        subst hqb
        subst hqL
        have hji:(j:Int)<(nb:Int):=by omega
        have HBX:=Lib.hid (bl_al HBV.out (.cells #[.int .i64 kd,.string xn,.slice qt nt ct,.slice qe ne ce] 47))
        have HIX:=Lib.hid (InB.new V #[.int .i64 kd,.string xn,.slice qt nt ct,.slice qe ne ce] 47)
        have HJX:=Lib.hid (HJV.out.le (bl_al (Below.refl _ _) (.cells #[.int .i64 kd,.string xn,.slice qt nt ct,.slice qe ne ce] 47)))
        have hcX:=below_cle (bl_al (Below.refl _ V) (.cells #[.int .i64 kd,.string xn,.slice qt nt ct,.slice qe ne ce] 47)) _ _ hcL
        unfold wC at hcX
        have HBY:=Lib.hid (bl_al HBI.out (.cells #[.int .i64 kd,.string xn,.slice qt nt ct,.slice qe ne ce] 47))
        have k4:=HJV.out.cell (j:=4) (v:=.slice (some ⟨g,o,none⟩) n5 c5) rfl
        have hjv:=HJV.out.lt
        have y5:=cell_b a5 HBV.out
        have hgl:=World.block_lt_of_cell? _ _ y5
        have hgb:=World.block_lt_of_cell? _ _ y0
        obtain ⟨V2,hV2⟩:∃ V2,V.alloc (.cells #[.int .i64 kd,.string xn,.slice qt nt ct,.slice qe ne ce] 47)=V2:=⟨_,rfl⟩
        obtain ⟨bx,hbx⟩:∃ bx,V.heap.size=bx:=⟨_,rfl⟩
        rw [hV2] at HBX HIX HJX hcX HBY
        rw [hbx] at HIX
        go_upto_region 16 with fail
        try rw [hV2]
        try rw [hbx]
        clear hV2 hbx y0 y1 y2 y3 y5 hgl hgb hcL k4 hjv HJV HOV
        have k4:=cell_regrown (HJX.out.cell (j:=4) rfl)
        have yv:=cell_regrown (cell_b a1 HBX.out)
        have yL:=cell_regrown hcX
        clear hcX
        obtain ⟨dl,hdl⟩:∃ dl,d.level=dl:=⟨_,rfl⟩
        rw [hdl] at yv eand f2 f3
        clear hdl
        by_cases h0:j=0
        · subst h0
          obtain rfl:lv=dl:=f2 rfl
          by_cases h1:0+1=nb
          · have h1i:((0:Int) == (nb:Int) - 1)=true:=by rw [beq_iff_eq];omega
            clear h1
            refine wp_region_quiet_below (by kernel_rfl) (by kernel_rfl) ?_
            iterate 49 (go_big_quiet_step (fail))
            refine wpQuiet_nil ?_
            intro _ hw'
            obtain ⟨⟨dq,osq⟩,hw''⟩:=hw'
            subst hw''
            have HV3:=Lib.hid (below_regrown V2 dq osq)
            have HBZ:=Lib.hid (bl_tr HBY.out HV3.out)
            have HYL:=Lib.hid (yL dq osq)
            generalize grow (redrawn V2 dq) osq=V3 at HV3 HBZ HYL ⊢
            clear k4 yv yL
            rename_i hK
            refine hK _ _ ?_
            clear hK hji hj1 hLj
            go_wp2
            exact ⟨⟨0+1,by omega,by go_num,HBZ⟩,by simp [intOf] <;> omega⟩
          · have h1i:((0:Int) == (nb:Int) - 1)=false:=by rw [beq_eq_false_iff_ne];omega
            refine wp_region_quiet_below (by kernel_rfl) (by kernel_rfl) ?_
            iterate 49 (go_big_quiet_step (fail))
            refine wpQuiet_nil ?_
            intro _ hw'
            obtain ⟨⟨dq,osq⟩,hw''⟩:=hw'
            subst hw''
            have HV3:=Lib.hid (below_regrown V2 dq osq)
            have HBZ:=Lib.hid (bl_tr HBY.out HV3.out)
            have HYL:=Lib.hid (yL dq osq)
            generalize grow (redrawn V2 dq) osq=V3 at HV3 HBZ HYL ⊢
            clear k4 yv yL
            rename_i hK
            refine hK _ _ ?_
            clear hK hji hj1 hLj
            go_wp2
            exact ⟨⟨0+1,by omega,by go_num,HBZ⟩,by simp [intOf] <;> omega⟩
        · have h0i:((j:Int) == 0)=false:=by rw [beq_eq_false_iff_ne];omega
          by_cases h1:j+1=nb
          · obtain rfl:lv=dl:=f3 h1
            have h1i:((j:Int) == (nb:Int) - 1)=true:=by rw [beq_iff_eq];omega
            clear h1
            refine wp_region_quiet_below (by kernel_rfl) (by kernel_rfl) ?_
            iterate 49 (go_big_quiet_step (fail))
            refine wpQuiet_nil ?_
            intro _ hw'
            obtain ⟨⟨dq,osq⟩,hw''⟩:=hw'
            subst hw''
            have HV3:=Lib.hid (below_regrown V2 dq osq)
            have HBZ:=Lib.hid (bl_tr HBY.out HV3.out)
            have HYL:=Lib.hid (yL dq osq)
            generalize grow (redrawn V2 dq) osq=V3 at HV3 HBZ HYL ⊢
            clear k4 yv yL
            rename_i hK
            refine hK _ _ ?_
            clear hK hji hj1 hLj
            go_wp2
            exact ⟨⟨j+1,by omega,by go_num,HBZ⟩,by simp [intOf] <;> omega⟩
          · have h1i:((j:Int) == (nb:Int) - 1)=false:=by rw [beq_eq_false_iff_ne];omega
            refine wp_region_quiet_below (by kernel_rfl) (by kernel_rfl) ?_
            iterate 49 (go_big_quiet_step (fail))
            refine wpQuiet_nil ?_
            intro _ hw'
            obtain ⟨⟨dq,osq⟩,hw''⟩:=hw'
            subst hw''
            have HV3:=Lib.hid (below_regrown V2 dq osq)
            have HBZ:=Lib.hid (bl_tr HBY.out HV3.out)
            have HYL:=Lib.hid (yL dq osq)
            generalize grow (redrawn V2 dq) osq=V3 at HV3 HBZ HYL ⊢
            clear k4 yv yL
            rename_i hK
            refine hK _ _ ?_
            clear hK hji hj1 hLj
            go_wp2
            exact ⟨⟨j+1,by omega,by go_num,HBZ⟩,by simp [intOf] <;> omega⟩
      · obtain rfl:j=nb:=by omega
        go_wp2
        go_ret
        exact ⟨rfl,HBV.out⟩
end
end Go.Proofs.YtlpdjfimefjmcaaGreatDoor
