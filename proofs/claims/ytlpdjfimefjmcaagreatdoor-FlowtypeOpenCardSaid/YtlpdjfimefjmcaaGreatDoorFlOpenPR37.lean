/- FlowtypeOpen walked. -/
import Derived.Test.YtlpdjfimefjmcaaGreatDoorFlOpenPR21
import Derived.StillTailTactics
import Derived.Test.YtlpdjfimefjmcaaGreatDoorFlOpenPR35
import Derived.Test.YtlpdjfimefjmcaaGreatDoorFlOpenPR36
import Derived.Deep.DeepCutAuto
import Derived.Deep.CutBlock
import Derived.Deep.CutRange
open Go.Lib (hid)
namespace Go.Proofs.YtlpdjfimefjmcaaGreatDoor
open Go Go.RowKit Go.Proofs.Mm Go.Sort
section
variable {W:World} {s:SoZ} {q1:Option Addr} {c1:Nat} {q2:Option Addr} {c2:Nat} {q3:Option Addr} {c3:Nat} {q4:Option Addr} {c4:Nat} {q5:Option Addr} {c5:Nat}
set_option maxRecDepth 100000 in
set_option maxHeartbeats 40000000 in
theorem fopen_p (h:SrcO false (wC W) s q1 c1 q2 c2 q3 c3 q4 c4 q5 c5) (hE:Q.Env W) (f:Int) (mr:Nat) (hmr:mr<u64B) :
 Calls Tryz.prog 3 #[.agg (srV s q1 c1 q2 c2 q3 c3 q4 c4 q5 c5),.int .i64 f,.int .u64 (mr:Nat)] W (RetB (.bool true) W):=by
 have hlt:=hE.lt
 have HE:=hid (fun (w:World) (hw:Below W.heap.size W w)=>hE.below hw hlt)
 clear hE
 have HO:=hid h
 have HSR:=hid (fun (w:World) (hb:Below W.heap.size W w)=>show SrcR false (wC w) (.agg #[.slice q1 s.principals.length c1,.slice q2 s.globals.length c2,.slice q3 s.arrays.length c3,.slice q4 s.channels.length c4,.slice q5 s.funcs.length c5]) s from SrcR.le ⟨_,_,_,_,_,rfl,h.pr,h.gl,h.ar,h.ch,h.fn⟩ (below_cle hb))
 have HFI:=hid (fun (w:World) (hb:Below W.heap.size W w) (f:Int) (nm:ByteArray)=>find_p (W:=w) h (below_cle hb) f nm)
 have HCH:=hid h.ch.cells
 have HFN:=hid h.fn.cells
 have hl4:=slx_len h.ch
 have hl5:=slx_len h.fn
 clear h
 unfold srV
 obtain ⟨n1,hn1⟩:∃n,s.principals.length=n:=⟨_,rfl⟩
 obtain ⟨n2,hn2⟩:∃n,s.globals.length=n:=⟨_,rfl⟩
 obtain ⟨n3,hn3⟩:∃n,s.arrays.length=n:=⟨_,rfl⟩
 obtain ⟨n4,hn4⟩:∃n,s.channels.length=n:=⟨_,rfl⟩
 obtain ⟨n5,hn5⟩:∃n,s.funcs.length=n:=⟨_,rfl⟩
 rw [hn1,hn2,hn3,hn4,hn5] at HSR HFI
 rw [hn1,hn2,hn3,hn4,hn5]
 rw [hn4] at hl4
 rw [hn5] at hl5
 have HN1:=hid hn1
 have HN2:=hid hn2
 have HN3:=hid hn3
 have HN4:=hid hn4
 have HN5:=hid hn5
 clear hn1 hn2 hn3 hn4 hn5
 obtain ⟨b,hb⟩:∃b,W.heap.size=b:=⟨_,rfl⟩
 go_enter Tryz.func3,Tryz.ntmps3
 go_wp2_with fail
 have HJ:=hid (InB.new' (w:=W) #[.slice q1 n1 c1,.slice q2 n2 c2,.slice q3 n3 c3,.slice q4 n4 c4,.slice q5 n5 c5] 27 hb)
 have HB0:=hid (show Below W.heap.size W (W.alloc (.cells #[.slice q1 n1 c1,.slice q2 n2 c2,.slice q3 n3 c3,.slice q4 n4 c4,.slice q5 n5 c5] 27)) from bl_al (Below.refl _ _) _)
 try rw [hb]
 generalize W.alloc (.cells #[.slice q1 n1 c1,.slice q2 n2 c2,.slice q3 n3 c3,.slice q4 n4 c4,.slice q5 n5 c5] 27)=w0 at *
 clear hb
 go_at_call 7
 refine (known_p _ (HE.out _ HB0.out)).mono ?_
 rintro e w1 ⟨rfl,hb1'⟩
 have HB1:=hid (bl_tr HB0.out hb1')
 have HJ1:=hid (HJ.out.le hb1')
 clear hb1' HJ HB0
 have k0:=HJ1.out.cell (j:=0) rfl
 have k1:=HJ1.out.cell (j:=1) rfl
 have k2:=HJ1.out.cell (j:=2) rfl
 have k3:=HJ1.out.cell (j:=3) rfl
 have k4:=HJ1.out.cell (j:=4) rfl
 go_wp2_with fail
 go_at_call 9
 refine (lentSource_any (HSR.out _ HB1.out) (m:=fun _=>none) (fun k o e=>by cases e)).mono ?_
 rintro e w2 ⟨v2,m2,rfl,hb2,-,hH2,hS2⟩
 obtain ⟨p1,d1,p2,d2,p3,d3,p4,d4,p5,d5,rfl,hO2⟩:=hS2.opened
 have HB2:=hid (bl_tr HB1.out hb2)
 have HJ2:=hid (HJ1.out.le hb2)
 have HCK:=hid (check_p hO2 (has_cle hH2) (small_of hO2))
 clear k0 k1 k2 k3 k4 hb2 hS2 HJ1 HB1 hO2 hH2
 unfold srV at HCK
 rw [HN1.out,HN2.out,HN3.out,HN4.out,HN5.out] at HCK
 rw [HN1.out,HN2.out,HN3.out,HN4.out,HN5.out]
 go_wp2_with fail
 go_at_call 8
 refine HCK.out.mono ?_
 rintro e w3 ⟨rfl,hb3⟩
 have HB3:=hid (bl_tr HB2.out hb3)
 have HJ3:=hid (HJ2.out.le hb3)
 clear hb3 HCK HJ2 HB2
 have HNZ:=hid (fun (hz:(chkZ nstZ s).1=0)=>chk_ne hz)
 have HON:=hid (fun (hz:chkZ nstZ s=(0,0,0)) (one:Nat) (h1:one<u64B) (h2:lblE s one=0)=>open_one hz h1 h2)
 generalize chkZ nstZ s=R at *
 obtain ⟨ra,rb,rc⟩:=R
 unfold flA
 by_cases hg:ra=0
 case neg =>
  clear HNZ HON
  go_wp2
  go_ret
  exact ⟨rfl,HB3.out⟩
 have hz:=HNZ.out hg
 simp only [Prod.mk.injEq] at hz
 obtain ⟨-,rfl,rfl⟩:=hz
 subst hg
 clear HNZ
 go_upto_region 5 with fail
 have HOP:=hid (fun (hz:flowZ s=(0,0,0)) (c:Nat) (hc:c<s.channels.length) (m:Nat) (hlb:∀f,∀x∈levelsZ s f,x<u64B) (hres:∀d∈s.funcs,∀r∈d.results,r<u64B)=>open_more hz c hc m (fun f l=>exs_lt HO.out f l 0 (by decide)) hres hlb)
 go_cut [40] (fun c wx=>Hid (Below w3.heap.size w3 wx)∧∃B:Bool,c=.bool B∧Hid (B=true→flowZ s=(0,0,0)∧0≤f∧f<(n4:Int)))
 case first =>
  have k0:=HJ3.out.cell (j:=0) (v:=.slice q1 n1 c1) rfl
  have k1:=HJ3.out.cell (j:=1) (v:=.slice q2 n2 c2) rfl
  have k2:=HJ3.out.cell (j:=2) (v:=.slice q3 n3 c3) rfl
  have k3:=HJ3.out.cell (j:=3) (v:=.slice q4 n4 c4) rfl
  have k4:=HJ3.out.cell (j:=4) (v:=.slice q5 n5 c5) rfl
  have hj3:=HJ3.out.lt
  clear HON HOP
  go_wp2_with fail
  go_at_call 9
  refine (lentSource_any (HSR.out _ HB3.out) (m:=fun _=>none) (fun k o e=>by cases e)).mono ?_
  rintro e w4 ⟨v4,m4,rfl,hb4,-,hH4,hS4⟩
  obtain ⟨p1,d1,p2,d2,p3,d3,p4,d4,p5,d5,rfl,hO4⟩:=hS4.opened
  have HCK:=hid (flows_p hO4 (has_cle hH4))
  have HJ4:=hid (HJ3.out.le hb4)
  have HB4:=hid hb4
  clear k0 k1 k2 k3 k4 hj3 hS4 hO4 hH4 hb4
  unfold srV at HCK
  rw [HN1.out,HN2.out,HN3.out,HN4.out,HN5.out] at HCK
  rw [HN1.out,HN2.out,HN3.out,HN4.out,HN5.out]
  go_wp2_with fail
  go_at_call 10
  refine HCK.out.mono ?_
  rintro e w5 ⟨rfl,hb5⟩
  have HB5:=hid (bl_tr HB4.out hb5)
  have HJ5:=hid (HJ4.out.le hb5)
  clear hb5 HCK HJ4 HB4
  have HNZ:=hid (fun (hz:(flowZ s).1=0)=>flow_ne hz)
  generalize flowZ s=R at *
  obtain ⟨ra,rb,rc⟩:=R
  unfold flA
  have k3:=HJ5.out.cell (j:=3) (v:=.slice q4 n4 c4) rfl
  have hj5:=HJ5.out.lt
  by_cases hg:ra=0
  case neg =>
   clear HNZ
   go_wp2
   go_meet
   exact ⟨HB5,false,rfl,hid (fun h=>by cases h)⟩
  have hz:=HNZ.out hg
  simp only [Prod.mk.injEq] at hz
  obtain ⟨-,rfl,rfl⟩:=hz
  subst hg
  clear HNZ
  by_cases hf0:0≤f
  ·by_cases hf1:f<(n4:Int)
   ·go_wp2
    go_meet
    exact ⟨HB5,true,rfl,hid (fun _=>⟨by first|rfl|trivial,hf0,hf1⟩)⟩
   ·go_wp2
    go_meet
    exact ⟨HB5,_,rfl,hid (fun h=>by first|(cases h;done)|(simp at h;omega))⟩
  ·go_wp2
   go_meet
   exact ⟨HB5,_,rfl,hid (fun h=>by first|(cases h;done)|(simp at h;omega))⟩
 case rest =>
  obtain ⟨HB,B,rfl,HG⟩:=hcut
  go_upto_if 40 with (fail)
  go_cut [] (fun wx=>Hid (Below w3.heap.size w3 wx))
  case first =>
   cases B with
   | false =>
    go_wp2
    go_meet
    exact HB
   | true =>
    obtain ⟨hfz,hf0,hf1⟩:=HG.out rfl
    obtain ⟨c,rfl⟩:=Int.eq_ofNat_of_zero_le hf0
    have hc1:c<s.channels.length:=by rw [HN4.out];omega
    have HRR:=hid (HOP.out hfz c hc1 mr (fun f=>levels_lt (fun l=>exs_lt HO.out f l 0 (by decide)) (fun hf=>by obtain ⟨g,o,qp,cp,qr,cr,qv,cv,qb,cb,hq,a0,a1,a2,a3,a4,a5,hlv,hp,hrr,hv,hb⟩:=HFN.out f hf;exact hlv)) (fun d hd r hr=>by
     obtain ⟨k,hk,rfl⟩:=List.getElem_of_mem hd
     obtain ⟨g,o,qp,cp,qr,cr,qv,cv,qb,cb,hq,a0,a1,a2,a3,a4,a5,hlv,hp,hrr,hv,hb⟩:=HFN.out k hk
     obtain ⟨i,hi,rfl⟩:=List.getElem_of_mem hr
     obtain ⟨_,_,_,_,h9⟩:=hrr.cells i hi
     exact h9))
    clear HON HOP hfz HG
    have HWc:=hid (bl_tr HB3.out HB.out)
    have HJc:=hid (HJ3.out.le HB.out)
    have k0:=HJc.out.cell (j:=0) (v:=.slice q1 n1 c1) rfl
    have k1:=HJc.out.cell (j:=1) (v:=.slice q2 n2 c2) rfl
    have k2:=HJc.out.cell (j:=2) (v:=.slice q3 n3 c3) rfl
    have k3:=HJc.out.cell (j:=3) (v:=.slice q4 n4 c4) rfl
    have k4:=HJc.out.cell (j:=4) (v:=.slice q5 n5 c5) rfl
    have hjc:=HJc.out.lt
    go_wp2_with fail
    go_at_call 9
    refine (lentSource_sep (HSR.out _ HWc.out)).mono ?_
    rintro e w4 ⟨p1,d1,p2,d2,p3,d3,p4,d4,p5,d5,mP,mG,mH,mA,mF,rfl,hb4,hsep,r1,r2,r3,r4,r5⟩
    obtain ⟨g4,o4,hq4,z0,z1,hcl⟩:=r4.cells c hc1
    have HCH:=hid (fun V=>src_chan (V:=V) (g:=g4) (o:=o4) hsep r1 r2 r3 r4 r5 c hc1 mr hmr hq4)
    have hz1:=has_cle hsep.hH _ _ z1
    have hgB:wc.heap.size≤g4:=by
     obtain ⟨ff,hff⟩:=hsep.own
     cases hm:mH g4 with
     | some ob=>exact ((hff g4 ob).2.2.1 hm).2
     | none =>
      unfold mC at z0
      simp only [hm] at z0
      cases z0
    have hfr:=mC_free hsep.hH z1
    subst hq4
    rw [HN1.out,HN2.out,HN3.out,HN4.out,HN5.out]
    unfold wC at hz1
    clear z0 z1 r1 r2 r3 r4 r5 hsep k0 k1 k2 k3 k4 hjc
    have hg4:=World.block_lt_of_cell? _ _ hz1
    have HXb:=hid (InB.new w4 #[.slice p1 n1 d1,.slice p2 n2 d2,.slice p3 n3 d3,.slice (some ⟨g4,o4,none⟩) n4 d4,.slice p5 n5 d5] 27)
    have hBb:=bl_al (Below.refl w4.heap.size w4) (.cells #[.slice p1 n1 d1,.slice p2 n2 d2,.slice p3 n3 d3,.slice (some ⟨g4,o4,none⟩) n4 d4,.slice p5 n5 d5] 27)
    go_upto_region 7 with fail
    obtain ⟨w5,hw5⟩:∃w,w4.alloc (.cells #[.slice p1 n1 d1,.slice p2 n2 d2,.slice p3 n3 d3,.slice (some ⟨g4,o4,none⟩) n4 d4,.slice p5 n5 d5] 27)=w:=⟨_,rfl⟩
    obtain ⟨bt,hbt⟩:∃b,w4.heap.size=b:=⟨_,rfl⟩
    rw [hw5] at HXb hBb ⊢
    rw [hbt] at HXb hg4 ⊢
    have hz5:=cell_b hz1 hBb
    have hf5:w5.frozen? ⟨g4,o4+c*2+1,none⟩=false:=by
     rw [←hfr]
     exact World.frozen?_of_block (hBb.block _ (show g4<w4.heap.size by omega))
    have t3:=HXb.out.cell (j:=3) (v:=.slice (some ⟨g4,o4,none⟩) n4 d4) rfl
    have lt:=HXb.out.lt
    have hci:(c:Int)<(n4:Int):=by omega
    have lz5:=World.block_lt_of_cell? _ _ hz5
    have HBb:=hid hBb
    clear hw5 hBb hz1 hfr
    obtain ⟨cl,hcl2⟩:∃cl,s.channels[c].label=cl:=⟨_,rfl⟩
    have eor:bits .or .u64 (cl:Int) (mr:Int)=((cl ||| mr:Nat):Int):=bits_or_nat _ _ (by rw [←hcl2];exact hcl) hmr
    rw [hcl2] at hz5 HCH
    go_still_tail 13,(by kernel_rfl)
    change wpList _ _ _ _ _ w5.drew
    have hd:=bl_dr (Below.refl w5.heap.size w5)
    obtain ⟨w6,hw6⟩:∃w,w5.drew=w:=⟨_,rfl⟩
    rw [hw6] at hd ⊢
    have hz6:=cell_b hz5 hd
    have hf6:w6.frozen? ⟨g4,o4+c*2+1,none⟩=false:=by
     rw [←hf5]
     exact World.frozen?_of_block (hd.block _ lz5)
    have HX6:=hid (HXb.out.le hd)
    have HB6:=hid (bl_tr HBb.out hd)
    clear hd hw6 hz5 hf5 lz5 HXb HBb t3 lt
    have lz6:=World.block_lt_of_cell? _ _ hz6
    go_upto_region 8 with fail
    obtain ⟨V,hV⟩:∃V,w6.setCell ⟨g4,o4+c*2+1,none⟩ (.int .u64 ((cl ||| mr:Nat):Int))=V:=⟨_,rfl⟩
    rw [hV]
    have hc9:V.cell? ⟨g4,o4+c*2+1,none⟩=some (.int .u64 ((cl ||| mr:Nat):Int)):=by
     rw [←hV]
     apply World.cell?_setCell_same
     exact hz6
    have hoth:∀a v,a≠⟨g4,o4+c*2+1,none⟩→w4.cell? a=some v→V.cell? a=some v:=fun a v ha hv=>by
     have h6:w6.cell? a=some v:=(HB6.out.cell (World.block_lt_of_cell? _ _ hv)).trans hv
     rw [←hV]
     obtain ⟨ab,ao,asp⟩:=a
     have:(w6.setCell ⟨g4,o4+c*2+1,none⟩ (.int .u64 ((cl ||| mr:Nat):Int))).cell? ⟨ab,ao,asp⟩=w6.cell? ⟨ab,ao,asp⟩:=by
      first
       | (apply World.cell?_setCell_other;exact fun e=>ha e.symm)
       | (apply World.cell?_setCell_other;exact fun e=>ha e)
     rw [this];exact h6
    have HSO:=hid (HCH.out V hc9 hoth)
    have hCV:Chg (fun b=>b=g4) w6 V:=by rw [←hV];exact (Chg.refl (fun b=>b=g4) w6).setCell (.inl rfl) _
    have HXV:=hid (hCV.heap HX6.out (by omega))
    have HBV:=hid (show Below w3.heap.size w3 V from (bl_tr HB.out (bl_tr (show Below wc.heap.size wc w4 from hb4) HB6.out)).trans (hCV.below (by have:=HB6.out.size;have:=hb4.size;have:=HB.out.size;omega) (fun b e=>by have:=HB.out.size;rw [e];omega)))
    clear hc9 hoth hCV hV hz6 hf6 lz6 HX6 HB6 HCH hb4
    obtain ⟨R,hR⟩:∃R,flowZ (upC s c hc1 mr)=R:=⟨_,rfl⟩
    have HCK:=hid (flows_chan HSO.out hR)
    rw [hR] at HRR
    rw [HN1.out,HN2.out,HN3.out,HN4.out,HN5.out] at HCK
    clear hR HSO
    obtain ⟨ra,rb,rc⟩:=R
    have t0:=InB.cell HXV.out (j:=0) (v:=.slice p1 n1 d1) rfl
    have t1:=InB.cell HXV.out (j:=1) (v:=.slice p2 n2 d2) rfl
    have t2:=InB.cell HXV.out (j:=2) (v:=.slice p3 n3 d3) rfl
    have t3:=InB.cell HXV.out (j:=3) (v:=.slice (some ⟨g4,o4,none⟩) n4 d4) rfl
    have t4:=InB.cell HXV.out (j:=4) (v:=.slice p5 n5 d5) rfl
    have lt:=InB.lt HXV.out
    unfold flA at HCK
    simp only at HCK
    go_wp2_with fail
    go_at_call 10
    refine HCK.out.mono ?_
    rintro e w8 ⟨rfl,hb8⟩
    have HB8:=hid (bl_tr HBV.out hb8)
    clear hb8 t0 t1 t2 t3 t4 lt HXV HBV HCK
    have HBf:=hid (bl_tr HB8.out (bl_al (Below.refl w8.heap.size w8) (.cells #[.int .i64 ra,.int .i64 rb,.int .i64 rc] 33)))
    have HIf:=hid (InB.new w8 #[.int .i64 ra,.int .i64 rb,.int .i64 rc] 33)
    go_upto_region 9 with fail
    obtain ⟨w9,hw9⟩:∃w,w8.alloc (.cells #[.int .i64 ra,.int .i64 rb,.int .i64 rc] 33)=w:=⟨_,rfl⟩
    obtain ⟨bf,hbf⟩:∃b,w8.heap.size=b:=⟨_,rfl⟩
    rw [hw9] at HBf HIf ⊢
    rw [hbf] at HIf ⊢
    clear hw9 hbf
    rcases HRR.out with h0|h10
    ·simp only [Prod.mk.injEq] at h0
     obtain ⟨rfl,rfl,rfl⟩:=h0
     have y0:=HIf.out.cell (j:=0) (v:=.int .i64 0) rfl
     have y1:=HIf.out.cell (j:=1) (v:=.int .i64 0) rfl
     have y2:=HIf.out.cell (j:=2) (v:=.int .i64 0) rfl
     have lf:=HIf.out.lt
     clear HRR
     go_wp2
     go_meet
     exact HBf
    ·obtain rfl:ra=10:=h10
     have y0:=HIf.out.cell (j:=0) (v:=.int .i64 10) rfl
     have y1:=HIf.out.cell (j:=1) (v:=.int .i64 rb) rfl
     have y2:=HIf.out.cell (j:=2) (v:=.int .i64 rc) rfl
     have lf:=HIf.out.lt
     clear HRR
     go_wp2
     go_meet
     exact HBf
  case rest =>
   have HWc:=hid (bl_tr HB3.out hcut.out)
   have HJc:=hid (HJ3.out.le hcut.out)
   have k0:=HJc.out.cell (j:=0) (v:=.slice q1 n1 c1) rfl
   have k1:=HJc.out.cell (j:=1) (v:=.slice q2 n2 c2) rfl
   have k2:=HJc.out.cell (j:=2) (v:=.slice q3 n3 c3) rfl
   have k3:=HJc.out.cell (j:=3) (v:=.slice q4 n4 c4) rfl
   have k4:=HJc.out.cell (j:=4) (v:=.slice q5 n5 c5) rfl
   have hjc:=HJc.out.lt
   clear HOP HG HB hcut HJ3 HB3
   go_wp2_with fail
   go_at_call 9
   refine (lentSource_any (HSR.out _ HWc.out) (m:=fun _=>none) (fun k o e=>by cases e)).mono ?_
   rintro e w4 ⟨v4,m4,rfl,hb4,hmo,hH4,hS4⟩
   obtain ⟨p1,d1,p2,d2,p3,d3,p4,d4,p5,d5,rfl,hO4⟩:=hS4.opened
   rw [HN1.out,HN2.out,HN3.out,HN4.out,HN5.out]
   have HX0:=hid (fun (one:Nat)=>XI.start (one:=one) (W:=W) (S:=#[.slice p1 n1 d1,.slice p2 n2 d2,.slice p3 n3 d3,.slice p4 n4 d4,.slice p5 n5 d5]) hH4 (fun k o e=>by
    by_cases h:k<wc.heap.size
    ·have:=hmo.new k rfl h
     rw [this] at e
     cases e
    ·have:=HWc.out.size
     omega) (bl_tr HWc.out hb4))
   have HOL:=hid hO4
   have HJ4:=hid (HJc.out.le hb4)
   have hJB:=bl_al (Below.refl w4.heap.size w4) (.cells #[.slice p1 n1 d1,.slice p2 n2 d2,.slice p3 n3 d3,.slice p4 n4 d4,.slice p5 n5 d5] 27)
   have HJ5:=hid (HJ4.out.le hJB)
   clear k0 k1 k2 k3 k4 hjc hb4 hmo hH4 hS4 hO4 hJB HJc HJ4
   go_upto_region 12 with fail
   obtain ⟨w5,hw5⟩:∃w,w4.alloc (.cells #[.slice p1 n1 d1,.slice p2 n2 d2,.slice p3 n3 d3,.slice p4 n4 d4,.slice p5 n5 d5] 27)=w:=⟨_,rfl⟩
   obtain ⟨bt,hbt⟩:∃b,w4.heap.size=b:=⟨_,rfl⟩
   rw [hw5] at HX0 HJ5 ⊢
   rw [hbt] at HX0 ⊢
   clear hw5 hbt
   have k0:=HJ5.out.cell (j:=0) (v:=.slice q1 n1 c1) rfl
   have hj5:=HJ5.out.lt
   have HLB:=hid (lbl_one (s:=s) (mr:=mr))
   rw [HN1.out] at HLB
   go_upto_if 71 with (fail)
   go_cut [10] (fun c wx=>wx=w5∧∃one:Nat,c=.int .u64 (one:Nat)∧Hid (one<u64B∧lblE s one=0))
   case first =>
    by_cases h0:n1=0
    ·subst h0
     go_wp2
     go_meet
     exact ⟨rfl,0,rfl,hid ⟨by decide,by simpa using HLB.out⟩⟩
    ·have hn1:(0:Int)<(n1:Int):=by omega
     have ha:=bits_and_one mr hmr
     go_wp2
     go_meet
     exact ⟨rfl,mr &&& 1,by rw [Nat.and_one_is_mod];simp,hid ⟨Nat.lt_of_le_of_lt Nat.and_le_right (by decide),by rw [if_neg h0] at HLB;exact HLB.out⟩⟩
   case rest =>
    obtain ⟨rfl,one,rfl,HONE⟩:=hcut
    clear k0 hj5 HLB
    have HX:=hid (show ∃D,XI one m4 W bt #[.slice p1 n1 d1,.slice p2 n2 d2,.slice p3 n3 d3,.slice p4 n4 d4,.slice p5 n5 d5] D wc from ⟨_,HX0.out one⟩)
    clear HX0
    have hl2:n2*24≤140737488351232:=by have:=slx_len HOL.out.gl;rw [HN2.out] at this;exact this
    have hl3:n3*32≤140737488351232:=by have:=slx_len HOL.out.ar;rw [HN3.out] at this;exact this
    obtain ⟨D,hX⟩:=HX.out
    have tk:=hX.box.cell (j:=1) (v:=.slice p2 n2 d2) rfl
    have ltk:=InB.lt hX.box
    have HS:=hid (show ∃D,XI one m4 W bt #[.slice p1 n1 d1,.slice p2 n2 d2,.slice p3 n3 d3,.slice p4 n4 d4,.slice p5 n5 d5] D wc∧Pos D p2 0 2 1 from ⟨_,hX,Pos.none_yet⟩)
    clear hX  HX
    go_wp2_with fail
    go_loopw [11] (fun i wr=>∃j:Nat,j≤n2∧i=.int .i64 j∧Hid (∃D,XI one m4 W bt #[.slice p1 n1 d1,.slice p2 n2 d2,.slice p3 n3 d3,.slice p4 n4 d4,.slice p5 n5 d5] D wr∧Pos D p2 j 2 1)) (fun i _=>n2 - (intOf i).toNat)
    case atStart=>exact ⟨0,Nat.zero_le _,rfl,HS⟩
    case round =>
     clear HS
     obtain ⟨j,hj,rfl,HX⟩:=hrel
     obtain ⟨D,hX,hP⟩:=HX.out
     have tk:=hX.box.cell (j:=1) (v:=.slice p2 n2 d2) rfl
     have ltk:=InB.lt hX.box
     by_cases hlt:j<n2
     ·obtain ⟨g,o,hq,z0,z1,hl⟩:=HOL.out.gl.cells j (by rw [HN2.out];exact hlt)
      obtain ⟨y,hy⟩:=hX.tl.cur z1
      have hf:=hX.free _ _ z1
      have hyl:=World.block_lt_of_cell? _ _ hy
      have hji:(j:Int)<(n2:Int):=by omega
      have HT:=hid (show ∃D,XI one m4 W bt #[.slice p1 n1 d1,.slice p2 n2 d2,.slice p3 n3 d3,.slice p4 n4 d4,.slice p5 n5 d5] D (wr.setCell ⟨g,o+j*2+1,none⟩ (.int .u64 (one:Nat)))∧Pos D p2 (j+1) 2 1 from ⟨_,hX.turn z1,by rw [hq] at hP ⊢;exact Pos.one_more hP⟩)
      rw [hq] at tk
      clear hX  hP z0 z1 hl HX hq
      go_wp2
      exact ⟨⟨j+1,by omega,by go_num,HT⟩,by simp [intOf] <;> omega⟩
     ·obtain rfl:n2=j:=by omega
      clear hX  hP hlt hj D
      obtain ⟨D,hX,hP2⟩:=HX.out
      have tk:=hX.box.cell (j:=2) (v:=.slice p3 n3 d3) rfl
      have ltk:=InB.lt hX.box
      have HS:=hid (show ∃D,XI one m4 W bt #[.slice p1 n1 d1,.slice p2 n2 d2,.slice p3 n3 d3,.slice p4 n4 d4,.slice p5 n5 d5] D wr∧Pos D p2 n2 2 1∧Pos D p3 0 3 2 from ⟨_,hX,hP2,Pos.none_yet⟩)
      clear hX hP2 HX
      go_wp2_with fail
      go_loopw [12] (fun i wr=>∃j:Nat,j≤n3∧i=.int .i64 j∧Hid (∃D,XI one m4 W bt #[.slice p1 n1 d1,.slice p2 n2 d2,.slice p3 n3 d3,.slice p4 n4 d4,.slice p5 n5 d5] D wr∧Pos D p2 n2 2 1∧Pos D p3 j 3 2)) (fun i _=>n3 - (intOf i).toNat)
      case atStart=>exact ⟨0,Nat.zero_le _,rfl,HS⟩
      case round =>
       clear HS
       obtain ⟨j,hj,rfl,HX⟩:=hrel
       obtain ⟨D,hX,hP2,hP⟩:=HX.out
       have tk:=hX.box.cell (j:=2) (v:=.slice p3 n3 d3) rfl
       have ltk:=InB.lt hX.box
       by_cases hlt:j<n3
       ·obtain ⟨g,o,hq,z0,z1,z2,hl⟩:=HOL.out.ar.cells j (by rw [HN3.out];exact hlt)
        obtain ⟨y,hy⟩:=hX.tl.cur z2
        have hf:=hX.free _ _ z2
        have hyl:=World.block_lt_of_cell? _ _ hy
        have hji:(j:Int)<(n3:Int):=by omega
        have HT:=hid (show ∃D,XI one m4 W bt #[.slice p1 n1 d1,.slice p2 n2 d2,.slice p3 n3 d3,.slice p4 n4 d4,.slice p5 n5 d5] D (wr.setCell ⟨g,o+j*3+2,none⟩ (.int .u64 (one:Nat)))∧Pos D p2 n2 2 1∧Pos D p3 (j+1) 3 2 from ⟨_,hX.turn z2,hP2.up (fun _ h=>.inl h),by rw [hq] at hP ⊢;exact Pos.one_more hP⟩)
        rw [hq] at tk
        clear hX hP2 hP z0 z1 z2 hl HX hq
        go_wp2
        exact ⟨⟨j+1,by omega,by go_num,HT⟩,by simp [intOf] <;> omega⟩
       ·obtain rfl:n3=j:=by omega
        clear hX hP2 hP hlt hj D
        obtain ⟨D,hX,hP2,hP3⟩:=HX.out
        have tk:=hX.box.cell (j:=3) (v:=.slice p4 n4 d4) rfl
        have ltk:=InB.lt hX.box
        have HS:=hid (show ∃D,XI one m4 W bt #[.slice p1 n1 d1,.slice p2 n2 d2,.slice p3 n3 d3,.slice p4 n4 d4,.slice p5 n5 d5] D wr∧Pos D p2 n2 2 1∧Pos D p3 n3 3 2∧Pos D p4 0 2 1 from ⟨_,hX,hP2,hP3,Pos.none_yet⟩)
        clear hX hP2 hP3 HX
        go_wp2_with fail
        go_loopw [13] (fun i wr=>∃j:Nat,j≤n4∧i=.int .i64 j∧Hid (∃D,XI one m4 W bt #[.slice p1 n1 d1,.slice p2 n2 d2,.slice p3 n3 d3,.slice p4 n4 d4,.slice p5 n5 d5] D wr∧Pos D p2 n2 2 1∧Pos D p3 n3 3 2∧Pos D p4 j 2 1)) (fun i _=>n4 - (intOf i).toNat)
        case atStart=>exact ⟨0,Nat.zero_le _,rfl,HS⟩
        case round =>
         clear HS
         obtain ⟨j,hj,rfl,HX⟩:=hrel
         obtain ⟨D,hX,hP2,hP3,hP⟩:=HX.out
         have tk:=hX.box.cell (j:=3) (v:=.slice p4 n4 d4) rfl
         have ltk:=InB.lt hX.box
         by_cases hlt:j<n4
         ·obtain ⟨g,o,hq,z0,z1,hl⟩:=HOL.out.ch.cells j (by rw [HN4.out];exact hlt)
          obtain ⟨y,hy⟩:=hX.tl.cur z1
          have hf:=hX.free _ _ z1
          have hyl:=World.block_lt_of_cell? _ _ hy
          have hji:(j:Int)<(n4:Int):=by omega
          have HT:=hid (show ∃D,XI one m4 W bt #[.slice p1 n1 d1,.slice p2 n2 d2,.slice p3 n3 d3,.slice p4 n4 d4,.slice p5 n5 d5] D (wr.setCell ⟨g,o+j*2+1,none⟩ (.int .u64 (one:Nat)))∧Pos D p2 n2 2 1∧Pos D p3 n3 3 2∧Pos D p4 (j+1) 2 1 from ⟨_,hX.turn z1,hP2.up (fun _ h=>.inl h),hP3.up (fun _ h=>.inl h),by rw [hq] at hP ⊢;exact Pos.one_more hP⟩)
          rw [hq] at tk
          clear hX hP2 hP3 hP z0 z1 hl HX hq
          go_wp2
          exact ⟨⟨j+1,by omega,by go_num,HT⟩,by simp [intOf] <;> omega⟩
         ·obtain rfl:n4=j:=by omega
          clear hX hP2 hP3 hP hlt hj D
          obtain ⟨D,hX,hP2,hP3,hP4⟩:=HX.out
          have tk:=hX.box.cell (j:=4) (v:=.slice p5 n5 d5) rfl
          have ltk:=InB.lt hX.box
          have HS:=hid (show ∃D,XI one m4 W bt #[.slice p1 n1 d1,.slice p2 n2 d2,.slice p3 n3 d3,.slice p4 n4 d4,.slice p5 n5 d5] D wr∧Pos D p2 n2 2 1∧Pos D p3 n3 3 2∧Pos D p4 n4 2 1∧PosFl D (mC m4) p5 s.funcs 0 from ⟨_,hX,hP2,hP3,hP4,PosFl.none_yet⟩)
          clear hX hP2 hP3 hP4 HX D
          go_wp2_with fail
          go_loopw [14] (fun i wr=>∃j:Nat,j≤n5∧i=.int .i64 j∧Hid (∃D,XI one m4 W bt #[.slice p1 n1 d1,.slice p2 n2 d2,.slice p3 n3 d3,.slice p4 n4 d4,.slice p5 n5 d5] D wr∧Pos D p2 n2 2 1∧Pos D p3 n3 3 2∧Pos D p4 n4 2 1∧PosFl D (mC m4) p5 s.funcs j)) (fun i _=>n5 - (intOf i).toNat)
          case atStart=>exact ⟨0,Nat.zero_le _,rfl,HS⟩
          case round =>
           clear HS
           obtain ⟨j,hj,rfl,HX⟩:=hrel
           obtain ⟨D,hX,hP2,hP3,hP4,hFl⟩:=HX.out
           have tk:=hX.box.cell (j:=4) (v:=.slice p5 n5 d5) rfl
           have ltk:=InB.lt hX.box
           by_cases hlt:j<n5
           ·have hj1:j<s.funcs.length:=by rw [HN5.out];exact hlt
            obtain ⟨g,o,qp,cp,qr,cr,qv,cv,qb,cb,hq,a0,a1,a2,a3,a4,a5,hlv,hpp,hprr,hpv,hb⟩:=HOL.out.fn.cells j hj1
            have HQ:=hid hq
            have HA2:=hid a2
            have HA3:=hid a3
            have HA4:=hid a4
            have HPp:=hid hpp
            have HPv:=hid hpv
            have HPr:=hid hprr
            have hbp:=slx_len hpp
            have hbv:=slx_len hpv
            have hbr:=slx_len hprr
            obtain ⟨y,hy⟩:=hX.tl.cur a1
            have hf:=hX.free _ _ a1
            have hyl:=World.block_lt_of_cell? _ _ hy
            have hji:(j:Int)<(n5:Int):=by omega
            obtain ⟨V,hV⟩:∃V,wr.setCell ⟨g,o+j*6+1,none⟩ (.int .u64 (one:Nat))=V:=⟨_,rfl⟩
            have hXV:=hX.turn a1
            rw [hV] at hXV
            have HT:=hid (show ∃D,XI one m4 W bt #[.slice p1 n1 d1,.slice p2 n2 d2,.slice p3 n3 d3,.slice p4 n4 d4,.slice p5 n5 d5] D V∧Pos D p2 n2 2 1∧Pos D p3 n3 3 2∧Pos D p4 n4 2 1∧PosFl D (mC m4) p5 s.funcs j∧D ⟨g,o+j*6+1,none⟩ from ⟨_,hXV,hP2.up (fun _ h=>.inl h),hP3.up (fun _ h=>.inl h),hP4.up (fun _ h=>.inl h),hFl.up (fun _ h=>.inl h),.inr rfl⟩)
            rw [hq] at tk
            clear hX hP2 hP3 hP4 hFl a0 a1 a2 a3 a4 a5 hlv hpp hprr hpv hb HX hq hXV D
            go_upto_region 31 with fail
            try rw [hV]
            clear hV hy hf hyl tk ltk wr
            have HX:=HT
            clear HT
            obtain ⟨D,hX,hP2,hP3,hP4,hFl,hLv⟩:=HX.out
            have t5:=hX.box.cell (j:=4) (v:=.slice p5 n5 d5) rfl
            rw [HQ.out] at t5
            have lt5:=InB.lt hX.box
            have c5:=hX.tl.other HA2.out (fun x e=>by cases e)
            have lc5:=World.block_lt_of_cell? _ _ c5
            have HS:=hid (show ∃D,XI one m4 W bt #[.slice p1 n1 d1,.slice p2 n2 d2,.slice p3 n3 d3,.slice p4 n4 d4,.slice p5 n5 d5] D V∧Pos D p2 n2 2 1∧Pos D p3 n3 3 2∧Pos D p4 n4 2 1∧PosFl D (mC m4) p5 s.funcs j∧D ⟨g,o+j*6+1,none⟩∧Pos D qp 0 2 1 from ⟨_,hX,hP2,hP3,hP4,hFl,hLv,Pos.none_yet⟩)
            clear hX hP2 hP3 hP4 hFl hLv  HX D
            go_wp2_with fail
            go_loopw [15] (fun i wr=>∃i':Nat,i'≤s.funcs[j].params.length∧i=.int .i64 i'∧Hid (∃D,XI one m4 W bt #[.slice p1 n1 d1,.slice p2 n2 d2,.slice p3 n3 d3,.slice p4 n4 d4,.slice p5 n5 d5] D wr∧Pos D p2 n2 2 1∧Pos D p3 n3 3 2∧Pos D p4 n4 2 1∧PosFl D (mC m4) p5 s.funcs j∧D ⟨g,o+j*6+1,none⟩∧Pos D qp i' 2 1)) (fun i _=>s.funcs[j].params.length - (intOf i).toNat)
            case atStart=>exact ⟨0,Nat.zero_le _,rfl,HS⟩
            case round =>
             clear HS
             obtain ⟨i,hi,rfl,HX⟩:=hrel
             obtain ⟨D,hX,hP2,hP3,hP4,hFl,hLv,hP⟩:=HX.out
             have t5:=hX.box.cell (j:=4) (v:=.slice p5 n5 d5) rfl
             rw [HQ.out] at t5
             have lt5:=InB.lt hX.box
             have c5:=hX.tl.other HA2.out (fun x e=>by cases e)
             have lc5:=World.block_lt_of_cell? _ _ c5
             by_cases hit:i<s.funcs[j].params.length
             ·have hi1:i<s.funcs[j].params.length:=hit
              obtain ⟨g9,o9,hq9,z0,z1,hl9⟩:=HPp.out.cells i hi1
              obtain ⟨y,hy⟩:=hX.tl.cur z1
              have hf:=hX.free _ _ z1
              have hyl:=World.block_lt_of_cell? _ _ hy
              have hii:(i:Int)<(s.funcs[j].params.length:Int):=by omega
              have HT:=hid (show ∃D,XI one m4 W bt #[.slice p1 n1 d1,.slice p2 n2 d2,.slice p3 n3 d3,.slice p4 n4 d4,.slice p5 n5 d5] D (wr.setCell ⟨g9,o9+i*2+1,none⟩ (.int .u64 (one:Nat)))∧Pos D p2 n2 2 1∧Pos D p3 n3 3 2∧Pos D p4 n4 2 1∧PosFl D (mC m4) p5 s.funcs j∧D ⟨g,o+j*6+1,none⟩∧Pos D qp (i+1) 2 1 from ⟨_,hX.turn z1,hP2.up (fun _ h=>.inl h),hP3.up (fun _ h=>.inl h),hP4.up (fun _ h=>.inl h),hFl.up (fun _ h=>.inl h),.inl hLv,by rw [hq9] at hP ⊢;exact Pos.one_more hP⟩)
              rw [hq9] at c5
              clear hX hP2 hP3 hP4 hFl hLv  hP z0 z1 hl9 HX hq9 hi1
              go_wp2
              exact ⟨⟨i+1,by omega,by go_num,HT⟩,by simp [intOf] <;> omega⟩
             ·obtain rfl:s.funcs[j].params.length=i:=by omega
              clear hX hP2 hP3 hP4 hFl hLv  hP hit hi D
              obtain ⟨D,hX,hP2,hP3,hP4,hFl,hLv,hQp⟩:=HX.out
              have t5:=hX.box.cell (j:=4) (v:=.slice p5 n5 d5) rfl
              rw [HQ.out] at t5
              have lt5:=InB.lt hX.box
              have c5:=hX.tl.other HA4.out (fun x e=>by cases e)
              have lc5:=World.block_lt_of_cell? _ _ c5
              have HS:=hid (show ∃D,XI one m4 W bt #[.slice p1 n1 d1,.slice p2 n2 d2,.slice p3 n3 d3,.slice p4 n4 d4,.slice p5 n5 d5] D wr∧Pos D p2 n2 2 1∧Pos D p3 n3 3 2∧Pos D p4 n4 2 1∧PosFl D (mC m4) p5 s.funcs j∧D ⟨g,o+j*6+1,none⟩∧Pos D qp s.funcs[j].params.length 2 1∧Pos D qv 0 2 1 from ⟨_,hX,hP2,hP3,hP4,hFl,hLv,hQp,Pos.none_yet⟩)
              clear hX hP2 hP3 hP4 hFl hLv hQp HX D
              go_wp2_with fail
              go_loopw [16] (fun i wr=>∃i':Nat,i'≤s.funcs[j].vars.length∧i=.int .i64 i'∧Hid (∃D,XI one m4 W bt #[.slice p1 n1 d1,.slice p2 n2 d2,.slice p3 n3 d3,.slice p4 n4 d4,.slice p5 n5 d5] D wr∧Pos D p2 n2 2 1∧Pos D p3 n3 3 2∧Pos D p4 n4 2 1∧PosFl D (mC m4) p5 s.funcs j∧D ⟨g,o+j*6+1,none⟩∧Pos D qp s.funcs[j].params.length 2 1∧Pos D qv i' 2 1)) (fun i _=>s.funcs[j].vars.length - (intOf i).toNat)
              case atStart=>exact ⟨0,Nat.zero_le _,rfl,HS⟩
              case round =>
               clear HS
               obtain ⟨i,hi,rfl,HX⟩:=hrel
               obtain ⟨D,hX,hP2,hP3,hP4,hFl,hLv,hQp,hP⟩:=HX.out
               have t5:=hX.box.cell (j:=4) (v:=.slice p5 n5 d5) rfl
               rw [HQ.out] at t5
               have lt5:=InB.lt hX.box
               have c5:=hX.tl.other HA4.out (fun x e=>by cases e)
               have lc5:=World.block_lt_of_cell? _ _ c5
               by_cases hit:i<s.funcs[j].vars.length
               ·have hi1:i<s.funcs[j].vars.length:=hit
                obtain ⟨g9,o9,hq9,z0,z1,hl9⟩:=HPv.out.cells i hi1
                obtain ⟨y,hy⟩:=hX.tl.cur z1
                have hf:=hX.free _ _ z1
                have hyl:=World.block_lt_of_cell? _ _ hy
                have hii:(i:Int)<(s.funcs[j].vars.length:Int):=by omega
                have HT:=hid (show ∃D,XI one m4 W bt #[.slice p1 n1 d1,.slice p2 n2 d2,.slice p3 n3 d3,.slice p4 n4 d4,.slice p5 n5 d5] D (wr.setCell ⟨g9,o9+i*2+1,none⟩ (.int .u64 (one:Nat)))∧Pos D p2 n2 2 1∧Pos D p3 n3 3 2∧Pos D p4 n4 2 1∧PosFl D (mC m4) p5 s.funcs j∧D ⟨g,o+j*6+1,none⟩∧Pos D qp s.funcs[j].params.length 2 1∧Pos D qv (i+1) 2 1 from ⟨_,hX.turn z1,hP2.up (fun _ h=>.inl h),hP3.up (fun _ h=>.inl h),hP4.up (fun _ h=>.inl h),hFl.up (fun _ h=>.inl h),.inl hLv,hQp.up (fun _ h=>.inl h),by rw [hq9] at hP ⊢;exact Pos.one_more hP⟩)
                rw [hq9] at c5
                clear hX hP2 hP3 hP4 hFl hLv hQp hP z0 z1 hl9 HX hq9 hi1
                go_wp2
                exact ⟨⟨i+1,by omega,by go_num,HT⟩,by simp [intOf] <;> omega⟩
               ·obtain rfl:s.funcs[j].vars.length=i:=by omega
                clear hX hP2 hP3 hP4 hFl hLv hQp hP hit hi D
                obtain ⟨D,hX,hP2,hP3,hP4,hFl,hLv,hQp,hQv⟩:=HX.out
                have t5:=hX.box.cell (j:=4) (v:=.slice p5 n5 d5) rfl
                rw [HQ.out] at t5
                have lt5:=InB.lt hX.box
                have c5:=hX.tl.other HA3.out (fun x e=>by cases e)
                have lc5:=World.block_lt_of_cell? _ _ c5
                have HS:=hid (show ∃D,XI one m4 W bt #[.slice p1 n1 d1,.slice p2 n2 d2,.slice p3 n3 d3,.slice p4 n4 d4,.slice p5 n5 d5] D wr∧Pos D p2 n2 2 1∧Pos D p3 n3 3 2∧Pos D p4 n4 2 1∧PosFl D (mC m4) p5 s.funcs j∧D ⟨g,o+j*6+1,none⟩∧Pos D qp s.funcs[j].params.length 2 1∧Pos D qv s.funcs[j].vars.length 2 1∧Pos D qr 0 1 0 from ⟨_,hX,hP2,hP3,hP4,hFl,hLv,hQp,hQv,Pos.none_yet⟩)
                clear hX hP2 hP3 hP4 hFl hLv hQp hQv HX D
                go_wp2_with fail
                go_loopw [17] (fun i wr=>∃i':Nat,i'≤s.funcs[j].results.length∧i=.int .i64 i'∧Hid (∃D,XI one m4 W bt #[.slice p1 n1 d1,.slice p2 n2 d2,.slice p3 n3 d3,.slice p4 n4 d4,.slice p5 n5 d5] D wr∧Pos D p2 n2 2 1∧Pos D p3 n3 3 2∧Pos D p4 n4 2 1∧PosFl D (mC m4) p5 s.funcs j∧D ⟨g,o+j*6+1,none⟩∧Pos D qp s.funcs[j].params.length 2 1∧Pos D qv s.funcs[j].vars.length 2 1∧Pos D qr i' 1 0)) (fun i _=>s.funcs[j].results.length - (intOf i).toNat)
                case atStart=>exact ⟨0,Nat.zero_le _,rfl,HS⟩
                case round =>
                 clear HS
                 obtain ⟨i,hi,rfl,HX⟩:=hrel
                 obtain ⟨D,hX,hP2,hP3,hP4,hFl,hLv,hQp,hQv,hP⟩:=HX.out
                 have t5:=hX.box.cell (j:=4) (v:=.slice p5 n5 d5) rfl
                 rw [HQ.out] at t5
                 have lt5:=InB.lt hX.box
                 have c5:=hX.tl.other HA3.out (fun x e=>by cases e)
                 have lc5:=World.block_lt_of_cell? _ _ c5
                 by_cases hit:i<s.funcs[j].results.length
                 ·have hi1:i<s.funcs[j].results.length:=hit
                  obtain ⟨g9,o9,hq9,z1,hl9⟩:=HPr.out.cells i hi1
                  obtain ⟨y,hy⟩:=hX.tl.cur z1
                  have hf:=hX.free _ _ z1
                  have hyl:=World.block_lt_of_cell? _ _ hy
                  have hii:(i:Int)<(s.funcs[j].results.length:Int):=by omega
                  have HT:=hid (show ∃D,XI one m4 W bt #[.slice p1 n1 d1,.slice p2 n2 d2,.slice p3 n3 d3,.slice p4 n4 d4,.slice p5 n5 d5] D (wr.setCell ⟨g9,o9+i,none⟩ (.int .u64 (one:Nat)))∧Pos D p2 n2 2 1∧Pos D p3 n3 3 2∧Pos D p4 n4 2 1∧PosFl D (mC m4) p5 s.funcs j∧D ⟨g,o+j*6+1,none⟩∧Pos D qp s.funcs[j].params.length 2 1∧Pos D qv s.funcs[j].vars.length 2 1∧Pos D qr (i+1) 1 0 from ⟨_,hX.turn z1,hP2.up (fun _ h=>.inl h),hP3.up (fun _ h=>.inl h),hP4.up (fun _ h=>.inl h),hFl.up (fun _ h=>.inl h),.inl hLv,hQp.up (fun _ h=>.inl h),hQv.up (fun _ h=>.inl h),by rw [hq9] at hP ⊢;have:=Pos.one_more hP;rwa [Nat.mul_one,Nat.add_zero] at this⟩)
                  rw [hq9] at c5
                  clear hX hP2 hP3 hP4 hFl hLv hQp hQv hP z1 hl9 HX hq9 hi1
                  go_wp2
                  exact ⟨⟨i+1,by omega,by go_num,HT⟩,by simp [intOf] <;> omega⟩
                 ·obtain rfl:s.funcs[j].results.length=i:=by omega
                  clear hX hP2 hP3 hP4 hFl hLv hQp hQv hP hit hi D
                  go_wp2
                  obtain ⟨D,hX,hP2,hP3,hP4,hFl,hLv,hQp,hQv,hQr⟩:=HX.out
                  exact ⟨⟨j+1,by omega,by go_num,hid ⟨D,hX,hP2,hP3,hP4,by
                   rw [HQ.out] at hFl ⊢
                   refine hFl.one_more hj1 ⟨hLv,fun qt ct e=>?_,fun qt ct e=>?_,fun qt ct e=>?_⟩
                   ·rw [HA2.out] at e
                    injection e with e
                    injection e with e1 e2 e3
                    rw [←e1];exact hQp
                   ·rw [HA3.out] at e
                    injection e with e
                    injection e with e1 e2 e3
                    rw [←e1];exact hQr
                   ·rw [HA4.out] at e
                    injection e with e
                    injection e with e1 e2 e3
                    rw [←e1];exact hQv⟩⟩,by simp [intOf] <;> omega⟩
           ·obtain rfl:n5=j:=by omega
            clear hX hP2 hP3 hP4 hFl hlt hj D
            obtain ⟨D,hX,hP2,hP3,hP4,hFl⟩:=HX.out
            have tk:=hX.box.cell (j:=4) (v:=.slice p5 n5 d5) rfl
            have ltk:=InB.lt hX.box
            have hSO:=src_tl HONE.out.1 hX.tl HOL.out (by rw [HN2.out];exact hP2) (by rw [HN3.out];exact hP3) (by rw [HN4.out];exact hP4) (by rw [HN5.out];exact hFl)
            have HCK:=hid (flows_one hSO (HON.out (by first|rfl|trivial) one HONE.out.1 HONE.out.2))
            rw [HN1.out,HN2.out,HN3.out,HN4.out,HN5.out] at HCK
            have HBX:=hid hX.low
            have t0:=InB.cell hX.box (j:=0) (v:=.slice p1 n1 d1) rfl
            have t1:=InB.cell hX.box (j:=1) (v:=.slice p2 n2 d2) rfl
            have t2:=InB.cell hX.box (j:=2) (v:=.slice p3 n3 d3) rfl
            have t3:=InB.cell hX.box (j:=3) (v:=.slice p4 n4 d4) rfl
            unfold flA at HCK
            clear hSO hX hP2 hP3 hP4 hFl HX D HON
            go_wp2_with fail
            go_at_call 10
            refine HCK.out.mono ?_
            rintro e w9 ⟨rfl,hb9⟩
            have HB9:=hid (bl_tr HBX.out hb9)
            clear hb9 HCK t0 t1 t2 t3 tk ltk
            go_wp2
            go_ret
            exact ⟨rfl,HB9.out⟩
end
end Go.Proofs.YtlpdjfimefjmcaaGreatDoor
