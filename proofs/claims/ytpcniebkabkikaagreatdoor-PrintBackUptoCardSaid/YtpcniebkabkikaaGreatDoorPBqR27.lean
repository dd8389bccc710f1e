/- A part of the proof of PrintBack: contracts and plain facts. -/
import Derived.Test.YtpcniebkabkikaaGreatDoorPBqR26
import Derived.Test.YtpcniebkabkikaaGreatDoorPBqR16
import Derived.Test.YtpcniebkabkikaaGreatDoorPBqR25
import Derived.BigRegion
import Derived.Test.YtpcniebkabkikaaGreatDoorPBqR15
import Derived.Test.YtpcniebkabkikaaGreatDoorPBqR13
import Derived.Test.YtpcniebkabkikaaGreatDoorPBqR9
import Derived.Shelf.Strings.BuilderK
set_option maxRecDepth 100000
set_option maxHeartbeats 8000000
open Go.Lib (hid)
open Go.Proofs.Tryz
open List renaming length_map → nld
open Go.World renaming alloc_heap_new → nwn, size_alloc → nwz
namespace Go.Proofs.YtpcniebkabkikaaGreatDoor
open Go Go.RowKit Go.Proofs.Mm
section
variable {C D:Cl} {W:World} {q1 q2 q3 q4 q5 r1 r2 r3 r4 r5:Option Addr}
theorem kitSo (s t:SoZ) {c1 c2 c3 c4 c5 d1 d2 d3 d4 d5:Nat} (hs:SoR C s q1 c1 q2 q3 q4 q5) (ht:SoR D t r1 d1 r2 r3 r4 r5) (hC:CLe C (wC W)) (hD:CLe D (wC W)) :
 Calls prog 26 #[sov s q1 c1 q2 c2 q3 c3 q4 c4 q5 c5,sov t r1 d1 r2 d2 r3 d3 r4 d4 r5 d5] W (SaysB (s=t) W):=by
 have HB:=hid (show Below W.heap.size W ((W.alloc (soo s q1 c1 q2 c2 q3 c3 q4 c4 q5 c5)).alloc (soo t r1 d1 r2 d2 r3 d3 r4 d4 r5 d5)) from ((Below.refl _ _).alloc (Nat.le_refl _) _).alloc (by rw [nwz];omega) _)
 have HX:=hid (ad_ (W.alloc (soo s q1 c1 q2 c2 q3 c3 q4 c4 q5 c5)) (soo t r1 d1 r2 d2 r3 d3 r4 d4 r5 d5) (nwn W (soo s q1 c1 q2 c2 q3 c3 q4 c4 q5 c5)))
 have hy:=nwn (W.alloc (soo s q1 c1 q2 c2 q3 c3 q4 c4 q5 c5)) (soo t r1 d1 r2 d2 r3 d3 r4 d4 r5 d5)
 rw [nwz] at hy
 have HY:=hid hy
 obtain ⟨lv,hlv⟩:=hs.fn
 obtain ⟨lv',hlv'⟩:=ht.fn
 have HPR:=hid (fun w (h:Below W.heap.size W w)=>kitStr (c:=c1) (c':=d1) hs.pf.2 ht.pf.2 hs.pr ht.pr (hC.trans (ab_ h)) (hD.trans (ab_ h)))
 have HGL:=hid (fun w (h:Below W.heap.size W w)=>kitDe (c:=c2) (c':=d2) hs.gf.2 ht.gf.2 hs.gl ht.gl (hC.trans (ab_ h)) (hD.trans (ab_ h)))
 have HCH:=hid (fun w (h:Below W.heap.size W w)=>kitDe (c:=c4) (c':=d4) hs.cf.2 ht.cf.2 hs.ch ht.ch (hC.trans (ab_ h)) (hD.trans (ab_ h)))
 have HEXT:=hid (show (s.principals=t.principals∧s.globals=t.globals∧s.arrays=t.arrays∧s.channels=t.channels∧s.funcs=t.funcs)↔s=t from ⟨fun ⟨a,b,c,d,e⟩=>tr_ a b c d e,fun h=>by subst h;exact ⟨rfl,rfl,rfl,rfl,rfl⟩⟩)
 have HAR:=hid (And.intro hs.ar ht.ar)
 have HFN:=hid (And.intro hlv hlv')
 have HAN:=hid (And.intro hs.af.2 ht.af.2)
 have HFF:=hid (And.intro hs.ff ht.ff)
 have HCC:=hid hC
 have HDD:=hid hD
 unfold sov
 unfold soo at HB HX HY
 clear hs ht hC hD hy hlv hlv'
 obtain ⟨na,hna⟩:∃n,s.arrays.length=n:=⟨_,rfl⟩
 obtain ⟨na',hna'⟩:∃n,t.arrays.length=n:=⟨_,rfl⟩
 obtain ⟨nf,hnf⟩:∃n,s.funcs.length=n:=⟨_,rfl⟩
 obtain ⟨nf',hnf'⟩:∃n,t.funcs.length=n:=⟨_,rfl⟩
 have HNA:=hid (And.intro hna hna')
 have HNF:=hid (And.intro hnf hnf')
 rw [hna,hnf,hna',hnf'] at HB HX HY ⊢
 have hmA:na≤9223372036854775807:=by rw [←hna];exact HAN.out.1
 have hmA':na'≤9223372036854775807:=by rw [←hna'];exact HAN.out.2
 have hmF:nf≤9223372036854775807:=by rw [←hnf];exact HFF.out.1
 have hmF':nf'≤9223372036854775807:=by rw [←hnf'];exact HFF.out.2
 clear hna hna' hnf hnf'
 obtain ⟨ba,eba⟩:∃b,((na:Int) != (na':Int))=b:=⟨_,rfl⟩
 obtain ⟨bf,ebf⟩:∃b,((nf:Int) != (nf':Int))=b:=⟨_,rfl⟩
 have HBA:=hid (show ba=true↔na≠na' from by rw [←eba,bne_iff_ne];omega)
 have HBF:=hid (show bf=true↔nf≠nf' from by rw [←ebf,bne_iff_ne];omega)
 go_enter func26,ntmps26
 obtain ⟨x0,x1,x2,x3,x4⟩:=al_ (HX.out)
 obtain ⟨y0,y1,y2,y3,y4⟩:=al_ (HY.out)
 have HW1:=hid (HPR.out _ HB.out)
 go_wp2_with fail
 go_at_call 51
 refine HW1.out.mono ?_
 rintro e w1 ⟨p1,rfl,hp1,kk1,hw1⟩
 have HB1:=hid (show Below W.heap.size W w1 from by rw [hw1];exact below_drewN HB.out _)
 have HX1:=hid HX.out
 have HY1:=hid HY.out
 replace HX1:=hid (show w1.heap[_]?=some _ from by rw [hw1];exact HX1.out)
 replace HY1:=hid (show w1.heap[_]?=some _ from by rw [hw1];exact HY1.out)
 have HP1:=hid hp1
 clear hw1 hp1 HW1 x0 x1 x2 x3 x4 y0 y1 y2 y3 y4
 obtain ⟨x0,x1,x2,x3,x4⟩:=al_ (HX1.out)
 obtain ⟨y0,y1,y2,y3,y4⟩:=al_ (HY1.out)
 cases p1
 ·go_wp2_with fail
  go_ret
  exact ⟨false,rfl,by rw [←HEXT.out];exact ⟨fun h=>(by cases h),fun h=>HP1.out.2 h.1⟩,HB1.out⟩
 have HW2:=hid (HGL.out _ HB1.out)
 go_wp2_with fail
 go_at_call 52
 refine HW2.out.mono ?_
 rintro e w2 ⟨p2,rfl,hp2,kk2,hw2⟩
 have HB2:=hid (show Below W.heap.size W w2 from by rw [hw2];exact below_drewN HB1.out _)
 have HX2:=hid HX1.out
 have HY2:=hid HY1.out
 replace HX2:=hid (show w2.heap[_]?=some _ from by rw [hw2];exact HX2.out)
 replace HY2:=hid (show w2.heap[_]?=some _ from by rw [hw2];exact HY2.out)
 have HP2:=hid hp2
 clear hw2 hp2 HW2 x0 x1 x2 x3 x4 y0 y1 y2 y3 y4
 obtain ⟨x0,x1,x2,x3,x4⟩:=al_ (HX2.out)
 obtain ⟨y0,y1,y2,y3,y4⟩:=al_ (HY2.out)
 cases p2
 ·go_wp2_with fail
  go_ret
  exact ⟨false,rfl,by rw [←HEXT.out];exact ⟨fun h=>(by cases h),fun h=>HP2.out.2 h.2.1⟩,HB2.out⟩
 have HW3:=hid (HCH.out _ HB2.out)
 go_wp2_with fail
 go_at_call 52
 refine HW3.out.mono ?_
 rintro e w3 ⟨p3,rfl,hp3,kk3,hw3⟩
 have HB3:=hid (show Below W.heap.size W w3 from by rw [hw3];exact below_drewN HB2.out _)
 have HX3:=hid HX2.out
 have HY3:=hid HY2.out
 replace HX3:=hid (show w3.heap[_]?=some _ from by rw [hw3];exact HX3.out)
 replace HY3:=hid (show w3.heap[_]?=some _ from by rw [hw3];exact HY3.out)
 have HP3:=hid hp3
 clear hw3 hp3 HW3 x0 x1 x2 x3 x4 y0 y1 y2 y3 y4
 obtain ⟨x0,x1,x2,x3,x4⟩:=al_ (HX3.out)
 obtain ⟨y0,y1,y2,y3,y4⟩:=al_ (HY3.out)
 cases p3
 ·go_wp2_with fail
  go_ret
  exact ⟨false,rfl,by rw [←HEXT.out];exact ⟨fun h=>(by cases h),fun h=>HP3.out.2 h.2.2.2.1⟩,HB3.out⟩
 cases ba
 case true =>
  go_wp2_with fail
  go_ret
  exact ⟨false,rfl,by rw [←HEXT.out];exact ⟨fun h=>(by cases h),fun h=>absurd (by rw [←HNA.out.1,←HNA.out.2,h.2.2.1]) (HBA.out.1 (by first|rfl|trivial))⟩,HB3.out⟩
 have ena:na=na':=Decidable.byContradiction fun h=>by have:=HBA.out.2 h;cases this
 cases bf
 case true =>
  go_wp2_with fail
  go_ret
  exact ⟨false,rfl,by rw [←HEXT.out];exact ⟨fun h=>(by cases h),fun h=>absurd (by rw [←HNF.out.1,←HNF.out.2,h.2.2.2.2]) (HBF.out.1 (by first|rfl|trivial))⟩,HB3.out⟩
 have enf:nf=nf':=Decidable.byContradiction fun h=>by have:=HBF.out.2 h;cases this
 subst ena;subst enf
 clear HBA HBF
 have HPA:=hid (And.intro (HP1.out.1 (by first|rfl|trivial)) (And.intro (HP2.out.1 (by first|rfl|trivial)) (HP3.out.1 (by first|rfl|trivial))))
 clear HP1 HP2 HP3 HB HB1 HB2 HX HX1 HX2 HY HY1 HY2 HPR HGL HCH
 go_wp2_with fail
 go_loopw [5] (fun i wr=>∃k nq:Nat,k≤na∧i=.int .i64 k∧wr=w3.drewN nq∧Hid (s.arrays.take k=t.arrays.take k)) (fun i _=>na - (intOf i).toNat)
 case atStart=>exact ⟨0,0,Nat.zero_le _,rfl,rfl,hid rfl⟩
 case round =>
  obtain ⟨k,nq,hk,rfl,rfl,hT⟩:=hrel
  by_cases hlt:k<na
  ·have hk1:k<s.arrays.length:=by rw [HNA.out.1];exact hlt
   have hk2:k<t.arrays.length:=by rw [HNA.out.2];exact hlt
   obtain ⟨g,o,rfl,a0,a1,a2⟩:=HAR.out.1 k hk1
   obtain ⟨g',o',rfl,b0,b1,b2⟩:=HAR.out.2 k hk2
   have u0:w3.cell? ⟨g,o+k*3,none⟩=some (.string s.arrays[k].name):=ab_ HB3.out _ _ (HCC.out _ _ a0)
   have v0:w3.cell? ⟨g',o'+k*3,none⟩=some (.string t.arrays[k].name):=ab_ HB3.out _ _ (HDD.out _ _ b0)
   have u1:w3.cell? ⟨g,o+k*3+1,none⟩=some (.int .i64 s.arrays[k].len):=ab_ HB3.out _ _ (HCC.out _ _ a1)
   have v1:w3.cell? ⟨g',o'+k*3+1,none⟩=some (.int .i64 t.arrays[k].len):=ab_ HB3.out _ _ (HDD.out _ _ b1)
   have u2:w3.cell? ⟨g,o+k*3+2,none⟩=some (.int .u64 (s.arrays[k].label:Nat)):=ab_ HB3.out _ _ (HCC.out _ _ a2)
   have v2:w3.cell? ⟨g',o'+k*3+2,none⟩=some (.int .u64 (t.arrays[k].label:Nat)):=ab_ HB3.out _ _ (HDD.out _ _ b2)
   clear a0 a1 a2 b0 b1 b2
   have hki:(k:Int)<(na:Int):=by omega
   by_cases heq:s.arrays[k]=t.arrays[k]
   ·have HT2:=hid (bc_ hk1 hk2 hT.out heq)
    rw [←heq] at v0 v1 v2
    generalize s.arrays[k].name=z0 at *
    have e0a:(z0.toList == z0.toList)=true:=by simp
    generalize s.arrays[k].len=z1 at *
    have e1a:((z1:Int) == (z1:Int))=true:=by simp
    generalize s.arrays[k].label=z2 at *
    have e2a:(((z2:Nat):Int) == ((z2:Nat):Int))=true:=by simp
    clear heq
    go_wp2
    go_quiet (fail)
    go_wp2
    exact ⟨⟨k+1,_,by omega,by go_num,rfl,HT2⟩,by simp [intOf];omega⟩
   ·have HNE:=hid (dt_ hk1 hk2 heq)
    obtain ⟨b0,e0⟩:∃b,(s.arrays[k].name.toList == t.arrays[k].name.toList)=b:=⟨_,rfl⟩
    obtain ⟨b1,e1⟩:∃b,(s.arrays[k].len == t.arrays[k].len)=b:=⟨_,rfl⟩
    obtain ⟨b2,e2⟩:∃b,(((s.arrays[k].label:Nat):Int) == ((t.arrays[k].label:Nat):Int))=b:=⟨_,rfl⟩
    have HB4:=hid (show ¬(b0=true∧b1=true∧b2=true) from fun ⟨f0,f1,f2⟩=>heq (by
     subst f0 f1 f2
     have g0:=hm_.1 e0
     have g1:=beq_iff_eq.1 e1
     have g2:=Int.ofNat.inj (beq_iff_eq.1 e2)
     generalize s.arrays[k]=x at g0 g1 g2 ⊢
     generalize t.arrays[k]=y at g0 g1 g2 ⊢
     cases x;cases y;simp_all))
    clear heq
    generalize s.arrays[k].name=z0 at *
    generalize t.arrays[k].name=z0' at *
    generalize s.arrays[k].len=z1 at *
    generalize t.arrays[k].len=z1' at *
    generalize s.arrays[k].label=z2 at *
    generalize t.arrays[k].label=z2' at *
    cases b0 <;> cases b1 <;> cases b2
    all_goals first
     | exact absurd ⟨rfl,rfl,rfl⟩ HB4.out
     | (go_wp2
        go_quiet (fail)
        go_wp2
        go_ret
        exact ⟨false,rfl,by rw [←HEXT.out];exact ⟨fun h=>(by cases h),fun h=>absurd h.2.2.1 HNE.out⟩,by first|exact below_drewN HB3.out _|exact below_drewN (below_drewN HB3.out _) _|exact below_drewN (below_drewN (below_drewN HB3.out _) _) _⟩)
  ·obtain rfl:k=na:=by omega
   have HT2:=hid (bp_ HNA.out.1 HNA.out.2 hT.out)
   have hki:¬(k:Int)<(k:Int):=by omega
   have HX5:=hid (heapD HX3.out nq)
   have HY5:=hid (heapD HY3.out nq)
   have HB5:=hid (below_drewN HB3.out nq)
   clear HX3 HY3 HB3 hT
   go_wp2_with fail
   generalize (w3.drewN nq:World)=W5 at *
   go_loopw [6] (fun i wr=>∃k:Nat,k≤nf∧i=.int .i64 k∧Hid (Below W5.heap.size W5 wr)∧Hid (s.funcs.take k=t.funcs.take k)) (fun i _=>nf - (intOf i).toNat)
   case atStart=>exact ⟨0,Nat.zero_le _,rfl,hid (Below.refl _ _),hid rfl⟩
   case round =>
    obtain ⟨k2,hk2,rfl,HC,hT⟩:=hrel
    have HXr:=hid ((HC.out.block _ (heap_lt HX5.out)).trans HX5.out)
    have HYr:=hid ((HC.out.block _ (heap_lt HY5.out)).trans HY5.out)
    have HBr:=hid (ac_ HB5.out HC.out)
    clear x0 x1 x2 x3 x4 y0 y1 y2 y3 y4 hki
    obtain ⟨_,_,_,_,x4⟩:=al_ HXr.out
    obtain ⟨_,_,_,_,y4⟩:=al_ HYr.out
    by_cases hlt2:k2<nf
    ·have hk1:k2<s.funcs.length:=by rw [HNF.out.1];exact hlt2
     have hk3:k2<t.funcs.length:=by rw [HNF.out.2];exact hlt2
     have hk4:k2<lv.length:=by rw [HFN.out.1.len];exact hk1
     have hk5:k2<lv'.length:=by rw [HFN.out.2.len];exact hk3
     obtain ⟨g,o,rfl,a0,a1,a2,a3,a4,a5⟩:=HFN.out.1.cells k2 hk4
     obtain ⟨g',o',rfl,b0,b1,b2,b3,b4,b5⟩:=HFN.out.2.cells k2 hk5
     obtain ⟨qa,xa,qb,xb,qc,xc,qd,xd,eu,hs⟩:=HFN.out.1.rd k2 hk4 hk1
     obtain ⟨qa',xa',qb',xb',qc',xc',qd',xd',eu',hs'⟩:=HFN.out.2.rd k2 hk5 hk3
     rw [eu] at a0 a1 a2 a3 a4 a5
     rw [eu'] at b0 b1 b2 b3 b4 b5
     have HNX:=hid (fun h:s.funcs[k2]=t.funcs[k2]=>bc_ hk1 hk3 hT.out h)
     have HNN:=hid (fun h:¬s.funcs[k2]=t.funcs[k2]=>dt_ hk1 hk3 h)
     clear eu eu'
     generalize s.funcs[k2]=fn at *
     generalize t.funcs[k2]=gn at *
     have p0:wr.cell? ⟨g,o+k2*6,none⟩=some (.string fn.name):=ab_ HBr.out _ _ (HCC.out _ _ a0)
     have u0:wr.cell? ⟨g',o'+k2*6,none⟩=some (.string gn.name):=ab_ HBr.out _ _ (HDD.out _ _ b0)
     have p1:wr.cell? ⟨g,o+k2*6+1,none⟩=some (.int .u64 (fn.level:Nat)):=ab_ HBr.out _ _ (HCC.out _ _ a1)
     have u1:wr.cell? ⟨g',o'+k2*6+1,none⟩=some (.int .u64 (gn.level:Nat)):=ab_ HBr.out _ _ (HDD.out _ _ b1)
     have p2:wr.cell? ⟨g,o+k2*6+2,none⟩=some (.slice qa fn.params.length xa):=ab_ HBr.out _ _ (HCC.out _ _ a2)
     have u2:wr.cell? ⟨g',o'+k2*6+2,none⟩=some (.slice qa' gn.params.length xa'):=ab_ HBr.out _ _ (HDD.out _ _ b2)
     have p3:wr.cell? ⟨g,o+k2*6+3,none⟩=some (.slice qb fn.results.length xb):=ab_ HBr.out _ _ (HCC.out _ _ a3)
     have u3:wr.cell? ⟨g',o'+k2*6+3,none⟩=some (.slice qb' gn.results.length xb'):=ab_ HBr.out _ _ (HDD.out _ _ b3)
     have p4:wr.cell? ⟨g,o+k2*6+4,none⟩=some (.slice qc fn.vars.length xc):=ab_ HBr.out _ _ (HCC.out _ _ a4)
     have u4:wr.cell? ⟨g',o'+k2*6+4,none⟩=some (.slice qc' gn.vars.length xc'):=ab_ HBr.out _ _ (HDD.out _ _ b4)
     have p5:wr.cell? ⟨g,o+k2*6+5,none⟩=some (.slice qd fn.body.length xd):=ab_ HBr.out _ _ (HCC.out _ _ a5)
     have u5:wr.cell? ⟨g',o'+k2*6+5,none⟩=some (.slice qd' gn.body.length xd'):=ab_ HBr.out _ _ (HDD.out _ _ b5)
     have HP:=hid hs
     have HU:=hid hs'
     clear hs hs' a0 a1 a2 a3 a4 a5 b0 b1 b2 b3 b4 b5 hT hk4 hk5
     have l1:W.heap.size<wr.heap.size:=World.block_lt_of_cell? _ _ x4
     have l2:W.heap.size+1<wr.heap.size:=World.block_lt_of_cell? _ _ y4
     have l3:g<wr.heap.size:=World.block_lt_of_cell? _ _ p0
     have l4:g'<wr.heap.size:=World.block_lt_of_cell? _ _ u0
     have hki2:(k2:Int)<(nf:Int):=by omega
     have HKS:=hid (And.intro hk1 hk3)
     clear hk1 hk3
     go_upto_region 11 with fail
     go_cut [7,8] from 67 to 127 (fun r7 r8 wx=>∃g7 g8,r7=.pointer (some ⟨g7,0,none⟩)∧r8=.pointer (some ⟨g8,0,none⟩)∧Hid (wx.heap[g7]?=some (.cells #[.string fn.name,.int .u64 (fn.level:Nat),.slice qa fn.params.length xa,.slice qb fn.results.length xb,.slice qc fn.vars.length xc,.slice qd fn.body.length xd] 54 (0,0)))∧Hid (wx.heap[g8]?=some (.cells #[.string gn.name,.int .u64 (gn.level:Nat),.slice qa' gn.params.length xa',.slice qb' gn.results.length xb',.slice qc' gn.vars.length xc',.slice qd' gn.body.length xd'] 54 (0,0)))∧Hid (Below wr.heap.size wr wx))
     case first =>
      have w1:=nwn wr (.cells #[.string fn.name,.int .u64 (fn.level:Nat),.slice qa fn.params.length xa,.slice qb fn.results.length xb,.slice qc fn.vars.length xc,.slice qd fn.body.length xd] 54)
      have w2:=nwn wr (.cells #[.string gn.name,.int .u64 (gn.level:Nat),.slice qa' gn.params.length xa',.slice qb' gn.results.length xb',.slice qc' gn.vars.length xc',.slice qd' gn.body.length xd'] 54)
      have w3:=nwn (wr.alloc (.cells #[.string fn.name,.int .u64 (fn.level:Nat),.slice qa fn.params.length xa,.slice qb fn.results.length xb,.slice qc fn.vars.length xc,.slice qd fn.body.length xd] 54)) (.cells #[.string gn.name,.int .u64 (gn.level:Nat),.slice qa' gn.params.length xa',.slice qb' gn.results.length xb',.slice qc' gn.vars.length xc',.slice qd' gn.body.length xd'] 54)
      have w4:=nwn (wr.alloc (.cells #[.string gn.name,.int .u64 (gn.level:Nat),.slice qa' gn.params.length xa',.slice qb' gn.results.length xb',.slice qc' gn.vars.length xc',.slice qd' gn.body.length xd'] 54)) (.cells #[.string fn.name,.int .u64 (fn.level:Nat),.slice qa fn.params.length xa,.slice qb fn.results.length xb,.slice qc fn.vars.length xc,.slice qd fn.body.length xd] 54)
      rw [nwz] at w3 w4
      have H1:=hid (And.intro (ad_ _ (.cells #[.string gn.name,.int .u64 (gn.level:Nat),.slice qa' gn.params.length xa',.slice qb' gn.results.length xb',.slice qc' gn.vars.length xc',.slice qd' gn.body.length xd'] 54) w1) w3)
      have H2:=hid (And.intro (ad_ _ (.cells #[.string fn.name,.int .u64 (fn.level:Nat),.slice qa fn.params.length xa,.slice qb fn.results.length xb,.slice qc fn.vars.length xc,.slice qd fn.body.length xd] 54) w2) w4)
      clear w1 w2 w3 w4
      go_region
      all_goals
       go_wp2_with fail
       go_meet
       first
        | exact ⟨_,_,rfl,rfl,hid H1.out.1,hid H1.out.2,hid (bb_ (bb_ (Below.refl _ wr) _) _).drew⟩
        | exact ⟨_,_,rfl,rfl,hid H2.out.2,hid H2.out.1,hid (bb_ (bb_ (Below.refl _ wr) _) _).drew⟩
     case rest =>
      obtain ⟨g7,g8,rfl,rfl,HG7,HG8,HCX⟩:=hcut
      have HBc:=hid (ac_ HBr.out HCX.out)
      have HCc:=hid (ac_ HC.out HCX.out)
      clear p0 p1 p2 p3 p4 p5 u0 u1 u2 u3 u4 u5 l1 l2 l3 l4 x4 y4
      obtain ⟨v0,v1,v2,v3,v4,v5⟩:=c2_ HG7.out
      obtain ⟨z0,z1,z2,z3,z4,z5⟩:=c2_ HG8.out
      obtain ⟨bl1,hbl1⟩:=HP.out.bd
      obtain ⟨bl2,hbl2⟩:=HU.out.bd
      have D1:=hid (fun n=>kitDe (w:=wc.drewN n) (c:=xa) (c':=xa') HP.out.fine.ps.2 HU.out.fine.ps.2 HP.out.ps HU.out.ps (HCC.out.trans (ab_ (below_drewN HBc.out n))) (HDD.out.trans (ab_ (below_drewN HBc.out n))))
      have D2:=hid (fun n=>kitLa (w:=wc.drewN n) (c:=xb) (c':=xb') HP.out.fine.rs.2 HU.out.fine.rs.2 HP.out.rs HU.out.rs (HCC.out.trans (ab_ (below_drewN HBc.out n))) (HDD.out.trans (ab_ (below_drewN HBc.out n))))
      have D3:=hid (fun n=>kitDe (w:=wc.drewN n) (c:=xc) (c':=xc') HP.out.fine.vs.2 HU.out.fine.vs.2 HP.out.vs HU.out.vs (HCC.out.trans (ab_ (below_drewN HBc.out n))) (HDD.out.trans (ab_ (below_drewN HBc.out n))))
      have D4:=hid (fun n=>kitSt (w:=wc.drewN n) (c:=xd) (c':=xd') hbl1 hbl2 (HCC.out.trans (ab_ (below_drewN HBc.out n))) (HDD.out.trans (ab_ (below_drewN HBc.out n))))
      clear hbl1 hbl2 HP HU
      obtain ⟨t1,e1⟩:∃b,(fn.name.toList == gn.name.toList)=b:=⟨_,rfl⟩
      obtain ⟨t2,e2⟩:∃b,(((fn.level:Nat):Int) == ((gn.level:Nat):Int))=b:=⟨_,rfl⟩
      have HE1:=hid (show t1=true↔fn.name=gn.name from by rw [←e1];exact hm_)
      have HE2:=hid (show t2=true↔fn.level=gn.level from by rw [←e2,beq_iff_eq];exact Int.ofNat_inj)
      have HFE:=hid (show (fn.name=gn.name∧fn.level=gn.level∧fn.params=gn.params∧fn.results=gn.results∧fn.vars=gn.vars∧fn.body=gn.body)↔fn=gn from ⟨fun ⟨a,b,c,d,e,f⟩=>tq_ a b c d e f,fun h=>by subst h;exact ⟨rfl,rfl,rfl,rfl,rfl,rfl⟩⟩)
      have HZ:=hid (fun (h:¬fn=gn) (x:s=t)=>HNN.out h (by rw [x]))
      clear HNN
      have e3:(fn.name.toList != gn.name.toList)=!t1:=by rw [←e1];rfl
      have e4:(((fn.level:Nat):Int) != ((gn.level:Nat):Int))=!t2:=by rw [←e2];rfl
      generalize hname:fn.name=nm at v0 v1 e1 e2 e3 e4
      generalize hname':gn.name=nm' at z0 z1 e1 e2 e3 e4
      generalize hlevel:fn.level=lvl at v0 v1 e1 e2 e3 e4
      generalize hlevel':gn.level=lvl' at z0 z1 e1 e2 e3 e4
      clear hname hname' hlevel hlevel'
      cases t1
      case false =>
       simp only [Bool.not_false] at e3
       go_wp2_with fail
       go_ret
       exact ⟨false,rfl,⟨fun h=>(by cases h),fun h=>absurd h (HZ.out (fun h=>by have:=HE1.out.2 (HFE.out.2 h).1;cases this))⟩,by first|exact HBc.out|exact below_drewN HBc.out _|exact below_drewN (below_drewN HBc.out _) _⟩
      simp only [Bool.not_true] at e3
      cases t2
      case false =>
       simp only [Bool.not_false] at e4
       go_wp2_with fail
       go_ret
       exact ⟨false,rfl,⟨fun h=>(by cases h),fun h=>absurd h (HZ.out (fun h=>by have:=HE2.out.2 (HFE.out.2 h).2.1;cases this))⟩,by first|exact HBc.out|exact below_drewN HBc.out _|exact below_drewN (below_drewN HBc.out _) _⟩
      simp only [Bool.not_true] at e4
      go_wp2_with fail
      go_at_call 52
      have E1:=D1.out 0
      rw [World.drewN_zero] at E1
      refine E1.mono ?_
      rintro e w1 ⟨bq,rfl,hq1,j1,rfl⟩
      have HQ1:=hid hq1
      clear hq1 E1
      cases bq
      case false =>
       go_wp2_with fail
       go_ret
       exact ⟨false,rfl,⟨fun h=>(by cases h),fun h=>absurd h (HZ.out (fun h=>by have:=HQ1.out.2 (HFE.out.2 h).2.2.1;cases this))⟩,by first|exact HBc.out|exact below_drewN HBc.out _|exact below_drewN (below_drewN HBc.out _) _⟩
      go_wp2_with fail
      go_at_call 53
      refine (D2.out _).mono ?_
      rintro e w1 ⟨bq,rfl,hq2,j2,rfl⟩
      have HQ2:=hid hq2
      clear hq2
      cases bq
      case false =>
       go_wp2_with fail
       go_ret
       exact ⟨false,rfl,⟨fun h=>(by cases h),fun h=>absurd h (HZ.out (fun h=>by have:=HQ2.out.2 (HFE.out.2 h).2.2.2.1;cases this))⟩,by first|exact HBc.out|exact below_drewN HBc.out _|exact below_drewN (below_drewN HBc.out _) _⟩
      go_wp2_with fail
      go_at_call 52
      refine (D3.out _).mono ?_
      rintro e w1 ⟨bq,rfl,hq3,j3,rfl⟩
      have HQ3:=hid hq3
      clear hq3
      cases bq
      case false =>
       go_wp2_with fail
       go_ret
       exact ⟨false,rfl,⟨fun h=>(by cases h),fun h=>absurd h (HZ.out (fun h=>by have:=HQ3.out.2 (HFE.out.2 h).2.2.2.2.1;cases this))⟩,by first|exact HBc.out|exact below_drewN HBc.out _|exact below_drewN (below_drewN HBc.out _) _⟩
      go_wp2_with fail
      go_at_call 54
      refine (D4.out _).mono ?_
      rintro e w1 ⟨bq,rfl,hq4,j4,rfl⟩
      have HQ4:=hid hq4
      clear hq4
      cases bq
      case false =>
       go_wp2_with fail
       go_ret
       exact ⟨false,rfl,⟨fun h=>(by cases h),fun h=>absurd h (HZ.out (fun h=>by have:=HQ4.out.2 (HFE.out.2 h).2.2.2.2.2;cases this))⟩,by first|exact HBc.out|exact below_drewN HBc.out _|exact below_drewN (below_drewN HBc.out _) _⟩
      have HT3:=hid (HNX.out (HFE.out.1 ⟨HE1.out.1 (by first|rfl|trivial),HE2.out.1 (by first|rfl|trivial),HQ1.out.1 (by first|rfl|trivial),HQ2.out.1 (by first|rfl|trivial),HQ3.out.1 (by first|rfl|trivial),HQ4.out.1 (by first|rfl|trivial)⟩))
      go_wp2_with fail
      exact ⟨⟨k2+1,by omega,by go_num,hid (below_drewN HCc.out _),HT3⟩,by simp [intOf];omega⟩
    ·have hki2:¬(k2:Int)<(nf:Int):=by omega
     obtain rfl:k2=nf:=by omega
     have HT3:=hid (bp_ HNF.out.1 HNF.out.2 hT.out)
     go_wp2_with fail
     go_ret
     exact ⟨true,rfl,by rw [←HEXT.out];exact ⟨fun _=>⟨HPA.out.1,HPA.out.2.1,HT2.out,HPA.out.2.2,HT3.out⟩,fun _=>rfl⟩,HBr.out⟩
end
end Go.Proofs.YtpcniebkabkikaaGreatDoor
namespace Go.Proofs.YtpcniebkabkikaaGreatDoor
open Go Go.RowKit Go.Proofs.Mm
open List renaming setIfInBounds_toArray → n1,set_cons_zero → n2,set_cons_succ → n3,getElem_toArray → n4,getElem_cons_zero → n5,getElem_cons_succ → n6
section
variable {C:Cl} {B b:Nat} {vp:Value} {t:List Nat} {W:World}
theorem yr_ (hc:PC C B) (s:SoZ) {q1 q2 q3 q4 q5:Option Addr} (c1 c2 c3 c4 c5:Nat) (h:PI C B b (.slice q1 s.principals.length c1) t W) (hs:SoR C s q1 c1 q2 q3 q4 q5) (h0:s.principals.length=0) :
 Calls prog 33 #[.pointer (some ⟨b,0,none⟩),sov s q1 c1 q2 c2 q3 c3 q4 c4 q5 c5] W (Wrote C B b (.slice q1 s.principals.length c1) W (t++(s.globals.flatMap (kdZ [103,108,111,98,97,108,32] s.principals)++(s.arrays.flatMap (arZ s.principals)++(s.channels.flatMap (kdZ [99,104,97,110,110,101,108,32] s.principals)++s.funcs.flatMap (fnZ s.principals)))))):=by
 have hne:W.heap.size≠b:=by have:=h.b_lt;omega
 have HP1:=hid (h.alloc hc (soo s q1 c1 q2 c2 q3 c3 q4 c4 q5 c5))
 have HK1:=hid ((Kp.refl B (fun k=>k=b) W).alloc h.low (soo s q1 c1 q2 c2 q3 c3 q4 c4 q5 c5))
 have HX1:=hid (nwn W (soo s q1 c1 q2 c2 q3 c3 q4 c4 q5 c5))
 have HC:=hid hc
 have HS:=hid hs
 obtain ⟨lv,hlv⟩:=hs.fn
 have HLV:=hid hlv
 have hmx:prog.follows .mixedOrders=true:=by kernel_rfl
 have hgt:¬(0:Int)<(s.principals.length:Int):=by omega
 unfold soo at HP1 HK1 HX1
 unfold sov
 clear h hc hs hlv h0
 go_enter func33,ntmps33
 go_upto_region 1 with fail
 generalize (W.alloc _:World)=w1 at *
 obtain ⟨d0,d1,d2,d3,d4⟩:=aj_ HX1.out
 go_upto_region 5 with fail
 have HPd:=hid (HP1.out.all HC.out (Below.refl _ w1).drew)
 have HKd:=hid (show Kp B (fun k=>k=b) W w1.drew from HK1.out.drewN 1)
 have HXd:=hid (show w1.drew.heap[W.heap.size]?=some (soo s q1 c1 q2 c2 q3 c3 q4 c4 q5 c5) from HX1.out)
 clear d0 d1 d2 d3 d4 HP1 HK1 HX1
 have hS0:=aj_ HXd.out
 refine wp_region_held_drew (S:=(fun w':World=>w'.cell? ⟨W.heap.size,0,none⟩=some (.slice q1 s.principals.length c1)∧w'.cell? ⟨W.heap.size,1,none⟩=some (.slice q2 s.globals.length c2)∧w'.cell? ⟨W.heap.size,2,none⟩=some (.slice q3 s.arrays.length c3)∧w'.cell? ⟨W.heap.size,3,none⟩=some (.slice q4 s.channels.length c4)∧w'.cell? ⟨W.heap.size,4,none⟩=some (.slice q5 s.funcs.length c5))) hmx hS0 (fun hHeld=>?_)
 refine wpAnyH_take (i:=0) (v:=.pointer (some ⟨b,0,none⟩)) rfl (by kernel_rfl) (by kernel_rfl) (by kernel_rfl) (fun _ _ _ h=>h) (Or.inl ⟨by rfl,fun w hSw=>by obtain ⟨s0,s1,s2,s3,s4⟩:=hSw;go_simp⟩) (by assumption) ?_
 try simp only [Act.put,n1,n2,n3,n4,n5,n6]
 refine wpAnyH_take (i:=1) (v:=.pointer (some ⟨b,0,none⟩)) rfl (by kernel_rfl) (by kernel_rfl) (by kernel_rfl) (fun _ _ _ h=>h) (Or.inl ⟨by rfl,fun w hSw=>by obtain ⟨s0,s1,s2,s3,s4⟩:=hSw;go_simp⟩) (by assumption) ?_
 try simp only [Act.put,n1,n2,n3,n4,n5,n6]
 refine wpAnyH_take (i:=3) (v:=.pointer (some ⟨W.heap.size,1,none⟩)) rfl (by kernel_rfl) (by kernel_rfl) (by kernel_rfl) (fun _ _ _ h=>h) (Or.inl ⟨by rfl,fun w hSw=>by obtain ⟨s0,s1,s2,s3,s4⟩:=hSw;go_simp⟩) (by assumption) ?_
 try simp only [Act.put,n1,n2,n3,n4,n5,n6]
 refine wpAnyH_take (i:=4) (v:=.slice q2 s.globals.length c2) rfl (by kernel_rfl) (by kernel_rfl) (by kernel_rfl) (fun _ _ _ h=>h) (Or.inl ⟨by rfl,fun w hSw=>by obtain ⟨s0,s1,s2,s3,s4⟩:=hSw;go_simp⟩) (by assumption) ?_
 try simp only [Act.put,n1,n2,n3,n4,n5,n6]
 refine wpAnyH_ready (rs:=[2]) (by kernel_rfl) (by simp) ?_
 refine AllReadyH.cons rfl (fun K1 hK1=>?_) AllReadyH.nil
 go_simp
 go_at_call 61
 refine (dg_ (b:=b) ⟨#[103,108,111,98,97,108,32]⟩ _).mono ?_
 rintro e wz ⟨rfl,hb,hd⟩
 have HPz:=hid (HPd.out.all HC.out hb)
 have HKz:=hid (HKd.out.trans (Kp.all hb HPd.out.low))
 have HXz:=hid ((hb.block _ (heap_lt HXd.out)).trans HXd.out)
 have HDZ:=hid hd
 clear hb hd
 unfold dlC
 refine hK1.out _ _ (aj_ HXz.out) (fun hHeld=>?_)
 try simp only [Act.put,n1,n2,n3,n4,n5,n6]
 refine wpAnyH_ready (rs:=[5]) (by kernel_rfl) (by simp) ?_
 refine AllReadyH.cons rfl (fun K2 hK2=>?_) AllReadyH.nil
 go_simp
 have HW2:=hid (ig_ HC.out HS.out.pv HPz.out (c:=c2) s.globals HS.out.gf.2 HS.out.gl HS.out.gf.1 (by decide) HDZ.out HPd.out.b_lt)
 unfold dlC at HW2
 go_at_call 60
 refine HW2.out.mono ?_
 rintro e w2 ⟨rfl,hp,hk⟩
 have HP2:=hid hp
 have HX2:=hid (ed_ HXz.out hk hne)
 have HK2:=hid (HKz.out.trans hk)
 clear hp hk
 refine hK2.out _ _ (aj_ HX2.out) (fun hHeld=>?_)
 try simp only [Act.put,n1,n2,n3,n4,n5,n6]
 refine wpAnyH_done (by kernel_rfl) ?_ _
 obtain ⟨d0,d1,d2,d3,d4⟩:=aj_ HX2.out
 have HW:=hid (pp_ HC.out HS.out.pv HP2.out (c:=c3) s.arrays HS.out.af HS.out.ar)
 go_wp2_with fail
 go_at_call 62
 refine HW.out.mono ?_
 rintro e w3 ⟨rfl,hp,hk⟩
 have HP3:=hid hp
 have HX3:=hid (ed_ HX2.out hk hne)
 have HK3:=hid (HK2.out.trans hk)
 clear hp hk d0 d1 d2 d3 d4 HW HX2 HK2 HP2
 obtain ⟨d0,d1,d2,d3,d4⟩:=aj_ HX3.out
 go_upto_region 7 with fail
 have HPd:=hid (HP3.out.all HC.out (Below.refl _ w3).drew)
 have HKd:=hid (show Kp B (fun k=>k=b) W w3.drew from HK3.out.drewN 1)
 have HXd:=hid (show w3.drew.heap[W.heap.size]?=some (soo s q1 c1 q2 c2 q3 c3 q4 c4 q5 c5) from HX3.out)
 clear d0 d1 d2 d3 d4 HP3 HK3 HX3
 have hS0:=aj_ HXd.out
 refine wp_region_held_drew (S:=(fun w':World=>w'.cell? ⟨W.heap.size,0,none⟩=some (.slice q1 s.principals.length c1)∧w'.cell? ⟨W.heap.size,1,none⟩=some (.slice q2 s.globals.length c2)∧w'.cell? ⟨W.heap.size,2,none⟩=some (.slice q3 s.arrays.length c3)∧w'.cell? ⟨W.heap.size,3,none⟩=some (.slice q4 s.channels.length c4)∧w'.cell? ⟨W.heap.size,4,none⟩=some (.slice q5 s.funcs.length c5))) hmx hS0 (fun hHeld=>?_)
 refine wpAnyH_take (i:=0) (v:=.pointer (some ⟨b,0,none⟩)) rfl (by kernel_rfl) (by kernel_rfl) (by kernel_rfl) (fun _ _ _ h=>h) (Or.inl ⟨by rfl,fun w hSw=>by obtain ⟨s0,s1,s2,s3,s4⟩:=hSw;go_simp⟩) (by assumption) ?_
 try simp only [Act.put,n1,n2,n3,n4,n5,n6]
 refine wpAnyH_take (i:=1) (v:=.pointer (some ⟨b,0,none⟩)) rfl (by kernel_rfl) (by kernel_rfl) (by kernel_rfl) (fun _ _ _ h=>h) (Or.inl ⟨by rfl,fun w hSw=>by obtain ⟨s0,s1,s2,s3,s4⟩:=hSw;go_simp⟩) (by assumption) ?_
 try simp only [Act.put,n1,n2,n3,n4,n5,n6]
 refine wpAnyH_take (i:=3) (v:=.pointer (some ⟨W.heap.size,3,none⟩)) rfl (by kernel_rfl) (by kernel_rfl) (by kernel_rfl) (fun _ _ _ h=>h) (Or.inl ⟨by rfl,fun w hSw=>by obtain ⟨s0,s1,s2,s3,s4⟩:=hSw;go_simp⟩) (by assumption) ?_
 try simp only [Act.put,n1,n2,n3,n4,n5,n6]
 refine wpAnyH_take (i:=4) (v:=.slice q4 s.channels.length c4) rfl (by kernel_rfl) (by kernel_rfl) (by kernel_rfl) (fun _ _ _ h=>h) (Or.inl ⟨by rfl,fun w hSw=>by obtain ⟨s0,s1,s2,s3,s4⟩:=hSw;go_simp⟩) (by assumption) ?_
 try simp only [Act.put,n1,n2,n3,n4,n5,n6]
 refine wpAnyH_ready (rs:=[2]) (by kernel_rfl) (by simp) ?_
 refine AllReadyH.cons rfl (fun K1 hK1=>?_) AllReadyH.nil
 go_simp
 go_at_call 61
 refine (dg_ (b:=b) ⟨#[99,104,97,110,110,101,108,32]⟩ _).mono ?_
 rintro e wz ⟨rfl,hb,hd⟩
 have HPz:=hid (HPd.out.all HC.out hb)
 have HKz:=hid (HKd.out.trans (Kp.all hb HPd.out.low))
 have HXz:=hid ((hb.block _ (heap_lt HXd.out)).trans HXd.out)
 have HDZ:=hid hd
 clear hb hd
 unfold dlC
 refine hK1.out _ _ (aj_ HXz.out) (fun hHeld=>?_)
 try simp only [Act.put,n1,n2,n3,n4,n5,n6]
 refine wpAnyH_ready (rs:=[5]) (by kernel_rfl) (by simp) ?_
 refine AllReadyH.cons rfl (fun K2 hK2=>?_) AllReadyH.nil
 go_simp
 have HW2:=hid (ig_ HC.out HS.out.pv HPz.out (c:=c4) s.channels HS.out.cf.2 HS.out.ch HS.out.cf.1 (by decide) HDZ.out HPd.out.b_lt)
 unfold dlC at HW2
 go_at_call 60
 refine HW2.out.mono ?_
 rintro e w4 ⟨rfl,hp,hk⟩
 have HP4:=hid hp
 have HX4:=hid (ed_ HXz.out hk hne)
 have HK4:=hid (HKz.out.trans hk)
 clear hp hk
 refine hK2.out _ _ (aj_ HX4.out) (fun hHeld=>?_)
 try simp only [Act.put,n1,n2,n3,n4,n5,n6]
 refine wpAnyH_done (by kernel_rfl) ?_ _
 obtain ⟨d0,d1,d2,d3,d4⟩:=aj_ HX4.out
 have HW:=hid (tp_ HC.out HS.out.pv HP4.out (c:=c5) s.funcs HS.out.ff HLV.out)
 go_wp2_with fail
 go_at_call 64
 refine HW.out.mono ?_
 rintro e w5 ⟨rfl,hp,hk⟩
 have HP5:=hid hp
 have HX5:=hid (ed_ HX4.out hk hne)
 have HK5:=hid (HK4.out.trans hk)
 clear hp hk d0 d1 d2 d3 d4 HW HX4 HK4 HP4
 go_wp2_with fail
 first|go_end0|refine bodyPost_ret (results_none rfl _ _ _) rfl ?_
 refine ⟨rfl,?_,HK5.out⟩
 have hp:=HP5.out
 have e1:bl ⟨#[112,114,105,110,99,105,112,97,108,32]⟩=[112,114,105,110,99,105,112,97,108,32]:=rfl
 have e2:bl ⟨#[32]⟩=[32]:=rfl
 have e3:bl ⟨#[59,10]⟩=[59,10]:=rfl
 have e4:bl ⟨#[103,108,111,98,97,108,32]⟩=[103,108,111,98,97,108,32]:=rfl
 have e5:bl ⟨#[99,104,97,110,110,101,108,32]⟩=[99,104,97,110,110,101,108,32]:=rfl
 simpa [List.append_assoc,e1,e2,e3,e4,e5] using hp
end
section
variable {C:Cl} {B b:Nat} {vp:Value} {t:List Nat} {W:World}
theorem ys_ (hc:PC C B) (s:SoZ) {q1 q2 q3 q4 q5:Option Addr} (c1 c2 c3 c4 c5:Nat) (h:PI C B b (.slice q1 s.principals.length c1) t W) (hs:SoR C s q1 c1 q2 q3 q4 q5) (h0:s.principals.length≠0) :
 Calls prog 33 #[.pointer (some ⟨b,0,none⟩),sov s q1 c1 q2 c2 q3 c3 q4 c4 q5 c5] W (Wrote C B b (.slice q1 s.principals.length c1) W (t++(([112,114,105,110,99,105,112,97,108,32]++(sepZ [32] bl s.principals++[59,10]))++(s.globals.flatMap (kdZ [103,108,111,98,97,108,32] s.principals)++(s.arrays.flatMap (arZ s.principals)++(s.channels.flatMap (kdZ [99,104,97,110,110,101,108,32] s.principals)++s.funcs.flatMap (fnZ s.principals))))))):=by
 have hne:W.heap.size≠b:=by have:=h.b_lt;omega
 have HP1:=hid (h.alloc hc (soo s q1 c1 q2 c2 q3 c3 q4 c4 q5 c5))
 have HK1:=hid ((Kp.refl B (fun k=>k=b) W).alloc h.low (soo s q1 c1 q2 c2 q3 c3 q4 c4 q5 c5))
 have HX1:=hid (nwn W (soo s q1 c1 q2 c2 q3 c3 q4 c4 q5 c5))
 have HC:=hid hc
 have HS:=hid hs
 obtain ⟨lv,hlv⟩:=hs.fn
 have HLV:=hid hlv
 have hmx:prog.follows .mixedOrders=true:=by kernel_rfl
 have hgt:(0:Int)<(s.principals.length:Int):=by omega
 unfold soo at HP1 HK1 HX1
 unfold sov
 clear h hc hs hlv h0
 go_enter func33,ntmps33
 go_upto_region 1 with fail
 generalize (W.alloc _:World)=w1 at *
 obtain ⟨d0,d1,d2,d3,d4⟩:=aj_ HX1.out
 have HW:=hid (aw_ HC.out HP1.out ⟨#[112,114,105,110,99,105,112,97,108,32]⟩ (by decide))
 go_wp2_with fail
 go_at_call 57
 refine HW.out.mono ?_
 rintro e w2 ⟨rfl,hp,hk⟩
 have HP2:=hid hp
 have HX2:=hid (ed_ HX1.out hk hne)
 have HK2:=hid (HK1.out.trans hk)
 clear hp hk d0 d1 d2 d3 d4 HW HX1 HK1 HP1
 obtain ⟨d0,d1,d2,d3,d4⟩:=aj_ HX2.out
 go_upto_region 3 with fail
 have HPd:=hid (HP2.out.all HC.out (Below.refl _ w2).drew)
 have HKd:=hid (show Kp B (fun k=>k=b) W w2.drew from HK2.out.drewN 1)
 have HXd:=hid (show w2.drew.heap[W.heap.size]?=some (soo s q1 c1 q2 c2 q3 c3 q4 c4 q5 c5) from HX2.out)
 clear d0 d1 d2 d3 d4 HP2 HK2 HX2
 have hS0:=aj_ HXd.out
 refine wp_region_held_drew (S:=(fun w':World=>w'.cell? ⟨W.heap.size,0,none⟩=some (.slice q1 s.principals.length c1)∧w'.cell? ⟨W.heap.size,1,none⟩=some (.slice q2 s.globals.length c2)∧w'.cell? ⟨W.heap.size,2,none⟩=some (.slice q3 s.arrays.length c3)∧w'.cell? ⟨W.heap.size,3,none⟩=some (.slice q4 s.channels.length c4)∧w'.cell? ⟨W.heap.size,4,none⟩=some (.slice q5 s.funcs.length c5))) hmx hS0 (fun hHeld=>?_)
 refine wpAnyH_take (i:=0) (v:=.pointer (some ⟨b,0,none⟩)) rfl (by kernel_rfl) (by kernel_rfl) (by kernel_rfl) (fun _ _ _ h=>h) (Or.inl ⟨by rfl,fun w hSw=>by obtain ⟨s0,s1,s2,s3,s4⟩:=hSw;go_simp⟩) (by assumption) ?_
 try simp only [Act.put,n1,n2,n3,n4,n5,n6]
 refine wpAnyH_take (i:=1) (v:=.pointer (some ⟨b,0,none⟩)) rfl (by kernel_rfl) (by kernel_rfl) (by kernel_rfl) (fun _ _ _ h=>h) (Or.inl ⟨by rfl,fun w hSw=>by obtain ⟨s0,s1,s2,s3,s4⟩:=hSw;go_simp⟩) (by assumption) ?_
 try simp only [Act.put,n1,n2,n3,n4,n5,n6]
 refine wpAnyH_take (i:=3) (v:=.pointer (some ⟨b,0,none⟩)) rfl (by kernel_rfl) (by kernel_rfl) (by kernel_rfl) (fun _ _ _ h=>h) (Or.inl ⟨by rfl,fun w hSw=>by obtain ⟨s0,s1,s2,s3,s4⟩:=hSw;go_simp⟩) (by assumption) ?_
 try simp only [Act.put,n1,n2,n3,n4,n5,n6]
 refine wpAnyH_take (i:=4) (v:=.func (.func 57) #[.pointer (some ⟨b,0,none⟩)] #[]) rfl (by kernel_rfl) (by kernel_rfl) (by kernel_rfl) (fun _ _ _ h=>h) (Or.inl ⟨by rfl,fun w hSw=>by obtain ⟨s0,s1,s2,s3,s4⟩:=hSw;go_simp⟩) (by assumption) ?_
 try simp only [Act.put,n1,n2,n3,n4,n5,n6]
 refine wpAnyH_take (i:=5) (v:=.pointer (some ⟨W.heap.size,0,none⟩)) rfl (by kernel_rfl) (by kernel_rfl) (by kernel_rfl) (fun _ _ _ h=>h) (Or.inl ⟨by rfl,fun w hSw=>by obtain ⟨s0,s1,s2,s3,s4⟩:=hSw;go_simp⟩) (by assumption) ?_
 try simp only [Act.put,n1,n2,n3,n4,n5,n6]
 refine wpAnyH_take (i:=6) (v:=.slice q1 s.principals.length c1) rfl (by kernel_rfl) (by kernel_rfl) (by kernel_rfl) (fun _ _ _ h=>h) (Or.inl ⟨by rfl,fun w hSw=>by obtain ⟨s0,s1,s2,s3,s4⟩:=hSw;go_simp⟩) (by assumption) ?_
 try simp only [Act.put,n1,n2,n3,n4,n5,n6]
 refine wpAnyH_ready (rs:=[2]) (by kernel_rfl) (by simp) ?_
 refine AllReadyH.cons rfl (fun K1 hK1=>?_) AllReadyH.nil
 go_simp
 go_at_call 59
 refine (es_ HC.out HPd.out ⟨#[32]⟩).mono ?_
 rintro e wz ⟨rfl,hpz,hb,hst,hsz⟩
 have HSEP:=hid (po_ HC.out HPd.out (c:=c1) s.principals HS.out.pf.2 HS.out.pr (Ki:=57) (fi:=#[.pointer (some ⟨b,0,none⟩)]) (ci:=#[]) (enters_of func57 (by kernel_rfl) rfl) (f:=bl) (fun k hk x wr t' hx hp _=>aw_ HC.out hp x (HS.out.pf.1 x (by rw [←hx];exact List.getElem_mem hk))) ⟨#[32]⟩ (by decide) rfl hpz hb hst hsz)
 have HXz:=hid ((hb.block _ (heap_lt HXd.out)).trans HXd.out)
 clear hpz hb hst hsz
 unfold btC at HSEP ⊢
 refine hK1.out _ _ (aj_ HXz.out) (fun hHeld=>?_)
 try simp only [Act.put,n1,n2,n3,n4,n5,n6]
 refine wpAnyH_ready (rs:=[7]) (by kernel_rfl) (by simp) ?_
 refine AllReadyH.cons rfl (fun K2 hK2=>?_) AllReadyH.nil
 go_simp
 go_at_call 58
 refine HSEP.out.mono ?_
 rintro e w3 ⟨rfl,hp,hkW⟩
 have HP3:=hid hp
 have HX3:=hid (ed_ HXd.out hkW hne)
 have HK3:=hid (HKd.out.trans hkW)
 clear hp hkW
 refine hK2.out _ _ (aj_ HX3.out) (fun hHeld=>?_)
 try simp only [Act.put,n1,n2,n3,n4,n5,n6]
 refine wpAnyH_done (by kernel_rfl) ?_ _
 obtain ⟨d0,d1,d2,d3,d4⟩:=aj_ HX3.out
 have HW:=hid (aw_ HC.out HP3.out ⟨#[59,10]⟩ (by decide))
 go_wp2_with fail
 go_at_call 57
 refine HW.out.mono ?_
 rintro e w4 ⟨rfl,hp,hk⟩
 have HP4:=hid hp
 have HX4:=hid (ed_ HX3.out hk hne)
 have HK4:=hid (HK3.out.trans hk)
 clear hp hk d0 d1 d2 d3 d4 HW HX3 HK3 HP3
 obtain ⟨d0,d1,d2,d3,d4⟩:=aj_ HX4.out
 go_upto_region 5 with fail
 have HPd:=hid (HP4.out.all HC.out (Below.refl _ w4).drew)
 have HKd:=hid (show Kp B (fun k=>k=b) W w4.drew from HK4.out.drewN 1)
 have HXd:=hid (show w4.drew.heap[W.heap.size]?=some (soo s q1 c1 q2 c2 q3 c3 q4 c4 q5 c5) from HX4.out)
 clear d0 d1 d2 d3 d4 HP4 HK4 HX4
 have hS0:=aj_ HXd.out
 refine wp_region_held_drew (S:=(fun w':World=>w'.cell? ⟨W.heap.size,0,none⟩=some (.slice q1 s.principals.length c1)∧w'.cell? ⟨W.heap.size,1,none⟩=some (.slice q2 s.globals.length c2)∧w'.cell? ⟨W.heap.size,2,none⟩=some (.slice q3 s.arrays.length c3)∧w'.cell? ⟨W.heap.size,3,none⟩=some (.slice q4 s.channels.length c4)∧w'.cell? ⟨W.heap.size,4,none⟩=some (.slice q5 s.funcs.length c5))) hmx hS0 (fun hHeld=>?_)
 refine wpAnyH_take (i:=0) (v:=.pointer (some ⟨b,0,none⟩)) rfl (by kernel_rfl) (by kernel_rfl) (by kernel_rfl) (fun _ _ _ h=>h) (Or.inl ⟨by rfl,fun w hSw=>by obtain ⟨s0,s1,s2,s3,s4⟩:=hSw;go_simp⟩) (by assumption) ?_
 try simp only [Act.put,n1,n2,n3,n4,n5,n6]
 refine wpAnyH_take (i:=1) (v:=.pointer (some ⟨b,0,none⟩)) rfl (by kernel_rfl) (by kernel_rfl) (by kernel_rfl) (fun _ _ _ h=>h) (Or.inl ⟨by rfl,fun w hSw=>by obtain ⟨s0,s1,s2,s3,s4⟩:=hSw;go_simp⟩) (by assumption) ?_
 try simp only [Act.put,n1,n2,n3,n4,n5,n6]
 refine wpAnyH_take (i:=3) (v:=.pointer (some ⟨W.heap.size,1,none⟩)) rfl (by kernel_rfl) (by kernel_rfl) (by kernel_rfl) (fun _ _ _ h=>h) (Or.inl ⟨by rfl,fun w hSw=>by obtain ⟨s0,s1,s2,s3,s4⟩:=hSw;go_simp⟩) (by assumption) ?_
 try simp only [Act.put,n1,n2,n3,n4,n5,n6]
 refine wpAnyH_take (i:=4) (v:=.slice q2 s.globals.length c2) rfl (by kernel_rfl) (by kernel_rfl) (by kernel_rfl) (fun _ _ _ h=>h) (Or.inl ⟨by rfl,fun w hSw=>by obtain ⟨s0,s1,s2,s3,s4⟩:=hSw;go_simp⟩) (by assumption) ?_
 try simp only [Act.put,n1,n2,n3,n4,n5,n6]
 refine wpAnyH_ready (rs:=[2]) (by kernel_rfl) (by simp) ?_
 refine AllReadyH.cons rfl (fun K1 hK1=>?_) AllReadyH.nil
 go_simp
 go_at_call 61
 refine (dg_ (b:=b) ⟨#[103,108,111,98,97,108,32]⟩ _).mono ?_
 rintro e wz ⟨rfl,hb,hd⟩
 have HPz:=hid (HPd.out.all HC.out hb)
 have HKz:=hid (HKd.out.trans (Kp.all hb HPd.out.low))
 have HXz:=hid ((hb.block _ (heap_lt HXd.out)).trans HXd.out)
 have HDZ:=hid hd
 clear hb hd
 unfold dlC
 refine hK1.out _ _ (aj_ HXz.out) (fun hHeld=>?_)
 try simp only [Act.put,n1,n2,n3,n4,n5,n6]
 refine wpAnyH_ready (rs:=[5]) (by kernel_rfl) (by simp) ?_
 refine AllReadyH.cons rfl (fun K2 hK2=>?_) AllReadyH.nil
 go_simp
 have HW2:=hid (ig_ HC.out HS.out.pv HPz.out (c:=c2) s.globals HS.out.gf.2 HS.out.gl HS.out.gf.1 (by decide) HDZ.out HPd.out.b_lt)
 unfold dlC at HW2
 go_at_call 60
 refine HW2.out.mono ?_
 rintro e w5 ⟨rfl,hp,hk⟩
 have HP5:=hid hp
 have HX5:=hid (ed_ HXz.out hk hne)
 have HK5:=hid (HKz.out.trans hk)
 clear hp hk
 refine hK2.out _ _ (aj_ HX5.out) (fun hHeld=>?_)
 try simp only [Act.put,n1,n2,n3,n4,n5,n6]
 refine wpAnyH_done (by kernel_rfl) ?_ _
 obtain ⟨d0,d1,d2,d3,d4⟩:=aj_ HX5.out
 have HW:=hid (pp_ HC.out HS.out.pv HP5.out (c:=c3) s.arrays HS.out.af HS.out.ar)
 go_wp2_with fail
 go_at_call 62
 refine HW.out.mono ?_
 rintro e w6 ⟨rfl,hp,hk⟩
 have HP6:=hid hp
 have HX6:=hid (ed_ HX5.out hk hne)
 have HK6:=hid (HK5.out.trans hk)
 clear hp hk d0 d1 d2 d3 d4 HW HX5 HK5 HP5
 obtain ⟨d0,d1,d2,d3,d4⟩:=aj_ HX6.out
 go_upto_region 7 with fail
 have HPd:=hid (HP6.out.all HC.out (Below.refl _ w6).drew)
 have HKd:=hid (show Kp B (fun k=>k=b) W w6.drew from HK6.out.drewN 1)
 have HXd:=hid (show w6.drew.heap[W.heap.size]?=some (soo s q1 c1 q2 c2 q3 c3 q4 c4 q5 c5) from HX6.out)
 clear d0 d1 d2 d3 d4 HP6 HK6 HX6
 have hS0:=aj_ HXd.out
 refine wp_region_held_drew (S:=(fun w':World=>w'.cell? ⟨W.heap.size,0,none⟩=some (.slice q1 s.principals.length c1)∧w'.cell? ⟨W.heap.size,1,none⟩=some (.slice q2 s.globals.length c2)∧w'.cell? ⟨W.heap.size,2,none⟩=some (.slice q3 s.arrays.length c3)∧w'.cell? ⟨W.heap.size,3,none⟩=some (.slice q4 s.channels.length c4)∧w'.cell? ⟨W.heap.size,4,none⟩=some (.slice q5 s.funcs.length c5))) hmx hS0 (fun hHeld=>?_)
 refine wpAnyH_take (i:=0) (v:=.pointer (some ⟨b,0,none⟩)) rfl (by kernel_rfl) (by kernel_rfl) (by kernel_rfl) (fun _ _ _ h=>h) (Or.inl ⟨by rfl,fun w hSw=>by obtain ⟨s0,s1,s2,s3,s4⟩:=hSw;go_simp⟩) (by assumption) ?_
 try simp only [Act.put,n1,n2,n3,n4,n5,n6]
 refine wpAnyH_take (i:=1) (v:=.pointer (some ⟨b,0,none⟩)) rfl (by kernel_rfl) (by kernel_rfl) (by kernel_rfl) (fun _ _ _ h=>h) (Or.inl ⟨by rfl,fun w hSw=>by obtain ⟨s0,s1,s2,s3,s4⟩:=hSw;go_simp⟩) (by assumption) ?_
 try simp only [Act.put,n1,n2,n3,n4,n5,n6]
 refine wpAnyH_take (i:=3) (v:=.pointer (some ⟨W.heap.size,3,none⟩)) rfl (by kernel_rfl) (by kernel_rfl) (by kernel_rfl) (fun _ _ _ h=>h) (Or.inl ⟨by rfl,fun w hSw=>by obtain ⟨s0,s1,s2,s3,s4⟩:=hSw;go_simp⟩) (by assumption) ?_
 try simp only [Act.put,n1,n2,n3,n4,n5,n6]
 refine wpAnyH_take (i:=4) (v:=.slice q4 s.channels.length c4) rfl (by kernel_rfl) (by kernel_rfl) (by kernel_rfl) (fun _ _ _ h=>h) (Or.inl ⟨by rfl,fun w hSw=>by obtain ⟨s0,s1,s2,s3,s4⟩:=hSw;go_simp⟩) (by assumption) ?_
 try simp only [Act.put,n1,n2,n3,n4,n5,n6]
 refine wpAnyH_ready (rs:=[2]) (by kernel_rfl) (by simp) ?_
 refine AllReadyH.cons rfl (fun K1 hK1=>?_) AllReadyH.nil
 go_simp
 go_at_call 61
 refine (dg_ (b:=b) ⟨#[99,104,97,110,110,101,108,32]⟩ _).mono ?_
 rintro e wz ⟨rfl,hb,hd⟩
 have HPz:=hid (HPd.out.all HC.out hb)
 have HKz:=hid (HKd.out.trans (Kp.all hb HPd.out.low))
 have HXz:=hid ((hb.block _ (heap_lt HXd.out)).trans HXd.out)
 have HDZ:=hid hd
 clear hb hd
 unfold dlC
 refine hK1.out _ _ (aj_ HXz.out) (fun hHeld=>?_)
 try simp only [Act.put,n1,n2,n3,n4,n5,n6]
 refine wpAnyH_ready (rs:=[5]) (by kernel_rfl) (by simp) ?_
 refine AllReadyH.cons rfl (fun K2 hK2=>?_) AllReadyH.nil
 go_simp
 have HW2:=hid (ig_ HC.out HS.out.pv HPz.out (c:=c4) s.channels HS.out.cf.2 HS.out.ch HS.out.cf.1 (by decide) HDZ.out HPd.out.b_lt)
 unfold dlC at HW2
 go_at_call 60
 refine HW2.out.mono ?_
 rintro e w7 ⟨rfl,hp,hk⟩
 have HP7:=hid hp
 have HX7:=hid (ed_ HXz.out hk hne)
 have HK7:=hid (HKz.out.trans hk)
 clear hp hk
 refine hK2.out _ _ (aj_ HX7.out) (fun hHeld=>?_)
 try simp only [Act.put,n1,n2,n3,n4,n5,n6]
 refine wpAnyH_done (by kernel_rfl) ?_ _
 obtain ⟨d0,d1,d2,d3,d4⟩:=aj_ HX7.out
 have HW:=hid (tp_ HC.out HS.out.pv HP7.out (c:=c5) s.funcs HS.out.ff HLV.out)
 go_wp2_with fail
 go_at_call 64
 refine HW.out.mono ?_
 rintro e w8 ⟨rfl,hp,hk⟩
 have HP8:=hid hp
 have HX8:=hid (ed_ HX7.out hk hne)
 have HK8:=hid (HK7.out.trans hk)
 clear hp hk d0 d1 d2 d3 d4 HW HX7 HK7 HP7
 go_wp2_with fail
 first|go_end0|refine bodyPost_ret (results_none rfl _ _ _) rfl ?_
 refine ⟨rfl,?_,HK8.out⟩
 have hp:=HP8.out
 have e1:bl ⟨#[112,114,105,110,99,105,112,97,108,32]⟩=[112,114,105,110,99,105,112,97,108,32]:=rfl
 have e2:bl ⟨#[32]⟩=[32]:=rfl
 have e3:bl ⟨#[59,10]⟩=[59,10]:=rfl
 have e4:bl ⟨#[103,108,111,98,97,108,32]⟩=[103,108,111,98,97,108,32]:=rfl
 have e5:bl ⟨#[99,104,97,110,110,101,108,32]⟩=[99,104,97,110,110,101,108,32]:=rfl
 simpa [List.append_assoc,e1,e2,e3,e4,e5] using hp
end
end Go.Proofs.YtpcniebkabkikaaGreatDoor
namespace Go.Proofs.YtpcniebkabkikaaGreatDoor
open Go Go.RowKit Go.Proofs.Mm
theorem cellsByte:prog.cellsOf 5=1:=by kernel_rfl
section
variable {B b:Nat} {vp:Value} {lg:Bool} {acc:List Nat} {w:World}
theorem yt_ (h:WrC B b vp lg acc w) (hBw:B≤w.heap.size):Calls prog 34 #[.pointer (some ⟨b,0,none⟩)] w fun e w'=>e=.returned (.string (sb acc))∧Below B w w'∧Lib.OthersKept 5 none w w':=by
 obtain ⟨hB,p,v,hbk,hp,hown,hne⟩:=h
 have hmx:prog.follows .mixedOrders=true:=by kernel_rfl
 have u1:=run_underlying Tryz.underlying109
 have u2:=run_underlying Tryz.underlying3
 have u3:=run_underlying Tryz.underlying9
 have u4:=run_underlying Tryz.underlying77
 have hUS:=fun (w:World) (p:Option Addr)=>Lib.run_unsafeString_none (P:=prog) (w:=w) 109 3 9 p
 have hlen:acc.length=(sb acc).data.toList.length:=by unfold sb;simp
 rcases hown.2 with ⟨rfl,h0⟩|⟨g,cap,cur,fz,rfl,hbg,hg,hfz,hnc,hcm,hcs,htake⟩
 ·have ha:acc=[]:=List.eq_nil_of_length_eq_zero h0
  subst ha
  have c1:w.drew.cell? ⟨b,1,none⟩=some (.slice none 0 0):=aa_ (w:=w.drew) hbk rfl
  have hSD:(Builtin.unsafeSliceData_ #[77] 109 #[.slice none 0 0]).run prog w.drew=.ok (.pointer none) w.drew:=rfl
  clear hbk hown hne hp
  go_enter func34,ntmps34
  go_wp2
  go_region_o
  all_goals (go_wp2;go_ret;exact ⟨rfl,Below.drew (Below.refl B w),(Lib.OthersKept.refl _ _ w).drew⟩)
 ·by_cases h0:acc=[]
  ·subst h0
   by_cases hc0:cap=0
   ·subst hc0
    have c1:w.drew.cell? ⟨b,1,none⟩=some (.slice (some ⟨g,0,none⟩) 0 0):=aa_ (w:=w.drew) hbk rfl
    have hlt:=heap_lt hbk
    have hSD:(Builtin.unsafeSliceData_ #[77] 109 #[.slice (some ⟨g,0,none⟩) 0 0]).run prog w.drew=.ok (.pointer (some ⟨w.drew.heap.size,0,none⟩)) (w.drew.alloc (.view ⟨g,0,none⟩ 5)) :=
     Lib.run_unsafeSliceData_zero w.drew _ _ 5 Tryz.underlying109 ⟨g,0,none⟩ 0 (5,cur.size) (by have hg':w.drew.heap[g]?=some (.cells cur 5 fz):=hg;simp [World.shape?,hg'])
    have c2:(w.drew.alloc (.view ⟨g,0,none⟩ 5)).cell? ⟨b,1,none⟩=some (.slice (some ⟨g,0,none⟩) 0 0):=by
     have:(w.drew.alloc (.view ⟨g,0,none⟩ 5)).heap[b]?=_:=(Lib.alloc_old w.drew _ b hlt).trans hbk
     rw [Lib.cell_of_heap this];rfl
    have c3:(w.alloc (.view ⟨g,0,none⟩ 5)).drew.cell? ⟨b,1,none⟩=some (.slice (some ⟨g,0,none⟩) 0 0):=c2
    have c0:w.cell? ⟨b,1,none⟩=some (.slice (some ⟨g,0,none⟩) 0 0):=c1
    clear hbk hown hne hp
    go_enter func34,ntmps34
    go_wp2
    go_region_o
    all_goals (go_wp2;go_ret;exact ⟨rfl,(Below.drew (Below.refl B w)).alloc hBw _,(Lib.OthersKept.refl _ _ w).drew.alloc _⟩)
   ·have c1:w.drew.cell? ⟨b,1,none⟩=some (.slice (some ⟨g,0,none⟩) 0 cap):=aa_ (w:=w.drew) hbk rfl
    have hSD:(Builtin.unsafeSliceData_ #[77] 109 #[.slice (some ⟨g,0,none⟩) 0 cap]).run prog w.drew=.ok (.pointer (some ⟨g,0,none⟩)) w.drew :=
     Lib.run_unsafeSliceData_row _ _ _ _ _ _ hc0
    clear hc0 hbk hown hne hp
    go_enter func34,ntmps34
    go_wp2
    go_region_o
    all_goals (go_wp2;go_ret;exact ⟨rfl,Below.drew (Below.refl B w),(Lib.OthersKept.refl _ _ w).drew⟩)
  ·obtain ⟨l,hl⟩:∃l,(sb acc).data.toList=l:=⟨_,rfl⟩
   have hne0:l≠[]:=by rintro rfl;rw [hl] at hlen;exact h0 (List.eq_nil_of_length_eq_zero (by simpa using hlen))
   have hl0:l.length≠0:=by simpa using hne0
   have hsb:sb acc=⟨l.toArray⟩:=by rw [←hl]
   rw [hl] at hlen
   rw [hsb]
   rw [hlen] at hbk hnc hfz htake
   have c1:w.drew.cell? ⟨b,1,none⟩=some (.slice (some ⟨g,0,none⟩) l.length cap):=aa_ (w:=w.drew) hbk rfl
   have hSD:(Builtin.unsafeSliceData_ #[77] 109 #[.slice (some ⟨g,0,none⟩) l.length cap]).run prog w.drew=.ok (.pointer (some ⟨g,0,none⟩)) w.drew :=
    Lib.run_unsafeSliceData_row _ _ _ _ _ _ (by omega)
   have hUS2:(Builtin.unsafeString_ #[109,3] 9 #[.pointer (some ⟨g,0,none⟩),.int .i64 l.length]).run prog w.drew=.ok (.string ⟨l.toArray⟩) (w.drew.freeze ⟨g,0,none⟩ l.length):=by
    refine Lib.run_unsafeString_row w.drew 109 3 9 5 Tryz.underlying109 cellsByte g cur.size (by have hg':w.drew.heap[g]?=some (.cells cur 5 fz):=hg;simp [World.shape?,hg']) l hne0 (by omega) (by unfold maxLen at hcm;omega) ?_
    intro j x hx
    have hxs:(Lib.strCells (sb acc))[j]?=some (.int .u8 x.toNat):=by
     rw [Lib.strCells_eq,hl];simp [Lib.byteCells,hx]
    exact hown.cells (g:=g) rfl j _ hxs
   have HGC:=hid (show ∃c fz,w.drew.heap[g]?=some (.cells c 5 fz) from ⟨cur,fz,hg⟩)
   clear hbk hown hne hp hUS hsb
   go_enter func34,ntmps34
   go_wp2
   go_region_o
   all_goals (go_wp2;go_ret;exact ⟨rfl,Lib.below_freeze (Below.drew (Below.refl B w)) (p:=⟨g,0,none⟩) hbg _,(Lib.OthersKept.refl _ _ w).drew.freeze ⟨g,0,none⟩ _ HGC.out⟩)
end
def Readz (s:SoZ):Prop:=∃so,srcOf (sb (soZ s))=.ok so∧soOf so=s
def SrcRes (s:SoZ) (W:World) (e:Ending) (w':World):Prop:=Below W.heap.size W w' ∧
 ((65536 < (soZ s).length ∧ e = .returned (.tuple #[.string ⟨#[]⟩,.int .i64 3])) ∨
  (¬65536<(soZ s).length∧(∃z,bl z=soZ s)∧((Readz s∧e=.returned (.tuple #[.string (sb (soZ s)),.int .i64 0]))∨(¬Readz s∧e=.returned (.tuple #[.string ⟨#[]⟩,.int .i64 1])))))
section
variable {C:Cl} {B b:Nat} {W:World} {q1 q2 q3 q4 q5:Option Addr}
theorem src_src (hc:PC C B) (s:SoZ) (c1 c2 c3 c4 c5:Nat) (h:PI C B b (.slice q1 s.principals.length c1) [] W) (hs:SoR C s q1 c1 q2 q3 q4 q5) :
 Calls prog 33 #[.pointer (some ⟨b,0,none⟩),sov s q1 c1 q2 c2 q3 c3 q4 c4 q5 c5] W (Wrote C B b (.slice q1 s.principals.length c1) W (soZ s)):=by
 by_cases h0:s.principals.length=0
 ·have:=yr_ hc s c1 c2 c3 c4 c5 h hs h0
  unfold soZ
  rw [if_pos h0]
  exact this
 ·have:=ys_ hc s c1 c2 c3 c4 c5 h hs h0
  unfold soZ
  rw [if_neg h0]
  exact this
theorem u8_ {D:Cl} (so:Syn.So) (s:SoZ) {c1 c2 c3 c4 c5 d1 d2 d3 d4 d5:Nat} {r1 r2 r3 r4 r5:Option Addr} (hs:SoR C (soOf so) q1 c1 q2 q3 q4 q5) (ht:SoR D s r1 d1 r2 r3 r4 r5) (hC:CLe C (wC W)) (hD:CLe D (wC W)) :
 Calls prog 35 #[.agg #[.slice q1 so.principals.length c1,.slice q2 so.globals.length c2,.slice q3 so.arrays.length c3,.slice q4 so.channels.length c4,.slice q5 so.funcs.length c5],sov s r1 d1 r2 d2 r3 d3 r4 d4 r5 d5] W (SaysB (soOf so=s) W):=by
 have h:=mm_ (c2:=c2) (c3:=c3) (c4:=c4) (c5:=c5) (d2:=d2) (d3:=d3) (d4:=d4) (d5:=d5) (soOf so) s hs ht hC hD
 have e1:(soOf so).principals.length=so.principals.length:=nld ..
 have e2:(soOf so).globals.length=so.globals.length:=nld ..
 have e3:(soOf so).arrays.length=so.arrays.length:=nld ..
 have e4:(soOf so).channels.length=so.channels.length:=nld ..
 have e5:(soOf so).funcs.length=so.funcs.length:=nld ..
 unfold sov at h ⊢
 rw [e1,e2,e3,e4,e5] at h
 exact h
theorem hz_ (s:SoZ) (c1 c2 c3 c4 c5:Nat) (hs:SoR C s q1 c1 q2 q3 q4 q5) (hC:CLe C (wC W)) (hE:EnvP W) (hfit:¬65536<(soZ s).length→∀so,srcOf (sb (soZ s))=.ok so→SoFit so) :
 Calls prog 9 #[sov s q1 c1 q2 c2 q3 c3 q4 c4 q5 c5] W (SrcRes s W):=by
 have hc:PC C W.heap.size:=⟨fun a v e=>World.block_lt_of_cell? _ _ (hC a v e),hE.lt⟩
 have hbA:Below W.heap.size W (W.alloc (soo s q1 c1 q2 c2 q3 c3 q4 c4 q5 c5)):=(Below.refl _ _).alloc (Nat.le_refl _) _
 have hbB:Below W.heap.size W ((W.alloc (soo s q1 c1 q2 c2 q3 c3 q4 c4 q5 c5)).alloc (.cells #[.pointer none,.slice none 0 0,.bool false,.slice q1 s.principals.length c1] 81)):=hbA.alloc (by rw [nwz];omega) _
 have hX:=ad_ _ (.cells #[.pointer none,.slice none 0 0,.bool false,.slice q1 s.principals.length c1] 81) (nwn W (soo s q1 c1 q2 c2 q3 c3 q4 c4 q5 c5))
 have hbw:=nwn (W.alloc (soo s q1 c1 q2 c2 q3 c3 q4 c4 q5 c5)) (.cells #[.pointer none,.slice none 0 0,.bool false,.slice q1 s.principals.length c1] 81)
 rw [nwz] at hbw
 have hpi:PI C W.heap.size (W.heap.size+1) (.slice q1 s.principals.length c1) [] ((W.alloc (soo s q1 c1 q2 c2 q3 c3 q4 c4 q5 c5)).alloc (.cells #[.pointer none,.slice none 0 0,.bool false,.slice q1 s.principals.length c1] 81)) :=
  ⟨hc.rd hC hbB,hE.all hbB,⟨false,[],⟨by omega,_,_,hbw,.inl rfl,⟨rfl,.inl ⟨rfl,rfl⟩⟩,by simp [Value.ownBlock]⟩,by simp,.inl ⟨rfl,rfl,⟨⟨#[]⟩,rfl⟩⟩⟩,hbB.size⟩
 have HSRC:=hid (src_src hc s c1 c2 c3 c4 c5 hpi hs)
 have HX:=hid hX
 have HC:=hid hc
 have HCC:=hid hC
 have HS:=hid hs
 have HE:=hid hE
 have HBB:=hid hbB
 have HFIT:=hid hfit
 unfold sov at HSRC ⊢
 unfold soo at HX HSRC HBB
 clear hc hbA hbB hX hbw hpi hs hC hE hfit
 go_enter func9,ntmps9
 go_wp2_with fail
 go_at_call 33
 refine HSRC.out.mono ?_
 rintro e w2 ⟨rfl,hp,hk⟩
 have hX2:=hk.heap HX.out (by omega) (by decide)
 have HX2:=hid hX2
 have HB2:=hid (HBB.out.trans hk.below)
 have HP2:=hid hp
 obtain ⟨lg,acc,hw,hl,hx⟩:=hp.wr
 obtain ⟨z2,_⟩:=hw.raw
 clear hX2 hk hp
 rcases hx with ⟨rfl,rfl,hz⟩|⟨rfl,hlong⟩
 ·have hnl:¬65536<(soZ s).length:=by omega
  have HST:=hid (yt_ hw HP2.out.low)
  have HNL:=hid hnl
  have HZ:=hid hz
  clear hw hl hnl hz
  go_wp2_with fail
  go_at_call 34
  refine HST.out.mono ?_
  rintro e w3 ⟨rfl,hb3,hk3⟩
  have HX3:=hid (hk3 _ _ HX2.out (by simp) (by intro c fz e;cases e))
  have HB3:=hid (HB2.out.trans hb3)
  have HPA:=hid (dk_ (sb (soZ s)) w3 (HE.out.all HB3.out).lex (m:=fun _=>none) (fun _ _ e=>by cases e))
  clear hb3 hk3 HST HX2 HP2 HB2 z2
  go_wp2_with fail
  go_at_call 25
  refine HPA.out.mono ?_
  intro e w4 hres
  obtain ⟨hb4,⟨er,a,hsrc,rfl⟩|⟨so,p1,a1,p2,a2,p3,a3,p4,a4,p5,a5,m',hsrc,rfl,hso,_,hhas⟩⟩:=hres.cases
  ·have HB4:=hid (ac_ HB3.out hb4)
   have HNR:=hid (show ¬Readz s from fun ⟨so,h,_⟩=>by rw [hsrc] at h;cases h)
   clear hb4 hres hsrc HPA HX3 HB3
   go_wp2_with fail
   go_ret2
   exact ⟨(HB4.out.alloc HB4.out.size _).alloc (by rw [nwz];have:=HB4.out.size;omega) _,.inr ⟨HNL.out,HZ.out,.inr ⟨HNR.out,rfl⟩⟩⟩
  ·have HB4:=hid (ac_ HB3.out hb4)
   have hx4:=(hb4.block _ (heap_lt HX3.out)).trans HX3.out
   have hB6:Below W.heap.size W ((w4.alloc (.cells #[.slice p1 so.principals.length a1,.slice p2 so.globals.length a2,.slice p3 so.arrays.length a3,.slice p4 so.channels.length a4,.slice p5 so.funcs.length a5] 27)).alloc (.cells #[.int .i64 0,.int .i64 0,.int .i64 0] 61)):=(HB4.out.alloc HB4.out.size _).alloc (by rw [nwz];have:=HB4.out.size;omega) _
   have hb6:Below w4.heap.size w4 ((w4.alloc (.cells #[.slice p1 so.principals.length a1,.slice p2 so.globals.length a2,.slice p3 so.arrays.length a3,.slice p4 so.channels.length a4,.slice p5 so.funcs.length a5] 27)).alloc (.cells #[.int .i64 0,.int .i64 0,.int .i64 0] 61)):=((Below.refl _ _).alloc (Nat.le_refl _) _).alloc (by rw [nwz];omega) _
   have HSM:=hid (fun w (h1:Below W.heap.size W w) (h2:Below w4.heap.size w4 w)=>u8_ (W:=w) (c2:=a2) (c3:=a3) (c4:=a4) (c5:=a5) (d2:=c2) (d3:=c3) (d4:=c4) (d5:=c5) so s (j8_ (SoM.rows hso) (HFIT.out HNL.out so hsrc)) HS.out ((g1_ hhas).trans (ab_ h2)) (HCC.out.trans (ab_ h1)))
   have HB6:=hid hB6
   have HB6b:=hid hb6
   have HX6:=hid ((hb6.block _ (heap_lt hx4)).trans hx4)
   have HRZ:=hid (show Readz s↔soOf so=s from ⟨fun ⟨x,h,e⟩=>by rw [hsrc] at h;injection h with h;rw [h];exact e,fun e=>⟨so,hsrc,e⟩⟩)
   unfold sov at HSM
   clear hb4 hres hsrc hso hhas hx4 hB6 hb6 HPA HX3 HB3
   obtain ⟨x0,x1,x2,x3,x4⟩:=aj_ HX6.out
   go_wp2_with fail
   go_at_call 35
   refine (HSM.out _ HB6.out HB6b.out).mono ?_
   rintro e w7 ⟨p,rfl,hp,hb7⟩
   have HB7:=hid (ac_ HB6.out hb7)
   have HP:=hid hp
   clear hb7 hp x0 x1 x2 x3 x4 HB6 HB6b HX6 HSM
   cases p
   ·go_wp2_with fail
    go_ret2
    exact ⟨HB7.out,.inr ⟨HNL.out,HZ.out,.inr ⟨fun h=>(by have:=HP.out.2 (HRZ.out.1 h);cases this),rfl⟩⟩⟩
   ·go_wp2_with fail
    go_ret2
    exact ⟨HB7.out,.inr ⟨HNL.out,HZ.out,.inl ⟨HRZ.out.2 (HP.out.1 (by first|rfl|trivial)),rfl⟩⟩⟩
 ·have HLONG:=hid hlong
  clear hw hl hlong
  go_wp2_with fail
  go_ret2
  exact ⟨HB2.out,.inl ⟨HLONG.out,rfl⟩⟩
end
def gvT:ByteArray:=⟨(((([112,114,105,110,99,105,112,97,108,32,97,32,98,59,10,103,108,111,98,97,108,32,120,32,123,97,125,59,10,97,114,114,97]:List UInt8).append [121,32,116,32,52,32,123,125,59,10,99,104,97,110,110,101,108,32,99,32,123,97,32,98,125,59,10,102,117,110,99,32,102,32]).append ([123,125,32,40,112,32,123,125,44,32,113,32,123,97,125,41,32,40,123,125,44,32,123,97,125,41,32,123,10,32,32,118,97].append [114,32,118,32,123,125,59,10,32,32,118,32,61,32,112,32,43,32,49,59,10,32,32,116,91,118,93,32,61,32,112,59,10,32])).append (([32,105,102,32,112,32,60,32,50,32,123,10,32,32,32,32,115,101,110,100,32,99,32,113,59,10,32,32,125,32,101,108,115].append [101,32,123,10,32,32,32,32,119,104,105,108,101,32,118,32,123,10,32,32,32,32,32,32,118,44,32,120,32,61,32,102,40,118]).append ([32,45,32,49,44,32,48,41,59,10,32,32,32,32,125,10,32,32,125,10,32,32,114,101,116,117,114,110,32,118,44,32,113].append [59,10,125,10,102,117,110,99,32,103,32,123,125,32,40,41,32,40,41,32,123,10,32,32,114,101,116,117,114,110,59,10,125,10]))).toArray⟩
def gvS:Syn.So:=⟨[[97],[98]],[⟨[120],1⟩],[⟨[116],4,0⟩],[⟨[99],3⟩],[⟨[102],0,[⟨[112],0⟩,⟨[113],1⟩],[0,1],[⟨[118],0⟩],[⟨1,[],[[118]],[[⟨2,0,[112]⟩,⟨1,1,[]⟩,⟨5,1,[]⟩]]⟩,⟨2,[116],[],[[⟨2,0,[118]⟩],[⟨2,0,[112]⟩]]⟩,⟨5,[],[],[[⟨2,0,[112]⟩,⟨1,2,[]⟩,⟨5,13,[]⟩]]⟩,⟨3,[99],[],[[⟨2,0,[113]⟩]]⟩,⟨6,[],[],[]⟩,⟨7,[],[],[[⟨2,0,[118]⟩]]⟩,⟨4,[102],[[118],[120]],[[⟨2,0,[118]⟩,⟨1,1,[]⟩,⟨5,2,[]⟩],[⟨1,0,[]⟩]]⟩,⟨8,[],[],[]⟩,⟨8,[],[],[]⟩,⟨9,[],[],[[⟨2,0,[118]⟩],[⟨2,0,[113]⟩]]⟩]⟩,⟨[103],0,[],[],[],[⟨9,[],[],[]⟩]⟩]⟩
theorem ln_:srcOf gvT=.ok gvS:=by
 unfold srcOf
 rw [p6_ _ _ (by decide +kernel)]
 exact uo_ (by decide +kernel)
theorem gv_fit:SoFit gvS:=by unfold SoFit FnFit StFit ExFit;decide +kernel
theorem u9_:soZ (soOf gvS)=bl gvT:=by decide +kernel
theorem gv_sb:sb (soZ (soOf gvS))=gvT:=by rw [u9_,db_]
theorem gv_len:¬65536<(soZ (soOf gvS)).length:=by rw [u9_,ae_];decide +kernel
theorem yu_:Readz (soOf gvS):=⟨gvS,by rw [gv_sb];exact ln_,rfl⟩
theorem gv_fits (so:Syn.So) (h:srcOf (sb (soZ (soOf gvS)))=.ok so):SoFit so:=by
 rw [gv_sb,ln_] at h
 injection h with h
 rw [←h];exact gv_fit
theorem va_ (W:World):Calls prog 42 #[] W fun e w'=>e=.returned (.string gvT)∧Below W.heap.size W w':=by
 go_enter func42,ntmps42
 go_wp2
 go_ret
 exact ⟨rfl,Below.refl _ _⟩
theorem name_t (x:ByteArray) (W:World):Calls prog 19 #[.string x] W fun e w'=>e=.returned (tv ⟨2,0,x⟩)∧Below W.heap.size W w':=by
 go_enter func19,ntmps19
 go_wp2
 exact bodyPost_ret (v:=tv ⟨2,0,x⟩) (by simp [results,Tryz.results19,go_sem,tv]) rfl ⟨rfl,(Below.refl _ _).alloc (Nat.le_refl _) _⟩
theorem bin_t (x:Int) (W:World):Calls prog 21 #[.int .i64 x] W fun e w'=>e=.returned (tv ⟨5,x,⟨#[]⟩⟩)∧Below W.heap.size W w':=by
 go_enter func21,ntmps21
 go_wp2
 exact bodyPost_ret (v:=tv ⟨5,x,⟨#[]⟩⟩) (by simp [results,Tryz.results21,go_sem,tv]) rfl ⟨rfl,(Below.refl _ _).alloc (Nat.le_refl _) _⟩
def tmCs (l:List TmZ):List Value:=l.flatMap tmZ
def TmAt (W:World) (g:Nat) (l:List TmZ):Prop:=W.heap[g]?=some (.cells (tmCs l).toArray 45 (0,0))
theorem qh_:∀l:List TmZ,Enc (fun c t=>c=tmZ t) (tmCs l) l
 | []=>rfl
 | t::l=>⟨tmZ t,tmCs l,by unfold tmCs;rw [List.flatMap_cons],rfl,qh_ l⟩
theorem TmAt.row {W:World} {g:Nat} {l:List TmZ} (h:TmAt W g l):TmRow (wC W) (some ⟨g,0,none⟩) l:=by
 intro j hj
 have hr:RdO (wC W) (some ⟨g,0,none⟩) (tmCs l):=.inr ⟨g,0,rfl,fun k u hu=>by
  rw [Nat.zero_add]
  exact aa_ h (by rw [List.getElem?_toArray];exact hu)⟩
 obtain ⟨g',o,c,h1,rfl,h2⟩:=rdC (size:=3) (fun c x e=>by rw [e];rfl) hr (qh_ l) j hj (by decide)
 exact ⟨g',o,h1,h2 0 _ (by decide) rfl,h2 1 _ (by decide) rfl,h2 2 _ (by decide) rfl⟩
def txZ (l:List TmZ):List Nat:=if wholeZ l then exZ l else [110,111,110,101]
section
variable {C:Cl} {W:World}
theorem text_t (l:List TmZ) (hf:ExF l) {q:Option Addr} {c:Nat} (hrow:TmRow C q l) (hc:c≤maxLen) (hlc:l.length≤c) (hr:CLe C (wC W)) (hE:EnvP W) :
 Calls prog 20 #[.slice q l.length c] W fun e w'=>∃s,e=.returned (.string s)∧bl s=txZ l∧Below W.heap.size W w':=by
 have HX:=hid (s9_ l hf hrow hc hlc hr hE)
 have HT:=hid (show txZ l=_ from rfl)
 have HN:=hid (show wholeZ l=false→exZ l=[] from fun h=>by unfold exZ;rw [h];rfl)
 obtain ⟨n,hn⟩:∃n,l.length=n:=⟨_,rfl⟩
 rw [hn] at HX ⊢
 clear hf hrow hc hlc hr hE hn
 cases hb:wholeZ l with
 | false =>
  rw [hb] at HX
  have HE:=hid (HN.out hb)
  have HB:=hid hb
  clear hb
  go_enter func20,ntmps20
  go_wp2_with fail
  go_at_call 14
  refine HX.out.mono ?_
  rintro e w1 ⟨s,rfl,hs,hb1⟩
  have hs0:s=⟨#[]⟩:=a3_ (by rw [hs,HE.out];rfl)
  subst hs0
  have HB1:=hid hb1
  clear hb1 hs
  go_wp2_with fail
  go_ret
  exact ⟨_,rfl,by unfold txZ;rw [HB.out];rfl,HB1.out⟩
 | true =>
  rw [hb] at HX
  have HB:=hid hb
  clear hb
  go_enter func20,ntmps20
  go_wp2_with fail
  go_at_call 14
  refine HX.out.mono ?_
  rintro e w1 ⟨s,rfl,hs,hb1⟩
  have HB1:=hid hb1
  have HS:=hid hs
  clear hb1 hs
  go_wp2_with fail
  go_ret
  exact ⟨_,rfl,by unfold txZ;rw [HB.out];exact HS.out,HB1.out⟩
end
theorem vb_ (x:ByteArray) (W:World):Calls prog 19 #[.string x] W fun e w'=>e=.returned (.agg #[.int .i64 2,.int .i64 0,.string x])∧Below W.heap.size W w':=name_t x W
theorem bin_l (x:Int) (W:World):Calls prog 21 #[.int .i64 x] W fun e w'=>e=.returned (.agg #[.int .i64 5,.int .i64 x,.string ⟨#[]⟩])∧Below W.heap.size W w':=bin_t x W
def awL:List TmZ:=[⟨2,0,⟨#[97]⟩⟩,⟨2,0,⟨#[98]⟩⟩,⟨5,1,⟨#[]⟩⟩,⟨2,0,⟨#[99]⟩⟩,⟨5,3,⟨#[]⟩⟩]
theorem aw_text:txZ awL=[40,97,32,43,32,98,41,32,42,32,99]:=by decide +kernel
theorem aw_fit:ExF awL:=by unfold ExF TmF awL;decide +kernel
theorem vc_ {C:Cl} {W:World} {q1 q2 q3 q4 q5:Option Addr} {c1 c2 c3 c4 c5:Nat} (hs:SoR C (soOf gvS) q1 c1 q2 q3 q4 q5) (hC:CLe C (wC W)) (hE:EnvP W) :
 Calls prog 9 #[.agg #[.slice q1 gvS.principals.length c1,.slice q2 gvS.globals.length c2,.slice q3 gvS.arrays.length c3,.slice q4 gvS.channels.length c4,.slice q5 gvS.funcs.length c5]] W fun e w'=>e=.returned (.tuple #[.string gvT,.int .i64 0])∧Below W.heap.size W w':=by
 have h:=hz_ (soOf gvS) c1 c2 c3 c4 c5 hs hC hE (fun _=>gv_fits)
 have e1:(soOf gvS).principals.length=gvS.principals.length:=nld ..
 have e2:(soOf gvS).globals.length=gvS.globals.length:=nld ..
 have e3:(soOf gvS).arrays.length=gvS.arrays.length:=nld ..
 have e4:(soOf gvS).channels.length=gvS.channels.length:=nld ..
 have e5:(soOf gvS).funcs.length=gvS.funcs.length:=nld ..
 unfold sov at h
 rw [e1,e2,e3,e4,e5] at h
 refine h.mono ?_
 rintro e w' ⟨hb,⟨h1,_⟩|⟨_,_,⟨_,h2⟩|⟨h2,_⟩⟩⟩
 ·exact absurd h1 gv_len
 ·exact ⟨by rw [h2,gv_sb],hb⟩
 ·exact absurd yu_ h2
section
variable {W:World}
theorem d0_ (W:World) (hE:EnvP W):Calls prog 12 #[] W fun e w'=>e=.returned (.bool true)∧Below W.heap.size W w':=by
 have HE:=hid hE
 have hgg:(gvT.toList == gvT.toList)=true:=by simp
 clear hE
 go_enter func12,ntmps12
 go_wp2_with fail
 go_at_call 42
 refine (va_ _).mono ?_
 rintro e w1 ⟨rfl,hb1⟩
 have HB1:=hid hb1
 have HPA:=hid (dk_ gvT w1 (HE.out.all hb1).lex (m:=fun _=>none) (fun _ _ e=>by cases e))
 clear hb1
 go_wp2_with fail
 go_at_call 25
 refine HPA.out.mono ?_
 intro e w2 hres
 obtain ⟨hb2,⟨er,a,hsrc,rfl⟩|⟨so,p1,a1,p2,a2,p3,a3,p4,a4,p5,a5,m',hsrc,rfl,hso,_,hhas⟩⟩:=hres.cases
 ·rw [ln_] at hsrc;cases hsrc
 rw [ln_] at hsrc
 injection hsrc with hsrc
 subst hsrc
 have HB2:=hid (ac_ HB1.out hb2)
 have HSR:=hid (fun w (h1:Below W.heap.size W w) (h2:Below w2.heap.size w2 w)=>vc_ (W:=w) (c2:=a2) (c3:=a3) (c4:=a4) (c5:=a5) (j8_ (SoM.rows hso) gv_fit) ((g1_ hhas).trans (ab_ h2)) (HE.out.all h1))
 clear hb2 hres hso hhas HPA HB1
 generalize gvS.principals.length=n1 at *
 generalize gvS.globals.length=n2 at *
 generalize gvS.arrays.length=n3 at *
 generalize gvS.channels.length=n4 at *
 generalize gvS.funcs.length=n5 at *
 have HB3:=hid (show Below W.heap.size W ((w2.alloc (.cells #[.slice p1 n1 a1,.slice p2 n2 a2,.slice p3 n3 a3,.slice p4 n4 a4,.slice p5 n5 a5] 27)).alloc (.cells #[.int .i64 0,.int .i64 0,.int .i64 0] 61)) from (HB2.out.alloc HB2.out.size _).alloc (by rw [nwz];have:=HB2.out.size;omega) _)
 have HB4:=hid (show Below w2.heap.size w2 ((w2.alloc (.cells #[.slice p1 n1 a1,.slice p2 n2 a2,.slice p3 n3 a3,.slice p4 n4 a4,.slice p5 n5 a5] 27)).alloc (.cells #[.int .i64 0,.int .i64 0,.int .i64 0] 61)) from ((Below.refl _ _).alloc (Nat.le_refl _) _).alloc (by rw [nwz];omega) _)
 have hflt:=nwn (w2.alloc (.cells #[.slice p1 n1 a1,.slice p2 n2 a2,.slice p3 n3 a3,.slice p4 n4 a4,.slice p5 n5 a5] 27)) (.cells #[.int .i64 0,.int .i64 0,.int .i64 0] 61)
 rw [nwz] at hflt
 have HFL:=hid hflt
 clear hflt
 go_wp2_with fail
 go_at_call 9
 refine (HSR.out _ HB3.out HB4.out).mono ?_
 rintro e w5 ⟨rfl,hb5⟩
 have HB5:=hid (ac_ HB3.out hb5)
 have hfl:=(hb5.block _ (heap_lt HFL.out)).trans HFL.out
 have f0:=aa_ (j:=0) hfl rfl
 have f1:=aa_ (j:=1) hfl rfl
 have f2:=aa_ (j:=2) hfl rfl
 clear hb5 hfl HB3 HB4 HSR HFL HB2
 go_wp2_with fail
 go_at_call 42
 refine (va_ _).mono ?_
 rintro e w6 ⟨rfl,hb⟩
 have HB6:=hid (ac_ HB5.out hb)
 clear hb f0 f1 f2
 go_wp2_with fail
 go_at_call 19
 refine (vb_ _ _).mono ?_
 rintro e w7 ⟨rfl,hb⟩
 have HB7:=hid (ac_ HB6.out hb)
 clear hb
 go_wp2_with fail
 go_at_call 19
 refine (vb_ _ _).mono ?_
 rintro e w8 ⟨rfl,hb⟩
 have HB8:=hid (ac_ HB7.out hb)
 clear hb
 go_wp2_with fail
 go_at_call 21
 refine (bin_l _ _).mono ?_
 rintro e w9 ⟨rfl,hb⟩
 have HB9:=hid (ac_ HB8.out hb)
 clear hb
 go_wp2_with fail
 go_at_call 19
 refine (vb_ _ _).mono ?_
 rintro e w10 ⟨rfl,hb⟩
 have HB10:=hid (ac_ HB9.out hb)
 clear hb
 go_wp2_with fail
 go_at_call 21
 refine (bin_l _ _).mono ?_
 rintro e w11 ⟨rfl,hb⟩
 have HB11:=hid (ac_ HB10.out hb)
 clear hb
 have HTX:=hid (fun w (h:w=w11.alloc (.cells (tmCs awL).toArray 45))=>text_t (W:=w) (C:=wC w) awL aw_fit (c:=5) (TmAt.row (g:=w11.heap.size) (show TmAt w w11.heap.size awL from by rw [h];exact nwn _ _)) (by decide) (by decide) (CLe.refl _) (HE.out.all (by rw [h];exact bb_ HB11.out _)))
 go_wp2_with fail
 go_at_call 20
 refine (HTX.out _ rfl).mono ?_
 rintro e w12 ⟨s,rfl,hs,hb⟩
 have HB12:=hid (ac_ (bb_ HB11.out _) hb)
 have hse:s=⟨#[40,97,32,43,32,98,41,32,42,32,99]⟩:=a3_ (by rw [hs,aw_text];rfl)
 subst hse
 clear hb hs HTX
 go_wp2_with fail
 go_ret
 exact ⟨rfl,HB12.out⟩
end
section
variable {W:World} {g:Nat}
end
theorem sor_mk {C:Cl} {gl:List DeZ} {fs:List FnZ} {q2 q5:Option Addr} (hg:DeRow C q2 gl) (hgf:(∀d∈gl,DeF d)∧gl.length≤9223372036854775807) (hf:∃lv,FnRow C q5 fs lv) (hff:fs.length≤9223372036854775807):SoR C ⟨[],gl,[],[],fs⟩ none 0 q2 none none q5:=by
 refine ⟨⟨⟨none,0,rfl,fun i hi=>absurd hi (by simp)⟩,Nat.zero_le _,fun i=>by simp⟩,fun j hj=>absurd hj (by simp),hg,fun j hj=>absurd hj (by simp),fun j hj=>absurd hj (by simp),hf,hgf,⟨fun d hd=>absurd hd (by simp),Nat.zero_le _⟩,⟨fun d hd=>absurd hd (by simp),Nat.zero_le _⟩,hff,⟨fun d hd=>absurd hd (by simp),Nat.zero_le _⟩⟩
theorem fn_nil {C:Cl}:∃lv,FnRow C none [] lv:=⟨[],rfl,fun j hj=>absurd hj (by simp),fun j hj=>absurd hj (by simp)⟩
section
variable {C:Cl} {W:World}
def so0:SoZ:=⟨[],[],[],[],[]⟩
theorem lo_:sb (soZ so0)=⟨#[]⟩:=by decide +kernel
theorem vd_:srcOf ⟨#[]⟩=.ok ⟨[],[],[],[],[]⟩:=by
 unfold srcOf
 rw [p6_ _ _ (by decide)]
 exact uo_ (by decide +kernel)
theorem src_0 (hE:EnvP W):Calls prog 9 #[.agg #[.slice none 0 0,.slice none 0 0,.slice none 0 0,.slice none 0 0,.slice none 0 0]] W fun e w'=>e=.returned (.tuple #[.string ⟨#[]⟩,.int .i64 0])∧Below W.heap.size W w':=by
 have h:=hz_ (C:=fun _=>none) (W:=W) so0 0 0 0 0 0 (sor_mk (q2:=none) (q5:=none) (fun j hj=>absurd hj (by simp)) ⟨fun d hd=>absurd hd (by simp),by decide⟩ fn_nil (by decide)) (fun _ _ e=>by cases e) hE (fun _ so hs=>by
  rw [lo_,vd_] at hs
  injection hs with hs
  rw [←hs]
  exact ⟨fun d hd=>absurd hd (by simp),fun d hd=>absurd hd (by simp),fun d hd=>absurd hd (by simp),fun d hd=>absurd hd (by simp),fun d hd=>absurd hd (by simp)⟩)
 refine h.mono ?_
 rintro e w' ⟨hb,⟨h2,_⟩|⟨_,_,⟨_,h2⟩|⟨h2,_⟩⟩⟩
 ·exact absurd h2 (by decide +kernel)
 ·exact ⟨by rw [h2,lo_],hb⟩
 ·exact absurd ⟨_,by rw [lo_];exact vd_,rfl⟩ h2
end
theorem ve_ {t:ByteArray} {so:Syn.So} (h:srcOf t=.ok so) (hl:¬65536<(soZ (soOf so)).length) (hz:∃z,bl z=soZ (soOf so)):Readz (soOf so):=by
 obtain ⟨_,x,rfl,hx⟩:=dz_ h
 rw [uw_ hx] at hl hz
 obtain ⟨z,hz⟩:=hz
 have hb:bl (sb (soText dgN x))=soText dgN x:=by rw [←hz,db_]
 exact ⟨x.so,by rw [uw_ hx];exact yq_ hx hb (by omega),rfl⟩
section
variable {C D:Cl} {W:World} {q1 q2 q3 q4 q5 r1 r2 r3 r4 r5:Option Addr}
theorem lp_ {t:ByteArray} {so:Syn.So} {c1 c2 c3 c4 c5:Nat} (h:srcOf t=.ok so) (hs:SoR C (soOf so) q1 c1 q2 q3 q4 q5) (hC:CLe C (wC W)) (hE:EnvP W) :
 Calls prog 9 #[.agg #[.slice q1 so.principals.length c1,.slice q2 so.globals.length c2,.slice q3 so.arrays.length c3,.slice q4 so.channels.length c4,.slice q5 so.funcs.length c5]] W fun e w'=>(∃(z:ByteArray) (er:Int),e=.returned (.tuple #[.string z,.int .i64 er])∧(er=0∨er=3))∧Below W.heap.size W w':=by
 have h2:=hz_ (soOf so) c1 c2 c3 c4 c5 hs hC hE (fun _ so h=>(dz_ h).1)
 have e1:(soOf so).principals.length=so.principals.length:=nld ..
 have e2:(soOf so).globals.length=so.globals.length:=nld ..
 have e3:(soOf so).arrays.length=so.arrays.length:=nld ..
 have e4:(soOf so).channels.length=so.channels.length:=nld ..
 have e5:(soOf so).funcs.length=so.funcs.length:=nld ..
 unfold sov at h2
 rw [e1,e2,e3,e4,e5] at h2
 refine h2.mono ?_
 rintro e w' ⟨hb,⟨_,h1⟩|⟨hl,hz,⟨_,h1⟩|⟨h1,_⟩⟩⟩
 ·exact ⟨⟨_,3,h1,.inr rfl⟩,hb⟩
 ·exact ⟨⟨_,0,h1,.inl rfl⟩,hb⟩
 ·exact absurd (ve_ h hl hz) h1
theorem yv_ (so:Syn.So) (s:SoZ) {c1 c2 c3 c4 c5 d1 d2 d3 d4 d5:Nat} (hs:SoR C (soOf so) q1 c1 q2 q3 q4 q5) (ht:SoR D s r1 d1 r2 r3 r4 r5) (hC:CLe C (wC W)) (hD:CLe D (wC W)) :
 Calls prog 26 #[.agg #[.slice q1 so.principals.length c1,.slice q2 so.globals.length c2,.slice q3 so.arrays.length c3,.slice q4 so.channels.length c4,.slice q5 so.funcs.length c5],sov s r1 d1 r2 d2 r3 d3 r4 d4 r5 d5] W (SaysB (soOf so=s) W):=by
 have h:=kitSo (c2:=c2) (c3:=c3) (c4:=c4) (c5:=c5) (d2:=d2) (d3:=d3) (d4:=d4) (d5:=d5) (soOf so) s hs ht hC hD
 have e1:(soOf so).principals.length=so.principals.length:=nld ..
 have e2:(soOf so).globals.length=so.globals.length:=nld ..
 have e3:(soOf so).arrays.length=so.arrays.length:=nld ..
 have e4:(soOf so).channels.length=so.channels.length:=nld ..
 have e5:(soOf so).funcs.length=so.funcs.length:=nld ..
 unfold sov at h ⊢
 rw [e1,e2,e3,e4,e5] at h
 exact h
theorem yw_ (s:SoZ) (t:ByteArray) (c1 c2 c3 c4 c5:Nat) (hs:SoR C s q1 c1 q2 q3 q4 q5) (hC:CLe C (wC W)) (hE:EnvP W) :
 Calls prog 6 #[sov s q1 c1 q2 c2 q3 c3 q4 c4 q5 c5,.string t] W fun e w'=>e=.returned (.bool true)∧Below W.heap.size W w':=by
 have HE:=hid hE
 have HCC:=hid hC
 have HS:=hid hs
 have HB0:=hid (show Below W.heap.size W (W.alloc (.cells #[.slice q1 s.principals.length c1,.slice q2 s.globals.length c2,.slice q3 s.arrays.length c3,.slice q4 s.channels.length c4,.slice q5 s.funcs.length c5] 27)) from (Below.refl _ _).alloc (Nat.le_refl _) _)
 have HX0:=hid (nwn W (.cells #[.slice q1 s.principals.length c1,.slice q2 s.globals.length c2,.slice q3 s.arrays.length c3,.slice q4 s.channels.length c4,.slice q5 s.funcs.length c5] 27))
 have HSRC:=hid (hz_ (W:=W.alloc (.cells #[.slice q1 s.principals.length c1,.slice q2 s.globals.length c2,.slice q3 s.arrays.length c3,.slice q4 s.channels.length c4,.slice q5 s.funcs.length c5] 27)) s c1 c2 c3 c4 c5 hs (hC.trans (ab_ HB0.out)) (hE.all HB0.out) (fun _ so h=>(dz_ h).1))
 unfold sov at HSRC ⊢
 clear hE hC hs
 go_enter Tryz.func6,ntmps6
 obtain ⟨x0,x1,x2,x3,x4⟩:=al_ HX0.out
 go_wp2_with fail
 go_at_call 9
 refine HSRC.out.mono ?_
 rintro e w1 ⟨hb1,⟨_,rfl⟩|⟨hnl,hz,⟨hrz,rfl⟩|⟨_,rfl⟩⟩⟩
 ·have HB1:=hid (ac_ HB0.out hb1)
  clear hb1 x0 x1 x2 x3 x4 HSRC HX0
  have HPB:=hid (dk_ t w1 (HE.out.all HB1.out).lex (m:=fun _=>none) (fun _ _ e=>by cases e))
  go_wp2_with fail
  go_at_call 25
  refine HPB.out.mono ?_
  intro e w4 hres
  obtain ⟨hb4,⟨er,a,hsrc,rfl⟩|⟨so,p1,a1,p2,a2,p3,a3,p4,a4,p5,a5,m',hsrc,rfl,hso,_,hhas⟩⟩:=hres.cases
  ·have HB4:=hid (ac_ HB1.out hb4)
   clear hb4 hres hsrc HPB
   have hb5:Below w4.heap.size w4 ((w4.alloc (.cells #[.slice none 0 0,.slice none 0 0,.slice none 0 0,.slice none 0 0,.slice none 0 0] 27)).alloc (.cells #[.int .i64 (er:Nat),.int .i64 (-1),.int .i64 (a:Nat)] 61)):=((Below.refl _ _).alloc (Nat.le_refl _) _).alloc (by rw [nwz];omega) _
   have HB5:=hid (ac_ HB4.out hb5)
   have HBX:=hid hb5
   have HSB:=hid (ad_ (w4.alloc (.cells #[.slice none 0 0,.slice none 0 0,.slice none 0 0,.slice none 0 0,.slice none 0 0] 27)) (.cells #[.int .i64 (er:Nat),.int .i64 (-1),.int .i64 (a:Nat)] 61) (nwn w4 (.cells #[.slice none 0 0,.slice none 0 0,.slice none 0 0,.slice none 0 0,.slice none 0 0] 27)))
   have hfl:=nwn (w4.alloc (.cells #[.slice none 0 0,.slice none 0 0,.slice none 0 0,.slice none 0 0,.slice none 0 0] 27)) (.cells #[.int .i64 (er:Nat),.int .i64 (-1),.int .i64 (a:Nat)] 61)
   rw [nwz] at hfl
   have HFL:=hid hfl
   clear hfl hb5
   obtain ⟨s0,s1,s2,s3,s4⟩:=al_ HSB.out
   go_wp2_with fail
   go_at_call 9
   refine (src_0 (HE.out.all HB5.out)).mono ?_
   rintro e w5 ⟨rfl,hb6⟩
   have HB6:=hid (ac_ HB5.out hb6)
   have hfl:=(hb6.block _ (heap_lt HFL.out)).trans HFL.out
   have f0:=aa_ (j:=0) hfl rfl
   have f1:=aa_ (j:=1) hfl rfl
   have f2:=aa_ (j:=2) hfl rfl
   clear hb6 hfl s0 s1 s2 s3 s4
   go_wp2_with fail
   go_at_call 12
   refine (d0_ _ (HE.out.all HB6.out)).mono ?_
   rintro e w9 ⟨rfl,hb9⟩
   have HB9:=hid (ac_ HB6.out hb9)
   clear hb9
   go_wp2_with fail
   go_ret
   exact ⟨rfl,HB9.out⟩
  ·have HB4:=hid (ac_ HB1.out hb4)
   have HSR:=hid (fun w (h1:Below W.heap.size W w) (h2:Below w4.heap.size w4 w)=>lp_ (W:=w) (c2:=a2) (c3:=a3) (c4:=a4) (c5:=a5) hsrc (j8_ (SoM.rows hso) (dz_ hsrc).1) ((g1_ hhas).trans (ab_ h2)) (HE.out.all h1))
   clear hb4 hres hsrc hso hhas HPB
   generalize so.principals.length=n1 at *
   generalize so.globals.length=n2 at *
   generalize so.arrays.length=n3 at *
   generalize so.channels.length=n4 at *
   generalize so.funcs.length=n5 at *
   have hb5:Below w4.heap.size w4 ((w4.alloc (.cells #[.slice p1 n1 a1,.slice p2 n2 a2,.slice p3 n3 a3,.slice p4 n4 a4,.slice p5 n5 a5] 27)).alloc (.cells #[.int .i64 0,.int .i64 0,.int .i64 0] 61)):=((Below.refl _ _).alloc (Nat.le_refl _) _).alloc (by rw [nwz];omega) _
   have HB5:=hid (ac_ HB4.out hb5)
   have HBX:=hid hb5
   have HSB:=hid (ad_ (w4.alloc (.cells #[.slice p1 n1 a1,.slice p2 n2 a2,.slice p3 n3 a3,.slice p4 n4 a4,.slice p5 n5 a5] 27)) (.cells #[.int .i64 0,.int .i64 0,.int .i64 0] 61) (nwn w4 (.cells #[.slice p1 n1 a1,.slice p2 n2 a2,.slice p3 n3 a3,.slice p4 n4 a4,.slice p5 n5 a5] 27)))
   have hfl:=nwn (w4.alloc (.cells #[.slice p1 n1 a1,.slice p2 n2 a2,.slice p3 n3 a3,.slice p4 n4 a4,.slice p5 n5 a5] 27)) (.cells #[.int .i64 0,.int .i64 0,.int .i64 0] 61)
   rw [nwz] at hfl
   have HFL:=hid hfl
   clear hfl hb5
   obtain ⟨s0,s1,s2,s3,s4⟩:=al_ HSB.out
   go_wp2_with fail
   go_at_call 9
   refine (HSR.out _ HB5.out HBX.out).mono ?_
   rintro e w5 ⟨⟨z,er,rfl,hz⟩,hb6⟩
   have HB6:=hid (ac_ HB5.out hb6)
   have hfl:=(hb6.block _ (heap_lt HFL.out)).trans HFL.out
   have f0:=aa_ (j:=0) hfl rfl
   have f1:=aa_ (j:=1) hfl rfl
   have f2:=aa_ (j:=2) hfl rfl
   clear hb6 hfl s0 s1 s2 s3 s4 HSR
   rcases hz with rfl|rfl
   ·skip
    go_wp2_with fail
    go_at_call 12
    refine (d0_ _ (HE.out.all HB6.out)).mono ?_
    rintro e w9 ⟨rfl,hb9⟩
    have HB9:=hid (ac_ HB6.out hb9)
    clear hb9
    go_wp2_with fail
    go_ret
    exact ⟨rfl,HB9.out⟩
   ·skip
    go_wp2_with fail
    go_at_call 12
    refine (d0_ _ (HE.out.all HB6.out)).mono ?_
    rintro e w9 ⟨rfl,hb9⟩
    have HB9:=hid (ac_ HB6.out hb9)
    clear hb9
    go_wp2_with fail
    go_ret
    exact ⟨rfl,HB9.out⟩
 ·have HB1:=hid (ac_ HB0.out hb1)
  have HX1:=hid ((hb1.block _ (heap_lt HX0.out)).trans HX0.out)
  have HRZ:=hid hrz
  have HPA:=hid (dk_ (sb (soZ s)) w1 (HE.out.all HB1.out).lex (m:=fun _=>none) (fun _ _ e=>by cases e))
  clear hb1 x0 x1 x2 x3 x4 HSRC HX0 hnl hz hrz
  go_wp2_with fail
  go_at_call 25
  refine HPA.out.mono ?_
  intro e w2 hres
  obtain ⟨hb2,⟨er,a,hsrc,rfl⟩|⟨so',p1',a1',p2',a2',p3',a3',p4',a4',p5',a5',m',hsrc,rfl,hso,_,hhas⟩⟩:=hres.cases
  ·obtain ⟨x,h1,_⟩:=HRZ.out
   rw [h1] at hsrc;cases hsrc
  ·have HB2:=hid (ac_ HB1.out hb2)
   have HX2:=hid ((hb2.block _ (heap_lt HX1.out)).trans HX1.out)
   have HEQ:=hid (show soOf so'=s from by obtain ⟨x,h1,h2⟩:=HRZ.out;rw [hsrc] at h1;injection h1 with h1;rw [h1];exact h2)
   have HK:=hid (fun w (h1:Below W.heap.size W w) (h2:Below w2.heap.size w2 w)=>yv_ (W:=w) (c2:=a2') (c3:=a3') (c4:=a4') (c5:=a5') (d2:=c2) (d3:=c3) (d4:=c4) (d5:=c5) so' s (j8_ (SoM.rows hso) (dz_ hsrc).1) HS.out ((g1_ hhas).trans (ab_ h2)) (HCC.out.trans (ab_ h1)))
   unfold sov at HK
   clear hb2 hres hsrc hso hhas HPA HX1 HRZ
   generalize so'.principals.length=m1 at *
   generalize so'.globals.length=m2 at *
   generalize so'.arrays.length=m3 at *
   generalize so'.channels.length=m4 at *
   generalize so'.funcs.length=m5 at *
   have hb5:Below w2.heap.size w2 ((w2.alloc (.cells #[.slice p1' m1 a1',.slice p2' m2 a2',.slice p3' m3 a3',.slice p4' m4 a4',.slice p5' m5 a5'] 27)).alloc (.cells #[.int .i64 0,.int .i64 0,.int .i64 0] 61)):=((Below.refl _ _).alloc (Nat.le_refl _) _).alloc (by rw [nwz];omega) _
   have HB52:=hid (ac_ HB2.out hb5)
   have HBX2:=hid hb5
   have HSB2:=hid (ad_ (w2.alloc (.cells #[.slice p1' m1 a1',.slice p2' m2 a2',.slice p3' m3 a3',.slice p4' m4 a4',.slice p5' m5 a5'] 27)) (.cells #[.int .i64 0,.int .i64 0,.int .i64 0] 61) (nwn w2 (.cells #[.slice p1' m1 a1',.slice p2' m2 a2',.slice p3' m3 a3',.slice p4' m4 a4',.slice p5' m5 a5'] 27)))
   have hfl:=nwn (w2.alloc (.cells #[.slice p1' m1 a1',.slice p2' m2 a2',.slice p3' m3 a3',.slice p4' m4 a4',.slice p5' m5 a5'] 27)) (.cells #[.int .i64 0,.int .i64 0,.int .i64 0] 61)
   rw [nwz] at hfl
   have HFL2:=hid hfl
   clear hfl hb5
   obtain ⟨x0,x1,x2,x3,x4⟩:=al_ ((HBX2.out.block _ (heap_lt HX2.out)).trans HX2.out)
   obtain ⟨s0,s1,s2,s3,s4⟩:=al_ HSB2.out
   have f0:=aa_ (j:=0) HFL2.out rfl
   have f1:=aa_ (j:=1) HFL2.out rfl
   have f2:=aa_ (j:=2) HFL2.out rfl
   go_wp2_with fail
   go_at_call 26
   refine (HK.out _ HB52.out HBX2.out).mono ?_
   rintro e w3 ⟨p,rfl,hp,hb3⟩
   obtain rfl:p=true:=hp.2 HEQ.out
   have HB3:=hid (ac_ HB52.out hb3)
   clear hb3 hp HK x0 x1 x2 x3 x4 s0 s1 s2 s3 s4 f0 f1 f2 HX2 HSB2 HFL2
   have HPB:=hid (dk_ t w3 (HE.out.all HB3.out).lex (m:=fun _=>none) (fun _ _ e=>by cases e))
   go_wp2_with fail
   go_at_call 25
   refine HPB.out.mono ?_
   intro e w4 hres
   obtain ⟨hb4,⟨er,a,hsrc,rfl⟩|⟨so,p1,a1,p2,a2,p3,a3,p4,a4,p5,a5,m',hsrc,rfl,hso,_,hhas⟩⟩:=hres.cases
   ·have HB4:=hid (ac_ HB3.out hb4)
    clear hb4 hres hsrc HPB
    have hb5:Below w4.heap.size w4 ((w4.alloc (.cells #[.slice none 0 0,.slice none 0 0,.slice none 0 0,.slice none 0 0,.slice none 0 0] 27)).alloc (.cells #[.int .i64 (er:Nat),.int .i64 (-1),.int .i64 (a:Nat)] 61)):=((Below.refl _ _).alloc (Nat.le_refl _) _).alloc (by rw [nwz];omega) _
    have HB5:=hid (ac_ HB4.out hb5)
    have HBX:=hid hb5
    have HSB:=hid (ad_ (w4.alloc (.cells #[.slice none 0 0,.slice none 0 0,.slice none 0 0,.slice none 0 0,.slice none 0 0] 27)) (.cells #[.int .i64 (er:Nat),.int .i64 (-1),.int .i64 (a:Nat)] 61) (nwn w4 (.cells #[.slice none 0 0,.slice none 0 0,.slice none 0 0,.slice none 0 0,.slice none 0 0] 27)))
    have hfl:=nwn (w4.alloc (.cells #[.slice none 0 0,.slice none 0 0,.slice none 0 0,.slice none 0 0,.slice none 0 0] 27)) (.cells #[.int .i64 (er:Nat),.int .i64 (-1),.int .i64 (a:Nat)] 61)
    rw [nwz] at hfl
    have HFL:=hid hfl
    clear hfl hb5
    obtain ⟨s0,s1,s2,s3,s4⟩:=al_ HSB.out
    go_wp2_with fail
    go_at_call 9
    refine (src_0 (HE.out.all HB5.out)).mono ?_
    rintro e w5 ⟨rfl,hb6⟩
    have HB6:=hid (ac_ HB5.out hb6)
    have hfl:=(hb6.block _ (heap_lt HFL.out)).trans HFL.out
    have f0:=aa_ (j:=0) hfl rfl
    have f1:=aa_ (j:=1) hfl rfl
    have f2:=aa_ (j:=2) hfl rfl
    clear hb6 hfl s0 s1 s2 s3 s4
    go_wp2_with fail
    go_at_call 12
    refine (d0_ _ (HE.out.all HB6.out)).mono ?_
    rintro e w9 ⟨rfl,hb9⟩
    have HB9:=hid (ac_ HB6.out hb9)
    clear hb9
    go_wp2_with fail
    go_ret
    exact ⟨rfl,HB9.out⟩
   ·have HB4:=hid (ac_ HB3.out hb4)
    have HSR:=hid (fun w (h1:Below W.heap.size W w) (h2:Below w4.heap.size w4 w)=>lp_ (W:=w) (c2:=a2) (c3:=a3) (c4:=a4) (c5:=a5) hsrc (j8_ (SoM.rows hso) (dz_ hsrc).1) ((g1_ hhas).trans (ab_ h2)) (HE.out.all h1))
    clear hb4 hres hsrc hso hhas HPB
    generalize so.principals.length=n1 at *
    generalize so.globals.length=n2 at *
    generalize so.arrays.length=n3 at *
    generalize so.channels.length=n4 at *
    generalize so.funcs.length=n5 at *
    have hb5:Below w4.heap.size w4 ((w4.alloc (.cells #[.slice p1 n1 a1,.slice p2 n2 a2,.slice p3 n3 a3,.slice p4 n4 a4,.slice p5 n5 a5] 27)).alloc (.cells #[.int .i64 0,.int .i64 0,.int .i64 0] 61)):=((Below.refl _ _).alloc (Nat.le_refl _) _).alloc (by rw [nwz];omega) _
    have HB5:=hid (ac_ HB4.out hb5)
    have HBX:=hid hb5
    have HSB:=hid (ad_ (w4.alloc (.cells #[.slice p1 n1 a1,.slice p2 n2 a2,.slice p3 n3 a3,.slice p4 n4 a4,.slice p5 n5 a5] 27)) (.cells #[.int .i64 0,.int .i64 0,.int .i64 0] 61) (nwn w4 (.cells #[.slice p1 n1 a1,.slice p2 n2 a2,.slice p3 n3 a3,.slice p4 n4 a4,.slice p5 n5 a5] 27)))
    have hfl:=nwn (w4.alloc (.cells #[.slice p1 n1 a1,.slice p2 n2 a2,.slice p3 n3 a3,.slice p4 n4 a4,.slice p5 n5 a5] 27)) (.cells #[.int .i64 0,.int .i64 0,.int .i64 0] 61)
    rw [nwz] at hfl
    have HFL:=hid hfl
    clear hfl hb5
    obtain ⟨s0,s1,s2,s3,s4⟩:=al_ HSB.out
    go_wp2_with fail
    go_at_call 9
    refine (HSR.out _ HB5.out HBX.out).mono ?_
    rintro e w5 ⟨⟨z,er,rfl,hz⟩,hb6⟩
    have HB6:=hid (ac_ HB5.out hb6)
    have hfl:=(hb6.block _ (heap_lt HFL.out)).trans HFL.out
    have f0:=aa_ (j:=0) hfl rfl
    have f1:=aa_ (j:=1) hfl rfl
    have f2:=aa_ (j:=2) hfl rfl
    clear hb6 hfl s0 s1 s2 s3 s4 HSR
    rcases hz with rfl|rfl
    ·skip
     go_wp2_with fail
     go_at_call 12
     refine (d0_ _ (HE.out.all HB6.out)).mono ?_
     rintro e w9 ⟨rfl,hb9⟩
     have HB9:=hid (ac_ HB6.out hb9)
     clear hb9
     go_wp2_with fail
     go_ret
     exact ⟨rfl,HB9.out⟩
    ·skip
     go_wp2_with fail
     go_at_call 12
     refine (d0_ _ (HE.out.all HB6.out)).mono ?_
     rintro e w9 ⟨rfl,hb9⟩
     have HB9:=hid (ac_ HB6.out hb9)
     clear hb9
     go_wp2_with fail
     go_ret
     exact ⟨rfl,HB9.out⟩
 ·have HB1:=hid (ac_ HB0.out hb1)
  clear hb1 x0 x1 x2 x3 x4 HSRC HX0
  have HPB:=hid (dk_ t w1 (HE.out.all HB1.out).lex (m:=fun _=>none) (fun _ _ e=>by cases e))
  go_wp2_with fail
  go_at_call 25
  refine HPB.out.mono ?_
  intro e w4 hres
  obtain ⟨hb4,⟨er,a,hsrc,rfl⟩|⟨so,p1,a1,p2,a2,p3,a3,p4,a4,p5,a5,m',hsrc,rfl,hso,_,hhas⟩⟩:=hres.cases
  ·have HB4:=hid (ac_ HB1.out hb4)
   clear hb4 hres hsrc HPB
   have hb5:Below w4.heap.size w4 ((w4.alloc (.cells #[.slice none 0 0,.slice none 0 0,.slice none 0 0,.slice none 0 0,.slice none 0 0] 27)).alloc (.cells #[.int .i64 (er:Nat),.int .i64 (-1),.int .i64 (a:Nat)] 61)):=((Below.refl _ _).alloc (Nat.le_refl _) _).alloc (by rw [nwz];omega) _
   have HB5:=hid (ac_ HB4.out hb5)
   have HBX:=hid hb5
   have HSB:=hid (ad_ (w4.alloc (.cells #[.slice none 0 0,.slice none 0 0,.slice none 0 0,.slice none 0 0,.slice none 0 0] 27)) (.cells #[.int .i64 (er:Nat),.int .i64 (-1),.int .i64 (a:Nat)] 61) (nwn w4 (.cells #[.slice none 0 0,.slice none 0 0,.slice none 0 0,.slice none 0 0,.slice none 0 0] 27)))
   have hfl:=nwn (w4.alloc (.cells #[.slice none 0 0,.slice none 0 0,.slice none 0 0,.slice none 0 0,.slice none 0 0] 27)) (.cells #[.int .i64 (er:Nat),.int .i64 (-1),.int .i64 (a:Nat)] 61)
   rw [nwz] at hfl
   have HFL:=hid hfl
   clear hfl hb5
   obtain ⟨s0,s1,s2,s3,s4⟩:=al_ HSB.out
   go_wp2_with fail
   go_at_call 9
   refine (src_0 (HE.out.all HB5.out)).mono ?_
   rintro e w5 ⟨rfl,hb6⟩
   have HB6:=hid (ac_ HB5.out hb6)
   have hfl:=(hb6.block _ (heap_lt HFL.out)).trans HFL.out
   have f0:=aa_ (j:=0) hfl rfl
   have f1:=aa_ (j:=1) hfl rfl
   have f2:=aa_ (j:=2) hfl rfl
   clear hb6 hfl s0 s1 s2 s3 s4
   go_wp2_with fail
   go_at_call 12
   refine (d0_ _ (HE.out.all HB6.out)).mono ?_
   rintro e w9 ⟨rfl,hb9⟩
   have HB9:=hid (ac_ HB6.out hb9)
   clear hb9
   go_wp2_with fail
   go_ret
   exact ⟨rfl,HB9.out⟩
  ·have HB4:=hid (ac_ HB1.out hb4)
   have HSR:=hid (fun w (h1:Below W.heap.size W w) (h2:Below w4.heap.size w4 w)=>lp_ (W:=w) (c2:=a2) (c3:=a3) (c4:=a4) (c5:=a5) hsrc (j8_ (SoM.rows hso) (dz_ hsrc).1) ((g1_ hhas).trans (ab_ h2)) (HE.out.all h1))
   clear hb4 hres hsrc hso hhas HPB
   generalize so.principals.length=n1 at *
   generalize so.globals.length=n2 at *
   generalize so.arrays.length=n3 at *
   generalize so.channels.length=n4 at *
   generalize so.funcs.length=n5 at *
   have hb5:Below w4.heap.size w4 ((w4.alloc (.cells #[.slice p1 n1 a1,.slice p2 n2 a2,.slice p3 n3 a3,.slice p4 n4 a4,.slice p5 n5 a5] 27)).alloc (.cells #[.int .i64 0,.int .i64 0,.int .i64 0] 61)):=((Below.refl _ _).alloc (Nat.le_refl _) _).alloc (by rw [nwz];omega) _
   have HB5:=hid (ac_ HB4.out hb5)
   have HBX:=hid hb5
   have HSB:=hid (ad_ (w4.alloc (.cells #[.slice p1 n1 a1,.slice p2 n2 a2,.slice p3 n3 a3,.slice p4 n4 a4,.slice p5 n5 a5] 27)) (.cells #[.int .i64 0,.int .i64 0,.int .i64 0] 61) (nwn w4 (.cells #[.slice p1 n1 a1,.slice p2 n2 a2,.slice p3 n3 a3,.slice p4 n4 a4,.slice p5 n5 a5] 27)))
   have hfl:=nwn (w4.alloc (.cells #[.slice p1 n1 a1,.slice p2 n2 a2,.slice p3 n3 a3,.slice p4 n4 a4,.slice p5 n5 a5] 27)) (.cells #[.int .i64 0,.int .i64 0,.int .i64 0] 61)
   rw [nwz] at hfl
   have HFL:=hid hfl
   clear hfl hb5
   obtain ⟨s0,s1,s2,s3,s4⟩:=al_ HSB.out
   go_wp2_with fail
   go_at_call 9
   refine (HSR.out _ HB5.out HBX.out).mono ?_
   rintro e w5 ⟨⟨z,er,rfl,hz⟩,hb6⟩
   have HB6:=hid (ac_ HB5.out hb6)
   have hfl:=(hb6.block _ (heap_lt HFL.out)).trans HFL.out
   have f0:=aa_ (j:=0) hfl rfl
   have f1:=aa_ (j:=1) hfl rfl
   have f2:=aa_ (j:=2) hfl rfl
   clear hb6 hfl s0 s1 s2 s3 s4 HSR
   rcases hz with rfl|rfl
   ·skip
    go_wp2_with fail
    go_at_call 12
    refine (d0_ _ (HE.out.all HB6.out)).mono ?_
    rintro e w9 ⟨rfl,hb9⟩
    have HB9:=hid (ac_ HB6.out hb9)
    clear hb9
    go_wp2_with fail
    go_ret
    exact ⟨rfl,HB9.out⟩
   ·skip
    go_wp2_with fail
    go_at_call 12
    refine (d0_ _ (HE.out.all HB6.out)).mono ?_
    rintro e w9 ⟨rfl,hb9⟩
    have HB9:=hid (ac_ HB6.out hb9)
    clear hb9
    go_wp2_with fail
    go_ret
    exact ⟨rfl,HB9.out⟩
end
end Go.Proofs.YtpcniebkabkikaaGreatDoor
