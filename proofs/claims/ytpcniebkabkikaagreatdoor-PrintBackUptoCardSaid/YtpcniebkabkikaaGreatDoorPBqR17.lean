/- A part of the proof of PrintBack: contracts and plain facts. -/
import Derived.Test.YtpcniebkabkikaaGreatDoorPBqR16
set_option maxRecDepth 100000
set_option maxHeartbeats 8000000
open Go.Lib (hid)
open Go.Proofs.Tryz
open List renaming length_append → nla, length_singleton → nlc
open Go.World renaming alloc_heap_new → nwn
namespace Go.Proofs.YtpcniebkabkikaaGreatDoor
open Go Go.RowKit Go.Proofs.Mm
theorem infoStr:∃i,prog.info? 9=some i∧i.zero=some (.string ⟨#[]⟩)∧i.size=1∧i.bytes=16:=by
 have h:(prog.info? 9).map (fun i=>(i.zero,i.size,i.bytes))=some (some (.string ⟨#[]⟩),1,16):=by kernel_rfl
 cases hi:prog.info? 9 with
 | none=>rw [hi] at h;cases h
 | some i =>
  rw [hi] at h
  simp only [Option.map_some,Option.some.injEq,Prod.mk.injEq] at h
  obtain ⟨e1,e2,e3⟩:=h
  exact ⟨i,rfl,e1,e2,e3⟩
def strC (l:List (List Nat)):List Value:=l.map fun s=>.string (sb s)
theorem tw_ (s:ByteArray):∀u∈[Value.string s],u.oneCell'=true:=by
 intro u hu
 rw [List.mem_singleton] at hu
 subst hu;rfl
section
variable {ys:List It} {len bp bw i:Nat} {vp:Value} {w:World}
theorem d7_ (hw:Ws ys) (h:PS ys len bp bw vp w i) (s:ByteArray) (hs:Mk (bl s)=true) (hx:Syn.is (Tk ys) i (bl s)=true) :
 Calls prog 95 #[.pointer (some ⟨bp,0,none⟩),.string s] w fun e w'=>e=.returned (.bool true)∧Chg (fun k=>k=bp) w w'∧PS ys len bp bw vp w' (i+1) :=
 f6_ h (a4_ hx) s (by rw [ax_,az_ hw len i hs];exact hx)
theorem d8_ (hw:Ws ys) (h:PS ys len bp bw vp w i) (s:ByteArray) (hs:Mk (bl s)=true) (hx:Syn.is (Tk ys) i (bl s)=false) :
 Calls prog 95 #[.pointer (some ⟨bp,0,none⟩),.string s] w fun e w'=>e=.returned (.bool false)∧w=w' :=
 gw_ h s (by rw [ax_,az_ hw len i hs];exact hx)
theorem eq_40 (t:ByteArray):(t.toList == ([40]:List UInt8))=(bl t == [40]):=by
 have h:=ax_ t ⟨#[40]⟩
 rw [Lib.toList_data ⟨#[40]⟩] at h
 exact h
theorem PS.raw2 (h:PS ys len bp bw vp w i) (hi:i<ys.length):w.cell? ⟨bw,4*i+4+1,none⟩=some (.string (tk ys len (i+1)).t):=by
 obtain ⟨arr,h4,h5⟩:=h.toks
 obtain ⟨a0,a1,a2,a3⟩:=h5 (i+1) hi
 rw [show 4*i+4+1=4*(i+1)+1 by omega]
 exact aa_ h4 a1
theorem x7_ {m:Mem} {W:World} {B n:Nat} {E:TypeId} {v:Value} {xs:List Value} (h:W.ownsRow B E 1 v n xs) (hm:Has W m) (hB:∀k,B≤k→m k=none) (hbp:bp<B) (hbm:m bp=none) :
 ∃m',m.le m'∧(∀k,k<B→m k=none→m' k=none)∧Has W m'∧m' bp=none∧RowM m' E 1 v n xs:=by
 obtain ⟨m2,d1,d2,d3,d4⟩:=RowM.done h hm (fun k hk=>hB k (h.lt k hk).1)
 have hnew:∀k,k<B→m k=none→m2 k=none:=fun k hk e=>by
  cases e2:m2 k with
  | none=>rfl
  | some o =>
   rcases d2 k (by rw [e2];simp) with e3|e3
   ·exact (e3 e).elim
   ·have:=(h.lt k e3).1;omega
 exact ⟨m2,d1,hnew,d3,hnew bp hbp hbm,d4⟩
theorem rp_ (hw:Ws ys) (h:PS ys len bp bw vp w i) {m:Mem} (hm:Has w m) (hbm:m bp=none) (hn:Syn.named (Tk ys) i=true) (hb:Syn.is (Tk ys) (i+1) [91]=false) (hq:Syn.is (Tk ys) (i+1) [40]=false) :
 Calls prog 191 #[.pointer (some ⟨bp,0,none⟩)] w (Ret ys len (fun k=>k=bp) w ((Syn.targetsF (Tk ys) (ys.length+1) [bl (tk ys len i).t] (i+1)).on fun ts i=>restP (Tk ys) (ys.length+1) ts i) (SOk ys len bp bw vp m w)):=by
 obtain ⟨hlt,hlb⟩:=h.lt
 have hn1:=cu_ (h.alloc stmtZ) hn
 have Hm:=hid hm
 have C0:=hid ((Chg.refl (fun k=>k=bp) w).alloc stmtZ)
 have M0:=hid (hm.chg ((Chg.refl (fun _=>False) w).alloc stmtZ) (fun _ e=>e.elim))
 have hne:¬w.heap.size=bp:=by omega
 have hfit:=Syn.targetsF_fit (ap_ ys) (ys.length+1) [bl (tk ys len i).t] (i+1) (cc_ hn) (by omega)
 have hi0:=cc_ hn
 have hfew:=h.few
 obtain ⟨j0,hj0,hy0,hy1,hy2⟩:=infoStr
 have HSK:=hid (fun w1 (hp:PS ys len bp bw vp w1 (i+1))=>gw_ hp ⟨#[91]⟩ (by rw [ax_,az_ hw len (i+1) r6_];exact hb))
 have HSQ:=hid (fun w1 (hp:PS ys len bp bw vp w1 (i+1))=>gw_ hp ⟨#[40]⟩ (by rw [ax_,az_ hw len (i+1) g0_];exact hq))
 obtain ⟨RT,hRT⟩:∃RT,Syn.targetsF (Tk ys) (ys.length+1) [bl (tk ys len i).t] (i+1)=RT:=⟨_,rfl⟩
 rw [hRT] at hfit ⊢
 obtain ⟨RR,hRR⟩:∃RR,RT.on (fun ts i=>restP (Tk ys) (ys.length+1) ts i)=RR:=⟨_,rfl⟩
 rw [hRR]
 have HRT:=hid hRT
 have HRR:=hid hRR
 have HFIT:=hid hfit
 have HM0:=hid (fun k (hk:w.heap.size≤k)=>hm.lt hk)
 clear hRT hRR h hm hn hb hq hfit
 unfold stmtZ at hn1 C0 M0
 go_enter func191,ntmps191
 go_wp2_with fail
 go_at_call 150
 refine hn1.mono ?_
 rintro e w1 ⟨rfl,hc1,hp1⟩
 have hs1:=hc1.size
 rw [World.size_alloc] at hs1
 have C1:=hid (C0.out.then hc1)
 have M1:=hid (M0.out.chg hc1 (fun k e=>by subst e;exact hbm))
 have HRES:=hid (hc1.heap (nwn w (.cells #[.int .i64 0,.string ⟨#[]⟩,.slice none 0 0,.slice none 0 0] 57)) hne)
 have hsk:=HSK.out w1 hp1
 have hsq:=HSQ.out w1 hp1
 have hp1':=hp1.alloc (.cells #[.string (tk ys len i).t] 9)
 have hrow:(w1.alloc (.cells #[.string (tk ys len i).t] 9)).ownsRow w1.heap.size 9 1 (.slice (some ⟨w1.heap.size,0,none⟩) 1 1) 1 (strC [bl (tk ys len i).t]):=by
  refine ⟨rfl,.inr ⟨w1.heap.size,1,#[.string (tk ys len i).t],rfl,Nat.le_refl _,nwn w1 _,Nat.le_refl _,by simp [maxLen],rfl,?_⟩⟩
  unfold strC;rw [List.map_singleton,db_];rfl
 have M1':=hid (M1.out.chg ((Chg.refl (fun _=>False) w1).alloc (.cells #[.string (tk ys len i).t] 9)) (fun _ e=>e.elim))
 have HRES':=hid (ad_ w1 (.cells #[.string (tk ys len i).t] 9) HRES.out)
 have C1':=hid (C1.out.alloc (.cells #[.string (tk ys len i).t] 9))
 have HROW:=hid hrow
 have HP1:=hid hp1'
 clear hc1 hp1 hn1 hp1' hrow C0 M0
 generalize (tk ys len i).t=s0 at *
 go_wp2_with fail
 go_at_call 95
 refine hsk.mono ?_
 rintro e w2 ⟨rfl,rfl⟩
 go_wp2_with fail
 go_at_call 95
 refine hsq.mono ?_
 rintro e w2 ⟨rfl,rfl⟩
 clear hsk hsq
 go_wp2_with fail
 go_loopw [4] (fun a wr=>∃f ts j q c,1≤ts.length∧ts.length≤j∧j≤ys.length∧a=.slice q ts.length c∧Hid (Syn.targetsF (Tk ys) f ts j=RT)∧Hid (wr.ownsRow w1.heap.size 9 1 (.slice q ts.length c) ts.length (strC ts))∧Hid (PS ys len bp bw vp wr j)∧Hid (Chg (fun k=>k=bp) w wr)∧Hid (Has wr m)∧Hid (wr.heap[w.heap.size]?=some (.cells #[.int .i64 0,.string ⟨#[]⟩,.slice none 0 0,.slice none 0 0] 57 (0,0)))∧w1.heap.size≤wr.heap.size)
  (fun _ wr=>posW bp wr)
 case atStart=>exact ⟨ys.length+1,[bl s0],i+1,some ⟨w1.heap.size,0,none⟩,1,Nat.le_refl _,by simp,hi0,rfl,HRT,HROW,HP1,C1',M1',HRES',by simp⟩
 case round =>
  obtain ⟨f,ts,j,q,c,hts,htj,hj,rfl,HF,HRw,HPr,HCr,HMr,HRr,hszr⟩:=hrel
  obtain ⟨nt,hnt⟩:∃nt,ts.length=nt:=⟨_,rfl⟩
  have HNT:=hid hnt
  have HRW2:=hid (show wr.ownsRow w1.heap.size 9 1 (.slice q nt c) nt (strC ts) from by rw [←hnt];exact HRw.out)
  rw [hnt] at hts htj ⊢
  clear hnt HRw
  cases hx:Syn.is (Tk ys) j [44] with
  | true =>
   have hsk2:=d7_ hw HPr.out ⟨#[44]⟩ mk_44 hx
   have hlt2:=a4_ hx
   cases f with
   | zero=>exact (HFIT.out.no99 (j:=j) (by rw [←HF.out];rfl)).elim
   | succ f =>
    have hF2:(Syn.name (Tk ys) (j+1)).on (fun s i=>Syn.targetsF (Tk ys) f (ts++[s]) i)=RT:=by
     rw [←HF.out,Syn.targetsF,hx,if_pos rfl]
    have HF2:=hid hF2
    clear hx hF2
    go_wp2_with (go_at_call 95;refine hsk2.mono ?_;rintro e w3 ⟨rfl,hc3,hp3⟩)
    have hn3:=e8_ hp3
    have C3:=hid (HCr.out.then hc3)
    have M3:=hid (HMr.out.chg hc3 (fun k e=>by subst e;exact hbm))
    have R3:=hid (hc3.heap HRr.out hne)
    have W3:=hid (a0_ HRW2.out hc3 (fun k hk e=>by have:=(HRW2.out.lt k hk).1;omega))
    have hs3:=hc3.size
    clear hc3 hp3 hsk2
    go_wp2_with fail
    go_at_call 150
    refine hn3.mono ?_
    rintro e w4 ⟨hc4,⟨hr,rfl⟩|⟨hr,rfl,hp4⟩⟩
    ·exact ⟨rfl,ai_ (by rw [←HRR.out,←HF2.out,hr];rfl) (C3.out.then hc4)⟩
    have C4:=hid (C3.out.then hc4)
    have M4:=hid (M3.out.chg hc4 (fun k e=>by subst e;exact hbm))
    have R4:=hid (hc4.heap R3.out hne)
    have hrow4:=a0_ W3.out hc4 (fun k hk e=>by have:=(W3.out.lt k hk).1;omega)
    have hs4:=hc4.size
    have HF4:=hid (show Syn.targetsF (Tk ys) f (ts++[bl (tk ys len (j+1)).t]) (j+1+1)=RT from by rw [←HF2.out,hr];rfl)
    have hlt4:j+1<ys.length:=by
     rcases Nat.lt_or_ge (j+1) ys.length with q|q
     ·exact q
     ·exfalso;unfold Syn.name at hr;rw [cm_ q] at hr;cases hr
    have HP4:=hid hp4
    clear hc4 hr hn3 hp4
    generalize (tk ys len (j+1)).t=s4 at *
    go_wp2_with (at_builtin;refine wpList_append_own_at _ rfl _ _ 22 rfl w1.heap.size 9 j0 _ 1 16 Tryz.underlying22 hj0 hy0 hy1 hy2 rfl (by decide) _ _ _ rfl (hrow4.alloc _) ⟨w4.heap.size,0,none⟩ 1 1 [.string s4] rfl rfl (be_ w4 [.string s4] 9) (tw_ s4) (by unfold maxLen;omega) (by omega) (by simp;omega) ?_)
    intro v' w9 hown9 hgrow9 _ hat9
    obtain ⟨q9,c9,rfl⟩:=ah_ hown9
    have hC9:Chg (fun k=>w1.heap.size≤k) w4 w9:=((Chg.refl _ w4).alloc _).then (a1_ hgrow9 (fun k hk=>.inl (hrow4.lt k hk).1))
    have hp9:=HP4.out.chg hC9 (by omega) (by omega)
    have HEND:=hid (show Hid (w9.ownsRow w1.heap.size 9 1 (.slice q9 (nt+1) c9) (nt+1) (strC (ts++[bl s4])))∧Hid (PS ys len bp bw vp w9 (j+1+1))∧Hid (Chg (fun k=>k=bp) w w9)∧Hid (Has w9 m)∧Hid (w9.heap[w.heap.size]?=some (.cells #[.int .i64 0,.string ⟨#[]⟩,.slice none 0 0,.slice none 0 0] 57 (0,0)))∧w1.heap.size≤w9.heap.size from
     ⟨by unfold strC;rw [List.map_append,List.map_singleton,db_];exact hown9,hp9,C4.out.trans hC9 (fun k e=>.inr (by omega)),M4.out.chg hC9 (fun k e=>HM0.out k (by omega)),hC9.heap R4.out (by omega),by have:=hC9.size;omega⟩)
    have hpos9:=hp9.pos
    have hpos:=HPr.out.pos
    clear hown9 hgrow9 hat9 hC9 hp9 hrow4
    go_wp2
    refine ⟨⟨f,ts++[bl s4],j+1+1,q9,c9,?_,?_,by omega,?_,HF4,?_,HEND.out.2⟩,?_⟩
    ·rw [nla,nlc];omega
    ·rw [nla,nlc,HNT.out];omega
    ·rw [nla,nlc,HNT.out]
    ·rw [nla,nlc,HNT.out];exact HEND.out.1
    ·rw [hpos9,hpos];omega
  | false =>
   have hsk2:=d8_ hw HPr.out ⟨#[44]⟩ mk_44 hx
   have HRe:=hid (show restP (Tk ys) (ys.length+1) ts j=RR from by
    have h2:RT=.ok (ts,j):=by
     have:=HF.out
     cases f with
     | zero=>exact (HFIT.out.no99 (j:=j) (by rw [←HF.out];rfl)).elim
     | succ f=>rw [←this,Syn.targetsF,hx,if_neg (by simp)]
    rw [←HRR.out,h2];rfl)
   clear hx
   go_wp2_with (go_at_call 95;refine hsk2.mono ?_;rintro e w3 ⟨rfl,rfl⟩)
   have C3:=HCr
   have R3:=HRr
   have hp3:=HPr.out
   obtain ⟨m3,k1,k2,k3,k4,k5⟩:=x7_ (m:=m) HRW2.out HMr.out (fun k hk=>HM0.out k (by omega)) (bp:=bp) (by omega) hbm
   have STR:=hid (show StrM m3 (.slice q nt c) ts from by unfold StrM;rw [HNT.out];exact k5)
   have MO3:=hid (show m.More w m3 from ⟨k1,fun k e hk=>k2 k (by omega) e⟩)
   have M3:=hid k3
   have hz3:m3 w.heap.size=none:=k2 _ (by omega) (HM0.out _ (Nat.le_refl _))
   have hw5:=bt_ hw hp3 ⟨#[61]⟩ mk_61
   clear hp3 hsk2 k1 k2 k3 k5
   go_wp2_with fail
   go_at_call 149
   refine hw5.mono ?_
   rintro e w5 ⟨hc5,⟨hr,rfl⟩|⟨hr,rfl,hp5⟩⟩
   ·exact ⟨rfl,ai_ (by rw [←HRe.out];unfold restP;rw [show ([61]:List Nat)=bl ⟨#[61]⟩ from rfl,hr];rfl) (C3.out.then hc5)⟩
   have C5:=hid (C3.out.then hc5)
   have R5:=hid (hc5.heap R3.out hne)
   have M5:=hid (M3.out.chg hc5 (fun k e=>by subst e;exact k4))
   have HR5:=hid (show (if ts.length=1∧¬(Syn.named (Tk ys) (j+1)=true∧Syn.is (Tk ys) (j+1+1) [40]=true) then assignP (Tk ys) (ys.length+1) ts (j+1) else callsP (Tk ys) (ys.length+1) ts (j+1))=RR from by rw [←HRe.out];unfold restP;rw [show ([61]:List Nat)=bl ⟨#[61]⟩ from rfl,hr];rfl)
   have HP5:=hid hp5
   have hs5:=hc5.size
   have hle5:=hp5.le
   clear hc5 hr hp5 hw5
   by_cases hgt:1<nt
   ·have HC:=hid (show callsP (Tk ys) (ys.length+1) ts (j+1)=RR from by
     rw [←HR5.out,if_neg (by rw [HNT.out];omega)])
    have hgt1:decide ((1:Int)<(nt:Int))=true:=by simp;omega
    go_wp2_with fail
    have h6:=e8_ HP5.out
    go_at_call 150
    refine h6.mono ?_
    rintro e w6 ⟨hc6,⟨hr,rfl⟩|⟨hr,rfl,hp6⟩⟩
    ·exact ⟨rfl,ai_ (by rw [←HC.out];unfold callsP;rw [hr];rfl) (C5.out.then hc6)⟩
    have C6:=hid (C5.out.then hc6)
    have R6:=hid (hc6.heap R5.out hne)
    have M6:=hid (M5.out.chg hc6 (fun k e=>by subst e;exact k4))
    have HC6:=hid (show (Syn.want (Tk ys) (j+1+1) [40]).on (fun _ i=>callP (Tk ys) (ys.length+1) ts (bl (tk ys len (j+1)).t) i)=RR from by rw [←HC.out];unfold callsP;rw [hr];rfl)
    have hs6:=hc6.size
    have h7:=bt_ hw hp6 ⟨#[40]⟩ g0_
    clear hc6 hr hp6 h6
    generalize (tk ys len (j+1)).t=s6 at *
    go_wp2_with fail
    go_at_call 149
    refine h7.mono ?_
    rintro e w7 ⟨hc7,⟨hr,rfl⟩|⟨hr,rfl,hp7⟩⟩
    ·exact ⟨rfl,ai_ (by rw [←HC6.out,show ([40]:List Nat)=bl ⟨#[40]⟩ from rfl,hr];rfl) (C6.out.then hc7)⟩
    have C7:=hid (C6.out.then hc7)
    have R7:=hid (hc7.heap R6.out hne)
    have HC7:=hid (show callP (Tk ys) (ys.length+1) ts (bl s6) (j+1+1+1)=RR from by rw [←HC6.out,show ([40]:List Nat)=bl ⟨#[40]⟩ from rfl,hr];rfl)
    have hs7:=hc7.size
    have h8:=an_ (k4_ hw hp7 (M6.out.chg hc7 (fun k e=>by subst e;exact k4)) k4 s6 STR.out)
    clear hc7 hr hp7 h7
    go_wp2_with fail
    go_at_call 227
    refine h8.mono ?_
    rintro e w8 ⟨hc8,⟨er,k,hr,rfl⟩|⟨st,jj,hr,vt,ve,m',rfl,hmo,hH,hb8,ht,hex,hp8⟩⟩
    ·exact ⟨rfl,ai_ (by rw [←HC7.out,hr]) (C7.out.then hc8)⟩
    obtain ⟨qt,ct,rfl⟩:=cz_ ht
    obtain ⟨qe,ce,rfl⟩:=dv_ hex
    have HE:=hid (show .ok (st,jj)=RR from by rw [←HC7.out,hr])
    obtain ⟨r0,r1,r2,r3,f0,f1,f2,f3⟩:=ba_ (hc8.heap R7.out hne)
    have HEND:=hid (du_ (m:=m) (st:=st) (w:=w) (w3:=w8) (C7.out.then hc8) (MO3.out.trans (hmo.from (w:=w) (by omega)) (Nat.le_refl _)) hH hb8 (hmo.new _ hz3 (by omega)) ht hex hp8 hne hlb (.int .i64 (st.kind:Int)) (.string (sb st.name)) (.slice qt st.targets.length ct) (.slice qe st.exprs.length ce))
    clear hc8 hr hp8 hmo hH hb8 ht hex h8
    go_wp2
    exact bodyPost_ret (v:=.agg #[.int .i64 (st.kind:Int),.string (sb st.name),.slice qt st.targets.length ct,.slice qe st.exprs.length ce]) (by simp [results,Tryz.results191,go_sem,r0,r1,r2,r3]) rfl (bx_ HE.out.symm HEND.out.1 HEND.out.2)
   obtain rfl:nt=1:=by omega
   cases hnm:Syn.named (Tk ys) (j+1) with
   | false =>
    have HC:=hid (show assignP (Tk ys) (ys.length+1) ts (j+1)=RR from by
     rw [←HR5.out,if_pos ⟨HNT.out,by rw [hnm];simp⟩])
    have hk:=bl_ HP5.out 1
    rw [b2_,hnm] at hk
    clear hnm hgt
    go_wp2_with (go_at_call 184;refine hk.mono ?_;rintro e w' ⟨rfl,rfl⟩)
    go_wp2_with fail
    have h6:=e9_ hw HP5.out M5.out k4
    go_at_call 56
    refine h6.mono ?_
    rintro e w6 ⟨hc6,⟨er,k,hr,rfl⟩|⟨l,j',q',c',m6,hr,rfl,hmo,hH,hb6,htm,hp6⟩⟩
    ·exact ⟨rfl,ai_ (by rw [←HC.out];unfold assignP;rw [hr];rfl) (C5.out.then hc6)⟩
    have C6:=hid (C5.out.then hc6)
    have HC6:=hid (show (Syn.want (Tk ys) j' [59]).on (fun _ i=>.ok ((⟨1,[],ts,[l]⟩:Syn.St),i))=RR from by rw [←HC.out];unfold assignP;rw [hr];rfl)
    have R6:=hid (hc6.heap R5.out hne)
    have hs6:=hc6.size
    obtain ⟨p1,p2,p3⟩:=gi_ hH (.cells #[.slice q' l.length c'] 37)
    have P1:=hid (p1.chg ((Chg.refl (fun _=>False) _).alloc (.cells #[.int .i64 1,.string ⟨#[]⟩,.slice q 1 c,.slice (some ⟨w6.heap.size,0,none⟩) 1 1] 57)) (fun _ e=>e.elim))
    have P2:=hid ((MO3.out.trans (hmo.from (w:=w) (by omega)) (Nat.le_refl _)).trans p2 (by omega))
    have EX:=hid (mo_ (g:=w6.heap.size) p3 (RowM.le htm p2.le))
    have STR6:=hid (RowM.le (RowM.le STR.out hmo.le) p2.le)
    have hbg:(m6.put w6.heap.size (.cells #[.slice q' l.length c'] 37)) bp=none:=by rw [Mem.put_other (by omega)];exact hb6
    have hzg:(m6.put w6.heap.size (.cells #[.slice q' l.length c'] 37)) w.heap.size=none:=by
     rw [Mem.put_other (by omega)]
     exact hmo.new _ hz3 (by omega)
    have HP6:=hid ((hp6.alloc (.cells #[.slice q' l.length c'] 37)).alloc (.cells #[.int .i64 1,.string ⟨#[]⟩,.slice q 1 c,.slice (some ⟨w6.heap.size,0,none⟩) 1 1] 57))
    have hS:=hid (bt_ hw HP6.out ⟨#[59]⟩ mp_)
    have hsN:=nwn (w6.alloc (.cells #[.slice q' l.length c'] 37)) (.cells #[.int .i64 1,.string ⟨#[]⟩,.slice q 1 c,.slice (some ⟨w6.heap.size,0,none⟩) 1 1] 57)
    rw [World.size_alloc] at hsN
    have HSN:=hid hsN
    generalize (m6.put w6.heap.size (.cells #[.slice q' l.length c'] 37))=m7 at *
    clear hc6 hr h6 hmo hH hb6 htm hp6 p1 p2 p3 hsN
    go_wp2_with fail
    go_at_call 149
    refine hS.out.mono ?_
    rintro e w7 ⟨hc7,⟨hr,rfl⟩|⟨hr,rfl,hp7⟩⟩
    ·exact ⟨rfl,ai_ (by rw [←HC6.out,show ([59]:List Nat)=bl ⟨#[59]⟩ from rfl,hr];rfl) (((C6.out.alloc _).alloc _).then hc7)⟩
    have HE:=hid (show (.ok ((⟨1,[],ts,[l]⟩:Syn.St),j'+1))=RR from by rw [←HC6.out,show ([59]:List Nat)=bl ⟨#[59]⟩ from rfl,hr];rfl)
    obtain ⟨r0,r1,r2,r3,f0,f1,f2,f3⟩:=ba_ (hc7.heap (ad_ _ _ (ad_ _ _ R6.out)) hne)
    obtain ⟨s0,s1',s2,s3,_,_,_,_⟩:=ba_ (hc7.heap HSN.out (by omega))
    have HEND:=hid (du_ (m:=m) (st:=⟨1,[],ts,[l]⟩) (w:=w) (w3:=w7) (((C6.out.alloc _).alloc _).then hc7) P2.out (P1.out.chg hc7 (fun k e=>by subst e;exact hbg)) hbg hzg STR6.out EX.out hp7 hne hlb (.int .i64 1) (.string ⟨#[]⟩) (.slice q 1 c) (.slice (some ⟨w6.heap.size,0,none⟩) 1 1))
    clear hc7 hr hp7
    go_wp2
    exact bodyPost_ret (v:=.agg #[.int .i64 1,.string ⟨#[]⟩,.slice q 1 c,.slice (some ⟨w6.heap.size,0,none⟩) 1 1]) (by simp [results,Tryz.results191,go_sem,r0,r1,r2,r3]) rfl (bx_ HE.out.symm HEND.out.1 HEND.out.2)
   | true =>
    have hlt6:=cc_ hnm
    have hk:=bl_ HP5.out 1
    rw [b2_,hnm] at hk
    obtain ⟨cc,z0,zf,zc,zc2,z1,z2,z3,z4⟩:=HP5.out.raw
    have z5:=HP5.out.raw2 hlt6
    have hm1:1<ys.length+1 - (j+1):=by omega
    have hm2:ys.length+1 - (j+1)≤100000:=by omega
    clear zf zc zc2 z1 z2 z3 z4
    cases hx4:Syn.is (Tk ys) (j+1+1) [40] with
    | true =>
     have HC:=hid (show callsP (Tk ys) (ys.length+1) ts (j+1)=RR from by
      rw [←HR5.out,if_neg (by rw [hnm,hx4];simp)])
     have ht4:((tk ys len (j+1+1)).t.toList == ([40]:List UInt8))=true:=by rw [eq_40];rw [←hx4];exact az_ hw len (j+1+1) g0_
     clear hnm hgt hx4
     generalize ys.length+1 - (j+1)=mm at *
     generalize 4*(j+1)=oo at *
     go_wp2_with (go_at_call 184;refine hk.mono ?_;rintro e w' ⟨rfl,rfl⟩)
     clear z0 z5 hm1 hm2 ht4 hk
     go_wp2_with fail
     have h6:=e8_ HP5.out
     go_at_call 150
     refine h6.mono ?_
     rintro e w6 ⟨hc6,⟨hr,rfl⟩|⟨hr,rfl,hp6⟩⟩
     ·exact ⟨rfl,ai_ (by rw [←HC.out];unfold callsP;rw [hr];rfl) (C5.out.then hc6)⟩
     have C6:=hid (C5.out.then hc6)
     have R6:=hid (hc6.heap R5.out hne)
     have M6:=hid (M5.out.chg hc6 (fun k e=>by subst e;exact k4))
     have HC6:=hid (show (Syn.want (Tk ys) (j+1+1) [40]).on (fun _ i=>callP (Tk ys) (ys.length+1) ts (bl (tk ys len (j+1)).t) i)=RR from by rw [←HC.out];unfold callsP;rw [hr];rfl)
     have hs6:=hc6.size
     have h7:=bt_ hw hp6 ⟨#[40]⟩ g0_
     clear hc6 hr hp6 h6
     generalize (tk ys len (j+1)).t=s6 at *
     go_wp2_with fail
     go_at_call 149
     refine h7.mono ?_
     rintro e w7 ⟨hc7,⟨hr,rfl⟩|⟨hr,rfl,hp7⟩⟩
     ·exact ⟨rfl,ai_ (by rw [←HC6.out,show ([40]:List Nat)=bl ⟨#[40]⟩ from rfl,hr];rfl) (C6.out.then hc7)⟩
     have C7:=hid (C6.out.then hc7)
     have R7:=hid (hc7.heap R6.out hne)
     have HC7:=hid (show callP (Tk ys) (ys.length+1) ts (bl s6) (j+1+1+1)=RR from by rw [←HC6.out,show ([40]:List Nat)=bl ⟨#[40]⟩ from rfl,hr];rfl)
     have hs7:=hc7.size
     have h8:=an_ (k4_ hw hp7 (M6.out.chg hc7 (fun k e=>by subst e;exact k4)) k4 s6 STR.out)
     clear hc7 hr hp7 h7
     go_wp2_with fail
     go_at_call 227
     refine h8.mono ?_
     rintro e w8 ⟨hc8,⟨er,k,hr,rfl⟩|⟨st,jj,hr,vt,ve,m',rfl,hmo,hH,hb8,ht,hex,hp8⟩⟩
     ·exact ⟨rfl,ai_ (by rw [←HC7.out,hr]) (C7.out.then hc8)⟩
     obtain ⟨qt,ct,rfl⟩:=cz_ ht
     obtain ⟨qe,ce,rfl⟩:=dv_ hex
     have HE:=hid (show .ok (st,jj)=RR from by rw [←HC7.out,hr])
     obtain ⟨r0,r1,r2,r3,f0,f1,f2,f3⟩:=ba_ (hc8.heap R7.out hne)
     have HEND:=hid (du_ (m:=m) (st:=st) (w:=w) (w3:=w8) (C7.out.then hc8) (MO3.out.trans (hmo.from (w:=w) (by omega)) (Nat.le_refl _)) hH hb8 (hmo.new _ hz3 (by omega)) ht hex hp8 hne hlb (.int .i64 (st.kind:Int)) (.string (sb st.name)) (.slice qt st.targets.length ct) (.slice qe st.exprs.length ce))
     clear hc8 hr hp8 hmo hH hb8 ht hex h8
     go_wp2
     exact bodyPost_ret (v:=.agg #[.int .i64 (st.kind:Int),.string (sb st.name),.slice qt st.targets.length ct,.slice qe st.exprs.length ce]) (by simp [results,Tryz.results191,go_sem,r0,r1,r2,r3]) rfl (bx_ HE.out.symm HEND.out.1 HEND.out.2)
    | false =>
     have HC:=hid (show assignP (Tk ys) (ys.length+1) ts (j+1)=RR from by
      rw [←HR5.out,if_pos ⟨HNT.out,by rw [hx4];simp⟩])
     have ht4:((tk ys len (j+1+1)).t.toList == ([40]:List UInt8))=false:=by rw [eq_40];rw [←hx4];exact az_ hw len (j+1+1) g0_
     clear hnm hgt hx4
     generalize ys.length+1 - (j+1)=mm at *
     generalize 4*(j+1)=oo at *
     go_wp2_with (go_at_call 184;refine hk.mono ?_;rintro e w' ⟨rfl,rfl⟩)
     clear z0 z5 hm1 hm2 ht4 hk
     go_wp2_with fail
     have h6:=e9_ hw HP5.out M5.out k4
     go_at_call 56
     refine h6.mono ?_
     rintro e w6 ⟨hc6,⟨er,k,hr,rfl⟩|⟨l,j',q',c',m6,hr,rfl,hmo,hH,hb6,htm,hp6⟩⟩
     ·exact ⟨rfl,ai_ (by rw [←HC.out];unfold assignP;rw [hr];rfl) (C5.out.then hc6)⟩
     have C6:=hid (C5.out.then hc6)
     have HC6:=hid (show (Syn.want (Tk ys) j' [59]).on (fun _ i=>.ok ((⟨1,[],ts,[l]⟩:Syn.St),i))=RR from by rw [←HC.out];unfold assignP;rw [hr];rfl)
     have R6:=hid (hc6.heap R5.out hne)
     have hs6:=hc6.size
     obtain ⟨p1,p2,p3⟩:=gi_ hH (.cells #[.slice q' l.length c'] 37)
     have P1:=hid (p1.chg ((Chg.refl (fun _=>False) _).alloc (.cells #[.int .i64 1,.string ⟨#[]⟩,.slice q 1 c,.slice (some ⟨w6.heap.size,0,none⟩) 1 1] 57)) (fun _ e=>e.elim))
     have P2:=hid ((MO3.out.trans (hmo.from (w:=w) (by omega)) (Nat.le_refl _)).trans p2 (by omega))
     have EX:=hid (mo_ (g:=w6.heap.size) p3 (RowM.le htm p2.le))
     have STR6:=hid (RowM.le (RowM.le STR.out hmo.le) p2.le)
     have hbg:(m6.put w6.heap.size (.cells #[.slice q' l.length c'] 37)) bp=none:=by rw [Mem.put_other (by omega)];exact hb6
     have hzg:(m6.put w6.heap.size (.cells #[.slice q' l.length c'] 37)) w.heap.size=none:=by
      rw [Mem.put_other (by omega)]
      exact hmo.new _ hz3 (by omega)
     have HP6:=hid ((hp6.alloc (.cells #[.slice q' l.length c'] 37)).alloc (.cells #[.int .i64 1,.string ⟨#[]⟩,.slice q 1 c,.slice (some ⟨w6.heap.size,0,none⟩) 1 1] 57))
     have hS:=hid (bt_ hw HP6.out ⟨#[59]⟩ mp_)
     have hsN:=nwn (w6.alloc (.cells #[.slice q' l.length c'] 37)) (.cells #[.int .i64 1,.string ⟨#[]⟩,.slice q 1 c,.slice (some ⟨w6.heap.size,0,none⟩) 1 1] 57)
     rw [World.size_alloc] at hsN
     have HSN:=hid hsN
     generalize (m6.put w6.heap.size (.cells #[.slice q' l.length c'] 37))=m7 at *
     clear hc6 hr h6 hmo hH hb6 htm hp6 p1 p2 p3 hsN
     go_wp2_with fail
     go_at_call 149
     refine hS.out.mono ?_
     rintro e w7 ⟨hc7,⟨hr,rfl⟩|⟨hr,rfl,hp7⟩⟩
     ·exact ⟨rfl,ai_ (by rw [←HC6.out,show ([59]:List Nat)=bl ⟨#[59]⟩ from rfl,hr];rfl) (((C6.out.alloc _).alloc _).then hc7)⟩
     have HE:=hid (show (.ok ((⟨1,[],ts,[l]⟩:Syn.St),j'+1))=RR from by rw [←HC6.out,show ([59]:List Nat)=bl ⟨#[59]⟩ from rfl,hr];rfl)
     obtain ⟨r0,r1,r2,r3,f0,f1,f2,f3⟩:=ba_ (hc7.heap (ad_ _ _ (ad_ _ _ R6.out)) hne)
     obtain ⟨s0,s1',s2,s3,_,_,_,_⟩:=ba_ (hc7.heap HSN.out (by omega))
     have HEND:=hid (du_ (m:=m) (st:=⟨1,[],ts,[l]⟩) (w:=w) (w3:=w7) (((C6.out.alloc _).alloc _).then hc7) P2.out (P1.out.chg hc7 (fun k e=>by subst e;exact hbg)) hbg hzg STR6.out EX.out hp7 hne hlb (.int .i64 1) (.string ⟨#[]⟩) (.slice q 1 c) (.slice (some ⟨w6.heap.size,0,none⟩) 1 1))
     clear hc7 hr hp7
     go_wp2
     exact bodyPost_ret (v:=.agg #[.int .i64 1,.string ⟨#[]⟩,.slice q 1 c,.slice (some ⟨w6.heap.size,0,none⟩) 1 1]) (by simp [results,Tryz.results191,go_sem,r0,r1,r2,r3]) rfl (bx_ HE.out.symm HEND.out.1 HEND.out.2)
end
end Go.Proofs.YtpcniebkabkikaaGreatDoor
