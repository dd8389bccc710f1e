/- A part of the proof of PrintBack: contracts and plain facts. -/
import Derived.Test.YtpcniebkabkikaaGreatDoorPBqR11
set_option maxRecDepth 100000
set_option maxHeartbeats 8000000
open Go.Lib (hid)
open Go.Proofs.Tryz
open List renaming length_append → nla
open Go.World renaming size_alloc → nwz
namespace Go.Proofs.YtpcniebkabkikaaGreatDoor
open Go Go.RowKit Go.Proofs.Mm
open List renaming setIfInBounds_toArray → n1,set_cons_zero → n2,set_cons_succ → n3,getElem_toArray → n4,getElem_cons_zero → n5,getElem_cons_succ → n6
open Go.Proofs.Syn (Tm opLv opMark unMark b1_)
attribute [local go_sem] Oper.semAt_some
section
variable {C:Cl} {W:World}
theorem xn_ (l:List TmZ) (hl:l.length≤2097152) (hr:∀t∈l,rightZ t=true∧t.value≤9223372036854775807) {q:Option Addr} {c:Nat} (hrow:TmRow C q l) (hcm:c≤maxLen) (hlc:l.length≤c) (hC:CLe C (wC W)) (hE:EnvP W)
 {F:Nat} {Q:List (List Nat)} (hsm:∀s∈Q,s.length≤1000) (hF:runB dgN F [([],0)] (l.map tmN).reverse []=some Q):Calls prog 44 #[.slice q l.length c] W fun e w'=>e=.returned (.string (sb Q.reverse.flatten))∧Below W.heap.size W w':=by
 obtain ⟨i,hi,hz,hs,hb⟩:=infoPt
 obtain ⟨j,hj,hy,hy1,hy2⟩:=infoStrT
 have hmx:prog.follows .mixedOrders=true:=by kernel_rfl
 obtain ⟨n,hn⟩:∃n,l.length=n:=⟨_,rfl⟩
 have HN:=hid hn
 have HR:=hid hr
 have HROW:=hid hrow
 have HC:=hid hC
 have HSM:=hid hsm
 have HE:=hid hE
 have HF:=hid (show runB dgN F [([],0)] (((l.take n).map tmN).reverse) []=some Q from by rw [List.take_of_length_le (by omega)];exact hF)
 rw [hn] at hl hlc ⊢
 clear hr hrow hC hE hF hn hsm
 refine (callsIn_wide (n:=3)).1 ?_
 refine callsIn_of_wp_marks func44 rfl trivial ?_ rfl
 simp only [ntmps44,List.size_toArray,List.length_cons,List.length_nil,Nat.reduceAdd,Nat.reduceSub,Array.replicate_succ,Array.replicate_zero,List.push_toArray,List.append_toArray,List.nil_append,List.cons_append]
 refine wpIn_wide.2 ?_
 go_wp2_with fail
 go_at_call 80
 refine (n6_ _ _).mono ?_
 rintro e w1 ⟨rfl,rfl⟩
 have hb1:=bb_ ((Below.refl W.heap.size W).alloc (Nat.le_refl _) (pb ⟨#[]⟩ 0)) (.cells #[.string ⟨#[]⟩,.int .i64 0] 128)
 have h1:((W.alloc (pb ⟨#[]⟩ 0)).alloc (.cells #[.string ⟨#[]⟩,.int .i64 0] 128)).heap[W.heap.size+1]?=some (.cells #[.string ⟨#[]⟩,.int .i64 0] 128):=by
  have:=World.alloc_heap_new (W.alloc (pb ⟨#[]⟩ 0)) (.cells #[.string ⟨#[]⟩,.int .i64 0] 128)
  rwa [nwz] at this
 have HB1:=hid hb1
 have HO1:=hid (show PtR W.heap.size ((W.alloc (pb ⟨#[]⟩ 0)).alloc (.cells #[.string ⟨#[]⟩,.int .i64 0] 128)) (.slice (some ⟨W.heap.size+1,0,none⟩) 1 1) [([],0)] from ⟨rfl,.inr ⟨W.heap.size+1,1,_,rfl,by omega,h1,Nat.le_refl _,by decide,rfl,rfl⟩⟩)
 clear hb1 h1
 unfold pv pb at *
 go_wp2_with fail
 go_loopw [0,3,4] (fun a b d wr=>∃(k:Nat) (row:List Pt) (out:List (List Nat)) (f:Nat) (q3:Option Addr) (c3:Nat) (q4:Option Addr) (c4:Nat),k≤n∧a=.slice q k c∧b=.slice q3 row.length c3∧d=.slice q4 out.length c4∧Hid (PtR W.heap.size wr (.slice q3 row.length c3) row.reverse)∧Hid (PcR W.heap.size wr (.slice q4 out.length c4) out)∧Hid (Below W.heap.size W wr)∧Hid (runB dgN f row ((l.take k).map tmN).reverse out=some Q)∧Hid (out.length+10*k+row.length≤10*n+1)) (fun a b _ _=>10*sLen a+sLen b)
 case atStart=>exact ⟨n,[([],0)],[],F,some ⟨W.heap.size+1,0,none⟩,1,none,0,Nat.le_refl _,rfl,rfl,rfl,HO1,hid (World.ownsRow_nil _ _ _ _),HB1,HF,hid (by simp)⟩
 case round =>
  obtain ⟨k,row,out,f,q3,c3,q4,c4,hk,rfl,rfl,rfl,HRW,HPC,HB,HRUN,HCNT⟩:=hrel
  clear HO1 HB1 HF
  cases row with
  | nil =>
   obtain rfl:=xk_ HRUN.out
   have hlen:Q.length≤20971530:=by have:=HCNT.out;simp only [List.length_nil] at this;omega
   have hbd:=bld_new wr HB.out.size
   have hB2:=bb_ HB.out (.cells #[.pointer none,.slice none 0 0] 79)
   have hP2:=bj_ HPC.out (show Below wr.heap.size wr (wr.alloc (.cells #[.pointer none,.slice none 0 0] 79)) from (Below.refl _ _).alloc (Nat.le_refl _) _)
   have HBD:=hid hbd
   have HB2:=hid hB2
   have HP2:=hid hP2
   have HCL:=hid hlen
   clear hbd hB2 hP2 hlen HRW HPC HB HRUN HCNT HE HROW HR HN hk hlc hcm hl hi hz hs hb hmx
   go_upto_region 12 with fail
   generalize (wr.alloc _:World)=w3 at *
   generalize wr.heap.size=b at *
   go_wp2_with fail
   go_at_call 82
   refine (ko_ _ _ _ _).mono ?_
   rintro e w7 ⟨rfl,hw7⟩
   have hb7:Below w3.heap.size w3 w7:=by rw [hw7];exact (Below.refl _ _).alloc (Nat.le_refl _) _
   have hBx:w7.heap[w3.heap.size]?=some (.cells #[.slice q4 Q.length c4] 22 (0,0)):=by rw [hw7];exact World.alloc_heap_new _ _
   have hsz7:w7.heap.size=w3.heap.size+1:=by rw [hw7,nwz]
   clear hw7
   obtain ⟨ops,hops⟩:=zq_ Q HSM.out
   have hol:ops.length=Q.length:=by have:=congrArg List.length hops;simpa using this
   have hP7:=bj_ HP2.out hb7
   have hN7:StrsAt w7 q4 ops:=by
    intro j hj
    rcases hP7.2 with ⟨_,h0⟩|⟨g,cap,cur,e,_,hg,_,_,_,ht⟩
    ·omega
    ·injection e with e1 _ _
     subst e1
     refine ⟨g,cur,rfl,hg,?_⟩
     have h1:=congrArg (fun l=>l[j]?) ht
     have hj2:j<Q.length:=by omega
     have h2:(Q.map sb)[j]?=some (ops[j].val):=by rw [←hops,List.getElem?_map,List.getElem?_eq_getElem hj];rfl
     have h3:(Q.map fun s=>Value.string (sb s))[j]?=some (.string ops[j].val):=by
      have:(Q.map fun s=>Value.string (sb s))=(Q.map sb).map Value.string:=by rw [List.map_map];rfl
      rw [this,List.getElem?_map,h2];rfl
     simp only [List.getElem?_take] at h1
     rw [if_pos (by omega)] at h1
     rw [h3] at h1
     simpa using h1
   have hq7:∀a,q4=some a→∃cur,w7.heap[a.block]?=some (.cells cur 9 (0,0)):=by
    intro a ha
    obtain ⟨cur,hc⟩:=av_ hP7 (k:=a.block) (by rw [ha];rfl)
    exact ⟨cur,hc⟩
   have hbi:BI W.heap.size b w3.heap.size q4 W w7 [] w7:=⟨su_ HBD.out hb7,ac_ HB2.out hb7,rfl,fun _ _=>rfl⟩
   have hs3:=HB2.out.size
   have HOWN:=hid (BI.own (b:=b) (Bx:=w3.heap.size) (w0:=W) (w7:=w7) (q:=q4) (B:=W.heap.size) (by omega) rfl hBx hq7)
   have hqlt:∀a,q4=some a→a.block<w7.heap.size:=fun a ha=>by obtain ⟨cur,hc⟩:=hq7 a ha;exact heap_lt hc
   have HCL2:=hid (show ops.length≤20971530 from by have:=HCL.out;omega)
   have HOPS:=hid hops
   have hst:=of_ (3 - 1) w3.heap.size q4 c4 ops HCL2.out w7 (by rw [hol];exact hBx) hN7
   clear hN7 hP7 hops
   have hBn:w7.heap[b]?≠none:=by
    intro e
    rcases hbi.bld with ⟨_,v,hbk,_⟩|⟨_,v,hbk,_⟩ <;> (rw [e] at hbk;cases hbk)
   have HBX:=hid hBx
   have HQ7:=hid hq7
   have HBI:=hid hbi
   clear hBn hBx hq7 hbi
   go_upto_region 13 with fail
   refine (wpIn_wide (n:=3)).1 ?_
   refine wpIn_rangeFunc_ownF rfl (by omega) (gf:=140) (lb:=#[.pointer (some ⟨w3.heap.size,0,none⟩)]) rfl trivial (enters_of func140 (by kernel_rfl) rfl)
    hst (fun h k=>kp_t h k) (kp_b (by omega) hqlt) (Below.refl _ _) (fun _=>rfl)
    (BI W.heap.size b w3.heap.size q4 W w7) (fun _ _ _=>False) HOWN.out (fun _ _ _ _ _ hs _ _=>hs) HBI.out
    (fun x=>{ tmps:=#[.slice q k c,undef,.string ⟨#[]⟩,.slice q3 0 c3,.slice q4 Q.length c4,u5,u6,.pointer (some ⟨b,0,none⟩),undef,.string x.2.val,.agg #[.string ⟨#[]⟩,.int .i64 0],.slice (some ⟨W.heap.size+1,0,none⟩) 1 1,.slice q3 0 c3,.int .i64 0,.bool false,u15,u16,u17,u18,u19,u20,u21,u22,u23,u24,u25,u26,u27,u28,u29,u30,u31,u32,u33,u34,u35,u36,u37,u38,u39,u40,u41,u42,u43,u44,u45,u46,u47,u48,u49,u50,.slice q4 Q.length c4,.func (.func 140) #[] #[.pointer (some ⟨w3.heap.size,0,none⟩)],.int .i64 (x.1:Int),.string x.2.val,undef,undef,undef],defers:=[] }) ?assign ?body ?done ?stop
   case assign =>
    intro l x W K hK
    gi_wp2
    exact hK
   case body =>
    rintro l pre x W1 hI hlt2
    have hpl:pre.length≤20971530:=by have:=HCL2.out;omega
    have hwl:=sv_ pre
    have hws:=Bt.writeString_any W.heap.size b (wrote pre) x.2.val W1 hI.bld (by have:=x.2.2;omega) hI.low.size
    have HI:=hid hI
    clear hI hwl hpl hlt2 hst
    gi_wp2
    refine ⟨trivial,?_⟩
    gi_at_call 83
    refine ((callsIn_wide.2 hws).inRound l).mono ?_
    rintro e W2 ⟨rfl,hat,hb2,hk2⟩
    have hpost:=HI.out.step HBX.out HQ7.out x hat hb2 hk2
    gi_wp2
    exact hpost
   case done =>
    rintro D xs W1 hD hS hI hK
    have hcf:=jy_ (xs.map fun x=>x.2.val)
    have hbld:=hI.bld
    unfold wrote at hbld
    rw [hcf] at hbld
    have hst2:=Tryz.Builder_String_any_k W.heap.size b _ W1 hbld hI.low.size
    have hval:(⟨((xs.map fun x=>x.2.val).flatMap fun s=>s.data.toList).toArray⟩:ByteArray)=sb Q.reverse.flatten:=by
     have h1:(xs.map fun x=>x.2.val)=Q.reverse.map sb:=by
      have h2:(xs.map fun x=>x.2.val)=(xs.map Prod.snd).map Subtype.val:=by rw [List.map_map];rfl
      rw [h2,hS,List.map_reverse,HOPS.out,List.map_reverse]
     rw [h1,sw_]
    rw [hval] at hst2
    have HI:=hid hI
    have HK:=hid hK
    clear hI hK hbld hcf hval hst
    go_wp2_with fail
    go_at_call 34
    refine hst2.mono ?_
    rintro e W2 ⟨rfl,_,hb2,hk2⟩
    have hK2:W2.heap[D]?=some (.deferred (some [])):=hk2 D _ HK.out (by
     intro e
     have hbb:=HI.out.bld
     injection e with e
     subst e
     rcases hbb with ⟨_,v,hbk,_⟩|⟨_,v,hbk,_⟩ <;> (rw [HK.out] at hbk;cases hbk)) (by intro c fz e;cases e)
    have HB2:=hid ((HI.out.low.trans hb2).grown (grownBy_putObj' W2 D (.deferred none)) (by have:=HI.out.low.size;have:=hb2.size;omega) (fun r hr=>by injection hr with hr;subst hr;have:=HB2.out.size;omega))
    clear hb2 hk2
    go_wp2
    refine ⟨by simp,.inl ⟨_,_,rfl,run_takeDeferred hK2,?_⟩⟩
    refine ⟨_,results_tmp rfl _ _ _,?_⟩
    exact ⟨rfl,HB2.out⟩
   case stop =>
    rintro D cc pre W _ _ h _
    exact h.elim
  | cons p row =>
   have hrv:(p::row).reverse=row.reverse++[p]:=by simp
   have hRW:=HRW.out
   rw [hrv] at hRW
   obtain ⟨g3,rfl,hmc,hcM,e0,e1,hcut⟩:=hRW.last rfl
   obtain ⟨pt,lv⟩:=p
   simp only [List.length_cons] at *
   obtain ⟨m,hm⟩:∃m,row.length=m:=⟨_,rfl⟩
   have HM:=hid hm
   rw [hm] at e0 e1 hcut hmc ⊢
   have hcnt:=HCNT.out
   rw [hm] at hcnt
   have hgt:((m:Int)+1) > 0:=by omega
   obtain ⟨hm9,ho9,hk9⟩:=cnt_le hcnt hl
   have hmc2:m≤c3:=by omega
   have hmi:(m:Int)<((m:Int)+1):=by omega
   have HCN:=hid hcnt
   clear hcnt HCNT
   have hbx:Below wr.heap.size wr (wr.alloc (.cells #[.string (sb pt),.int .i64 (lv:Nat)] 128)):=(Below.refl _ _).alloc (Nat.le_refl _) _
   have hbx2:=World.alloc_heap_new wr (.cells #[.string (sb pt),.int .i64 (lv:Nat)] 128)
   have HGB:=hid (show g3<wr.heap.size from (hcut.lt g3 rfl).2)
   have HB3:=hid (ac_ HB.out hbx)
   have HR3:=hid (bj_ hcut hbx)
   have HP3:=hid (bj_ HPC.out hbx)
   have HS6:=hid (show (wr.alloc (.cells #[.string (sb pt),.int .i64 (lv:Nat)] 128)).cell? ⟨wr.heap.size,0,none⟩=some (.string (sb pt))∧(wr.alloc (.cells #[.string (sb pt),.int .i64 (lv:Nat)] 128)).cell? ⟨wr.heap.size,1,none⟩=some (.int .i64 (lv:Nat)) from ⟨aa_ hbx2 rfl,aa_ hbx2 rfl⟩)
   have hsub:wrap64 (m:Int)=(m:Int):=jx_ (Nat.le_trans hm9 (by decide))
   have HBND:=hid (show (c3≤maxLen∧m≤20971520∧out.length≤20971520∧k≤2097152)∧n≤c∧c≤maxLen∧k≤n∧n≤2097152 from ⟨⟨hcM,hm9,ho9,hk9⟩,hlc,hcm,hk,hl⟩)
   clear hRW hrv hcut hbx hbx2 hm HRW HPC hcM hm9 ho9 hk9 hmc hcm hlc hl hk
   go_upto_region 6 with fail
   generalize (wr.alloc _:World)=w3 at *
   generalize wr.heap.size=b5 at *
   have HSd:=hid (show w3.drew.cell? ⟨b5,0,none⟩=some (.string (sb pt))∧w3.drew.cell? ⟨b5,1,none⟩=some (.int .i64 (lv:Nat)) from HS6.out)
   have HBd:=hid (show Below W.heap.size W w3.drew from HB3.out.drew)
   have HRd:=hid (bj_ HR3.out (Below.refl _ w3).drew)
   have HPd:=hid (bj_ HP3.out (Below.refl _ w3).drew)
   clear HS6 HB3 HR3 HP3 e0 e1
   by_cases hp:pt=[]
   ·subst hp
    have hsb:sb []=⟨#[]⟩:=rfl
    rw [hsb] at HSd
    obtain ⟨f',t,rl',hrl,hrun⟩:=xm_ HRUN.out rfl
    cases k with
    | zero=>simp at hrl
    | succ k =>
     have hkl:k<l.length:=by have:=HN.out;have:=HBND.out.2.2.2.1;have:=HBND.out.2.2;omega
     rw [List.take_succ_eq_append_getElem hkl,List.map_append,List.map_singleton,List.reverse_append,List.reverse_singleton,List.singleton_append] at hrl
     injection hrl with hrl1 hrl2
     subst hrl1;subst hrl2
     have HRUN2:=hid hrun
     have HT:=hid (HR.out _ (List.getElem_mem hkl))
     obtain ⟨g,o,rfl,x0,x1,x2⟩:=HROW.out k hkl
     have HX:=hid (fun w (h:Below W.heap.size W w)=>(show w.cell? ⟨g,o+k*3,none⟩=some (.int .i64 l[k].kind)∧w.cell? ⟨g,o+k*3+1,none⟩=some (.int .i64 l[k].value)∧w.cell? ⟨g,o+k*3+2,none⟩=some (.string l[k].name) from ⟨ab_ h _ _ (HC.out _ _ x0),ab_ h _ _ (HC.out _ _ x1),ab_ h _ _ (HC.out _ _ x2)⟩))
     clear x0 x1 x2 hrun HRUN
     generalize l[k]=tm at *
     have HBR:=hid (fun w (h:Below W.heap.size W w)=>brack_p lv tm HT.out.1 HT.out.2 w (HE.out.all h))
     obtain ⟨kd,vl,nm⟩:=tm
     unfold tv at HBR
     simp only at HX
     have hwk:wrap64 (k:Int)=(k:Int):=jx_ (by have:=HBND.out.1.2.2.2;omega)
     have hkc:k≤c:=by have:=HBND.out.2;omega
     have hkk:(k:Int)<(k:Int)+1:=by omega
     refine wp_np ?_
     refine wp_region_held_drew (S:=fun w':World=>w'.cell? ⟨b5,0,none⟩=some (.string ⟨#[]⟩)∧w'.cell? ⟨b5,1,none⟩=some (.int .i64 (lv:Nat))) hmx HSd.out (fun hHeld=>?_)
     refine wpAnyH_take (i:=0) (v:=.agg #[.string ⟨#[]⟩,.int .i64 (lv:Nat)]) rfl (by kernel_rfl) (by kernel_rfl) (by kernel_rfl) (fun x _ _ h=>absurd rfl (h.1 x)) (Or.inl ⟨by rfl,fun w hSw=>by obtain ⟨s0,s1⟩:=hSw;go_simp⟩) (by assumption) ?_
     try simp only [Act.put,n1,n2,n3,n4,n5,n6]
     refine wpAnyH_take (i:=1) (v:=.pointer (some ⟨b5,1,none⟩)) rfl (by kernel_rfl) (by kernel_rfl) (by kernel_rfl) (fun x _ _ h=>absurd rfl (h.1 x)) (Or.inl ⟨by rfl,fun w hSw=>by obtain ⟨s0,s1⟩:=hSw;go_simp⟩) (by assumption) ?_
     try simp only [Act.put,n1,n2,n3,n4,n5,n6]
     refine wpAnyH_take (i:=2) (v:=.int .i64 (lv:Nat)) rfl (by kernel_rfl) (by kernel_rfl) (by kernel_rfl) (fun x _ _ h=>absurd rfl (h.1 x)) (Or.inl ⟨by rfl,fun w hSw=>by obtain ⟨s0,s1⟩:=hSw;go_simp⟩) (by assumption) ?_
     try simp only [Act.put,n1,n2,n3,n4,n5,n6]
     refine wpAnyH_ready (rs:=[3]) (by kernel_rfl) (by simp) ?_
     refine AllReadyH.cons rfl (fun K1 hK1=>?_) AllReadyH.nil
     go_simp
     go_at_call 80
     refine (gg_ _ _).mono ?_
     rintro e w5 ⟨rfl,hb5⟩
     have HS5:=hid (show w5.cell? ⟨b5,0,none⟩=some (.string ⟨#[]⟩)∧w5.cell? ⟨b5,1,none⟩=some (.int .i64 (lv:Nat)) from ⟨ab_ hb5 _ _ HSd.out.1,ab_ hb5 _ _ HSd.out.2⟩)
     have HB5:=hid (ac_ HBd.out hb5)
     have HR5:=hid (bj_ HRd.out hb5)
     have HP5:=hid (bj_ HPd.out hb5)
     clear hb5 HSd HBd HRd HPd
     refine hK1.out _ _ HS5.out (fun hHeld=>?_)
     try simp only [Act.put,n1,n2,n3,n4,n5,n6]
     refine wpAnyH_take (i:=4) (v:=.bool false) rfl (by kernel_rfl) (by kernel_rfl) (by kernel_rfl) (fun x _ _ h=>absurd rfl (h.1 x)) (Or.inl ⟨by rfl,fun w hSw=>by obtain ⟨s0,s1⟩:=hSw;go_simp⟩) (by assumption) ?_
     try simp only [Act.put,n1,n2,n3,n4,n5,n6]
     refine wpAnyH_done (by kernel_rfl) ?_ _
     refine ⟨fun _ e=>(by cases e),?_⟩
     obtain ⟨t0,t1⟩:=HS5.out
     go_upto_region 9 with fail
     clear t0 t1
     have HBe:=hid (show Below W.heap.size W w5.drew from HB5.out.drew)
     have HSe:=hid (show w5.drew.cell? ⟨b5,1,none⟩=some (.int .i64 (lv:Nat))∧w5.drew.cell? ⟨g,o+k*3,none⟩=some (.int .i64 kd)∧w5.drew.cell? ⟨g,o+k*3+1,none⟩=some (.int .i64 vl)∧w5.drew.cell? ⟨g,o+k*3+2,none⟩=some (.string nm) from ⟨HS5.out.2,HX.out _ HBe.out⟩)
     have HRe:=hid (bj_ HR5.out (Below.refl _ w5).drew)
     have HPe:=hid (bj_ HP5.out (Below.refl _ w5).drew)
     refine wp_np ?_
     refine wp_region_held_drew (S:=fun w':World=>w'.cell? ⟨b5,1,none⟩=some (.int .i64 (lv:Nat))∧w'.cell? ⟨g,o+k*3,none⟩=some (.int .i64 kd)∧w'.cell? ⟨g,o+k*3+1,none⟩=some (.int .i64 vl)∧w'.cell? ⟨g,o+k*3+2,none⟩=some (.string nm)) hmx HSe.out (fun hHeld=>?_)
     refine wpAnyH_take (i:=0) (v:=.slice (some ⟨g3,0,none⟩) m c3) rfl (by kernel_rfl) (by kernel_rfl) (by kernel_rfl) (fun x _ _ h=>absurd rfl (h.1 x)) (Or.inl ⟨by rfl,fun w hSw=>by obtain ⟨s0,s1,s2,s3⟩:=hSw;go_simp⟩) (by assumption) ?_
     try simp only [Act.put,n1,n2,n3,n4,n5,n6]
     refine wpAnyH_take (i:=1) (v:=.pointer (some ⟨b5,1,none⟩)) rfl (by kernel_rfl) (by kernel_rfl) (by kernel_rfl) (fun x _ _ h=>absurd rfl (h.1 x)) (Or.inl ⟨by rfl,fun w hSw=>by obtain ⟨s0,s1,s2,s3⟩:=hSw;go_simp⟩) (by assumption) ?_
     try simp only [Act.put,n1,n2,n3,n4,n5,n6]
     refine wpAnyH_take (i:=2) (v:=.int .i64 (lv:Nat)) rfl (by kernel_rfl) (by kernel_rfl) (by kernel_rfl) (fun x _ _ h=>absurd rfl (h.1 x)) (Or.inl ⟨by rfl,fun w hSw=>by obtain ⟨s0,s1,s2,s3⟩:=hSw;go_simp⟩) (by assumption) ?_
     try simp only [Act.put,n1,n2,n3,n4,n5,n6]
     refine wpAnyH_take (i:=3) (v:=.slice (some ⟨g,o,none⟩) (k+1) c) rfl (by kernel_rfl) (by kernel_rfl) (by kernel_rfl) (fun x _ _ h=>absurd rfl (h.1 x)) (Or.inl ⟨by rfl,fun w hSw=>by obtain ⟨s0,s1,s2,s3⟩:=hSw;go_simp⟩) (by assumption) ?_
     try simp only [Act.put,n1,n2,n3,n4,n5,n6]
     refine wpAnyH_take (i:=4) (v:=.int .i64 (k:Nat)) rfl (by kernel_rfl) (by kernel_rfl) (by kernel_rfl) (fun x _ _ h=>absurd rfl (h.1 x)) (Or.inl ⟨by rfl,fun w hSw=>by obtain ⟨s0,s1,s2,s3⟩:=hSw;go_simp⟩) (by assumption) ?_
     try simp only [Act.put,n1,n2,n3,n4,n5,n6]
     refine wpAnyH_take (i:=5) (v:=.pointer (some ⟨g,o+k*3,none⟩)) rfl (by kernel_rfl) (by kernel_rfl) (by kernel_rfl) (fun x _ _ h=>absurd rfl (h.1 x)) (Or.inl ⟨by rfl,fun w hSw=>by obtain ⟨s0,s1,s2,s3⟩:=hSw;go_simp⟩) (by assumption) ?_
     try simp only [Act.put,n1,n2,n3,n4,n5,n6]
     refine wpAnyH_take (i:=6) (v:=.agg #[.int .i64 kd,.int .i64 vl,.string nm]) rfl (by kernel_rfl) (by kernel_rfl) (by kernel_rfl) (fun x _ _ h=>absurd rfl (h.1 x)) (Or.inl ⟨by rfl,fun w hSw=>by obtain ⟨s0,s1,s2,s3⟩:=hSw;go_simp⟩) (by assumption) ?_
     try simp only [Act.put,n1,n2,n3,n4,n5,n6]
     refine wpAnyH_ready (rs:=[7]) (by kernel_rfl) (by simp) ?_
     refine AllReadyH.cons rfl (fun K7 hK7=>?_) AllReadyH.nil
     go_simp
     go_at_call 81
     refine (HBR.out _ HBe.out).mono ?_
     rintro e w7 ⟨g9,c9,rfl,_,hat9,hb9⟩
     have HS7:=hid (show w7.cell? ⟨b5,1,none⟩=some (.int .i64 (lv:Nat))∧w7.cell? ⟨g,o+k*3,none⟩=some (.int .i64 kd)∧w7.cell? ⟨g,o+k*3+1,none⟩=some (.int .i64 vl)∧w7.cell? ⟨g,o+k*3+2,none⟩=some (.string nm) from ⟨ab_ hb9 _ _ HSe.out.1,HX.out _ (ac_ HBe.out hb9)⟩)
     have HB7:=hid (ac_ HBe.out hb9)
     have hr7:=bj_ HRe.out hb9
     have HP7:=hid (bj_ HPe.out hb9)
     have HAT:=hid hat9
     have HBL:=hid (br_len lv (tmN ⟨kd,vl,nm⟩))
     clear hb9 hat9
     generalize brT dgN lv (tmN ⟨kd,vl,nm⟩)=br at *
     refine hK7.out _ _ HS7.out (fun hHeld=>?_)
     try simp only [Act.put,n1,n2,n3,n4,n5,n6]
     refine wpAnyH_ready (rs:=[8]) (by kernel_rfl) (by simp) ?_
     refine AllReadyH.cons rfl (fun K8 hK8=>?_) AllReadyH.nil
     refine wp_append_own _ _ _ 130 rfl W.heap.size 128 i _ 2 24 Tryz.underlying130 hi hz hs hb rfl (by decide) (.slice (some ⟨g3,0,none⟩) m c3) m _ rfl hr7 ⟨g9,0,none⟩ br.length c9 (ptCells br) rfl (xc_ _) HAT.out (pt_one _) ?c1 ?c2 ?c3 ?_
     case c1=>have:=HBND.out.1;have:=HBL.out;unfold maxLen;omega
     case c2=>have:=HBND.out.1;have:=HBL.out;omega
     case c3=>exact HB7.out.size
     intro v9 w9 hown9 hgrow9 _
     have HB9:=hid (HB7.out.grown hgrow9 HB7.out.size (fun r hr=>(hr7.lt r hr).1))
     have HP9:=hid (mg_ HP7.out hr7 (by decide) hgrow9)
     have HR9:=hid hown9
     have HSx:=hid (show w9.cell? ⟨b5,1,none⟩=some (.int .i64 (lv:Nat)) from (Chg.cell (a1_ (S:=fun k=>k=g3) hgrow9 (fun k e=>.inl (by injection e with e;exact e.symm))) HS7.out.1 (fun e=>by have:=HGB.out;simp only at e;omega)))
     refine hK8.out _ _ ⟨HSx.out,HX.out _ HB9.out⟩ (fun hHeld=>?_)
     try simp only [Act.put,n1,n2,n3,n4,n5,n6]
     obtain ⟨q9,c10,rfl⟩:=ah_ hown9
     clear hown9 hgrow9 hr7
     refine wpAnyH_take (i:=9) (v:=.slice q9 (m+br.length) c10) rfl (by kernel_rfl) (by kernel_rfl) (by kernel_rfl) (fun x _ _ h=>absurd rfl (h.1 x)) (Or.inl ⟨by rfl,fun w hSw=>by obtain ⟨s0,s1,s2,s3⟩:=hSw;go_simp⟩) (by assumption) ?_
     try simp only [Act.put,n1,n2,n3,n4,n5,n6]
     refine wpAnyH_done (by kernel_rfl) ?_ _
     refine ⟨fun _ e=>(by cases e),?_⟩
     go_wp2_with fail
     refine ⟨⟨k,br.reverse++row,out,f',q9,c10,q4,c4,by have:=HBND.out.2;omega,rfl,by rw [nla,List.length_reverse,HM.out,Nat.add_comm],rfl,?_,HP9,HB9,HRUN2,?_⟩,?_⟩
     ·refine hid ?_
      unfold PtR
      rw [List.reverse_append,List.reverse_reverse,nla,nla,List.length_reverse,List.length_reverse,HM.out,ob_,Nat.add_comm br.length m]
      exact HR9.out
     ·refine hid ?_
      have h1:=HCN.out
      have h2:=HBL.out
      rw [nla,List.length_reverse,HM.out]
      omega
     ·have h2:=HBL.out
      show 10*k+(m+br.length)<10*(k+1)+(m+1)
      omega
   ·have hq:((sb pt).toList == ([]:List UInt8))=false:=sb_ne hp
    obtain ⟨f',hrun⟩:=xl_ HRUN.out hp
    have HRUN2:=hid hrun
    clear hrun HRUN
    refine wp_np ?_
    refine wp_region_held_drew (S:=fun w':World=>w'.cell? ⟨b5,0,none⟩=some (.string (sb pt))∧w'.cell? ⟨b5,1,none⟩=some (.int .i64 (lv:Nat))) hmx HSd.out (fun hHeld=>?_)
    refine wpAnyH_take (i:=0) (v:=.agg #[.string (sb pt),.int .i64 (lv:Nat)]) rfl (by kernel_rfl) (by kernel_rfl) (by kernel_rfl) (fun x _ _ h=>absurd rfl (h.1 x)) (Or.inl ⟨by rfl,fun w hSw=>by obtain ⟨s0,s1⟩:=hSw;go_simp⟩) (by assumption) ?_
    try simp only [Act.put,n1,n2,n3,n4,n5,n6]
    refine wpAnyH_take (i:=1) (v:=.pointer (some ⟨b5,1,none⟩)) rfl (by kernel_rfl) (by kernel_rfl) (by kernel_rfl) (fun x _ _ h=>absurd rfl (h.1 x)) (Or.inl ⟨by rfl,fun w hSw=>by obtain ⟨s0,s1⟩:=hSw;go_simp⟩) (by assumption) ?_
    try simp only [Act.put,n1,n2,n3,n4,n5,n6]
    refine wpAnyH_take (i:=2) (v:=.int .i64 (lv:Nat)) rfl (by kernel_rfl) (by kernel_rfl) (by kernel_rfl) (fun x _ _ h=>absurd rfl (h.1 x)) (Or.inl ⟨by rfl,fun w hSw=>by obtain ⟨s0,s1⟩:=hSw;go_simp⟩) (by assumption) ?_
    try simp only [Act.put,n1,n2,n3,n4,n5,n6]
    refine wpAnyH_ready (rs:=[3]) (by kernel_rfl) (by simp) ?_
    refine AllReadyH.cons rfl (fun K1 hK1=>?_) AllReadyH.nil
    go_simp
    go_at_call 80
    refine (gg_ _ _).mono ?_
    rintro e w5 ⟨rfl,hb5⟩
    have HS5:=hid (show w5.cell? ⟨b5,0,none⟩=some (.string (sb pt))∧w5.cell? ⟨b5,1,none⟩=some (.int .i64 (lv:Nat)) from ⟨ab_ hb5 _ _ HSd.out.1,ab_ hb5 _ _ HSd.out.2⟩)
    have HB5:=hid (ac_ HBd.out hb5)
    have HR5:=hid (bj_ HRd.out hb5)
    have HP5:=hid (bj_ HPd.out hb5)
    clear hb5 HSd HBd HRd HPd
    refine hK1.out _ _ HS5.out (fun hHeld=>?_)
    try simp only [Act.put,n1,n2,n3,n4,n5,n6]
    refine wpAnyH_take (i:=4) (v:=.bool true) rfl (by kernel_rfl) (by kernel_rfl) (by kernel_rfl) (fun x _ _ h=>absurd rfl (h.1 x)) (Or.inl ⟨by rfl,fun w hSw=>by obtain ⟨s0,s1⟩:=hSw;go_simp⟩) (by assumption) ?_
    try simp only [Act.put,n1,n2,n3,n4,n5,n6]
    refine wpAnyH_done (by kernel_rfl) ?_ _
    refine ⟨fun _ e=>(by cases e),?_⟩
    obtain ⟨t0,t1⟩:=HS5.out
    have hp5:=HP5.out
    go_wp2_with (at_builtin;refine wpList_append_own_at _ rfl _ _ 22 rfl W.heap.size 9 j _ 1 16 Tryz.underlying22 hj hy hy1 hy2 rfl (by decide) _ _ _ rfl (hp5.alloc _) ⟨w5.heap.size,0,none⟩ 1 1 [.string (sb pt)] rfl rfl (be_ w5 [_] 9) (str_one _) ?c1 ?c2 ?c3 ?_)
    case c1=>have:=HBND.out.1;unfold maxLen;omega
    case c2=>have:=HBND.out.1;omega
    case c3=>first | exact Nat.le_succ_of_le HB5.out.size | (rw [nwz];exact Nat.le_succ_of_le HB5.out.size)
    intro v9 w9 hown9 hgrow9 _ hat9
    obtain ⟨q9,c9,rfl⟩:=ah_ hown9
    have HB9:=hid ((bb_ HB5.out _).grown hgrow9 (by rw [nwz];exact Nat.le_succ_of_le HB5.out.size) (fun r hr=>(hp5.lt r hr).1))
    have HR9:=hid (mg_ (HR5.out.alloc _) (hp5.alloc _) (by decide) hgrow9)
    have HP9:=hid hown9
    clear hown9 hgrow9 hat9 hp5 t0 t1
    go_wp2_with fail
    refine ⟨⟨k,row,out++[pt],f',some ⟨g3,0,none⟩,c3,q9,c9,HBND.out.2.2.2.1,rfl,by rw [HM.out],by rw [nla,List.length_singleton],?_,?_,HB9,HRUN2,?_⟩,?_⟩
    ·refine hid ?_
     unfold PtR
     rw [List.length_reverse,HM.out]
     exact HR9.out
    ·refine hid ?_
     unfold PcR
     rw [nla,List.length_singleton,List.map_append,List.map_singleton]
     exact HP9.out
    ·refine hid ?_
     have h1:=HCN.out
     rw [nla,List.length_singleton,HM.out]
     omega
    ·show 10*k+m<10*k+(m+1)
     omega
end
end Go.Proofs.YtpcniebkabkikaaGreatDoor
