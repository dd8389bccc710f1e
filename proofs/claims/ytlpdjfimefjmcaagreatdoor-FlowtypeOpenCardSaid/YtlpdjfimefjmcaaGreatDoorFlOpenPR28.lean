/- named of the parser: targets, then a call or an expression. Rows of statements that grow; block of the parser. Plain: statements are no more than their words; how the parser's own functions part a statement. block, branch and loop of the parser. -/
import Derived.Test.YtlpdjfimefjmcaaGreatDoorFlOpenPR27
open Go.Lib (hid)
namespace Go.Proofs.YtlpdjfimefjmcaaGreatDoor.Q
open Go Go.RowKit Go.Proofs.Mm
theorem infoStr:∃i,Tryz.prog.info? 9=some i∧i.zero=some (.string ⟨#[]⟩)∧i.size=1∧i.bytes=16:=by
 have h:(Tryz.prog.info? 9).map (fun i=>(i.zero,i.size,i.bytes))=some (some (.string ⟨#[]⟩),1,16):=by kernel_rfl
 cases hi:Tryz.prog.info? 9 with
 | none=>rw [hi] at h;cases h
 | some i =>
  rw [hi] at h
  simp only [Option.map_some,Option.some.injEq,Prod.mk.injEq] at h
  obtain ⟨e1,e2,e3⟩:=h
  exact ⟨i,rfl,e1,e2,e3⟩
def strC (l:List (List Nat)):List Value:=l.map fun s=>.string (sb s)
theorem one_str (s:ByteArray):∀u∈[Value.string s],u.oneCell'=true:=by
 intro u hu
 rw [List.mem_singleton] at hu
 subst hu;rfl
section
variable {ys:List It} {len bp bw i:Nat} {vp:Value} {w:World}
theorem skip_t (hw:Ws ys) (h:PS ys len bp bw vp w i) (s:ByteArray) (hs:Mk (bl s)=true) (hx:Syn.is (Tk ys) i (bl s)=true) :
 Calls Tryz.prog 115 #[.pointer (some ⟨bp,0,none⟩),.string s] w fun e w'=>e=.returned (.bool true)∧Chg (fun k=>k=bp) w w'∧PS ys len bp bw vp w' (i+1) :=
 skip_yes h (lt_of_is hx) s (by rw [eq_text,is_text hw len i hs];exact hx)
theorem skip_f (hw:Ws ys) (h:PS ys len bp bw vp w i) (s:ByteArray) (hs:Mk (bl s)=true) (hx:Syn.is (Tk ys) i (bl s)=false) :
 Calls Tryz.prog 115 #[.pointer (some ⟨bp,0,none⟩),.string s] w fun e w'=>e=.returned (.bool false)∧w=w' :=
 skip_no h s (by rw [eq_text,is_text hw len i hs];exact hx)
theorem eq_40 (t:ByteArray):(t.toList == ([40]:List UInt8))=(bl t == [40]):=by
 have h:=eq_text t ⟨#[40]⟩
 rw [Lib.toList_data ⟨#[40]⟩] at h
 exact h
theorem PS.raw2 (h:PS ys len bp bw vp w i) (hi:i<ys.length):w.cell? ⟨bw,4*i+4+1,none⟩=some (.string (tk ys len (i+1)).t):=by
 obtain ⟨arr,h4,h5⟩:=h.toks
 obtain ⟨a0,a1,a2,a3⟩:=h5 (i+1) hi
 rw [show 4*i+4+1=4*(i+1)+1 by omega]
 exact cell_of h4 a1
theorem row_done {m:Mem} {W:World} {B n:Nat} {E:TypeId} {v:Value} {xs:List Value} (h:W.ownsRow B E 1 v n xs) (hm:Has W m) (hB:∀k,B≤k→m k=none) (hbp:bp<B) (hbm:m bp=none) :
 ∃m',m.le m'∧(∀k,k<B→m k=none→m' k=none)∧Has W m'∧m' bp=none∧RowM m' E 1 v n xs:=by
 obtain ⟨m2,d1,d2,d3,d4⟩:=RowM.done h hm (fun k hk=>hB k (h.lt k hk).1)
 have hnew:∀k,k<B→m k=none→m2 k=none:=fun k hk e=>by
  cases e2:m2 k with
  | none=>rfl
  | some o =>
   rcases d2 k (by rw [e2];simp) with e3|e3
   ·exact (e3 e).elim
   ·have:=(h.lt k e3).1;omega
 exact ⟨m2,d1,hnew,d3,hnew bp hbp hbm,d4⟩
set_option maxRecDepth 100000 in
set_option maxHeartbeats 4000000 in
theorem named_rest (hw:Ws ys) (h:PS ys len bp bw vp w i) {m:Mem} (hm:Has w m) (hbm:m bp=none) (hn:Syn.named (Tk ys) i=true) (hb:Syn.is (Tk ys) (i+1) [91]=false) (hq:Syn.is (Tk ys) (i+1) [40]=false) :
 Calls Tryz.prog 173 #[.pointer (some ⟨bp,0,none⟩)] w (Ret ys len (fun k=>k=bp) w ((Syn.targetsF (Tk ys) (ys.length+1) [bl (tk ys len i).t] (i+1)).on fun ts i=>restP (Tk ys) (ys.length+1) ts i) (SOk ys len bp bw vp m w)):=by
 obtain ⟨hlt,hlb⟩:=h.lt
 have hn1:=name_one (h.alloc stmtZ) hn
 have Hm:=hid hm
 have C0:=hid ((Chg.refl (fun k=>k=bp) w).alloc stmtZ)
 have M0:=hid (hm.chg ((Chg.refl (fun _=>False) w).alloc stmtZ) (fun _ e=>e.elim))
 have hne:¬w.heap.size=bp:=by omega
 have hfit:=Syn.targetsF_fit (tk_nones ys) (ys.length+1) [bl (tk ys len i).t] (i+1) (lt_of_named hn) (by omega)
 have hi0:=lt_of_named hn
 have hfew:=h.few
 obtain ⟨j0,hj0,hy0,hy1,hy2⟩:=infoStr
 have HSK:=hid (fun w1 (hp:PS ys len bp bw vp w1 (i+1))=>skip_no hp ⟨#[91]⟩ (by rw [eq_text,is_text hw len (i+1) mk_91];exact hb))
 have HSQ:=hid (fun w1 (hp:PS ys len bp bw vp w1 (i+1))=>skip_no hp ⟨#[40]⟩ (by rw [eq_text,is_text hw len (i+1) mk_40];exact hq))
 obtain ⟨RT,hRT⟩:∃RT,Syn.targetsF (Tk ys) (ys.length+1) [bl (tk ys len i).t] (i+1)=RT:=⟨_,rfl⟩
 rw [hRT] at hfit ⊢
 obtain ⟨RR,hRR⟩:∃RR,RT.on (fun ts i=>restP (Tk ys) (ys.length+1) ts i)=RR:=⟨_,rfl⟩
 rw [hRR]
 have HRT:=hid hRT
 have HRR:=hid hRR
 have HFIT:=hid hfit
 have HM0:=hid (fun k (hk:w.heap.size≤k)=>hm.lt hk)
 clear hRT hRR h hm hn hb hq hfit
 unfold stmtZ at hn1 C0 M0
 go_enter Tryz.func173,Tryz.ntmps173
 go_wp2_with fail
 go_at_call 144
 refine hn1.mono ?_
 rintro e w1 ⟨rfl,hc1,hp1⟩
 have hs1:=hc1.size
 rw [World.size_alloc] at hs1
 have C1:=hid (C0.out.then hc1)
 have M1:=hid (M0.out.chg hc1 (fun k e=>by subst e;exact hbm))
 have HRES:=hid (hc1.heap (World.alloc_heap_new w (.cells #[.int .i64 0,.string ⟨#[]⟩,.slice none 0 0,.slice none 0 0] 47)) hne)
 have hsk:=HSK.out w1 hp1
 have hsq:=HSQ.out w1 hp1
 have hp1':=hp1.alloc (.cells #[.string (tk ys len i).t] 9)
 have hrow:(w1.alloc (.cells #[.string (tk ys len i).t] 9)).ownsRow w1.heap.size 9 1 (.slice (some ⟨w1.heap.size,0,none⟩) 1 1) 1 (strC [bl (tk ys len i).t]):=by
  refine ⟨rfl,.inr ⟨w1.heap.size,1,#[.string (tk ys len i).t],rfl,Nat.le_refl _,World.alloc_heap_new w1 _,Nat.le_refl _,by simp [maxLen],rfl,?_⟩⟩
  unfold strC;rw [List.map_singleton,sb_bl];rfl
 have M1':=hid (M1.out.chg ((Chg.refl (fun _=>False) w1).alloc (.cells #[.string (tk ys len i).t] 9)) (fun _ e=>e.elim))
 have HRES':=hid (heap_new w1 (.cells #[.string (tk ys len i).t] 9) HRES.out)
 have C1':=hid (C1.out.alloc (.cells #[.string (tk ys len i).t] 9))
 have HROW:=hid hrow
 have HP1:=hid hp1'
 clear hc1 hp1 hn1 hp1' hrow C0 M0
 generalize (tk ys len i).t=s0 at *
 go_wp2_with fail
 go_at_call 115
 refine hsk.mono ?_
 rintro e w2 ⟨rfl,rfl⟩
 go_wp2_with fail
 go_at_call 115
 refine hsq.mono ?_
 rintro e w2 ⟨rfl,rfl⟩
 clear hsk hsq
 go_wp2_with fail
 go_loopw [4] (fun a wr=>∃f ts j q c,1≤ts.length∧ts.length≤j∧j≤ys.length∧a=.slice q ts.length c∧Hid (Syn.targetsF (Tk ys) f ts j=RT)∧Hid (wr.ownsRow w1.heap.size 9 1 (.slice q ts.length c) ts.length (strC ts))∧Hid (PS ys len bp bw vp wr j)∧Hid (Chg (fun k=>k=bp) w wr)∧Hid (Has wr m)∧Hid (wr.heap[w.heap.size]?=some (.cells #[.int .i64 0,.string ⟨#[]⟩,.slice none 0 0,.slice none 0 0] 47 (0,0)))∧w1.heap.size≤wr.heap.size)
  (fun _ wr=>posW bp wr)
 case atStart=>exact ⟨ys.length+1,[bl s0],i+1,some ⟨w1.heap.size,0,none⟩,1,Nat.le_refl _,by simp,hi0,rfl,HRT,HROW,HP1,C1',M1',HRES',by simp⟩
 case round =>
  obtain ⟨f,ts,j,q,c,hts,htj,hj,rfl,HF,HRw,HPr,HCr,HMr,HRr,hszr⟩:=hrel
  obtain ⟨nt,hnt⟩:∃nt,ts.length=nt:=⟨_,rfl⟩
  have HNT:=hid hnt
  have HRW2:=hid (show wr.ownsRow w1.heap.size 9 1 (.slice q nt c) nt (strC ts) from by rw [←hnt];exact HRw.out)
  rw [hnt] at hts htj ⊢
  clear hnt HRw
  cases hx:Syn.is (Tk ys) j [44] with
  | true =>
   have hsk2:=skip_t hw HPr.out ⟨#[44]⟩ mk_44 hx
   have hlt2:=lt_of_is hx
   cases f with
   | zero=>exact (HFIT.out.no99 (j:=j) (by rw [←HF.out];rfl)).elim
   | succ f =>
    have hF2:(Syn.name (Tk ys) (j+1)).on (fun s i=>Syn.targetsF (Tk ys) f (ts++[s]) i)=RT:=by
     rw [←HF.out,Syn.targetsF,hx,if_pos rfl]
    have HF2:=hid hF2
    clear hx hF2
    go_wp2_with (go_at_call 115;refine hsk2.mono ?_;rintro e w3 ⟨rfl,hc3,hp3⟩)
    have hn3:=name_at hp3
    have C3:=hid (HCr.out.then hc3)
    have M3:=hid (HMr.out.chg hc3 (fun k e=>by subst e;exact hbm))
    have R3:=hid (hc3.heap HRr.out hne)
    have W3:=hid (own_chg HRW2.out hc3 (fun k hk e=>by have:=(HRW2.out.lt k hk).1;omega))
    have hs3:=hc3.size
    clear hc3 hp3 hsk2
    go_wp2_with fail
    go_at_call 144
    refine hn3.mono ?_
    rintro e w4 ⟨hc4,⟨hr,rfl⟩|⟨hr,rfl,hp4⟩⟩
    ·exact ⟨rfl,ret_err (by rw [←HRR.out,←HF2.out,hr];rfl) (C3.out.then hc4)⟩
    have C4:=hid (C3.out.then hc4)
    have M4:=hid (M3.out.chg hc4 (fun k e=>by subst e;exact hbm))
    have R4:=hid (hc4.heap R3.out hne)
    have hrow4:=own_chg W3.out hc4 (fun k hk e=>by have:=(W3.out.lt k hk).1;omega)
    have hs4:=hc4.size
    have HF4:=hid (show Syn.targetsF (Tk ys) f (ts++[bl (tk ys len (j+1)).t]) (j+1+1)=RT from by rw [←HF2.out,hr];rfl)
    have hlt4:j+1<ys.length:=by
     rcases Nat.lt_or_ge (j+1) ys.length with q|q
     ·exact q
     ·exfalso;unfold Syn.name at hr;rw [Tk_none q] at hr;cases hr
    have HP4:=hid hp4
    clear hc4 hr hn3 hp4
    generalize (tk ys len (j+1)).t=s4 at *
    go_wp2_with (at_builtin;refine wpList_append_own_at _ rfl _ _ 22 rfl w1.heap.size 9 j0 _ 1 16 Tryz.underlying22 hj0 hy0 hy1 hy2 rfl (by decide) _ _ _ rfl (hrow4.alloc _) ⟨w4.heap.size,0,none⟩ 1 1 [.string s4] rfl rfl (row_new w4 [.string s4] 9) (one_str s4) (by unfold maxLen;omega) (by omega) (by simp;omega) ?_)
    intro v' w9 hown9 hgrow9 _ hat9
    obtain ⟨q9,c9,rfl⟩:=own_shape hown9
    have hC9:Chg (fun k=>w1.heap.size≤k) w4 w9:=((Chg.refl _ w4).alloc _).then (grown_chg hgrow9 (fun k hk=>.inl (hrow4.lt k hk).1))
    have hp9:=HP4.out.chg hC9 (by omega) (by omega)
    have HEND:=hid (show Hid (w9.ownsRow w1.heap.size 9 1 (.slice q9 (nt+1) c9) (nt+1) (strC (ts++[bl s4])))∧Hid (PS ys len bp bw vp w9 (j+1+1))∧Hid (Chg (fun k=>k=bp) w w9)∧Hid (Has w9 m)∧Hid (w9.heap[w.heap.size]?=some (.cells #[.int .i64 0,.string ⟨#[]⟩,.slice none 0 0,.slice none 0 0] 47 (0,0)))∧w1.heap.size≤w9.heap.size from
     ⟨by unfold strC;rw [List.map_append,List.map_singleton,sb_bl];exact hown9,hp9,C4.out.trans hC9 (fun k e=>.inr (by omega)),M4.out.chg hC9 (fun k e=>HM0.out k (by omega)),hC9.heap R4.out (by omega),by have:=hC9.size;omega⟩)
    have hpos9:=hp9.pos
    have hpos:=HPr.out.pos
    clear hown9 hgrow9 hat9 hC9 hp9 hrow4
    go_wp2
    refine ⟨⟨f,ts++[bl s4],j+1+1,q9,c9,?_,?_,by omega,?_,HF4,?_,HEND.out.2⟩,?_⟩
    ·rw [List.length_append,List.length_singleton];omega
    ·rw [List.length_append,List.length_singleton,HNT.out];omega
    ·rw [List.length_append,List.length_singleton,HNT.out]
    ·rw [List.length_append,List.length_singleton,HNT.out];exact HEND.out.1
    ·rw [hpos9,hpos];omega
  | false =>
   have hsk2:=skip_f hw HPr.out ⟨#[44]⟩ mk_44 hx
   have HRe:=hid (show restP (Tk ys) (ys.length+1) ts j=RR from by
    have h2:RT=.ok (ts,j):=by
     have:=HF.out
     cases f with
     | zero=>exact (HFIT.out.no99 (j:=j) (by rw [←HF.out];rfl)).elim
     | succ f=>rw [←this,Syn.targetsF,hx,if_neg (by simp)]
    rw [←HRR.out,h2];rfl)
   clear hx
   go_wp2_with (go_at_call 115;refine hsk2.mono ?_;rintro e w3 ⟨rfl,rfl⟩)
   have C3:=HCr
   have R3:=HRr
   have hp3:=HPr.out
   obtain ⟨m3,k1,k2,k3,k4,k5⟩:=row_done (m:=m) HRW2.out HMr.out (fun k hk=>HM0.out k (by omega)) (bp:=bp) (by omega) hbm
   have STR:=hid (show StrM m3 (.slice q nt c) ts from by unfold StrM;rw [HNT.out];exact k5)
   have MO3:=hid (show m.More w m3 from ⟨k1,fun k e hk=>k2 k (by omega) e⟩)
   have M3:=hid k3
   have hz3:m3 w.heap.size=none:=k2 _ (by omega) (HM0.out _ (Nat.le_refl _))
   have hw5:=want_at hw hp3 ⟨#[61]⟩ mk_61
   clear hp3 hsk2 k1 k2 k3 k5
   go_wp2_with fail
   go_at_call 143
   refine hw5.mono ?_
   rintro e w5 ⟨hc5,⟨hr,rfl⟩|⟨hr,rfl,hp5⟩⟩
   ·exact ⟨rfl,ret_err (by rw [←HRe.out];unfold restP;rw [show ([61]:List Nat)=bl ⟨#[61]⟩ from rfl,hr];rfl) (C3.out.then hc5)⟩
   have C5:=hid (C3.out.then hc5)
   have R5:=hid (hc5.heap R3.out hne)
   have M5:=hid (M3.out.chg hc5 (fun k e=>by subst e;exact k4))
   have HR5:=hid (show (if ts.length=1∧¬(Syn.named (Tk ys) (j+1)=true∧Syn.is (Tk ys) (j+1+1) [40]=true) then assignP (Tk ys) (ys.length+1) ts (j+1) else callsP (Tk ys) (ys.length+1) ts (j+1))=RR from by rw [←HRe.out];unfold restP;rw [show ([61]:List Nat)=bl ⟨#[61]⟩ from rfl,hr];rfl)
   have HP5:=hid hp5
   have hs5:=hc5.size
   have hle5:=hp5.le
   clear hc5 hr hp5 hw5
   by_cases hgt:1<nt
   ·have HC:=hid (show callsP (Tk ys) (ys.length+1) ts (j+1)=RR from by
     rw [←HR5.out,if_neg (by rw [HNT.out];omega)])
    have hgt1:decide ((1:Int)<(nt:Int))=true:=by simp;omega
    go_wp2_with fail
    have h6:=name_at HP5.out
    go_at_call 144
    refine h6.mono ?_
    rintro e w6 ⟨hc6,⟨hr,rfl⟩|⟨hr,rfl,hp6⟩⟩
    ·exact ⟨rfl,ret_err (by rw [←HC.out];unfold callsP;rw [hr];rfl) (C5.out.then hc6)⟩
    have C6:=hid (C5.out.then hc6)
    have R6:=hid (hc6.heap R5.out hne)
    have M6:=hid (M5.out.chg hc6 (fun k e=>by subst e;exact k4))
    have HC6:=hid (show (Syn.want (Tk ys) (j+1+1) [40]).on (fun _ i=>callP (Tk ys) (ys.length+1) ts (bl (tk ys len (j+1)).t) i)=RR from by rw [←HC.out];unfold callsP;rw [hr];rfl)
    have hs6:=hc6.size
    have h7:=want_at hw hp6 ⟨#[40]⟩ mk_40
    clear hc6 hr hp6 h6
    generalize (tk ys len (j+1)).t=s6 at *
    go_wp2_with fail
    go_at_call 143
    refine h7.mono ?_
    rintro e w7 ⟨hc7,⟨hr,rfl⟩|⟨hr,rfl,hp7⟩⟩
    ·exact ⟨rfl,ret_err (by rw [←HC6.out,show ([40]:List Nat)=bl ⟨#[40]⟩ from rfl,hr];rfl) (C6.out.then hc7)⟩
    have C7:=hid (C6.out.then hc7)
    have R7:=hid (hc7.heap R6.out hne)
    have HC7:=hid (show callP (Tk ys) (ys.length+1) ts (bl s6) (j+1+1+1)=RR from by rw [←HC6.out,show ([40]:List Nat)=bl ⟨#[40]⟩ from rfl,hr];rfl)
    have hs7:=hc7.size
    have h8:=ret_cases (call_any hw hp7 (M6.out.chg hc7 (fun k e=>by subst e;exact k4)) k4 s6 STR.out)
    clear hc7 hr hp7 h7
    go_wp2_with fail
    go_at_call 183
    refine h8.mono ?_
    rintro e w8 ⟨hc8,⟨er,k,hr,rfl⟩|⟨st,jj,hr,vt,ve,m',rfl,hmo,hH,hb8,ht,hex,hp8⟩⟩
    ·exact ⟨rfl,ret_err (by rw [←HC7.out,hr]) (C7.out.then hc8)⟩
    obtain ⟨qt,ct,rfl⟩:=row_shape ht
    obtain ⟨qe,ce,rfl⟩:=ex_shape hex
    have HE:=hid (show .ok (st,jj)=RR from by rw [←HC7.out,hr])
    obtain ⟨r0,r1,r2,r3,f0,f1,f2,f3⟩:=four_cells (hc8.heap R7.out hne)
    have HEND:=hid (sok_end (m:=m) (st:=st) (w:=w) (w3:=w8) (C7.out.then hc8) (MO3.out.trans (hmo.from (w:=w) (by omega)) (Nat.le_refl _)) hH hb8 (hmo.new _ hz3 (by omega)) ht hex hp8 hne hlb (.int .i64 (st.kind:Int)) (.string (sb st.name)) (.slice qt st.targets.length ct) (.slice qe st.exprs.length ce))
    clear hc8 hr hp8 hmo hH hb8 ht hex h8
    go_wp2
    exact bodyPost_ret (v:=.agg #[.int .i64 (st.kind:Int),.string (sb st.name),.slice qt st.targets.length ct,.slice qe st.exprs.length ce]) (by simp [results,Tryz.results173,go_sem,r0,r1,r2,r3]) rfl (ret_ok HE.out.symm HEND.out.1 HEND.out.2)
   obtain rfl:nt=1:=by omega
   cases hnm:Syn.named (Tk ys) (j+1) with
   | false =>
    have HC:=hid (show assignP (Tk ys) (ys.length+1) ts (j+1)=RR from by
     rw [←HR5.out,if_pos ⟨HNT.out,by rw [hnm];simp⟩])
    have hk:=isKind_ps HP5.out 1
    rw [named_kind,hnm] at hk
    clear hnm hgt
    go_wp2_with (go_at_call 167;refine hk.mono ?_;rintro e w' ⟨rfl,rfl⟩)
    go_wp2_with fail
    have h6:=expr_at hw HP5.out M5.out k4
    go_at_call 175
    refine h6.mono ?_
    rintro e w6 ⟨hc6,⟨er,k,hr,rfl⟩|⟨l,j',q',c',m6,hr,rfl,hmo,hH,hb6,htm,hp6⟩⟩
    ·exact ⟨rfl,ret_err (by rw [←HC.out];unfold assignP;rw [hr];rfl) (C5.out.then hc6)⟩
    have C6:=hid (C5.out.then hc6)
    have HC6:=hid (show (Syn.want (Tk ys) j' [59]).on (fun _ i=>.ok ((⟨1,[],ts,[l]⟩:Syn.St),i))=RR from by rw [←HC.out];unfold assignP;rw [hr];rfl)
    have R6:=hid (hc6.heap R5.out hne)
    have hs6:=hc6.size
    obtain ⟨p1,p2,p3⟩:=put_new hH (.cells #[.slice q' l.length c'] 97)
    have P1:=hid (p1.chg ((Chg.refl (fun _=>False) _).alloc (.cells #[.int .i64 1,.string ⟨#[]⟩,.slice q 1 c,.slice (some ⟨w6.heap.size,0,none⟩) 1 1] 47)) (fun _ e=>e.elim))
    have P2:=hid ((MO3.out.trans (hmo.from (w:=w) (by omega)) (Nat.le_refl _)).trans p2 (by omega))
    have EX:=hid (ex_one (g:=w6.heap.size) p3 (RowM.le htm p2.le))
    have STR6:=hid (RowM.le (RowM.le STR.out hmo.le) p2.le)
    have hbg:(m6.put w6.heap.size (.cells #[.slice q' l.length c'] 97)) bp=none:=by rw [Mem.put_other (by omega)];exact hb6
    have hzg:(m6.put w6.heap.size (.cells #[.slice q' l.length c'] 97)) w.heap.size=none:=by
     rw [Mem.put_other (by omega)]
     exact hmo.new _ hz3 (by omega)
    have HP6:=hid ((hp6.alloc (.cells #[.slice q' l.length c'] 97)).alloc (.cells #[.int .i64 1,.string ⟨#[]⟩,.slice q 1 c,.slice (some ⟨w6.heap.size,0,none⟩) 1 1] 47))
    have hS:=hid (want_at hw HP6.out ⟨#[59]⟩ mk_59)
    have hsN:=World.alloc_heap_new (w6.alloc (.cells #[.slice q' l.length c'] 97)) (.cells #[.int .i64 1,.string ⟨#[]⟩,.slice q 1 c,.slice (some ⟨w6.heap.size,0,none⟩) 1 1] 47)
    rw [World.size_alloc] at hsN
    have HSN:=hid hsN
    generalize (m6.put w6.heap.size (.cells #[.slice q' l.length c'] 97))=m7 at *
    clear hc6 hr h6 hmo hH hb6 htm hp6 p1 p2 p3 hsN
    go_wp2_with fail
    go_at_call 143
    refine hS.out.mono ?_
    rintro e w7 ⟨hc7,⟨hr,rfl⟩|⟨hr,rfl,hp7⟩⟩
    ·exact ⟨rfl,ret_err (by rw [←HC6.out,show ([59]:List Nat)=bl ⟨#[59]⟩ from rfl,hr];rfl) (((C6.out.alloc _).alloc _).then hc7)⟩
    have HE:=hid (show (.ok ((⟨1,[],ts,[l]⟩:Syn.St),j'+1))=RR from by rw [←HC6.out,show ([59]:List Nat)=bl ⟨#[59]⟩ from rfl,hr];rfl)
    obtain ⟨r0,r1,r2,r3,f0,f1,f2,f3⟩:=four_cells (hc7.heap (heap_new _ _ (heap_new _ _ R6.out)) hne)
    obtain ⟨s0,s1',s2,s3,_,_,_,_⟩:=four_cells (hc7.heap HSN.out (by omega))
    have HEND:=hid (sok_end (m:=m) (st:=⟨1,[],ts,[l]⟩) (w:=w) (w3:=w7) (((C6.out.alloc _).alloc _).then hc7) P2.out (P1.out.chg hc7 (fun k e=>by subst e;exact hbg)) hbg hzg STR6.out EX.out hp7 hne hlb (.int .i64 1) (.string ⟨#[]⟩) (.slice q 1 c) (.slice (some ⟨w6.heap.size,0,none⟩) 1 1))
    clear hc7 hr hp7
    go_wp2
    exact bodyPost_ret (v:=.agg #[.int .i64 1,.string ⟨#[]⟩,.slice q 1 c,.slice (some ⟨w6.heap.size,0,none⟩) 1 1]) (by simp [results,Tryz.results173,go_sem,r0,r1,r2,r3]) rfl (ret_ok HE.out.symm HEND.out.1 HEND.out.2)
   | true =>
    have hlt6:=lt_of_named hnm
    have hk:=isKind_ps HP5.out 1
    rw [named_kind,hnm] at hk
    obtain ⟨cc,z0,zf,zc,zc2,z1,z2,z3,z4⟩:=HP5.out.raw
    have z5:=HP5.out.raw2 hlt6
    have hm1:1<ys.length+1 - (j+1):=by omega
    have hm2:ys.length+1 - (j+1)≤100000:=by omega
    clear zf zc zc2 z1 z2 z3 z4
    cases hx4:Syn.is (Tk ys) (j+1+1) [40] with
    | true =>
     have HC:=hid (show callsP (Tk ys) (ys.length+1) ts (j+1)=RR from by
      rw [←HR5.out,if_neg (by rw [hnm,hx4];simp)])
     have ht4:((tk ys len (j+1+1)).t.toList == ([40]:List UInt8))=true:=by rw [eq_40];rw [←hx4];exact is_text hw len (j+1+1) mk_40
     clear hnm hgt hx4
     generalize ys.length+1 - (j+1)=mm at *
     generalize 4*(j+1)=oo at *
     go_wp2_with (go_at_call 167;refine hk.mono ?_;rintro e w' ⟨rfl,rfl⟩)
     clear z0 z5 hm1 hm2 ht4 hk
     go_wp2_with fail
     have h6:=name_at HP5.out
     go_at_call 144
     refine h6.mono ?_
     rintro e w6 ⟨hc6,⟨hr,rfl⟩|⟨hr,rfl,hp6⟩⟩
     ·exact ⟨rfl,ret_err (by rw [←HC.out];unfold callsP;rw [hr];rfl) (C5.out.then hc6)⟩
     have C6:=hid (C5.out.then hc6)
     have R6:=hid (hc6.heap R5.out hne)
     have M6:=hid (M5.out.chg hc6 (fun k e=>by subst e;exact k4))
     have HC6:=hid (show (Syn.want (Tk ys) (j+1+1) [40]).on (fun _ i=>callP (Tk ys) (ys.length+1) ts (bl (tk ys len (j+1)).t) i)=RR from by rw [←HC.out];unfold callsP;rw [hr];rfl)
     have hs6:=hc6.size
     have h7:=want_at hw hp6 ⟨#[40]⟩ mk_40
     clear hc6 hr hp6 h6
     generalize (tk ys len (j+1)).t=s6 at *
     go_wp2_with fail
     go_at_call 143
     refine h7.mono ?_
     rintro e w7 ⟨hc7,⟨hr,rfl⟩|⟨hr,rfl,hp7⟩⟩
     ·exact ⟨rfl,ret_err (by rw [←HC6.out,show ([40]:List Nat)=bl ⟨#[40]⟩ from rfl,hr];rfl) (C6.out.then hc7)⟩
     have C7:=hid (C6.out.then hc7)
     have R7:=hid (hc7.heap R6.out hne)
     have HC7:=hid (show callP (Tk ys) (ys.length+1) ts (bl s6) (j+1+1+1)=RR from by rw [←HC6.out,show ([40]:List Nat)=bl ⟨#[40]⟩ from rfl,hr];rfl)
     have hs7:=hc7.size
     have h8:=ret_cases (call_any hw hp7 (M6.out.chg hc7 (fun k e=>by subst e;exact k4)) k4 s6 STR.out)
     clear hc7 hr hp7 h7
     go_wp2_with fail
     go_at_call 183
     refine h8.mono ?_
     rintro e w8 ⟨hc8,⟨er,k,hr,rfl⟩|⟨st,jj,hr,vt,ve,m',rfl,hmo,hH,hb8,ht,hex,hp8⟩⟩
     ·exact ⟨rfl,ret_err (by rw [←HC7.out,hr]) (C7.out.then hc8)⟩
     obtain ⟨qt,ct,rfl⟩:=row_shape ht
     obtain ⟨qe,ce,rfl⟩:=ex_shape hex
     have HE:=hid (show .ok (st,jj)=RR from by rw [←HC7.out,hr])
     obtain ⟨r0,r1,r2,r3,f0,f1,f2,f3⟩:=four_cells (hc8.heap R7.out hne)
     have HEND:=hid (sok_end (m:=m) (st:=st) (w:=w) (w3:=w8) (C7.out.then hc8) (MO3.out.trans (hmo.from (w:=w) (by omega)) (Nat.le_refl _)) hH hb8 (hmo.new _ hz3 (by omega)) ht hex hp8 hne hlb (.int .i64 (st.kind:Int)) (.string (sb st.name)) (.slice qt st.targets.length ct) (.slice qe st.exprs.length ce))
     clear hc8 hr hp8 hmo hH hb8 ht hex h8
     go_wp2
     exact bodyPost_ret (v:=.agg #[.int .i64 (st.kind:Int),.string (sb st.name),.slice qt st.targets.length ct,.slice qe st.exprs.length ce]) (by simp [results,Tryz.results173,go_sem,r0,r1,r2,r3]) rfl (ret_ok HE.out.symm HEND.out.1 HEND.out.2)
    | false =>
     have HC:=hid (show assignP (Tk ys) (ys.length+1) ts (j+1)=RR from by
      rw [←HR5.out,if_pos ⟨HNT.out,by rw [hx4];simp⟩])
     have ht4:((tk ys len (j+1+1)).t.toList == ([40]:List UInt8))=false:=by rw [eq_40];rw [←hx4];exact is_text hw len (j+1+1) mk_40
     clear hnm hgt hx4
     generalize ys.length+1 - (j+1)=mm at *
     generalize 4*(j+1)=oo at *
     go_wp2_with (go_at_call 167;refine hk.mono ?_;rintro e w' ⟨rfl,rfl⟩)
     clear z0 z5 hm1 hm2 ht4 hk
     go_wp2_with fail
     have h6:=expr_at hw HP5.out M5.out k4
     go_at_call 175
     refine h6.mono ?_
     rintro e w6 ⟨hc6,⟨er,k,hr,rfl⟩|⟨l,j',q',c',m6,hr,rfl,hmo,hH,hb6,htm,hp6⟩⟩
     ·exact ⟨rfl,ret_err (by rw [←HC.out];unfold assignP;rw [hr];rfl) (C5.out.then hc6)⟩
     have C6:=hid (C5.out.then hc6)
     have HC6:=hid (show (Syn.want (Tk ys) j' [59]).on (fun _ i=>.ok ((⟨1,[],ts,[l]⟩:Syn.St),i))=RR from by rw [←HC.out];unfold assignP;rw [hr];rfl)
     have R6:=hid (hc6.heap R5.out hne)
     have hs6:=hc6.size
     obtain ⟨p1,p2,p3⟩:=put_new hH (.cells #[.slice q' l.length c'] 97)
     have P1:=hid (p1.chg ((Chg.refl (fun _=>False) _).alloc (.cells #[.int .i64 1,.string ⟨#[]⟩,.slice q 1 c,.slice (some ⟨w6.heap.size,0,none⟩) 1 1] 47)) (fun _ e=>e.elim))
     have P2:=hid ((MO3.out.trans (hmo.from (w:=w) (by omega)) (Nat.le_refl _)).trans p2 (by omega))
     have EX:=hid (ex_one (g:=w6.heap.size) p3 (RowM.le htm p2.le))
     have STR6:=hid (RowM.le (RowM.le STR.out hmo.le) p2.le)
     have hbg:(m6.put w6.heap.size (.cells #[.slice q' l.length c'] 97)) bp=none:=by rw [Mem.put_other (by omega)];exact hb6
     have hzg:(m6.put w6.heap.size (.cells #[.slice q' l.length c'] 97)) w.heap.size=none:=by
      rw [Mem.put_other (by omega)]
      exact hmo.new _ hz3 (by omega)
     have HP6:=hid ((hp6.alloc (.cells #[.slice q' l.length c'] 97)).alloc (.cells #[.int .i64 1,.string ⟨#[]⟩,.slice q 1 c,.slice (some ⟨w6.heap.size,0,none⟩) 1 1] 47))
     have hS:=hid (want_at hw HP6.out ⟨#[59]⟩ mk_59)
     have hsN:=World.alloc_heap_new (w6.alloc (.cells #[.slice q' l.length c'] 97)) (.cells #[.int .i64 1,.string ⟨#[]⟩,.slice q 1 c,.slice (some ⟨w6.heap.size,0,none⟩) 1 1] 47)
     rw [World.size_alloc] at hsN
     have HSN:=hid hsN
     generalize (m6.put w6.heap.size (.cells #[.slice q' l.length c'] 97))=m7 at *
     clear hc6 hr h6 hmo hH hb6 htm hp6 p1 p2 p3 hsN
     go_wp2_with fail
     go_at_call 143
     refine hS.out.mono ?_
     rintro e w7 ⟨hc7,⟨hr,rfl⟩|⟨hr,rfl,hp7⟩⟩
     ·exact ⟨rfl,ret_err (by rw [←HC6.out,show ([59]:List Nat)=bl ⟨#[59]⟩ from rfl,hr];rfl) (((C6.out.alloc _).alloc _).then hc7)⟩
     have HE:=hid (show (.ok ((⟨1,[],ts,[l]⟩:Syn.St),j'+1))=RR from by rw [←HC6.out,show ([59]:List Nat)=bl ⟨#[59]⟩ from rfl,hr];rfl)
     obtain ⟨r0,r1,r2,r3,f0,f1,f2,f3⟩:=four_cells (hc7.heap (heap_new _ _ (heap_new _ _ R6.out)) hne)
     obtain ⟨s0,s1',s2,s3,_,_,_,_⟩:=four_cells (hc7.heap HSN.out (by omega))
     have HEND:=hid (sok_end (m:=m) (st:=⟨1,[],ts,[l]⟩) (w:=w) (w3:=w7) (((C6.out.alloc _).alloc _).then hc7) P2.out (P1.out.chg hc7 (fun k e=>by subst e;exact hbg)) hbg hzg STR6.out EX.out hp7 hne hlb (.int .i64 1) (.string ⟨#[]⟩) (.slice q 1 c) (.slice (some ⟨w6.heap.size,0,none⟩) 1 1))
     clear hc7 hr hp7
     go_wp2
     exact bodyPost_ret (v:=.agg #[.int .i64 1,.string ⟨#[]⟩,.slice q 1 c,.slice (some ⟨w6.heap.size,0,none⟩) 1 1]) (by simp [results,Tryz.results173,go_sem,r0,r1,r2,r3]) rfl (ret_ok HE.out.symm HEND.out.1 HEND.out.2)
end
def start (T : Nat → Option Syn.K) (i : Nat) : Bool := Syn.is T i (Syn.tx "if") || Syn.is T i (Syn.tx "while") || Syn.is T i (Syn.tx "send") || Syn.named T i
def stF (T:Nat→Option Syn.K) (s:Nat→Syn.R (List Syn.St)):Nat→List Syn.St→Nat→Syn.R (List Syn.St)
 | 0,_,i=>.error (99,i)
 | f+1,l,i=>if start T i then (s i).on fun x j=>stF T s f (l++x) j else .ok (l,i)
theorem not_start {T : Nat → Option Syn.K} {i : Nat} {fin : List Nat} (h : Syn.is T i fin = true) (h1 : fin ≠ Syn.tx "if") (h2 : fin ≠ Syn.tx "while") (h3 : fin ≠ Syn.tx "send") : start T i = false := by
 have hn:Syn.named T i=false:=by
  cases hh:Syn.named T i with
  | false=>rfl
  | true=>rw [Syn.not_is hh] at h;cases h
 have key:∀s,fin≠s→Syn.is T i s=false:=fun s hs=>by
  cases hh:Syn.is T i s with
  | false=>rfl
  | true=>exact (hs (is_uniq h hh)).elim
 unfold start
 rw [key _ h1,key _ h2,key _ h3,hn];rfl
theorem stmtsF_split {T : Nat → Option Syn.K} {s : Nat → Syn.R (List Syn.St)} {fin : List Nat} (h1 : fin ≠ Syn.tx "if") (h2 : fin ≠ Syn.tx "while") (h3 : fin ≠ Syn.tx "send") (hs : ∀ i, start T i = false → s i = .error (50, i)) :
 ∀(f:Nat) (l:List Syn.St) (i:Nat),Syn.stmtsF T s fin f l i=(stF T s f l i).on fun l j=>(Syn.want T j fin).on fun _ j=>.ok (l,j)
 | 0,_,_=>rfl
 | f+1,l,i=>by
  rw [Syn.stmtsF,stF]
  by_cases hf:Syn.is T i fin=true
  ·rw [if_pos hf,not_start hf h1 h2 h3,if_neg (by simp)]
   show _=(Syn.want T i fin).on fun _ j=>.ok (l,j)
   rw [show Syn.want T i fin=.ok ((),i+1) from if_pos hf];rfl
  ·rw [if_neg hf]
   cases hst:start T i with
   | false =>
    rw [if_neg (by simp),hs i hst]
    show _=(Syn.want T i fin).on fun _ j=>.ok (l,j)
    rw [show Syn.want T i fin=.error (50,i) from if_neg hf];rfl
   | true =>
    rw [if_pos rfl]
    cases s i with
    | error q=>rfl
    | ok q=>exact stmtsF_split h1 h2 h3 hs f _ _
theorem stmtOf_no {T:Nat→Option Syn.K} {F:Nat} {s:Option (Nat→Syn.R (List Syn.St))} {i:Nat} (h:start T i=false):Syn.stmtOf T F s i=.error (50,i):=by
 unfold start at h
 simp only [Bool.or_eq_false_iff] at h
 obtain ⟨⟨⟨h1,h2⟩,h3⟩,h4⟩:=h
 unfold Syn.stmtOf
 rw [h1,h2,h3,if_neg (by simp),if_neg (by simp),if_neg (by simp),plain_eq]
 unfold oneP namedP
 have:Syn.name T i=.error (50,i):=by
  unfold Syn.named at h4
  unfold Syn.name
  cases hT:T i with
  | none=>rfl
  | some k=>rw [hT] at h4;exact if_neg (by simpa using h4)
 rw [this];rfl
theorem infoSt:∃i,Tryz.prog.info? 47=some i∧i.zero=some (.agg #[.int .i64 0,.string ⟨#[]⟩,.slice none 0 0,.slice none 0 0])∧i.size=4∧i.bytes=72:=by
 have h:(Tryz.prog.info? 47).map (fun i=>(i.zero,i.size,i.bytes))=some (some (.agg #[.int .i64 0,.string ⟨#[]⟩,.slice none 0 0,.slice none 0 0]),4,72):=by kernel_rfl
 cases hi:Tryz.prog.info? 47 with
 | none=>rw [hi] at h;cases h
 | some i =>
  rw [hi] at h
  simp only [Option.map_some,Option.some.injEq,Prod.mk.injEq] at h
  obtain ⟨e1,e2,e3⟩:=h
  exact ⟨i,rfl,e1,e2,e3⟩
def BR (w:World) (m:Mem) (v:Value) (l:List Syn.St):Prop:=∃cs,w.ownsRow 0 47 4 v l.length cs∧Enc (StM m) cs l
def BOk (ys:List It) (len bp bw:Nat) (vp:Value) (m:Mem) (st0:List Syn.St) (v:Value) (w:World) (l:List Syn.St) (j:Nat) (e:Ending) (w':World):Prop :=
 ∃v' m',e=.returned v'∧m.More w m'∧Has w' m'∧m' bp=none∧BR w' m' v' (st0++l)∧(∀k,v'.ownBlock=some k→m' k=none)∧Ob v w v'∧PS ys len bp bw vp w' j
def RdS (ys:List It) (len bp bw:Nat) (vp:Value) (K:FuncId) (args:Value→Array Value) (r:Nat→Syn.R (List Syn.St)):Prop :=
 ∀w i v st0 m,PS ys len bp bw vp w i→Has w m→m bp=none→BR w m v st0→(∀k,v.ownBlock=some k→m k=none)→st0.length+(ys.length - i)≤131072 →
  Calls Tryz.prog K (args v) w (Ret ys len (TS bp v) w (r i) (BOk ys len bp bw vp m st0 v w))
section
variable {ys:List It} {len bp bw i:Nat} {vp:Value} {w:World}
theorem br_shape {m:Mem} {v:Value} {l:List Syn.St} (h:BR w m v l):∃q c,v=.slice q l.length c:=by
 obtain ⟨cs,h1,_⟩:=h
 exact own_shape h1
theorem br_not (h:PS ys len bp bw vp w i) {m:Mem} {v:Value} {l:List Syn.St} (hr:BR w m v l):v.ownBlock≠some bp∧v.ownBlock≠some bw:=by
 obtain ⟨cs,hr,_⟩:=hr
 obtain ⟨⟨c,a1,_⟩,⟨arr,b1,_⟩,_,_⟩:=h
 constructor
 ·intro e
  obtain ⟨cur,h2⟩:=own_type hr e
  have:=a1.symm.trans h2
  simp at this
 ·intro e
  obtain ⟨cur,h2⟩:=own_type hr e
  have:=b1.symm.trans h2
  simp at this
theorem br_le {m m':Mem} {v:Value} {l:List Syn.St} (h:BR w m v l) (hm:m.le m'):BR w m' v l:=by
 obtain ⟨cs,h1,h2⟩:=h
 exact ⟨cs,h1,h2.mono fun _ _ h=>h.le hm⟩
theorem br_chg {m:Mem} {v:Value} {l:List Syn.St} (hr:BR w m v l) {w':World} {S:Nat→Prop} (hc:Chg S w w') (hn:∀k,v.ownBlock=some k→¬S k):BR w' m v l:=by
 obtain ⟨cs,h1,h2⟩:=hr
 exact ⟨cs,own_chg h1 hc hn,h2⟩
theorem br_next (h:PS ys len bp bw vp w i) {m:Mem} {v:Value} {l:List Syn.St} (hr:BR w m v l) {w':World} (hc:Chg (fun k=>k=bp) w w'):BR w' m v l :=
 br_chg hr hc (fun k hk e=>by subst e;exact (br_not h hr).1 hk)
theorem br_alloc {m:Mem} {v:Value} {l:List Syn.St} (hr:BR w m v l) (o:Obj):BR (w.alloc o) m v l:=br_chg hr ((Chg.refl (fun _=>False) w).alloc o) (fun _ _ e=>e)
theorem br_app (h:PS ys len bp bw vp w i) {m:Mem} {v v':Value} {l:List Syn.St} {cs:List Value} (hr:w.ownsRow 0 47 4 v l.length cs) (he:Enc (StM m) cs l) (hH:Has w m) (hv:∀k,v.ownBlock=some k→m k=none) {st:Syn.St} {cells:List Value} (hst:StM m cells st) {w9:World} (T:TypeId)
 (hown:w9.ownsRow 0 47 4 v' (l.length+1) (cs++cells)) (hg:(w.alloc (.cells cells.toArray T)).grownBy w9 v.ownBlock) (hat:v'.ownBlock=v.ownBlock∨v'.ownBlock=some (w.heap.size+1)) :
 BR w9 m v' (l++[st])∧Has w9 m∧(∀k,v'.ownBlock=some k→m k=none)∧Ob v w v'∧PS ys len bp bw vp w9 i∧Chg (fun k=>v.ownBlock=some k) w w9:=by
 have hC:Chg (fun k=>v.ownBlock=some k) w w9:=((Chg.refl _ w).alloc _).then (grown_chg hg (fun k hk=>.inl hk))
 have hn:=br_not h (m:=m) ⟨cs,hr,he⟩
 refine ⟨⟨cs++cells,by rw [List.length_append,List.length_singleton];exact hown,he.app (Enc.one hst)⟩,hH.chg hC (fun k e=>hv k e),fun k hk=>?_,fun k hk=>?_,h.chg hC hn.1 hn.2,hC⟩
 ·rcases hat with e|e
  ·rw [e] at hk;exact hv k hk
  ·rw [e] at hk
   obtain rfl:w.heap.size+1=k:=by simpa using hk
   exact hH.lt (by omega)
 ·rcases hat with e|e
  ·rw [e] at hk;exact .inl hk
  ·rw [e] at hk
   obtain rfl:w.heap.size+1=k:=by simpa using hk
   exact .inr (by omega)
theorem st_one (k:Int) (s:ByteArray) (q1 q2:Option Addr) (n1 c1 n2 c2:Nat):∀u∈[Value.int .i64 k,.string s,.slice q1 n1 c1,.slice q2 n2 c2],u.oneCell'=true:=by
 intro u hu
 rcases List.mem_cons.1 hu with rfl|hu
 ·rfl
 rcases List.mem_cons.1 hu with rfl|hu
 ·rfl
 rcases List.mem_cons.1 hu with rfl|hu
 ·rfl
 rcases List.mem_cons.1 hu with rfl|hu
 ·rfl
 ·exact absurd hu (by simp)
theorem mk_123:Mk (bl ⟨#[123]⟩)=true:=by decide
theorem mk_125:Mk (bl ⟨#[125]⟩)=true:=by decide
theorem ts_of {v:Value} {a b:World} (h:Chg (fun k=>k=bp) a b):Chg (TS bp v) a b:=h.mono fun _ e=>.inl (.inl e)
set_option maxRecDepth 100000 in
theorem block_deep (hw:Ws ys) (h:PS ys len bp bw vp w i) (v:Value) (ok:List Syn.St→Nat→Ending→World→Prop) :
 Calls Tryz.prog 181 #[.pointer (some ⟨bp,0,none⟩),v,.int .i64 12] w (Ret ys len (TS bp v) w (Syn.block (Tk ys) (ys.length+1) none i) ok):=by
 unfold Syn.block
 have h1:=is_ps h ⟨#[123]⟩
 rw [eq_text,is_text hw len i mk_123,show bl ⟨#[123]⟩=[123] from rfl] at h1
 cases hx:Syn.is (Tk ys) i [123] with
 | true =>
  rw [hx] at h1
  clear hx
  go_enter Tryz.func181,Tryz.ntmps181
  go_wp2_with (first|(go_at_call 139;refine h1.mono ?_;rintro e w' ⟨rfl,rfl⟩)|(go_at_call 138;refine (fail_ps h 51 (TS bp v)).mono ?_;rintro e w' ⟨rfl,hc⟩))
  exact ⟨rfl,hc,rfl⟩
 | false =>
  rw [hx] at h1
  have h2:=want_no h ⟨#[123]⟩ (by rw [eq_text,is_text hw len i mk_123];exact hx) (TS bp v)
  clear hx
  go_enter Tryz.func181,Tryz.ntmps181
  go_wp2_with (first|(go_at_call 139;refine h1.mono ?_;rintro e w' ⟨rfl,rfl⟩)|(go_at_call 143;refine h2.mono ?_;rintro e w' ⟨rfl,hc⟩))
  exact ⟨rfl,hc,rfl⟩
end
def CntS (p:Nat→Syn.R (List Syn.St)):Prop:=∀i l j,p i=.ok (l,j)→l.length+i≤j
section
variable {T:Nat→Option Syn.K} {F:Nat}
def branchP (T:Nat→Option Syn.K) (F:Nat) (s:Option (Nat→Syn.R (List Syn.St))) (i:Nat):Syn.R (List Syn.St) :=
 (Syn.expr T F i).on fun e i=>(Syn.block T F s i).on fun a i =>
  if Syn.is T i (Syn.tx "else") then (Syn.block T F s (i + 1)).on fun b i => .ok (⟨5, [], [], [e]⟩ :: a ++ ⟨6, [], [], []⟩ :: b ++ [⟨8, [], [], []⟩], i)
  else .ok (⟨5,[],[],[e]⟩::a++[⟨8,[],[],[]⟩],i)
def loopP (T:Nat→Option Syn.K) (F:Nat) (s:Option (Nat→Syn.R (List Syn.St))) (i:Nat):Syn.R (List Syn.St) :=
 (Syn.expr T F i).on fun e i=>(Syn.block T F s i).on fun a i=>.ok (⟨7,[],[],[e]⟩::a++[⟨8,[],[],[]⟩],i)
theorem stmtOf_eq (s:Option (Nat→Syn.R (List Syn.St))) (i:Nat):Syn.stmtOf T F s i =
 if Syn.is T i (Syn.tx "if") then branchP T F s (i + 1) else if Syn.is T i (Syn.tx "while") then loopP T F s (i + 1) else if Syn.is T i (Syn.tx "send") then oneP (sendP T F (i + 1)) else oneP (namedP T F i) := by
 unfold Syn.stmtOf
 rw [plain_eq]
 congr 3
 unfold oneP sendP
 simp only [on_on]
 rfl
theorem stF_cnt {s:Nat→Syn.R (List Syn.St)} (hs:CntS s):∀(f:Nat) (l:List Syn.St) (i:Nat) (l':List Syn.St) (j:Nat),stF T s f l i=.ok (l',j)→l'.length+i≤l.length+j
 | 0,_,_,_,_,h=>by cases h
 | f+1,l,i,l',j,h=>by
  rw [stF] at h
  split at h
  ·obtain ⟨x,i2,h1,h2⟩:=Syn.R.on_ok h
   have a:=hs _ _ _ h1
   have b:=stF_cnt hs f _ _ _ _ h2
   rw [List.length_append] at b
   omega
  ·injection h with h;injection h with h1 h2
   subst h1;subst h2;exact Nat.le_refl _
theorem stF_fit {n:Nat} (hN:∀i,n≤i→T i=none) {s:Nat→Syn.R (List Syn.St)} (hs:∀i,i≤n→Syn.Fit n (s i)) (hg:Syn.GoodS s):∀(f:Nat) (l:List Syn.St) (i:Nat),i≤n→n<f+i→Syn.Fit n (stF T s f l i)
 | 0,_,_,h,hf=>by omega
 | f+1,l,i,h,hf=>by
  rw [stF]
  refine Syn.Fit.sw (fun _=>(hs i h).on fun x j hx hj=>stF_fit hN hs hg f _ j hj ?_) (fun _=>Syn.Fit.ok _ h)
  have:=(hg _ _ _ hx).2.2
  omega
theorem block_cnt {s:Option (Nat→Syn.R (List Syn.St))} (hs:∀p,s=some p→CntS p) (hn:∀p,s=some p→∀i,start T i=false→p i=.error (50,i)) {i j:Nat} {l:List Syn.St} (h:Syn.block T F s i=.ok (l,j)):l.length+i+2≤j:=by
 unfold Syn.block at h
 split at h
 ·split at h <;> cases h
 ·rename_i p
  obtain ⟨_,i1,h1,h⟩:=Syn.R.on_ok h
  have e1:=(Syn.want_ok h1).2
  rw [stmtsF_split (by decide) (by decide) (by decide) (hn p rfl)] at h
  obtain ⟨l1,i2,h2,h⟩:=Syn.R.on_ok h
  obtain ⟨_,i3,h3,h⟩:=Syn.R.on_ok h
  injection h with h;injection h with h4 h5
  subst h4;subst h5
  have a:=stF_cnt (hs p rfl) _ _ _ _ _ h2
  have e3:=(Syn.want_ok h3).2
  simp only [List.length_nil] at a
  omega
theorem branch_cnt {s:Option (Nat→Syn.R (List Syn.St))} (hs:∀p,s=some p→CntS p) (hn:∀p,s=some p→∀i,start T i=false→p i=.error (50,i)):CntS (branchP T F s):=by
 intro i l j h
 unfold branchP at h
 obtain ⟨e,i1,h1,h⟩:=Syn.R.on_ok h
 obtain ⟨a,i2,h2,h⟩:=Syn.R.on_ok h
 have g1:=(Syn.expr_good 12 _ _ _ h1).2
 have g2:=block_cnt hs hn h2
 split at h
 ·obtain ⟨b,i3,h3,h⟩:=Syn.R.on_ok h
  have g3:=block_cnt hs hn h3
  injection h with h;injection h with h4 h5
  subst h4;subst h5
  simp only [List.length_append,List.length_cons,List.length_nil];omega
 ·injection h with h;injection h with h4 h5
  subst h4;subst h5
  simp only [List.length_append,List.length_cons,List.length_nil];omega
theorem loopP_cnt {s:Option (Nat→Syn.R (List Syn.St))} (hs:∀p,s=some p→CntS p) (hn:∀p,s=some p→∀i,start T i=false→p i=.error (50,i)):CntS (loopP T F s):=by
 intro i l j h
 unfold loopP at h
 obtain ⟨e,i1,h1,h⟩:=Syn.R.on_ok h
 obtain ⟨a,i2,h2,h⟩:=Syn.R.on_ok h
 have g1:=(Syn.expr_good 12 _ _ _ h1).2
 have g2:=block_cnt hs hn h2
 injection h with h;injection h with h4 h5
 subst h4;subst h5
 simp only [List.length_append,List.length_cons,List.length_nil];omega
theorem one_cnt {r:Syn.R Syn.St} {l:List Syn.St} {j:Nat} (h:oneP r=.ok (l,j)):l.length=1:=by
 unfold oneP at h
 obtain ⟨x,i1,h1,h⟩:=Syn.R.on_ok h
 injection h with h;injection h with h4 h5
 subst h4;rfl
theorem stmtOf_cnt {s:Option (Nat→Syn.R (List Syn.St))} (hs:∀p,s=some p→CntS p) (hn:∀p,s=some p→∀i,start T i=false→p i=.error (50,i)) (hg:∀p,s=some p→Syn.GoodS p):CntS (Syn.stmtOf T F s):=by
 intro i l j h
 have hlt:=(Syn.stmtOf_good hg _ _ _ h).2.2
 rw [stmtOf_eq] at h
 split at h
 ·have:=branch_cnt hs hn _ _ _ h;omega
 ·split at h
  ·have:=loopP_cnt hs hn _ _ _ h;omega
  ·split at h
   ·have:=one_cnt h;omega
   ·have:=one_cnt h;omega
theorem stmtD_no:∀(d i:Nat),start T i=false→Syn.stmtD T F d i=.error (50,i)
 | 0,_,h=>stmtOf_no h
 | _+1,_,h=>stmtOf_no h
theorem stmtD_cnt:∀d,CntS (Syn.stmtD T F d)
 | 0=>stmtOf_cnt (fun p h=>by cases h) (fun p h=>by cases h) (fun p h=>by cases h)
 | d+1=>stmtOf_cnt (s:=some (Syn.stmtD T F d)) (fun p h=>by cases h;exact stmtD_cnt d) (fun p h=>by cases h;exact stmtD_no d) (fun p h=>by cases h;exact Syn.stmt_good d)
end
def SOkD (ys:List It) (len bp bw:Nat) (vp:Value) (d:Nat) (s:Option (Nat→Syn.R (List Syn.St))):Prop :=
 (d=12∧s=none)∨(d<12∧∃p,s=some p∧CntS p∧(∀i,i≤ys.length→Syn.Fit ys.length (p i))∧Syn.GoodS p∧(∀i,start (Tk ys) i=false→p i=.error (50,i)) ∧
  RdS ys len bp bw vp 150 (fun v=>#[.pointer (some ⟨bp,0,none⟩),v,.int .i64 ((d:Int)+1)]) (fun i=>stF (Tk ys) p (ys.length+1) [] i))
section
variable {ys:List It} {len bp bw d:Nat} {vp:Value} {s:Option (Nat→Syn.R (List Syn.St))} (h:SOkD ys len bp bw vp d s)
include h
theorem SOkD.cnt:∀p,s=some p→CntS p:=by
 rcases h with ⟨_,rfl⟩|⟨_,r,rfl,h,_⟩
 ·intro p hp;cases hp
 ·intro p hp;cases hp;exact h
theorem SOkD.fit:∀p,s=some p→∀i,i≤ys.length→Syn.Fit ys.length (p i):=by
 rcases h with ⟨_,rfl⟩|⟨_,r,rfl,_,h,_⟩
 ·intro p hp;cases hp
 ·intro p hp;cases hp;exact h
theorem SOkD.good:∀p,s=some p→Syn.GoodS p:=by
 rcases h with ⟨_,rfl⟩|⟨_,r,rfl,_,_,h,_⟩
 ·intro p hp;cases hp
 ·intro p hp;cases hp;exact h
theorem SOkD.no:∀p,s=some p→∀i,start (Tk ys) i=false→p i=.error (50,i):=by
 rcases h with ⟨_,rfl⟩|⟨_,r,rfl,_,_,_,h,_⟩
 ·intro p hp;cases hp
 ·intro p hp;cases hp;exact h
end
section
variable {ys:List It} {len bp bw i:Nat} {vp:Value} {w:World}
set_option maxRecDepth 100000 in
set_option maxHeartbeats 1000000 in
theorem block_any (hw:Ws ys) {d:Nat} {s:Option (Nat→Syn.R (List Syn.St))} (hs:SOkD ys len bp bw vp d s) :
 RdS ys len bp bw vp 181 (fun v=>#[.pointer (some ⟨bp,0,none⟩),v,.int .i64 (d:Int)]) (Syn.block (Tk ys) (ys.length+1) s):=by
 intro w i v st0 m h hm hbm hb hv hcount
 rcases hs with ⟨rfl,rfl⟩|⟨hd,p,rfl,hcnt,hfit,hgood,hno,hR⟩
 ·exact block_deep hw h v _
 obtain ⟨qv,cv,rfl⟩:=br_shape hb
 have h1:=is_ps h ⟨#[123]⟩
 rw [eq_text,is_text hw len i mk_123,show bl ⟨#[123]⟩=[123] from rfl] at h1
 obtain ⟨RR,hRR⟩:∃RR,Syn.block (Tk ys) (ys.length+1) (some p) i=RR:=⟨_,rfl⟩
 show Calls _ _ _ _ (Ret ys len _ w (Syn.block (Tk ys) (ys.length+1) (some p) i) _)
 rw [hRR]
 have hR0:(Syn.want (Tk ys) i [123]).on (fun _ i=>(stF (Tk ys) p (ys.length+1) [] i).on fun l j=>(Syn.want (Tk ys) j [125]).on fun _ j=>.ok (l,j))=RR:=by
  rw [←hRR]
  unfold Syn.block
  congr 1
  funext _ i
  rw [stmtsF_split (by decide) (by decide) (by decide) hno]
 clear hRR
 have hne:((d:Int) == 12)=false:=by simp;omega
 cases hx:Syn.is (Tk ys) i [123] with
 | false =>
  rw [hx] at h1
  have h2:=want_no h ⟨#[123]⟩ (by rw [eq_text,is_text hw len i mk_123];exact hx) (TS bp (.slice qv st0.length cv))
  have HE:=hid (show RR=.error (50,i) from by rw [←hR0,show Syn.want (Tk ys) i [123]=.error (50,i) from if_neg (by rw [hx];simp)];rfl)
  clear hx hR0
  go_enter Tryz.func181,Tryz.ntmps181
  go_wp2_with (first|(go_at_call 139;refine h1.mono ?_;rintro e w' ⟨rfl,rfl⟩)|(go_at_call 143;refine h2.mono ?_;rintro e w' ⟨rfl,hc⟩))
  exact ⟨rfl,ret_err HE.out hc⟩
 | true =>
  rw [hx] at h1
  have hlt:=lt_of_is hx
  have h2:=want_yes h hlt ⟨#[123]⟩ (by rw [eq_text,is_text hw len i mk_123];exact hx)
  have HR0:=hid (show (stF (Tk ys) p (ys.length+1) [] (i+1)).on (fun l j=>(Syn.want (Tk ys) j [125]).on fun _ j=>.ok (l,j))=RR from by rw [←hR0,show Syn.want (Tk ys) i [123]=.ok ((),i+1) from if_pos hx];rfl)
  have HRd:=hid hR
  have Hm:=hid hm
  have HB:=hid hb
  have HV:=hid hv
  have HP:=hid h
  clear hx hR0 hR hm hb hv h
  go_enter Tryz.func181,Tryz.ntmps181
  go_wp2_with (first|(go_at_call 139;refine h1.mono ?_;rintro e w' ⟨rfl,rfl⟩)|(go_at_call 143;refine h2.mono ?_;rintro e w1 ⟨rfl,hc1,hp1⟩))
  have h3:=ret_cases (HRd.out w1 (i+1) _ st0 m hp1 (Hm.out.chg hc1 (fun k e=>by subst e;exact hbm)) hbm (br_next HP.out HB.out hc1) HV.out (by omega))
  have C1:=hid (ts_of (v:=.slice qv st0.length cv) hc1)
  have hs1:=hc1.size
  clear hc1 hp1 h2 h1
  go_at_call 150
  refine h3.mono ?_
  rintro e w2 ⟨hc2,⟨er,k,hr,rfl⟩|⟨l,j,hr,v2,m2,rfl,hmo,hH,hb2,hB2,hv2,ho2,hp2⟩⟩
  ·exact ⟨rfl,ret_err (by rw [←HR0.out,show stF (Tk ys) p (ys.length+1) [] (i+1)=_ from hr];rfl) (C1.out.then hc2)⟩
  obtain ⟨q2,c2,rfl⟩:=br_shape hB2
  have C2:=hid (C1.out.then hc2)
  have HR2:=hid (show (Syn.want (Tk ys) j [125]).on (fun _ j=>.ok (l,j))=RR from by rw [←HR0.out,show stF (Tk ys) p (ys.length+1) [] (i+1)=_ from hr];rfl)
  have h4:=want_at hw hp2 ⟨#[125]⟩ mk_125
  have HH:=hid hH
  have HB2:=hid hB2
  have HV2:=hid hv2
  have MO:=hid (hmo.from (w:=w) hs1)
  have HO:=hid (show Ob (.slice qv st0.length cv) w (.slice q2 (st0++l).length c2) from fun k hk=>by rcases ho2 k hk with q|q <;> first|exact .inl q|exact .inr (by omega))
  have HP2:=hid hp2
  clear hc2 hr h3 hmo hH hB2 hv2 ho2 hp2
  generalize hLn:(st0++l).length=Ln at *
  have HLn:=hid hLn
  clear hLn
  go_wp2_with fail
  go_at_call 143
  refine h4.mono ?_
  rintro e w3 ⟨hc3,⟨hr,rfl⟩|⟨hr,rfl,hp3⟩⟩
  ·exact ⟨rfl,ret_err (by rw [←HR2.out,show ([125]:List Nat)=bl ⟨#[125]⟩ from rfl,hr];rfl) (C2.out.then (ts_of hc3))⟩
  have HEND:=hid (show Ret ys len (TS bp (.slice qv st0.length cv)) w RR (BOk ys len bp bw vp m st0 (.slice qv st0.length cv) w) (.returned (.slice q2 Ln c2)) w3 from
   ret_ok (x:=l) (j:=j+1) (by rw [←HR2.out,show ([125]:List Nat)=bl ⟨#[125]⟩ from rfl,hr];rfl) (C2.out.then (ts_of hc3)) ⟨_,m2,rfl,MO.out,HH.out.chg hc3 (fun k e=>by subst e;exact hb2),hb2,br_next HP2.out HB2.out hc3,HV2.out,HO.out,hp3⟩)
  clear hc3 hr hp3 h4
  go_wp2
  go_ret
  exact HEND.out
end
end Go.Proofs.YtlpdjfimefjmcaaGreatDoor.Q
