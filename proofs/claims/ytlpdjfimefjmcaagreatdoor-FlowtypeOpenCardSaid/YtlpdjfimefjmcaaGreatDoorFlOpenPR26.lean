/- level, within and expr of the parser: expressions whole. Expressions of the parser: within, at each depth, and expr. Lists in memory that is handed out; the parser's list, over any item. Expressions with commas: the parser's exprs. exprs of the parser. -/
import Derived.Test.YtlpdjfimefjmcaaGreatDoorFlOpenPR25
import Derived.Deep.RegionHeldLaw
import Derived.Deep.RegionLaw
open Go.Lib (hid)
namespace Go.Proofs.YtlpdjfimefjmcaaGreatDoor.Q
open Go Go.RowKit Go.Proofs.Mm
def BX (b1 b2 bp d:Nat) (W:World):Prop:=W.heap[b1]?=some (.cells #[.pointer (some ⟨bp,0,none⟩)] 119 (0,0))∧W.heap[b2]?=some (.cells #[.int .i64 (d:Int)] 3 (0,0))
section
variable {ys:List It} {len bp bw i:Nat} {vp:Value} {w:World}
theorem ts_not (h:PS ys len bp bw vp w i) {v:Value} {l:List Syn.Tm} (hr:TR w v l) {k:Nat} {arr:Array Value} {E:TypeId} (hk:w.heap[k]?=some (.cells arr E (0,0))) (h1:E≠165) (h2:E≠140):¬TS bp v k:=by
 rintro (e|e)
 ·subst e
  obtain ⟨⟨c,a1,_⟩,_⟩:=h
  rw [hk] at a1
  simp only [Option.some.injEq,Obj.cells.injEq] at a1
  exact h1 a1.2.1
 ·obtain ⟨cur,hc⟩:=own_type hr e
  rw [hk] at hc
  simp only [Option.some.injEq,Obj.cells.injEq] at hc
  exact h2 hc.2.1
theorem BX.chg {b1 b2 d:Nat} (hx:BX b1 b2 bp d w) (h:PS ys len bp bw vp w i) {v:Value} {l:List Syn.Tm} (hr:TR w v l) {w':World} (hc:Chg (TS bp v) w w'):BX b1 b2 bp d w' :=
 ⟨hc.heap hx.1 (ts_not h hr hx.1 (by decide) (by decide)),hc.heap hx.2 (ts_not h hr hx.2 (by decide) (by decide))⟩
set_option maxRecDepth 100000 in
theorem within1_any {b1 b2 d:Nat} {r:Nat→Syn.R (List Syn.Tm)} (hR:RdT ys len bp bw vp 196 (fun v=>#[.pointer (some ⟨bp,0,none⟩),v,.int .i64 (d:Int)]) (fun _=>True) r) :
 RdT ys len bp bw vp 195 (fun v=>#[v,.pointer (some ⟨b1,0,none⟩),.pointer (some ⟨b2,0,none⟩)]) (BX b1 b2 bp d) r:=by
 intro w i v l0 hx h hr hb
 obtain ⟨qv,cv,rfl⟩:=own_shape hr
 have hcall:=hR w i _ l0 trivial h hr hb
 have hc1:=cell_of (j:=0) hx.1 rfl
 have hc2:=cell_of (j:=0) hx.2 rfl
 clear hR
 cases hri:r i with
 | error q =>
  rw [hri] at hcall
  have HRI:=hid hri
  clear hri
  go_enter Tryz.func195,Tryz.ntmps195
  go_wp2_with (go_at_call 196;refine hcall.mono ?_;rintro e w1 ⟨hc,rfl⟩)
  exact ⟨rfl,hc,rfl⟩
 | ok q =>
  rw [hri] at hcall
  have HRI:=hid hri
  clear hri
  go_enter Tryz.func195,Tryz.ntmps195
  go_wp2_with (go_at_call 196;refine hcall.mono ?_;rintro e w1 ⟨hc,v',rfl,a1,a2,a3⟩)
  go_ret
  exact ⟨hc,v',rfl,a1,a2,a3⟩
set_option maxRecDepth 100000 in
theorem level_six {b1 b2 d:Nat} {r:Nat→Syn.R (List Syn.Tm)} (hR:RdT ys len bp bw vp 195 (fun v=>#[v,.pointer (some ⟨b1,0,none⟩),.pointer (some ⟨b2,0,none⟩)]) (BX b1 b2 bp d) r) :
 RdT ys len bp bw vp 194 (fun v=>#[.pointer (some ⟨bp,0,none⟩),.int .i64 6,v,.func (.func 195) #[] #[.pointer (some ⟨b1,0,none⟩),.pointer (some ⟨b2,0,none⟩)]]) (BX b1 b2 bp d) r:=by
 intro w i v l0 hx h hr hb
 obtain ⟨qv,cv,rfl⟩:=own_shape hr
 have hcall:=hR w i _ l0 hx h hr hb
 clear hR
 cases hri:r i with
 | error q =>
  rw [hri] at hcall
  have HRI:=hid hri
  clear hri
  go_enter Tryz.func194,Tryz.ntmps194
  go_wp2_with (go_at_call 195;refine hcall.mono ?_;rintro e w1 ⟨hc,rfl⟩)
  exact ⟨rfl,hc,rfl⟩
 | ok q =>
  rw [hri] at hcall
  have HRI:=hid hri
  clear hri
  go_enter Tryz.func194,Tryz.ntmps194
  go_wp2_with (go_at_call 195;refine hcall.mono ?_;rintro e w1 ⟨hc,v',rfl,a1,a2,a3⟩)
  go_ret
  exact ⟨hc,v',rfl,a1,a2,a3⟩
def Ob (v:Value) (w:World) (v':Value):Prop:=∀k,v'.ownBlock=some k→v.ownBlock=some k∨w.heap.size≤k
theorem Ob.ts {v v':Value} {w:World} (h:Ob v w v') {bp:Nat}:∀k,TS bp v' k→TS bp v k∨w.heap.size≤k:=by
 rintro k (e|e)
 ·exact .inl (.inl e)
 ·rcases h k e with q|q
  ·exact .inl (.inr q)
  ·exact .inr q
theorem Ob.trans {v v' v'':Value} {w w':World} (h:Ob v w v') (h':Ob v' w' v'') (hw:w.heap.size≤w'.heap.size):Ob v w v'':=fun k hk=>by
 rcases h' k hk with q|q
 ·exact h k q
 ·exact .inr (by omega)
set_option maxRecDepth 100000 in
set_option maxHeartbeats 2000000 in
theorem level_next (hw:Ws ys) {b1 b2 d:Nat} {p:Nat→Syn.R (List Syn.Tm)} (hcnt:Syn.Cnt p) (hfit:Syn.FitP ys.length p) (l:Nat) (hl:l≤5)
 (hR:RdT ys len bp bw vp 194 (fun v=>#[.pointer (some ⟨bp,0,none⟩),.int .i64 ((l:Int)+1),v,.func (.func 195) #[] #[.pointer (some ⟨b1,0,none⟩),.pointer (some ⟨b2,0,none⟩)]]) (BX b1 b2 bp d) p) :
 RdT ys len bp bw vp 194 (fun v=>#[.pointer (some ⟨bp,0,none⟩),.int .i64 (l:Int),v,.func (.func 195) #[] #[.pointer (some ⟨b1,0,none⟩),.pointer (some ⟨b2,0,none⟩)]]) (BX b1 b2 bp d)
  (fun i=>(p i).on fun l1 j=>Syn.loopF (Tk ys) p (Syn.marks l) (ys.length+1) l1 j):=by
 intro w i v l0 hx h hr hb
 obtain ⟨qv,cv,rfl⟩:=own_shape hr
 have hcall:=hR w i _ l0 hx h hr hb
 have hle:=h.le
 have HX:=hid hx
 have HH:=hid h
 have HTR:=hid hr
 have HR:=hid hR
 obtain ⟨j0,hj0,hy0,hy1,hy2⟩:=infoTm
 show Calls _ _ _ _ (Ret ys len _ w ((p i).on _) _)
 cases hri:p i with
 | error q =>
  rw [hri] at hcall
  have HRI:=hid hri
  clear hri hR hx h hr
  go_enter Tryz.func194,Tryz.ntmps194
  go_wp2_with (go_at_call 194;refine hcall.mono ?_;rintro e w1 ⟨hc,rfl⟩)
  exact ⟨rfl,hc,rfl⟩
 | ok q =>
  obtain ⟨l1,i1⟩:=q
  rw [hri] at hcall
  rw [on_ok']
  have hi1:i1≤ys.length:=(hfit i hle).1.pos hri
  have hc1:=hcnt _ _ _ hri
  have hlf:=Syn.loop_fit (tk_nones ys) hfit (Syn.marks l) (ys.length+1) l1 i1 hi1 (by omega)
  obtain ⟨RR,hRR⟩:∃RR,Syn.loopF (Tk ys) p (Syn.marks l) (ys.length+1) l1 i1=RR:=⟨_,rfl⟩
  rw [hRR] at hlf ⊢
  have HRR:=hid hRR
  have HLF:=hid hlf
  clear hri hR hx h hr hRR hlf
  go_enter Tryz.func194,Tryz.ntmps194
  go_wp2_with (go_at_call 194;refine hcall.mono ?_;rintro e w1 ⟨hc,v1,rfl,a1,a2,a3⟩)
  obtain ⟨L1,hL1⟩:∃L,l0++l1=L:=⟨_,rfl⟩
  rw [hL1] at a1
  obtain ⟨q1,c1,rfl⟩:=own_shape a1
  have hb1:L1.length+(ys.length - i1)≤131072:=by rw [←hL1,List.length_append];omega
  have HL1:=hid hL1
  have A1:=hid a1
  have A3:=hid (show Ob (.slice qv l0.length cv) w (.slice q1 L1.length c1) from a3)
  clear hL1 hcall a1 a3
  go_loopw [2] (fun a wr=>∃f l2 L i2 q c,i2≤ys.length∧L.length+(ys.length - i2)≤131072∧Hid (L=l0++l2)∧Hid (Syn.loopF (Tk ys) p (Syn.marks l) f l2 i2=RR)∧a=.slice q L.length c∧Hid (TR wr (.slice q L.length c) L)∧PS ys len bp bw vp wr i2∧Chg (TS bp (.slice qv l0.length cv)) w wr∧Hid (Ob (.slice qv l0.length cv) w (.slice q L.length c)))
   (fun a _=>140000 - sLen a)
  case atStart=>exact ⟨ys.length+1,l1,L1,i1,q1,c1,hi1,hb1,hid HL1.out.symm,HRR,rfl,A1,a2,hc,A3⟩
  case round =>
   obtain ⟨f,l2,L,i2,q2,c2,hi2,hb2,HL,HF,rfl,HT,hp2,hC2,HO⟩:=hrel
   clear hc a2 hb1 hi1 hc1
   cases f with
   | zero=>exact (HLF.out.no99 (j:=i2) (by rw [←HF.out];rfl)).elim
   | succ f =>
    obtain ⟨n,hn,hcase⟩:=bysign2 (tk ys len i2).t
    have hbs:=bysign_ops _ _ _ hn wr
    have hop:=opOf_text hw len i2 (mk_marks l)
    obtain ⟨cc,h0,hfz,hcc,hcc2,r1,r2,r3,r4⟩:=hp2.raw
    have hm:0<ys.length+1 - i2:=by omega
    have HP2:=hid hp2
    clear hfz hcc hcc2 r1 r3 r4 hn
    have hend:Syn.opOf (Tk ys) (Syn.marks l) i2=0→RR=.ok (l2,i2):=fun e=>by
     rw [←HF.out,Syn.loopF,if_pos e]
    rcases hcase with ⟨rfl,hz⟩|⟨hn1,hn2,hz⟩
    ·have HRe:=hid (hend (by rw [hop,hz l]))
     rw [show bsV 18=.tuple #[.int .i64 0,.bool false] from rfl] at hbs
     clear hz hop hend hp2
     generalize ys.length+1 - i2=m at *
     generalize 4*i2=o at *
     go_wp2_with (go_at_call 200;refine hbs.mono ?_;rintro e w' ⟨rfl,rfl⟩)
     go_ret
     rw [HRe.out]
     exact ⟨hC2,_,rfl,by rw [←HL.out];exact HT.out,HP2.out,HO.out⟩
    ·have hlv:=levelOf_any n hn1 hn2
     rw [show bsV n=.tuple #[.int .i64 (n:Nat),.bool true] from if_neg (by omega)] at hbs
     have hz':=hz l hl
     clear hz
     by_cases hll:Syn.lvlOf n=l
     ·rw [if_pos hll] at hz'
      have hopn:Syn.opOf (Tk ys) (Syn.marks l) i2=n:=by rw [hop,hz']
      have hlt:i2<ys.length:=lt_of_op (by rw [hopn];omega)
      have hne:(((Syn.lvlOf n:Nat):Int) != (l:Int))=false:=by rw [hll];simp
      have hgo:(p (i2+1)).on (fun r j=>Syn.loopF (Tk ys) p (Syn.marks l) f (l2++r++[⟨5,n,[]⟩]) j)=RR:=by
       rw [←HF.out,Syn.loopF,if_neg (by rw [hopn];omega),hopn]
      have hTk:=hid (take_ps hp2 hlt)
      have HGO:=hid hgo
      have HZ:w.heap.size≤wr.heap.size:=hC2.size
      have HTN:=hid (fun w3 (hc3:Chg (fun k=>k=bp) wr w3) (hp3:PS ys len bp bw vp w3 (i2+1)) =>
       HR.out w3 (i2+1) _ L (HX.out.chg HH.out HTR.out (hC2.then (ts_le hc3))) hp3 (tr_next HP2.out HT.out hc3) (by omega))
      clear hz' hop hend hp2 hgo hopn
      generalize ys.length+1 - i2=m at *
      generalize 4*i2=o at *
      go_wp2_with (first|(go_at_call 200;refine hbs.mono ?_;rintro e w' ⟨rfl,rfl⟩)|(go_at_call 201;refine (hlv _).mono ?_;rintro e w' ⟨rfl,rfl⟩))
      go_at_call 140
      refine hTk.out.mono ?_
      rintro e w3 ⟨rfl,hc3,hp3⟩
      have hcall3:=HTN.out w3 hc3 hp3
      have hsz3:=hc3.size
      have HC3:=hid (hC2.then (ts_le (v:=.slice qv l0.length cv) hc3))
      clear hc3 HTN
      cases hri3:p (i2+1) with
      | error q =>
       obtain ⟨er,k⟩:=q
       rw [hri3] at hcall3
       have HRe:=hid (show RR=.error (er,k) from by rw [←HGO.out,hri3];rfl)
       clear hri3
       go_wp2_with (go_at_call 194;refine hcall3.mono ?_;rintro e w4 ⟨hc4,rfl⟩)
       refine ⟨rfl,?_⟩
       rw [HRe.out]
       exact ⟨HC3.out.trans hc4 (fun k e=>by rcases HO.out.ts k e with q|q <;> first|exact .inl q|exact .inr q),rfl⟩
      | ok q =>
       obtain ⟨r,j⟩:=q
       rw [hri3] at hcall3
       have hj:j≤ys.length:=(hfit (i2+1) hlt).1.pos hri3
       have hcr:=hcnt _ _ _ hri3
       have HRe:=hid (show Syn.loopF (Tk ys) p (Syn.marks l) f (l2++r++[⟨5,n,[]⟩]) j=RR from by rw [←HGO.out,hri3];rfl)
       clear hri3
       go_wp2_with fail
       go_at_call 194
       refine hcall3.mono ?_
       rintro e w4 ⟨hc4,v4,rfl,e1,e2,e3⟩
       obtain ⟨L4,hL4⟩:∃L4,L++r=L4:=⟨_,rfl⟩
       rw [hL4] at e1
       obtain ⟨q4,c4,rfl⟩:=own_shape e1
       have hb4:L4.length+1+(ys.length - j)≤131072:=by rw [←hL4,List.length_append];omega
       have hlen4:L.length+1≤L4.length+1:=by rw [←hL4,List.length_append];omega
       have HL5:=hid (show L4++[⟨5,n,[]⟩]=l0++(l2++r++[⟨5,n,[]⟩]) from by rw [←hL4,HL.out];simp [List.append_assoc])
       clear hL4
       have hnew:=tm_new w4 ⟨5,n,[]⟩ 140
       have hone:=tm_one ⟨5,n,[]⟩
       rw [show tmC ⟨5,n,[]⟩=[.int .i64 5,.int .i64 (n:Nat),.string ⟨#[]⟩] from rfl] at hnew hone
       have happ:=hid (fun v' w9=>tr_app (t:=⟨5,n,[]⟩) (v':=v') (w9:=w9) e2 e1 140)
       have hsz4:=hc4.size
       have HO4:=hid (show Ob (.slice qv l0.length cv) w (.slice q4 L4.length c4) from HO.out.trans (show Ob (.slice q2 L.length c2) w3 (.slice q4 L4.length c4) from e3) (by omega))
       have HC4:=hid (show Chg (TS bp (.slice qv l0.length cv)) w w4 from HC3.out.trans hc4 (fun k e=>by rcases HO.out.ts k e with q|q <;> first|exact .inl q|exact .inr q))
       clear e2 e3 hc4
       go_wp2_with (at_builtin;refine wpList_append_own_at _ rfl _ _ 97 rfl 0 140 j0 _ 3 32 Tryz.underlying97 hj0 hy0 hy1 hy2 rfl (by decide) _ _ _ rfl (e1.alloc _) ⟨w4.heap.size,0,none⟩ 1 1 [.int .i64 5,.int .i64 (n:Nat),.string ⟨#[]⟩] rfl rfl hnew hone (by unfold maxLen;omega) (by omega) (Nat.zero_le _) ?_)
       intro v' w9 hown9 hgrow9 _ hat9
       obtain ⟨g1,g2,g3,g4⟩:=happ.out v' w9 hown9 hgrow9 hat9
       obtain ⟨q9,c9,rfl⟩:=own_shape hown9
       have HO9:=hid (show Ob (.slice qv l0.length cv) w (.slice q9 (L4.length+1) c9) from HO4.out.trans (show Ob (.slice q4 L4.length c4) w4 (.slice q9 (L4.length+1) c9) from g4) (by omega))
       have HC9:=hid (show Chg (TS bp (.slice qv l0.length cv)) w w9 from HC4.out.trans g3 (fun k e=>by rcases HO4.out.ts k e with q|q <;> first|exact .inl q|exact .inr q))
       have G1:=hid g1
       clear hown9 hgrow9 hat9 g3 g4 e1 hnew hone g1
       go_wp2
       refine ⟨⟨f,l2++r++[⟨5,n,[]⟩],L4++[⟨5,n,[]⟩],j,q9,c9,hj,?_,HL5,HRe,?_,?_,g2,HC9.out,?_⟩,?_⟩
       ·rw [List.length_append,List.length_singleton];exact hb4
       ·rw [List.length_append,List.length_singleton]
       ·rw [List.length_append,List.length_singleton];exact G1
       ·rw [List.length_append,List.length_singleton];exact HO9
       ·simp [sLen];omega
     ·rw [if_neg hll] at hz'
      have HRe:=hid (hend (by rw [hop,hz']))
      have hne:(((Syn.lvlOf n:Nat):Int) != (l:Int))=true:=by simp;omega
      clear hz' hop hend hp2 hll
      generalize ys.length+1 - i2=m at *
      generalize 4*i2=o at *
      go_wp2_with (first|(go_at_call 200;refine hbs.mono ?_;rintro e w' ⟨rfl,rfl⟩)|(go_at_call 201;refine (hlv _).mono ?_;rintro e w' ⟨rfl,rfl⟩))
      go_ret
      rw [HRe.out]
      exact ⟨hC2,_,rfl,by rw [←HL.out];exact HT.out,HP2.out,HO.out⟩
end
section
variable {ys:List It} {len bp bw i:Nat} {vp:Value} {w:World}
theorem level_all (hw:Ws ys) {b1 b2 d:Nat} {u:Nat→Syn.R (List Syn.Tm)} (hcnt:Syn.Cnt u) (hfit:Syn.FitP ys.length u)
 (hR:RdT ys len bp bw vp 195 (fun v=>#[v,.pointer (some ⟨b1,0,none⟩),.pointer (some ⟨b2,0,none⟩)]) (BX b1 b2 bp d) u) :
 ∀(k l:Nat),l+k=6→RdT ys len bp bw vp 194 (fun v=>#[.pointer (some ⟨bp,0,none⟩),.int .i64 (l:Int),v,.func (.func 195) #[] #[.pointer (some ⟨b1,0,none⟩),.pointer (some ⟨b2,0,none⟩)]]) (BX b1 b2 bp d) (Syn.tower (Tk ys) (ys.length+1) u k)
 | 0,l,h=>by
  obtain rfl:l=6:=by omega
  exact level_six hR
 | k+1,l,h=>by
  have hk:=level_all hw hcnt hfit hR k (l+1) (by omega)
  have hl:5 - k=l:=by omega
  have:=level_next (len:=len) (bp:=bp) (bw:=bw) (vp:=vp) hw (b1:=b1) (b2:=b2) (d:=d) (Syn.tower_cnt hcnt k) (Syn.tower_fit (tk_nones ys) (by omega) hfit k) l (by omega) hk
  intro w i v l0 hx h hr hb
  have h2:=this w i v l0 hx h hr hb
  rw [Syn.tower,hl]
  exact h2
set_option maxRecDepth 100000 in
theorem within_any (hw:Ws ys) {d:Nat} {e:Option (Nat→Syn.R (List Syn.Tm))} (he:EOk ys len bp bw vp d e) (hg:∀p,e=some p→Syn.Good p) :
 RdT ys len bp bw vp 184 (fun v=>#[.pointer (some ⟨bp,0,none⟩),v,.int .i64 (d:Int)]) (fun _=>True) (Syn.tower (Tk ys) (ys.length+1) (Syn.unary (Tk ys) (ys.length+1) e) 6):=by
 intro w i v l0 _ h hr hb
 obtain ⟨qv,cv,rfl⟩:=own_shape hr
 have hl6:=level_all (len:=len) (bp:=bp) (bw:=bw) (vp:=vp) hw (b1:=w.heap.size) (b2:=w.heap.size+1) (d:=d) (Syn.unary_cnt he.cnt) (Syn.unary_fit (tk_nones ys) (by omega) he.fit hg) (within1_any (unary_any hw he)) 6 0 rfl
 have hbx:BX w.heap.size (w.heap.size+1) bp d ((w.alloc (.cells #[.pointer (some ⟨bp,0,none⟩)] 119)).alloc (.cells #[.int .i64 (d:Int)] 3)) :=
  ⟨heap_new _ _ (World.alloc_heap_new w _),by have:=World.alloc_heap_new (w.alloc (.cells #[.pointer (some ⟨bp,0,none⟩)] 119)) (.cells #[.int .i64 (d:Int)] 3);rwa [World.size_alloc] at this⟩
 have hcall:=hl6 _ i _ l0 hbx ((h.alloc _).alloc _) ((hr.alloc _).alloc _) hb
 have hC0:Chg (TS bp (.slice qv l0.length cv)) w ((w.alloc (.cells #[.pointer (some ⟨bp,0,none⟩)] 119)).alloc (.cells #[.int .i64 (d:Int)] 3)):=((Chg.refl _ w).alloc _).alloc _
 have hsz:=hC0.size
 have hmf:∀(fn:Fn) (first cap:Array Value) (w:World),(Instr.makeFunc fn first cap).run Tryz.prog w=.ok (.func fn first cap) w:=fun _ _ _ _=>rfl
 obtain ⟨RR,hRR⟩:∃RR,Syn.tower (Tk ys) (ys.length+1) (Syn.unary (Tk ys) (ys.length+1) e) 6 i=RR:=⟨_,rfl⟩
 rw [hRR] at hcall ⊢
 clear hRR hl6 hbx
 cases RR with
 | error q =>
  go_enter Tryz.func184,Tryz.ntmps184
  go_wp2_with (go_at_call 194;refine hcall.mono ?_;rintro e w1 ⟨hc,rfl⟩)
  exact ⟨rfl,hC0.then hc,rfl⟩
 | ok q =>
  go_enter Tryz.func184,Tryz.ntmps184
  go_wp2_with (go_at_call 194;refine hcall.mono ?_;rintro e w1 ⟨hc,v',rfl,a1,a2,a3⟩)
  go_ret
  exact ⟨hC0.then hc,v',rfl,a1,a2,fun k hk=>by rcases a3 k hk with q|q <;> first|exact .inl q|exact .inr (by omega)⟩
theorem within_all (hw:Ws ys):∀d,d≤12→RdT ys len bp bw vp 184 (fun v=>#[.pointer (some ⟨bp,0,none⟩),v,.int .i64 ((12 - d:Nat):Int)]) (fun _=>True) (Syn.exprD (Tk ys) (ys.length+1) d)
 | 0,_=>within_any hw (.inl ⟨rfl,rfl⟩) (fun p h=>by cases h)
 | d+1,h=>by
  refine within_any hw (d:=12 - (d+1)) (e:=some (Syn.exprD (Tk ys) (ys.length+1) d)) (.inr ⟨by omega,_,rfl,Syn.expr_cnt d,Syn.expr_fit (tk_nones ys) (by omega) d,?_⟩) (fun p h=>by cases h;exact Syn.expr_good d)
  have:=within_all hw d (by omega)
  rw [show (((12 - (d+1):Nat):Int)+1)=((12 - d:Nat):Int) by omega]
  exact this
set_option maxRecDepth 100000 in
theorem expr_any (hw:Ws ys) (h:PS ys len bp bw vp w i) :
 Calls Tryz.prog 175 #[.pointer (some ⟨bp,0,none⟩)] w (Ret ys len (fun k=>k=bp) w (Syn.expr (Tk ys) (ys.length+1) i) fun l j e w'=>∃v',e=.returned v'∧TR w' v' l∧PS ys len bp bw vp w' j∧∀k,v'.ownBlock=some k→w.heap.size≤k):=by
 have hf:=h.few
 have hcall:=within_all (len:=len) (bp:=bp) (bw:=bw) (vp:=vp) hw 12 (Nat.le_refl _) w i (.slice none 0 0) [] trivial h (World.ownsRow_nil _ _ _ _) (by simp;omega)
 rw [show ((12 - 12:Nat):Int)=0 from rfl] at hcall
 have hTS:∀{a b:World},Chg (TS bp (.slice none 0 0)) a b→Chg (fun k=>k=bp) a b:=fun hc=>hc.mono (fun k e=>by rcases e with e|e;exact .inl e;cases e)
 unfold Syn.expr
 obtain ⟨RR,hRR⟩:∃RR,Syn.exprD (Tk ys) (ys.length+1) 12 i=RR:=⟨_,rfl⟩
 rw [hRR] at hcall ⊢
 clear hRR
 cases RR with
 | error q =>
  go_enter Tryz.func175,Tryz.ntmps175
  go_wp2_with (go_at_call 184;refine hcall.mono ?_;rintro e w1 ⟨hc,rfl⟩)
  exact ⟨rfl,hTS hc,rfl⟩
 | ok q =>
  go_enter Tryz.func175,Tryz.ntmps175
  go_wp2_with (go_at_call 184;refine hcall.mono ?_;rintro e w1 ⟨hc,v',rfl,a1,a2,a3⟩)
  go_ret
  exact ⟨hTS hc,v',rfl,a1,a2,fun k hk=>by rcases a3 k hk with q|q;cases q;exact q⟩
end
def Enc {α:Type} (R:List Value→α→Prop):List Value→List α→Prop
 | cs,[]=>cs=[]
 | cs,x::xs=>∃c r,cs=c++r∧R c x∧Enc R r xs
theorem Enc.app {α:Type} {R:List Value→α→Prop}:∀{xs ys:List α} {cs ds:List Value},Enc R cs xs→Enc R ds ys→Enc R (cs++ds) (xs++ys)
 | [],ys,cs,ds,h,h'=>by
  obtain rfl:cs=[]:=h
  exact h'
 | x::xs,ys,cs,ds,h,h'=>by
  obtain ⟨c,r,rfl,h1,h2⟩:=h
  exact ⟨c,r++ds,by rw [List.append_assoc],h1,h2.app h'⟩
theorem Enc.one {α:Type} {R:List Value→α→Prop} {c:List Value} {x:α} (h:R c x):Enc R c [x]:=⟨c,[],by simp,h,rfl⟩
theorem Enc.nil {α:Type} {R:List Value→α→Prop}:Enc R [] ([]:List α):=rfl
theorem Enc.mono {α:Type} {R R':List Value→α→Prop} (hR:∀c x,R c x→R' c x):∀{xs:List α} {cs:List Value},Enc R cs xs→Enc R' cs xs
 | [],_,h=>h
 | _::_,_,⟨c,r,e,h1,h2⟩=>⟨c,r,e,hR _ _ h1,h2.mono hR⟩
def TmM (m:Mem) (v:Value) (l:List Syn.Tm):Prop:=RowM m 140 3 v l.length (tmCells l)
def StrM (m:Mem) (v:Value) (l:List (List Nat)):Prop:=RowM m 9 1 v l.length (l.map fun s=>.string (sb s))
def ExM (m:Mem) (v:Value) (l:List (List Syn.Tm)):Prop:=∃cs,RowM m 97 1 v l.length cs∧Enc (fun c x=>∃u,c=[u]∧TmM m u x) cs l
def StM (m:Mem) (c:List Value) (s:Syn.St):Prop:=∃vt ve,c=[.int .i64 (s.kind:Int),.string (sb s.name),vt,ve]∧StrM m vt s.targets∧ExM m ve s.exprs
theorem ExM.le {m m':Mem} {v:Value} {l:List (List Syn.Tm)} (h:ExM m v l) (hm:m.le m'):ExM m' v l:=by
 obtain ⟨cs,h1,h2⟩:=h
 exact ⟨cs,h1.le hm,h2.mono fun c x ⟨u,e,h⟩=>⟨u,e,RowM.le h hm⟩⟩
theorem StM.le {m m':Mem} {c:List Value} {s:Syn.St} (h:StM m c s) (hm:m.le m'):StM m' c s:=by
 obtain ⟨vt,ve,e,h1,h2⟩:=h
 exact ⟨vt,ve,e,RowM.le h1 hm,h2.le hm⟩
section
variable {α:Type}
def lsF (T:Nat→Option Syn.K) (r:Nat→Syn.R α) (fin:List Nat):Nat→List α→Nat→Syn.R (List α)
 | 0,_,i=>.error (99,i)
 | f+1,l,i=>(r i).on fun x i =>
  if Syn.is T i fin then .ok (l++[x],i+1) else if Syn.is T i [44] then lsF T r fin f (l++[x]) (i+1) else .error (50,i)
def ls (T:Nat→Option Syn.K) (F:Nat) (r:Nat→Syn.R α) (fin:List Nat) (i:Nat):Syn.R (List α):=if Syn.is T i fin then .ok ([],i+1) else lsF T r fin F [] i
theorem listF_ls (T:Nat→Option Syn.K) (e:Nat→Syn.R (List Syn.Tm)) (fin:List Nat):∀(f:Nat) (l:List (List Syn.Tm)) (i:Nat),Syn.listF T e fin f l i=lsF T e fin f l i
 | 0,_,_=>rfl
 | f+1,l,i=>by
  rw [Syn.listF,lsF]
  cases e i with
  | error q=>rfl
  | ok q=>simp only [Syn.R.on,listF_ls T e fin f]
theorem rowF_ls (T:Nat→Option Syn.K) (p:Nat→Syn.R α):∀(f:Nat) (l:List α) (i:Nat),Syn.rowF T p f l i=lsF T p [41] f l i
 | 0,_,_=>rfl
 | f+1,l,i=>by
  rw [Syn.rowF,lsF]
  cases p i with
  | error q=>rfl
  | ok q=>simp only [Syn.R.on,rowF_ls T p f]
theorem lsF_fit {T:Nat→Option Syn.K} {n:Nat} (hN:∀i,n≤i→T i=none) {r:Nat→Syn.R α} (hr:Syn.FitP n r) (fin:List Nat):∀(f:Nat) (l:List α) (i:Nat),i≤n→n<f+i→Syn.Fit n (lsF T r fin f l i)
 | 0,_,_,h,hf=>by omega
 | f+1,l,i,h,hf=>by
  rw [lsF]
  exact (hr i h).1.on fun x j hx hj=>Syn.Fit.sw (fun hc=>Syn.Fit.ok _ (Syn.is_lt hN hc)) fun _=>Syn.Fit.sw (fun hc=>lsF_fit hN hr fin f _ _ (Syn.is_lt hN hc) (by have:=(hr i h).2 _ _ hx;omega)) fun _=>Syn.Fit.err hj
def tailF (T:Nat→Option Syn.K) (r:Nat→Syn.R α) (fin:List Nat) (f:Nat) (l:List α) (j:Nat):Syn.R (List α) :=
 if Syn.is T j fin then .ok (l,j+1) else if Syn.is T j [44] then lsF T r fin f l (j+1) else .error (50,j)
theorem lsF_tail (T:Nat→Option Syn.K) (r:Nat→Syn.R α) (fin:List Nat) (f:Nat) (l:List α) (i:Nat):lsF T r fin (f+1) l i=(r i).on fun x j=>tailF T r fin f (l++[x]) j:=rfl
def posW (bp:Nat) (W:World):Nat:=match W.cell? ⟨bp,0,none⟩ with | some v=>sLen v | none=>0
theorem PS.pos {ys:List It} {len bp bw i:Nat} {vp:Value} {w:World} (h:PS ys len bp bw vp w i):posW bp w=ys.length+1 - i:=by
 obtain ⟨c,h0,_⟩:=h.raw
 unfold posW;rw [h0];rfl
def SB (bp B:Nat):Nat→Prop:=fun k=>k=bp∨B≤k
def ItOk (ys:List It) (len bp bw B:Nat) (vp:Value) (K:Nat) (caps:Array Value) (J:List α→World→Prop) (r:Nat→Syn.R α):Prop :=
 ∀W i acc,J acc W→PS ys len bp bw vp W i→B≤W.heap.size→acc.length+(ys.length - i)≤131072→Calls Tryz.prog K caps W (Ret ys len (SB bp B) W (r i) fun x j e W'=>(e=.returned (.tuple #[])∧J (acc++[x]) W')∧PS ys len bp bw vp W' j)
end
theorem mk_44:Mk (bl ⟨#[44]⟩)=true:=by decide
theorem sb_of {bp B:Nat} {a b:World} (h:Chg (fun k=>k=bp) a b):Chg (SB bp B) a b:=h.mono fun _ e=>.inl (.inl e)
section
variable {ys:List It} {len bp bw i:Nat} {vp:Value} {w:World} {α:Type}
theorem skip_at (hw:Ws ys) (h:PS ys len bp bw vp w i) (s:ByteArray) (hs:Mk (bl s)=true) :
 Calls Tryz.prog 115 #[.pointer (some ⟨bp,0,none⟩),.string s] w fun e w'=>∃t,e=.returned (.bool t)∧t=Syn.is (Tk ys) i (bl s)∧Chg (fun k=>k=bp) w w'∧PS ys len bp bw vp w' (if Syn.is (Tk ys) i (bl s)=true then i+1 else i):=by
 cases hx:Syn.is (Tk ys) i (bl s) with
 | true =>
  refine (skip_yes h (lt_of_is hx) s (by rw [eq_text,is_text hw len i hs];exact hx)).mono ?_
  rintro e w' ⟨rfl,hc,hp⟩
  exact ⟨true,rfl,rfl,hc,hp⟩
 | false =>
  refine (skip_no h s (by rw [eq_text,is_text hw len i hs];exact hx)).mono ?_
  rintro e w' ⟨rfl,rfl⟩
  exact ⟨false,rfl,rfl,Chg.refl _ _,h⟩
theorem is_uniq {T:Nat→Option Syn.K} {j:Nat} {s t:List Nat} (h:Syn.is T j s=true) (h':Syn.is T j t=true):s=t:=by
 unfold Syn.is at h h'
 cases hT:T j with
 | none=>rw [hT] at h;cases h
 | some k =>
  rw [hT] at h h'
  simp only [Bool.and_eq_true,beq_iff_eq] at h h'
  exact h.2.symm.trans h'.2
set_option maxRecDepth 100000 in
set_option maxHeartbeats 1000000 in
theorem list_any (hw:Ws ys) (h:PS ys len bp bw vp w i) {B:Nat} (hB:B≤w.heap.size) (_hbw:bw<B) (_hbp:bp<B) (s:ByteArray) (hs:Mk (bl s)=true) (hs44:bl s≠[44]) {K:Nat} {caps:Array Value} (eg:∀args w,(callFunc K args).run Tryz.prog w=.ok (.enter K args) w) {J:List α→World→Prop} {r:Nat→Syn.R α} (hfit:Syn.FitP ys.length r)
 (hJ:∀l W i W',J l W→PS ys len bp bw vp W i→Chg (fun k=>k=bp) W W'→J l W') (hit:ItOk ys len bp bw B vp K caps J r) (h0:J [] w) :
 Calls Tryz.prog 147 #[.pointer (some ⟨bp,0,none⟩),.string s,.func (.func K) #[] caps] w (Ret ys len (SB bp B) w (ls (Tk ys) (ys.length+1) r (bl s) i) fun l j e w'=>(e=.returned (.tuple #[])∧J l w')∧PS ys len bp bw vp w' j):=by
 have hsk:=skip_at hw h s hs
 have HPS:=hid h
 unfold ls
 cases hx:Syn.is (Tk ys) i (bl s) with
 | true =>
  rw [hx] at hsk
  clear hx
  go_enter Tryz.func147,Tryz.ntmps147
  go_wp2_with (go_at_call 115;refine hsk.mono ?_;rintro e w1 ⟨t,rfl,rfl,hc,hp⟩)
  refine bodyPost_ret (results_none rfl _ _ _) rfl ?_
  exact ⟨sb_of hc,⟨rfl,hJ _ _ _ _ h0 HPS.out hc⟩,hp⟩
 | false =>
  rw [hx] at hsk
  rw [if_neg (by simp)]
  have hf0:=h.few
  have hle:=h.le
  obtain ⟨RR,hRR⟩:∃RR,lsF (Tk ys) r (bl s) (ys.length+1) [] i=RR:=⟨_,rfl⟩
  have hlf:=lsF_fit (tk_nones ys) hfit (bl s) (ys.length+1) [] i h.le (by omega)
  rw [hRR] at hlf ⊢
  rw [lsF_tail] at hRR
  have HRR:=hid hRR
  have HLF:=hid hlf
  have HIT:=hid hit
  have HJ:=hid hJ
  have HFIT:=hid hfit
  clear hx hRR hlf hit hJ hfit
  go_enter Tryz.func147,Tryz.ntmps147
  go_wp2_with (go_at_call 115;refine hsk.mono ?_;rintro e w1 ⟨t,rfl,rfl,hc,hp⟩)
  have hcall:=HIT.out w1 i [] (HJ.out _ _ _ _ h0 HPS.out hc) hp (Nat.le_trans hB hc.size) (by simp;omega)
  have HC1:=hid (sb_of (B:=B) hc)
  clear hc hsk
  cases hri:r i with
  | error q =>
   obtain ⟨er,k⟩:=q
   rw [hri] at hcall
   have HRe:=hid (show RR=.error (er,k) from by rw [←HRR.out,hri];rfl)
   clear hri
   refine hcall.mono ?_
   rintro e w2 ⟨hc2,rfl⟩
   refine ⟨rfl,?_⟩
   rw [HRe.out]
   exact ⟨HC1.out.then hc2,rfl⟩
  | ok q =>
   obtain ⟨x1,j1⟩:=q
   rw [hri] at hcall
   have HT:=hid (show tailF (Tk ys) r (bl s) ys.length [x1] j1=RR from by rw [←HRR.out,hri];rfl)
   have HX:=hid ((HFIT.out i hle).2 _ _ hri)
   clear hri
   refine hcall.mono ?_
   rintro e w2 ⟨hc2,⟨rfl,hJ2⟩,hp2⟩
   have HC2:=hid (HC1.out.then hc2)
   have HJ2:=hid hJ2
   have HP2:=hid hp2
   clear hc2 hJ2 hp2 hcall
   go_wp2_with fail
   go_loopw [12] (fun _ wr=>∃f l j,Hid (tailF (Tk ys) r (bl s) f l j=RR)∧Hid (J l wr)∧Hid (PS ys len bp bw vp wr j)∧Hid (Chg (SB bp B) w wr)∧Hid (l.length+(ys.length - j)≤131072))
    (fun _ wr=>posW bp wr)
   case atStart=>exact ⟨ys.length,[x1],j1,HT,HJ2,HP2,HC2,hid (by simp;omega)⟩
   case round =>
    obtain ⟨f,l,j,HTr,HJr,HPr,HCr,HLr⟩:=hrel
    clear h0 hp
    have hsk2:=skip_at hw HPr.out ⟨#[44]⟩ mk_44
    rw [show bl ⟨#[44]⟩=[44] from rfl] at hsk2
    cases hx:Syn.is (Tk ys) j [44] with
    | true =>
     rw [hx] at hsk2
     have hfin:Syn.is (Tk ys) j (bl s)=false:=by
      cases hf:Syn.is (Tk ys) j (bl s) with
      | false=>rfl
      | true=>exact (hs44 (is_uniq hf hx)).elim
     have hlt:=lt_of_is hx
     have hgo:lsF (Tk ys) r (bl s) f l (j+1)=RR:=by
      have:=HTr.out
      unfold tailF at this
      rw [hfin,if_neg (by simp),hx,if_pos rfl] at this
      exact this
     cases f with
     | zero=>exact (HLF.out.no99 (j:=j+1) (by rw [←hgo];rfl)).elim
     | succ f =>
      rw [lsF_tail] at hgo
      have HGO:=hid hgo
      clear hx hfin hgo
      go_wp2_with (go_at_call 115;refine hsk2.mono ?_;rintro e w3 ⟨t3,rfl,rfl,hc3,hp3⟩)
      have hl3:=HLr.out
      have hcall:=HIT.out w3 (j+1) l (HJ.out _ _ _ _ HJr.out HPr.out hc3) hp3 (Nat.le_trans hB (Nat.le_trans HCr.out.size hc3.size)) (by omega)
      have HC3:=hid (HCr.out.then (sb_of (B:=B) hc3))
      clear hc3 hp3 hsk2 hl3
      cases hri:r (j+1) with
      | error q =>
       obtain ⟨er,k⟩:=q
       rw [hri] at hcall
       have HRe:=hid (show RR=.error (er,k) from by rw [←HGO.out,hri];rfl)
       clear hri
       refine hcall.mono ?_
       rintro e w4 ⟨hc4,rfl⟩
       refine ⟨rfl,?_⟩
       rw [HRe.out]
       exact ⟨HC3.out.then hc4,rfl⟩
      | ok q =>
       obtain ⟨x4,j4⟩:=q
       rw [hri] at hcall
       have HT4:=hid (show tailF (Tk ys) r (bl s) f (l++[x4]) j4=RR from by rw [←HGO.out,hri];rfl)
       have hj4:=(HFIT.out (j+1) hlt).2 _ _ hri
       have hj5:=(HFIT.out (j+1) hlt).1.pos hri
       have HL4:=hid (show (l++[x4]).length+(ys.length - j4)≤131072 from by
        have:=HLr.out
        rw [List.length_append,List.length_singleton];omega)
       clear hri
       refine hcall.mono ?_
       rintro e w4 ⟨hc4,⟨rfl,hJ4⟩,hp4⟩
       have HC4:=hid (HC3.out.then hc4)
       have HJ4:=hid hJ4
       have HP4:=hid hp4
       have hpos4:=hp4.pos
       have hpos:=HPr.out.pos
       clear hc4 hJ4 hp4 hcall
       go_wp2_with fail
       refine ⟨⟨f,l++[x4],j4,HT4,HJ4,HP4,HC4,HL4⟩,?_⟩
       rw [hpos4,hpos];omega
    | false =>
     rw [hx] at hsk2
     cases hfin:Syn.is (Tk ys) j (bl s) with
     | true =>
      have HRe:=hid (show RR=.ok (l,j+1) from by
       have:=HTr.out
       unfold tailF at this
       rw [hfin,if_pos rfl] at this
       exact this.symm)
      have HW:=hid (fun w3 (hp3:PS ys len bp bw vp w3 j)=>want_yes hp3 (lt_of_is hfin) s (by rw [eq_text,is_text hw len j hs];exact hfin))
      clear hx hfin
      go_wp2_with (go_at_call 115;refine hsk2.mono ?_;rintro e w3 ⟨t3,rfl,rfl,hc3,hp3⟩)
      go_at_call 143
      refine (HW.out w3 hp3).mono ?_
      rintro e w4 ⟨rfl,hc4,hp4⟩
      go_wp2_with fail
      go_end0
      rw [HRe.out]
      exact ⟨(HCr.out.then (sb_of hc3)).then (sb_of hc4),⟨rfl,HJ.out _ _ _ _ (HJ.out _ _ _ _ HJr.out HPr.out hc3) hp3 hc4⟩,hp4⟩
     | false =>
      have HRe:=hid (show RR=.error (50,j) from by
       have:=HTr.out
       unfold tailF at this
       rw [hfin,if_neg (by simp),hx,if_neg (by simp)] at this
       exact this.symm)
      have HW:=hid (fun w3 (hp3:PS ys len bp bw vp w3 j)=>want_no hp3 s (by rw [eq_text,is_text hw len j hs];exact hfin) (SB bp B))
      clear hx hfin
      go_wp2_with (go_at_call 115;refine hsk2.mono ?_;rintro e w3 ⟨t3,rfl,rfl,hc3,hp3⟩)
      go_at_call 143
      refine (HW.out w3 hp3).mono ?_
      rintro e w4 ⟨rfl,hc4⟩
      refine ⟨rfl,?_⟩
      rw [HRe.out]
      exact ⟨(HCr.out.then (sb_of hc3)).then hc4,rfl⟩
end
end Go.Proofs.YtlpdjfimefjmcaaGreatDoor.Q
namespace Go
theorem step_append_mine {P:Program} {ops:Array Oper} {o:Oper} {a:Act} {w:World} {K:Act→World→Prop} {Q:Exit→Act→World→Prop} {E:Prop}
 (hg:o.guard=none) (s x:Operand) (t:TypeId) (hop:o.op=Op.call { callee:=Callee.builtin Builtin.append,args:=#[s,x],argTypes:=#[t,t] })
 (base:Nat) (e:TypeId) (i:TypeInfo) (z:Value) (size bytes:Nat) (ht:P.underlying t=some (.slice e)) (hi:P.info? e=some i) (hz:i.zero=some z)
 (hsize:i.size=size) (hby:i.bytes=bytes) (hzs:z.cells.size=size) (hsz:0<size)
 (v:Value) (n:Nat) (xs:List Value) (hs:a.eval s=v) (hown:w.ownsRow base e size v n xs)
 (ad:Addr) (m c:Nat) (news:List Value) (hx:a.eval x=.slice (some ad) m c) (hl:news.length=m*size) (hnews:∀j u,news[j]?=some u→w.cell? (ad.add j)=some u) (h1:∀u∈news,u.oneCell'=true)
 (h63:n+m≤maxLen) (hbytes:(n+m)*bytes≤140737488355328) (hbase:base≤w.heap.size)
 (hK:∀v' w',w'.ownsRow base e size v' (n+m) (xs++news)→w.grownBy w' v.ownBlock→(v'.ownBlock=v.ownBlock∨v'.ownBlock=some w.heap.size)→K (a.put o.dst v') w') :
 if Region.wanted o (yielded ops a.tmps)=true then Oper.wp P o a w K Q else E:=by
 have hw:Region.wanted o (yielded ops a.tmps)=true:=by simp [Region.wanted,hg]
 rw [if_pos hw]
 obtain ⟨v',w',hr,h2,h3,_,h5⟩:=run_append_own_at (P:=P) w base t o.type e i z size bytes ht hi hz hsize hby hzs hsz v n xs hown ad m c news hl hnews h1 h63 hbytes hbase
 unfold Oper.wp
 simp only [hop,execOp,resolve,invoke,builtin,Sem.run_bind,Sem.run_pure,Result.andThen_ok,List.map_toArray,List.map_cons,List.map_nil,hs,hx,hr]
 exact hK v' w' h2 h3 h5
end Go
namespace Go.Proofs.YtlpdjfimefjmcaaGreatDoor.Q
open Go Go.RowKit Go.Proofs.Mm
theorem infoTms:∃i,Tryz.prog.info? 97=some i∧i.zero=some (.slice none 0 0)∧i.size=1∧i.bytes=24:=by
 have h:(Tryz.prog.info? 97).map (fun i=>(i.zero,i.size,i.bytes))=some (some (.slice none 0 0),1,24):=by kernel_rfl
 cases hi:Tryz.prog.info? 97 with
 | none=>rw [hi] at h;cases h
 | some i =>
  rw [hi] at h
  simp only [Option.map_some,Option.some.injEq,Prod.mk.injEq] at h
  obtain ⟨e1,e2,e3⟩:=h
  exact ⟨i,rfl,e1,e2,e3⟩
def TmR (m:Mem) (c:List Value) (x:List Syn.Tm):Prop:=∃u,c=[u]∧TmM m u x
theorem TmR.le {m m' : Mem} (hm : m.le m') : ∀ c x, TmR m c x → TmR m' c x := fun _ _ ⟨u, e, h⟩ => ⟨u, e, RowM.le h hm⟩
theorem one_slice (q:Option Addr) (n c:Nat):∀u∈[Value.slice q n c],u.oneCell'=true:=by
 intro u hu
 rw [List.mem_singleton] at hu
 subst hu;rfl
def EJ (m0:Mem) (w0:World) (ba b1 bp B:Nat) (acc:List (List Syn.Tm)) (W:World):Prop :=
 ∃q c cs m',W.heap[ba]?=some (.cells #[.slice q acc.length c] 45 (0,0))∧W.heap[b1]?=some (.cells #[.pointer (some ⟨bp,0,none⟩)] 119 (0,0)) ∧
  W.ownsRow B 97 1 (.slice q acc.length c) acc.length cs∧Enc (TmR m') cs acc∧Has W m'∧m0.More w0 m'∧m' ba=none∧m' b1=none∧m' bp=none∧(∀k,Value.ownBlock (.slice q acc.length c)=some k→m' k=none)∧w0.heap.size≤W.heap.size
section
variable {ys:List It} {len bp bw i:Nat} {vp:Value} {w:World}
theorem exprs1_end {m0 m':Mem} {w0 W w1 w9:World} {ba b1 B j c c1 c9:Nat} {q q1 q9:Option Addr} {acc:List (List Syn.Tm)} {x:List Syn.Tm} {cs:List Value} (hB:B≤ba) (hba1:ba≠b1) (_hBW:B≤W.heap.size) (hnba:¬ba=bp) (hnb1:¬b1=bp) (hbp:bp<B)
 (h1:W.heap[ba]?=some (.cells #[.slice q acc.length c] 45 (0,0))) (h3:W.ownsRow B 97 1 (.slice q acc.length c) acc.length cs) (h4:Enc (TmR m') cs acc) (h5:Has W m') (h6:m0.More w0 m') (h7:m' ba=none) (h8:m' b1=none) (h9:m' bp=none) (h10:∀k,Value.ownBlock (.slice q acc.length c)=some k→m' k=none) (h11:w0.heap.size≤W.heap.size)
 (hcc:Chg (fun k=>k=bp) W w1) (a1:TR w1 (.slice q1 x.length c1) x) (a2:PS ys len bp bw vp w1 j) (a3:∀k,Value.ownBlock (.slice q1 x.length c1)=some k→W.heap.size≤k)
 (hown9:w9.ownsRow B 97 1 (.slice q9 (acc.length+1) c9) (acc.length+1) (cs++[.slice q1 x.length c1])) (hgrow9:(w1.alloc (.cells #[.slice q1 x.length c1] 97)).grownBy w9 (Value.ownBlock (.slice q acc.length c))) (hat9:Value.ownBlock (.slice q9 (acc.length+1) c9)=Value.ownBlock (.slice q acc.length c)∨Value.ownBlock (.slice q9 (acc.length+1) c9)=some (w1.heap.size+1))
 (g1:w9.heap[ba]?=some (.cells #[.slice q acc.length c] 45 (0,0))) (g2:w9.heap[b1]?=some (.cells #[.pointer (some ⟨bp,0,none⟩)] 119 (0,0))) :
 Chg (SB bp B) W (w9.setCell ⟨ba,0,none⟩ (.slice q9 (acc.length+1) c9))∧EJ m0 w0 ba b1 bp B (acc++[x]) (w9.setCell ⟨ba,0,none⟩ (.slice q9 (acc.length+1) c9))∧PS ys len bp bw vp (w9.setCell ⟨ba,0,none⟩ (.slice q9 (acc.length+1) c9)) j:=by
 have hs1:=hcc.size
 have hC9:Chg (fun k=>k=bp∨Value.ownBlock (.slice q acc.length c)=some k) W w9:=((hcc.alloc _).mono (fun k e=>.inl (.inl e))).then (grown_chg hgrow9 (fun k e=>.inl (.inr e)))
 have hC:Chg (fun k=>k=bp∨Value.ownBlock (.slice q acc.length c)=some k∨k=ba) W (w9.setCell ⟨ba,0,none⟩ (.slice q9 (acc.length+1) c9)):=(hC9.mono (fun k e=>.inl (by rcases e with e|e <;> simp [e]))).setCell (p:=⟨ba,0,none⟩) (.inl (.inr (.inr rfl))) _
 have hS:∀k,(k=bp∨Value.ownBlock (.slice q acc.length c)=some k∨k=ba)→m' k=none:=by
  rintro k (rfl|e|rfl)
  ·exact h9
  ·exact h10 k e
  ·exact h7
 have h5':Has w1 m':=h5.chg hcc (fun k e=>by subst e;exact h9)
 obtain ⟨m2,d1,d2,d3,d4⟩:=RowM.done a1 h5' (fun k hk=>h5.lt (a3 k hk))
 have hm2:∀k,k<W.heap.size→m' k=none→m2 k=none:=fun k hk e=>by
  cases e2:m2 k with
  | none=>rfl
  | some o =>
   rcases d2 k (by rw [e2];simp) with e3|e3
   ·exact (e3 e).elim
   ·have:=a3 k e3;omega
 have hqlt:∀k,Value.ownBlock (.slice q acc.length c)=some k→k<W.heap.size:=fun k hk=>(h3.lt k hk).2
 have hbal:=heap_lt h1
 have hCw:Chg (fun k=>Value.ownBlock (.slice q acc.length c)=some k∨k=ba) w1 (w9.setCell ⟨ba,0,none⟩ (.slice q9 (acc.length+1) c9)) :=
  ((((Chg.refl _ w1).alloc _).then (grown_chg hgrow9 (fun k e=>.inl (.inl e)))).setCell (p:=⟨ba,0,none⟩) (.inl (.inr rfl)) _)
 have hH:Has (w9.setCell ⟨ba,0,none⟩ (.slice q9 (acc.length+1) c9)) m2:=d3.chg hCw (fun k e=>by
  rcases e with e|rfl
  ·exact hm2 k (hqlt k e) (h10 k e)
  ·exact hm2 _ hbal h7)
 have hb1w:b1<W.heap.size∨m2 b1=none:=by
  rcases Nat.lt_or_ge b1 W.heap.size with e|e
  ·exact .inl e
  ·right
   cases e2:m2 b1 with
   | none=>rfl
   | some o =>
    have hx:=d3 b1 o e2
    rcases d2 b1 (by rw [e2];simp) with e3|e3
    ·exact (e3 h8).elim
    ·obtain ⟨cur,hcu⟩:=own_type a1 e3
     have:=hC9.size
     have h9':=((Chg.refl (fun k=>Value.ownBlock (.slice q acc.length c)=some k) w1).alloc (.cells #[.slice q1 x.length c1] 97)).then (grown_chg hgrow9 (fun k e=>.inl e))
     have:=h9'.heap hcu (fun e4=>by have:=hqlt _ e4;omega)
     rw [g2] at this;simp at this
 refine ⟨hC.mono (fun k e=>?_),⟨q9,c9,cs++[.slice q1 x.length c1],m2,?_,heap_other g2 (fun e=>hba1 e.symm),?_,(h4.mono (TmR.le d1)).app (Enc.one (show TmR m2 [.slice q1 x.length c1] x from ⟨_,rfl,d4⟩)),hH,⟨h6.le.trans d1,fun k e hk=>hm2 k (by omega) (h6.new k e hk)⟩,hm2 _ hbal h7,?_,hm2 _ (by omega) h9,?_,?_⟩,?_⟩
 ·rcases e with rfl|e|rfl
  ·exact .inl (.inl rfl)
  ·exact .inl (.inr (h3.lt k e).1)
  ·exact .inl (.inr hB)
 ·rw [List.length_append,List.length_singleton];exact heap_set g1 0 _
 ·rw [List.length_append,List.length_singleton]
  exact own_chg hown9 ((Chg.refl (fun k=>k=ba) w9).setCell (p:=⟨ba,0,none⟩) (.inl rfl) _) (fun k hk e=>by
   subst e
   obtain ⟨cur,hcu⟩:=own_type hown9 hk
   rw [g1] at hcu;simp at hcu)
 ·rcases hb1w with e|e
  ·exact hm2 _ e h8
  ·exact e
 ·rw [List.length_append,List.length_singleton]
  intro k hk
  rcases hat9 with e|e
  ·rw [e] at hk;exact hm2 k (hqlt k hk) (h10 k hk)
  ·rw [e] at hk
   obtain rfl:w1.heap.size+1=k:=by simpa using hk
   exact d3.lt (by omega)
 ·have:=hC.size;omega
 ·refine a2.chg hCw (fun e=>?_) (fun e=>?_)
  ·rcases e with e|e
   ·have:=(h3.lt _ e).1;omega
   ·exact hnba e.symm
  ·rcases e with e|e
   ·obtain ⟨arr,b2,_⟩:=a2.toks
    obtain ⟨cur,hcu⟩:=own_type h3 e
    have h9':=hcc.heap hcu (fun e5=>by have:=(h3.lt _ e).1;omega)
    rw [b2] at h9';simp at h9'
   ·obtain ⟨arr,b2,_⟩:=a2.toks
    have h9':=hcc.heap h1 hnba
    rw [←e,b2] at h9';simp at h9'
set_option maxRecDepth 100000 in
set_option maxHeartbeats 1000000 in
theorem exprs1_any (hw:Ws ys) {m0:Mem} {w0:World} {ba b1 B:Nat} (hB:B≤ba) (hbp:bp<B) (hba1:ba≠b1) :
 ItOk ys len bp bw B vp 174 #[.pointer (some ⟨ba,0,none⟩),.pointer (some ⟨b1,0,none⟩)] (EJ m0 w0 ba b1 bp B) (Syn.expr (Tk ys) (ys.length+1)):=by
 intro W i acc hJ hp hBW hb
 obtain ⟨q,c,cs,m',h1,h2,h3,h4,h5,h6,h7,h8,h9,h10,h11⟩:=hJ
 obtain ⟨j0,hj0,hy0,hy1,hy2⟩:=infoTms
 have hc1:=cell_of (j:=0) h1 rfl
 have hf1:=free_of (j:=0) h1
 have hc2:=cell_of (j:=0) h2 rfl
 have hlt1:=heap_lt h1
 have hlt2:=heap_lt h2
 have hpd:PS ys len bp bw vp W.drew i:=hp.chg (S:=fun _=>False) (Chg.refl _ _).drew id id
 have hmx:Tryz.prog.follows .mixedOrders=true:=by kernel_rfl
 have hnba:¬ba=bp:=by omega
 have hnb1:¬b1=bp:=fun e=>by
  subst e
  obtain ⟨⟨c',a1,_⟩,_⟩:=hp
  rw [h2] at a1;simp at a1
 have HE:=hid (expr_any hw hpd)
 cases hri:Syn.expr (Tk ys) (ys.length+1) i with
 | error q0 =>
  obtain ⟨er,k⟩:=q0
  have HRI:=hid hri
  clear hri
  have hS0:W.drew.cell? ⟨ba,0,none⟩=some (.slice q acc.length c)∧W.drew.cell? ⟨b1,0,none⟩=some (.pointer (some ⟨bp,0,none⟩)):=⟨hc1,hc2⟩
  go_enter Tryz.func174,Tryz.ntmps174
  refine wp_region_held_drew (S:=fun w'=>w'.cell? ⟨ba,0,none⟩=some (.slice q acc.length c)∧w'.cell? ⟨b1,0,none⟩=some (.pointer (some ⟨bp,0,none⟩))) hmx hS0 (fun hHeld=>?_)
  refine wpAnyH_take (i:=0) (v:=.slice q acc.length c) rfl (by kernel_rfl) (by kernel_rfl) (by kernel_rfl) (fun _ _ _ h=>h) (Or.inl ⟨by rfl,fun w hSw=>by obtain ⟨s1,s2⟩:=hSw;go_simp⟩) (by assumption) ?_
  simp only [Act.put,List.setIfInBounds_toArray,List.set_cons_zero,List.set_cons_succ,List.getElem_toArray,List.getElem_cons_zero]
  refine wpAnyH_take (i:=1) (v:=.pointer (some ⟨bp,0,none⟩)) rfl (by kernel_rfl) (by kernel_rfl) (by kernel_rfl) (fun _ _ _ h=>h) (Or.inl ⟨by rfl,fun w hSw=>by obtain ⟨s1,s2⟩:=hSw;go_simp⟩) (by assumption) ?_
  simp only [Act.put,List.setIfInBounds_toArray,List.set_cons_zero,List.set_cons_succ,List.getElem_toArray,List.getElem_cons_zero,List.getElem_cons_succ]
  refine wpAnyH_ready (rs:=[2]) (by kernel_rfl) (by simp) ?_
  refine AllReadyH.cons rfl (fun K hK=>?_) AllReadyH.nil
  go_simp
  go_at_call 175
  refine HE.out.mono ?_
  rw [HRI.out]
  rintro e w' ⟨hcc,rfl⟩
  exact ⟨rfl,((Chg.refl (SB bp B) W).drew).then (sb_of hcc),rfl⟩
 | ok q0 =>
  obtain ⟨x,j⟩:=q0
  have HRI:=hid hri
  clear hri
  have HROW:=hid (fun w1 (hc:Chg (fun k=>k=bp) W.drew w1)=>own_chg (w:=W.drew) (w':=w1) (xs:=cs) (v:=.slice q acc.length c) (n:=acc.length) (size:=1) (B:=B) (E:=97) (show W.drew.ownsRow B 97 1 (.slice q acc.length c) acc.length cs from h3) hc (fun k hk e=>by have:=(h3.lt k hk).1;omega))
  have HAPP:=hid (fun w1 w9 (u:Value) (hc:Chg (fun k=>k=bp) W.drew w1) (hg:(w1.alloc (.cells #[u] 97)).grownBy w9 (Value.ownBlock (.slice q acc.length c)))=>by
   have hcc:Chg (fun k=>k=bp∨Value.ownBlock (.slice q acc.length c)=some k) W.drew w9:=((hc.alloc _).mono (fun k e=>.inl (.inl e))).then (grown_chg hg (fun k e=>.inl (.inr e)))
   have n1:∀(k:Nat) (arr:Array Value) (E:TypeId),W.heap[k]?=some (.cells arr E (0,0))→E≠97→k≠bp→w9.heap[k]?=some (.cells arr E (0,0)):=fun k arr E hk hE hkb =>
    hcc.heap (show W.drew.heap[k]?=_ from hk) (fun e=>by
     rcases e with e|e
     ·exact hkb e
     ·obtain ⟨cur,hcu⟩:=own_type h3 e
      rw [hk] at hcu
      simp only [Option.some.injEq,Obj.cells.injEq] at hcu
      exact hE hcu.2.1)
   exact (⟨n1 ba _ _ h1 (by decide) hnba,n1 b1 _ _ h2 (by decide) hnb1⟩:w9.heap[ba]?=some (.cells #[.slice q acc.length c] 45 (0,0))∧w9.heap[b1]?=some (.cells #[.pointer (some ⟨bp,0,none⟩)] 119 (0,0))))
  go_enter Tryz.func174,Tryz.ntmps174
  go_region_law
   (first
    | (go_simp;go_at_call 175;refine HE.out.mono ?_;rw [HRI.out];rintro e w1 ⟨hcc,v1,rfl,a1,a2,a3⟩;obtain ⟨q1,c1,rfl⟩:=own_shape a1;have k1:=hcc.cell (show W.drew.cell? ⟨ba,0,none⟩=_ from hc1) hnba;have k2:=hcc.cell (show W.drew.cell? ⟨b1,0,none⟩=_ from hc2) hnb1;have p1:=hcc.heap (show W.drew.heap[ba]?=_ from h1) hnba;have p2:=hcc.heap (show W.drew.heap[b1]?=_ from h2) hnb1;have k3:=free_of (j:=0) p1;have kk:=And.intro (cell_of (j:=0) (heap_new _ (.cells #[.slice q1 x.length c1] 97) p1) rfl) (And.intro (cell_of (j:=0) (heap_new _ (.cells #[.slice q1 x.length c1] 97) p2) rfl) (free_of (j:=0) (heap_new _ (.cells #[.slice q1 x.length c1] 97) p1))))
    | (refine step_append_mine rfl (.tmp 2) (.tmp 5) 45 rfl B 97 j0 (.slice none 0 0) 1 24 Tryz.underlying45 hj0 hy0 hy1 hy2 rfl (by decide) (.slice q acc.length c) acc.length cs (by simp [Act.eval]) ((HROW.out _ hcc).alloc _) ⟨_,0,none⟩ 1 1 [.slice q1 x.length c1] (by simp [Act.eval]) rfl (row_new _ [.slice q1 x.length c1] 97) (one_slice _ _ _) (by unfold maxLen;omega) (by omega) (Nat.le_trans hBW (Nat.le_trans hcc.size (by simp))) ?_;intro v9 w9 hown9 hgrow9 hat9;obtain ⟨q9,c9,rfl⟩:=own_shape hown9;obtain ⟨g1,g2⟩:=HAPP.out _ _ _ hcc hgrow9;have k4:=cell_of (j:=0) g1 rfl;have k5:=cell_of (j:=0) g2 rfl;have k6:=free_of (j:=0) g1))
  all_goals
   go_end0
   obtain ⟨r1,r2,r3⟩:=exprs1_end (m0:=m0) (w0:=w0) hB hba1 hBW hnba hnb1 hbp h1 h3 h4 h5 h6 h7 h8 h9 h10 h11 (show Chg (fun k=>k=bp) W w1 from ((Chg.refl _ W).drew).then hcc) a1 a2 a3 hown9 hgrow9 (by simpa using hat9) g1 g2
   exact ⟨r1,⟨rfl,r2⟩,r3⟩
end
theorem list_ls (T:Nat→Option Syn.K) (F:Nat) (fin:List Nat) (i:Nat):Syn.list T F fin i=ls T F (Syn.expr T F) fin i:=by
 unfold Syn.list ls
 rw [listF_ls]
section
variable {ys:List It} {len bp bw i:Nat} {vp:Value} {w:World}
def ExOk (ys:List It) (len bp bw:Nat) (vp:Value) (m:Mem) (w:World) (es:List (List Syn.Tm)) (j:Nat) (e:Ending) (w':World):Prop :=
 ∃v m',e=.returned v∧m.More w m'∧Has w' m'∧m' bp=none∧ExM m' v es∧PS ys len bp bw vp w' j
theorem ej_done {m0:Mem} {w0 W:World} {ba b1 B:Nat} {acc:List (List Syn.Tm)} (h:EJ m0 w0 ba b1 bp B acc W) (hB:B=w0.heap.size) (hbp:bp<w0.heap.size) :
 ∃q c,W.heap[ba]?=some (.cells #[.slice q acc.length c] 45 (0,0))∧∃m',m0.More w0 m'∧Has W m'∧m' bp=none∧ExM m' (.slice q acc.length c) acc:=by
 obtain ⟨q,c,cs,m',h1,h2,h3,h4,h5,h6,h7,h8,h9,h10,h11⟩:=h
 obtain ⟨m2,d1,d2,d3,d4⟩:=RowM.done h3 h5 h10
 refine ⟨q,c,h1,m2,⟨h6.le.trans d1,fun k e hk=>?_⟩,d3,?_,cs,d4,h4.mono (TmR.le d1)⟩
 ·cases e2:m2 k with
  | none=>rfl
  | some o =>
   rcases d2 k (by rw [e2];simp) with e3|e3
   ·exact (e3 (h6.new k e hk)).elim
   ·have:=(h3.lt k e3).1;omega
 ·cases e2:m2 bp with
  | none=>rfl
  | some o =>
   rcases d2 bp (by rw [e2];simp) with e3|e3
   ·exact (e3 h9).elim
   ·have:=(h3.lt bp e3).1;omega
theorem exprs_facts {m:Mem} (h:PS ys len bp bw vp w i) (hm:Has w m) (hbm:m bp=none) :
 PS ys len bp bw vp ((w.alloc (.cells #[.pointer (some ⟨bp,0,none⟩)] 119)).alloc (.cells #[.slice none 0 0] 45)) i ∧
 EJ m w (w.heap.size+1) w.heap.size bp w.heap.size [] ((w.alloc (.cells #[.pointer (some ⟨bp,0,none⟩)] 119)).alloc (.cells #[.slice none 0 0] 45)) ∧
 (∀l W i W',EJ m w (w.heap.size+1) w.heap.size bp w.heap.size l W→PS ys len bp bw vp W i→Chg (fun k=>k=bp) W W'→EJ m w (w.heap.size+1) w.heap.size bp w.heap.size l W'):=by
 obtain ⟨hlt,hlb⟩:=h.lt
 have hC0:Chg (fun _=>False) w ((w.alloc (.cells #[.pointer (some ⟨bp,0,none⟩)] 119)).alloc (.cells #[.slice none 0 0] 45)):=((Chg.refl _ w).alloc _).alloc _
 have hm2:=hm.chg hC0 (fun k e=>e.elim)
 have hz1:m (w.heap.size+1)=none:=hm.lt (by omega)
 have hz2:m w.heap.size=none:=hm.lt (Nat.le_refl _)
 have hsz0:w.heap.size≤((w.alloc (.cells #[.pointer (some ⟨bp,0,none⟩)] 119)).alloc (.cells #[.slice none 0 0] 45)).heap.size:=hC0.size
 refine ⟨(h.alloc _).alloc _,⟨none,0,[],m,?_,heap_new _ _ (World.alloc_heap_new w _),World.ownsRow_nil _ _ _ _,Enc.nil,hm2,Mem.More.refl _ _,hz1,hz2,hbm,(fun k e=>by cases e),hsz0⟩,?_⟩
 ·have:=World.alloc_heap_new (w.alloc (.cells #[.pointer (some ⟨bp,0,none⟩)] 119)) (.cells #[.slice none 0 0] 45)
  rwa [World.size_alloc] at this
 ·rintro l W i W' ⟨q,c,cs,m',h1,h2,h3,h4,h5,h6,h7,h8,h9,h10,h11⟩ hp hc
  have hsz:=hc.size
  exact ⟨q,c,cs,m',hc.heap h1 (by omega),hc.heap h2 (by omega),own_chg h3 hc (fun k hk e=>by have:=(h3.lt k hk).1;omega),h4,h5.chg hc (fun k e=>by subst e;exact h9),h6,h7,h8,h9,h10,by omega⟩
set_option maxRecDepth 100000 in
theorem exprs_any (hw:Ws ys) (h:PS ys len bp bw vp w i) (s:ByteArray) (hs:Mk (bl s)=true) (hs44:bl s≠[44]) {m:Mem} (hm:Has w m) (hbm:m bp=none) :
 Calls Tryz.prog 151 #[.pointer (some ⟨bp,0,none⟩),.string s] w (Ret ys len (fun k=>k=bp) w (Syn.list (Tk ys) (ys.length+1) (bl s) i) (ExOk ys len bp bw vp m w)):=by
 obtain ⟨hlt,hlb⟩:=h.lt
 obtain ⟨f1,f2,f3⟩:=exprs_facts (w:=w) h hm hbm
 have hlist:=list_any (len:=len) (bp:=bp) (bw:=bw) (vp:=vp) hw f1 (B:=w.heap.size) (by simp;omega) hlb hlt s hs hs44 (K:=174) (caps:=#[.pointer (some ⟨w.heap.size+1,0,none⟩),.pointer (some ⟨w.heap.size,0,none⟩)]) (enters_of Tryz.func174 (by kernel_rfl) rfl) (J:=EJ m w (w.heap.size+1) w.heap.size bp w.heap.size)
  (Syn.expr_fit (tk_nones ys) (by omega) 12) f3 (exprs1_any hw (by omega) hlt (by omega)) f2
 rw [list_ls]
 have hmf:∀(fn:Fn) (first cap:Array Value) (w:World),(Instr.makeFunc fn first cap).run Tryz.prog w=.ok (.func fn first cap) w:=fun _ _ _ _=>rfl
 have hC0:Chg (fun k=>k=bp) w ((w.alloc (.cells #[.pointer (some ⟨bp,0,none⟩)] 119)).alloc (.cells #[.slice none 0 0] 45)):=((Chg.refl _ w).alloc _).alloc _
 have hSB:∀{a b:World},Chg (SB bp w.heap.size) a b→w.heap.size≤a.heap.size→Chg (fun k=>k=bp∨w.heap.size≤k) a b:=fun hc _=>hc
 change Calls _ _ _ _ (Ret ys len _ w (ls (Tk ys) (ys.length+1) (Syn.expr (Tk ys) (ys.length+1)) (bl s) i) _)
 change Calls _ _ _ _ (Ret ys len _ _ (ls (Tk ys) (ys.length+1) (Syn.expr (Tk ys) (ys.length+1)) (bl s) i) _) at hlist
 obtain ⟨RR,hRR⟩:∃RR,ls (Tk ys) (ys.length+1) (Syn.expr (Tk ys) (ys.length+1)) (bl s) i=RR:=⟨_,rfl⟩
 rw [hRR] at hlist ⊢
 clear hRR f3
 cases RR with
 | error q =>
  go_enter Tryz.func151,Tryz.ntmps151
  go_wp2_with (go_at_call 147;refine hlist.mono ?_;rintro e w1 ⟨hc,rfl⟩)
  exact ⟨rfl,hC0.trans hc (fun k e=>by rcases e with e|e;exact .inl e;exact .inr e),rfl⟩
 | ok q =>
  obtain ⟨es,j⟩:=q
  go_enter Tryz.func151,Tryz.ntmps151
  go_wp2_with fail
  go_at_call 147
  refine hlist.mono ?_
  rintro e w1 ⟨hc,⟨rfl,hej⟩,hp⟩
  obtain ⟨q,c,g1,m',g2,g3,g4,g5⟩:=ej_done hej rfl hlt
  have hcell:=cell_of (j:=0) g1 rfl
  have HEND:=hid (show Chg (fun k=>k=bp) w w1∧ExOk ys len bp bw vp m w es j (.returned (.slice q es.length c)) w1 from
   ⟨hC0.trans hc (fun k e=>by rcases e with e | e;exact .inl e;exact .inr e),_,m',rfl,g2,g3,g4,g5,hp⟩)
  clear g2 g3 g4 g5 hej hc hC0 hp g1
  go_wp2
  go_ret
  exact HEND.out
end
end Go.Proofs.YtlpdjfimefjmcaaGreatDoor.Q
