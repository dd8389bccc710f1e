/- A part of the proof of PrintBack: contracts and plain facts. -/
import Derived.Test.YtpcniebkabkikaaGreatDoorPBqR15
import Derived.Test.YtpcniebkabkikaaGreatDoorPBqR4
import Derived.Deep.RegionHeldLaw
import Derived.Deep.RegionLaw
set_option maxRecDepth 100000
set_option maxHeartbeats 8000000
open Go.Lib (hid)
open Go.Proofs.Tryz
open Go.World renaming alloc_heap_new → nwn, size_alloc → nwz
namespace Go.Proofs.YtpcniebkabkikaaGreatDoor
open Go Go.RowKit Go.Proofs.Mm
section
variable {C D:Cl} {W:World} {q1 q2 q3 q4 q5 r1 r2 r3 r4 r5:Option Addr}
theorem x5_ {l l':List FnZ} {lv lv':List FnV} {c c':Nat} (hl:l.length≤9223372036854775807) (hl':l'.length≤9223372036854775807) (ha:FnRow C q1 l lv) (hb:FnRow D q2 l' lv') (hC:CLe C (wC W)) (hD:CLe D (wC W)) :
 Calls prog 69 #[.slice q1 l.length c,.slice q2 l'.length c',.func (.func 70) #[] #[]] W (SaysB (l=l') W) :=
 efFn_p (lv:=lv) (lv':=lv') ha.len hb.len hl hl' ha.cells hb.cells hC hD (enters_of func70 (by kernel_rfl) rfl) (fun j h1 h2 h3 h4 W' hw=>by
  obtain ⟨p1,e1,p2,e2,p3,e3,p4,e4,e,hs⟩:=ha.rd j h1 h3
  obtain ⟨p1',e1',p2',e2',p3',e3',p4',e4',e',hs'⟩:=hb.rd j h2 h4
  rw [e,e']
  exact rl_ l[j] l'[j] hs hs' (hC.trans (ab_ hw)) (hD.trans (ab_ hw)))
theorem tr_ {a b:SoZ} (h1:a.principals=b.principals) (h2:a.globals=b.globals) (h3:a.arrays=b.arrays) (h4:a.channels=b.channels) (h5:a.funcs=b.funcs):a=b:=by
 cases a;cases b;simp_all
theorem mm_ (s t:SoZ) {c1 c2 c3 c4 c5 d1 d2 d3 d4 d5:Nat} (hs:SoR C s q1 c1 q2 q3 q4 q5) (ht:SoR D t r1 d1 r2 r3 r4 r5) (hC:CLe C (wC W)) (hD:CLe D (wC W)) :
 Calls prog 35 #[sov s q1 c1 q2 c2 q3 c3 q4 c4 q5 c5,sov t r1 d1 r2 d2 r3 d3 r4 d4 r5 d5] W (SaysB (s=t) W):=by
 have HB:=hid (show Below W.heap.size W ((W.alloc (soo s q1 c1 q2 c2 q3 c3 q4 c4 q5 c5)).alloc (soo t r1 d1 r2 d2 r3 d3 r4 d4 r5 d5)) from ((Below.refl _ _).alloc (Nat.le_refl _) _).alloc (by rw [nwz];omega) _)
 have HX:=hid (ad_ (W.alloc (soo s q1 c1 q2 c2 q3 c3 q4 c4 q5 c5)) (soo t r1 d1 r2 d2 r3 d3 r4 d4 r5 d5) (nwn W (soo s q1 c1 q2 c2 q3 c3 q4 c4 q5 c5)))
 have hy:=nwn (W.alloc (soo s q1 c1 q2 c2 q3 c3 q4 c4 q5 c5)) (soo t r1 d1 r2 d2 r3 d3 r4 d4 r5 d5)
 rw [nwz] at hy
 have HY:=hid hy
 obtain ⟨lv,hlv⟩:=hs.fn
 obtain ⟨lv',hlv'⟩:=ht.fn
 have HPR:=hid (fun w (h:Below W.heap.size W w)=>(eqStr (c:=c1) (c':=d1) hs.pf.2 ht.pf.2 hs.pr ht.pr (hC.trans (ab_ h)) (hD.trans (ab_ h))).mono fun _ _ h=>h.b)
 have HGL:=hid (fun w (h:Below W.heap.size W w)=>(eqDe (c:=c2) (c':=d2) hs.gf.2 ht.gf.2 hs.gl ht.gl (hC.trans (ab_ h)) (hD.trans (ab_ h))).mono fun _ _ h=>h.b)
 have HAR:=hid (fun w (h:Below W.heap.size W w)=>(eqAr (c:=c3) (c':=d3) hs.af.2 ht.af.2 hs.ar ht.ar (hC.trans (ab_ h)) (hD.trans (ab_ h))).mono fun _ _ h=>h.b)
 have HCH:=hid (fun w (h:Below W.heap.size W w)=>(eqDe (c:=c4) (c':=d4) hs.cf.2 ht.cf.2 hs.ch ht.ch (hC.trans (ab_ h)) (hD.trans (ab_ h))).mono fun _ _ h=>h.b)
 have HFN:=hid (fun w (h:Below W.heap.size W w)=>x5_ (c:=c5) (c':=d5) hs.ff ht.ff hlv hlv' (hC.trans (ab_ h)) (hD.trans (ab_ h)))
 have HEXT:=hid (show (s.principals=t.principals∧s.globals=t.globals∧s.arrays=t.arrays∧s.channels=t.channels∧s.funcs=t.funcs)↔s=t from ⟨fun ⟨a,b,c,d,e⟩=>tr_ a b c d e,fun h=>by subst h;exact ⟨rfl,rfl,rfl,rfl,rfl⟩⟩)
 unfold sov
 unfold soo at HB HX HY
 clear hs ht hC hD hy hlv hlv'
 go_enter func35,ntmps35
 obtain ⟨x0,x1,x2,x3,x4⟩:=aj_ (HX.out)
 obtain ⟨y0,y1,y2,y3,y4⟩:=aj_ (HY.out)
 have HW1:=hid (HPR.out _ HB.out)
 go_wp2_with fail
 go_at_call 66
 refine HW1.out.mono ?_
 rintro e w1 ⟨p1,rfl,hp1,hbel⟩
 have HB1:=hid (ac_ HB.out hbel)
 have HX1:=hid ((hbel.block _ (heap_lt HX.out)).trans HX.out)
 have HY1:=hid ((hbel.block _ (heap_lt HY.out)).trans HY.out)
 have HP1:=hid hp1
 clear hbel hp1 HW1 x0 x1 x2 x3 x4 y0 y1 y2 y3 y4
 obtain ⟨x0,x1,x2,x3,x4⟩:=aj_ (HX1.out)
 obtain ⟨y0,y1,y2,y3,y4⟩:=aj_ (HY1.out)
 cases p1
 ·go_wp2_with fail
  go_ret
  exact ⟨false,rfl,by rw [←HEXT.out];exact ⟨fun h=>(by cases h),fun h=>HP1.out.2 h.1⟩,HB1.out⟩
 ·skip
  have HW2:=hid (HGL.out _ HB1.out)
  go_wp2_with fail
  go_at_call 67
  refine HW2.out.mono ?_
  rintro e w2 ⟨p2,rfl,hp2,hbel⟩
  have HB2:=hid (ac_ HB1.out hbel)
  have HX2:=hid ((hbel.block _ (heap_lt HX1.out)).trans HX1.out)
  have HY2:=hid ((hbel.block _ (heap_lt HY1.out)).trans HY1.out)
  have HP2:=hid hp2
  clear hbel hp2 HW2 x0 x1 x2 x3 x4 y0 y1 y2 y3 y4
  obtain ⟨x0,x1,x2,x3,x4⟩:=aj_ (HX2.out)
  obtain ⟨y0,y1,y2,y3,y4⟩:=aj_ (HY2.out)
  cases p2
  ·go_wp2_with fail
   go_ret
   exact ⟨false,rfl,by rw [←HEXT.out];exact ⟨fun h=>(by cases h),fun h=>HP2.out.2 h.2.1⟩,HB2.out⟩
  ·skip
   have HW3:=hid (HAR.out _ HB2.out)
   go_wp2_with fail
   go_at_call 68
   refine HW3.out.mono ?_
   rintro e w3 ⟨p3,rfl,hp3,hbel⟩
   have HB3:=hid (ac_ HB2.out hbel)
   have HX3:=hid ((hbel.block _ (heap_lt HX2.out)).trans HX2.out)
   have HY3:=hid ((hbel.block _ (heap_lt HY2.out)).trans HY2.out)
   have HP3:=hid hp3
   clear hbel hp3 HW3 x0 x1 x2 x3 x4 y0 y1 y2 y3 y4
   obtain ⟨x0,x1,x2,x3,x4⟩:=aj_ (HX3.out)
   obtain ⟨y0,y1,y2,y3,y4⟩:=aj_ (HY3.out)
   cases p3
   ·go_wp2_with fail
    go_ret
    exact ⟨false,rfl,by rw [←HEXT.out];exact ⟨fun h=>(by cases h),fun h=>HP3.out.2 h.2.2.1⟩,HB3.out⟩
   ·skip
    have HW4:=hid (HCH.out _ HB3.out)
    go_wp2_with fail
    go_at_call 67
    refine HW4.out.mono ?_
    rintro e w4 ⟨p4,rfl,hp4,hbel⟩
    have HB4:=hid (ac_ HB3.out hbel)
    have HX4:=hid ((hbel.block _ (heap_lt HX3.out)).trans HX3.out)
    have HY4:=hid ((hbel.block _ (heap_lt HY3.out)).trans HY3.out)
    have HP4:=hid hp4
    clear hbel hp4 HW4 x0 x1 x2 x3 x4 y0 y1 y2 y3 y4
    obtain ⟨x0,x1,x2,x3,x4⟩:=aj_ (HX4.out)
    obtain ⟨y0,y1,y2,y3,y4⟩:=aj_ (HY4.out)
    cases p4
    ·go_wp2_with fail
     go_ret
     exact ⟨false,rfl,by rw [←HEXT.out];exact ⟨fun h=>(by cases h),fun h=>HP4.out.2 h.2.2.2.1⟩,HB4.out⟩
    ·skip
     have HW5:=hid (HFN.out _ HB4.out)
     go_wp2_with fail
     go_at_call 69
     refine HW5.out.mono ?_
     rintro e w5 ⟨p5,rfl,hp5,hbel⟩
     have HB5:=hid (ac_ HB4.out hbel)
     have HX5:=hid ((hbel.block _ (heap_lt HX4.out)).trans HX4.out)
     have HY5:=hid ((hbel.block _ (heap_lt HY4.out)).trans HY4.out)
     have HP5:=hid hp5
     clear hbel hp5 HW5 x0 x1 x2 x3 x4 y0 y1 y2 y3 y4
     obtain ⟨x0,x1,x2,x3,x4⟩:=aj_ (HX5.out)
     obtain ⟨y0,y1,y2,y3,y4⟩:=aj_ (HY5.out)
     cases p5
     ·go_wp2_with fail
      go_ret
      exact ⟨false,rfl,by rw [←HEXT.out];exact ⟨fun h=>(by cases h),fun h=>HP5.out.2 h.2.2.2.2⟩,HB5.out⟩
     ·go_wp2_with fail
      go_ret
      exact ⟨true,rfl,by rw [←HEXT.out];exact ⟨fun _=>⟨HP1.out.1 (by first|rfl|trivial),HP2.out.1 (by first|rfl|trivial),HP3.out.1 (by first|rfl|trivial),HP4.out.1 (by first|rfl|trivial),HP5.out.1 (by first|rfl|trivial)⟩,fun _=>rfl⟩,HB5.out⟩
end
end Go.Proofs.YtpcniebkabkikaaGreatDoor
namespace Go
theorem ar_ {P:Program} {ops:Array Oper} {o:Oper} {a:Act} {w:World} {K:Act→World→Prop} {Q:Exit→Act→World→Prop} {E:Prop}
 (hg:o.guard=none) (s x:Operand) (t:TypeId) (hop:o.op=Op.call { callee:=Callee.builtin Builtin.append,args:=#[s,x],argTypes:=#[t,t] })
 (base:Nat) (e:TypeId) (i:TypeInfo) (z:Value) (size bytes:Nat) (ht:P.underlying t=some (.slice e)) (hi:P.info? e=some i) (hz:i.zero=some z)
 (hsize:i.size=size) (hby:i.bytes=bytes) (hzs:z.cells.size=size) (hsz:0<size)
 (v:Value) (n:Nat) (xs:List Value) (hs:a.eval s=v) (hown:w.ownsRow base e size v n xs)
 (ad:Addr) (m c:Nat) (news:List Value) (hx:a.eval x=.slice (some ad) m c) (hl:news.length=m*size) (hnews:∀j u,news[j]?=some u→w.cell? (ad.add j)=some u) (h1:∀u∈news,u.oneCell'=true)
 (h63:n+m≤maxLen) (hbytes:(n+m)*bytes≤140737488355328) (hbase:base≤w.heap.size)
 (hK:∀v' w',w'.ownsRow base e size v' (n+m) (xs++news)→w.grownBy w' v.ownBlock→(v'.ownBlock=v.ownBlock∨v'.ownBlock=some w.heap.size)→K (a.put o.dst v') w') :
 if Region.wanted o (yielded ops a.tmps)=true then Oper.wp P o a w K Q else E:=by
 have hw:Region.wanted o (yielded ops a.tmps)=true:=by simp [Region.wanted,hg]
 rw [if_pos hw]
 obtain ⟨v',w',hr,h2,h3,_,h5⟩:=run_append_own_at (P:=P) w base t o.type e i z size bytes ht hi hz hsize hby hzs hsz v n xs hown ad m c news hl hnews h1 h63 hbytes hbase
 unfold Oper.wp
 simp only [hop,execOp,resolve,invoke,builtin,Sem.run_bind,Sem.run_pure,Result.andThen_ok,List.map_toArray,List.map_cons,List.map_nil,hs,hx,hr]
 exact hK v' w' h2 h3 h5
end Go
namespace Go.Proofs.YtpcniebkabkikaaGreatDoor
open Go Go.RowKit Go.Proofs.Mm
theorem infoTms:∃i,prog.info? 37=some i∧i.zero=some (.slice none 0 0)∧i.size=1∧i.bytes=24:=by
 have h:(prog.info? 37).map (fun i=>(i.zero,i.size,i.bytes))=some (some (.slice none 0 0),1,24):=by kernel_rfl
 cases hi:prog.info? 37 with
 | none=>rw [hi] at h;cases h
 | some i =>
  rw [hi] at h
  simp only [Option.map_some,Option.some.injEq,Prod.mk.injEq] at h
  obtain ⟨e1,e2,e3⟩:=h
  exact ⟨i,rfl,e1,e2,e3⟩
def TmR (m:Mem) (c:List Value) (x:List Syn.Tm):Prop:=∃u,c=[u]∧TmM m u x
theorem TmR.le {m m':Mem} (hm:m.le m'):∀c x,TmR m c x→TmR m' c x:=fun _ _ ⟨u,e,h⟩=>⟨u,e,RowM.le h hm⟩
theorem ts_ (q:Option Addr) (n c:Nat):∀u∈[Value.slice q n c],u.oneCell'=true:=by
 intro u hu
 rw [List.mem_singleton] at hu
 subst hu;rfl
def EJ (m0:Mem) (w0:World) (ba b1 bp B:Nat) (acc:List (List Syn.Tm)) (W:World):Prop :=
 ∃q c cs m',W.heap[ba]?=some (.cells #[.slice q acc.length c] 55 (0,0))∧W.heap[b1]?=some (.cells #[.pointer (some ⟨bp,0,none⟩)] 95 (0,0)) ∧
  W.ownsRow B 37 1 (.slice q acc.length c) acc.length cs∧Enc (TmR m') cs acc∧Has W m'∧m0.More w0 m'∧m' ba=none∧m' b1=none∧m' bp=none∧(∀k,Value.ownBlock (.slice q acc.length c)=some k→m' k=none)∧w0.heap.size≤W.heap.size
section
variable {ys:List It} {len bp bw i:Nat} {vp:Value} {w:World}
theorem rm_ {m0 m':Mem} {w0 W w1 w9:World} {ba b1 B j c c1 c9:Nat} {q q1 q9:Option Addr} {acc:List (List Syn.Tm)} {x:List Syn.Tm} {cs:List Value} (hB:B≤ba) (hba1:ba≠b1) (_hBW:B≤W.heap.size) (hnba:¬ba=bp) (hnb1:¬b1=bp) (hbp:bp<B)
 (h1:W.heap[ba]?=some (.cells #[.slice q acc.length c] 55 (0,0))) (h3:W.ownsRow B 37 1 (.slice q acc.length c) acc.length cs) (h4:Enc (TmR m') cs acc) (h5:Has W m') (h6:m0.More w0 m') (h7:m' ba=none) (h8:m' b1=none) (h9:m' bp=none) (h10:∀k,Value.ownBlock (.slice q acc.length c)=some k→m' k=none) (h11:w0.heap.size≤W.heap.size)
 (hcc:Chg (fun k=>k=bp) W w1) (a1:TR w1 (.slice q1 x.length c1) x) (a2:PS ys len bp bw vp w1 j) (a3:∀k,Value.ownBlock (.slice q1 x.length c1)=some k→W.heap.size≤k)
 (hown9:w9.ownsRow B 37 1 (.slice q9 (acc.length+1) c9) (acc.length+1) (cs++[.slice q1 x.length c1])) (hgrow9:(w1.alloc (.cells #[.slice q1 x.length c1] 37)).grownBy w9 (Value.ownBlock (.slice q acc.length c))) (hat9:Value.ownBlock (.slice q9 (acc.length+1) c9)=Value.ownBlock (.slice q acc.length c)∨Value.ownBlock (.slice q9 (acc.length+1) c9)=some (w1.heap.size+1))
 (g1:w9.heap[ba]?=some (.cells #[.slice q acc.length c] 55 (0,0))) (g2:w9.heap[b1]?=some (.cells #[.pointer (some ⟨bp,0,none⟩)] 95 (0,0))) :
 Chg (SB bp B) W (w9.setCell ⟨ba,0,none⟩ (.slice q9 (acc.length+1) c9))∧EJ m0 w0 ba b1 bp B (acc++[x]) (w9.setCell ⟨ba,0,none⟩ (.slice q9 (acc.length+1) c9))∧PS ys len bp bw vp (w9.setCell ⟨ba,0,none⟩ (.slice q9 (acc.length+1) c9)) j:=by
 have hs1:=hcc.size
 have hC9:Chg (fun k=>k=bp∨Value.ownBlock (.slice q acc.length c)=some k) W w9:=((hcc.alloc _).mono (fun k e=>.inl (.inl e))).then (a1_ hgrow9 (fun k e=>.inl (.inr e)))
 have hC:Chg (fun k=>k=bp∨Value.ownBlock (.slice q acc.length c)=some k∨k=ba) W (w9.setCell ⟨ba,0,none⟩ (.slice q9 (acc.length+1) c9)):=(hC9.mono (fun k e=>.inl (by rcases e with e|e <;> simp [e]))).setCell (p:=⟨ba,0,none⟩) (.inl (.inr (.inr rfl))) _
 have hS:∀k,(k=bp∨Value.ownBlock (.slice q acc.length c)=some k∨k=ba)→m' k=none:=by
  rintro k (rfl|e|rfl)
  ·exact h9
  ·exact h10 k e
  ·exact h7
 have h5':Has w1 m':=h5.chg hcc (fun k e=>by subst e;exact h9)
 obtain ⟨m2,d1,d2,d3,d4⟩:=RowM.done a1 h5' (fun k hk=>h5.lt (a3 k hk))
 have hm2:∀k,k<W.heap.size→m' k=none→m2 k=none:=fun k hk e=>by
  cases e2:m2 k with
  | none=>rfl
  | some o =>
   rcases d2 k (by rw [e2];simp) with e3|e3
   ·exact (e3 e).elim
   ·have:=a3 k e3;omega
 have hqlt:∀k,Value.ownBlock (.slice q acc.length c)=some k→k<W.heap.size:=fun k hk=>(h3.lt k hk).2
 have hbal:=heap_lt h1
 have hCw:Chg (fun k=>Value.ownBlock (.slice q acc.length c)=some k∨k=ba) w1 (w9.setCell ⟨ba,0,none⟩ (.slice q9 (acc.length+1) c9)) :=
  ((((Chg.refl _ w1).alloc _).then (a1_ hgrow9 (fun k e=>.inl (.inl e)))).setCell (p:=⟨ba,0,none⟩) (.inl (.inr rfl)) _)
 have hH:Has (w9.setCell ⟨ba,0,none⟩ (.slice q9 (acc.length+1) c9)) m2:=d3.chg hCw (fun k e=>by
  rcases e with e|rfl
  ·exact hm2 k (hqlt k e) (h10 k e)
  ·exact hm2 _ hbal h7)
 have hb1w:b1<W.heap.size∨m2 b1=none:=by
  rcases Nat.lt_or_ge b1 W.heap.size with e|e
  ·exact .inl e
  ·right
   cases e2:m2 b1 with
   | none=>rfl
   | some o =>
    have hx:=d3 b1 o e2
    rcases d2 b1 (by rw [e2];simp) with e3|e3
    ·exact (e3 h8).elim
    ·obtain ⟨cur,hcu⟩:=av_ a1 e3
     have:=hC9.size
     have h9':=((Chg.refl (fun k=>Value.ownBlock (.slice q acc.length c)=some k) w1).alloc (.cells #[.slice q1 x.length c1] 37)).then (a1_ hgrow9 (fun k e=>.inl e))
     have:=h9'.heap hcu (fun e4=>by have:=hqlt _ e4;omega)
     rw [g2] at this;simp at this
 refine ⟨hC.mono (fun k e=>?_),⟨q9,c9,cs++[.slice q1 x.length c1],m2,?_,bh_ g2 (fun e=>hba1 e.symm),?_,(h4.mono (TmR.le d1)).app (Enc.one (show TmR m2 [.slice q1 x.length c1] x from ⟨_,rfl,d4⟩)),hH,⟨h6.le.trans d1,fun k e hk=>hm2 k (by omega) (h6.new k e hk)⟩,hm2 _ hbal h7,?_,hm2 _ (by omega) h9,?_,?_⟩,?_⟩
 ·rcases e with rfl|e|rfl
  ·exact .inl (.inl rfl)
  ·exact .inl (.inr (h3.lt k e).1)
  ·exact .inl (.inr hB)
 ·rw [List.length_append,List.length_singleton];exact ao_ g1 0 _
 ·rw [List.length_append,List.length_singleton]
  exact a0_ hown9 ((Chg.refl (fun k=>k=ba) w9).setCell (p:=⟨ba,0,none⟩) (.inl rfl) _) (fun k hk e=>by
   subst e
   obtain ⟨cur,hcu⟩:=av_ hown9 hk
   rw [g1] at hcu;simp at hcu)
 ·rcases hb1w with e|e
  ·exact hm2 _ e h8
  ·exact e
 ·rw [List.length_append,List.length_singleton]
  intro k hk
  rcases hat9 with e|e
  ·rw [e] at hk;exact hm2 k (hqlt k hk) (h10 k hk)
  ·rw [e] at hk
   obtain rfl:w1.heap.size+1=k:=by simpa using hk
   exact d3.lt (by omega)
 ·have:=hC.size;omega
 ·refine a2.chg hCw (fun e=>?_) (fun e=>?_)
  ·rcases e with e|e
   ·have:=(h3.lt _ e).1;omega
   ·exact hnba e.symm
  ·rcases e with e|e
   ·obtain ⟨arr,b2,_⟩:=a2.toks
    obtain ⟨cur,hcu⟩:=av_ h3 e
    have h9':=hcc.heap hcu (fun e5=>by have:=(h3.lt _ e).1;omega)
    rw [b2] at h9';simp at h9'
   ·obtain ⟨arr,b2,_⟩:=a2.toks
    have h9':=hcc.heap h1 hnba
    rw [←e,b2] at h9';simp at h9'
theorem rn_ (hw:Ws ys) {m0:Mem} {w0:World} {ba b1 B:Nat} (hB:B≤ba) (hbp:bp<B) (hba1:ba≠b1) :
 ItOk ys len bp bw B vp 192 #[.pointer (some ⟨ba,0,none⟩),.pointer (some ⟨b1,0,none⟩)] (EJ m0 w0 ba b1 bp B) (Syn.expr (Tk ys) (ys.length+1)):=by
 intro W i acc hJ hp hBW hb
 obtain ⟨q,c,cs,m',h1,h2,h3,h4,h5,h6,h7,h8,h9,h10,h11⟩:=hJ
 obtain ⟨j0,hj0,hy0,hy1,hy2⟩:=infoTms
 have hc1:=aa_ (j:=0) h1 rfl
 have hf1:=ag_ (j:=0) h1
 have hc2:=aa_ (j:=0) h2 rfl
 have hlt1:=heap_lt h1
 have hlt2:=heap_lt h2
 have hpd:PS ys len bp bw vp W.drew i:=hp.chg (S:=fun _=>False) (Chg.refl _ _).drew id id
 have hmx:prog.follows .mixedOrders=true:=by kernel_rfl
 have hnba:¬ba=bp:=by omega
 have hnb1:¬b1=bp:=fun e=>by
  subst e
  obtain ⟨⟨c',a1,_⟩,_⟩:=hp
  rw [h2] at a1;simp at a1
 have HE:=hid (qw_ hw hpd)
 cases hri:Syn.expr (Tk ys) (ys.length+1) i with
 | error q0 =>
  obtain ⟨er,k⟩:=q0
  have HRI:=hid hri
  clear hri
  have hS0:W.drew.cell? ⟨ba,0,none⟩=some (.slice q acc.length c)∧W.drew.cell? ⟨b1,0,none⟩=some (.pointer (some ⟨bp,0,none⟩)):=⟨hc1,hc2⟩
  go_enter func192,ntmps192
  refine wp_region_held_drew (S:=fun w'=>w'.cell? ⟨ba,0,none⟩=some (.slice q acc.length c)∧w'.cell? ⟨b1,0,none⟩=some (.pointer (some ⟨bp,0,none⟩))) hmx hS0 (fun hHeld=>?_)
  refine wpAnyH_take (i:=0) (v:=.slice q acc.length c) rfl (by kernel_rfl) (by kernel_rfl) (by kernel_rfl) (fun _ _ _ h=>h) (Or.inl ⟨by rfl,fun w hSw=>by obtain ⟨s1,s2⟩:=hSw;go_simp⟩) (by assumption) ?_
  simp only [Act.put,List.setIfInBounds_toArray,List.set_cons_zero,List.set_cons_succ,List.getElem_toArray,List.getElem_cons_zero]
  refine wpAnyH_take (i:=1) (v:=.pointer (some ⟨bp,0,none⟩)) rfl (by kernel_rfl) (by kernel_rfl) (by kernel_rfl) (fun _ _ _ h=>h) (Or.inl ⟨by rfl,fun w hSw=>by obtain ⟨s1,s2⟩:=hSw;go_simp⟩) (by assumption) ?_
  simp only [Act.put,List.setIfInBounds_toArray,List.set_cons_zero,List.set_cons_succ,List.getElem_toArray,List.getElem_cons_zero,List.getElem_cons_succ]
  refine wpAnyH_ready (rs:=[2]) (by kernel_rfl) (by simp) ?_
  refine AllReadyH.cons rfl (fun K hK=>?_) AllReadyH.nil
  go_simp
  go_at_call 56
  refine HE.out.mono ?_
  rw [HRI.out]
  rintro e w' ⟨hcc,rfl⟩
  exact ⟨rfl,((Chg.refl (SB bp B) W).drew).then (l1_ hcc),rfl⟩
 | ok q0 =>
  obtain ⟨x,j⟩:=q0
  have HRI:=hid hri
  clear hri
  have HROW:=hid (fun w1 (hc:Chg (fun k=>k=bp) W.drew w1)=>a0_ (w:=W.drew) (w':=w1) (xs:=cs) (v:=.slice q acc.length c) (n:=acc.length) (size:=1) (B:=B) (E:=37) (show W.drew.ownsRow B 37 1 (.slice q acc.length c) acc.length cs from h3) hc (fun k hk e=>by have:=(h3.lt k hk).1;omega))
  have HAPP:=hid (fun w1 w9 (u:Value) (hc:Chg (fun k=>k=bp) W.drew w1) (hg:(w1.alloc (.cells #[u] 37)).grownBy w9 (Value.ownBlock (.slice q acc.length c)))=>by
   have hcc:Chg (fun k=>k=bp∨Value.ownBlock (.slice q acc.length c)=some k) W.drew w9:=((hc.alloc _).mono (fun k e=>.inl (.inl e))).then (a1_ hg (fun k e=>.inl (.inr e)))
   have n1:∀(k:Nat) (arr:Array Value) (E:TypeId),W.heap[k]?=some (.cells arr E (0,0))→E≠37→k≠bp→w9.heap[k]?=some (.cells arr E (0,0)):=fun k arr E hk hE hkb =>
    hcc.heap (show W.drew.heap[k]?=_ from hk) (fun e=>by
     rcases e with e|e
     ·exact hkb e
     ·obtain ⟨cur,hcu⟩:=av_ h3 e
      rw [hk] at hcu
      simp only [Option.some.injEq,Obj.cells.injEq] at hcu
      exact hE hcu.2.1)
   exact (⟨n1 ba _ _ h1 (by decide) hnba,n1 b1 _ _ h2 (by decide) hnb1⟩:w9.heap[ba]?=some (.cells #[.slice q acc.length c] 55 (0,0))∧w9.heap[b1]?=some (.cells #[.pointer (some ⟨bp,0,none⟩)] 95 (0,0))))
  go_enter func192,ntmps192
  go_region_law
   (first
    | (go_simp;go_at_call 56;refine HE.out.mono ?_;rw [HRI.out];rintro e w1 ⟨hcc,v1,rfl,a1,a2,a3⟩;obtain ⟨q1,c1,rfl⟩:=ah_ a1;have k1:=hcc.cell (show W.drew.cell? ⟨ba,0,none⟩=_ from hc1) hnba;have k2:=hcc.cell (show W.drew.cell? ⟨b1,0,none⟩=_ from hc2) hnb1;have p1:=hcc.heap (show W.drew.heap[ba]?=_ from h1) hnba;have p2:=hcc.heap (show W.drew.heap[b1]?=_ from h2) hnb1;have k3:=ag_ (j:=0) p1;have kk:=And.intro (aa_ (j:=0) (ad_ _ (.cells #[.slice q1 x.length c1] 37) p1) rfl) (And.intro (aa_ (j:=0) (ad_ _ (.cells #[.slice q1 x.length c1] 37) p2) rfl) (ag_ (j:=0) (ad_ _ (.cells #[.slice q1 x.length c1] 37) p1))))
    | (refine ar_ rfl (.tmp 2) (.tmp 5) 55 rfl B 37 j0 (.slice none 0 0) 1 24 Tryz.underlying55 hj0 hy0 hy1 hy2 rfl (by decide) (.slice q acc.length c) acc.length cs (by simp [Act.eval]) ((HROW.out _ hcc).alloc _) ⟨_,0,none⟩ 1 1 [.slice q1 x.length c1] (by simp [Act.eval]) rfl (be_ _ [.slice q1 x.length c1] 37) (ts_ _ _ _) (by unfold maxLen;omega) (by omega) (Nat.le_trans hBW (Nat.le_trans hcc.size (by simp))) ?_;intro v9 w9 hown9 hgrow9 hat9;obtain ⟨q9,c9,rfl⟩:=ah_ hown9;obtain ⟨g1,g2⟩:=HAPP.out _ _ _ hcc hgrow9;have k4:=aa_ (j:=0) g1 rfl;have k5:=aa_ (j:=0) g2 rfl;have k6:=ag_ (j:=0) g1))
  all_goals
   go_end0
   obtain ⟨r1,r2,r3⟩:=rm_ (m0:=m0) (w0:=w0) hB hba1 hBW hnba hnb1 hbp h1 h3 h4 h5 h6 h7 h8 h9 h10 h11 (show Chg (fun k=>k=bp) W w1 from ((Chg.refl _ W).drew).then hcc) a1 a2 a3 hown9 hgrow9 (by simpa using hat9) g1 g2
   exact ⟨r1,⟨rfl,r2⟩,r3⟩
end
theorem list_ls (T:Nat→Option Syn.K) (F:Nat) (fin:List Nat) (i:Nat):Syn.list T F fin i=ls T F (Syn.expr T F) fin i:=by
 unfold Syn.list ls
 rw [qx_]
section
variable {ys:List It} {len bp bw i:Nat} {vp:Value} {w:World}
def ExOk (ys:List It) (len bp bw:Nat) (vp:Value) (m:Mem) (w:World) (es:List (List Syn.Tm)) (j:Nat) (e:Ending) (w':World):Prop :=
 ∃v m',e=.returned v∧m.More w m'∧Has w' m'∧m' bp=none∧ExM m' v es∧PS ys len bp bw vp w' j
theorem ej_done {m0:Mem} {w0 W:World} {ba b1 B:Nat} {acc:List (List Syn.Tm)} (h:EJ m0 w0 ba b1 bp B acc W) (hB:B=w0.heap.size) (hbp:bp<w0.heap.size) :
 ∃q c,W.heap[ba]?=some (.cells #[.slice q acc.length c] 55 (0,0))∧∃m',m0.More w0 m'∧Has W m'∧m' bp=none∧ExM m' (.slice q acc.length c) acc:=by
 obtain ⟨q,c,cs,m',h1,h2,h3,h4,h5,h6,h7,h8,h9,h10,h11⟩:=h
 obtain ⟨m2,d1,d2,d3,d4⟩:=RowM.done h3 h5 h10
 refine ⟨q,c,h1,m2,⟨h6.le.trans d1,fun k e hk=>?_⟩,d3,?_,cs,d4,h4.mono (TmR.le d1)⟩
 ·cases e2:m2 k with
  | none=>rfl
  | some o =>
   rcases d2 k (by rw [e2];simp) with e3|e3
   ·exact (e3 (h6.new k e hk)).elim
   ·have:=(h3.lt k e3).1;omega
 ·cases e2:m2 bp with
  | none=>rfl
  | some o =>
   rcases d2 bp (by rw [e2];simp) with e3|e3
   ·exact (e3 h9).elim
   ·have:=(h3.lt bp e3).1;omega
theorem om_ {m:Mem} (h:PS ys len bp bw vp w i) (hm:Has w m) (hbm:m bp=none) :
 PS ys len bp bw vp ((w.alloc (.cells #[.pointer (some ⟨bp,0,none⟩)] 95)).alloc (.cells #[.slice none 0 0] 55)) i ∧
 EJ m w (w.heap.size+1) w.heap.size bp w.heap.size [] ((w.alloc (.cells #[.pointer (some ⟨bp,0,none⟩)] 95)).alloc (.cells #[.slice none 0 0] 55)) ∧
 (∀l W i W',EJ m w (w.heap.size+1) w.heap.size bp w.heap.size l W→PS ys len bp bw vp W i→Chg (fun k=>k=bp) W W'→EJ m w (w.heap.size+1) w.heap.size bp w.heap.size l W'):=by
 obtain ⟨hlt,hlb⟩:=h.lt
 have hC0:Chg (fun _=>False) w ((w.alloc (.cells #[.pointer (some ⟨bp,0,none⟩)] 95)).alloc (.cells #[.slice none 0 0] 55)):=((Chg.refl _ w).alloc _).alloc _
 have hm2:=hm.chg hC0 (fun k e=>e.elim)
 have hz1:m (w.heap.size+1)=none:=hm.lt (by omega)
 have hz2:m w.heap.size=none:=hm.lt (Nat.le_refl _)
 have hsz0:w.heap.size≤((w.alloc (.cells #[.pointer (some ⟨bp,0,none⟩)] 95)).alloc (.cells #[.slice none 0 0] 55)).heap.size:=hC0.size
 refine ⟨(h.alloc _).alloc _,⟨none,0,[],m,?_,ad_ _ _ (nwn w _),World.ownsRow_nil _ _ _ _,Enc.nil,hm2,Mem.More.refl _ _,hz1,hz2,hbm,(fun k e=>by cases e),hsz0⟩,?_⟩
 ·have:=nwn (w.alloc (.cells #[.pointer (some ⟨bp,0,none⟩)] 95)) (.cells #[.slice none 0 0] 55)
  rwa [nwz] at this
 ·rintro l W i W' ⟨q,c,cs,m',h1,h2,h3,h4,h5,h6,h7,h8,h9,h10,h11⟩ hp hc
  have hsz:=hc.size
  exact ⟨q,c,cs,m',hc.heap h1 (by omega),hc.heap h2 (by omega),a0_ h3 hc (fun k hk e=>by have:=(h3.lt k hk).1;omega),h4,h5.chg hc (fun k e=>by subst e;exact h9),h6,h7,h8,h9,h10,by omega⟩
theorem mn_ (hw:Ws ys) (h:PS ys len bp bw vp w i) (s:ByteArray) (hs:Mk (bl s)=true) (hs44:bl s≠[44]) {m:Mem} (hm:Has w m) (hbm:m bp=none) :
 Calls prog 157 #[.pointer (some ⟨bp,0,none⟩),.string s] w (Ret ys len (fun k=>k=bp) w (Syn.list (Tk ys) (ys.length+1) (bl s) i) (ExOk ys len bp bw vp m w)):=by
 obtain ⟨hlt,hlb⟩:=h.lt
 obtain ⟨f1,f2,f3⟩:=om_ (w:=w) h hm hbm
 have hlist:=l2_ (len:=len) (bp:=bp) (bw:=bw) (vp:=vp) hw f1 (B:=w.heap.size) (by simp;omega) hlb hlt s hs hs44 (K:=192) (caps:=#[.pointer (some ⟨w.heap.size+1,0,none⟩),.pointer (some ⟨w.heap.size,0,none⟩)]) (enters_of func192 (by kernel_rfl) rfl) (J:=EJ m w (w.heap.size+1) w.heap.size bp w.heap.size)
  (Syn.expr_fit (ap_ ys) (by omega) 12) f3 (rn_ hw (by omega) hlt (by omega)) f2
 rw [list_ls]
 have hmf:∀(fn:Fn) (first cap:Array Value) (w:World),(Instr.makeFunc fn first cap).run prog w=.ok (.func fn first cap) w:=fun _ _ _ _=>rfl
 have hC0:Chg (fun k=>k=bp) w ((w.alloc (.cells #[.pointer (some ⟨bp,0,none⟩)] 95)).alloc (.cells #[.slice none 0 0] 55)):=((Chg.refl _ w).alloc _).alloc _
 have hSB:∀{a b:World},Chg (SB bp w.heap.size) a b→w.heap.size≤a.heap.size→Chg (fun k=>k=bp∨w.heap.size≤k) a b:=fun hc _=>hc
 change Calls _ _ _ _ (Ret ys len _ w (ls (Tk ys) (ys.length+1) (Syn.expr (Tk ys) (ys.length+1)) (bl s) i) _)
 change Calls _ _ _ _ (Ret ys len _ _ (ls (Tk ys) (ys.length+1) (Syn.expr (Tk ys) (ys.length+1)) (bl s) i) _) at hlist
 obtain ⟨RR,hRR⟩:∃RR,ls (Tk ys) (ys.length+1) (Syn.expr (Tk ys) (ys.length+1)) (bl s) i=RR:=⟨_,rfl⟩
 rw [hRR] at hlist ⊢
 clear hRR f3
 cases RR with
 | error q =>
  go_enter func157,ntmps157
  go_wp2_with (go_at_call 153;refine hlist.mono ?_;rintro e w1 ⟨hc,rfl⟩)
  exact ⟨rfl,hC0.trans hc (fun k e=>by rcases e with e|e;exact .inl e;exact .inr e),rfl⟩
 | ok q =>
  obtain ⟨es,j⟩:=q
  go_enter func157,ntmps157
  go_wp2_with fail
  go_at_call 153
  refine hlist.mono ?_
  rintro e w1 ⟨hc,⟨rfl,hej⟩,hp⟩
  obtain ⟨q,c,g1,m',g2,g3,g4,g5⟩:=ej_done hej rfl hlt
  have hcell:=aa_ (j:=0) g1 rfl
  have HEND:=hid (show Chg (fun k=>k=bp) w w1∧ExOk ys len bp bw vp m w es j (.returned (.slice q es.length c)) w1 from
   ⟨hC0.trans hc (fun k e=>by rcases e with e | e;exact .inl e;exact .inr e),_,m',rfl,g2,g3,g4,g5,hp⟩)
  clear g2 g3 g4 g5 hej hc hC0 hp g1
  go_wp2
  go_ret
  exact HEND.out
end
section
variable {ys:List It} {len bp bw i:Nat} {vp:Value} {w:World} {α:Type}
theorem an_ {K:FuncId} {args:Array Value} {S:Nat→Prop} {r:Syn.R α} {ok:α→Nat→Ending→World→Prop} (h:Calls prog K args w (Ret ys len S w r ok)) :
 Calls prog K args w fun e w'=>Chg S w w'∧((∃er k,r=.error (er,k)∧e=.panicked (gv er ((tk ys len k).a:Nat)))∨∃x j,r=.ok (x,j)∧ok x j e w'):=by
 refine h.mono fun e w' ⟨h1,h2⟩=>⟨h1,?_⟩
 cases r with
 | error q=>exact .inl ⟨q.1,q.2,rfl,h2⟩
 | ok q=>exact .inr ⟨q.1,q.2,rfl,h2⟩
theorem ai_ {S:Nat→Prop} {r:Syn.R α} {ok:α→Nat→Ending→World→Prop} {w':World} {er k:Nat} (h:r=.error (er,k)) (hC:Chg S w w'):Ret ys len S w r ok (.panicked (gv er ((tk ys len k).a:Nat))) w':=by
 rw [h];exact ⟨hC,rfl⟩
theorem bx_ {S:Nat→Prop} {r:Syn.R α} {ok:α→Nat→Ending→World→Prop} {w':World} {x:α} {j:Nat} {e:Ending} (h:r=.ok (x,j)) (hC:Chg S w w') (h2:ok x j e w'):Ret ys len S w r ok e w':=by
 rw [h];exact ⟨hC,h2⟩
theorem bt_ (hw:Ws ys) (h:PS ys len bp bw vp w i) (s:ByteArray) (hs:Mk (bl s)=true) :
 Calls prog 149 #[.pointer (some ⟨bp,0,none⟩),.string s] w fun e w'=>Chg (fun k=>k=bp) w w'∧((Syn.want (Tk ys) i (bl s)=.error (50,i)∧e=.panicked (gv (50:Nat) ((tk ys len i).a:Nat)))∨(Syn.want (Tk ys) i (bl s)=.ok ((),i+1)∧e=.returned (.tuple #[])∧PS ys len bp bw vp w' (i+1))):=by
 cases hx:Syn.is (Tk ys) i (bl s) with
 | true =>
  refine (h1_ h (a4_ hx) s (by rw [ax_,az_ hw len i hs];exact hx)).mono ?_
  rintro e w' ⟨rfl,hc,hp⟩
  exact ⟨hc,.inr ⟨if_pos hx,rfl,hp⟩⟩
 | false =>
  refine (i7_ h s (by rw [ax_,az_ hw len i hs];exact hx) (fun k=>k=bp)).mono ?_
  rintro e w' ⟨rfl,hc⟩
  exact ⟨hc,.inl ⟨if_neg (by rw [hx];simp),rfl⟩⟩
theorem e8_ (h:PS ys len bp bw vp w i) :
 Calls prog 150 #[.pointer (some ⟨bp,0,none⟩)] w fun e w'=>Chg (fun k=>k=bp) w w'∧((Syn.name (Tk ys) i=.error (50,i)∧e=.panicked (gv (50:Nat) ((tk ys len i).a:Nat)))∨(Syn.name (Tk ys) i=.ok (bl (tk ys len i).t,i+1)∧e=.returned (.string (tk ys len i).t)∧PS ys len bp bw vp w' (i+1))):=by
 cases hx:Syn.named (Tk ys) i with
 | true =>
  refine (cu_ h hx).mono ?_
  rintro e w' ⟨rfl,hc,hp⟩
  exact ⟨hc,.inr ⟨c7_ len hx,rfl,hp⟩⟩
 | false =>
  refine (eq_ h hx (fun k=>k=bp) rfl).mono ?_
  rintro e w' ⟨rfl,hc⟩
  exact ⟨hc,.inl ⟨gz_ hx,rfl⟩⟩
theorem e9_ (hw:Ws ys) (h:PS ys len bp bw vp w i) {m:Mem} (hm:Has w m) (hbm:m bp=none) :
 Calls prog 56 #[.pointer (some ⟨bp,0,none⟩)] w fun e w'=>Chg (fun k=>k=bp) w w'∧((∃er k,Syn.expr (Tk ys) (ys.length+1) i=.error (er,k)∧e=.panicked (gv er ((tk ys len k).a:Nat))) ∨
  ∃l j q c m',Syn.expr (Tk ys) (ys.length+1) i=.ok (l,j)∧e=.returned (.slice q l.length c)∧m.More w m'∧Has w' m'∧m' bp=none∧TmM m' (.slice q l.length c) l∧PS ys len bp bw vp w' j):=by
 refine (an_ (qw_ hw h)).mono ?_
 rintro e w' ⟨hc,⟨er,k,h1,h2⟩|⟨l,j,h1,v,rfl,h3,h4,h5⟩⟩
 ·exact ⟨hc,.inl ⟨er,k,h1,h2⟩⟩
 ·obtain ⟨q,c,rfl⟩:=ah_ h3
  obtain ⟨m2,d1,d2,d3,d4⟩:=RowM.done h3 (hm.chg hc (fun k e=>by subst e;exact hbm)) (fun k hk=>hm.lt (h5 k hk))
  have hnew:∀k,m k=none→k<w.heap.size→m2 k=none:=fun k e hk=>by
   cases e2:m2 k with
   | none=>rfl
   | some o =>
    rcases d2 k (by rw [e2];simp) with e3|e3
    ·exact (e3 e).elim
    ·have:=h5 k e3;omega
  exact ⟨hc,.inr ⟨l,j,q,c,m2,h1,rfl,⟨d1,hnew⟩,d3,hnew bp hbm h.lt.1,d4,h4⟩⟩
theorem gi_ {m:Mem} {W:World} (hm:Has W m) (o:Obj):Has (W.alloc o) (m.put W.heap.size o)∧m.More W (m.put W.heap.size o)∧(m.put W.heap.size o) W.heap.size=some o :=
 ⟨(hm.chg ((Chg.refl (fun _=>False) W).alloc o) (fun _ e=>e.elim)).put (nwn W o),Mem.More.put (hm.lt (Nat.le_refl _)) (Nat.le_refl _),Mem.put_same _ _ _⟩
theorem mo_ {m:Mem} {g:Nat} {u:Value} {l:List Syn.Tm} (hg:m g=some (.cells #[u] 37 (0,0))) (h:TmM m u l):ExM m (.slice (some ⟨g,0,none⟩) 1 1) [l] :=
 ⟨[u],⟨rfl,.inr ⟨g,1,#[u],rfl,hg,Nat.le_refl _,by simp [maxLen],rfl,rfl⟩⟩,[u],[],rfl,⟨u,rfl,h⟩,rfl⟩
theorem ex_two {m:Mem} {g:Nat} {u v:Value} {l r:List Syn.Tm} (hg:m g=some (.cells #[u,v] 37 (0,0))) (h:TmM m u l) (h':TmM m v r):ExM m (.slice (some ⟨g,0,none⟩) 2 2) [l,r] :=
 ⟨[u,v],⟨rfl,.inr ⟨g,2,#[u,v],rfl,hg,Nat.le_refl _,by simp [maxLen],rfl,rfl⟩⟩,[u],[v],rfl,⟨u,rfl,h⟩,[v],[],rfl,⟨v,rfl,h'⟩,rfl⟩
theorem ex_nil (m:Mem):ExM m (.slice none 0 0) []:=⟨[],RowM.nil _ _ _,rfl⟩
theorem fa_ (m:Mem):StrM m (.slice none 0 0) []:=RowM.nil _ _ _
def SOk (ys:List It) (len bp bw:Nat) (vp:Value) (m:Mem) (w:World) (st:Syn.St) (j:Nat) (e:Ending) (w':World):Prop :=
 ∃vt ve m',e=.returned (.agg #[.int .i64 (st.kind:Int),.string (sb st.name),vt,ve])∧m.More w m'∧Has w' m'∧m' bp=none∧StrM m' vt st.targets∧ExM m' ve st.exprs∧PS ys len bp bw vp w' j
theorem mp_:Mk (bl ⟨#[59]⟩)=true:=by decide
theorem mk_61:Mk (bl ⟨#[61]⟩)=true:=by decide
def callP (T:Nat→Option Syn.K) (F:Nat) (ts:List (List Nat)) (s:List Nat) (i:Nat):Syn.R Syn.St :=
 (Syn.list T F [41] i).on fun l i=>(Syn.want T i [59]).on fun _ i=>.ok (⟨4,s,ts,l⟩,i)
def stmtZ:Obj:=.cells #[.int .i64 0,.string ⟨#[]⟩,.slice none 0 0,.slice none 0 0] 57
theorem hs_ {S:Nat→Prop} {a w:World} (h:Chg S a w) {g:Nat} (hg:S g∨a.heap.size≤g) (x0 x1 x2 x3:Value) :
 Chg S a ((((w.setCell ⟨g,0,none⟩ x0).setCell ⟨g,1,none⟩ x1).setCell ⟨g,2,none⟩ x2).setCell ⟨g,3,none⟩ x3):=ly_ h hg x0 x1 x2 x3
theorem ba_ {W:World} {g:Nat} {x0 x1 x2 x3:Value} {T:TypeId} (h:W.heap[g]?=some (.cells #[x0,x1,x2,x3] T (0,0))) :
 W.cell? ⟨g,0,none⟩=some x0∧W.cell? ⟨g,1,none⟩=some x1∧W.cell? ⟨g,2,none⟩=some x2∧W.cell? ⟨g,3,none⟩=some x3∧W.frozen? ⟨g,0,none⟩=false∧W.frozen? ⟨g,1,none⟩=false∧W.frozen? ⟨g,2,none⟩=false∧W.frozen? ⟨g,3,none⟩=false :=
 ⟨aa_ h rfl,aa_ h rfl,aa_ h rfl,aa_ h rfl,ag_ h,ag_ h,ag_ h,ag_ h⟩
theorem du_ {m m3:Mem} {w w3:World} {vt ve:Value} {st:Syn.St} {j:Nat} (C:Chg (fun k=>k=bp) w w3) (hmo:m.More w m3) (hH:Has w3 m3) (hb:m3 bp=none) (hRm:m3 w.heap.size=none) (ht:StrM m3 vt st.targets) (hex:ExM m3 ve st.exprs) (hp:PS ys len bp bw vp w3 j) (hne:¬w.heap.size=bp) (hbw:bw<w.heap.size) (x0 x1 x2 x3:Value) :
 Chg (fun k=>k=bp) w ((((w3.setCell ⟨w.heap.size,0,none⟩ x0).setCell ⟨w.heap.size,1,none⟩ x1).setCell ⟨w.heap.size,2,none⟩ x2).setCell ⟨w.heap.size,3,none⟩ x3) ∧
 SOk ys len bp bw vp m w st j (.returned (.agg #[.int .i64 (st.kind:Int),.string (sb st.name),vt,ve])) ((((w3.setCell ⟨w.heap.size,0,none⟩ x0).setCell ⟨w.heap.size,1,none⟩ x1).setCell ⟨w.heap.size,2,none⟩ x2).setCell ⟨w.heap.size,3,none⟩ x3):=by
 have hc:=hs_ (Chg.refl (fun k=>k=w.heap.size) w3) (.inl rfl) x0 x1 x2 x3
 exact ⟨hs_ C (.inr (Nat.le_refl _)) _ _ _ _,vt,ve,m3,rfl,hmo,hH.chg hc (fun k e=>by subst e;exact hRm),hb,ht,hex,hp.chg hc (fun e=>hne e.symm) (by omega)⟩
theorem k4_ (hw:Ws ys) (h:PS ys len bp bw vp w i) {m:Mem} (hm:Has w m) (hbm:m bp=none) (s:ByteArray) {qt:Option Addr} {nt ct:Nat} {ts:List (List Nat)} (ht:StrM m (.slice qt nt ct) ts) :
 Calls prog 227 #[.pointer (some ⟨bp,0,none⟩),.string s,.slice qt nt ct] w (Ret ys len (fun k=>k=bp) w (callP (Tk ys) (ys.length+1) ts (bl s) i) (SOk ys len bp bw vp m w)):=by
 obtain ⟨hlt,hlb⟩:=h.lt
 have h1:=an_ (mn_ hw (h.alloc stmtZ) ⟨#[41]⟩ y4_ (by decide) (hm.chg ((Chg.refl (fun _=>False) w).alloc stmtZ) (fun _ e=>e.elim)) hbm)
 obtain ⟨RR,hRR⟩:∃RR,callP (Tk ys) (ys.length+1) ts (bl s) i=RR:=⟨_,rfl⟩
 rw [hRR]
 have H0:=hid hRR
 have C0:=hid ((Chg.refl (fun k=>k=bp) w).alloc stmtZ)
 have Hm:=hid hm
 have HT:=hid ht
 have hne:¬w.heap.size=bp:=by omega
 clear hRR h hm ht
 unfold stmtZ at h1 C0
 go_enter func227,ntmps227
 go_wp2_with fail
 go_at_call 157
 refine h1.mono ?_
 rintro e w1 ⟨hc1,⟨er,k,hr,rfl⟩|⟨es,j,hr,ve,m1,rfl,hmo,hH,hb1,hex,hp1⟩⟩
 ·exact ⟨rfl,ai_ (by rw [←H0.out];unfold callP;rw [show ([41]:List Nat)=bl ⟨#[41]⟩ from rfl,hr];rfl) (C0.out.then hc1)⟩
 ·have C1:=hid (C0.out.then hc1)
  have H1:=hid (show (Syn.want (Tk ys) j [59]).on (fun _ i=>.ok ((⟨4,bl s,ts,es⟩:Syn.St),i))=RR from by rw [←H0.out];unfold callP;rw [show ([41]:List Nat)=bl ⟨#[41]⟩ from rfl,hr];rfl)
  have hres:=hc1.heap (nwn w (.cells #[.int .i64 0,.string ⟨#[]⟩,.slice none 0 0,.slice none 0 0] 57)) hne
  obtain ⟨qe,ne,ce,rfl⟩:∃q n c,ve=.slice q n c:=by
   obtain ⟨cs,⟨_,⟨rfl,_⟩|⟨g,cap,cur,rfl,_⟩⟩,_⟩:=hex
   ·exact ⟨_,_,_,rfl⟩
   ·exact ⟨_,_,_,rfl⟩
  have EX:=hid hex
  have HH:=hid hH
  have MO:=hid hmo
  have HP1:=hid hp1
  have HRES:=hid hres
  clear hc1 hr hex hH hmo hp1 hres h1
  have hS:=hid (bt_ hw (HP1.out.alloc (.cells #[.int .i64 4,.string s,.slice qt nt ct,.slice qe ne ce] 57)) ⟨#[59]⟩ mp_)
  have hbl:=heap_lt HRES.out
  have hsN:=nwn w1 (.cells #[.int .i64 4,.string s,.slice qt nt ct,.slice qe ne ce] 57)
  go_wp2_with fail
  go_at_call 149
  refine hS.out.mono ?_
  rintro e w3 ⟨hc3,⟨hr,rfl⟩|⟨hr,rfl,hp3⟩⟩
  ·exact ⟨rfl,ai_ (by rw [←H1.out,show ([59]:List Nat)=bl ⟨#[59]⟩ from rfl,hr];rfl) ((C1.out.alloc _).then hc3)⟩
  ·have HE:=hid (show (.ok ((⟨4,bl s,ts,es⟩:Syn.St),j+1))=RR from by rw [←H1.out,show ([59]:List Nat)=bl ⟨#[59]⟩ from rfl,hr];rfl)
   have hnes:¬w1.heap.size=bp:=by have:=HP1.out.lt;omega
   obtain ⟨r0,r1,r2,r3,f0,f1,f2,f3⟩:=ba_ (hc3.heap (ad_ w1 (.cells #[.int .i64 4,.string s,.slice qt nt ct,.slice qe ne ce] 57) HRES.out) hne)
   obtain ⟨s0,s1,s2,s3,_,_,_,_⟩:=ba_ (hc3.heap hsN hnes)
   have hz1:m1 w.heap.size=none:=MO.out.new _ (Hm.out.lt (Nat.le_refl _)) (by simp)
   have HEND:=hid (du_ (m:=m) (st:=⟨4,bl s,ts,es⟩) (w:=w) (w3:=w3) ((C1.out.alloc (.cells #[.int .i64 4,.string s,.slice qt nt ct,.slice qe ne ce] 57)).then hc3) (MO.out.from (by simp)) ((HH.out.chg ((Chg.refl (fun _=>False) w1).alloc _) (fun _ e=>e.elim)).chg hc3 (fun k e=>by subst e;exact hb1)) hb1 hz1 (RowM.le HT.out MO.out.le) EX.out hp3 hne hlb (.int .i64 4) (.string s) (.slice qt nt ct) (.slice qe ne ce))
   clear hc3 hr hp3 hsN
   go_wp2
   refine bodyPost_ret (v:=.agg #[.int .i64 4,.string s,.slice qt nt ct,.slice qe ne ce]) (by simp [results,Tryz.results227,go_sem,r0,r1,r2,r3]) rfl (bx_ HE.out.symm HEND.out.1 ?_)
   have:=HEND.out.2
   rw [db_] at this
   exact this
end
def sendP (T:Nat→Option Syn.K) (F:Nat) (i:Nat):Syn.R Syn.St :=
 (Syn.name T i).on fun c i=>(Syn.expr T F i).on fun e i=>(Syn.want T i [59]).on fun _ i=>.ok (⟨3,c,[],[e]⟩,i)
def storeP (T:Nat→Option Syn.K) (F:Nat) (s:List Nat) (i:Nat):Syn.R Syn.St :=
 (Syn.expr T F i).on fun a i=>(Syn.want T i [93]).on fun _ i=>(Syn.want T i [61]).on fun _ i=>(Syn.expr T F i).on fun b i=>(Syn.want T i [59]).on fun _ i=>.ok (⟨2,s,[],[a,b]⟩,i)
section
variable {ys:List It} {len bp bw i:Nat} {vp:Value} {w:World}
theorem x6_ (hw:Ws ys) (h:PS ys len bp bw vp w i) {m:Mem} (hm:Has w m) (hbm:m bp=none) :
 Calls prog 190 #[.pointer (some ⟨bp,0,none⟩)] w (Ret ys len (fun k=>k=bp) w (sendP (Tk ys) (ys.length+1) i) (SOk ys len bp bw vp m w)):=by
 obtain ⟨hlt,hlb⟩:=h.lt
 have h1:=e8_ (h.alloc stmtZ)
 obtain ⟨RR,hRR⟩:∃RR,sendP (Tk ys) (ys.length+1) i=RR:=⟨_,rfl⟩
 rw [hRR]
 have H0:=hid hRR
 have C0:=hid ((Chg.refl (fun k=>k=bp) w).alloc stmtZ)
 have M0:=hid (hm.chg ((Chg.refl (fun _=>False) w).alloc stmtZ) (fun _ e=>e.elim))
 have Hm:=hid hm
 have hne:¬w.heap.size=bp:=by omega
 clear hRR h hm
 unfold stmtZ at h1 C0 M0
 go_enter func190,ntmps190
 go_wp2_with fail
 go_at_call 150
 refine h1.mono ?_
 rintro e w1 ⟨hc1,⟨hr,rfl⟩|⟨hr,rfl,hp1⟩⟩
 ·exact ⟨rfl,ai_ (by rw [←H0.out];unfold sendP;rw [hr];rfl) (C0.out.then hc1)⟩
 have C1:=hid (C0.out.then hc1)
 have M1:=hid (M0.out.chg hc1 (fun k e=>by subst e;exact hbm))
 have H1:=hid (show (Syn.expr (Tk ys) (ys.length+1) (i+1)).on (fun e k=>(Syn.want (Tk ys) k [59]).on fun _ k=>.ok ((⟨3,bl (tk ys len i).t,[],[e]⟩:Syn.St),k))=RR from by rw [←H0.out];unfold sendP;rw [hr];rfl)
 have HRES:=hid (hc1.heap (nwn w (.cells #[.int .i64 0,.string ⟨#[]⟩,.slice none 0 0,.slice none 0 0] 57)) hne)
 have h2:=e9_ hw hp1 M1.out hbm
 have hs1:=hc1.size
 rw [nwz] at hs1
 clear hc1 hr h1 hp1
 generalize (tk ys len i).t=s1 at *
 go_wp2_with fail
 go_at_call 56
 refine h2.mono ?_
 rintro e w2 ⟨hc2,⟨er,k,hr,rfl⟩|⟨l,j,q,c,m2,hr,rfl,hmo,hH,hb2,htm,hp2⟩⟩
 ·exact ⟨rfl,ai_ (by rw [←H1.out,hr];rfl) (C1.out.then hc2)⟩
 have C2:=hid (C1.out.then hc2)
 have H2:=hid (show (Syn.want (Tk ys) j [59]).on (fun _ k=>.ok ((⟨3,bl s1,[],[l]⟩:Syn.St),k))=RR from by rw [←H1.out,hr];rfl)
 have HRES2:=hid (hc2.heap HRES.out hne)
 obtain ⟨p1,p2,p3⟩:=gi_ hH (.cells #[.slice q l.length c] 37)
 have P1:=hid (p1.chg ((Chg.refl (fun _=>False) _).alloc (.cells #[.int .i64 3,.string s1,.slice none 0 0,.slice (some ⟨w2.heap.size,0,none⟩) 1 1] 57)) (fun _ e=>e.elim))
 have hs2:=hc2.size
 have P2:=hid ((hmo.from (w:=w) (by omega)).trans p2 (by omega))
 have EX:=hid (mo_ (g:=w2.heap.size) p3 (RowM.le htm p2.le))
 have hbg:(m2.put w2.heap.size (.cells #[.slice q l.length c] 37)) bp=none:=by rw [Mem.put_other (by omega)];exact hb2
 have hzg:(m2.put w2.heap.size (.cells #[.slice q l.length c] 37)) w.heap.size=none:=by
  rw [Mem.put_other (by omega)]
  exact hmo.new _ (Hm.out.lt (Nat.le_refl _)) (by omega)
 have HP2:=hid ((hp2.alloc (.cells #[.slice q l.length c] 37)).alloc (.cells #[.int .i64 3,.string s1,.slice none 0 0,.slice (some ⟨w2.heap.size,0,none⟩) 1 1] 57))
 have hS:=hid (bt_ hw HP2.out ⟨#[59]⟩ mp_)
 have hsN:=nwn (w2.alloc (.cells #[.slice q l.length c] 37)) (.cells #[.int .i64 3,.string s1,.slice none 0 0,.slice (some ⟨w2.heap.size,0,none⟩) 1 1] 57)
 rw [nwz] at hsN
 have HSN:=hid hsN
 generalize (m2.put w2.heap.size (.cells #[.slice q l.length c] 37))=m3 at *
 clear hc2 hr h2 hmo hH hb2 htm hp2 p1 p2 p3 hsN
 go_wp2_with fail
 go_at_call 149
 refine hS.out.mono ?_
 rintro e w3 ⟨hc3,⟨hr,rfl⟩|⟨hr,rfl,hp3⟩⟩
 ·exact ⟨rfl,ai_ (by rw [←H2.out,show ([59]:List Nat)=bl ⟨#[59]⟩ from rfl,hr];rfl) (((C2.out.alloc _).alloc _).then hc3)⟩
 have HE:=hid (show (.ok ((⟨3,bl s1,[],[l]⟩:Syn.St),j+1))=RR from by rw [←H2.out,show ([59]:List Nat)=bl ⟨#[59]⟩ from rfl,hr];rfl)
 obtain ⟨r0,r1,r2,r3,f0,f1,f2,f3⟩:=ba_ (hc3.heap (ad_ _ _ (ad_ _ _ HRES2.out)) hne)
 obtain ⟨s0,s1',s2,s3,_,_,_,_⟩:=ba_ (hc3.heap HSN.out (by omega))
 have HEND:=hid (du_ (m:=m) (st:=⟨3,bl s1,[],[l]⟩) (w:=w) (w3:=w3) (((C2.out.alloc _).alloc _).then hc3) P2.out (P1.out.chg hc3 (fun k e=>by subst e;exact hbg)) hbg hzg (fa_ _) EX.out hp3 hne hlb (.int .i64 3) (.string s1) (.slice none 0 0) (.slice (some ⟨w2.heap.size,0,none⟩) 1 1))
 clear hc3 hr hp3
 go_wp2
 refine bodyPost_ret (v:=.agg #[.int .i64 3,.string s1,.slice none 0 0,.slice (some ⟨w2.heap.size,0,none⟩) 1 1]) (by simp [results,Tryz.results190,go_sem,r0,r1,r2,r3]) rfl (bx_ HE.out.symm HEND.out.1 ?_)
 have:=HEND.out.2
 rw [db_] at this
 exact this
theorem tt_ (hw:Ws ys) (h:PS ys len bp bw vp w i) {m:Mem} (hm:Has w m) (hbm:m bp=none) (s1:ByteArray) :
 Calls prog 226 #[.pointer (some ⟨bp,0,none⟩),.string s1] w (Ret ys len (fun k=>k=bp) w (storeP (Tk ys) (ys.length+1) (bl s1) i) (SOk ys len bp bw vp m w)):=by
 obtain ⟨hlt,hlb⟩:=h.lt
 obtain ⟨RR,hRR⟩:∃RR,storeP (Tk ys) (ys.length+1) (bl s1) i=RR:=⟨_,rfl⟩
 rw [hRR]
 have H0:=hid hRR
 have C0:=hid ((Chg.refl (fun k=>k=bp) w).alloc stmtZ)
 have hM0:=hm.chg ((Chg.refl (fun _=>False) w).alloc stmtZ) (fun _ e=>e.elim)
 have h1:=e9_ hw (h.alloc stmtZ) hM0 hbm
 have Hm:=hid hm
 have hne:¬w.heap.size=bp:=by omega
 clear hRR h hm hM0
 unfold stmtZ at h1 C0
 go_enter func226,ntmps226
 go_wp2_with fail
 go_at_call 56
 refine h1.mono ?_
 rintro e w1 ⟨hc1,⟨er,k,hr,rfl⟩|⟨l,j,q,c,m1,hr,rfl,hmo,hH,hb1,htm,hp1⟩⟩
 ·exact ⟨rfl,ai_ (by rw [←H0.out];unfold storeP;rw [hr];rfl) (C0.out.then hc1)⟩
 have C1:=hid (C0.out.then hc1)
 have H1:=hid (show (Syn.want (Tk ys) j [93]).on (fun _ i=>(Syn.want (Tk ys) i [61]).on fun _ i=>(Syn.expr (Tk ys) (ys.length+1) i).on fun b i=>(Syn.want (Tk ys) i [59]).on fun _ i=>.ok ((⟨2,bl s1,[],[l,b]⟩:Syn.St),i))=RR from by rw [←H0.out];unfold storeP;rw [hr];rfl)
 have HRES:=hid (hc1.heap (nwn w (.cells #[.int .i64 0,.string ⟨#[]⟩,.slice none 0 0,.slice none 0 0] 57)) hne)
 have hs1:=hc1.size
 rw [nwz] at hs1
 have h2:=bt_ hw hp1 ⟨#[93]⟩ mk_93
 have HH1:=hid hH
 have MO1:=hid hmo
 have TM1:=hid htm
 clear hc1 hr h1 hp1 hH hmo htm
 go_wp2_with fail
 go_at_call 149
 refine h2.mono ?_
 rintro e w2 ⟨hc2,⟨hr,rfl⟩|⟨hr,rfl,hp2⟩⟩
 ·exact ⟨rfl,ai_ (by rw [←H1.out,show ([93]:List Nat)=bl ⟨#[93]⟩ from rfl,hr];rfl) (C1.out.then hc2)⟩
 have C2:=hid (C1.out.then hc2)
 have H2:=hid (show (Syn.want (Tk ys) (j+1) [61]).on (fun _ i=>(Syn.expr (Tk ys) (ys.length+1) i).on fun b i=>(Syn.want (Tk ys) i [59]).on fun _ i=>.ok ((⟨2,bl s1,[],[l,b]⟩:Syn.St),i))=RR from by rw [←H1.out,show ([93]:List Nat)=bl ⟨#[93]⟩ from rfl,hr];rfl)
 have HRES2:=hid (hc2.heap HRES.out hne)
 have HH2:=hid (HH1.out.chg hc2 (fun k e=>by subst e;exact hb1))
 have hs2:=hc2.size
 have h3:=bt_ hw hp2 ⟨#[61]⟩ mk_61
 clear hc2 hr h2 hp2
 go_wp2_with fail
 go_at_call 149
 refine h3.mono ?_
 rintro e w3 ⟨hc3,⟨hr,rfl⟩|⟨hr,rfl,hp3⟩⟩
 ·exact ⟨rfl,ai_ (by rw [←H2.out,show ([61]:List Nat)=bl ⟨#[61]⟩ from rfl,hr];rfl) (C2.out.then hc3)⟩
 have C3:=hid (C2.out.then hc3)
 have H3:=hid (show (Syn.expr (Tk ys) (ys.length+1) (j+1+1)).on (fun b i=>(Syn.want (Tk ys) i [59]).on fun _ i=>.ok ((⟨2,bl s1,[],[l,b]⟩:Syn.St),i))=RR from by rw [←H2.out,show ([61]:List Nat)=bl ⟨#[61]⟩ from rfl,hr];rfl)
 have HRES3:=hid (hc3.heap HRES2.out hne)
 have HH3:=hid (HH2.out.chg hc3 (fun k e=>by subst e;exact hb1))
 have hs3:=hc3.size
 have h4:=e9_ hw hp3 HH3.out hb1
 clear hc3 hr h3 hp3
 go_wp2_with fail
 go_at_call 56
 refine h4.mono ?_
 rintro e w4 ⟨hc4,⟨er,k,hr,rfl⟩|⟨l',j',q',c',m4,hr,rfl,hmo4,hH4,hb4,htm4,hp4⟩⟩
 ·exact ⟨rfl,ai_ (by rw [←H3.out,hr];rfl) (C3.out.then hc4)⟩
 have C4:=hid (C3.out.then hc4)
 have H4:=hid (show (Syn.want (Tk ys) j' [59]).on (fun _ i=>.ok ((⟨2,bl s1,[],[l,l']⟩:Syn.St),i))=RR from by rw [←H3.out,hr];rfl)
 have HRES4:=hid (hc4.heap HRES3.out hne)
 obtain ⟨p1,p2,p3⟩:=gi_ hH4 (.cells #[.slice q l.length c,.slice q' l'.length c'] 37)
 have P1:=hid (p1.chg ((Chg.refl (fun _=>False) _).alloc (.cells #[.int .i64 2,.string s1,.slice none 0 0,.slice (some ⟨w4.heap.size,0,none⟩) 2 2] 57)) (fun _ e=>e.elim))
 have hs4:=hc4.size
 have P2:=hid (((MO1.out.from (w:=w) (by simp)).trans (hmo4.from (w:=w) (by omega)) (Nat.le_refl _)).trans p2 (by omega))
 have EX:=hid (ex_two (g:=w4.heap.size) p3 (RowM.le (RowM.le TM1.out hmo4.le) p2.le) (RowM.le htm4 p2.le))
 have hbg:(m4.put w4.heap.size (.cells #[.slice q l.length c,.slice q' l'.length c'] 37)) bp=none:=by rw [Mem.put_other (by omega)];exact hb4
 have hzg:(m4.put w4.heap.size (.cells #[.slice q l.length c,.slice q' l'.length c'] 37)) w.heap.size=none:=by
  rw [Mem.put_other (by omega)]
  exact hmo4.new _ (MO1.out.new _ (Hm.out.lt (Nat.le_refl _)) (by simp)) (by omega)
 have HP4:=hid ((hp4.alloc (.cells #[.slice q l.length c,.slice q' l'.length c'] 37)).alloc (.cells #[.int .i64 2,.string s1,.slice none 0 0,.slice (some ⟨w4.heap.size,0,none⟩) 2 2] 57))
 have hS:=hid (bt_ hw HP4.out ⟨#[59]⟩ mp_)
 have hsN:=nwn (w4.alloc (.cells #[.slice q l.length c,.slice q' l'.length c'] 37)) (.cells #[.int .i64 2,.string s1,.slice none 0 0,.slice (some ⟨w4.heap.size,0,none⟩) 2 2] 57)
 rw [nwz] at hsN
 have HSN:=hid hsN
 generalize (m4.put w4.heap.size (.cells #[.slice q l.length c,.slice q' l'.length c'] 37))=m5 at *
 clear hc4 hr h4 hmo4 hH4 hb4 htm4 hp4 p1 p2 p3 hsN
 go_wp2_with fail
 go_at_call 149
 refine hS.out.mono ?_
 rintro e w5 ⟨hc5,⟨hr,rfl⟩|⟨hr,rfl,hp5⟩⟩
 ·exact ⟨rfl,ai_ (by rw [←H4.out,show ([59]:List Nat)=bl ⟨#[59]⟩ from rfl,hr];rfl) (((C4.out.alloc _).alloc _).then hc5)⟩
 have HE:=hid (show (.ok ((⟨2,bl s1,[],[l,l']⟩:Syn.St),j'+1))=RR from by rw [←H4.out,show ([59]:List Nat)=bl ⟨#[59]⟩ from rfl,hr];rfl)
 obtain ⟨r0,r1,r2,r3,f0,f1,f2,f3⟩:=ba_ (hc5.heap (ad_ _ _ (ad_ _ _ HRES4.out)) hne)
 obtain ⟨s0,s1',s2,s3,_,_,_,_⟩:=ba_ (hc5.heap HSN.out (by omega))
 have HEND:=hid (du_ (m:=m) (st:=⟨2,bl s1,[],[l,l']⟩) (w:=w) (w3:=w5) (((C4.out.alloc _).alloc _).then hc5) P2.out (P1.out.chg hc5 (fun k e=>by subst e;exact hbg)) hbg hzg (fa_ _) EX.out hp5 hne hlb (.int .i64 2) (.string s1) (.slice none 0 0) (.slice (some ⟨w4.heap.size,0,none⟩) 2 2))
 clear hc5 hr hp5
 go_wp2
 refine bodyPost_ret (v:=.agg #[.int .i64 2,.string s1,.slice none 0 0,.slice (some ⟨w4.heap.size,0,none⟩) 2 2]) (by simp [results,Tryz.results226,go_sem,r0,r1,r2,r3]) rfl (bx_ HE.out.symm HEND.out.1 ?_)
 have:=HEND.out.2
 rw [db_] at this
 exact this
end
def assignP (T:Nat→Option Syn.K) (F:Nat) (ts:List (List Nat)) (i:Nat):Syn.R Syn.St :=
 (Syn.expr T F i).on fun e i=>(Syn.want T i [59]).on fun _ i=>.ok (⟨1,[],ts,[e]⟩,i)
def callsP (T:Nat→Option Syn.K) (F:Nat) (ts:List (List Nat)) (i:Nat):Syn.R Syn.St :=
 (Syn.name T i).on fun s i=>(Syn.want T i [40]).on fun _ i=>callP T F ts s i
def restP (T:Nat→Option Syn.K) (F:Nat) (ts:List (List Nat)) (i:Nat):Syn.R Syn.St :=
 (Syn.want T i [61]).on fun _ i=>if ts.length=1∧¬(Syn.named T i=true∧Syn.is T (i+1) [40]=true) then assignP T F ts i else callsP T F ts i
def namedP (T:Nat→Option Syn.K) (F:Nat) (i:Nat):Syn.R Syn.St :=
 (Syn.name T i).on fun s i =>
  if Syn.is T i [91] then storeP T F s (i+1)
  else if Syn.is T i [40] then callP T F [] s (i+1)
  else (Syn.targetsF T F [s] i).on fun ts i=>restP T F ts i
def oneP (r:Syn.R Syn.St):Syn.R (List Syn.St):=r.on fun s j=>.ok ([s],j)
theorem fb_ {α β γ:Type} (r:Syn.R α) (f:α→Nat→Syn.R β) (g:β→Nat→Syn.R γ):(r.on f).on g=r.on fun x i=>(f x i).on g:=by
 cases r with
 | error q=>rfl
 | ok q=>rfl
theorem tu_ (T:Nat→Option Syn.K) (F:Nat) (ts:List (List Nat)) (s:List Nat) (i:Nat):Syn.call T F ts s i=oneP ((Syn.want T i [40]).on fun _ i=>callP T F ts s i):=by
 unfold Syn.call oneP callP
 simp only [fb_]
 rfl
theorem pq_ (T:Nat→Option Syn.K) (F:Nat) (i:Nat):Syn.plain T F i=oneP (namedP T F i):=by
 unfold Syn.plain oneP namedP
 rw [fb_]
 congr 1
 funext s i
 by_cases h1:Syn.is T i [91]=true
 ·rw [if_pos h1,if_pos h1]
  unfold storeP
  simp only [fb_]
  rfl
 ·rw [if_neg h1,if_neg h1]
  by_cases h2:Syn.is T i [40]=true
  ·rw [if_pos h2,if_pos h2,tu_]
   rw [show Syn.want T i [40]=.ok ((),i+1) from if_pos h2]
   rfl
  ·rw [if_neg h2,if_neg h2,fb_]
   congr 1
   funext ts i
   unfold restP
   rw [fb_]
   congr 1
   funext _ i
   by_cases h3:ts.length=1∧¬(Syn.named T i=true∧Syn.is T (i+1) [40]=true)
   ·rw [if_pos h3,if_pos h3]
    unfold assignP
    simp only [fb_]
    rfl
   ·rw [if_neg h3,if_neg h3]
    unfold callsP
    rw [fb_]
    congr 1
    funext s i
    rw [tu_]
    rfl
section
variable {ys:List It} {len bp bw i:Nat} {vp:Value} {w:World}
theorem cz_ {m:Mem} {E:TypeId} {size n:Nat} {v:Value} {xs:List Value} (h:RowM m E size v n xs):∃q c,v=.slice q n c:=by
 obtain ⟨_,⟨rfl,rfl⟩|⟨g,cap,cur,rfl,_⟩⟩:=h
 ·exact ⟨_,_,rfl⟩
 ·exact ⟨_,_,rfl⟩
theorem dv_ {m:Mem} {v:Value} {l:List (List Syn.Tm)} (h:ExM m v l):∃q c,v=.slice q l.length c:=by
 obtain ⟨cs,h1,_⟩:=h
 exact cz_ h1
theorem tv_ (h:PS ys len bp bw vp w i) (hn:Syn.named (Tk ys) i=false) (S:Nat→Prop) (hS:S bp) :
 Calls prog 191 #[.pointer (some ⟨bp,0,none⟩)] w fun e w'=>e=.panicked (gv 50 ((tk ys len i).a:Nat))∧Chg S w w':=by
 have h1:=eq_ (h.alloc stmtZ) hn S hS
 unfold stmtZ at h1
 go_enter func191,ntmps191
 go_wp2_with fail
 go_at_call 150
 refine h1.mono ?_
 rintro e w1 ⟨rfl,hc⟩
 exact ⟨rfl,rfl,((Chg.refl S w).alloc _).then hc⟩
theorem on_ (hw:Ws ys) (h:PS ys len bp bw vp w i) {m:Mem} (hm:Has w m) (hbm:m bp=none) (hn:Syn.named (Tk ys) i=true) (hb:Syn.is (Tk ys) (i+1) [91]=true) :
 Calls prog 191 #[.pointer (some ⟨bp,0,none⟩)] w (Ret ys len (fun k=>k=bp) w (storeP (Tk ys) (ys.length+1) (bl (tk ys len i).t) (i+1+1)) (SOk ys len bp bw vp m w)):=by
 obtain ⟨hlt,hlb⟩:=h.lt
 have hn1:=cu_ (h.alloc stmtZ) hn
 have Hm:=hid hm
 have C0:=hid ((Chg.refl (fun k=>k=bp) w).alloc stmtZ)
 have M0:=hid (hm.chg ((Chg.refl (fun _=>False) w).alloc stmtZ) (fun _ e=>e.elim))
 have hne:¬w.heap.size=bp:=by omega
 have HSK:=hid (fun w1 (hp:PS ys len bp bw vp w1 (i+1))=>f6_ hp (a4_ hb) ⟨#[91]⟩ (by rw [ax_,az_ hw len (i+1) r6_];exact hb))
 obtain ⟨RR,hRR⟩:∃RR,storeP (Tk ys) (ys.length+1) (bl (tk ys len i).t) (i+1+1)=RR:=⟨_,rfl⟩
 rw [hRR]
 have H0:=hid hRR
 clear hRR h hm hn hb
 unfold stmtZ at hn1 C0 M0
 go_enter func191,ntmps191
 go_wp2_with fail
 go_at_call 150
 refine hn1.mono ?_
 rintro e w1 ⟨rfl,hc1,hp1⟩
 have hs1:=hc1.size
 rw [nwz] at hs1
 have C1:=hid (C0.out.then hc1)
 have M1:=hid (M0.out.chg hc1 (fun k e=>by subst e;exact hbm))
 have HRES:=hid (hc1.heap (nwn w (.cells #[.int .i64 0,.string ⟨#[]⟩,.slice none 0 0,.slice none 0 0] 57)) hne)
 have hsk:=HSK.out w1 hp1
 clear hc1 hp1 hn1
 go_wp2_with fail
 go_at_call 95
 refine hsk.mono ?_
 rintro e w2 ⟨rfl,hc2,hp2⟩
 go_wp2_with fail
 have hs2:=hc2.size
 have C2:=hid (C1.out.then hc2)
 have M2:=hid (M1.out.chg hc2 (fun k e=>by subst e;exact hbm))
 have HRES2:=hid (hc2.heap HRES.out hne)
 have hst:=an_ (tt_ hw hp2 M2.out hbm (tk ys len i).t)
 clear hc2 hp2 hsk
 go_at_call 226
 refine hst.mono ?_
 rintro e w3 ⟨hc3,⟨er,k,hr,rfl⟩|⟨st,j,hr,vt,ve,m',rfl,hmo,hH,hb3,ht,hex,hp3⟩⟩
 ·exact ⟨rfl,ai_ (by rw [←H0.out,hr]) (C2.out.then hc3)⟩
 obtain ⟨qt,ct,rfl⟩:=cz_ ht
 obtain ⟨qe,ce,rfl⟩:=dv_ hex
 have HE:=hid (show .ok (st,j)=RR from by rw [←H0.out,hr])
 obtain ⟨r0,r1,r2,r3,f0,f1,f2,f3⟩:=ba_ (hc3.heap HRES2.out hne)
 have HEND:=hid (du_ (m:=m) (st:=st) (w:=w) (w3:=w3) (C2.out.then hc3) (hmo.from (by omega)) hH hb3 (hmo.new _ (Hm.out.lt (Nat.le_refl _)) (by omega)) ht hex hp3 hne hlb (.int .i64 (st.kind:Int)) (.string (sb st.name)) (.slice qt st.targets.length ct) (.slice qe st.exprs.length ce))
 clear hc3 hr hp3 hmo hH hb3 ht hex hst
 go_wp2
 exact bodyPost_ret (v:=.agg #[.int .i64 (st.kind:Int),.string (sb st.name),.slice qt st.targets.length ct,.slice qe st.exprs.length ce]) (by simp [results,Tryz.results191,go_sem,r0,r1,r2,r3]) rfl (bx_ HE.out.symm HEND.out.1 HEND.out.2)
theorem ro_ (hw:Ws ys) (h:PS ys len bp bw vp w i) {m:Mem} (hm:Has w m) (hbm:m bp=none) (hn:Syn.named (Tk ys) i=true) (hb:Syn.is (Tk ys) (i+1) [91]=false) (hq:Syn.is (Tk ys) (i+1) [40]=true) :
 Calls prog 191 #[.pointer (some ⟨bp,0,none⟩)] w (Ret ys len (fun k=>k=bp) w (callP (Tk ys) (ys.length+1) [] (bl (tk ys len i).t) (i+1+1)) (SOk ys len bp bw vp m w)):=by
 obtain ⟨hlt,hlb⟩:=h.lt
 have hn1:=cu_ (h.alloc stmtZ) hn
 have Hm:=hid hm
 have C0:=hid ((Chg.refl (fun k=>k=bp) w).alloc stmtZ)
 have M0:=hid (hm.chg ((Chg.refl (fun _=>False) w).alloc stmtZ) (fun _ e=>e.elim))
 have hne:¬w.heap.size=bp:=by omega
 have HSK:=hid (fun w1 (hp:PS ys len bp bw vp w1 (i+1))=>gw_ hp ⟨#[91]⟩ (by rw [ax_,az_ hw len (i+1) r6_];exact hb))
 have HSQ:=hid (fun w1 (hp:PS ys len bp bw vp w1 (i+1))=>f6_ hp (a4_ hq) ⟨#[40]⟩ (by rw [ax_,az_ hw len (i+1) g0_];exact hq))
 obtain ⟨RR,hRR⟩:∃RR,callP (Tk ys) (ys.length+1) [] (bl (tk ys len i).t) (i+1+1)=RR:=⟨_,rfl⟩
 rw [hRR]
 have H0:=hid hRR
 clear hRR h hm hn hb hq
 unfold stmtZ at hn1 C0 M0
 go_enter func191,ntmps191
 go_wp2_with fail
 go_at_call 150
 refine hn1.mono ?_
 rintro e w1 ⟨rfl,hc1,hp1⟩
 have hs1:=hc1.size
 rw [nwz] at hs1
 have C1:=hid (C0.out.then hc1)
 have M1:=hid (M0.out.chg hc1 (fun k e=>by subst e;exact hbm))
 have HRES:=hid (hc1.heap (nwn w (.cells #[.int .i64 0,.string ⟨#[]⟩,.slice none 0 0,.slice none 0 0] 57)) hne)
 have hsk:=HSK.out w1 hp1
 have hsq:=HSQ.out w1 hp1
 clear hc1 hp1 hn1
 go_wp2_with fail
 go_at_call 95
 refine hsk.mono ?_
 rintro e w2 ⟨rfl,rfl⟩
 go_wp2_with fail
 go_at_call 95
 refine hsq.mono ?_
 rintro e w2 ⟨rfl,hc2,hp2⟩
 have hs2:=hc2.size
 have C2:=hid (C1.out.then hc2)
 have M2:=hid (M1.out.chg hc2 (fun k e=>by subst e;exact hbm))
 have HRES2:=hid (hc2.heap HRES.out hne)
 have hst:=an_ (k4_ hw hp2 M2.out hbm (tk ys len i).t (fa_ m))
 clear hc2 hp2 hsk hsq
 go_wp2_with fail
 go_at_call 227
 refine hst.mono ?_
 rintro e w3 ⟨hc3,⟨er,k,hr,rfl⟩|⟨st,j,hr,vt,ve,m',rfl,hmo,hH,hb3,ht,hex,hp3⟩⟩
 ·exact ⟨rfl,ai_ (by rw [←H0.out,hr]) (C2.out.then hc3)⟩
 obtain ⟨qt,ct,rfl⟩:=cz_ ht
 obtain ⟨qe,ce,rfl⟩:=dv_ hex
 have HE:=hid (show .ok (st,j)=RR from by rw [←H0.out,hr])
 obtain ⟨r0,r1,r2,r3,f0,f1,f2,f3⟩:=ba_ (hc3.heap HRES2.out hne)
 have HEND:=hid (du_ (m:=m) (st:=st) (w:=w) (w3:=w3) (C2.out.then hc3) (hmo.from (by omega)) hH hb3 (hmo.new _ (Hm.out.lt (Nat.le_refl _)) (by omega)) ht hex hp3 hne hlb (.int .i64 (st.kind:Int)) (.string (sb st.name)) (.slice qt st.targets.length ct) (.slice qe st.exprs.length ce))
 clear hc3 hr hp3 hmo hH hb3 ht hex hst
 go_wp2
 exact bodyPost_ret (v:=.agg #[.int .i64 (st.kind:Int),.string (sb st.name),.slice qt st.targets.length ct,.slice qe st.exprs.length ce]) (by simp [results,Tryz.results191,go_sem,r0,r1,r2,r3]) rfl (bx_ HE.out.symm HEND.out.1 HEND.out.2)
end
end Go.Proofs.YtpcniebkabkikaaGreatDoor
