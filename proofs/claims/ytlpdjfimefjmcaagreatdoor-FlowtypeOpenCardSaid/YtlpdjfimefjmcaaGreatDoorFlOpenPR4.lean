/- One block that is written step by step, beside what is known; a row that is taken over whole. The kit's lent source, each row in blocks of its own. (Written by a program.) Plain: names of a source: what a name stands for, whether a statement fits, the first fault. (The shapes of a source come from t -/
import Derived.Test.YtlpdjfimefjmcaaGreatDoorFlOpenPR3
import Derived.Laws.Rows
open Go.Lib (hid)
namespace Go.Proofs.YtlpdjfimefjmcaaGreatDoor
open Go Go.RowKit Go.Proofs.Mm
theorem und_ars:Tryz.prog.underlying 24=some (.slice 39):=by kernel_rfl
theorem und_fns:Tryz.prog.underlying 25=some (.slice 43):=by kernel_rfl
theorem infoAz:∃i,Tryz.prog.info? 39=some i∧i.zero=some (.agg #[.string ⟨#[]⟩,.int .i64 0,.int .u64 0])∧i.size=3∧i.bytes=32:=infoOf (by kernel_rfl)
theorem infoFz:∃i,Tryz.prog.info? 43=some i∧i.zero=some (.agg #[.string ⟨#[]⟩,.int .u64 0,.slice none 0 0,.slice none 0 0,.slice none 0 0,.slice none 0 0])∧i.size=6∧i.bytes=120:=infoOf (by kernel_rfl)
theorem undOf {P:Program} {t:TypeId} (h:(P.underlying t).map (fun d=>match d with | .struct _ | .array _ _=>true | _=>false)=some true):∃d,P.underlying t=some d∧(match d with | .struct _ | .array _ _=>true | _=>false)=true:=by
 cases hd:P.underlying t with
 | none=>rw [hd] at h;cases h
 | some d =>
  rw [hd] at h
  exact ⟨d,rfl,by simpa using h⟩
theorem undSo:∃d,Tryz.prog.underlying 27=some d∧(match d with | .struct _ | .array _ _=>true | _=>false)=true:=undOf (by kernel_rfl)
theorem sizeSo:(Tryz.prog.info? 27).map (·.size)=some 5:=by kernel_rfl
section
variable {w w1 w2:World} {m m1 m2:Mem} {b:Nat} {cs:Array Value} {T:TypeId}
structure Kp (w:World) (m:Mem) (b:Nat) (cs:Array Value) (T:TypeId) (w':World) (m':Mem):Prop where
 below:Below w.heap.size w w'
 has:Has w' m'
 more:m.More w m'
 le:w.heap.size≤b
 lies:w'.heap[b]?=some (.cells cs T (0,0))
 new:m' b=none
theorem Kp.step (h:Kp w m b cs T w1 m1) (hb:Below w1.heap.size w1 w2) (hmo:m1.More w1 m2) (hH:Has w2 m2):Kp w m b cs T w2 m2 :=
 ⟨h.below.trans (hb.mono h.below.size),hH,h.more.trans hmo h.below.size,h.le,by rw [hb.block _ (heap_lt h.lies)];exact h.lies,hmo.new b h.new (heap_lt h.lies)⟩
theorem Kp.set (h:Kp w m b cs T w1 m1) (i:Nat) (v:Value):Kp w m b (cs.setIfInBounds i v) T (w1.setCell ⟨b,i,none⟩ v) m1 :=
 ⟨h.below.setCell h.le v,h.has.chg ((Chg.refl (fun k=>k=b) w1).setCell (.inl rfl) _) (fun k e=>by rw [e];exact h.new),h.more,h.le,heap_set h.lies i v,h.new⟩
theorem Kp.cell (h:Kp w m b cs T w1 m1) {i:Nat} {v:Value} (hv:cs[i]?=some v):w1.cell? ⟨b,i,none⟩=some v:=cell_of h.lies hv
theorem Kp.free (h:Kp w m b cs T w1 m1) (i:Nat):w1.frozen? ⟨b,i,none⟩=false:=free_of h.lies
theorem Kp.start (hm:Has w m) (cs:Array Value) (T:TypeId):Kp w m w.heap.size cs T (w.alloc (.cells cs T)) m :=
 ⟨(Below.refl _ w).alloc (Nat.le_refl _) _,has_grown hm ((Below.refl _ w).alloc (Nat.le_refl _) _),Mem.More.refl _ _,Nat.le_refl _,World.alloc_heap_new _ _,hm.lt (Nat.le_refl _)⟩
end
section
variable {P:Program}
theorem wpList_append_rd {ops:Array Oper} {rest:List Oper} {o:Oper} {a:Act} {w:World} {Q:Exit→Act→World→Prop} (hgd:o.guard=none) (s x:Operand) (t:TypeId)
 (ho:o.op=.call { callee:=.builtin .append,args:=#[s,x],argTypes:=#[t,t] })
 (e:TypeId) (i:TypeInfo) (z:Value) (size bytes:Nat) (ht:P.underlying t=some (.slice e)) (hi:P.info? e=some i) (hz:i.zero=some z)
 (hsize:i.size=size) (hby:i.bytes=bytes) (hzs:z.cells.size=size) (hsz:0<size)
 (hs:a.eval s=.slice none 0 0)
 (q:Option Addr) (m c:Nat) (news:List Value) (hx:a.eval x=.slice q m c) (hq:q=none→c=0) (hmc:m≤c) (hl:news.length=m*size) (hnews:∀ad,q=some ad→∀j u,news[j]?=some u→w.cell? (ad.add j)=some u) (h1:∀u∈news,u.oneCell'=true)
 (h63:m≤maxLen) (hbytes:m*bytes≤140737488355328)
 (h:∀q' c' w',w'.ownsRow w.heap.size e size (.slice q' m c') m news→Below w.heap.size w w'→wpList P ops Q rest (a.put o.dst (.slice q' m c')) w') :
 wpList P ops Q (o::rest) a w:=by
 have hnil:=World.ownsRow_nil w w.heap.size e size
 rcases q with _|ad
 ·obtain rfl:c=0:=hq rfl
  obtain rfl:m=0:=by omega
  have hn:news=[]:=List.eq_nil_of_length_eq_zero (by simpa using hl)
  subst hn
  exact wpList_append_own_none hgd s x t ho w.heap.size e i size ht hi _ 0 [] hs hnil hx (h none 0 w hnil (Below.refl _ w))
 ·refine wpList_append_own w hgd s x t ho w.heap.size e i z size bytes ht hi hz hsize hby hzs hsz _ 0 [] hs hnil ad m c news hx hl (hnews ad rfl) h1 (by omega) (by rwa [Nat.zero_add]) (Nat.le_refl _) ?_
  intro v' w' hR hg _
  rw [Nat.zero_add,List.nil_append] at hR
  obtain ⟨q',c',rfl⟩:=own_shape hR
  exact h q' c' w' hR (grown_below (Below.refl _ w) (Nat.le_refl _) hg (fun j hj=>by cases hj))
end
theorem one_Ar {l:List ArZ} {cs:List Value} (h:Enc (fun c s=>c=arZv s∧s.label<u64B) cs l):∀u∈cs,u.oneCell'=true:=by
 induction l generalizing cs with
 | nil=>obtain rfl:cs=[]:=h;intro u hu;cases hu
 | cons x l ih =>
  obtain ⟨c,r,rfl,⟨rfl,_⟩,h2⟩:=h
  intro u hu
  rcases List.mem_append.1 hu with hu|hu
  ·simp only [arZv,List.mem_cons,List.not_mem_nil,or_false] at hu
   rcases hu with rfl|rfl|rfl <;> rfl
  ·exact ih h2 u hu
theorem ArsR.take {C:Cl} {q:Option Addr} {n c:Nat} {l:List ArZ} (h:ArsR false C (.slice q n c) l):∃cs,l.length=n∧(q=none→c=0)∧n≤c∧cs.length=n*3∧(∀ad,q=some ad→∀j u,cs[j]?=some u→C (ad.add j)=some u)∧(∀u∈cs,u.oneCell'=true)∧n≤maxLen∧n*32≤140737488351232∧Enc (fun c s=>c=arZv s∧s.label<u64B) cs l:=by
 obtain ⟨q',c',cs,e,_,hr,he,hb,hmax,hqn,hlc⟩:=h
 obtain ⟨rfl,rfl,rfl⟩:q=q'∧n=l.length∧c=c':=by injection e with a b c;exact ⟨a,b,c⟩
 obtain ⟨hcl,_⟩:=encZ_at ar_lenZ he
 refine ⟨cs,rfl,hqn,hlc,hcl,?_,one_Ar he,by omega,hb,he⟩
 intro ad hq
 rcases hr with hr|⟨g,o,hq2,hr⟩
 ·have:=(List.append_eq_nil_iff.1 hr).1
  subst this
  intro j u hu
  simp at hu
 ·rw [hq] at hq2
  injection hq2 with hq2
  subst hq2
  exact enc_cells he (fun j u hu=>hr j u (by rw [List.getElem?_append_left ((List.getElem?_eq_some_iff.1 hu).1)];exact hu))
theorem fnR_mono:∀m m':Mem,m.le m'→∀c x,FnR1 true (mC m) c x→FnR1 true (mC m') c x:=fun _ _ h _ _ e=>e.le (mle_cle h)
def Mem.nil:Mem:=fun _=>none
def Mem.join (a b:Mem):Mem:=fun k=>match a k with
 | some o=>some o
 | none=>b k
theorem has_nil (w:World):Has w Mem.nil:=fun k o e=>by cases e
theorem join_left (a b:Mem):a.le (Mem.join a b):=fun k o e=>by unfold Mem.join;rw [e]
theorem join_right {a b:Mem} (h:∀k,a k=none∨b k=none):b.le (Mem.join a b):=fun k o e=>by
 unfold Mem.join
 rcases h k with h|h
 ·rw [h];exact e
 ·rw [e] at h;cases h
theorem join_apart {w:World} {a b:Mem} (ha:Has w a) (hb:Mem.nil.More w b):∀k,a k=none∨b k=none:=fun k=>by
 by_cases h:k<w.heap.size
 ·exact .inr (hb.new k rfl h)
 ·exact .inl (ha.lt (by omega))
theorem join_more {w:World} {a b:Mem} (hb:Mem.nil.More w b):a.More w (Mem.join a b) :=
 ⟨join_left a b,fun k e hk=>by unfold Mem.join;rw [e];exact hb.new k rfl hk⟩
theorem join_has {w:World} {a b:Mem} (ha:Has w a) (hb:Has w b):Has w (Mem.join a b):=fun k o e=>by
 unfold Mem.join at e
 split at e
 ·rename_i h;injection e with e;subst e;exact ha k _ h
 ·exact hb k o e
theorem has_sub {w:World} {a b:Mem} (h:Has w b) (hl:a.le b):Has w a:=fun k o e=>h k o (hl k o e)
structure Sep (w w':World) (mP mG mH mA mF:Mem):Prop where
 hP:Has w' mP
 hG:Has w' mG
 hH:Has w' mH
 hA:Has w' mA
 hF:Has w' mF
 own:∃f:Nat→Nat,∀k o,(mP k=some o→f k=1∧w.heap.size≤k)∧(mG k=some o→f k=2∧w.heap.size≤k)∧(mH k=some o→f k=3∧w.heap.size≤k)∧(mA k=some o→f k=4∧w.heap.size≤k)∧(mF k=some o→f k=5∧w.heap.size≤k)
theorem ap_step {a b:Mem} {f:Nat→Nat} {n:Nat} (h:∀k,a k=none∨b k=none):∃g:Nat→Nat,(∀k o,a k=some o→g k=f k)∧∀k o,b k=some o→g k=n :=
 ⟨fun k=>if (b k).isSome then n else f k,fun k o e=>by
  rcases h k with h|h
  ·rw [h] at e;cases e
  ·show (if (b k).isSome then n else f k)=f k
   rw [h];rfl,fun k o e=>by
  show (if (b k).isSome then n else f k)=n
  rw [e];rfl⟩
theorem sep_own {B:Nat} {mP mG mH mA mF m2 m3 m4 m5:Mem} (l1:mP.le m2) (l2:mG.le m2) (l3:m2.le m3) (l4:mH.le m3) (l5:m3.le m4) (l6:mA.le m4) (l7:m4.le m5) (l8:mF.le m5) (a2:∀k,mP k=none∨mG k=none) (a3:∀k,m2 k=none∨mH k=none) (a4:∀k,m3 k=none∨mA k=none) (a5:∀k,m4 k=none∨mF k=none) (hn:∀k,k<B→m5 k=none) :
 ∃f:Nat→Nat,∀k o,(mP k=some o→f k=1∧B≤k)∧(mG k=some o→f k=2∧B≤k)∧(mH k=some o→f k=3∧B≤k)∧(mA k=some o→f k=4∧B≤k)∧(mF k=some o→f k=5∧B≤k):=by
 obtain ⟨f2,x1,x2⟩:=ap_step (f:=fun _=>1) (n:=2) a2
 obtain ⟨f3,y1,y2⟩:=ap_step (f:=f2) (n:=3) a3
 obtain ⟨f4,z1,z2⟩:=ap_step (f:=f3) (n:=4) a4
 obtain ⟨f5,u1,u2⟩:=ap_step (f:=f4) (n:=5) a5
 have hb:∀k o,m5 k=some o→B≤k:=fun k o e=>by
  by_cases h:k<B
  ·rw [hn k h] at e;cases e
  ·omega
 refine ⟨f5,fun k o=>⟨fun e=>?_,fun e=>?_,fun e=>?_,fun e=>?_,fun e=>?_⟩⟩
 ·have e2:=l1 _ _ e;have e3:=l3 _ _ e2;have e4:=l5 _ _ e3
  exact ⟨(u1 _ _ e4).trans ((z1 _ _ e3).trans ((y1 _ _ e2).trans (x1 _ _ e))),hb _ _ (l7 _ _ e4)⟩
 ·have e2:=l2 _ _ e;have e3:=l3 _ _ e2;have e4:=l5 _ _ e3
  exact ⟨(u1 _ _ e4).trans ((z1 _ _ e3).trans ((y1 _ _ e2).trans (x2 _ _ e))),hb _ _ (l7 _ _ e4)⟩
 ·have e3:=l4 _ _ e;have e4:=l5 _ _ e3
  exact ⟨(u1 _ _ e4).trans ((z1 _ _ e3).trans (y2 _ _ e)),hb _ _ (l7 _ _ e4)⟩
 ·have e4:=l6 _ _ e
  exact ⟨(u1 _ _ e4).trans (z2 _ _ e),hb _ _ (l7 _ _ e4)⟩
 ·exact ⟨u2 _ _ e,hb _ _ (l8 _ _ e)⟩
set_option maxRecDepth 100000 in
set_option maxHeartbeats 8000000 in
theorem lentSource_sep {w:World} {v:Value} {s:SoZ} (h:SrcR false (wC w) v s) :
 Calls Tryz.prog 9 #[v] w fun e w'=>∃p1 d1 p2 d2 p3 d3 p4 d4 p5 d5 mP mG mH mA mF,e=.returned (.agg #[.slice p1 s.principals.length d1,.slice p2 s.globals.length d2,.slice p3 s.arrays.length d3,.slice p4 s.channels.length d4,.slice p5 s.funcs.length d5])∧Below w.heap.size w w'∧Sep w w' mP mG mH mA mF ∧
  StrR true (mC mP) (.slice p1 s.principals.length d1) s.principals∧DesR true (mC mG) (.slice p2 s.globals.length d2) s.globals∧ArsR true (mC mA) (.slice p3 s.arrays.length d3) s.arrays∧DesR true (mC mH) (.slice p4 s.channels.length d4) s.channels∧FnsR true (mC mF) (.slice p5 s.funcs.length d5) s.funcs:=by
 obtain ⟨v1,v2,v3,v4,v5,rfl,h1,h2,h3,h4,h5⟩:=h
 obtain ⟨q1,c1,rfl⟩:=SlX.shape h1
 obtain ⟨q2,c2,rfl⟩:=SlX.shape h2
 obtain ⟨q3,c3,rfl⟩:=SlX.shape h3
 obtain ⟨q4,c4,rfl⟩:=SlX.shape h4
 obtain ⟨q5,c5,rfl⟩:=SlX.shape h5
 have hl5:=slx_len h5
 obtain ⟨n1,hn1⟩:∃n,s.principals.length=n:=⟨_,rfl⟩
 obtain ⟨n2,hn2⟩:∃n,s.globals.length=n:=⟨_,rfl⟩
 obtain ⟨n3,hn3⟩:∃n,s.arrays.length=n:=⟨_,rfl⟩
 obtain ⟨n4,hn4⟩:∃n,s.channels.length=n:=⟨_,rfl⟩
 obtain ⟨n5,hn5⟩:∃n,s.funcs.length=n:=⟨_,rfl⟩
 rw [hn1] at h1 ⊢
 rw [hn2] at h2 ⊢
 rw [hn3] at h3 ⊢
 rw [hn4] at h4 ⊢
 rw [hn5] at h5 hl5 ⊢
 obtain ⟨cs3,l3,hq3,hmc3,hcl3,hnw3,hon3,hmx3,hby3,he3⟩:=h3.take
 have H1:=hid (fun w' (hb:Below w.heap.size w w')=>show StrR false (wC w') (.slice q1 n1 c1) s.principals from StrR.le h1 (below_cle hb))
 have H2:=hid (fun w' (hb:Below w.heap.size w w')=>show DesR false (wC w') (.slice q2 n2 c2) s.globals from h2.le (below_cle hb))
 have H3:=hid (fun w' (hb:Below w.heap.size w w')=>show ∀ad,q3=some ad→∀j u,cs3[j]?=some u→w'.cell? (ad.add j)=some u from fun ad e j u hu=>below_cle hb _ _ (hnw3 ad e j u hu))
 have H4:=hid (fun w' (hb:Below w.heap.size w w')=>show DesR false (wC w') (.slice q4 n4 c4) s.channels from h4.le (below_cle hb))
 have HA5:=hid h5.cells
 have HN1:=hid hn1
 have HN2:=hid hn2
 have HN4:=hid hn4
 have HN5:=hid hn5
 have HE3:=hid he3
 have HL3:=hid l3
 have HM:=hid (has_nil w)
 clear h1 h2 h3 h4 h5 hn1 hn2 hn3 hn4 hn5 he3 hnw3 l3
 obtain ⟨i3,hi3,hz3,hs3,hbb3⟩:=infoAz
 obtain ⟨i5,hi5,hz5,hs5,hbb5⟩:=infoFz
 go_enter Tryz.func9,Tryz.ntmps9
 go_wp2_with fail
 obtain ⟨wA,hA⟩:∃wA,(w.alloc (.cells #[.slice q1 n1 c1,.slice q2 n2 c2,.slice q3 n3 c3,.slice q4 n4 c4,.slice q5 n5 c5] 27)).alloc (.cells #[.slice none 0 0,.slice none 0 0,.slice none 0 0,.slice none 0 0,.slice none 0 0] 27)=wA:=⟨_,rfl⟩
 have hbA:Below w.heap.size w wA:=by rw [←hA];exact ((Below.refl _ w).alloc (Nat.le_refl _) _).alloc (by simp) _
 have hszA:wA.heap.size=w.heap.size+1+1:=by rw [←hA];simp
 have hX1:wA.heap[w.heap.size+1]?=some (.cells #[.slice none 0 0,.slice none 0 0,.slice none 0 0,.slice none 0 0,.slice none 0 0] 27 (0,0)):=by
  have h9:=World.alloc_heap_new (w.alloc (.cells #[.slice q1 n1 c1,.slice q2 n2 c2,.slice q3 n3 c3,.slice q4 n4 c4,.slice q5 n5 c5] 27)) (.cells #[.slice none 0 0,.slice none 0 0,.slice none 0 0,.slice none 0 0,.slice none 0 0] 27)
  rwa [show (w.alloc (.cells #[.slice q1 n1 c1,.slice q2 n2 c2,.slice q3 n3 c3,.slice q4 n4 c4,.slice q5 n5 c5] 27)).heap.size=w.heap.size+1 by simp,hA] at h9
 have hX0:wA.heap[w.heap.size]?=some (.cells #[.slice q1 n1 c1,.slice q2 n2 c2,.slice q3 n3 c3,.slice q4 n4 c4,.slice q5 n5 c5] 27 (0,0)):=by rw [←hA];exact heap_new _ _ (World.alloc_heap_new _ _)
 rw [hA]
 obtain ⟨W1,hW1⟩:∃W1,wA.alloc (.cells #[.slice none 0 0,.slice none 0 0,.slice none 0 0,.slice none 0 0,.slice none 0 0] 27)=W1:=⟨_,rfl⟩
 have hK:Kp wA Mem.nil (w.heap.size+1+1) #[.slice none 0 0,.slice none 0 0,.slice none 0 0,.slice none 0 0,.slice none 0 0] 27 W1 Mem.nil:=by rw [←hW1,←hszA];exact Kp.start (has_grown HM.out hbA) _ _
 rw [hW1]
 clear hW1 hA
 have HBA:=hid (show ∀w',Below wA.heap.size wA w'→Below w.heap.size w w' from fun w' hb=>hbA.trans (hb.mono hbA.size))
 have HS:=hid (fun w' (hb:Below wA.heap.size wA w')=>show w'.cell? ⟨w.heap.size,0,none⟩=some (.slice q1 n1 c1)∧w'.cell? ⟨w.heap.size,1,none⟩=some (.slice q2 n2 c2)∧w'.cell? ⟨w.heap.size,2,none⟩=some (.slice q3 n3 c3)∧w'.cell? ⟨w.heap.size,3,none⟩=some (.slice q4 n4 c4)∧w'.cell? ⟨w.heap.size,4,none⟩=some (.slice q5 n5 c5) from by
  have hx:w'.heap[w.heap.size]?=_:=(hb.block _ (by omega)).trans hX0
  exact ⟨cell_of hx rfl,cell_of hx rfl,cell_of hx rfl,cell_of hx rfl,cell_of hx rfl⟩)
 have HX1:=hid (fun w' (hb:Below wA.heap.size wA w')=>(hb.block (w.heap.size+1) (by omega)).trans hX1)
 have HSZ:=hid hszA
 clear hX0 hX1 hszA
 go_at_call 19
 refine (lentStrings_any (H1.out _ (HBA.out _ hK.below)) (has_nil _)).mono ?_
 rintro e w2 ⟨x1,m1,rfl,hb2,hmo2,hH2,hS1⟩
 obtain ⟨p1,d1,rfl⟩:=SlX.shape hS1
 rw [HN1.out] at hS1 ⊢
 have HS1:=hid hS1
 have hK1:=hK.step hb2 hmo2 hH2
 clear hK hS1 hb2 hmo2 hH2
 have HK1:=hid (hK1.set 0 (.slice p1 n1 d1))
 have f0:=hK1.free 0
 have g0:=hK1.cell (i:=0) rfl
 have s1:=(HS.out _ hK1.below).2.1
 have hle1:=hK1.below.size
 clear hK1
 go_wp2_with fail
 go_at_call 20
 refine (lentDecls_any (H2.out _ (HBA.out _ HK1.out.below)) (has_nil _)).mono ?_
 rintro e w3 ⟨x2,mG,rfl,hb3,hmoE,hHE,hS2⟩
 have HA2:=hid (join_apart HK1.out.has hmoE)
 have hmo3:=join_more (a:=m1) hmoE
 have hH3:=join_has (has_grown HK1.out.has hb3) hHE
 have hl:=join_right HA2.out
 obtain ⟨m2,hm2⟩:∃m,Mem.join m1 mG=m:=⟨_,rfl⟩
 rw [hm2] at hmo3 hH3 hl
 have HL2:=hid hl
 clear hm2 hl hmoE hHE
 obtain ⟨p2,d2,rfl⟩:=SlX.shape hS2
 rw [HN2.out] at hS2 ⊢
 have HS2:=hid hS2
 have hK2:=HK1.out.step hb3 hmo3 hH3
 have HLE2:=hid hmo3.le
 clear hS2 hb3 hmo3 hH3 f0 g0 s1 hle1 HK1
 have HK2:=hid (hK2.set 1 (.slice p2 n2 d2))
 have f1:=hK2.free 1
 have g1:=hK2.cell (i:=1) rfl
 have s3:=(HS.out _ hK2.below).2.2.2.1
 clear hK2
 go_wp2_with fail
 go_at_call 20
 refine (lentDecls_any (H4.out _ (HBA.out _ HK2.out.below)) (has_nil _)).mono ?_
 rintro e w4 ⟨x4,mH,rfl,hb4,hmoE,hHE,hS4⟩
 have HA3:=hid (join_apart HK2.out.has hmoE)
 have hmo4:=join_more (a:=m2) hmoE
 have hH4:=join_has (has_grown HK2.out.has hb4) hHE
 have hl:=join_right HA3.out
 obtain ⟨m3,hm3⟩:∃m,Mem.join m2 mH=m:=⟨_,rfl⟩
 rw [hm3] at hmo4 hH4 hl
 have HL3':=hid hl
 clear hm3 hl hmoE hHE
 obtain ⟨p4,d4,rfl⟩:=SlX.shape hS4
 rw [HN4.out] at hS4 ⊢
 have HS4:=hid hS4
 have hK3:=HK2.out.step hb4 hmo4 hH4
 have HLE3:=hid hmo4.le
 clear hS4 hb4 hmo4 hH4 f1 g1 s3 HK2
 have HK3:=hid (hK3.set 3 (.slice p4 n4 d4))
 have f3:=hK3.free 3
 have g3:=hK3.cell (i:=3) rfl
 obtain ⟨u3,hu3⟩:∃u3,Value.slice q3 n3 c3=u3:=⟨_,rfl⟩
 have HU3:=hid hu3.symm
 have s2:=(HS.out _ hK3.below).2.2.1
 rw [hu3] at s2
 clear hu3
 clear hK3
 go_wp2_with (at_builtin;refine wpList_append_rd rfl _ _ 24 rfl 39 i3 _ 3 32 und_ars hi3 hz3 hs3 hbb3 rfl (by decide) rfl q3 n3 c3 cs3 HU3.out hq3 hmc3 hcl3 (H3.out _ (HBA.out _ HK3.out.below)) hon3 hmx3 (by omega) ?_)
 intro q' c' w5 hR5 hb5
 clear f3 g3 s2
 obtain ⟨W4,hW4⟩:∃W4,w4.setCell ⟨w.heap.size+1+1,3,none⟩ (.slice p4 n4 d4)=W4:=⟨_,rfl⟩
 have hWs:w4.heap.size=W4.heap.size:=by rw [←hW4];simp
 rw [hW4] at HK3 hb5
 rw [hWs] at hR5 hb5
 clear hW4 hWs
 have hnew:=row_new w5 (mkA true) 39
 have hone:∀u∈mkA true,u.oneCell'=true:=by intro u hu;simp only [mkA,if_true,List.mem_cons,List.not_mem_nil,or_false] at hu;rcases hu with rfl|rfl|rfl <;> rfl
 have hz5:=hb5.size
 go_wp2_with (at_builtin;refine wpList_append_own_at _ rfl _ _ 24 rfl W4.heap.size 39 i3 _ 3 32 und_ars hi3 hz3 hs3 hbb3 rfl (by decide) _ n3 cs3 rfl (hR5.alloc _) ⟨w5.heap.size,0,none⟩ 1 1 (mkA true) rfl rfl hnew hone (by unfold maxLen;omega) (by omega) (by simp;omega) ?_)
 intro v6 w6 hR6 hg6 _ _
 obtain ⟨p3,d3,rfl⟩:=own_shape hR6
 have hb6:Below W4.heap.size W4 w6:=grown_below (hb5.alloc hz5 _) (by simp;omega) hg6 (fun j hj=>(hR5.lt j hj).1)
 have hcap:n3+1≤d3:=by
  rcases hR6.2 with ⟨_,h0⟩|⟨g',cap',cur,h0,_,_,h1,_,_⟩
  ·omega
  ·injection h0 with _ _ h4
   omega
 obtain ⟨mA,hmoE,hHE,hS3⟩:=lent_done (w:=W4) (m:=Mem.nil) (bs:=32) (R:=fun _=>(fun c s=>c=arZv s∧s.label<u64B)) (has_nil _) (fun _ _=>rfl) hR6 HL3.out HE3.out (fun _ _ _ _ _ h=>h) hby3
 have HS3:=hid (show ArsR true (mC mA) (.slice p3 n3 d3) s.arrays from hS3)
 have HA4:=hid (join_apart HK3.out.has hmoE)
 have hmo6:=join_more (a:=m3) hmoE
 have hH6:=join_has (has_grown HK3.out.has hb6) hHE
 have hl:=join_right HA4.out
 obtain ⟨m4,hm4⟩:∃m,Mem.join m3 mA=m:=⟨_,rfl⟩
 rw [hm4] at hmo6 hH6 hl
 have HL4':=hid hl
 clear hm4 hl hmoE hHE
 have hK4:=HK3.out.step hb6 hmo6 hH6
 have HLE4:=hid hmo6.le
 clear hS3 hb6 hmo6 hH6 hg6 hR6 hR5 hnew hone hz5 hb5 HK3
 have HK4:=hid (hK4.set 2 (.slice p3 n3 d3))
 have f2:=hK4.free 2
 have g2:=hK4.cell (i:=2) rfl
 have s2:=(HS.out _ hK4.below).2.2.1
 clear hK4
 go_wp2_with fail
 clear f2 g2 s2
 obtain ⟨W5,hW5⟩:∃W5,w6.setCell ⟨w.heap.size+1+1,2,none⟩ (.slice p3 n3 d3)=W5:=⟨_,rfl⟩
 rw [hW5] at HK4
 try rw [hW5]
 clear hW5
 have HW5:=hid (show ∀w',Below W5.heap.size W5 w'→Below wA.heap.size wA w' from fun w' hb=>HK4.out.below.trans (hb.mono HK4.out.below.size))
 go_loopw [5,6] (RwI 43 6 (fun m=>FnR1 true (mC m)) W5 Mem.nil n5 s.funcs) (fun _ i _=>n5 - (intOf i).toNat)
 case atStart=>exact RwI.start (has_nil _)
 case round =>
  obtain ⟨k,qF,cF,cs,mm,hk,rfl,rfl,HF,HE,HM1,HMo,HFr,HB⟩:=hrel
  generalize wr=V at *
  have HBW:=hid (HW5.out _ HB.out)
  have s4:=(HS.out _ HBW.out).2.2.2.2
  by_cases hlt:k<n5
  ·have hkl:k<s.funcs.length:=by rw [HN5.out];exact hlt
   obtain ⟨g,o,qp,cp,qr,cr,qv,cv,qb,cb,rfl,a0,a1,a2,a3,a4,a5,hfl⟩:=HA5.out k hkl
   have hle:=below_cle (HBA.out _ HBW.out)
   have x0:=hle _ _ a0
   have x1:=hle _ _ a1
   have x2:=hle _ _ a2
   have x3:=hle _ _ a3
   have x4:=hle _ _ a4
   have x5:=hle _ _ a5
   unfold wC at x0 x1 x2 x3 x4 x5
   clear a0 a1 a2 a3 a4 a5 hle
   have HBV:=hid (show ∀w',Below V.heap.size V w'→Below w.heap.size w w' from fun w' hb=>HBA.out _ (HBW.out.trans (hb.mono HBW.out.size)))
   obtain ⟨hlv,hp,hr,hv,hbd⟩:=hfl
   obtain ⟨d,hd⟩:∃d,s.funcs[k]=d:=⟨_,rfl⟩
   rw [hd] at x0 x1 x2 x3 x4 x5 hlv hp hr hv hbd
   have HDD:=hid hd
   clear hd
   obtain ⟨np,hnp⟩:∃n,d.params.length=n:=⟨_,rfl⟩
   obtain ⟨nr,hnr⟩:∃n,d.results.length=n:=⟨_,rfl⟩
   obtain ⟨nv,hnv⟩:∃n,d.vars.length=n:=⟨_,rfl⟩
   obtain ⟨nb,hnb⟩:∃n,d.body.length=n:=⟨_,rfl⟩
   rw [hnp] at x2 hp
   rw [hnr] at x3 hr
   rw [hnv] at x4 hv
   rw [hnb] at x5 hbd
   obtain ⟨nm,hnm⟩:∃n,d.name=n:=⟨_,rfl⟩
   obtain ⟨lv,hlvl⟩:∃n,d.level=n:=⟨_,rfl⟩
   rw [hnm] at x0
   rw [hlvl] at x1
   have HP:=hid hp
   have HR:=hid hr
   have HV:=hid hv
   have HBD:=hid hbd
   have HNP:=hid hnp
   have HNR:=hid hnr
   have HNV:=hid hnv
   have HNB:=hid hnb
   have HNM:=hid hnm
   have HLV:=hid hlvl
   have HLU:=hid hlv
   clear hp hr hv hbd hnp hnr hnv hnb hnm hlvl hlv
   have hglt:g<V.heap.size:=World.block_lt_of_cell? _ _ x0
   have hki:(k:Int)<(n5:Int):=by omega
   go_wp2_with fail
   obtain ⟨W6,hW6⟩:∃W6,V.alloc (.cells #[.string nm,.int .u64 (lv:Nat),.slice qp np cp,.slice qr nr cr,.slice qv nv cv,.slice qb nb cb] 43)=W6:=⟨_,rfl⟩
   have HP0:=hid (show Kp V mm V.heap.size #[.string nm,.int .u64 (lv:Nat),.slice qp np cp,.slice qr nr cr,.slice qv nv cv,.slice qb nb cb] 43 W6 mm by rw [←hW6];exact Kp.start HM1.out _ _)
   rw [hW6]
   clear hW6 x0 x1 x2 x3 x4 x5 hglt s4
   go_at_call 20
   refine (lentDecls_any (HP.out.le (below_cle (HBV.out _ HP0.out.below))) HP0.out.has).mono ?_
   rintro e y1 ⟨x,e1,rfl,hb,hmo,hH,hS⟩
   obtain ⟨pp,dp,rfl⟩:=SlX.shape hS
   rw [HNP.out] at hS ⊢
   have HR1:=hid hS
   have hP:=HP0.out.step hb hmo hH
   have HLF1:=hid hmo.le
   clear hS hb hmo hH
   have HP1:=hid (hP.set 2 (.slice pp np dp))
   have ff:=hP.free 2
   have gg:=hP.cell (i:=2) rfl
   have jj:=hP.cell (i:=3) rfl
   have hle:=hP.below.size
   clear hP
   go_wp2_with fail
   clear ff gg hle jj
   go_at_call 21
   refine (lentLabels_any (HR.out.le (below_cle (HBV.out _ HP1.out.below))) HP1.out.has).mono ?_
   rintro e y2 ⟨x,e2,rfl,hb,hmo,hH,hS⟩
   obtain ⟨pr,dr,rfl⟩:=SlX.shape hS
   rw [HNR.out] at hS ⊢
   have HR2:=hid hS
   have hP:=HP1.out.step hb hmo hH
   have HLF2:=hid hmo.le
   clear hS hb hmo hH
   have HP2:=hid (hP.set 3 (.slice pr nr dr))
   have ff:=hP.free 3
   have gg:=hP.cell (i:=3) rfl
   have jj:=hP.cell (i:=4) rfl
   have hle:=hP.below.size
   clear hP
   go_wp2_with fail
   clear ff gg hle jj
   go_at_call 20
   refine (lentDecls_any (HV.out.le (below_cle (HBV.out _ HP2.out.below))) HP2.out.has).mono ?_
   rintro e y3 ⟨x,e3,rfl,hb,hmo,hH,hS⟩
   obtain ⟨pv,dv,rfl⟩:=SlX.shape hS
   rw [HNV.out] at hS ⊢
   have HR3:=hid hS
   have hP:=HP2.out.step hb hmo hH
   have HLF3:=hid hmo.le
   clear hS hb hmo hH
   have HP3:=hid (hP.set 4 (.slice pv nv dv))
   have ff:=hP.free 4
   have gg:=hP.cell (i:=4) rfl
   have jj:=hP.cell (i:=5) rfl
   have hle:=hP.below.size
   clear hP
   go_wp2_with fail
   clear ff gg hle jj
   go_at_call 22
   refine (lentStmts_any (HBD.out.le (below_cle (HBV.out _ HP3.out.below))) HP3.out.has).mono ?_
   rintro e y4 ⟨x,e4,rfl,⟨gb,db,rfl⟩,hb,hmo,hH,hS⟩
   rw [HNB.out] at hS ⊢
   have HR4:=hid hS
   have hP:=HP3.out.step hb hmo hH
   have HLF4:=hid hmo.le
   clear hS hb hmo hH
   have HP4:=hid (hP.set 5 (.slice (some ⟨gb,0,none⟩) nb db))
   have ff:=hP.free 5
   have gg:=hP.cell (i:=5) rfl
   have hle:=hP.below.size
   clear hP
   obtain ⟨W7,hW7⟩:∃W7,y4.setCell ⟨V.heap.size,5,none⟩ (.slice (some ⟨gb,0,none⟩) nb db)=W7:=⟨_,rfl⟩
   rw [hW7] at HP4
   have t0:W7.cell? ⟨V.heap.size,0,none⟩=some (.string nm):=HP4.out.cell rfl
   have t1:W7.cell? ⟨V.heap.size,1,none⟩=some (.int .u64 (lv:Nat)):=HP4.out.cell rfl
   have t2:W7.cell? ⟨V.heap.size,2,none⟩=some (.slice pp np dp):=HP4.out.cell rfl
   have t3:W7.cell? ⟨V.heap.size,3,none⟩=some (.slice pr nr dr):=HP4.out.cell rfl
   have t4:W7.cell? ⟨V.heap.size,4,none⟩=some (.slice pv nv dv):=HP4.out.cell rfl
   have t5:W7.cell? ⟨V.heap.size,5,none⟩=some (.slice (some ⟨gb,0,none⟩) nb db):=HP4.out.cell rfl
   have hrow:=own_chg HF.out (Below.chg HP4.out.below (Nat.le_refl _) (fun _=>False)) (fun _ _ e=>e)
   have hnew:=row_new W7 [.string nm,.int .u64 (lv:Nat),.slice pp np dp,.slice pr nr dr,.slice pv nv dv,.slice (some ⟨gb,0,none⟩) nb db] 43
   have hone:∀u∈[Value.string nm,.int .u64 (lv:Nat),.slice pp np dp,.slice pr nr dr,.slice pv nv dv,.slice (some ⟨gb,0,none⟩) nb db],u.oneCell'=true:=by
    intro u hu
    simp only [List.mem_cons,List.not_mem_nil,or_false] at hu
    rcases hu with rfl|rfl|rfl|rfl|rfl|rfl <;> rfl
   have hs7:=HP4.out.below.size
   have hs6:=HB.out.size
   go_wp2_with (at_builtin;refine wpList_append_own_at _ rfl _ _ 25 rfl W5.heap.size 43 i5 _ 6 120 und_fns hi5 hz5 hs5 hbb5 rfl (by decide) _ _ _ rfl (hrow.alloc _) ⟨W7.heap.size,0,none⟩ 1 1 [.string nm,.int .u64 (lv:Nat),.slice pp np dp,.slice pr nr dr,.slice pv nv dv,.slice (some ⟨gb,0,none⟩) nb db] rfl rfl hnew hone (by unfold maxLen;omega) (by omega) (by simp;omega) ?_)
   intro v10 w10 hR10 hg10 _ hat
   obtain ⟨q10,c10,rfl,r1,r2,r3,r4,r5,r6⟩:=rw_step hkl HE.out HMo.out HFr.out HB.out HF.out HP4.out.below HP4.out.more HP4.out.has fnR_mono (by
    rw [HDD.out]
    refine ⟨_,_,_,_,by rw [HNM.out,HLV.out],HLU.out,HR1.out.le (mle_cle (HLF2.out.trans (HLF3.out.trans HLF4.out))),HR2.out.le (mle_cle (HLF3.out.trans HLF4.out)),HR3.out.le (mle_cle HLF4.out),HR4.out⟩) hR10 hg10 (by simpa using hat)
   clear hR10 hg10 hat hrow t0 t1 t2 t3 t4 t5 hnew hone hs7 hs6
   go_wp2_with fail
   exact ⟨⟨k+1,q10,c10,_,e4,by omega,by go_num,rfl,r1,r2,r3,r4,r5,r6⟩,by simp [intOf];omega⟩
  ·obtain rfl:k=n5:=by omega
   have hrow:=HF.out
   have hnew:=row_new V (mkF true) 43
   have hone:∀u∈mkF true,u.oneCell'=true:=by intro u hu;simp only [mkF,if_true,List.mem_cons,List.not_mem_nil,or_false] at hu;rcases hu with rfl|rfl|rfl|rfl|rfl|rfl <;> rfl
   have hws:=HB.out.size
   go_wp2_with (at_builtin;refine wpList_append_own_at _ rfl _ _ 25 rfl W5.heap.size 43 i5 _ 6 120 und_fns hi5 hz5 hs5 hbb5 rfl (by decide) _ _ _ rfl (hrow.alloc _) ⟨V.heap.size,0,none⟩ 1 1 (mkF true) rfl rfl hnew hone (by unfold maxLen;omega) (by omega) (by simp;omega) ?_)
   intro v2 w8 hR2 hg2 _ hat
   obtain ⟨p5,d5,rfl,hcap5,-,HD,HB2⟩:=rw_end (m:=Mem.nil) HN5.out HE.out HMo.out HFr.out HB.out hrow HM1.out fnR_mono hR2 hg2 (by simpa using hat) hl5
   clear hg2 hR2 hrow hat s4 hnew hone hws
   obtain ⟨mF,hmoE,hHE,hS⟩:=HD.out
   have HA5':=hid (join_apart HK4.out.has hmoE)
   have hmo:=join_more (a:=m4) hmoE
   have hH:=join_has (has_grown HK4.out.has HB2.out) hHE
   have hl:=join_right HA5'.out
   obtain ⟨m5,hm5⟩:∃m,Mem.join m4 mF=m:=⟨_,rfl⟩
   rw [hm5] at hmo hH hl
   have HL5':=hid hl
   clear hm5 hl hmoE hHE
   have hK5:=HK4.out.step HB2.out hmo hH
   have HLE5:=hid hmo.le
   have HS5:=hid (show FnsR true (mC mF) (.slice p5 k d5) s.funcs from hS)
   clear hmo hH hS HD
   have HK5:=hid (hK5.set 4 (.slice p5 k d5))
   have f4:=hK5.free 4
   have g4:=hK5.cell (i:=4) rfl
   have s4:=(HS.out _ hK5.below).2.2.2.2
   have j0:=hK5.cell (i:=0) rfl
   have j1:=hK5.cell (i:=1) rfl
   have j2:=hK5.cell (i:=2) rfl
   have j3:=hK5.cell (i:=3) rfl
   have hx1:=HX1.out _ hK5.below
   have k0:=cell_of (j:=0) hx1 rfl
   have k1:=cell_of (j:=1) hx1 rfl
   have k2:=cell_of (j:=2) hx1 rfl
   have k3:=cell_of (j:=3) hx1 rfl
   have k4:=cell_of (j:=4) hx1 rfl
   have l0:=free_of (j:=0) hx1
   have l1:=free_of (j:=1) hx1
   have l2:=free_of (j:=2) hx1
   have l3:=free_of (j:=3) hx1
   have l4:=free_of (j:=4) hx1
   clear hK5
   go_wp2
   (try simp only [Exit.inBlock,Exit.then])
   obtain ⟨d9,u1,u2⟩:=undSo
   have hx2:=heap_other (b:=w.heap.size+1+1) (j:=4) (v:=.slice p5 k d5) hx1 (by omega)
   have hx3:=heap_set (heap_set (heap_set (heap_set (heap_set hx2 0 (.slice p1 n1 d1)) 1 (.slice p2 n2 d2)) 2 (.slice p3 n3 d3)) 3 (.slice p4 n4 d4)) 4 (.slice p5 k d5)
   refine bodyPost_ret (results_cell_row rfl _ _ (w.heap.size+1) 27 _ (0,0) d9 rfl hx3 u1 (by cases d9 <;> first|rfl|cases u2) sizeSo) rfl ?_
   have h0:m5 (w.heap.size+1)=none:=HK5.out.more.new _ (HM.out.lt (by omega)) (by rw [HSZ.out];omega)
   have st:∀(W:World) i v,Has W m5→Has (W.setCell ⟨w.heap.size+1,i,none⟩ v) m5:=fun W i v h=>h.chg ((Chg.refl (fun k=>k=w.heap.size+1) W).setCell (.inl rfl) v) (fun k e=>by rw [e];exact h0)
   have hq:w.heap.size≤w.heap.size+1:=Nat.le_succ _
   have hF9:=st _ 4 (.slice p5 k d5) (st _ 3 (.slice p4 n4 d4) (st _ 2 (.slice p3 n3 d3) (st _ 1 (.slice p2 n2 d2) (st _ 0 (.slice p1 n1 d1) HK5.out.has))))
   have hL4:=HLE5.out
   have hL3:=HLE4.out.trans hL4
   have hL2:=HLE3.out.trans hL3
   have hL1:=HLE2.out.trans hL2
   refine ⟨p1,d1,p2,d2,p3,d3,p4,d4,p5,d5,m1,mG,mH,mA,mF,rfl,?_,⟨has_sub hF9 hL1,has_sub hF9 (HL2.out.trans hL2),has_sub hF9 (HL3'.out.trans hL3),has_sub hF9 (HL4'.out.trans hL4),has_sub hF9 HL5'.out,?_⟩,HS1.out,HS2.out,HS3.out,HS4.out,HS5.out⟩
   ·exact (((((HBA.out _ HK5.out.below).setCell hq _).setCell hq _).setCell hq _).setCell hq _).setCell hq _
   ·exact sep_own HLE2.out HL2.out HLE3.out HL3'.out HLE4.out HL4'.out HLE5.out HL5'.out HA2.out HA3.out HA4.out HA5'.out (fun k hk=>HK5.out.more.new _ rfl (by rw [HSZ.out];omega))
end Go.Proofs.YtlpdjfimefjmcaaGreatDoor
namespace Go.Proofs.YtlpdjfimefjmcaaGreatDoor
open Go
def nmB (c:Nat):Bool:=(decide (97≤c) && decide (c≤122)) || c == 95 || (decide (48≤c) && decide (c≤57))
def dgB (c:Nat):Bool:=decide (48≤c) && decide (c≤57)
def nameZ (s:ByteArray):Bool :=
 !(bl s).isEmpty && decide ((bl s).length≤32) && !((bl s).head?.any dgB) && !decide (bl s∈keysL) && (bl s).all nmB
def idxZ (l:List ByteArray) (n:ByteArray):Option Nat:=l.findIdx? fun x=>decide (x=n)
def locZ (s:SoZ) (f:Int) (n:ByteArray):Option Nat :=
 if f<0 then none else
 match s.funcs[f.toNat]? with
 | none=>none
 | some d=>match idxZ (d.params.map DeZ.name) n with
  | some k=>some k
  | none=>(idxZ (d.vars.map DeZ.name) n).map (·+d.params.length)
def fndZ (s:SoZ) (f:Int) (n:ByteArray):Option (Nat × Nat) :=
 match locZ s f n with
 | some k=>some (1,k)
 | none=>match idxZ (s.globals.map DeZ.name) n with
  | some k=>some (2,k)
  | none=>match idxZ (s.arrays.map ArZ.name) n with
   | some k=>some (3,k)
   | none=>match idxZ (s.channels.map DeZ.name) n with
    | some k=>some (4,k)
    | none=>(idxZ (s.funcs.map FnZ.name) n).map fun k=>(5,k)
def goodT (t:TmZ):Bool :=
 if t.kind=1 then decide (0≤t.value) && t.name.toList.isEmpty
 else if t.kind=2∨t.kind=3 then decide (t.value=0) && nameZ t.name
 else if t.kind=4 then decide (15≤t.value∧t.value≤17) && t.name.toList.isEmpty
 else if t.kind=5 then decide (1≤t.value∧t.value≤14) && t.name.toList.isEmpty
 else false
def tkT (t:TmZ):Nat:=if t.kind=5 then 2 else if t.kind=3∨t.kind=4 then 1 else 0
def whF:List TmZ→Nat→Bool
 | [],n=>n == 1
 | t::l,n=>goodT t && decide (tkT t≤n) && whF l (n - tkT t+1)
def formZ (k:Int):Option (Bool × Option Nat × Option Nat) :=
 if k=1 then some (false,some 1,some 1) else if k=2 then some (true,some 0,some 2) else if k=3 then some (true,some 0,some 1)
 else if k=4 then some (true,none,none) else if k=5∨k=7 then some (false,some 0,some 1) else if k=6∨k=8 then some (false,some 0,some 0)
 else if k=9 then some (false,some 0,none) else none
def isC (n:Nat) (w:Option Nat):Bool:=match w with
 | none=>true
 | some m=>n == m
def fitZ (x:StZ):Bool:=match formZ x.kind with
 | none=>false
 | some (nd,tg,ex)=>(if nd then nameZ x.name else x.name.toList.isEmpty) && isC x.targets.length tg && isC x.exprs.length ex && x.targets.all nameZ && x.exprs.all fun e=>whF e 0
def fst0:List Nat→Nat
 | []=>0
 | e::l=>if e=0 then fst0 l else e
def grpF (most:Nat) (e:Nat→Nat) (base:Nat):Nat→Nat→Option (Nat × Nat)
 | 0,_=>none
 | n+1,k=>if k=most then some (base+k,74) else if e k=0 then grpF most e base n (k+1) else some (base+k,e k)
def unl (b:Bool) (e:Nat):Nat:=if b then 0 else e
def lblE (s:SoZ) (l:Nat):Nat:=unl (l >>> s.principals.length == 0) 10
def newE (n:ByteArray) (taken:Bool):Nat:=if nameZ n then unl (!taken) 70 else 1
def decE (s:SoZ) (n:ByteArray) (here:Nat × Nat):Nat:=newE n (fndZ s (-1) n != some here)
def prE (s:SoZ) (k:Nat):Nat:=match s.principals[k]? with
 | some n=>newE n (idxZ s.principals n != some k)
 | none=>0
def glE (s:SoZ) (kd:Nat) (l:List DeZ) (k:Nat):Nat:=match l[k]? with
 | some d=>fst0 [decE s d.name (kd,k),lblE s d.label]
 | none=>0
def arE (s:SoZ) (k:Nat):Nat:=match s.arrays[k]? with
 | some d=>fst0 [decE s d.name (3,k),unl (decide (1≤d.len∧d.len≤256)) 1,lblE s d.label]
 | none=>0
def fuE (s:SoZ) (k:Nat):Nat:=match s.funcs[k]? with
 | some d=>decE s d.name (5,k)
 | none=>0
def orO {α:Type} (a b:Option α):Option α:=match a with
 | some x=>some x
 | none=>b
def declsZE (s:SoZ):Option (Nat × Nat) :=
 let n1:=s.principals.length
 let n2:=n1+s.globals.length
 let n3:=n2+s.arrays.length
 let n4:=n3+s.channels.length
 orO (grpF 64 (prE s) 0 n1 0) (orO (grpF 32 (glE s 2 s.globals) n1 s.globals.length 0) (orO (grpF 16 (arE s) n2 s.arrays.length 0) (orO (grpF 16 (glE s 4 s.channels) n3 s.channels.length 0) (grpF 32 (fuE s) n4 s.funcs.length 0))))
def locE (s:SoZ) (f:Nat):List DeZ→Nat→Nat
 | [],_=>0
 | d::l,k=>fst0 [newE d.name ((fndZ s (-1) d.name).isSome || locZ s f d.name != some k),lblE s d.label,locE s f l (k+1)]
def deepZ:List StZ→Int→Int→Int
 | [],_,m=>m
 | x::l,d,m=>if x.kind=5∨x.kind=7 then deepZ l (d+1) (max m (d+1)) else if x.kind=8 then deepZ l (d - 1) m else deepZ l d m
def onceZ (b:List StZ):Bool:=match b.findIdx? fun x=>x.kind == 9 with
 | some k=>k+1 == b.length
 | none=>false
def usesT (l:List TmZ):List (ByteArray × Nat):=l.flatMap fun t=>if t.kind=2 then [(t.name,2)] else if t.kind=3 then [(t.name,3)] else []
def usesZ (x:StZ):List (ByteArray × Nat) :=
 x.targets.map (fun n=>(n,2))++((if x.kind=2 then [(x.name,3)] else if x.kind=3 then [(x.name,4)] else if x.kind=4 then [(x.name,5)] else [])++x.exprs.flatMap usesT)
def useE (s:SoZ) (f:Nat) (u:ByteArray × Nat):Nat:=match fndZ s f u.1 with
 | none=>71
 | some (k,_)=>unl (k == u.2 || (u.2 == 2 && k == 1)) 72
def usesE (s:SoZ) (f:Nat) (x:StZ):Nat:=fst0 ((usesZ x).map (useE s f))
def cntE (s:SoZ) (f:Nat) (x:StZ):Nat :=
 if x.kind=4 then
  match s.funcs[((fndZ s f x.name).getD (0,0)).2]? with
  | some d=>unl (x.exprs.length == d.params.length && (x.targets.length == 0 || x.targets.length == d.results.length)) 73
  | none=>0
 else if x.kind=9 then
  match s.funcs[f]? with
  | some d=>unl (x.exprs.length == d.results.length) 73
  | none=>0
 else 0
def stE (s:SoZ) (f:Nat) (x:StZ):Nat:=fst0 [unl (fitZ x) 50,unl (decide (x.exprs.length≤8) && x.exprs.all fun l=>decide (l.length≤48)) 74,usesE s f x,cntE s f x]
def bodyF (s:SoZ) (f:Nat):List StZ→Nat→Option (Int × Nat)
 | [],_=>none
 | x::l,i=>if stE s f x=0 then bodyF s f l (i+1) else some (i,stE s f x)
def lbsE (s:SoZ):List Nat→Nat
 | []=>0
 | l::r=>fst0 [lblE s l,lbsE s r]
section
variable (nest:List Int→Bool)
def fnE (s:SoZ) (f:Nat) (d:FnZ):Option (Int × Nat) :=
 let e:=fst0 [unl (decide (d.params.length≤8) && decide (d.results.length≤4) && decide (d.vars.length≤32) && decide (d.body.length≤256)) 74,lblE s d.level,locE s f (d.params++d.vars) 0,lbsE s d.results,unl (nest (d.body.map StZ.kind) && decide (deepZ d.body 0 0≤12) && onceZ d.body) 50]
 if e=0 then bodyF s f d.body 0 else some (-1,e)
def fnsF (s:SoZ):List FnZ→Nat→Option (Nat × Int × Nat)
 | [],_=>none
 | d::l,f=>match fnE nest s f d with
  | some (a,e)=>some (f,a,e)
  | none=>fnsF s l (f+1)
def chkZ (s:SoZ):Int × Int × Int:=match declsZE s with
 | some (a,e)=>(e,-1,a)
 | none=>match fnsF nest s s.funcs 0 with
  | some (f,a,e)=>(e,f,a)
  | none=>(0,0,0)
end
section
variable (fr tw:ByteArray)
def ren (n:ByteArray):ByteArray:=if n=fr then tw else n
end
section
variable {fr tw:ByteArray} (hf:nameZ fr=true) (ht:nameZ tw=true)
include hf ht
omit hf ht in
omit hf ht in
omit hf ht in
omit hf ht in
omit hf ht in
omit hf ht in
omit hf ht in
omit hf ht in
omit hf ht in
omit hf ht in
variable (nest:List Int→Bool)
end
end Go.Proofs.YtlpdjfimefjmcaaGreatDoor
namespace Go.Proofs.YtlpdjfimefjmcaaGreatDoor
open Go Go.RowKit Go.Proofs.Mm
section
variable {fr tw:ByteArray}
structure Tw (fr tw:ByteArray) (L:Cl) (D:Addr→Prop) (hit:Bool) (V:World):Prop where
 all:∀a v,L a=some v→V.cell? a=some v∨∃n,v=.string n∧V.cell? a=some (.string (ren fr tw n))
 done:∀a n,D a→L a=some (.string n)→V.cell? a=some (.string (ren fr tw n))∧(hit=false→n≠tw)
theorem Tw.same {L:Cl} {D:Addr→Prop} {hit:Bool} {V V':World} (h:Tw fr tw L D hit V) (ho:∀b v,L b=some v→V'.cell? b=V.cell? b):Tw fr tw L D hit V' :=
 ⟨fun a v hL=>by rw [ho a v hL];exact h.all a v hL,fun a n hD hL=>by rw [ho a _ hL];exact h.done a n hD hL⟩
end
theorem enc_build {α:Type} {R:List Value→α→Prop} {size:Nat}:∀(l:List α) (P:Nat→List Value→Prop),(∀j (hj:j<l.length),∃e,R e l[j]∧e.length=size∧P j e)→∃cs,Enc R cs l∧cs.length=l.length*size∧∀j,j<l.length→∃e,P j e∧∀r,r<size→cs[j*size+r]?=e[r]?
 | [],_,_=>⟨[],Enc.nil,by simp,fun j hj=>absurd hj (by simp)⟩
 | x::l,P,h=>by
  obtain ⟨e0,r0,l0,p0⟩:=h 0 (by simp)
  obtain ⟨cs,h1,h2,h3⟩:=enc_build l (fun j=>P (j+1)) (fun j hj=>h (j+1) (by simpa using hj))
  refine ⟨e0++cs,⟨e0,cs,rfl,r0,h1⟩,by rw [List.length_append,l0,h2,List.length_cons,Nat.succ_mul];omega,fun j hj=>?_⟩
  cases j with
  | zero=>exact ⟨e0,p0,fun r hr=>by rw [Nat.zero_mul,Nat.zero_add,List.getElem?_append_left (by omega)]⟩
  | succ j =>
   obtain ⟨e,p,q⟩:=h3 j (by simpa using hj)
   refine ⟨e,p,fun r hr=>?_⟩
   rw [Nat.succ_mul,List.getElem?_append_right (by omega),l0,show j*size+size+r - size=j*size+r by omega]
   exact q r hr
theorem slx_build {α β:Type} {mk:List Value} {bs size n c:Nat} {C D:Cl} {R:List Value→α→Prop} {R':List Value→β→Prop} {q:Option Addr} {l:List α} (f:α→β) (h:SlX mk bs C R (.slice q n c) l) (hs:0<size)
 (hq:∀j (hj:j<l.length),∃g o,q=some ⟨g,o,none⟩∧∃e,R' e (f l[j])∧e.length=size∧∀r u,r<size→e[r]?=some u→D ⟨g,o+j*size+r,none⟩=some u):SlX [] bs D R' (.slice q n c) (l.map f):=by
 obtain ⟨q',c',cs0,e,_,_,_,hb,hmax,hqn,hlc⟩:=h
 obtain ⟨rfl,rfl,rfl⟩:q=q'∧n=l.length∧c=c':=by injection e with a b c;exact ⟨a,b,c⟩
 have hlm:(l.map f).length=l.length:=List.length_map ..
 obtain ⟨cs,h1,h2,h3⟩:=enc_build (R:=R') (size:=size) (l.map f) (fun j e=>∀g o,q=some ⟨g,o,none⟩→∀r u,r<size→e[r]?=some u→D ⟨g,o+j*size+r,none⟩=some u) (fun j hj=>by
  obtain ⟨g,o,e1,e,h1,h2,h3⟩:=hq j (by omega)
  refine ⟨e,by rw [List.getElem_map];exact h1,h2,fun g' o' e2=>?_⟩
  rw [e1] at e2
  injection e2 with e2
  injection e2 with a b
  subst a b
  exact h3)
 rw [←hlm]
 refine ⟨q,c,cs,rfl,.inl rfl,?_,h1,by rw [hlm];exact hb,hmax,hqn,by rw [hlm];exact hlc⟩
 rw [List.append_nil]
 by_cases hl:l.length=0
 ·left
  apply List.eq_nil_of_length_eq_zero
  rw [h2,hlm,hl,Nat.zero_mul]
 ·right
  obtain ⟨g,o,e1,_⟩:=hq 0 (by omega)
  refine ⟨g,o,e1,fun i u hu=>?_⟩
  have hi:=(List.getElem?_eq_some_iff.1 hu).1
  rw [h2,hlm] at hi
  have hj:i / size<l.length:=Nat.div_lt_of_lt_mul (by rw [Nat.mul_comm];exact hi)
  obtain ⟨e,p,q2⟩:=h3 (i / size) (by omega)
  have hr:=Nat.mod_lt i hs
  have hdm:i / size*size+i % size=i:=by rw [Nat.mul_comm];exact Nat.div_add_mod i size
  have:=q2 (i % size) hr
  rw [hdm,hu] at this
  have h9:=p g o e1 (i % size) u hr this.symm
  rwa [Nat.add_assoc,hdm] at h9
def Pos (D:Addr→Prop) (q:Option Addr) (n step at':Nat):Prop:=∀j,j<n→∀g o,q=some ⟨g,o,none⟩→D ⟨g,o+j*step+at',none⟩
section
variable {fr tw:ByteArray} {lt:Bool} {L:Cl} {D:Addr→Prop} {V:World} {q:Option Addr} {n c:Nat}
theorem row2 {x y:Value} {P:Nat→Value→Prop} (h0:P 0 x) (h1:P 1 y):∀r u,r<2→[x,y][r]?=some u→P r u:=by
 intro r u hr hu
 rcases r with _|_|r
 ·injection hu with hu;subst hu;exact h0
 ·injection hu with hu;subst hu;exact h1
 ·omega
theorem row3 {x y z:Value} {P:Nat→Value→Prop} (h0:P 0 x) (h1:P 1 y) (h2:P 2 z):∀r u,r<3→[x,y,z][r]?=some u→P r u:=by
 intro r u hr hu
 rcases r with _|_|_|r
 ·injection hu with hu;subst hu;exact h0
 ·injection hu with hu;subst hu;exact h1
 ·injection hu with hu;subst hu;exact h2
 ·omega
theorem row1 {x:Value} {P:Nat→Value→Prop} (h0:P 0 x):∀r u,r<1→[x][r]?=some u→P r u:=by
 intro r u hr hu
 rcases r with _|r
 ·injection hu with hu;subst hu;exact h0
 ·omega
theorem row4 {x y z t:Value} {P:Nat→Value→Prop} (h0:P 0 x) (h1:P 1 y) (h2:P 2 z) (h3:P 3 t):∀r u,r<4→[x,y,z,t][r]?=some u→P r u:=by
 intro r u hr hu
 rcases r with _|_|_|_|r
 ·injection hu with hu;subst hu;exact h0
 ·injection hu with hu;subst hu;exact h1
 ·injection hu with hu;subst hu;exact h2
 ·injection hu with hu;subst hu;exact h3
 ·omega
theorem row6 {x y z t s v:Value} {P:Nat→Value→Prop} (h0:P 0 x) (h1:P 1 y) (h2:P 2 z) (h3:P 3 t) (h4:P 4 s) (h5:P 5 v):∀r u,r<6→[x,y,z,t,s,v][r]?=some u→P r u:=by
 intro r u hr hu
 rcases r with _|_|_|_|_|_|r
 ·injection hu with hu;subst hu;exact h0
 ·injection hu with hu;subst hu;exact h1
 ·injection hu with hu;subst hu;exact h2
 ·injection hu with hu;subst hu;exact h3
 ·injection hu with hu;subst hu;exact h4
 ·injection hu with hu;subst hu;exact h5
 ·omega
end
end Go.Proofs.YtlpdjfimefjmcaaGreatDoor
