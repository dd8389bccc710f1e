/- A part of the proof of PrintBack: contracts and plain facts. -/
import Derived.Test.YtpcniebkabkikaaGreatDoorPBqR23
import Derived.Defers
import Derived.Recover
import Derived.Maps.AppendAt
import Derived.Deep.QuietTactic
import Derived.BigQuiet
set_option maxRecDepth 100000
set_option maxHeartbeats 8000000
open Go.Lib (hid)
open Go.Proofs.Tryz
open Go.World renaming alloc_heap_new → nwn
namespace Go.Proofs.YtpcniebkabkikaaGreatDoor
open Go Go.RowKit Go.Proofs.Mm
def itsOf (s:ByteArray):List It:=(allItems s).map fun x=>⟨x.1.kind,sb x.1.text,x.1.value,x.1.at_,x.2⟩
theorem z8_ {s:ByteArray} {ys:List It} (h:ys.map It.key=allItems s):itsOf s=ys:=by
 unfold itsOf
 rw [←h,List.map_map]
 conv=>rhs;rw [←List.map_id ys]
 congr 1
 funext x
 simp only [Function.comp,It.key,db_,id]
theorem its_key {s:ByteArray} (h:∀x∈allItems s,bl (sb x.1.text)=x.1.text):(itsOf s).map It.key=allItems s:=by
 unfold itsOf
 rw [List.map_map]
 conv=>rhs;rw [←List.map_id (allItems s)]
 refine List.map_congr_left fun x hx=>?_
 simp only [Function.comp,It.key,id,h x hx]
def faultOf (s:ByteArray):Option (Nat × Nat):=((itsOf s).find? fun x=>x.e != 0).map fun x=>(x.e,x.a)
def readOf {α:Type} (r:(Nat→Option Syn.K)→Nat→Syn.R α) (s:ByteArray):Except (Nat × Nat) α :=
 match faultOf s with
 | some q=>.error q
 | none=>match r (Tk (itsOf s)) ((itsOf s).length+1) with
  | .error (er,k)=>.error (er,(tk (itsOf s) s.size k).a)
  | .ok (x,_)=>.ok x
def srcOf (s:ByteArray):Except (Nat × Nat) Syn.So:=readOf Syn.source s
def expOf (s:ByteArray):Except (Nat × Nat) (List Syn.Tm):=readOf Syn.whole1 s
theorem hf_ {s:ByteArray} {ys:List It} (h:ys.map It.key=allItems s) (h0:∀x∈ys,x.e=0):faultOf s=none:=by
 unfold faultOf
 rw [z8_ h,List.find?_eq_none.2 (fun x hx=>by simp [h0 x hx])]
 rfl
theorem js_ (ts:List Tok) (e:Option (Tok × Nat)) (l:List (Tok × Nat)) (x:Tok × Nat) (h:(l++[x]) <+: ts.map (fun t=>(t,0))++e.toList) (hx:x.2≠0):e=some x∧l=ts.map (fun t=>(t,0)):=by
 obtain ⟨r,hr⟩:=h
 rcases List.append_eq_append_iff.1 hr with ⟨a,h1,h2⟩|⟨a,h1,h2⟩
 ·-- all of l++[x] stands among the words
  have:x∈ts.map (fun t=>(t,0)):=by rw [h1];simp
  obtain ⟨t,_,ht⟩:=List.mem_map.1 this
  exact (hx (by rw [←ht])).elim
 ·cases e with
  | none =>
   have ha:a=[]:=by
    have:=congrArg List.length h2;simp at this;exact List.eq_nil_of_length_eq_zero (by omega)
   rw [ha,List.append_nil] at h1
   have:x∈ts.map (fun t=>(t,0)):=by rw [←h1];simp
   obtain ⟨t,_,ht⟩:=List.mem_map.1 this
   exact (hx (by rw [←ht])).elim
  | some y =>
   cases a with
   | nil =>
    rw [List.append_nil] at h1
    have:x∈ts.map (fun t=>(t,0)):=by rw [←h1];simp
    obtain ⟨t,_,ht⟩:=List.mem_map.1 this
    exact (hx (by rw [←ht])).elim
   | cons b a =>
    simp only [Option.toList,List.cons_append,List.cons.injEq] at h2
    obtain ⟨h2,h3⟩:=h2
    have ha:a=[]:=by
     have:=congrArg List.length h3;simp at this;exact List.eq_nil_of_length_eq_zero (by omega)
    subst ha
    subst h2
    obtain ⟨h4,h5⟩:=List.append_inj' h1 rfl
    injection h5 with h5
    exact ⟨by rw [h5],h4⟩
theorem mz_ {s:ByteArray} {pr:List It} {x:It} (h:(pr++[x]).map It.key <+: allItems s) (hx:x.e≠0):faultOf s=some (x.e,x.a):=by
 have hlast:∃(ts:List Tok) (e:Option (Tok × Nat)),allItems s=ts.map (fun t=>(t,0))++e.toList:=by
  unfold allItems itemsOf
  split
  ·exact ⟨[],some _,rfl⟩
  ·split
   ·exact ⟨_,none,rfl⟩
   ·exact ⟨_,some _,rfl⟩
 obtain ⟨ts,e,he⟩:=hlast
 rw [he,List.map_append,List.map_singleton] at h
 obtain ⟨h1,_⟩:=js_ ts e _ _ h hx
 unfold faultOf itsOf
 rw [he,h1,List.map_append,List.map_map,List.find?_append,List.find?_eq_none.2 (by
  intro y hy
  obtain ⟨t,_,ht⟩:=List.mem_map.1 hy
  rw [←ht];simp)]
 simp only [Option.toList,List.map_singleton,Option.none_or,List.find?_cons,It.key]
 rw [show (x.e != 0)=true from by simpa using hx]
 rfl
theorem ul_ {s:ByteArray} {ys:List It} (h:ys.map It.key=allItems s) (h0:∀x∈ys,x.e=0):s.size≤65536∧allItems s=itemsOf (scanL (bl s) 0)∧(scanL (bl s) 0).2.2=0:=by
 have hs:s.size≤65536:=by
  rcases Nat.lt_or_ge 65536 s.size with q|q
  ·rw [allItems,if_pos q] at h
   cases ys with
   | nil=>cases h
   | cons x l =>
    simp only [List.map_cons,List.cons.injEq] at h
    have:=h0 x (List.mem_cons_self ..)
    have h2:=congrArg Prod.snd h.1
    simp only [It.key] at h2
    omega
  ·exact q
 have ha:allItems s=itemsOf (scanL (bl s) 0):=by rw [allItems,if_neg (by omega)]
 refine ⟨hs,ha,?_⟩
 rcases Nat.eq_zero_or_pos (scanL (bl s) 0).2.2 with q|q
 ·exact q
 ·rw [ha] at h
  unfold itemsOf at h
  rw [if_neg (by omega)] at h
  have hm:((⟨0,[],0,(scanL (bl s) 0).2.1⟩:Tok),(scanL (bl s) 0).2.2)∈ys.map It.key:=by rw [h];simp
  obtain ⟨y,hy,e⟩:=List.mem_map.1 hm
  have:=h0 y hy
  have h2:=congrArg Prod.snd e
  simp only [It.key] at h2
  omega
theorem ws_of {s:ByteArray} {ys:List It} (h:ys.map It.key=allItems s) (h0:∀x∈ys,x.e=0):Ws ys:=by
 obtain ⟨hs,ha,hz⟩:=ul_ h h0
 have hm:ys.map It.key=(scanL (bl s) 0).1.map fun t=>(t,0):=by rw [h,ha];unfold itemsOf;rw [if_pos hz,List.append_nil]
 refine ⟨fun x hx=>?_,?_⟩
 ·have:x.key∈ys.map It.key:=List.mem_map_of_mem hx
  rw [hm] at this
  obtain ⟨t,ht,e⟩:=List.mem_map.1 this
  have hg:=fo_ _ (bl s) (Nat.le_refl _) 0 t ht
  have h1:=congrArg Prod.fst e
  simp only [It.key] at h1
  rw [h1] at hg
  exact hg
 ·have:=congrArg List.length hm
  rw [List.length_map,List.length_map] at this
  have h2:=df_ _ (bl s) (Nat.le_refl _) 0
  rw [ae_] at h2
  omega
section
variable {ys:List It} {len bp bw i:Nat} {vp:Value} {w:World} {α:Type}
theorem r0_ (h:PS ys len bp bw vp w i) (x:α) :
 Calls prog 94 #[.pointer (some ⟨bp,0,none⟩)] w (Ret ys len (fun k=>k=bp) w (endP (Tk ys) x i) fun _ _ e w'=>e=.returned (.tuple #[])∧w=w'):=by
 obtain ⟨c,h0,hf,hc,hc2,h1,h2,h3,h4⟩:=h.raw
 have hle:=h.le
 have hfew:=h.few
 rcases Nat.lt_or_ge i ys.length with q|q
 ·have HE:=hid (show endP (Tk ys) x i=.error (50,i) from if_pos (by rw [cn_ (len:=len) q];rfl))
  have HF:=hid (fg_ h 50 (fun k=>k=bp))
  have hg:decide ((1:Int)<((ys.length+1 - i:Nat):Int))=true:=by simp;omega
  have hg2:decide (((ys.length+1 - i:Nat):Int) > 1)=true:=by simp;omega
  clear h hf hc hc2 h1 h2 h3 h4 q
  generalize ys.length+1 - i=m at *
  generalize 4*i=o at *
  have hm1:(1:Int)<(m:Int):=by simpa using hg
  go_enter func94,ntmps94
  go_wp2_with fail
  go_at_call 144
  refine HF.out.mono ?_
  rintro e w' ⟨rfl,hc⟩
  exact ⟨rfl,ai_ HE.out hc⟩
 ·have HE:=hid (show endP (Tk ys) x i=.ok (x,i) from if_neg (by rw [cm_ q];simp))
  have hm:ys.length+1 - i=1:=by omega
  rw [hm] at h0 hc
  have HC:=hid (Chg.refl (fun k=>k=bp) w)
  clear h hf hc hc2 h1 h2 h3 h4 q hm
  generalize 4*i=o at *
  go_enter func94,ntmps94
  go_wp2
  go_end0
  exact bx_ HE.out HC.out ⟨rfl,rfl⟩
end
theorem free3 {w:World} {b:Nat} {x y z:Value} {T:TypeId} (h:w.heap[b]?=some (.cells #[x,y,z] T (0,0))):w.frozen? ⟨b,0,none⟩=false∧w.frozen? ⟨b,1,none⟩=false∧w.frozen? ⟨b,2,none⟩=false:=⟨ag_ h,ag_ h,ag_ h⟩
theorem um_ (er a:Int) (w:World):(Instr.typeAssert (.iface 149 (.agg #[.int .i64 er,.int .i64 (-1),.int .i64 a])) 20 149 false).run prog w=.ok (.agg #[.int .i64 er,.int .i64 (-1),.int .i64 a]) w:=by kernel_rfl
theorem yj_ (er a:Int) (w:World):(Instr.field 149 (.agg #[.int .i64 er,.int .i64 (-1),.int .i64 a]) 0).run prog w=.ok (.agg #[.int .i64 er,.int .i64 (-1),.int .i64 a]) w:=by kernel_rfl
theorem iu_ (b:Nat) (x y z:Value) (er a:Int) (w:World) (h:w.heap[b]?=some (.cells #[x,y,z] 61 (0,0))) :
 CallsD prog 93 #[.pointer (some ⟨b,0,none⟩)] (.panicking (gv er a)) w fun e u' w' =>
  e=.returned (.tuple #[])∧u'=.panicking [{ v:=.iface 149 (.agg #[.int .i64 er,.int .i64 (-1),.int .i64 a]),recovered:=true }]∧w'=((w.setCell ⟨b,0,none⟩ (.int .i64 er)).setCell ⟨b,1,none⟩ (.int .i64 (-1))).setCell ⟨b,2,none⟩ (.int .i64 a):=by
 obtain ⟨f0,f1,f2⟩:=free3 h
 obtain ⟨c0,c1,c2,_⟩:=bz_ h
 refine callsD_of_wpS func93 rfl fun c₀ cs hu=>?_
 unfold gv at hu
 apply wpS_seq
 apply wpS_region
 simp [wpOpsS,go_sem,recoverD,hu,ntmps93,Exit.thenS]
 apply wpS_seq
 apply wpS_region
 simp [wpOpsS,go_sem,Exit.thenS]
 refine wpS_cond (t:=true) (by simp [Act.eval]) ?_
 simp only [if_true]
 apply wpS_region
 simp [wpOpsS,go_sem,um_,yj_,c0,c1,c2,f0,f1,f2,bodyPostS,results,Tryz.results93]
theorem or_ (b:Nat) (w:World) :
 CallsD prog 93 #[.pointer (some ⟨b,0,none⟩)] .returning w fun e u' w'=>e=.returned (.tuple #[])∧u'=.returning∧w'=w:=by
 refine callsD_of_wpS func93 rfl fun c₀ cs hu=>?_
 apply wpS_seq
 apply wpS_region
 simp [wpOpsS,go_sem,recoverD,hu,ntmps93,Exit.thenS]
 apply wpS_seq
 apply wpS_region
 simp [wpOpsS,go_sem,Exit.thenS]
 refine wpS_cond (t:=false) (by simp [Act.eval]) ?_
 simp only [Bool.false_eq_true,if_false]
 refine wpS_of_wp (wp_skip ?_)
 cases c₀
 simp_all [bodyPostS,results,Tryz.results93]
attribute [local go_sem] Oper.semAt_some
theorem f2_ (x:It) (l:List It):tokCells (x::l)=.int .i64 (x.k:Nat)::.string x.t::.int .i64 (x.v:Nat)::.int .i64 (x.a:Nat)::tokCells l:=by simp [tokCells]
theorem iv_:∀(l:List It) (j:Nat) (h:j<l.length),(tokCells l)[4*j]?=some (.int .i64 (l[j].k:Nat))∧(tokCells l)[4*j+1]?=some (.string l[j].t)∧(tokCells l)[4*j+2]?=some (.int .i64 (l[j].v:Nat))∧(tokCells l)[4*j+3]?=some (.int .i64 (l[j].a:Nat))
 | [],j,h=>absurd h (by simp)
 | x::l,0,_=>by rw [f2_];exact ⟨rfl,rfl,rfl,rfl⟩
 | x::l,j+1,h=>by
  have:=iv_ l j (by simpa using h)
  rw [f2_]
  simp only [show 4*(j+1)=4*j+1+1+1+1 by omega,show 4*j+1+1+1+1+1=(4*j+1)+1+1+1+1 by omega,show 4*j+1+1+1+1+2=(4*j+2)+1+1+1+1 by omega,show 4*j+1+1+1+1+3=(4*j+3)+1+1+1+1 by omega,List.getElem?_cons_succ,List.getElem_cons_succ]
  exact this
def endIt (len:Nat):It:=⟨0,⟨#[]⟩,0,len,0⟩
theorem tk_snoc (ys:List It) (len j:Nat) (h:j<(ys++[endIt len]).length):(ys++[endIt len])[j]=tk ys len j:=by
 unfold tk
 rw [List.getD_eq_getElem?_getD]
 rcases Nat.lt_or_ge j ys.length with q|q
 ·rw [List.getElem?_eq_getElem q,List.getElem_append_left q];rfl
 ·rw [List.getElem?_eq_none q,List.getElem_append_right q,List.getElem_singleton];rfl
theorem ps_new {ys:List It} {len B c9:Nat} {q9:Option Addr} {w9:World} (hw:Ws ys) (h:w9.ownsRow B 151 4 (.slice q9 (ys.length+1) c9) (ys.length+1) (tokCells ys++[.int .i64 (0:Nat),.string ⟨#[]⟩,.int .i64 (0:Nat),.int .i64 (len:Nat)])) :
 ∃g,q9=some ⟨g,0,none⟩∧B≤g∧g<w9.heap.size∧PS ys len w9.heap.size g (.slice none 0 0) (w9.alloc (.cells #[.slice (some ⟨g,0,none⟩) (ys.length+1) c9,.slice none 0 0] 153)) 0:=by
 obtain ⟨h1,⟨h2,h3⟩|⟨g,cap,cur,h2,hb,hg,h4,h5,h6,h7⟩⟩:=h
 ·omega
 injection h2 with e1 _ e2
 subst e1;subst e2
 refine ⟨g,rfl,hb,heap_lt hg,⟨c9,nwn w9 _,by omega,h5⟩,⟨cur,ad_ _ _ hg,fun j hj=>?_⟩,Nat.zero_le _,hw.2⟩
 have hj':j<(ys++[endIt len]).length:=by simp;omega
 have ha:=iv_ _ j hj'
 rw [fx_,tk_snoc ys len j hj'] at ha
 have hcur:∀k u,k<4*(ys.length+1)→(tokCells ys++[Value.int .i64 (0:Nat),.string ⟨#[]⟩,.int .i64 (0:Nat),.int .i64 (len:Nat)])[k]?=some u→cur[k]?=some u:=fun k u hk hu=>by
  rw [←h7,List.getElem?_take,if_pos (by omega)] at hu
  simpa using hu
 exact ⟨hcur _ _ (by omega) ha.1,hcur _ _ (by omega) ha.2.1,hcur _ _ (by omega) ha.2.2.1,hcur _ _ (by omega) ha.2.2.2⟩
theorem read_eq {α:Type} {r:(Nat→Option Syn.K)→Nat→Syn.R α} {s:ByteArray} {ys:List It} (hy:ys.map It.key=allItems s) (hy0:∀x∈ys,x.e=0) :
 readOf r s=match r (Tk ys) (ys.length+1) with
  | .error (er,k)=>.error (er,(tk ys s.size k).a)
  | .ok (x,_)=>.ok x:=by
 unfold readOf;rw [hf_ hy hy0];simp only;rw [z8_ hy]
 all_goals
  cases r (Tk ys) (ys.length+1) with
  | error q=>rfl
  | ok q=>rfl
theorem yk_ {α:Type} {r:(Nat→Option Syn.K)→Nat→Syn.R α} {s:ByteArray} {q:Nat × Nat} (h:faultOf s=some q):readOf r s=.error q:=by unfold readOf;rw [h]
def ParRes (s:ByteArray) (m:Mem) (w:World) (e:Ending) (w':World):Prop:=Below w.heap.size w w' ∧
 match srcOf s with
 | .error (er,a)=>e=.returned (.tuple #[.agg #[.slice none 0 0,.slice none 0 0,.slice none 0 0,.slice none 0 0,.slice none 0 0],.agg #[.int .i64 (er:Nat),.int .i64 (-1),.int .i64 (a:Nat)]])
 | .ok so=>∃p a b d c m',e=.returned (.tuple #[.agg #[p,a,b,d,c],.agg #[.int .i64 0,.int .i64 0,.int .i64 0]])∧SoM m' [p,a,b,d,c] so∧m.More w m'∧Has w' m'
theorem ParRes.bad {s:ByteArray} {m:Mem} {w w':World} {er a:Nat} (h:srcOf s=.error (er,a)) (hb:Below w.heap.size w w'):ParRes s m w (.returned (.tuple #[.agg #[.slice none 0 0,.slice none 0 0,.slice none 0 0,.slice none 0 0,.slice none 0 0],.agg #[.int .i64 (er:Nat),.int .i64 (-1),.int .i64 (a:Nat)]])) w':=⟨hb,by rw [h]⟩
theorem ParRes.good {s:ByteArray} {m m':Mem} {w w':World} {so:Syn.So} {p a b d c:Value} (h:srcOf s=.ok so) (hb:Below w.heap.size w w') (h1:SoM m' [p,a,b,d,c] so) (h2:m.More w m') (h3:Has w' m'):ParRes s m w (.returned (.tuple #[.agg #[p,a,b,d,c],.agg #[.int .i64 0,.int .i64 0,.int .i64 0]])) w':=⟨hb,by rw [h];exact ⟨p,a,b,d,c,m',rfl,h1,h2,h3⟩⟩
def flZ:Obj:=.cells #[.int .i64 0,.int .i64 0,.int .i64 0] 61
theorem resultsS (tmps:Array Value) (w:World) (b4 b5:Nat) (x0 x1 x2 x3 x4 y0 y1 y2:Value) (T5 T3:TypeId) (h4:tmps[4]?.getD undef=.pointer (some ⟨b4,0,none⟩)) (h5:tmps[5]?.getD undef=.pointer (some ⟨b5,0,none⟩))
 (c4:w.heap[b4]?=some (.cells #[x0,x1,x2,x3,x4] T5 (0,0))) (c5:w.heap[b5]?=some (.cells #[y0,y1,y2] T3 (0,0))) :
 (results Tryz.f49 tmps).run prog w=.ok (.tuple #[.agg #[x0,x1,x2,x3,x4],.agg #[y0,y1,y2]]) w:=by
 obtain ⟨p0,p1,p2,p3,p4⟩:=al_ c4
 obtain ⟨q0,q1,q2,_⟩:=bz_ c5
 simp [results,Tryz.results49,go_sem,h4,h5,p0,p1,p2,p3,p4,q0,q1,q2]
theorem bg_ {m:Mem} {E:TypeId} {size n:Nat} {v:Value} {xs:List Value} (h:RowM m E size v n xs):∃q c,v=.slice q n c:=by
 rcases h.2 with ⟨rfl,rfl⟩|⟨g,cap,cur,rfl,_⟩
 ·exact ⟨_,_,rfl⟩
 ·exact ⟨_,_,rfl⟩
theorem SoM.shape {m:Mem} {p a b d e:Value} {s:Syn.So} (h:SoM m [p,a,b,d,e] s):∃q1 c1 q2 c2 q3 c3 q4 c4 q5 c5,p=.slice q1 s.principals.length c1∧a=.slice q2 s.globals.length c2∧b=.slice q3 s.arrays.length c3∧d=.slice q4 s.channels.length c4∧e=.slice q5 s.funcs.length c5:=by
 obtain ⟨p',a',b',d',e',h,h0,⟨c1,p1,_⟩,⟨c2,p2,_⟩,⟨c3,p3,_⟩,⟨c4,p4,_⟩⟩:=h
 simp only [List.cons.injEq,and_true] at h
 obtain ⟨rfl,rfl,rfl,rfl,rfl⟩:=h
 obtain ⟨q1,d1,h1⟩:=bg_ h0
 obtain ⟨q2,d2,h2⟩:=bg_ p1
 obtain ⟨q3,d3,h3⟩:=bg_ p2
 obtain ⟨q4,d4,h4⟩:=bg_ p3
 obtain ⟨q5,d5,h5⟩:=bg_ p4
 exact ⟨q1,d1,q2,d2,q3,d3,q4,d4,q5,d5,h1,h2,h3,h4,h5⟩
theorem set3 {W:World} {b:Nat} {x y z x' y' z':Value} {T:TypeId} (h:W.heap[b]?=some (.cells #[x,y,z] T (0,0))):(((W.setCell ⟨b,0,none⟩ x').setCell ⟨b,1,none⟩ y').setCell ⟨b,2,none⟩ z').heap[b]?=some (.cells #[x',y',z'] T (0,0)):=ao_ (ao_ (ao_ h 0 x') 1 y') 2 z'
theorem set5 {W:World} {b:Nat} {x y z u v x' y' z' u' v':Value} {T:TypeId} (h:W.heap[b]?=some (.cells #[x,y,z,u,v] T (0,0))):(((((W.setCell ⟨b,0,none⟩ x').setCell ⟨b,1,none⟩ y').setCell ⟨b,2,none⟩ z').setCell ⟨b,3,none⟩ u').setCell ⟨b,4,none⟩ v').heap[b]?=some (.cells #[x',y',z',u',v'] T (0,0)):=ao_ (ao_ (ao_ (ao_ (ao_ h 0 x') 1 y') 2 z') 3 u') 4 v'
theorem iw_ {W:World} {g:Nat} {arr:Array Value} {T:TypeId} (h:W.heap[g]?=some (.cells arr T (0,0))):W.frozen? ⟨g,0,none⟩=false∧W.frozen? ⟨g,1,none⟩=false∧W.frozen? ⟨g,2,none⟩=false∧W.frozen? ⟨g,3,none⟩=false∧W.frozen? ⟨g,4,none⟩=false:=⟨ag_ h,ag_ h,ag_ h,ag_ h,ag_ h⟩
structure RdW (w:World) (r f:Obj) (W:World):Prop where
 res:W.heap[w.heap.size]?=some r
 flt:W.heap[w.heap.size+1]?=some f
 chg:Chg (fun _=>False) w W
theorem RdW.next {w W W':World} {r f:Obj} {S:Nat→Prop} (h:RdW w r f W) (hc:Chg S W W') (hS:∀k,S k→w.heap.size+2≤k):RdW w r f W' :=
 ⟨hc.heap h.res (fun e=>by have:=hS _ e;omega),hc.heap h.flt (fun e=>by have:=hS _ e;omega),h.chg.trans hc (fun k e=>.inr (by have:=hS _ e;omega))⟩
theorem RdW.size {w W:World} {r f:Obj} (h:RdW w r f W):w.heap.size+2≤W.heap.size:=heap_lt h.flt
theorem RdW.fault {w W:World} {r:Obj} {x0 y0 z0:Value} (h:RdW w r (.cells #[x0,y0,z0] 61) W) (x y z:Value):RdW w r (.cells #[x,y,z] 61) (((W.setCell ⟨w.heap.size+1,0,none⟩ x).setCell ⟨w.heap.size+1,1,none⟩ y).setCell ⟨w.heap.size+1,2,none⟩ z):=by
 have hc:=di_ (Chg.refl (fun k=>k=w.heap.size+1) W) (.inl rfl) x y z
 exact ⟨hc.heap h.res (by omega),set3 h.flt,di_ h.chg (.inr (by omega)) x y z⟩
theorem RdW.five {w W:World} {f:Obj} {x0 y0 z0 u0 v0:Value} (h:RdW w (.cells #[x0,y0,z0,u0,v0] 27) f W) (x y z u v:Value):RdW w (.cells #[x,y,z,u,v] 27) f (((((W.setCell ⟨w.heap.size,0,none⟩ x).setCell ⟨w.heap.size,1,none⟩ y).setCell ⟨w.heap.size,2,none⟩ z).setCell ⟨w.heap.size,3,none⟩ u).setCell ⟨w.heap.size,4,none⟩ v):=by
 have hc:=ex_ (Chg.refl (fun k=>k=w.heap.size) W) (.inl rfl) x y z u v
 exact ⟨set5 h.res,hc.heap h.flt (by omega),ex_ h.chg (.inr (by omega)) x y z u v⟩
theorem RdW.drew {w W:World} {r f:Obj} (h:RdW w r f W):RdW w r f W.drew:=⟨h.res,h.flt,h.chg.drew⟩
theorem RdW.bad {s:ByteArray} {m:Mem} {w W:World} {er a:Nat} (h:RdW w srZ (.cells #[.int .i64 (er:Nat),.int .i64 (-1),.int .i64 (a:Nat)] 61) W) (hs:srcOf s=.error (er,a)) (tmps:Array Value) (h4:tmps[4]?.getD undef=.pointer (some ⟨w.heap.size,0,none⟩)) (h5:tmps[5]?.getD undef=.pointer (some ⟨w.heap.size+1,0,none⟩)) :
 ∃v,(results Tryz.f49 tmps).run prog W=.ok v W∧ParRes s m w (.returned v) W :=
 ⟨_,resultsS tmps W _ _ _ _ _ _ _ _ _ _ _ _ h4 h5 h.res h.flt,ParRes.bad hs (h.chg.below (Nat.le_refl _) (fun _ e=>e.elim))⟩
theorem RdW.good {s:ByteArray} {m m':Mem} {w W:World} {so:Syn.So} {p a b d c:Value} (h:RdW w (.cells #[p,a,b,d,c] 27) flZ W) (hs:srcOf s=.ok so) (h1:SoM m' [p,a,b,d,c] so) (h2:m.More w m') (h3:Has W m') (tmps:Array Value) (h4:tmps[4]?.getD undef=.pointer (some ⟨w.heap.size,0,none⟩)) (h5:tmps[5]?.getD undef=.pointer (some ⟨w.heap.size+1,0,none⟩)) :
 ∃v,(results Tryz.f49 tmps).run prog W=.ok v W∧ParRes s m w (.returned v) W :=
 ⟨_,resultsS tmps W _ _ _ _ _ _ _ _ _ _ _ _ h4 h5 h.res h.flt,ParRes.good hs (h.chg.below (Nat.le_refl _) (fun _ e=>e.elim)) h1 h2 h3⟩
theorem m0_ {s:ByteArray} {pr:List It} {x:It} (hp:(pr++[x]).map It.key <+: allItems s) (hx:x.e≠0):srcOf s=.error (x.e,x.a):=yk_ (mz_ hp hx)
theorem un_ (s:ByteArray) (w:World) (hE:Env w) {m:Mem} (hm:Has w m) :
 Calls prog 49 #[.string s,.func (.func 50) #[] #[]] w (ParRes s m w):=by
 have hmf:∀(fn:Fn) (first cap:Array Value) (w:World),(Instr.makeFunc fn first cap).run prog w=.ok (.func fn first cap) w:=fun _ _ _ _=>rfl
 have hmx:prog.follows .mixedOrders=true:=by kernel_rfl
 have hb0:Below w.heap.size w ((w.alloc srZ).alloc flZ):=((Below.refl _ _).alloc (Nat.le_refl _) _).alloc (by simp) _
 have hE2:Env ((w.alloc srZ).alloc flZ):=hE.below hb0 hE.lt
 have hR:((w.alloc srZ).alloc flZ).heap[w.heap.size]?=some srZ:=ad_ _ _ (nwn w srZ)
 have hF:=nwn (w.alloc srZ) flZ
 rw [World.size_alloc] at hF
 have hsz:((w.alloc srZ).alloc flZ).heap.size=w.heap.size+2:=by simp
 have hscan:=yd_ s _ hE2
 have HB0:=hid hb0
 have HR:=hid hR
 have HF:=hid hF
 have HM:=hid hm
 clear hb0 hE2 hR hF hm
 go_enter_defers func49,ntmps49
 go_wp2_with fail
 go_at_call 91
 change Calls prog _ _ ((w.alloc srZ).alloc flZ) _
 generalize (w.alloc srZ).alloc flZ=W0 at *
 refine hscan.mono ?_
 rintro e w1 ⟨hb1,⟨ys,q,c,hy,hy0,rfl,hrow⟩|⟨pr,x,hp,hx,rfl⟩⟩
 ·have hws:=ws_of hy hy0
  have hlen:=hws.2
  have HW1:=hid (show RdW w srZ flZ w1 from ⟨(hb1.block _ (by omega)).trans HR.out,(hb1.block _ (by omega)).trans HF.out,(Below.chg HB0.out (Nat.le_refl _) _).then (Below.chg (hb1.mono (Nat.le_refl _)) (Nat.le_refl _) _)⟩)
  have hlo:∀k,Value.ownBlock (.slice q ys.length c)=some k→w.heap.size+2≤k:=fun k hk=>by have:=(hrow.lt k hk).1;omega
  obtain ⟨i0,hi,hz0,hz1,hz2⟩:=info29
  have hs1:=hb1.size
  clear HB0 HR HF hb1 hscan
  go_wp2_with (at_builtin;refine wpList_append_own_at _ rfl _ _ 144 rfl W0.heap.size 151 i0 _ 4 40 Tryz.underlying144 hi hz0 hz1 hz2 rfl (by decide) _ _ _ rfl (hrow.alloc _) ⟨w1.heap.size,0,none⟩ 1 1 [.int .i64 (0:Nat),.string ⟨#[]⟩,.int .i64 (0:Nat),.int .i64 (s.size:Nat)] rfl rfl ?c1 ?c2 ?c3 ?c4 ?c5 ?_)
  case c1=>exact be_ w1 _ 151
  case c2 =>
   intro u hu
   simp only [List.mem_cons,List.not_mem_nil,or_false] at hu
   rcases hu with rfl|rfl|rfl|rfl <;> rfl
  case c3=>unfold maxLen;omega
  case c4=>omega
  case c5=>simp;omega
  intro v9 w9 hown9 hgrow9 _ hat9
  obtain ⟨q9,c9,rfl⟩:=ah_ hown9
  obtain ⟨g,rfl,hgB,hglt,hps⟩:=ps_new hws hown9
  have HW9:=hid ((HW1.out.next ((Chg.refl (fun k=>Value.ownBlock (.slice q ys.length c)=some k) w1).alloc _ |>.then (a1_ hgrow9 (fun k e=>.inl e))) hlo).next ((Chg.refl (fun _=>False) w9).alloc (.cells #[.slice (some ⟨g,0,none⟩) (ys.length+1) c9,.slice none 0 0] 153)) (fun _ e=>e.elim))
  have hw9:w.heap.size+2≤w9.heap.size:=by have:=(HW1.out.next ((Chg.refl (fun k=>Value.ownBlock (.slice q ys.length c)=some k) w1).alloc _ |>.then (a1_ hgrow9 (fun k e=>.inl e))) hlo).size;exact this
  have HPS:=hid hps
  clear hown9 hgrow9 hat9 hps hrow hlo HW1
  have hm9:=HM.out.chg HW9.out.chg (fun _ e=>e.elim)
  have hsrc:=an_ (rz_ hws HPS.out hm9 (HM.out.lt (by omega)))
  have HL:=hid (show srcOf s=_ from read_eq (r:=Syn.source) hy hy0)
  clear hm9
  go_wp2_with fail
  go_at_call 50
  generalize w9.alloc (.cells #[.slice (some ⟨g,0,none⟩) (ys.length+1) c9,.slice none 0 0] 153)=W9 at *
  generalize w9.heap.size=bp at *
  refine hsrc.mono ?_
  rintro e w5 ⟨hc5,⟨er,k,hr,rfl⟩|⟨so,j,hr,vp,vA,vB,vC,vD,m5,v5,rfl,b1,b2,b3,b4,b5⟩⟩
  ·have HW5:=hid (HW9.out.next hc5 (fun k e=>by omega))
   have HE:=hid (show srcOf s=.error (er,(tk ys s.size k).a) from by rw [HL.out,←p4_,hr];rfl)
   have hf5:=HW5.out.flt
   clear hc5 hr
   go_wp2_with fail
   refine leaves_cons (f:=93) (args:=#[.pointer (some ⟨w.heap.size+1,0,none⟩)]) (by simp) (by simp [go_sem]) ?_
   refine (iu_ (w.heap.size+1) _ _ _ _ _ w5 hf5).mono ?_
   rintro e u' w' ⟨rfl,rfl,rfl⟩
   exact (HW5.out.fault _ _ _).bad HE.out _ rfl rfl
  ·have HW5:=hid (HW9.out.next hc5 (fun k e=>by omega))
   have HL5:=hid (show srcOf s=_ from HL.out)
   obtain ⟨q1,d1,q2,d2,q3,d3,q4,d4,q5,d5,rfl,rfl,rfl,rfl,rfl⟩:=b1.shape
   have HW6:=hid (HW5.out.next ((Chg.refl (fun _=>False) w5).alloc (.cells #[.slice q1 so.principals.length d1,.slice q2 so.globals.length d2,.slice q3 so.arrays.length d3,.slice q4 so.channels.length d4,.slice q5 so.funcs.length d5] 27)) (fun _ e=>e.elim))
   have HNW:=hid (nwn w5 (.cells #[.slice q1 so.principals.length d1,.slice q2 so.globals.length d2,.slice q3 so.arrays.length d3,.slice q4 so.channels.length d4,.slice q5 so.funcs.length d5] 27))
   have hend:=an_ (r0_ (b5.alloc (.cells #[.slice q1 so.principals.length d1,.slice q2 so.globals.length d2,.slice q3 so.arrays.length d3,.slice q4 so.channels.length d4,.slice q5 so.funcs.length d5] 27)) so)
   have HB:=hid (And.intro b1 (And.intro b2 b3))
   clear hc5 b1 b2 b3 b4 b5 hsrc HPS
   go_wp2_with fail
   go_at_call 94
   refine hend.mono ?_
   rintro e w7 ⟨hc7,⟨er,k,hr7,rfl⟩|⟨so',j',hr7,rfl,rfl⟩⟩
   ·have HW7:=hid (HW6.out.next hc7 (fun k e=>by omega))
    have HE:=hid (show srcOf s=.error (er,(tk ys s.size k).a) from by rw [HL.out,←p4_,hr,cl_,hr7])
    have hf7:=HW7.out.flt
    clear hc7 hr7
    go_wp2_with fail
    refine leaves_cons (f:=93) (args:=#[.pointer (some ⟨w.heap.size+1,0,none⟩)]) (by simp) (by simp [go_sem]) ?_
    refine (iu_ (w.heap.size+1) _ _ _ _ _ w7 hf7).mono ?_
    rintro e u' w' ⟨rfl,rfl,rfl⟩
    exact (HW7.out.fault _ _ _).bad HE.out _ rfl rfl
   ·have HE:=hid (show srcOf s=.ok so from by
     rw [HL.out,←p4_,hr,cl_,hr7]
     unfold endP at hr7
     split at hr7
     ·cases hr7
     ·injection hr7 with hr7;injection hr7 with hr7;rw [hr7])
    have hb5:=HW5.out.size
    obtain ⟨u0,u1,u2,u3,u4⟩:=al_ HNW.out
    obtain ⟨f0,f1,f2,f3,f4⟩:=iw_ HW6.out.res
    obtain ⟨o0,o1,o2,o3,o4⟩:=al_ HW6.out.res
    obtain ⟨y0,y1,y2,g0,g1,g2⟩:=bz_ HW6.out.flt
    have HX:=hid (show m.More w _ from HB.out.2.1.from (by have:=HW9.out.size;omega))
    have HE1:=hid (HB.out.2.2.chg (di_ (ex_ (((Chg.refl (fun k=>k=w.heap.size∨k=w.heap.size+1) w5).alloc (.cells #[.slice q1 so.principals.length d1,.slice q2 so.globals.length d2,.slice q3 so.arrays.length d3,.slice q4 so.channels.length d4,.slice q5 so.funcs.length d5] 27))) (g:=w.heap.size) (.inl (.inl rfl)) (.slice q1 so.principals.length d1) (.slice q2 so.globals.length d2) (.slice q3 so.arrays.length d3) (.slice q4 so.channels.length d4) (.slice q5 so.funcs.length d5)) (g:=w.heap.size+1) (.inl (.inr rfl)) (.int .i64 0) (.int .i64 0) (.int .i64 0)) (fun k e=>by
     have:=HW9.out.size
     rcases e with e|e
     ·rw [e];exact HB.out.2.1.new _ (HM.out.lt (Nat.le_refl _)) (by omega)
     ·rw [e];exact HB.out.2.1.new _ (HM.out.lt (by omega)) (by omega)))
    clear hr7 hc7
    go_wp2_with fail
    refine leaves_cons (f:=93) (args:=#[.pointer (some ⟨w.heap.size+1,0,none⟩)]) (by simp) (by simp [go_sem]) ?_
    refine (or_ (w.heap.size+1) _).mono ?_
    rintro e u' w' ⟨rfl,rfl,rfl⟩
    exact ((HW6.out.five _ _ _ _ _).fault _ _ _).good HE.out HB.out.1 HX.out (HE1.out) _ rfl rfl
 ·have hxe:(((x.e:Nat):Int) != 0)=true:=by simp;omega
  have HW1:=hid (show RdW w srZ flZ w1 from ⟨(hb1.block _ (by omega)).trans HR.out,(hb1.block _ (by omega)).trans HF.out,(Below.chg HB0.out (Nat.le_refl _) _).then (Below.chg (hb1.mono (Nat.le_refl _)) (Nat.le_refl _) _)⟩)
  have HS:=hid (m0_ hp hx)
  clear hb1 HB0 HR HF hscan hp
  obtain ⟨z0,z1,z2,z3,z4⟩:=al_ HW1.out.res
  have HWA:=hid ((HW1.out.next ((Chg.refl (fun _=>False) w1).alloc (.cells #[.int .i64 (x.e:Nat),.int .i64 (-1),.int .i64 (x.a:Nat)] 61)) (fun _ e=>e.elim)))
  obtain ⟨f0,f1,f2,f3,f4⟩:=iw_ HWA.out.res
  obtain ⟨u0,u1,u2,u3,u4⟩:=al_ HWA.out.res
  obtain ⟨y0,y1,y2,g0,g1,g2⟩:=bz_ HWA.out.flt
  go_wp2_with fail
  refine wp_mono (Q:=fun e a w'=>match e with | .normal=>a.tmps[4]?.getD undef=.pointer (some ⟨w.heap.size,0,none⟩)∧a.tmps[5]?.getD undef=.pointer (some ⟨w.heap.size+1,0,none⟩)∧a.defers=[]∧RdW w srZ (.cells #[.int .i64 (x.e:Nat),.int .i64 (-1),.int .i64 (x.a:Nat)] 61) w' | _=>False) ?_ ?_
  ·go_region_with (first|(go_simp;go_at_call 92;refine (i6_ _ _ _).mono ?_;rintro e w2 ⟨rfl,rfl⟩))
   all_goals exact ⟨rfl,rfl,rfl,((HWA.out.five _ _ _ _ _).fault _ _ _).drew⟩
  ·intro e a w' hq
   match e,hq with
   | .normal,⟨h4,h5,hd,hW⟩ =>
    rename_i K1 hK1 K0 hK0
    refine hK0 _ _ (wp_ret ?_)
    show Leaves _ _ _ _ a.defers .returning w'
    rw [hd]
    exact hW.bad HS.out _ h4 h5
attribute [local go_sem] Oper.semAt_some
def ExpRes (s:ByteArray) (m:Mem) (w:World) (e:Ending) (w':World):Prop:=Below w.heap.size w w' ∧
 match expOf s with
 | .error (er,a)=>e=.returned (.tuple #[.slice none 0 0,.agg #[.int .i64 (er:Nat),.int .i64 (-1),.int .i64 (a:Nat)]])
 | .ok l=>∃v m',e=.returned (.tuple #[v,.agg #[.int .i64 0,.int .i64 0,.int .i64 0]])∧TmM m' v l∧m.More w m'∧Has w' m'
structure RdE (w:World) (f:Obj) (W:World):Prop where
 flt:W.heap[w.heap.size]?=some f
 chg:Chg (fun _=>False) w W
theorem RdE.size {w W:World} {f:Obj} (h:RdE w f W):w.heap.size+1≤W.heap.size:=heap_lt h.flt
theorem resultsP (tmps:Array Value) (w:World) (b4 b5:Nat) (x0 x1 x2 x3 x4 y0 y1 y2:Value) (T5 T3:TypeId) (h4:tmps[2]?.getD undef=.pointer (some ⟨b4,0,none⟩)) (h5:tmps[3]?.getD undef=.pointer (some ⟨b5,0,none⟩))
 (c4:w.heap[b4]?=some (.cells #[x0,x1,x2,x3,x4] T5 (0,0))) (c5:w.heap[b5]?=some (.cells #[y0,y1,y2] T3 (0,0))) :
 (results Tryz.f25 tmps).run prog w=.ok (.tuple #[.agg #[x0,x1,x2,x3,x4],.agg #[y0,y1,y2]]) w:=by
 obtain ⟨p0,p1,p2,p3,p4⟩:=al_ c4
 obtain ⟨q0,q1,q2,_⟩:=bz_ c5
 simp [results,Tryz.results25,go_sem,h4,h5,p0,p1,p2,p3,p4,q0,q1,q2]
theorem ParRes.cases {s:ByteArray} {m:Mem} {w w':World} {e:Ending} (h:ParRes s m w e w'):Below w.heap.size w w' ∧
 ((∃ er a,srcOf s = .error (er,a) ∧ e = .returned (.tuple #[.agg #[.slice none 0 0,.slice none 0 0,.slice none 0 0,.slice none 0 0,.slice none 0 0],.agg #[.int .i64 (er : Nat),.int .i64 (-1),.int .i64 (a : Nat)]])) ∨
  (∃so q1 c1 q2 c2 q3 c3 q4 c4 q5 c5 m',srcOf s=.ok so∧e=.returned (.tuple #[.agg #[.slice q1 so.principals.length c1,.slice q2 so.globals.length c2,.slice q3 so.arrays.length c3,.slice q4 so.channels.length c4,.slice q5 so.funcs.length c5],.agg #[.int .i64 0,.int .i64 0,.int .i64 0]]) ∧
   SoM m' [.slice q1 so.principals.length c1,.slice q2 so.globals.length c2,.slice q3 so.arrays.length c3,.slice q4 so.channels.length c4,.slice q5 so.funcs.length c5] so∧m.More w m'∧Has w' m')):=by
 obtain ⟨hb,h⟩:=h
 refine ⟨hb,?_⟩
 cases hs:srcOf s with
 | error q=>rw [hs] at h;exact .inl ⟨q.1,q.2,rfl,h⟩
 | ok so =>
  rw [hs] at h
  obtain ⟨p,a,b,d,c,m',h1,h2,h3,h4⟩:=h
  obtain ⟨q1,d1,q2,d2,q3,d3,q4,d4,q5,d5,rfl,rfl,rfl,rfl,rfl⟩:=h2.shape
  exact .inr ⟨so,_,_,_,_,_,_,_,_,_,_,m',rfl,h1,h2,h3,h4⟩
theorem ExpRes.cases {s:ByteArray} {m:Mem} {w w':World} {e:Ending} (h:ExpRes s m w e w'):Below w.heap.size w w' ∧
 ((∃ er a,expOf s = .error (er,a) ∧ e = .returned (.tuple #[.slice none 0 0,.agg #[.int .i64 (er : Nat),.int .i64 (-1),.int .i64 (a : Nat)]])) ∨
  (∃l q c m',expOf s=.ok l∧e=.returned (.tuple #[.slice q l.length c,.agg #[.int .i64 0,.int .i64 0,.int .i64 0]])∧TmM m' (.slice q l.length c) l∧m.More w m'∧Has w' m')):=by
 obtain ⟨hb,h⟩:=h
 refine ⟨hb,?_⟩
 cases hs:expOf s with
 | error q=>rw [hs] at h;exact .inl ⟨q.1,q.2,rfl,h⟩
 | ok l =>
  rw [hs] at h
  obtain ⟨v,m',h1,h2,h3,h4⟩:=h
  obtain ⟨q,c,rfl⟩:=bg_ h2
  exact .inr ⟨l,q,c,m',rfl,h1,h2,h3,h4⟩
theorem dk_ (s:ByteArray) (w:World) (hE:Env w) {m:Mem} (hm:Has w m):Calls prog 25 #[.string s] w (ParRes s m w):=by
 have hb0:Below w.heap.size w ((w.alloc srZ).alloc flZ):=((Below.refl _ _).alloc (Nat.le_refl _) _).alloc (by simp) _
 have hE2:Env ((w.alloc srZ).alloc flZ):=hE.below hb0 hE.lt
 have hR:((w.alloc srZ).alloc flZ).heap[w.heap.size]?=some srZ:=ad_ _ _ (nwn w srZ)
 have hF:=nwn (w.alloc srZ) flZ
 rw [World.size_alloc] at hF
 have hsz:((w.alloc srZ).alloc flZ).heap.size=w.heap.size+2:=by simp
 have hm2:Has ((w.alloc srZ).alloc flZ) m:=hm.chg (Below.chg hb0 (Nat.le_refl _) (fun _=>False)) (fun _ e=>e.elim)
 have hread:=un_ s _ hE2 hm2
 have HB0:=hid hb0
 have HR:=hid hR
 have HF:=hid hF
 have HM:=hid hm
 clear hb0 hE2 hR hF hm hm2
 go_enter func25,ntmps25
 go_wp2_with fail
 go_at_call 49
 change Calls prog _ _ ((w.alloc srZ).alloc flZ) _
 generalize (w.alloc srZ).alloc flZ=W0 at *
 refine hread.mono ?_
 rintro e w1 hpr
 obtain ⟨hb1,⟨er,a,hs,rfl⟩|⟨so,q1,c1,q2,c2,q3,c3,q4,c4,q5,c5,m',hs,rfl,h1,h2,h3⟩⟩:=hpr.cases
 all_goals
  have HW1:=hid (show RdW w srZ flZ w1 from ⟨(hb1.block _ (by omega)).trans HR.out,(hb1.block _ (by omega)).trans HF.out,(Below.chg HB0.out (Nat.le_refl _) _).then (Below.chg (hb1.mono (Nat.le_refl _)) (Nat.le_refl _) _)⟩)
  have hszw:=HW1.out.size
  obtain ⟨z0,z1,z2,z3,z4⟩:=al_ HW1.out.res
  obtain ⟨f0,f1,f2,f3,f4⟩:=iw_ HW1.out.res
  obtain ⟨y0,y1,y2,g0,g1,g2⟩:=bz_ HW1.out.flt
  have HS:=hid hs
  clear hb1 hs hpr hread
 ·have HEND:=hid (show RdW w _ _ _ from (HW1.out.five (.slice none 0 0) (.slice none 0 0) (.slice none 0 0) (.slice none 0 0) (.slice none 0 0)).fault (.int .i64 (er:Nat)) (.int .i64 (-1)) (.int .i64 (a:Nat)))
  go_wp2
  exact bodyPost_ret (resultsP _ _ _ _ _ _ _ _ _ _ _ _ _ _ rfl rfl HEND.out.res HEND.out.flt) rfl (ParRes.bad HS.out (HEND.out.chg.below (Nat.le_refl _) (fun _ e=>e.elim)))
 ·have HEND:=hid (show RdW w _ _ _ from (HW1.out.five (.slice q1 so.principals.length c1) (.slice q2 so.globals.length c2) (.slice q3 so.arrays.length c3) (.slice q4 so.channels.length c4) (.slice q5 so.funcs.length c5)).fault (.int .i64 0) (.int .i64 0) (.int .i64 0))
  have HX:=hid (And.intro h1 (And.intro (h2.from (w:=w) (by omega)) (h3.chg (di_ (ex_ (Chg.refl (fun k=>k=w.heap.size∨k=w.heap.size+1) w1) (g:=w.heap.size) (.inl (.inl rfl)) (.slice q1 so.principals.length c1) (.slice q2 so.globals.length c2) (.slice q3 so.arrays.length c3) (.slice q4 so.channels.length c4) (.slice q5 so.funcs.length c5)) (g:=w.heap.size+1) (.inl (.inr rfl)) (.int .i64 0) (.int .i64 0) (.int .i64 0)) (fun k e=>by
   rcases e with e|e
   ·rw [e];exact h2.new _ (HM.out.lt (Nat.le_refl _)) (by omega)
   ·rw [e];exact h2.new _ (HM.out.lt (by omega)) (by omega)))))
  clear h1 h2 h3
  go_wp2
  exact bodyPost_ret (resultsP _ _ _ _ _ _ _ _ _ _ _ _ _ _ rfl rfl HEND.out.res HEND.out.flt) rfl (ParRes.good HS.out (HEND.out.chg.below (Nat.le_refl _) (fun _ e=>e.elim)) HX.out.1 HX.out.2.1 HX.out.2.2)
def scanF:Nat→List Nat→Nat→List Tok × Nat × Nat
 | 0,_,a=>([],a,0)
 | _+1,[],a=>([],a,0)
 | n+1,c::r,a =>
  if blankB c then scanF n r (a+1)
  else if c=35 then scanF n ((c::r).dropWhile inC) (a+((c::r).takeWhile inC).length)
  else if errL (c::r)≠0 then ([],a,errL (c::r))
  else (⟨(wordL (c::r)).2,(c::r).take (wordL (c::r)).1,valL (c::r),a⟩::(scanF n ((c::r).drop (wordL (c::r)).1) (a+(wordL (c::r)).1)).1,(scanF n ((c::r).drop (wordL (c::r)).1) (a+(wordL (c::r)).1)).2)
theorem hu_:∀(n:Nat) (l:List Nat) (a:Nat),l.length<n→scanF n l a=scanL l a
 | n+1,[],a,_=>by rw [scanF,scanL]
 | n+1,c::r,a,h=>by
  rw [List.length_cons] at h
  rw [scanF]
  split
  ·rename_i hb
   rw [cw_ r a hb,hu_ n r _ (by omega)]
  ·rename_i hb
   have hb:blankB c=false:=by simpa using hb
   split
   ·rename_i h35
    subst h35
    have:=ch_ r
    rw [List.length_cons] at this
    rw [ea_,hu_ n _ _ (by omega)]
   ·rename_i h35
    split
    ·rename_i he
     rw [kl_ a hb h35 he]
    ·rename_i he
     have he:errL (c::r)=0:=by omega
     have hd:=h9_ c r _ (fp_ he)
     rw [List.length_cons] at hd
     rw [ic_ a hb h35 he,hu_ n _ _ (by omega)]
theorem r1_ (s:ByteArray) (h:s.size≤65536):allItems s=itemsOf (scanF (s.size+1) (bl s) 0):=by
 rw [allItems,if_neg (by omega),hu_ _ _ _ (by rw [ae_];omega)]
def itsF (s:ByteArray):List It:=(itemsOf (scanF (s.size+1) (bl s) 0)).map fun x=>⟨x.1.kind,sb x.1.text,x.1.value,x.1.at_,x.2⟩
theorem itsOf_F (s:ByteArray) (h:s.size≤65536):itsOf s=itsF s:=by unfold itsOf itsF;rw [r1_ s h]
def readF {α:Type} (r:(Nat→Option Syn.K)→Nat→Syn.R α) (s:ByteArray):Except (Nat × Nat) α :=
 match (itsF s).find? fun x=>x.e != 0 with
 | some x=>.error (x.e,x.a)
 | none=>match r (Tk (itsF s)) ((itsF s).length+1) with
  | .error (er,k)=>.error (er,(tk (itsF s) s.size k).a)
  | .ok (x,_)=>.ok x
theorem p6_ {α:Type} (r:(Nat→Option Syn.K)→Nat→Syn.R α) (s:ByteArray) (h:s.size≤65536):readOf r s=readF r s:=by
 unfold readOf readF faultOf
 rw [itsOf_F s h]
 cases (itsF s).find? fun x=>x.e != 0 with
 | some x=>rfl
 | none =>
  simp only [Option.map_none]
  all_goals
   cases r (Tk (itsF s)) ((itsF s).length+1) with
   | error q=>rfl
   | ok q=>rfl
def okIs {α:Type} [DecidableEq α] (r:Except (Nat × Nat) α) (x:α):Bool:=match r with
 | .ok y=>decide (y=x)
 | _=>false
theorem uo_ {α:Type} [DecidableEq α] {r:Except (Nat × Nat) α} {x:α} (h:okIs r x=true):r=.ok x:=by
 unfold okIs at h
 split at h
 ·rw [of_decide_eq_true h]
 ·cases h
theorem up_:∀l:List (List Nat),Enc (fun c s=>c=[Value.string (sb s)]) (strC l) l
 | []=>rfl
 | s::l=>⟨[.string (sb s)],strC l,rfl,rfl,up_ l⟩
theorem da_ {m:Mem} {E:TypeId} {size n:Nat} {v:Value} {xs:List Value} (hu:RowM m E size v n xs):n≤9223372036854775807:=by
 rcases hu.2 with ⟨_,e⟩|⟨_,cap,_,e,_,h4,h5,_⟩
 ·omega
 ·unfold maxLen at h5;omega
end Go.Proofs.YtpcniebkabkikaaGreatDoor
