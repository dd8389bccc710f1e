/- What a text is read as, plain; wantEnd; the deferred closures of read. A text read as a source: read. A text read as an expression: read; Parse and Expr. What the parser has read lies in memory as a source may. What the laws know of texts: parsed and checked. What the laws know. -/
import Derived.Test.YtlpdjfimefjmcaaGreatDoorFlOpenPR34
import Derived.Defers
import Derived.Recover
import Derived.Maps.AppendAt
import Derived.Test.YtlpdjfimefjmcaaGreatDoorFlOpenPR20
import Derived.Test.YtlpdjfimefjmcaaGreatDoorFlOpenPR4
open Go.Lib (hid)
namespace Go.Proofs.YtlpdjfimefjmcaaGreatDoor.Q
open Go Go.RowKit Go.Proofs.Mm
def itsOf (s:ByteArray):List It:=(allItems s).map fun x=>⟨x.1.kind,sb x.1.text,x.1.value,x.1.at_,x.2⟩
theorem its_of {s:ByteArray} {ys:List It} (h:ys.map It.key=allItems s):itsOf s=ys:=by
 unfold itsOf
 rw [←h,List.map_map]
 conv=>rhs;rw [←List.map_id ys]
 congr 1
 funext x
 simp only [Function.comp,It.key,sb_bl,id]
def faultOf (s:ByteArray):Option (Nat × Nat):=((itsOf s).find? fun x=>x.e != 0).map fun x=>(x.e,x.a)
def readOf {α:Type} (r:(Nat→Option Syn.K)→Nat→Syn.R α) (s:ByteArray):Except (Nat × Nat) α :=
 match faultOf s with
 | some q=>.error q
 | none=>match r (Tk (itsOf s)) ((itsOf s).length+1) with
  | .error (er,k)=>.error (er,(tk (itsOf s) s.size k).a)
  | .ok (x,_)=>.ok x
def srcOf (s:ByteArray):Except (Nat × Nat) Syn.So:=readOf Syn.source s
def expOf (s:ByteArray):Except (Nat × Nat) (List Syn.Tm):=readOf Syn.whole1 s
theorem faultOf_none {s:ByteArray} {ys:List It} (h:ys.map It.key=allItems s) (h0:∀x∈ys,x.e=0):faultOf s=none:=by
 unfold faultOf
 rw [its_of h,List.find?_eq_none.2 (fun x hx=>by simp [h0 x hx])]
 rfl
theorem items_err_last (ts:List Tok) (e:Option (Tok × Nat)) (l:List (Tok × Nat)) (x:Tok × Nat) (h:(l++[x]) <+: ts.map (fun t=>(t,0))++e.toList) (hx:x.2≠0):e=some x∧l=ts.map (fun t=>(t,0)):=by
 obtain ⟨r,hr⟩:=h
 rcases List.append_eq_append_iff.1 hr with ⟨a,h1,h2⟩|⟨a,h1,h2⟩
 ·-- all of l++[x] stands among the words
  have:x∈ts.map (fun t=>(t,0)):=by rw [h1];simp
  obtain ⟨t,_,ht⟩:=List.mem_map.1 this
  exact (hx (by rw [←ht])).elim
 ·cases e with
  | none =>
   have ha:a=[]:=by
    have:=congrArg List.length h2;simp at this;exact List.eq_nil_of_length_eq_zero (by omega)
   rw [ha,List.append_nil] at h1
   have:x∈ts.map (fun t=>(t,0)):=by rw [←h1];simp
   obtain ⟨t,_,ht⟩:=List.mem_map.1 this
   exact (hx (by rw [←ht])).elim
  | some y =>
   cases a with
   | nil =>
    rw [List.append_nil] at h1
    have:x∈ts.map (fun t=>(t,0)):=by rw [←h1];simp
    obtain ⟨t,_,ht⟩:=List.mem_map.1 this
    exact (hx (by rw [←ht])).elim
   | cons b a =>
    simp only [Option.toList,List.cons_append,List.cons.injEq] at h2
    obtain ⟨h2,h3⟩:=h2
    have ha:a=[]:=by
     have:=congrArg List.length h3;simp at this;exact List.eq_nil_of_length_eq_zero (by omega)
    subst ha
    subst h2
    obtain ⟨h4,h5⟩:=List.append_inj' h1 rfl
    injection h5 with h5
    exact ⟨by rw [h5],h4⟩
theorem faultOf_some {s:ByteArray} {pr:List It} {x:It} (h:(pr++[x]).map It.key <+: allItems s) (hx:x.e≠0):faultOf s=some (x.e,x.a):=by
 have hlast:∃(ts:List Tok) (e:Option (Tok × Nat)),allItems s=ts.map (fun t=>(t,0))++e.toList:=by
  unfold allItems itemsOf
  split
  ·exact ⟨[],some _,rfl⟩
  ·split
   ·exact ⟨_,none,rfl⟩
   ·exact ⟨_,some _,rfl⟩
 obtain ⟨ts,e,he⟩:=hlast
 rw [he,List.map_append,List.map_singleton] at h
 obtain ⟨h1,_⟩:=items_err_last ts e _ _ h hx
 unfold faultOf itsOf
 rw [he,h1,List.map_append,List.map_map,List.find?_append,List.find?_eq_none.2 (by
  intro y hy
  obtain ⟨t,_,ht⟩:=List.mem_map.1 hy
  rw [←ht];simp)]
 simp only [Option.toList,List.map_singleton,Option.none_or,List.find?_cons,It.key]
 rw [show (x.e != 0)=true from by simpa using hx]
 rfl
theorem all_short {s:ByteArray} {ys:List It} (h:ys.map It.key=allItems s) (h0:∀x∈ys,x.e=0):s.size≤65536∧allItems s=itemsOf (scanL (bl s) 0)∧(scanL (bl s) 0).2.2=0:=by
 have hs:s.size≤65536:=by
  rcases Nat.lt_or_ge 65536 s.size with q|q
  ·rw [allItems,if_pos q] at h
   cases ys with
   | nil=>cases h
   | cons x l =>
    simp only [List.map_cons,List.cons.injEq] at h
    have:=h0 x (List.mem_cons_self ..)
    have h2:=congrArg Prod.snd h.1
    simp only [It.key] at h2
    omega
  ·exact q
 have ha:allItems s=itemsOf (scanL (bl s) 0):=by rw [allItems,if_neg (by omega)]
 refine ⟨hs,ha,?_⟩
 rcases Nat.eq_zero_or_pos (scanL (bl s) 0).2.2 with q|q
 ·exact q
 ·rw [ha] at h
  unfold itemsOf at h
  rw [if_neg (by omega)] at h
  have hm:((⟨0,[],0,(scanL (bl s) 0).2.1⟩:Tok),(scanL (bl s) 0).2.2)∈ys.map It.key:=by rw [h];simp
  obtain ⟨y,hy,e⟩:=List.mem_map.1 hm
  have:=h0 y hy
  have h2:=congrArg Prod.snd e
  simp only [It.key] at h2
  omega
theorem ws_of {s:ByteArray} {ys:List It} (h:ys.map It.key=allItems s) (h0:∀x∈ys,x.e=0):Ws ys:=by
 obtain ⟨hs,ha,hz⟩:=all_short h h0
 have hm:ys.map It.key=(scanL (bl s) 0).1.map fun t=>(t,0):=by rw [h,ha];unfold itemsOf;rw [if_pos hz,List.append_nil]
 refine ⟨fun x hx=>?_,?_⟩
 ·have:x.key∈ys.map It.key:=List.mem_map_of_mem hx
  rw [hm] at this
  obtain ⟨t,ht,e⟩:=List.mem_map.1 this
  have hg:=scanL_all _ (bl s) (Nat.le_refl _) 0 t ht
  have h1:=congrArg Prod.fst e
  simp only [It.key] at h1
  rw [h1] at hg
  exact hg
 ·have:=congrArg List.length hm
  rw [List.length_map,List.length_map] at this
  have h2:=scan_count _ (bl s) (Nat.le_refl _) 0
  rw [bl_length] at h2
  omega
section
variable {ys:List It} {len bp bw i:Nat} {vp:Value} {w:World} {α:Type}
set_option maxRecDepth 100000 in
theorem wantEnd_ps (h:PS ys len bp bw vp w i) (x:α) :
 Calls Tryz.prog 114 #[.pointer (some ⟨bp,0,none⟩)] w (Ret ys len (fun k=>k=bp) w (endP (Tk ys) x i) fun _ _ e w'=>e=.returned (.tuple #[])∧w=w'):=by
 obtain ⟨c,h0,hf,hc,hc2,h1,h2,h3,h4⟩:=h.raw
 have hle:=h.le
 have hfew:=h.few
 rcases Nat.lt_or_ge i ys.length with q|q
 ·have HE:=hid (show endP (Tk ys) x i=.error (50,i) from if_pos (by rw [Tk_some (len:=len) q];rfl))
  have HF:=hid (fail_ps h 50 (fun k=>k=bp))
  have hg:decide ((1:Int)<((ys.length+1 - i:Nat):Int))=true:=by simp;omega
  have hg2:decide (((ys.length+1 - i:Nat):Int) > 1)=true:=by simp;omega
  clear h hf hc hc2 h1 h2 h3 h4 q
  generalize ys.length+1 - i=m at *
  generalize 4*i=o at *
  have hm1:(1:Int)<(m:Int):=by simpa using hg
  go_enter Tryz.func114,Tryz.ntmps114
  go_wp2_with fail
  go_at_call 138
  refine HF.out.mono ?_
  rintro e w' ⟨rfl,hc⟩
  exact ⟨rfl,ret_err HE.out hc⟩
 ·have HE:=hid (show endP (Tk ys) x i=.ok (x,i) from if_neg (by rw [Tk_none q];simp))
  have hm:ys.length+1 - i=1:=by omega
  rw [hm] at h0 hc
  have HC:=hid (Chg.refl (fun k=>k=bp) w)
  clear h hf hc hc2 h1 h2 h3 h4 q hm
  generalize 4*i=o at *
  go_enter Tryz.func114,Tryz.ntmps114
  go_wp2
  go_end0
  exact ret_ok HE.out HC.out ⟨rfl,rfl⟩
end
theorem free3 {w:World} {b:Nat} {x y z:Value} {T:TypeId} (h:w.heap[b]?=some (.cells #[x,y,z] T (0,0))):w.frozen? ⟨b,0,none⟩=false∧w.frozen? ⟨b,1,none⟩=false∧w.frozen? ⟨b,2,none⟩=false:=⟨free_of h,free_of h,free_of h⟩
theorem gu_assert (er a:Int) (w:World):(Instr.typeAssert (.iface 161 (.agg #[.int .i64 er,.int .i64 (-1),.int .i64 a])) 20 161 false).run Tryz.prog w=.ok (.agg #[.int .i64 er,.int .i64 (-1),.int .i64 a]) w:=by kernel_rfl
theorem gu_field (er a:Int) (w:World):(Instr.field 161 (.agg #[.int .i64 er,.int .i64 (-1),.int .i64 a]) 0).run Tryz.prog w=.ok (.agg #[.int .i64 er,.int .i64 (-1),.int .i64 a]) w:=by kernel_rfl
theorem catchS_fail (b:Nat) (x y z:Value) (er a:Int) (w:World) (h:w.heap[b]?=some (.cells #[x,y,z] 33 (0,0))) :
 CallsD Tryz.prog 113 #[.pointer (some ⟨b,0,none⟩)] (.panicking (gv er a)) w fun e u' w' =>
  e=.returned (.tuple #[])∧u'=.panicking [{ v:=.iface 161 (.agg #[.int .i64 er,.int .i64 (-1),.int .i64 a]),recovered:=true }]∧w'=((w.setCell ⟨b,0,none⟩ (.int .i64 er)).setCell ⟨b,1,none⟩ (.int .i64 (-1))).setCell ⟨b,2,none⟩ (.int .i64 a):=by
 obtain ⟨f0,f1,f2⟩:=free3 h
 obtain ⟨c0,c1,c2,_⟩:=three_cells h
 refine callsD_of_wpS Tryz.func113 rfl fun c₀ cs hu=>?_
 unfold gv at hu
 apply wpS_seq
 apply wpS_region
 simp [wpOpsS,go_sem,recoverD,hu,Tryz.ntmps113,Exit.thenS]
 apply wpS_seq
 apply wpS_region
 simp [wpOpsS,go_sem,Exit.thenS]
 refine wpS_cond (t:=true) (by simp [Act.eval]) ?_
 simp only [if_true]
 apply wpS_region
 simp [wpOpsS,go_sem,gu_assert,gu_field,c0,c1,c2,f0,f1,f2,bodyPostS,results,Tryz.results113]
theorem catchS_idle (b:Nat) (w:World) :
 CallsD Tryz.prog 113 #[.pointer (some ⟨b,0,none⟩)] .returning w fun e u' w'=>e=.returned (.tuple #[])∧u'=.returning∧w'=w:=by
 refine callsD_of_wpS Tryz.func113 rfl fun c₀ cs hu=>?_
 apply wpS_seq
 apply wpS_region
 simp [wpOpsS,go_sem,recoverD,hu,Tryz.ntmps113,Exit.thenS]
 apply wpS_seq
 apply wpS_region
 simp [wpOpsS,go_sem,Exit.thenS]
 refine wpS_cond (t:=false) (by simp [Act.eval]) ?_
 simp only [Bool.false_eq_true,if_false]
 refine wpS_of_wp (wp_skip ?_)
 cases c₀
 simp_all [bodyPostS,results,Tryz.results113]
attribute [local go_sem] Oper.semAt_some
theorem tokCells_cons (x:It) (l:List It):tokCells (x::l)=.int .i64 (x.k:Nat)::.string x.t::.int .i64 (x.v:Nat)::.int .i64 (x.a:Nat)::tokCells l:=by simp [tokCells]
theorem tokCells_at:∀(l:List It) (j:Nat) (h:j<l.length),(tokCells l)[4*j]?=some (.int .i64 (l[j].k:Nat))∧(tokCells l)[4*j+1]?=some (.string l[j].t)∧(tokCells l)[4*j+2]?=some (.int .i64 (l[j].v:Nat))∧(tokCells l)[4*j+3]?=some (.int .i64 (l[j].a:Nat))
 | [],j,h=>absurd h (by simp)
 | x::l,0,_=>by rw [tokCells_cons];exact ⟨rfl,rfl,rfl,rfl⟩
 | x::l,j+1,h=>by
  have:=tokCells_at l j (by simpa using h)
  rw [tokCells_cons]
  simp only [show 4*(j+1)=4*j+1+1+1+1 by omega,show 4*j+1+1+1+1+1=(4*j+1)+1+1+1+1 by omega,show 4*j+1+1+1+1+2=(4*j+2)+1+1+1+1 by omega,show 4*j+1+1+1+1+3=(4*j+3)+1+1+1+1 by omega,List.getElem?_cons_succ,List.getElem_cons_succ]
  exact this
def endIt (len:Nat):It:=⟨0,⟨#[]⟩,0,len,0⟩
theorem tk_snoc (ys:List It) (len j:Nat) (h:j<(ys++[endIt len]).length):(ys++[endIt len])[j]=tk ys len j:=by
 unfold tk
 rw [List.getD_eq_getElem?_getD]
 rcases Nat.lt_or_ge j ys.length with q|q
 ·rw [List.getElem?_eq_getElem q,List.getElem_append_left q];rfl
 ·rw [List.getElem?_eq_none q,List.getElem_append_right q,List.getElem_singleton];rfl
theorem ps_new {ys:List It} {len B c9:Nat} {q9:Option Addr} {w9:World} (hw:Ws ys) (h:w9.ownsRow B 163 4 (.slice q9 (ys.length+1) c9) (ys.length+1) (tokCells ys++[.int .i64 (0:Nat),.string ⟨#[]⟩,.int .i64 (0:Nat),.int .i64 (len:Nat)])) :
 ∃g,q9=some ⟨g,0,none⟩∧B≤g∧g<w9.heap.size∧PS ys len w9.heap.size g (.slice none 0 0) (w9.alloc (.cells #[.slice (some ⟨g,0,none⟩) (ys.length+1) c9,.slice none 0 0] 165)) 0:=by
 obtain ⟨h1,⟨h2,h3⟩|⟨g,cap,cur,h2,hb,hg,h4,h5,h6,h7⟩⟩:=h
 ·omega
 injection h2 with e1 _ e2
 subst e1;subst e2
 refine ⟨g,rfl,hb,heap_lt hg,⟨c9,World.alloc_heap_new w9 _,by omega,h5⟩,⟨cur,heap_new _ _ hg,fun j hj=>?_⟩,Nat.zero_le _,hw.2⟩
 have hj':j<(ys++[endIt len]).length:=by simp;omega
 have ha:=tokCells_at _ j hj'
 rw [tokCells_snoc,tk_snoc ys len j hj'] at ha
 have hcur:∀k u,k<4*(ys.length+1)→(tokCells ys++[Value.int .i64 (0:Nat),.string ⟨#[]⟩,.int .i64 (0:Nat),.int .i64 (len:Nat)])[k]?=some u→cur[k]?=some u:=fun k u hk hu=>by
  rw [←h7,List.getElem?_take,if_pos (by omega)] at hu
  simpa using hu
 exact ⟨hcur _ _ (by omega) ha.1,hcur _ _ (by omega) ha.2.1,hcur _ _ (by omega) ha.2.2.1,hcur _ _ (by omega) ha.2.2.2⟩
theorem read_eq {α:Type} {r:(Nat→Option Syn.K)→Nat→Syn.R α} {s:ByteArray} {ys:List It} (hy:ys.map It.key=allItems s) (hy0:∀x∈ys,x.e=0) :
 readOf r s=match r (Tk ys) (ys.length+1) with
  | .error (er,k)=>.error (er,(tk ys s.size k).a)
  | .ok (x,_)=>.ok x:=by
 unfold readOf;rw [faultOf_none hy hy0];simp only;rw [its_of hy]
 all_goals
  cases r (Tk ys) (ys.length+1) with
  | error q=>rfl
  | ok q=>rfl
theorem read_bad {α:Type} {r:(Nat→Option Syn.K)→Nat→Syn.R α} {s:ByteArray} {q:Nat × Nat} (h:faultOf s=some q):readOf r s=.error q:=by unfold readOf;rw [h]
def ParRes (s:ByteArray) (m:Mem) (w:World) (e:Ending) (w':World):Prop:=Below w.heap.size w w' ∧
 match srcOf s with
 | .error (er,a)=>e=.returned (.tuple #[.agg #[.slice none 0 0,.slice none 0 0,.slice none 0 0,.slice none 0 0,.slice none 0 0],.agg #[.int .i64 (er:Nat),.int .i64 (-1),.int .i64 (a:Nat)]])
 | .ok so=>∃p a b d c m',e=.returned (.tuple #[.agg #[p,a,b,d,c],.agg #[.int .i64 0,.int .i64 0,.int .i64 0]])∧SoM m' [p,a,b,d,c] so∧m.More w m'∧Has w' m'
theorem ParRes.bad {s:ByteArray} {m:Mem} {w w':World} {er a:Nat} (h:srcOf s=.error (er,a)) (hb:Below w.heap.size w w'):ParRes s m w (.returned (.tuple #[.agg #[.slice none 0 0,.slice none 0 0,.slice none 0 0,.slice none 0 0,.slice none 0 0],.agg #[.int .i64 (er:Nat),.int .i64 (-1),.int .i64 (a:Nat)]])) w':=⟨hb,by rw [h]⟩
theorem ParRes.good {s:ByteArray} {m m':Mem} {w w':World} {so:Syn.So} {p a b d c:Value} (h:srcOf s=.ok so) (hb:Below w.heap.size w w') (h1:SoM m' [p,a,b,d,c] so) (h2:m.More w m') (h3:Has w' m'):ParRes s m w (.returned (.tuple #[.agg #[p,a,b,d,c],.agg #[.int .i64 0,.int .i64 0,.int .i64 0]])) w':=⟨hb,by rw [h];exact ⟨p,a,b,d,c,m',rfl,h1,h2,h3⟩⟩
def flZ:Obj:=.cells #[.int .i64 0,.int .i64 0,.int .i64 0] 33
theorem resultsS (tmps:Array Value) (w:World) (b4 b5:Nat) (x0 x1 x2 x3 x4 y0 y1 y2:Value) (T5 T3:TypeId) (h4:tmps[4]?.getD undef=.pointer (some ⟨b4,0,none⟩)) (h5:tmps[5]?.getD undef=.pointer (some ⟨b5,0,none⟩))
 (c4:w.heap[b4]?=some (.cells #[x0,x1,x2,x3,x4] T5 (0,0))) (c5:w.heap[b5]?=some (.cells #[y0,y1,y2] T3 (0,0))) :
 (results Tryz.f65 tmps).run Tryz.prog w=.ok (.tuple #[.agg #[x0,x1,x2,x3,x4],.agg #[y0,y1,y2]]) w:=by
 obtain ⟨p0,p1,p2,p3,p4⟩:=five_cells c4
 obtain ⟨q0,q1,q2,_⟩:=three_cells c5
 simp [results,Tryz.results65,go_sem,h4,h5,p0,p1,p2,p3,p4,q0,q1,q2]
theorem rowM_shape {m:Mem} {E:TypeId} {size n:Nat} {v:Value} {xs:List Value} (h:RowM m E size v n xs):∃q c,v=.slice q n c:=by
 rcases h.2 with ⟨rfl,rfl⟩|⟨g,cap,cur,rfl,_⟩
 ·exact ⟨_,_,rfl⟩
 ·exact ⟨_,_,rfl⟩
theorem SoM.shape {m:Mem} {p a b d e:Value} {s:Syn.So} (h:SoM m [p,a,b,d,e] s):∃q1 c1 q2 c2 q3 c3 q4 c4 q5 c5,p=.slice q1 s.principals.length c1∧a=.slice q2 s.globals.length c2∧b=.slice q3 s.arrays.length c3∧d=.slice q4 s.channels.length c4∧e=.slice q5 s.funcs.length c5:=by
 obtain ⟨p',a',b',d',e',h,h0,⟨c1,p1,_⟩,⟨c2,p2,_⟩,⟨c3,p3,_⟩,⟨c4,p4,_⟩⟩:=h
 simp only [List.cons.injEq,and_true] at h
 obtain ⟨rfl,rfl,rfl,rfl,rfl⟩:=h
 obtain ⟨q1,d1,h1⟩:=rowM_shape h0
 obtain ⟨q2,d2,h2⟩:=rowM_shape p1
 obtain ⟨q3,d3,h3⟩:=rowM_shape p2
 obtain ⟨q4,d4,h4⟩:=rowM_shape p3
 obtain ⟨q5,d5,h5⟩:=rowM_shape p4
 exact ⟨q1,d1,q2,d2,q3,d3,q4,d4,q5,d5,h1,h2,h3,h4,h5⟩
theorem set3 {W:World} {b:Nat} {x y z x' y' z':Value} {T:TypeId} (h:W.heap[b]?=some (.cells #[x,y,z] T (0,0))):(((W.setCell ⟨b,0,none⟩ x').setCell ⟨b,1,none⟩ y').setCell ⟨b,2,none⟩ z').heap[b]?=some (.cells #[x',y',z'] T (0,0)):=heap_set (heap_set (heap_set h 0 x') 1 y') 2 z'
theorem set5 {W:World} {b:Nat} {x y z u v x' y' z' u' v':Value} {T:TypeId} (h:W.heap[b]?=some (.cells #[x,y,z,u,v] T (0,0))):(((((W.setCell ⟨b,0,none⟩ x').setCell ⟨b,1,none⟩ y').setCell ⟨b,2,none⟩ z').setCell ⟨b,3,none⟩ u').setCell ⟨b,4,none⟩ v').heap[b]?=some (.cells #[x',y',z',u',v'] T (0,0)):=heap_set (heap_set (heap_set (heap_set (heap_set h 0 x') 1 y') 2 z') 3 u') 4 v'
theorem five_free {W:World} {g:Nat} {arr:Array Value} {T:TypeId} (h:W.heap[g]?=some (.cells arr T (0,0))):W.frozen? ⟨g,0,none⟩=false∧W.frozen? ⟨g,1,none⟩=false∧W.frozen? ⟨g,2,none⟩=false∧W.frozen? ⟨g,3,none⟩=false∧W.frozen? ⟨g,4,none⟩=false:=⟨free_of h,free_of h,free_of h,free_of h,free_of h⟩
structure RdW (w:World) (r f:Obj) (W:World):Prop where
 res:W.heap[w.heap.size]?=some r
 flt:W.heap[w.heap.size+1]?=some f
 chg:Chg (fun _=>False) w W
theorem RdW.next {w W W':World} {r f:Obj} {S:Nat→Prop} (h:RdW w r f W) (hc:Chg S W W') (hS:∀k,S k→w.heap.size+2≤k):RdW w r f W' :=
 ⟨hc.heap h.res (fun e=>by have:=hS _ e;omega),hc.heap h.flt (fun e=>by have:=hS _ e;omega),h.chg.trans hc (fun k e=>.inr (by have:=hS _ e;omega))⟩
theorem RdW.size {w W:World} {r f:Obj} (h:RdW w r f W):w.heap.size+2≤W.heap.size:=heap_lt h.flt
theorem RdW.fault {w W:World} {r:Obj} {x0 y0 z0:Value} (h:RdW w r (.cells #[x0,y0,z0] 33) W) (x y z:Value):RdW w r (.cells #[x,y,z] 33) (((W.setCell ⟨w.heap.size+1,0,none⟩ x).setCell ⟨w.heap.size+1,1,none⟩ y).setCell ⟨w.heap.size+1,2,none⟩ z):=by
 have hc:=chg_three (Chg.refl (fun k=>k=w.heap.size+1) W) (.inl rfl) x y z
 exact ⟨hc.heap h.res (by omega),set3 h.flt,chg_three h.chg (.inr (by omega)) x y z⟩
theorem RdW.five {w W:World} {f:Obj} {x0 y0 z0 u0 v0:Value} (h:RdW w (.cells #[x0,y0,z0,u0,v0] 27) f W) (x y z u v:Value):RdW w (.cells #[x,y,z,u,v] 27) f (((((W.setCell ⟨w.heap.size,0,none⟩ x).setCell ⟨w.heap.size,1,none⟩ y).setCell ⟨w.heap.size,2,none⟩ z).setCell ⟨w.heap.size,3,none⟩ u).setCell ⟨w.heap.size,4,none⟩ v):=by
 have hc:=chg_five (Chg.refl (fun k=>k=w.heap.size) W) (.inl rfl) x y z u v
 exact ⟨set5 h.res,hc.heap h.flt (by omega),chg_five h.chg (.inr (by omega)) x y z u v⟩
theorem RdW.drew {w W:World} {r f:Obj} (h:RdW w r f W):RdW w r f W.drew:=⟨h.res,h.flt,h.chg.drew⟩
theorem RdW.bad {s:ByteArray} {m:Mem} {w W:World} {er a:Nat} (h:RdW w srZ (.cells #[.int .i64 (er:Nat),.int .i64 (-1),.int .i64 (a:Nat)] 33) W) (hs:srcOf s=.error (er,a)) (tmps:Array Value) (h4:tmps[4]?.getD undef=.pointer (some ⟨w.heap.size,0,none⟩)) (h5:tmps[5]?.getD undef=.pointer (some ⟨w.heap.size+1,0,none⟩)) :
 ∃v,(results Tryz.f65 tmps).run Tryz.prog W=.ok v W∧ParRes s m w (.returned v) W :=
 ⟨_,resultsS tmps W _ _ _ _ _ _ _ _ _ _ _ _ h4 h5 h.res h.flt,ParRes.bad hs (h.chg.below (Nat.le_refl _) (fun _ e=>e.elim))⟩
theorem RdW.good {s:ByteArray} {m m':Mem} {w W:World} {so:Syn.So} {p a b d c:Value} (h:RdW w (.cells #[p,a,b,d,c] 27) flZ W) (hs:srcOf s=.ok so) (h1:SoM m' [p,a,b,d,c] so) (h2:m.More w m') (h3:Has W m') (tmps:Array Value) (h4:tmps[4]?.getD undef=.pointer (some ⟨w.heap.size,0,none⟩)) (h5:tmps[5]?.getD undef=.pointer (some ⟨w.heap.size+1,0,none⟩)) :
 ∃v,(results Tryz.f65 tmps).run Tryz.prog W=.ok v W∧ParRes s m w (.returned v) W :=
 ⟨_,resultsS tmps W _ _ _ _ _ _ _ _ _ _ _ _ h4 h5 h.res h.flt,ParRes.good hs (h.chg.below (Nat.le_refl _) (fun _ e=>e.elim)) h1 h2 h3⟩
theorem scan_err_res {s:ByteArray} {pr:List It} {x:It} (hp:(pr++[x]).map It.key <+: allItems s) (hx:x.e≠0):srcOf s=.error (x.e,x.a):=read_bad (faultOf_some hp hx)
set_option maxRecDepth 100000 in
set_option maxHeartbeats 4000000 in
theorem readS_any (s:ByteArray) (w:World) (hE:Env w) {m:Mem} (hm:Has w m) :
 Calls Tryz.prog 65 #[.string s,.func (.func 66) #[] #[]] w (ParRes s m w):=by
 have hmf:∀(fn:Fn) (first cap:Array Value) (w:World),(Instr.makeFunc fn first cap).run Tryz.prog w=.ok (.func fn first cap) w:=fun _ _ _ _=>rfl
 have hmx:Tryz.prog.follows .mixedOrders=true:=by kernel_rfl
 have hb0:Below w.heap.size w ((w.alloc srZ).alloc flZ):=((Below.refl _ _).alloc (Nat.le_refl _) _).alloc (by simp) _
 have hE2:Env ((w.alloc srZ).alloc flZ):=hE.below hb0 hE.lt
 have hR:((w.alloc srZ).alloc flZ).heap[w.heap.size]?=some srZ:=heap_new _ _ (World.alloc_heap_new w srZ)
 have hF:=World.alloc_heap_new (w.alloc srZ) flZ
 rw [World.size_alloc] at hF
 have hsz:((w.alloc srZ).alloc flZ).heap.size=w.heap.size+2:=by simp
 have hscan:=scan_any s _ hE2
 have HB0:=hid hb0
 have HR:=hid hR
 have HF:=hid hF
 have HM:=hid hm
 clear hb0 hE2 hR hF hm
 go_enter_defers Tryz.func65,Tryz.ntmps65
 go_wp2_with fail
 go_at_call 111
 change Calls Tryz.prog _ _ ((w.alloc srZ).alloc flZ) _
 generalize (w.alloc srZ).alloc flZ=W0 at *
 refine hscan.mono ?_
 rintro e w1 ⟨hb1,⟨ys,q,c,hy,hy0,rfl,hrow⟩|⟨pr,x,hp,hx,rfl⟩⟩
 ·have hws:=ws_of hy hy0
  have hlen:=hws.2
  have HW1:=hid (show RdW w srZ flZ w1 from ⟨(hb1.block _ (by omega)).trans HR.out,(hb1.block _ (by omega)).trans HF.out,(Below.chg HB0.out (Nat.le_refl _) _).then (Below.chg (hb1.mono (Nat.le_refl _)) (Nat.le_refl _) _)⟩)
  have hlo:∀k,Value.ownBlock (.slice q ys.length c)=some k→w.heap.size+2≤k:=fun k hk=>by have:=(hrow.lt k hk).1;omega
  obtain ⟨i0,hi,hz0,hz1,hz2⟩:=info29
  have hs1:=hb1.size
  clear HB0 HR HF hb1 hscan
  go_wp2_with (at_builtin;refine wpList_append_own_at _ rfl _ _ 156 rfl W0.heap.size 163 i0 _ 4 40 Tryz.underlying156 hi hz0 hz1 hz2 rfl (by decide) _ _ _ rfl (hrow.alloc _) ⟨w1.heap.size,0,none⟩ 1 1 [.int .i64 (0:Nat),.string ⟨#[]⟩,.int .i64 (0:Nat),.int .i64 (s.size:Nat)] rfl rfl ?c1 ?c2 ?c3 ?c4 ?c5 ?_)
  case c1=>exact row_new w1 _ 163
  case c2 =>
   intro u hu
   simp only [List.mem_cons,List.not_mem_nil,or_false] at hu
   rcases hu with rfl|rfl|rfl|rfl <;> rfl
  case c3=>unfold maxLen;omega
  case c4=>omega
  case c5=>simp;omega
  intro v9 w9 hown9 hgrow9 _ hat9
  obtain ⟨q9,c9,rfl⟩:=own_shape hown9
  obtain ⟨g,rfl,hgB,hglt,hps⟩:=ps_new hws hown9
  have HW9:=hid ((HW1.out.next ((Chg.refl (fun k=>Value.ownBlock (.slice q ys.length c)=some k) w1).alloc _ |>.then (grown_chg hgrow9 (fun k e=>.inl e))) hlo).next ((Chg.refl (fun _=>False) w9).alloc (.cells #[.slice (some ⟨g,0,none⟩) (ys.length+1) c9,.slice none 0 0] 165)) (fun _ e=>e.elim))
  have hw9:w.heap.size+2≤w9.heap.size:=by have:=(HW1.out.next ((Chg.refl (fun k=>Value.ownBlock (.slice q ys.length c)=some k) w1).alloc _ |>.then (grown_chg hgrow9 (fun k e=>.inl e))) hlo).size;exact this
  have HPS:=hid hps
  clear hown9 hgrow9 hat9 hps hrow hlo HW1
  have hm9:=HM.out.chg HW9.out.chg (fun _ e=>e.elim)
  have hsrc:=ret_cases (source_any hws HPS.out hm9 (HM.out.lt (by omega)))
  have HL:=hid (show srcOf s=_ from read_eq (r:=Syn.source) hy hy0)
  clear hm9
  go_wp2_with fail
  go_at_call 66
  generalize w9.alloc (.cells #[.slice (some ⟨g,0,none⟩) (ys.length+1) c9,.slice none 0 0] 165)=W9 at *
  generalize w9.heap.size=bp at *
  refine hsrc.mono ?_
  rintro e w5 ⟨hc5,⟨er,k,hr,rfl⟩|⟨so,j,hr,vp,vA,vB,vC,vD,m5,v5,rfl,b1,b2,b3,b4,b5⟩⟩
  ·have HW5:=hid (HW9.out.next hc5 (fun k e=>by omega))
   have HE:=hid (show srcOf s=.error (er,(tk ys s.size k).a) from by rw [HL.out,←src_eq,hr];rfl)
   have hf5:=HW5.out.flt
   clear hc5 hr
   go_wp2_with fail
   refine leaves_cons (f:=113) (args:=#[.pointer (some ⟨w.heap.size+1,0,none⟩)]) (by simp) (by simp [go_sem]) ?_
   refine (catchS_fail (w.heap.size+1) _ _ _ _ _ w5 hf5).mono ?_
   rintro e u' w' ⟨rfl,rfl,rfl⟩
   exact (HW5.out.fault _ _ _).bad HE.out _ rfl rfl
  ·have HW5:=hid (HW9.out.next hc5 (fun k e=>by omega))
   have HL5:=hid (show srcOf s=_ from HL.out)
   obtain ⟨q1,d1,q2,d2,q3,d3,q4,d4,q5,d5,rfl,rfl,rfl,rfl,rfl⟩:=b1.shape
   have HW6:=hid (HW5.out.next ((Chg.refl (fun _=>False) w5).alloc (.cells #[.slice q1 so.principals.length d1,.slice q2 so.globals.length d2,.slice q3 so.arrays.length d3,.slice q4 so.channels.length d4,.slice q5 so.funcs.length d5] 27)) (fun _ e=>e.elim))
   have HNW:=hid (World.alloc_heap_new w5 (.cells #[.slice q1 so.principals.length d1,.slice q2 so.globals.length d2,.slice q3 so.arrays.length d3,.slice q4 so.channels.length d4,.slice q5 so.funcs.length d5] 27))
   have hend:=ret_cases (wantEnd_ps (b5.alloc (.cells #[.slice q1 so.principals.length d1,.slice q2 so.globals.length d2,.slice q3 so.arrays.length d3,.slice q4 so.channels.length d4,.slice q5 so.funcs.length d5] 27)) so)
   have HB:=hid (And.intro b1 (And.intro b2 b3))
   clear hc5 b1 b2 b3 b4 b5 hsrc HPS
   go_wp2_with fail
   go_at_call 114
   refine hend.mono ?_
   rintro e w7 ⟨hc7,⟨er,k,hr7,rfl⟩|⟨so',j',hr7,rfl,rfl⟩⟩
   ·have HW7:=hid (HW6.out.next hc7 (fun k e=>by omega))
    have HE:=hid (show srcOf s=.error (er,(tk ys s.size k).a) from by rw [HL.out,←src_eq,hr,on_ok',hr7])
    have hf7:=HW7.out.flt
    clear hc7 hr7
    go_wp2_with fail
    refine leaves_cons (f:=113) (args:=#[.pointer (some ⟨w.heap.size+1,0,none⟩)]) (by simp) (by simp [go_sem]) ?_
    refine (catchS_fail (w.heap.size+1) _ _ _ _ _ w7 hf7).mono ?_
    rintro e u' w' ⟨rfl,rfl,rfl⟩
    exact (HW7.out.fault _ _ _).bad HE.out _ rfl rfl
   ·have HE:=hid (show srcOf s=.ok so from by
     rw [HL.out,←src_eq,hr,on_ok',hr7]
     unfold endP at hr7
     split at hr7
     ·cases hr7
     ·injection hr7 with hr7;injection hr7 with hr7;rw [hr7])
    have hb5:=HW5.out.size
    obtain ⟨u0,u1,u2,u3,u4⟩:=five_cells HNW.out
    obtain ⟨f0,f1,f2,f3,f4⟩:=five_free HW6.out.res
    obtain ⟨o0,o1,o2,o3,o4⟩:=five_cells HW6.out.res
    obtain ⟨y0,y1,y2,g0,g1,g2⟩:=three_cells HW6.out.flt
    have HX:=hid (show m.More w _ from HB.out.2.1.from (by have:=HW9.out.size;omega))
    have HE1:=hid (HB.out.2.2.chg (chg_three (chg_five (((Chg.refl (fun k=>k=w.heap.size∨k=w.heap.size+1) w5).alloc (.cells #[.slice q1 so.principals.length d1,.slice q2 so.globals.length d2,.slice q3 so.arrays.length d3,.slice q4 so.channels.length d4,.slice q5 so.funcs.length d5] 27))) (g:=w.heap.size) (.inl (.inl rfl)) (.slice q1 so.principals.length d1) (.slice q2 so.globals.length d2) (.slice q3 so.arrays.length d3) (.slice q4 so.channels.length d4) (.slice q5 so.funcs.length d5)) (g:=w.heap.size+1) (.inl (.inr rfl)) (.int .i64 0) (.int .i64 0) (.int .i64 0)) (fun k e=>by
     have:=HW9.out.size
     rcases e with e|e
     ·rw [e];exact HB.out.2.1.new _ (HM.out.lt (Nat.le_refl _)) (by omega)
     ·rw [e];exact HB.out.2.1.new _ (HM.out.lt (by omega)) (by omega)))
    clear hr7 hc7
    go_wp2_with fail
    refine leaves_cons (f:=113) (args:=#[.pointer (some ⟨w.heap.size+1,0,none⟩)]) (by simp) (by simp [go_sem]) ?_
    refine (catchS_idle (w.heap.size+1) _).mono ?_
    rintro e u' w' ⟨rfl,rfl,rfl⟩
    exact ((HW6.out.five _ _ _ _ _).fault _ _ _).good HE.out HB.out.1 HX.out (HE1.out) _ rfl rfl
 ·have hxe:(((x.e:Nat):Int) != 0)=true:=by simp;omega
  have HW1:=hid (show RdW w srZ flZ w1 from ⟨(hb1.block _ (by omega)).trans HR.out,(hb1.block _ (by omega)).trans HF.out,(Below.chg HB0.out (Nat.le_refl _) _).then (Below.chg (hb1.mono (Nat.le_refl _)) (Nat.le_refl _) _)⟩)
  have HS:=hid (scan_err_res hp hx)
  clear hb1 HB0 HR HF hscan hp
  obtain ⟨z0,z1,z2,z3,z4⟩:=five_cells HW1.out.res
  have HWA:=hid ((HW1.out.next ((Chg.refl (fun _=>False) w1).alloc (.cells #[.int .i64 (x.e:Nat),.int .i64 (-1),.int .i64 (x.a:Nat)] 33)) (fun _ e=>e.elim)))
  obtain ⟨f0,f1,f2,f3,f4⟩:=five_free HWA.out.res
  obtain ⟨u0,u1,u2,u3,u4⟩:=five_cells HWA.out.res
  obtain ⟨y0,y1,y2,g0,g1,g2⟩:=three_cells HWA.out.flt
  go_wp2_with fail
  refine wp_mono (Q:=fun e a w'=>match e with | .normal=>a.tmps[4]?.getD undef=.pointer (some ⟨w.heap.size,0,none⟩)∧a.tmps[5]?.getD undef=.pointer (some ⟨w.heap.size+1,0,none⟩)∧a.defers=[]∧RdW w srZ (.cells #[.int .i64 (x.e:Nat),.int .i64 (-1),.int .i64 (x.a:Nat)] 33) w' | _=>False) ?_ ?_
  ·go_region_with (first|(go_simp;go_at_call 112;refine (faultAt_any _ _ _).mono ?_;rintro e w2 ⟨rfl,rfl⟩))
   all_goals exact ⟨rfl,rfl,rfl,((HWA.out.five _ _ _ _ _).fault _ _ _).drew⟩
  ·intro e a w' hq
   match e,hq with
   | .normal,⟨h4,h5,hd,hW⟩ =>
    rename_i K1 hK1 K0 hK0
    refine hK0 _ _ (wp_ret ?_)
    show Leaves _ _ _ _ a.defers .returning w'
    rw [hd]
    exact hW.bad HS.out _ h4 h5
attribute [local go_sem] Oper.semAt_some
def ExpRes (s:ByteArray) (m:Mem) (w:World) (e:Ending) (w':World):Prop:=Below w.heap.size w w' ∧
 match expOf s with
 | .error (er,a)=>e=.returned (.tuple #[.slice none 0 0,.agg #[.int .i64 (er:Nat),.int .i64 (-1),.int .i64 (a:Nat)]])
 | .ok l=>∃v m',e=.returned (.tuple #[v,.agg #[.int .i64 0,.int .i64 0,.int .i64 0]])∧TmM m' v l∧m.More w m'∧Has w' m'
structure RdE (w:World) (f:Obj) (W:World):Prop where
 flt:W.heap[w.heap.size]?=some f
 chg:Chg (fun _=>False) w W
theorem resultsP (tmps:Array Value) (w:World) (b4 b5:Nat) (x0 x1 x2 x3 x4 y0 y1 y2:Value) (T5 T3:TypeId) (h4:tmps[2]?.getD undef=.pointer (some ⟨b4,0,none⟩)) (h5:tmps[3]?.getD undef=.pointer (some ⟨b5,0,none⟩))
 (c4:w.heap[b4]?=some (.cells #[x0,x1,x2,x3,x4] T5 (0,0))) (c5:w.heap[b5]?=some (.cells #[y0,y1,y2] T3 (0,0))) :
 (results Tryz.f35 tmps).run Tryz.prog w=.ok (.tuple #[.agg #[x0,x1,x2,x3,x4],.agg #[y0,y1,y2]]) w:=by
 obtain ⟨p0,p1,p2,p3,p4⟩:=five_cells c4
 obtain ⟨q0,q1,q2,_⟩:=three_cells c5
 simp [results,Tryz.results35,go_sem,h4,h5,p0,p1,p2,p3,p4,q0,q1,q2]
theorem ParRes.cases {s:ByteArray} {m:Mem} {w w':World} {e:Ending} (h:ParRes s m w e w'):Below w.heap.size w w' ∧
 ((∃ er a,srcOf s=.error (er,a)∧e=.returned (.tuple #[.agg #[.slice none 0 0,.slice none 0 0,.slice none 0 0,.slice none 0 0,.slice none 0 0],.agg #[.int .i64 (er:Nat),.int .i64 (-1),.int .i64 (a:Nat)]])) ∨
  (∃so q1 c1 q2 c2 q3 c3 q4 c4 q5 c5 m',srcOf s=.ok so∧e=.returned (.tuple #[.agg #[.slice q1 so.principals.length c1,.slice q2 so.globals.length c2,.slice q3 so.arrays.length c3,.slice q4 so.channels.length c4,.slice q5 so.funcs.length c5],.agg #[.int .i64 0,.int .i64 0,.int .i64 0]]) ∧
   SoM m' [.slice q1 so.principals.length c1,.slice q2 so.globals.length c2,.slice q3 so.arrays.length c3,.slice q4 so.channels.length c4,.slice q5 so.funcs.length c5] so∧m.More w m'∧Has w' m')):=by
 obtain ⟨hb,h⟩:=h
 refine ⟨hb,?_⟩
 cases hs:srcOf s with
 | error q=>rw [hs] at h;exact .inl ⟨q.1,q.2,rfl,h⟩
 | ok so =>
  rw [hs] at h
  obtain ⟨p,a,b,d,c,m',h1,h2,h3,h4⟩:=h
  obtain ⟨q1,d1,q2,d2,q3,d3,q4,d4,q5,d5,rfl,rfl,rfl,rfl,rfl⟩:=h2.shape
  exact .inr ⟨so,_,_,_,_,_,_,_,_,_,_,m',rfl,h1,h2,h3,h4⟩
set_option maxRecDepth 100000 in
set_option maxHeartbeats 1000000 in
theorem parse_any (s:ByteArray) (w:World) (hE:Env w) {m:Mem} (hm:Has w m):Calls Tryz.prog 35 #[.string s] w (ParRes s m w):=by
 have hb0:Below w.heap.size w ((w.alloc srZ).alloc flZ):=((Below.refl _ _).alloc (Nat.le_refl _) _).alloc (by simp) _
 have hE2:Env ((w.alloc srZ).alloc flZ):=hE.below hb0 hE.lt
 have hR:((w.alloc srZ).alloc flZ).heap[w.heap.size]?=some srZ:=heap_new _ _ (World.alloc_heap_new w srZ)
 have hF:=World.alloc_heap_new (w.alloc srZ) flZ
 rw [World.size_alloc] at hF
 have hsz:((w.alloc srZ).alloc flZ).heap.size=w.heap.size+2:=by simp
 have hm2:Has ((w.alloc srZ).alloc flZ) m:=hm.chg (Below.chg hb0 (Nat.le_refl _) (fun _=>False)) (fun _ e=>e.elim)
 have hread:=readS_any s _ hE2 hm2
 have HB0:=hid hb0
 have HR:=hid hR
 have HF:=hid hF
 have HM:=hid hm
 clear hb0 hE2 hR hF hm hm2
 go_enter Tryz.func35,Tryz.ntmps35
 go_wp2_with fail
 go_at_call 65
 change Calls Tryz.prog _ _ ((w.alloc srZ).alloc flZ) _
 generalize (w.alloc srZ).alloc flZ=W0 at *
 refine hread.mono ?_
 rintro e w1 hpr
 obtain ⟨hb1,⟨er,a,hs,rfl⟩|⟨so,q1,c1,q2,c2,q3,c3,q4,c4,q5,c5,m',hs,rfl,h1,h2,h3⟩⟩:=hpr.cases
 all_goals
  have HW1:=hid (show RdW w srZ flZ w1 from ⟨(hb1.block _ (by omega)).trans HR.out,(hb1.block _ (by omega)).trans HF.out,(Below.chg HB0.out (Nat.le_refl _) _).then (Below.chg (hb1.mono (Nat.le_refl _)) (Nat.le_refl _) _)⟩)
  have hszw:=HW1.out.size
  obtain ⟨z0,z1,z2,z3,z4⟩:=five_cells HW1.out.res
  obtain ⟨f0,f1,f2,f3,f4⟩:=five_free HW1.out.res
  obtain ⟨y0,y1,y2,g0,g1,g2⟩:=three_cells HW1.out.flt
  have HS:=hid hs
  clear hb1 hs hpr hread
 ·have HEND:=hid (show RdW w _ _ _ from (HW1.out.five (.slice none 0 0) (.slice none 0 0) (.slice none 0 0) (.slice none 0 0) (.slice none 0 0)).fault (.int .i64 (er:Nat)) (.int .i64 (-1)) (.int .i64 (a:Nat)))
  go_wp2
  exact bodyPost_ret (resultsP _ _ _ _ _ _ _ _ _ _ _ _ _ _ rfl rfl HEND.out.res HEND.out.flt) rfl (ParRes.bad HS.out (HEND.out.chg.below (Nat.le_refl _) (fun _ e=>e.elim)))
 ·have HEND:=hid (show RdW w _ _ _ from (HW1.out.five (.slice q1 so.principals.length c1) (.slice q2 so.globals.length c2) (.slice q3 so.arrays.length c3) (.slice q4 so.channels.length c4) (.slice q5 so.funcs.length c5)).fault (.int .i64 0) (.int .i64 0) (.int .i64 0))
  have HX:=hid (And.intro h1 (And.intro (h2.from (w:=w) (by omega)) (h3.chg (chg_three (chg_five (Chg.refl (fun k=>k=w.heap.size∨k=w.heap.size+1) w1) (g:=w.heap.size) (.inl (.inl rfl)) (.slice q1 so.principals.length c1) (.slice q2 so.globals.length c2) (.slice q3 so.arrays.length c3) (.slice q4 so.channels.length c4) (.slice q5 so.funcs.length c5)) (g:=w.heap.size+1) (.inl (.inr rfl)) (.int .i64 0) (.int .i64 0) (.int .i64 0)) (fun k e=>by
   rcases e with e|e
   ·rw [e];exact h2.new _ (HM.out.lt (Nat.le_refl _)) (by omega)
   ·rw [e];exact h2.new _ (HM.out.lt (by omega)) (by omega)))))
  clear h1 h2 h3
  go_wp2
  exact bodyPost_ret (resultsP _ _ _ _ _ _ _ _ _ _ _ _ _ _ rfl rfl HEND.out.res HEND.out.flt) rfl (ParRes.good HS.out (HEND.out.chg.below (Nat.le_refl _) (fun _ e=>e.elim)) HX.out.1 HX.out.2.1 HX.out.2.2)
end Go.Proofs.YtlpdjfimefjmcaaGreatDoor.Q
namespace Go.Proofs.YtlpdjfimefjmcaaGreatDoor
open Go Go.RowKit Go.Proofs.Mm
def tmOf (t:Syn.Tm):TmZ:=⟨(t.kind:Int),(t.value:Int),Q.sb t.name⟩
def stOf (s:Syn.St):StZ:=⟨(s.kind:Int),Q.sb s.name,s.targets.map Q.sb,s.exprs.map fun e=>e.map tmOf⟩
def deOf (d:Syn.De):DeZ:=⟨Q.sb d.name,d.label⟩
def arOf (a:Syn.Ar):ArZ:=⟨Q.sb a.name,(a.len:Int),a.label⟩
def fnOf (f:Syn.Fn):FnZ:=⟨Q.sb f.name,f.level,f.params.map deOf,f.results,f.vars.map deOf,f.body.map stOf⟩
def soOf (s:Syn.So):SoZ:=⟨s.principals.map Q.sb,s.globals.map deOf,s.arrays.map arOf,s.channels.map deOf,s.funcs.map fnOf⟩
def smSt (x:Syn.St):Prop:=x.targets.length≤1000∧x.exprs.length≤1000∧∀e∈x.exprs,e.length≤1000
def smFn (f:Syn.Fn):Prop:=f.params.length≤1000∧f.results.length≤1000∧f.vars.length≤1000∧f.body.length≤1000∧∀x∈f.body,smSt x
def smSo (s:Syn.So):Prop:=s.principals.length≤1000∧s.globals.length≤1000∧s.arrays.length≤1000∧s.channels.length≤1000∧s.funcs.length≤1000∧∀f∈s.funcs,smFn f
instance (x:Syn.St):Decidable (smSt x):=by unfold smSt;infer_instance
instance (f:Syn.Fn):Decidable (smFn f):=by unfold smFn;infer_instance
instance (s:Syn.So):Decidable (smSo s):=by unfold smSo;infer_instance
theorem enc_q {α β:Type} {R':List Value→α→Prop} {R:List Value→β→Prop} {f:α→β}:∀{l:List α} {cs:List Value},(∀c x,x∈l→R' c x→R c (f x))→Q.Enc R' cs l→Enc R cs (l.map f)
 | [],_,_,h=>h
 | x::l,cs,hR,h=>by
  obtain ⟨a,b,e,h1,h2⟩:=h
  exact ⟨a,b,e,hR _ _ (.head _) h1,enc_q (fun c y hy=>hR c y (.tail _ hy)) h2⟩
theorem enc_tmq:∀l:List Syn.Tm,Enc (fun c t=>c=tmZ t) (Q.tmCells l) (l.map tmOf)
 | []=>rfl
 | t::l=>⟨tmZ (tmOf t),Q.tmCells l,by unfold Q.tmCells;rw [List.flatMap_cons];rfl,rfl,enc_tmq l⟩
theorem enc_strq:∀l:List (List Nat),Enc (fun c s=>c=[Value.string s]) (l.map fun s=>.string (Q.sb s)) (l.map Q.sb)
 | []=>rfl
 | t::l=>⟨[.string (Q.sb t)],l.map fun s=>.string (Q.sb s),rfl,rfl,enc_strq l⟩
section
variable {m:Mem}
theorem slx_rowM {α β:Type} {R:List Value→β→Prop} {E:TypeId} {size bs:Nat} {v:Value} {cs:List Value} {l:List α} {f:α→β} (h:RowM m E size v l.length cs) (he:Enc R cs (l.map f)) (hb:l.length*bs≤140737488351232):SlX [] bs (mC m) R v (l.map f):=by
 obtain ⟨h1,⟨rfl,h0⟩|⟨g,cap,cur,rfl,hg,hn,hc,hs,ht⟩⟩:=h
 ·have hl:l=[]:=List.eq_nil_of_length_eq_zero h0
  subst hl
  exact slx_nil
 ·have e:(l.map f).length=l.length:=List.length_map ..
  rw [←e]
  refine slx_mk (cs:=cs) (fun j u hu=>?_) he (by rw [e];exact hb) hc (by rw [e];exact hn)
  unfold mC
  rw [hg]
  simp only
  simp only [and_self,if_true,Nat.zero_add]
  rw [←ht,List.getElem?_take] at hu
  split at hu
  ·simpa using hu
  ·cases hu
theorem tms_q {v:Value} {l:List Syn.Tm} (h:Q.TmM m v l) (hs:l.length≤1000):TmsR false (mC m) v (l.map tmOf):=slx_rowM h (enc_tmq l) (by omega)
theorem strs_q {v:Value} {l:List (List Nat)} (h:Q.StrM m v l) (hs:l.length≤1000):StrR false (mC m) v (l.map Q.sb):=slx_rowM h (enc_strq l) (by omega)
theorem exs_q {v:Value} {l:List (List Syn.Tm)} (h:Q.ExM m v l) (hs:l.length≤1000) (hx:∀e∈l,e.length≤1000):ExsR false (mC m) v (l.map fun e=>e.map tmOf):=by
 obtain ⟨cs,h1,h2⟩:=h
 refine slx_rowM (f:=fun e:List Syn.Tm=>e.map tmOf) h1 (enc_q (fun c x hm ⟨u,e,hu⟩=>⟨u,e,tms_q hu (hx x hm)⟩) h2) (by omega)
theorem st_q {c:List Value} {x:Syn.St} (h:Q.StM m c x) (hs:smSt x):StR1 false (mC m) c (stOf x):=by
 obtain ⟨vt,ve,rfl,h1,h2⟩:=h
 exact ⟨vt,ve,rfl,strs_q h1 hs.1,exs_q h2 hs.2.1 hs.2.2⟩
theorem des_q {v:Value} {l:List Syn.De} (h:∃cs,RowM m 37 2 v l.length cs∧Q.Enc (Q.DeR m) cs l) (hs:l.length≤1000):DesR false (mC m) v (l.map deOf):=by
 obtain ⟨cs,h1,h2⟩:=h
 exact slx_rowM h1 (enc_q (fun c x _ hx=>⟨hx.1,hx.2⟩) h2) (by omega)
theorem las_q {v:Value} {l:List Nat} (h:∃cs,RowM m 29 1 v l.length cs∧Q.Enc (Q.LaR m) cs l) (hs:l.length≤1000):LasR false (mC m) v l:=by
 obtain ⟨cs,h1,h2⟩:=h
 have:=slx_rowM (f:=id) (bs:=8) h1 (enc_q (R:=fun c x=>c=laZ x∧x<u64B) (fun c x _ hx=>⟨hx.1,hx.2⟩) h2) (by omega)
 rwa [List.map_id] at this
theorem ars_q {v:Value} {l:List Syn.Ar} (h:∃cs,RowM m 39 3 v l.length cs∧Q.Enc (Q.ArR m) cs l) (hs:l.length≤1000):ArsR false (mC m) v (l.map arOf):=by
 obtain ⟨cs,h1,h2⟩:=h
 exact slx_rowM h1 (enc_q (fun c x _ hx=>⟨hx.1,hx.2⟩) h2) (by omega)
theorem fn_q {c:List Value} {f:Syn.Fn} (h:Q.FnM m c f) (hs:smFn f):FnR1 false (mC m) c (fnOf f):=by
 obtain ⟨a,b,d,e,rfl,hl,h1,h2,h3,⟨cs,p1,p2⟩⟩:=h
 obtain ⟨s1,s2,s3,s4,s5⟩:=hs
 exact ⟨a,b,d,e,rfl,hl,des_q h1 s1,las_q h2 s2,des_q h3 s3,slx_rowM p1 (enc_q (fun c x hm hx=>st_q hx (s5 x hm)) p2) (by omega)⟩
theorem so_q {s:Syn.So} {q1:Option Addr} {c1:Nat} {q2:Option Addr} {c2:Nat} {q3:Option Addr} {c3:Nat} {q4:Option Addr} {c4:Nat} {q5:Option Addr} {c5:Nat}
 (h:Q.SoM m [.slice q1 s.principals.length c1,.slice q2 s.globals.length c2,.slice q3 s.arrays.length c3,.slice q4 s.channels.length c4,.slice q5 s.funcs.length c5] s) (hs:smSo s):SrcO false (mC m) (soOf s) q1 c1 q2 c2 q3 c3 q4 c4 q5 c5:=by
 obtain ⟨p,a,b,d,e,he,h0,h1,h2,h3,⟨cs,p1,p2⟩⟩:=h
 obtain ⟨s1,s2,s3,s4,s5,s6⟩:=hs
 simp only [List.cons.injEq,and_true] at he
 obtain ⟨rfl,rfl,rfl,rfl,rfl⟩:=he
 have hm:∀{α β:Type} (f:α→β) (l:List α),(l.map f).length=l.length:=fun f l=>List.length_map ..
 refine ⟨?_,?_,?_,?_,?_⟩
 ·show StrR false (mC m) (.slice q1 (s.principals.map Q.sb).length c1) _
  rw [hm];exact strs_q h0 s1
 ·show DesR false (mC m) (.slice q2 (s.globals.map deOf).length c2) _
  rw [hm];exact des_q h1 s2
 ·show ArsR false (mC m) (.slice q3 (s.arrays.map arOf).length c3) _
  rw [hm];exact ars_q h2 s3
 ·show DesR false (mC m) (.slice q4 (s.channels.map deOf).length c4) _
  rw [hm];exact des_q h3 s4
 ·show FnsR false (mC m) (.slice q5 (s.funcs.map fnOf).length c5) _
  rw [hm];exact slx_rowM p1 (enc_q (fun c x hm hx=>fn_q hx (s6 x hm)) p2) (by omega)
end
def knB (t:ByteArray) (r:Int × Int × Int):Bool:=match Q.srcOf t with
 | .ok so=>decide (smSo so) && decide (flowZ (soOf so)=r)
 | .error _=>false
set_option maxRecDepth 100000 in
set_option maxHeartbeats 4000000 in
theorem of_p (W:World) (hE:Q.Env W) (b:ByteArray) (r:Int × Int × Int) (hsz:b.size≤1000) (hk:knB ((⟨#[112,114,105,110,99,105,112,97,108,32,97,32,98,59,32,103,108,111,98,97,108,32,120,32,123,97,125,59,32,103,108,111,98,97,108,32,121,32,123,125,59,32,99,104,97,110,110,101,108,32,99,32,123,125,59,32,102,117,110,99,32,102,32,123,125,32,40,41,32,40,41,32,123,32]⟩:ByteArray)++b++⟨#[32,114,101,116,117,114,110,59,32,125]⟩) r=true) :
 Calls Tryz.prog 16 #[.string b] W (RetB (.agg (flA r)) W):=by
 have hlt:=hE.lt
 have HE:=hid hE
 clear hE
 have hk2:∃so,Q.srcOf ((⟨#[112,114,105,110,99,105,112,97,108,32,97,32,98,59,32,103,108,111,98,97,108,32,120,32,123,97,125,59,32,103,108,111,98,97,108,32,121,32,123,125,59,32,99,104,97,110,110,101,108,32,99,32,123,125,59,32,102,117,110,99,32,102,32,123,125,32,40,41,32,40,41,32,123,32]⟩:ByteArray)++b++⟨#[32,114,101,116,117,114,110,59,32,125]⟩)=.ok so∧smSo so∧flowZ (soOf so)=r:=by
  unfold knB at hk
  split at hk
  ·rename_i so hso
   rw [Bool.and_eq_true,decide_eq_true_eq,decide_eq_true_eq] at hk
   exact ⟨so,hso,hk⟩
  ·cases hk
 obtain ⟨so,hso,hsm,hfl⟩:=hk2
 have HPA:=hid (fun (w:World) (hw:Q.Env w)=>Q.parse_any ((⟨#[112,114,105,110,99,105,112,97,108,32,97,32,98,59,32,103,108,111,98,97,108,32,120,32,123,97,125,59,32,103,108,111,98,97,108,32,121,32,123,125,59,32,99,104,97,110,110,101,108,32,99,32,123,125,59,32,102,117,110,99,32,102,32,123,125,32,40,41,32,40,41,32,123,32]⟩:ByteArray)++b++⟨#[32,114,101,116,117,114,110,59,32,125]⟩) w hw (m:=Mem.nil) (has_nil w))
 have HSO:=hid hso
 have HSM:=hid hsm
 have HFL:=hid hfl
 clear hk hso hsm hfl
 have HT0:=hid (InB.new W #[.int .i64 0,.int .i64 0,.int .i64 0] 33)
 have HB0:=hid (bl_al (Below.refl W.heap.size W) (.cells #[.int .i64 0,.int .i64 0,.int .i64 0] 33))
 go_enter Tryz.func16,Tryz.ntmps16
 go_wp2_with fail
 all_goals try omega
 obtain ⟨w0,hw0⟩:∃w,W.alloc (.cells #[.int .i64 0,.int .i64 0,.int .i64 0] 33)=w:=⟨_,rfl⟩
 rw [hw0] at HT0 HB0 ⊢
 obtain ⟨b2,hb2⟩:∃b,W.heap.size=b:=⟨_,rfl⟩
 have hbz:W.heap.size≤b2:=by omega
 simp only [hb2] at HT0 ⊢
 clear hw0
 go_at_call 35
 refine (HPA.out _ (HE.out.below HB0.out hlt)).mono ?_
 rintro e w1 hpr
 obtain ⟨hb1,⟨er,a,hs,rfl⟩|⟨so',q1,c1,q2,c2,q3,c3,q4,c4,q5,c5,m',hs,rfl,h1,-,h3⟩⟩:=hpr.cases
 ·rw [HSO.out] at hs;cases hs
 rw [HSO.out] at hs
 injection hs with hs
 subst hs
 have HO:=hid (so_q h1 HSM.out)
 have HH:=hid (has_cle h3)
 have HB1:=hid (bl_tr HB0.out hb1)
 have HT1:=hid (HT0.out.le hb1)
 clear h1 h3 hb1 hpr HSO HT0 HPA
 unfold soOf at HO
 have HFW:=hid (fun (w:World) (hw:Below w1.heap.size w1 w)=>flows_p (W:=w) HO.out (HH.out.trans (below_cle hw)))
 unfold srV at HFW
 simp only [List.length_map] at HFW
 have HFL2:Hid (flowZ ⟨so.principals.map Q.sb,so.globals.map deOf,so.arrays.map arOf,so.channels.map deOf,so.funcs.map fnOf⟩=r):=HFL
 rw [HFL2.out] at HFW
 clear HO HH HFL HFL2
 generalize so.principals.length=n1 at *
 generalize so.globals.length=n2 at *
 generalize so.arrays.length=n3 at *
 generalize so.channels.length=n4 at *
 generalize so.funcs.length=n5 at *
 have HB2:=hid (bl_al (bl_al (Below.refl w1.heap.size w1) (.cells #[.slice q1 n1 c1,.slice q2 n2 c2,.slice q3 n3 c3,.slice q4 n4 c4,.slice q5 n5 c5] 27)) (.cells #[.int .i64 0,.int .i64 0,.int .i64 0] 33))
 go_wp2_with fail
 go_at_call 10
 refine (HFW.out _ HB2.out).mono ?_
 rintro e w2 ⟨rfl,hb3⟩
 obtain ⟨ra,rb,rc⟩:=r
 have HY:=hid (HT1.out.le (bl_tr HB2.out hb3))
 have HW:=hid (bl_tr HB1.out (bl_tr HB2.out hb3))
 clear hb3 HFW HB2 HT1 HB1
 have y0:=HY.out.cell (j:=0) (v:=.int .i64 0) rfl
 have y1:=HY.out.cell (j:=1) (v:=.int .i64 0) rfl
 have y2:=HY.out.cell (j:=2) (v:=.int .i64 0) rfl
 have f0:w2.frozen? ⟨b2,0,none⟩=false:=free_of HY.out
 have f1:w2.frozen? ⟨b2,1,none⟩=false:=free_of HY.out
 have f2:w2.frozen? ⟨b2,2,none⟩=false:=free_of HY.out
 unfold flA
 go_wp2
 have hW:=heap_set (heap_set (heap_set HY.out 0 (.int .i64 ra)) 1 (.int .i64 rb)) 2 (.int .i64 rc)
 have hWB:=((HW.out.setCell (p:=⟨b2,0,none⟩) hbz (.int .i64 ra)).setCell (p:=⟨b2,1,none⟩) hbz (.int .i64 rb)).setCell (p:=⟨b2,2,none⟩) hbz (.int .i64 rc)
 generalize ((w2.setCell _ _).setCell _ _).setCell _ _=wE at *
 have c0:=cell_of (j:=0) hW rfl
 have c1:=cell_of (j:=1) hW rfl
 have c2:=cell_of (j:=2) hW rfl
 exact bodyPost_ret (v:=.agg #[.int .i64 ra,.int .i64 rb,.int .i64 rc]) (by simp [results,Tryz.results16,go_sem,c0,c1,c2]) rfl ⟨rfl,hWB⟩
set_option maxRecDepth 100000
theorem kn0:knB ((⟨#[112,114,105,110,99,105,112,97,108,32,97,32,98,59,32,103,108,111,98,97,108,32,120,32,123,97,125,59,32,103,108,111,98,97,108,32,121,32,123,125,59,32,99,104,97,110,110,101,108,32,99,32,123,125,59,32,102,117,110,99,32,102,32,123,125,32,40,41,32,40,41,32,123,32]⟩:ByteArray)++⟨#[120,32,61,32,121,59]⟩++⟨#[32,114,101,116,117,114,110,59,32,125]⟩) (0,0,0)=true:=by decide +kernel
theorem kn1:knB ((⟨#[112,114,105,110,99,105,112,97,108,32,97,32,98,59,32,103,108,111,98,97,108,32,120,32,123,97,125,59,32,103,108,111,98,97,108,32,121,32,123,125,59,32,99,104,97,110,110,101,108,32,99,32,123,125,59,32,102,117,110,99,32,102,32,123,125,32,40,41,32,40,41,32,123,32]⟩:ByteArray)++⟨#[121,32,61,32,120,59]⟩++⟨#[32,114,101,116,117,114,110,59,32,125]⟩) (80,0,0)=true:=by decide +kernel
theorem kn2:knB ((⟨#[112,114,105,110,99,105,112,97,108,32,97,32,98,59,32,103,108,111,98,97,108,32,120,32,123,97,125,59,32,103,108,111,98,97,108,32,121,32,123,125,59,32,99,104,97,110,110,101,108,32,99,32,123,125,59,32,102,117,110,99,32,102,32,123,125,32,40,41,32,40,41,32,123,32]⟩:ByteArray)++⟨#[115,101,110,100,32,99,32,120,59]⟩++⟨#[32,114,101,116,117,114,110,59,32,125]⟩) (80,0,0)=true:=by decide +kernel
theorem kn3:knB ((⟨#[112,114,105,110,99,105,112,97,108,32,97,32,98,59,32,103,108,111,98,97,108,32,120,32,123,97,125,59,32,103,108,111,98,97,108,32,121,32,123,125,59,32,99,104,97,110,110,101,108,32,99,32,123,125,59,32,102,117,110,99,32,102,32,123,125,32,40,41,32,40,41,32,123,32]⟩:ByteArray)++⟨#[105,102,32,120,32,123,32,121,32,61,32,49,59,32,125]⟩++⟨#[32,114,101,116,117,114,110,59,32,125]⟩) (80,0,1)=true:=by decide +kernel
theorem kn4:knB ((⟨#[112,114,105,110,99,105,112,97,108,32,97,32,98,59,32,103,108,111,98,97,108,32,120,32,123,97,125,59,32,103,108,111,98,97,108,32,121,32,123,125,59,32,99,104,97,110,110,101,108,32,99,32,123,125,59,32,102,117,110,99,32,102,32,123,125,32,40,41,32,40,41,32,123,32]⟩:ByteArray)++⟨#[105,102,32,121,32,123,32,120,32,61,32,49,59,32,125,32,101,108,115,101,32,123,32,121,32,61,32,50,59,32,125,32,115,101,110,100,32,99,32,121,59]⟩++⟨#[32,114,101,116,117,114,110,59,32,125]⟩) (0,0,0)=true:=by decide +kernel
theorem kn5:knB ((⟨#[112,114,105,110,99,105,112,97,108,32,97,32,98,59,32,103,108,111,98,97,108,32,120,32,123,97,125,59,32,103,108,111,98,97,108,32,121,32,123,125,59,32,99,104,97,110,110,101,108,32,99,32,123,125,59,32,102,117,110,99,32,102,32,123,125,32,40,41,32,40,41,32,123,32]⟩:ByteArray)++⟨#[119,104,105,108,101,32,120,32,123,32,120,32,61,32,120,32,45,32,49,59,32,125,32,121,32,61,32,48,59]⟩++⟨#[32,114,101,116,117,114,110,59,32,125]⟩) (0,0,0)=true:=by decide +kernel
set_option maxHeartbeats 4000000 in
theorem known_p (W:World) (hE:Q.Env W):Calls Tryz.prog 7 #[] W (RetB (.bool true) W):=by
 have hlt:=hE.lt
 have HE:=hid (fun (w:World) (hw:Below W.heap.size W w)=>hE.below hw hlt)
 clear hE
 have H0:=hid (fun (w:World) (hw:Below W.heap.size W w)=>of_p w (HE.out w hw) ⟨#[120,32,61,32,121,59]⟩ (0,0,0) (by decide) kn0)
 have H1:=hid (fun (w:World) (hw:Below W.heap.size W w)=>of_p w (HE.out w hw) ⟨#[121,32,61,32,120,59]⟩ (80,0,0) (by decide) kn1)
 have H2:=hid (fun (w:World) (hw:Below W.heap.size W w)=>of_p w (HE.out w hw) ⟨#[115,101,110,100,32,99,32,120,59]⟩ (80,0,0) (by decide) kn2)
 have H3:=hid (fun (w:World) (hw:Below W.heap.size W w)=>of_p w (HE.out w hw) ⟨#[105,102,32,120,32,123,32,121,32,61,32,49,59,32,125]⟩ (80,0,1) (by decide) kn3)
 have H4:=hid (fun (w:World) (hw:Below W.heap.size W w)=>of_p w (HE.out w hw) ⟨#[105,102,32,121,32,123,32,120,32,61,32,49,59,32,125,32,101,108,115,101,32,123,32,121,32,61,32,50,59,32,125,32,115,101,110,100,32,99,32,121,59]⟩ (0,0,0) (by decide) kn4)
 have H5:=hid (fun (w:World) (hw:Below W.heap.size W w)=>of_p w (HE.out w hw) ⟨#[119,104,105,108,101,32,120,32,123,32,120,32,61,32,120,32,45,32,49,59,32,125,32,121,32,61,32,48,59]⟩ (0,0,0) (by decide) kn5)
 unfold flA at H0 H1 H2 H3 H4 H5
 go_enter Tryz.func7,Tryz.ntmps7
 go_wp2_with fail
 have HB:=hid (Below.refl W.heap.size W)
 go_at_call 16
 refine (H0.out _ HB.out).mono ?_
 rintro e w1 ⟨rfl,hb⟩
 have HB0:=hid (bl_tr HB.out hb)
 clear hb
 go_wp2_with fail
 go_at_call 16
 refine (H1.out _ HB0.out).mono ?_
 rintro e w2 ⟨rfl,hb⟩
 have HB1:=hid (bl_tr HB0.out hb)
 clear hb
 go_wp2_with fail
 go_at_call 16
 refine (H2.out _ HB1.out).mono ?_
 rintro e w3 ⟨rfl,hb⟩
 have HB2:=hid (bl_tr HB1.out hb)
 clear hb
 go_wp2_with fail
 go_at_call 16
 refine (H3.out _ HB2.out).mono ?_
 rintro e w4 ⟨rfl,hb⟩
 have HB3:=hid (bl_tr HB2.out hb)
 clear hb
 go_wp2_with fail
 go_at_call 16
 refine (H4.out _ HB3.out).mono ?_
 rintro e w5 ⟨rfl,hb⟩
 have HB4:=hid (bl_tr HB3.out hb)
 clear hb
 go_wp2_with fail
 go_at_call 16
 refine (H5.out _ HB4.out).mono ?_
 rintro e w6 ⟨rfl,hb⟩
 have HB5:=hid (bl_tr HB4.out hb)
 clear hb
 go_wp2_with fail
 go_ret
 exact ⟨rfl,HB5.out⟩
end Go.Proofs.YtlpdjfimefjmcaaGreatDoor
