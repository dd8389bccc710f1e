/- A part of the proof of PrintBack: contracts and plain facts. -/
import Derived.Test.YtpcniebkabkikaaGreatDoorRows
import Derived.Test.YtpcniebkabkikaaGreatDoorPBqR26
import Derived.Deep.Slices
import Derived.SizedLaws
import Derived.ChangeArms
import Derived.Lib.LaidU8
import Derived.Test.YtpcniebkabkikaaGreatDoorPBqR7
import Derived.Test.YtpcniebkabkikaaGreatDoorTie
import Derived.Test.YtpcniebkabkikaaGreatDoorCards
import Derived.ProofKit
import Derived.OpenShut
import Derived.LaidMore
import Derived.Lay
import Derived.ChangeMaps5
import Derived.SevenTiedAt
import Derived.Stop.Joined
import Derived.Stop.LaidErr
import Derived.Stop.ErrReads
import Derived.PinnedBridge
import Derived.Lib.LaidU8T
set_option maxRecDepth 100000
set_option maxHeartbeats 8000000
open Go.Lib (hid)
open Go.Proofs.Tryz
open List renaming append_nil → nlf
namespace Go.Proofs.YtpcniebkabkikaaGreatDoor
open Go Go.RowKit Go.Proofs.Mm Go.ChangeShapes Go.WideShapes
section
variable {H:Type}
theorem yx_ (d:DataW H):1≤Rows.uptoBulk d:=by
 cases d with
 | lit l=>cases l <;> simp [Rows.uptoBulk]
 | _=>simp [Rows.uptoBulk]
theorem ct_:∀{l:List (DataW H)} {d:DataW H},d∈l→Rows.uptoBulk d≤Rows.uptoBulkAll l
 | y::l,d,h=>by
  rw [Rows.uptoBulkAll]
  rcases List.mem_cons.1 h with rfl|h
  ·omega
  ·have:=ct_ h;omega
theorem qi_:∀(l:List (DataW H)),l.length≤Rows.uptoBulkAll l
 | []=>Nat.le_refl _
 | y::l=>by
  rw [Rows.uptoBulkAll,List.length_cons]
  have:=qi_ l;have:=yx_ y;omega
end
theorem i0_ {α:Type} {R:List Value→α→Prop} (f:Nat→α) (g:Nat→List Value):∀n,(∀i,i<n→R (g i) (f i))→Enc R ((List.range n).flatMap g) ((List.range n).map f)
 | 0,_=>rfl
 | n+1,h=>by
  rw [List.range_succ,List.flatMap_append,List.map_append]
  refine (i0_ f g n fun i hi=>h i (by omega)).app ?_
  simp only [List.flatMap_cons,List.flatMap_nil,nlf,List.map_cons,List.map_nil]
  exact Enc.one (h n (by omega))
theorem gp_ {α:Type} {R:List Value→α→Prop} {size:Nat} (hR:∀c x,R c x→c.length=size) {Q:α→Prop} (hQ:∀c x,R c x→Q x) {cs:List Value} {l:List α} (h:Enc R cs l):∀x∈l,Q x:=by
 intro x hx
 obtain ⟨j,hj,rfl⟩:=List.getElem_of_mem hx
 obtain ⟨c,h1,_⟩:=(fi_ hR h).2 j hj
 exact hQ _ _ h1
section
variable {H:Type} {enc:TypeId × Value→H} {w:World} {n:Nat} {cs:List Value} {d:DataW H} {p:List MemPlace}
theorem el_ {α:Type} [Inhabited α] {t e:TypeId} {size fuel:Nat} (ht:prog.underlying t=some (.slice e)) (hc:prog.cellsOf e=size) (hs:0<size)
 {R:List Value→α→Prop} (hR:∀c x,R c x→c.length=size)
 (hopen:∀n cs' d p,cs'.length=size→DataW.trod enc prog w 0 (fun _=>true) true n e cs'=some (d,p)→Rows.uptoBulk d≤1048576→∃a,R cs' a)
 (h:DataW.trod enc prog w 0 (fun _=>true) true fuel t cs=some (d,p)) (hw:Rows.uptoBulk d≤1048576):∃q c ecs,∃l:List α,cs=[.slice q l.length c]∧RdO (wC w) q ecs∧Enc R ecs l∧l.length≤1048576∧c≤maxLen∧l.length≤c:=by
 rcases Go.Deep.open_slice ht h with ⟨rfl,hx⟩|⟨a,len,cap,m,n,D,Pl,rfl,hb,hl,hm,hmm,hx,hel⟩
 ·exact ⟨none,0,[],[],rfl,.inl rfl,Enc.nil,by simp,Nat.zero_le _,Nat.le_refl _⟩
 ·rw [if_pos rfl] at hmm
  subst hmm
  rw [hc] at hel
  injection hx with hx1 hx2
  subst hx1
  rw [Rows.uptoBulk] at hw
  have hwl:len≤1048576:=by
   have:=qi_ ((List.range len).map D)
   simp only [List.length_map,List.length_range] at this
   omega
  have hDm:∀i,i<len→D i∈((List.range len).map D):=fun i hi=>List.mem_map.2 ⟨i,List.mem_range.2 hi,rfl⟩
  have hch:∀i,i<len→∃y:List Value × α,w.cells? 0 (a.add (i*size)) size=some y.1∧R y.1 y.2:=fun i hi=>by
   obtain ⟨cs',h1,h2⟩:=hel i (by omega)
   obtain ⟨_,hlen,_⟩:=World.cells?_some h1
   obtain ⟨x,hx⟩:=hopen n cs' (D i) (Pl i) hlen h2 (by have:=ct_ (hDm i hi);omega)
   exact ⟨(cs',x),h1,hx⟩
  obtain ⟨f,hf⟩:=Go.Deep.choose_lt hch
  have hE:Enc R ((List.range len).flatMap fun i=>(f i).1) ((List.range len).map fun i=>(f i).2):=i0_ _ _ len fun i hi=>(hf i hi).2
  refine ⟨some a,m,(List.range len).flatMap fun i=>(f i).1,(List.range len).map fun i=>(f i).2,by simp,?_,hE,by simpa using hwl,hm,by simpa using hl⟩
  by_cases h0:len=0
  ·subst h0;exact .inl rfl
  ·refine .inr ?_
   obtain ⟨b,off,sp⟩:=a
   have hE':Enc (fun c i=>c=(f i).1∧i<len) ((List.range len).flatMap fun i=>(f i).1) ((List.range len).map fun i=>i):=i0_ _ _ len fun i hi=>⟨rfl,hi⟩
   have hlen:∀c i,(c=(f i).1∧i<len)→c.length=size:=fun c i ⟨e,hi⟩=>by rw [e];exact hR _ _ (hf i hi).2
   obtain ⟨hL,hA⟩:=fi_ hlen hE'
   have hsp:sp=none:=by
    obtain ⟨_,h2,h3⟩:=World.cells?_some (hf 0 (by omega)).1
    have h4:=h3 0 hs
    rw [List.getElem?_eq_getElem (by omega)] at h4
    rw [Nat.zero_mul] at h4
    have h5:(((⟨b,off,sp⟩:Addr).add 0).add 0)=⟨b,off,sp⟩:=by simp [Addr.add]
    rw [h5] at h4
    exact cell_spot h4
   subst hsp
   refine ⟨b,off,rfl,fun j u hu=>?_⟩
   have hj:j<len*size:=by
    have:=(List.getElem?_eq_some_iff.1 hu).1
    rw [hL] at this
    simpa using this
   have hq:j / size<len:=(Nat.div_lt_iff_lt_mul hs).2 hj
   obtain ⟨c,⟨e1,_⟩,e2⟩:=hA (j / size) (by simpa using hq)
   have hr:j % size<size:=Nat.mod_lt _ hs
   have e3:=e2 (j % size) hr
   have hjj:j / size*size+j % size=j:=by rw [Nat.mul_comm];exact Nat.div_add_mod j size
   rw [hjj,hu] at e3
   simp only [List.getElem_map,List.getElem_range] at e1
   obtain ⟨_,_,h3⟩:=World.cells?_some (hf (j / size) hq).1
   have h4:=h3 (j % size) hr
   rw [←e1,←e3] at h4
   have h5:(((⟨b,off,none⟩:Addr).add (j / size*size)).add (j % size))=⟨b,off+j,none⟩:=by
    rw [Go.Deep.add_add,hjj]
    unfold Addr.add
    split <;> simp_all
   rw [h5] at h4
   exact h4
theorem j9_ (h:DataW.trod enc prog w 0 (fun _=>true) true n 9 cs=some (d,p)) (hw:Rows.uptoBulk d≤1048576):∃s:ByteArray,cs=[.string s]∧s.size≤1048576:=by
 obtain ⟨s,hs,hx,_⟩:=DataW.trod_string (by kernel_rfl) h
 injection hx with hx _
 subst hx
 rw [Rows.uptoBulk] at hw
 exact ⟨s,hs,by have:s.data.toList.length=s.size:=rfl;omega⟩
theorem vf_ (h:DataW.trod enc prog w 0 (fun _=>true) true n 22 cs=some (d,p)) (hw:Rows.uptoBulk d≤1048576):∃q c,∃l:List ByteArray,cs=[.slice q l.length c]∧StrRow (wC w) q l∧(∀x∈l,x.size≤1048576)∧l.length≤1048576:=by
 have hR:∀(c:List Value) (t:ByteArray),(c=[Value.string t]∧t.size≤1048576)→c.length=1:=fun c x e=>by rw [e.1];rfl
 obtain ⟨q,c,ecs,l,h1,h2,h3,h4,_⟩:=el_ (size:=1) (e:=9) (by kernel_rfl) (by kernel_rfl) (by decide) hR (fun _ _ _ _ _ h hw=>j9_ h hw) h hw
 refine ⟨q,c,l,h1,fun j hj=>?_,gp_ hR (fun _ _ e=>e.2) h3,h4⟩
 obtain ⟨g,o,c,e1,⟨rfl,_⟩,e2⟩:=rdC hR h2 h3 j hj (by decide)
 exact ⟨g,o,e1,by have:=e2 0 _ (by decide) rfl;simpa using this⟩
instance : Inhabited DeZ := ⟨⟨⟨#[]⟩,0⟩⟩
instance : Inhabited ArZ := ⟨⟨⟨#[]⟩,0,0⟩⟩
instance : Inhabited FnZ := ⟨⟨⟨#[]⟩,0,[],[],[],[]⟩⟩
theorem vg_ {k:IntKind} {n:Int} (h:(Lit.int k n).wf=true):k.min≤n∧n≤k.max:=by
 unfold Lit.wf at h
 rw [Bool.and_eq_true,decide_eq_true_eq,decide_eq_true_eq] at h
 exact h
theorem lq_:IntKind.max .i64=9223372036854775807:=by decide
theorem lr_:IntKind.min .i64=-9223372036854775808:=by decide
theorem max_u64:IntKind.max .u64=18446744073709551615:=by decide
theorem min_u64:IntKind.min .u64=0:=by decide
theorem yy_ (h:DataW.trod enc prog w 0 (fun _=>true) true n 50 cs=some (d,p)):∃x:Nat,cs=[.int .u64 (x:Nat)]∧x<18446744073709551616:=by
 obtain ⟨a,ha,_,hw⟩:=DataW.trod_int (k:=.u64) (by kernel_rfl) h
 have h1:=vg_ hw
 rw [min_u64,max_u64] at h1
 exact ⟨a.toNat,by rw [ha,Int.toNat_of_nonneg h1.1],by omega⟩
theorem tm_up (hl:cs.length=3) (h:DataW.trod enc prog w 0 (fun _=>true) true n 45 cs=some (d,p)) (hw:Rows.uptoBulk d≤1048576):∃t:TmZ,cs=tmZ t∧TmF t:=by
 obtain ⟨c0,c1,c2,rfl⟩:∃c0 c1 c2,cs=[c0,c1,c2]:=by
  match cs,hl with
  | [c0,c1,c2],_=>exact ⟨c0,c1,c2,rfl⟩
 obtain ⟨xs,n',rfl,hx,_,hlen,hf⟩:=DataW.trod_struct Tryz.underlying45 h
 have h0:=hf 0 _ rfl
 have h1:=hf 1 _ rfl
 have h2:=hf 2 _ rfl
 injection hx with hd _
 subst hd
 rw [Rows.uptoBulk] at hw
 have lk:xs.length=3:=hlen
 have hb:∀j (hj:j<xs.length),Rows.uptoBulk (xs[j]).1≤1048576:=fun j hj=>by
  have:=ct_ (List.mem_map_of_mem (f:=(·.1)) (List.getElem_mem hj));omega
 rw [List.getElem?_eq_getElem (by omega)] at h0 h1 h2
 obtain ⟨v0,e0,_,f0⟩:=DataW.trod_int (k:=.i64) (by kernel_rfl) h0
 have f0:=vg_ f0
 rw [lr_,lq_] at f0
 obtain ⟨v1,e1,_,f1⟩:=DataW.trod_int (k:=.i64) (by kernel_rfl) h1
 have f1:=vg_ f1
 rw [lr_,lq_] at f1
 obtain ⟨v2,e2,f2⟩:=j9_ (d:=(xs[2]'(by omega)).1) (p:=(xs[2]'(by omega)).2) h2 (hb 2 (by omega))
 have z0:[c0]=_:=e0
 injection z0 with y0
 clear e0
 have z1:[c1]=_:=e1
 injection z1 with y1
 clear e1
 have z2:[c2]=_:=e2
 injection z2 with y2
 clear e2
 subst y0
 subst y1
 subst y2
 exact ⟨⟨v0,v1,v2⟩,rfl,by show v2.size≤_;omega,f1.2⟩
theorem tms_up (h:DataW.trod enc prog w 0 (fun _=>true) true n 37 cs=some (d,p)) (hw:Rows.uptoBulk d≤1048576):∃q c,∃l:List TmZ,cs=[.slice q l.length c]∧TmRow (wC w) q l∧ExF l∧c≤maxLen∧l.length≤c:=by
 have hR:∀c x,(fun (c:List Value) (t:TmZ)=>c=tmZ t∧TmF t) c x→c.length=3:=fun c x e=>by rw [e.1];rfl
 obtain ⟨q,c,ecs,l,h1,h2,h3,h4,h5,h6⟩:=el_ (size:=3) (e:=45) (by kernel_rfl) (by kernel_rfl) (by decide) hR (fun _ _ _ _ hl h hw=>tm_up hl h hw) h hw
 refine ⟨q,c,l,h1,fun j hj=>?_,⟨by omega,gp_ hR (fun _ _ e=>e.2) h3⟩,h5,h6⟩
 obtain ⟨g,o,c,e1,⟨rfl,_⟩,e2⟩:=rdC hR h2 h3 j hj (by decide)
 exact ⟨g,o,e1,e2 0 _ (by decide) rfl,e2 1 _ (by decide) rfl,e2 2 _ (by decide) rfl⟩
theorem exs_up (h:DataW.trod enc prog w 0 (fun _=>true) true n 55 cs=some (d,p)) (hw:Rows.uptoBulk d≤1048576):∃q c,∃l:List (List TmZ),∃vs,cs=[.slice q l.length c]∧ExRow (wC w) q l vs∧(∀e∈l,ExF e)∧l.length≤1048576:=by
 have hR:∀c x,(fun (c:List Value) (e:List TmZ)=>∃q k,c=[.slice q e.length k]∧TmRow (wC w) q e∧ExF e∧k≤maxLen∧e.length≤k) c x→c.length=1:=fun c x ⟨_,_,e,_⟩=>by rw [e];rfl
 obtain ⟨q,c,ecs,l,h1,h2,h3,h4,h5,h6⟩:=el_ (size:=1) (e:=37) (by kernel_rfl) (by kernel_rfl) (by decide) hR (fun _ _ _ _ _ h hw=>by obtain ⟨q,k,l,a⟩:=tms_up h hw;exact ⟨l,q,k,a⟩) h hw
 obtain ⟨hl,hat⟩:=fi_ hR h3
 refine ⟨q,c,l,ecs,h1,⟨by omega,fun j hj=>?_,fun j hj hj'=>?_⟩,gp_ hR (fun _ _ ⟨_,_,_,_,e,_⟩=>e) h3,h4⟩
 ·rcases h2 with h|⟨g,o,e,h7⟩
  ·subst h;exact absurd hj (by simp)
  ·exact ⟨g,o,e,h7 j _ (List.getElem?_eq_getElem hj)⟩
 ·obtain ⟨c',⟨qe,ce,rfl,e1,_,e3,e4⟩,h7⟩:=hat j hj'
  have h8:=h7 0 (by decide)
  rw [Nat.mul_one,Nat.add_zero,List.getElem?_eq_getElem hj] at h8
  exact ⟨qe,ce,by simpa using h8,e1,e3,e4⟩
theorem st_up (hl:cs.length=4) (h:DataW.trod enc prog w 0 (fun _=>true) true n 57 cs=some (d,p)) (hw:Rows.uptoBulk d≤1048576):∃s:StZ,∃q1 c1 q2 c2,cs=[.int .i64 s.kind,.string s.name,.slice q1 s.targets.length c1,.slice q2 s.exprs.length c2]∧SR (wC w) s q1 q2:=by
 obtain ⟨c0,c1,c2,c3,rfl⟩:∃c0 c1 c2 c3,cs=[c0,c1,c2,c3]:=by
  match cs,hl with
  | [c0,c1,c2,c3],_=>exact ⟨c0,c1,c2,c3,rfl⟩
 obtain ⟨xs,n',rfl,hx,_,hlen,hf⟩:=DataW.trod_struct Tryz.underlying57 h
 have h0:=hf 0 _ rfl
 have h1:=hf 1 _ rfl
 have h2:=hf 2 _ rfl
 have h3:=hf 3 _ rfl
 injection hx with hd _
 subst hd
 rw [Rows.uptoBulk] at hw
 have lk:xs.length=4:=hlen
 have hb:∀j (hj:j<xs.length),Rows.uptoBulk (xs[j]).1≤1048576:=fun j hj=>by
  have:=ct_ (List.mem_map_of_mem (f:=(·.1)) (List.getElem_mem hj));omega
 rw [List.getElem?_eq_getElem (by omega)] at h0 h1 h2 h3
 obtain ⟨v0,e0,_,f0⟩:=DataW.trod_int (k:=.i64) (by kernel_rfl) h0
 have f0:=vg_ f0
 rw [lr_,lq_] at f0
 obtain ⟨v1,e1,f1⟩:=j9_ (d:=(xs[1]'(by omega)).1) (p:=(xs[1]'(by omega)).2) h1 (hb 1 (by omega))
 obtain ⟨q2,k2,v2,e2,r2,f2,g2⟩:=vf_ (d:=(xs[2]'(by omega)).1) (p:=(xs[2]'(by omega)).2) h2 (hb 2 (by omega))
 obtain ⟨q3,k3,v3,vs,e3,r3,f3,g3⟩:=exs_up (d:=(xs[3]'(by omega)).1) (p:=(xs[3]'(by omega)).2) h3 (hb 3 (by omega))
 have z0:[c0]=_:=e0
 injection z0 with y0
 clear e0
 have z1:[c1]=_:=e1
 injection z1 with y1
 clear e1
 have z2:[c2]=_:=e2
 injection z2 with y2
 clear e2
 have z3:[c3]=_:=e3
 injection z3 with y3
 clear e3
 subst y0
 subst y1
 subst y2
 subst y3
 exact ⟨⟨v0,v1,v2,v3⟩,q2,k2,q3,k3,rfl,r2,⟨vs,r3⟩,by show v1.size≤_;omega,fun x hx=>by have:=f2 x hx;omega,f3,by show v2.length≤_;omega,by show v3.length≤_;omega⟩
theorem bd_up (h:DataW.trod enc prog w 0 (fun _=>true) true n 52 cs=some (d,p)) (hw:Rows.uptoBulk d≤1048576):∃q c,∃l:List StZ,∃lv,cs=[.slice q l.length c]∧BdRow (wC w) q l lv:=by
 have hR:∀c x,(fun (c:List Value) (s:StZ)=>∃q1 c1 q2 c2,c=[.int .i64 s.kind,.string s.name,.slice q1 s.targets.length c1,.slice q2 s.exprs.length c2]∧SR (wC w) s q1 q2) c x→c.length=4:=fun c x ⟨_,_,_,_,e,_⟩=>by rw [e];rfl
 obtain ⟨q,c,ecs,l,h1,h2,h3,h4,h5,h6⟩:=el_ (size:=4) (e:=57) (by kernel_rfl) (by kernel_rfl) (by decide) hR (fun _ _ _ _ hl h hw=>st_up hl h hw) h hw
 have key:∀j (hj:j<l.length),∃x:StV,(∃g o,q=some ⟨g,o,none⟩∧wC w ⟨g,o+j*4,none⟩=some (.int .i64 x.k)∧wC w ⟨g,o+j*4+1,none⟩=some (.string x.nm)∧wC w ⟨g,o+j*4+2,none⟩=some (.slice x.q1 x.n1 x.c1)∧wC w ⟨g,o+j*4+3,none⟩=some (.slice x.q2 x.n2 x.c2))∧∃q1 c1 q2 c2,x=⟨l[j].kind,l[j].name,q1,l[j].targets.length,c1,q2,l[j].exprs.length,c2⟩∧SR (wC w) l[j] q1 q2:=by
  intro j hj
  obtain ⟨g,o,c,e1,⟨q1,c1,q2,c2,rfl,hsr⟩,e3⟩:=rdC (size:=4) hR h2 h3 j hj (by decide)
  exact ⟨⟨l[j].kind,l[j].name,q1,l[j].targets.length,c1,q2,l[j].exprs.length,c2⟩,⟨g,o,e1,e3 0 _ (by decide) rfl,e3 1 _ (by decide) rfl,e3 2 _ (by decide) rfl,e3 3 _ (by decide) rfl⟩,q1,c1,q2,c2,rfl,hsr⟩
 obtain ⟨lv,hlen,hlv⟩:=eg_ key
 exact ⟨q,c,l,lv,h1,hlen,fun j hj=>(hlv j (by omega) hj).1,fun j hj hj'=>(hlv j (by omega) hj).2,by omega⟩
theorem de_up (hl:cs.length=2) (h:DataW.trod enc prog w 0 (fun _=>true) true n 59 cs=some (d,p)) (hw:Rows.uptoBulk d≤1048576):∃t:DeZ,cs=[.string t.name,.int .u64 (t.label:Nat)]∧DeF t:=by
 obtain ⟨c0,c1,rfl⟩:∃c0 c1,cs=[c0,c1]:=by
  match cs,hl with
  | [c0,c1],_=>exact ⟨c0,c1,rfl⟩
 obtain ⟨xs,n',rfl,hx,_,hlen,hf⟩:=DataW.trod_struct Tryz.underlying59 h
 have h0:=hf 0 _ rfl
 have h1:=hf 1 _ rfl
 injection hx with hd _
 subst hd
 rw [Rows.uptoBulk] at hw
 have lk:xs.length=2:=hlen
 have hb:∀j (hj:j<xs.length),Rows.uptoBulk (xs[j]).1≤1048576:=fun j hj=>by
  have:=ct_ (List.mem_map_of_mem (f:=(·.1)) (List.getElem_mem hj));omega
 rw [List.getElem?_eq_getElem (by omega)] at h0 h1
 obtain ⟨v0,e0,f0⟩:=j9_ (d:=(xs[0]'(by omega)).1) (p:=(xs[0]'(by omega)).2) h0 (hb 0 (by omega))
 obtain ⟨v1,e1,f1⟩:=yy_ (d:=(xs[1]'(by omega)).1) (p:=(xs[1]'(by omega)).2) h1
 have z0:[c0]=_:=e0
 injection z0 with y0
 clear e0
 have z1:[c1]=_:=e1
 injection z1 with y1
 clear e1
 subst y0
 subst y1
 exact ⟨⟨v0,v1⟩,rfl,f1,by show v0.size≤_;omega⟩
theorem qj_ (h:DataW.trod enc prog w 0 (fun _=>true) true n 23 cs=some (d,p)) (hw:Rows.uptoBulk d≤1048576):∃q c,∃l:List DeZ,cs=[.slice q l.length c]∧DeRow (wC w) q l∧(∀d∈l,DeF d)∧l.length≤1048576:=by
 have hR:∀c x,(fun (c:List Value) (t:DeZ)=>c=[.string t.name,.int .u64 (t.label:Nat)]∧DeF t) c x→c.length=2:=fun c x e=>by rw [e.1];rfl
 obtain ⟨q,c,ecs,l,h1,h2,h3,h4,h5,h6⟩:=el_ (size:=2) (e:=59) (by kernel_rfl) (by kernel_rfl) (by decide) hR (fun _ _ _ _ hl h hw=>de_up hl h hw) h hw
 refine ⟨q,c,l,h1,fun j hj=>?_,gp_ hR (fun _ _ e=>e.2) h3,h4⟩
 obtain ⟨g,o,c,e1,⟨rfl,_⟩,e2⟩:=rdC hR h2 h3 j hj (by decide)
 exact ⟨g,o,e1,e2 0 _ (by decide) rfl,e2 1 _ (by decide) rfl⟩
theorem las_up (h:DataW.trod enc prog w 0 (fun _=>true) true n 51 cs=some (d,p)) (hw:Rows.uptoBulk d≤1048576):∃q c,∃l:List Nat,cs=[.slice q l.length c]∧LaRow (wC w) q l∧(∀d∈l,d<18446744073709551616)∧l.length≤1048576:=by
 have hR:∀c x,(fun (c:List Value) (x:Nat)=>c=[.int .u64 (x:Nat)]∧x<18446744073709551616) c x→c.length=1:=fun c x e=>by rw [e.1];rfl
 obtain ⟨q,c,ecs,l,h1,h2,h3,h4,h5,h6⟩:=el_ (size:=1) (e:=50) (by kernel_rfl) (by kernel_rfl) (by decide) hR (fun _ _ _ _ _ h _=>yy_ h) h hw
 refine ⟨q,c,l,h1,fun j hj=>?_,gp_ hR (fun _ _ e=>e.2) h3,h4⟩
 obtain ⟨g,o,c,e1,⟨rfl,_⟩,e2⟩:=rdC hR h2 h3 j hj (by decide)
 exact ⟨g,o,e1,by have:=e2 0 _ (by decide) rfl;simpa using this⟩
theorem ar_up (hl:cs.length=3) (h:DataW.trod enc prog w 0 (fun _=>true) true n 72 cs=some (d,p)) (hw:Rows.uptoBulk d≤1048576):∃t:ArZ,cs=[.string t.name,.int .i64 t.len,.int .u64 (t.label:Nat)]∧ArF t:=by
 obtain ⟨c0,c1,c2,rfl⟩:∃c0 c1 c2,cs=[c0,c1,c2]:=by
  match cs,hl with
  | [c0,c1,c2],_=>exact ⟨c0,c1,c2,rfl⟩
 obtain ⟨xs,n',rfl,hx,_,hlen,hf⟩:=DataW.trod_struct Tryz.underlying72 h
 have h0:=hf 0 _ rfl
 have h1:=hf 1 _ rfl
 have h2:=hf 2 _ rfl
 injection hx with hd _
 subst hd
 rw [Rows.uptoBulk] at hw
 have lk:xs.length=3:=hlen
 have hb:∀j (hj:j<xs.length),Rows.uptoBulk (xs[j]).1≤1048576:=fun j hj=>by
  have:=ct_ (List.mem_map_of_mem (f:=(·.1)) (List.getElem_mem hj));omega
 rw [List.getElem?_eq_getElem (by omega)] at h0 h1 h2
 obtain ⟨v0,e0,f0⟩:=j9_ (d:=(xs[0]'(by omega)).1) (p:=(xs[0]'(by omega)).2) h0 (hb 0 (by omega))
 obtain ⟨v1,e1,_,f1⟩:=DataW.trod_int (k:=.i64) (by kernel_rfl) h1
 have f1:=vg_ f1
 rw [lr_,lq_] at f1
 obtain ⟨v2,e2,f2⟩:=yy_ (d:=(xs[2]'(by omega)).1) (p:=(xs[2]'(by omega)).2) h2
 have z0:[c0]=_:=e0
 injection z0 with y0
 clear e0
 have z1:[c1]=_:=e1
 injection z1 with y1
 clear e1
 have z2:[c2]=_:=e2
 injection z2 with y2
 clear e2
 subst y0
 subst y1
 subst y2
 exact ⟨⟨v0,v1,v2⟩,rfl,by show v0.size≤_;omega,f1.1,f1.2,f2⟩
theorem ars_up (h:DataW.trod enc prog w 0 (fun _=>true) true n 24 cs=some (d,p)) (hw:Rows.uptoBulk d≤1048576):∃q c,∃l:List ArZ,cs=[.slice q l.length c]∧ArRow (wC w) q l∧(∀d∈l,ArF d)∧l.length≤1048576:=by
 have hR:∀c x,(fun (c:List Value) (t:ArZ)=>c=[.string t.name,.int .i64 t.len,.int .u64 (t.label:Nat)]∧ArF t) c x→c.length=3:=fun c x e=>by rw [e.1];rfl
 obtain ⟨q,c,ecs,l,h1,h2,h3,h4,h5,h6⟩:=el_ (size:=3) (e:=72) (by kernel_rfl) (by kernel_rfl) (by decide) hR (fun _ _ _ _ hl h hw=>ar_up hl h hw) h hw
 refine ⟨q,c,l,h1,fun j hj=>?_,gp_ hR (fun _ _ e=>e.2) h3,h4⟩
 obtain ⟨g,o,c,e1,⟨rfl,_⟩,e2⟩:=rdC hR h2 h3 j hj (by decide)
 exact ⟨g,o,e1,e2 0 _ (by decide) rfl,e2 1 _ (by decide) rfl,e2 2 _ (by decide) rfl⟩
theorem fn_up (hl:cs.length=6) (h:DataW.trod enc prog w 0 (fun _=>true) true n 54 cs=some (d,p)) (hw:Rows.uptoBulk d≤1048576):∃f:FnZ,∃q1 c1 q2 c2 q3 c3 q4 c4,cs=[.string f.name,.int .u64 (f.level:Nat),.slice q1 f.params.length c1,.slice q2 f.results.length c2,.slice q3 f.vars.length c3,.slice q4 f.body.length c4]∧FR (wC w) f q1 q2 q3 q4:=by
 obtain ⟨c0,c1,c2,c3,c4,c5,rfl⟩:∃c0 c1 c2 c3 c4 c5,cs=[c0,c1,c2,c3,c4,c5]:=by
  match cs,hl with
  | [c0,c1,c2,c3,c4,c5],_=>exact ⟨c0,c1,c2,c3,c4,c5,rfl⟩
 obtain ⟨xs,n',rfl,hx,_,hlen,hf⟩:=DataW.trod_struct Tryz.underlying54 h
 have h0:=hf 0 _ rfl
 have h1:=hf 1 _ rfl
 have h2:=hf 2 _ rfl
 have h3:=hf 3 _ rfl
 have h4:=hf 4 _ rfl
 have h5:=hf 5 _ rfl
 injection hx with hd _
 subst hd
 rw [Rows.uptoBulk] at hw
 have lk:xs.length=6:=hlen
 have hb:∀j (hj:j<xs.length),Rows.uptoBulk (xs[j]).1≤1048576:=fun j hj=>by
  have:=ct_ (List.mem_map_of_mem (f:=(·.1)) (List.getElem_mem hj));omega
 rw [List.getElem?_eq_getElem (by omega)] at h0 h1 h2 h3 h4 h5
 obtain ⟨v0,e0,f0⟩:=j9_ (d:=(xs[0]'(by omega)).1) (p:=(xs[0]'(by omega)).2) h0 (hb 0 (by omega))
 obtain ⟨v1,e1,f1⟩:=yy_ (d:=(xs[1]'(by omega)).1) (p:=(xs[1]'(by omega)).2) h1
 obtain ⟨q2,k2,v2,e2,r2,f2,g2⟩:=qj_ (d:=(xs[2]'(by omega)).1) (p:=(xs[2]'(by omega)).2) h2 (hb 2 (by omega))
 obtain ⟨q3,k3,v3,e3,r3,f3,g3⟩:=las_up (d:=(xs[3]'(by omega)).1) (p:=(xs[3]'(by omega)).2) h3 (hb 3 (by omega))
 obtain ⟨q4,k4,v4,e4,r4,f4,g4⟩:=qj_ (d:=(xs[4]'(by omega)).1) (p:=(xs[4]'(by omega)).2) h4 (hb 4 (by omega))
 obtain ⟨q5,k5,v5,lv,e5,r5⟩:=bd_up (d:=(xs[5]'(by omega)).1) (p:=(xs[5]'(by omega)).2) h5 (hb 5 (by omega))
 have z0:[c0]=_:=e0
 injection z0 with y0
 clear e0
 have z1:[c1]=_:=e1
 injection z1 with y1
 clear e1
 have z2:[c2]=_:=e2
 injection z2 with y2
 clear e2
 have z3:[c3]=_:=e3
 injection z3 with y3
 clear e3
 have z4:[c4]=_:=e4
 injection z4 with y4
 clear e4
 have z5:[c5]=_:=e5
 injection z5 with y5
 clear e5
 subst y0
 subst y1
 subst y2
 subst y3
 subst y4
 subst y5
 exact ⟨⟨v0,v1,v2,v3,v4,v5⟩,q2,k2,q3,k3,q4,k4,q5,k5,rfl,⟨by show v0.size≤_;omega,f1,⟨f2,by show v2.length≤_;omega⟩,⟨f3,by show v3.length≤_;omega⟩,⟨f4,by show v4.length≤_;omega⟩⟩,r2,r3,r4,lv,r5⟩
theorem fns_up (h:DataW.trod enc prog w 0 (fun _=>true) true n 25 cs=some (d,p)) (hw:Rows.uptoBulk d≤1048576):∃q c,∃l:List FnZ,∃lv,cs=[.slice q l.length c]∧FnRow (wC w) q l lv∧l.length≤1048576:=by
 have hR:∀c x,(fun (c:List Value) (f:FnZ)=>∃q1 c1 q2 c2 q3 c3 q4 c4,c=[.string f.name,.int .u64 (f.level:Nat),.slice q1 f.params.length c1,.slice q2 f.results.length c2,.slice q3 f.vars.length c3,.slice q4 f.body.length c4]∧FR (wC w) f q1 q2 q3 q4) c x→c.length=6:=fun c x ⟨_,_,_,_,_,_,_,_,e,_⟩=>by rw [e];rfl
 obtain ⟨q,c,ecs,l,h1,h2,h3,h4,h5,h6⟩:=el_ (size:=6) (e:=54) (by kernel_rfl) (by kernel_rfl) (by decide) hR (fun _ _ _ _ hl h hw=>fn_up hl h hw) h hw
 have key:∀j (hj:j<l.length),∃x:FnV,(∃g o,q=some ⟨g,o,none⟩∧wC w ⟨g,o+j*6,none⟩=some (.string x.nm)∧wC w ⟨g,o+j*6+1,none⟩=some (.int .u64 (x.lv:Nat))∧wC w ⟨g,o+j*6+2,none⟩=some (.slice x.q1 x.n1 x.c1)∧wC w ⟨g,o+j*6+3,none⟩=some (.slice x.q2 x.n2 x.c2)∧wC w ⟨g,o+j*6+4,none⟩=some (.slice x.q3 x.n3 x.c3)∧wC w ⟨g,o+j*6+5,none⟩=some (.slice x.q4 x.n4 x.c4))∧∃q1 c1 q2 c2 q3 c3 q4 c4,x=⟨l[j].name,l[j].level,q1,l[j].params.length,c1,q2,l[j].results.length,c2,q3,l[j].vars.length,c3,q4,l[j].body.length,c4⟩∧FR (wC w) l[j] q1 q2 q3 q4:=by
  intro j hj
  obtain ⟨g,o,c,e1,⟨q1,c1,q2,c2,q3,c3,q4,c4,rfl,hsr⟩,e3⟩:=rdC (size:=6) hR h2 h3 j hj (by decide)
  exact ⟨⟨l[j].name,l[j].level,q1,l[j].params.length,c1,q2,l[j].results.length,c2,q3,l[j].vars.length,c3,q4,l[j].body.length,c4⟩,⟨g,o,e1,e3 0 _ (by decide) rfl,e3 1 _ (by decide) rfl,e3 2 _ (by decide) rfl,e3 3 _ (by decide) rfl,e3 4 _ (by decide) rfl,e3 5 _ (by decide) rfl⟩,q1,c1,q2,c2,q3,c3,q4,c4,rfl,hsr⟩
 obtain ⟨lv,hlen,hlv⟩:=eg_ key
 exact ⟨q,c,l,lv,h1,⟨hlen,fun j hj=>(hlv j (by omega) hj).1,fun j hj hj'=>(hlv j (by omega) hj).2⟩,h4⟩
theorem so_up (hl:cs.length=5) (h:DataW.trod enc prog w 0 (fun _=>true) true n 27 cs=some (d,p)) (hw:Rows.uptoBulk d≤1048576):∃s:SoZ,∃q1 c1 q2 c2 q3 c3 q4 c4 q5 c5,cs=[.slice q1 s.principals.length c1,.slice q2 s.globals.length c2,.slice q3 s.arrays.length c3,.slice q4 s.channels.length c4,.slice q5 s.funcs.length c5]∧SoR (wC w) s q1 c1 q2 q3 q4 q5:=by
 obtain ⟨c0,c1,c2,c3,c4,rfl⟩:∃c0 c1 c2 c3 c4,cs=[c0,c1,c2,c3,c4]:=by
  match cs,hl with
  | [c0,c1,c2,c3,c4],_=>exact ⟨c0,c1,c2,c3,c4,rfl⟩
 obtain ⟨xs,n',rfl,hx,_,hlen,hf⟩:=DataW.trod_struct Tryz.underlying27 h
 have h0:=hf 0 _ rfl
 have h1:=hf 1 _ rfl
 have h2:=hf 2 _ rfl
 have h3:=hf 3 _ rfl
 have h4:=hf 4 _ rfl
 injection hx with hd _
 subst hd
 rw [Rows.uptoBulk] at hw
 have lk:xs.length=5:=hlen
 have hb:∀j (hj:j<xs.length),Rows.uptoBulk (xs[j]).1≤1048576:=fun j hj=>by
  have:=ct_ (List.mem_map_of_mem (f:=(·.1)) (List.getElem_mem hj));omega
 rw [List.getElem?_eq_getElem (by omega)] at h0 h1 h2 h3 h4
 obtain ⟨q0,k0,v0,e0,r0,f0,g0⟩:=vf_ (d:=(xs[0]'(by omega)).1) (p:=(xs[0]'(by omega)).2) h0 (hb 0 (by omega))
 obtain ⟨q1,k1,v1,e1,r1,f1,g1⟩:=qj_ (d:=(xs[1]'(by omega)).1) (p:=(xs[1]'(by omega)).2) h1 (hb 1 (by omega))
 obtain ⟨q2,k2,v2,e2,r2,f2,g2⟩:=ars_up (d:=(xs[2]'(by omega)).1) (p:=(xs[2]'(by omega)).2) h2 (hb 2 (by omega))
 obtain ⟨q3,k3,v3,e3,r3,f3,g3⟩:=qj_ (d:=(xs[3]'(by omega)).1) (p:=(xs[3]'(by omega)).2) h3 (hb 3 (by omega))
 obtain ⟨q4,k4,v4,lv,e4,r4,g4⟩:=fns_up (d:=(xs[4]'(by omega)).1) (p:=(xs[4]'(by omega)).2) h4 (hb 4 (by omega))
 have z0:[c0]=_:=e0
 injection z0 with y0
 clear e0
 have z1:[c1]=_:=e1
 injection z1 with y1
 clear e1
 have z2:[c2]=_:=e2
 injection z2 with y2
 clear e2
 have z3:[c3]=_:=e3
 injection z3 with y3
 clear e3
 have z4:[c4]=_:=e4
 injection z4 with y4
 clear e4
 subst y0
 subst y1
 subst y2
 subst y3
 subst y4
 refine ⟨⟨v0,v1,v2,v3,v4⟩,q0,k0,q1,k1,q2,k2,q3,k3,q4,k4,rfl,⟨⟨q0,k0,rfl,fun i hi=>?_⟩,?_,fun i=>?_⟩,r0,r1,r2,r3,⟨lv,r4⟩,⟨f1,?_⟩,⟨f2,?_⟩,⟨f3,?_⟩,?_,⟨fun x hx=>(by have:=f0 x hx;omega),?_⟩⟩
 ·obtain ⟨g,o,e1,e2⟩:=r0 i hi
  exact ⟨g,o,e1,by rw [e2,List.getD_eq_getElem?_getD,List.getElem?_eq_getElem hi];rfl⟩
 ·show v0.length≤_;unfold maxLen;omega
 ·rw [List.getD_eq_getElem?_getD]
  cases h:v0[i]? with
  | none=>show ByteArray.empty.size≤_;decide
  | some x=>have:=f0 x (List.mem_of_getElem? h);show x.size≤_;omega
 ·show v1.length≤_;omega
 ·show v2.length≤_;omega
 ·show v3.length≤_;omega
 ·show v4.length≤_;omega
 ·show v0.length≤_;omega
end
end Go.Proofs.YtpcniebkabkikaaGreatDoor
namespace Go.Proofs.YtpcniebkabkikaaGreatDoor
open Go Go.ChangeShapes Go.WideShapes Go.ChangeAt Go.RowKit Go.Lib
theorem own:ownKnob prog.godebug=none:=by kernel_rfl
theorem laidOut:laidOutB prog=true:=by kernel_rfl
def lays6 : List (String × DataW Unit) := [("math/bits.deBruijn32tab",Rows.laid_math_bits_deBruijn32tab),("math/bits.deBruijn64tab",Rows.laid_math_bits_deBruijn64tab),("internal/strconv.uint64pow10",Rows.laid_internal_strconv_uint64pow10),("strconv.ErrRange",Rows.laid_strconv_ErrRange),("strconv.ErrSyntax",Rows.laid_strconv_ErrSyntax),("louver/print.levels",Rows.laid_louver_print_levels)]
theorem gErrR : prog.globalNamed "strconv.ErrRange" = some 6 := by kernel_rfl
theorem sentinel {W:World} {n:String} {nm:String} {d:DataW Unit} {g:Nat} (hg:prog.globalNamed n=some g) (hty:(prog.globals[g]?).map (·.type)=some 136) (h:VarReads prog W n (.iface nm d)):∃tp p,W.var? prog n=some #[.iface tp p]:=by
 obtain ⟨g',t,cs,fuel,p,hg',hty',hvar,hd⟩:=h
 obtain rfl:=Option.some.inj (hg.symm.trans hg')
 obtain rfl:=Option.some.inj (hty.symm.trans hty')
 obtain ⟨f1,u,v,hcs,-,-⟩:=iface_of_trod Tryz.underlying136 hd
 obtain ⟨l⟩:=cs
 obtain rfl:l=[.iface u v]:=hcs
 exact ⟨u,v,hvar⟩
theorem g64 : prog.globalNamed "math/bits.deBruijn64tab" = some 2 := by kernel_rfl
theorem gLev : prog.globalNamed "louver/print.levels" = some 0 := by kernel_rfl
theorem y64:(prog.globals[2]?).map (·.type)=some 277:=by kernel_rfl
theorem yLev:(prog.globals[0]?).map (·.type)=some 143:=by kernel_rfl
theorem yPow:(prog.globals[1]?).map (·.type)=some 273:=by kernel_rfl
theorem cU8:prog.cellsOf 5=1:=by kernel_rfl
theorem cInt:prog.cellsOf 3=1:=by kernel_rfl
theorem cU64:prog.cellsOf 49=1:=by kernel_rfl
theorem c64:prog.cellsOf 277=64:=by kernel_rfl
theorem cLev:prog.cellsOf 143=18:=by kernel_rfl
theorem cPow:prog.cellsOf 273=20:=by kernel_rfl
theorem u64t:prog.underlying 277=some (.array 64 5):=by kernel_rfl
theorem uLev:prog.underlying 143=some (.array 18 3):=by kernel_rfl
theorem uPow:prog.underlying 273=some (.array 20 49):=by kernel_rfl
theorem tab64:(Rows.laid_math_bits_deBruijn64tab:DataW Unit)=tabData .u8 (Lib.deBruijn64tab.map Int.ofNat):=by kernel_rfl
theorem tabLev:(Rows.laid_louver_print_levels:DataW Unit)=tabData .i64 (lvTab.map Int.ofNat):=by kernel_rfl
theorem tabPow:(Rows.laid_internal_strconv_uint64pow10:DataW Unit)=tabData .u64 Lib.pow10Tab:=by kernel_rfl
theorem m6_ {W:World} (h:laidMetH prog lays6 W):EnvP W:=by
 rw [MakeChecks.laidMetH_plain _ _ _ (by kernel_rfl)] at h
 have r0 : VarReads prog W "math/bits.deBruijn64tab" (tabData .u8 (Lib.deBruijn64tab.map Int.ofNat)) := tab64 ▸ Lib.laidMet.reads h (by simp [lays6])
 have r1 : VarReads prog W "louver/print.levels" (tabData .i64 (lvTab.map Int.ofNat)) := tabLev ▸ Lib.laidMet.reads h (by simp [lays6])
 have r2 : VarReads prog W "internal/strconv.uint64pow10" (tabData .u64 Lib.pow10Tab) := tabPow ▸ Lib.laidMet.reads h (by simp [lays6])
 obtain ⟨tp,p,hv⟩ := sentinel gErrR (by kernel_rfl) (Lib.laidMet.reads h (n := "strconv.ErrRange") (d := Rows.laid_strconv_ErrRange) (by simp [lays6]))
 have hcell:W.cell? ⟨6,0,none⟩=some (.iface tp p):=by rw [World.var?_cell gErrR hv 0];rfl
 refine ⟨⟨tp,p,hcell⟩,?_,?_,?_,World.block_lt_of_cell? _ _ hcell⟩
 ·obtain ⟨g,t,cs,fuel,p,hg,hty,hvar,hd⟩:=r1
  obtain rfl:=Option.some.inj (gLev.symm.trans hg)
  obtain rfl:=Option.some.inj (yLev.symm.trans hty)
  have hcs:=cells_of_tab uLev Tryz.underlying3 cInt cLev hd
  intro j hj
  have:=World.var?_cell hg hvar j
  rw [this,←Array.getElem?_toList,hcs]
  have hl:lvTab.length=18:=rfl
  rw [List.map_map,List.getElem?_map,List.getElem?_eq_getElem (by rw [hl];exact hj),List.getD_eq_getElem?_getD,List.getElem?_eq_getElem (by rw [hl];exact hj)]
  rfl
 ·obtain ⟨g,t,cs,fuel,p,hg,hty,hvar,hd⟩:=r2
  obtain rfl:=Option.some.inj (gPow.symm.trans hg)
  obtain rfl:=Option.some.inj (yPow.symm.trans hty)
  have hcs:=cells_of_tab uPow Tryz.underlying49 cU64 cPow hd
  unfold Lib.TabIs
  rw [hvar,←hcs]
 ·obtain ⟨g,t,cs,fuel,p,hg,hty,hvar,hd⟩:=r0
  obtain rfl:=Option.some.inj (g64.symm.trans hg)
  obtain rfl:=Option.some.inj (y64.symm.trans hty)
  have hcs:=cells_of_tab u64t Tryz.underlying5 cU8 c64 hd
  intro j hj
  have:=World.var?_cell hg hvar j
  rw [this,←Array.getElem?_toList,hcs]
  simp [hj,Int.ofNat_eq_natCast]
theorem ls_ {H:Type} {enc:TypeId × Value→H} {P:Program} (hl:laidOutB P=true) {W W':World} (hb:Below W.heap.size W W') (ts:List TypeId):∀{vs:List Value} {ds:List (DataW H)} {ps:List MemPlace},
 (∀t∈ts,P.readableRec t=true∧t<P.types.size)→DataW.TrodAll enc P W 0 (fun _=>true) true ts vs ds ps→(∀x∈ps,x.block<W.heap.size)→DataW.TrodAll enc P W' 0 (fun b=>decide (b<W.heap.size)) true ts vs ds ps:=by
 induction ts with
 | nil =>
  intro vs ds ps _ h _
  cases vs <;> cases ds <;> exact h
 | cons t ts ih =>
  intro vs ds ps hr h hlt
  cases vs with
  | nil=>cases ds <;> cases h
  | cons v vs=>cases ds with
   | nil=>cases h
   | cons d ds =>
    obtain ⟨p,q,h1,h2,rfl⟩:=h
    have ht:=hr t (List.mem_cons_self ..)
    exact ⟨p,q,Below.trod hl ht.1 ht.2 h1 hb fun x hx=>hlt x (List.mem_append_left _ hx),ih (fun u hu=>hr u (List.mem_cons_of_mem _ hu)) h2 fun x hx=>hlt x (List.mem_append_right _ hx),rfl⟩
theorem vh_ {H:Type} {enc:TypeId × Value→H} {fn:Func} {s:ChangeSpec} {W W':World} {args:Array Value} {ds:List (DataW H)} {before:List MemPlace} (hv:s.vars=[]) (hrt:fn.resultTypes=#[4])
 (hr:∀t∈fn.params.toList,prog.readableRec t=true∧t<prog.types.size) (hs:s.fn H ds={ results:=[.lit (.bool true)],args:=ds,vars:=[] })
 (hW:DataW.Whole enc prog fn.params.toList s.vars false W args.toList ds [] before) (hb:Below W.heap.size W W'):s.post enc prog fn false true false false W args (.bool true) W':=by
 have hW':=hW
 obtain ⟨p,q,hA,hV,rfl,hfz,_⟩:=hW
 rw [hv] at hV
 obtain rfl:q=[]:=hV
 refine ⟨ds,[],p++[],[],p,[],hW',?_,?_,?_,hb.frame _,fun h=>by cases h⟩
 ·rw [nlf,hs,hrt];exact trodAll_mk1 (shut_bool Tryz.underlying4 _)
 ·rw [nlf,hs]
  exact ls_ laidOut hb _ hr hA fun x hx=>by simpa using hW'.lt x (List.mem_append_left _ hx)
 ·rw [nlf,hs,hv];rfl
end Go.Proofs.YtpcniebkabkikaaGreatDoor
