/- A part of the proof of PrintBack: contracts and plain facts. -/
import Derived.Test.YtpcniebkabkikaaGreatDoorPBqR16
import Derived.Test.YtpcniebkabkikaaGreatDoorPBqR25
import Derived.Test.YtpcniebkabkikaaGreatDoorPBqR13
import Derived.Test.YtpcniebkabkikaaGreatDoorPBqR3
import Derived.Test.YtpcniebkabkikaaGreatDoorPBqR15
set_option maxRecDepth 100000
set_option maxHeartbeats 8000000
open Go.Lib (hid)
open Go.Proofs.Tryz
open List renaming length_append → nla, append_assoc → nlb, length_singleton → nlc, length_map → nld, length_cons → nlk, append_nil → nlf, length_nil → nlg, map_append → nlh
namespace Go.Proofs.YtpcniebkabkikaaGreatDoor
open Go Go.RowKit Go.Proofs.Mm
def tmOf (t:Syn.Tm):TmZ:=⟨(t.kind:Int),(t.value:Int),sb t.name⟩
def stOf (s:Syn.St):StZ:=⟨(s.kind:Int),sb s.name,s.targets.map sb,s.exprs.map fun e=>e.map tmOf⟩
def deOf (d:Syn.De):DeZ:=⟨sb d.name,d.label⟩
def arOf (a:Syn.Ar):ArZ:=⟨sb a.name,(a.len:Int),a.label⟩
def fnOf (f:Syn.Fn):FnZ:=⟨sb f.name,f.level,f.params.map deOf,f.results,f.vars.map deOf,f.body.map stOf⟩
def soOf (s:Syn.So):SoZ:=⟨s.principals.map sb,s.globals.map deOf,s.arrays.map arOf,s.channels.map deOf,s.funcs.map fnOf⟩
def ExFit (e:List Syn.Tm):Prop:=e.length≤2097152∧∀t∈e,t.name.length≤140737488355327∧t.value≤9223372036854775807
def StFit (s:Syn.St):Prop:=s.name.length≤140737488355327∧(∀x∈s.targets,x.length≤140737488355327)∧∀e∈s.exprs,ExFit e
def FnFit (f:Syn.Fn):Prop:=f.name.length≤140737488355327∧(∀d∈f.params,d.name.length≤140737488355327)∧(∀d∈f.vars,d.name.length≤140737488355327)∧(∀s∈f.body,StFit s)∧f.body.length≤2199023255552
def SoFit (s:Syn.So):Prop:=(∀x∈s.principals,x.length≤140737488355327)∧(∀d∈s.globals,d.name.length≤140737488355327)∧(∀a∈s.arrays,a.name.length≤140737488355327∧a.len≤9223372036854775807)∧(∀d∈s.channels,d.name.length≤140737488355327)∧∀f∈s.funcs,FnFit f
theorem rdC {α:Type} {R:List Value→α→Prop} {size:Nat} {C:Cl} {q:Option Addr} {cs:List Value} {l:List α} (hR:∀c x,R c x→c.length=size) (h:RdO C q cs) (he:Enc R cs l) (j:Nat) (hj:j<l.length) (hs:0<size) :
 ∃g o c,q=some ⟨g,o,none⟩∧R c l[j]∧∀r u,r<size→c[r]?=some u→C ⟨g,o+j*size+r,none⟩=some u:=by
 obtain ⟨hl,ha⟩:=fi_ hR he
 obtain ⟨c,h1,h2⟩:=ha j hj
 have hc:=hR _ _ h1
 rcases h with h|⟨g,o,hg,h3⟩
 ·subst h
  have:=h2 0 hs
  rw [List.getElem?_eq_getElem (show 0<c.length by omega)] at this
  simp at this
 ·exact ⟨g,o,c,hg,h1,fun r u hr hu=>by rw [Nat.add_assoc];exact h3 _ _ (by rw [h2 r hr];exact hu)⟩
section
variable {m:Mem} {q:Option Addr} {c:Nat}
theorem p7_ {l:List (List Nat)} {n:Nat} (h:RowM m 9 1 (.slice q n c) n (strC l)):StrRow (mC m) q (l.map sb):=by
 intro j hj
 have hj':j<l.length:=by simpa using hj
 obtain ⟨g,o,c,h1,rfl,h2⟩:=rdC (size:=1) (fun c x e=>by rw [e];rfl) (RowM.rdO h) (up_ l) j hj' (by decide)
 refine ⟨g,o,h1,?_⟩
 have:=h2 0 _ (by decide) rfl
 rw [List.getElem_map]
 simpa using this
theorem lg_ {l:List Syn.De} {n:Nat} {cs:List Value} (h:RowM m 59 2 (.slice q n c) n cs) (he:Enc (DeR m) cs l):DeRow (mC m) q (l.map deOf)∧∀d∈l,d.label<18446744073709551616:=by
 constructor
 ·intro j hj
  have hj':j<l.length:=by simpa using hj
  obtain ⟨g,o,c,h1,⟨rfl,_⟩,h2⟩:=rdC (size:=2) (fun c x e=>by rw [e.1];rfl) (RowM.rdO h) he j hj' (by decide)
  rw [List.getElem_map]
  exact ⟨g,o,h1,h2 0 _ (by decide) rfl,h2 1 _ (by decide) rfl⟩
 ·intro d hd
  obtain ⟨j,hj,rfl⟩:=List.getElem_of_mem hd
  obtain ⟨g,o,c,_,⟨_,hl⟩,_⟩:=rdC (size:=2) (fun c x e=>by rw [e.1];rfl) (RowM.rdO h) he j hj (by decide)
  exact hl
theorem la_rowM {l:List Nat} {n:Nat} {cs:List Value} (h:RowM m 50 1 (.slice q n c) n cs) (he:Enc (LaR m) cs l):LaRow (mC m) q l∧∀d∈l,d<18446744073709551616:=by
 constructor
 ·intro j hj
  obtain ⟨g,o,c,h1,⟨rfl,_⟩,h2⟩:=rdC (size:=1) (fun c x e=>by rw [e.1];rfl) (RowM.rdO h) he j hj (by decide)
  refine ⟨g,o,h1,?_⟩
  have:=h2 0 _ (by decide) rfl
  simpa using this
 ·intro d hd
  obtain ⟨j,hj,rfl⟩:=List.getElem_of_mem hd
  obtain ⟨g,o,c,_,⟨_,hl⟩,_⟩:=rdC (size:=1) (fun c x e=>by rw [e.1];rfl) (RowM.rdO h) he j hj (by decide)
  exact hl
theorem ar_rowM {l:List Syn.Ar} {n:Nat} {cs:List Value} (h:RowM m 72 3 (.slice q n c) n cs) (he:Enc (ArR m) cs l):ArRow (mC m) q (l.map arOf)∧∀d∈l,d.label<18446744073709551616:=by
 constructor
 ·intro j hj
  have hj':j<l.length:=by simpa using hj
  obtain ⟨g,o,c,h1,⟨rfl,_⟩,h2⟩:=rdC (size:=3) (fun c x e=>by rw [e.1];rfl) (RowM.rdO h) he j hj' (by decide)
  rw [List.getElem_map]
  exact ⟨g,o,h1,h2 0 _ (by decide) rfl,h2 1 _ (by decide) rfl,h2 2 _ (by decide) rfl⟩
 ·intro d hd
  obtain ⟨j,hj,rfl⟩:=List.getElem_of_mem hd
  obtain ⟨g,o,c,_,⟨_,hl⟩,_⟩:=rdC (size:=3) (fun c x e=>by rw [e.1];rfl) (RowM.rdO h) he j hj (by decide)
  exact hl
theorem z9_:∀l:List Syn.Tm,Enc (fun c t=>c=tmC t) (tmCells l) l
 | []=>rfl
 | t::l=>⟨tmC t,tmCells l,by rw [show t::l=[t]++l from rfl,ja_,jb_],rfl,z9_ l⟩
theorem tm_rowM {l:List Syn.Tm} {v:Value} (h:TmM m v l):∃qe ce,v=.slice qe (l.map tmOf).length ce∧TmRow (mC m) qe (l.map tmOf)∧ce≤maxLen∧(l.map tmOf).length≤ce:=by
 obtain ⟨qe,ce,rfl⟩:=bg_ h
 refine ⟨qe,ce,by rw [nld],fun j hj=>?_,?_,?_⟩
 ·have hj':j<l.length:=by simpa using hj
  obtain ⟨g,o,c,h1,rfl,h2⟩:=rdC (size:=3) (fun c x e=>by rw [e];rfl) (RowM.rdO h) (z9_ l) j hj' (by decide)
  rw [List.getElem_map]
  exact ⟨g,o,h1,h2 0 _ (by decide) rfl,h2 1 _ (by decide) rfl,h2 2 _ (by decide) rfl⟩
 ·rcases h.2 with ⟨e,_⟩|⟨g,cap,cur,e,_,_,hc,_⟩
  ·injection e with _ _ e;rw [e];exact Nat.zero_le _
  ·injection e with _ _ e;rw [e];exact hc
 ·rw [nld]
  rcases h.2 with ⟨e,h0⟩|⟨g,cap,cur,e,_,hc,_⟩
  ·injection e with _ _ e;omega
  ·injection e with _ _ e;rw [e];exact hc
theorem ex_rowM {l:List (List Syn.Tm)} {v:Value} (h:ExM m v l):∃q c vs,v=.slice q (l.map fun e=>e.map tmOf).length c∧ExRow (mC m) q (l.map fun e=>e.map tmOf) vs:=by
 obtain ⟨cs,h1,h2⟩:=h
 obtain ⟨q,c,rfl⟩:=bg_ h1
 have hlen:=no_ h2
 have hrd:=(RowM.rdO h1)
 obtain ⟨_,hat⟩:=fi_ (size:=1) (fun c x ⟨u,e,_⟩=>by rw [e];rfl) h2
 refine ⟨q,c,cs,by rw [nld],⟨by rw [nld];exact hlen,fun j hj=>?_,fun j hj hj'=>?_⟩⟩
 ·rcases hrd with h|⟨g,o,e,h3⟩
  ·subst h;exact absurd hj (by simp)
  ·exact ⟨g,o,e,h3 j _ (List.getElem?_eq_getElem hj)⟩
 ·have hj2:j<l.length:=by simpa using hj'
  obtain ⟨c',⟨u,rfl,hu⟩,h4⟩:=hat j hj2
  have h5:=h4 0 (by decide)
  rw [Nat.mul_one,Nat.add_zero,List.getElem?_eq_getElem hj] at h5
  have h6:cs[j]=u:=by simpa using h5
  obtain ⟨qe,ce,e1,e2,e3,e4⟩:=tm_rowM hu
  rw [h6,List.getElem_map]
  exact ⟨qe,ce,e1,e2,e3,e4⟩
end
theorem ef_ (l:List Nat):(sb l).size=l.length:=o9_ l
theorem eg_ {β:Type}:∀{n:Nat} {P:(j:Nat)→j<n→β→Prop},(∀j (hj:j<n),∃x,P j hj x)→∃l:List β,l.length=n∧∀j (hj:j<n) (h:j<l.length),P j hj l[j]
 | 0,_,_=>⟨[],rfl,fun j hj=>absurd hj (by omega)⟩
 | n+1,P,h=>by
  obtain ⟨l,h1,h2⟩:=eg_ (n:=n) (P:=fun j hj x=>P j (by omega) x) (fun j hj=>h j (by omega))
  obtain ⟨x,hx⟩:=h n (by omega)
  refine ⟨l++[x],by rw [nla,h1];rfl,fun j hj hl=>?_⟩
  by_cases e:j<n
  ·rw [List.getElem_append_left (by omega)]
   exact h2 j e (by omega)
  ·obtain rfl:j=n:=by omega
   have:(l++[x])[l.length]'(by simp)=x:=by simp
   subst h1
   rw [this];exact hx
section
variable {m:Mem}
theorem st_SR {c:List Value} {s:Syn.St} (h:StM m c s) (hf:StFit s):∃q1 c1 q2 c2,c=[.int .i64 (s.kind:Int),.string (sb s.name),.slice q1 s.targets.length c1,.slice q2 s.exprs.length c2]∧SR (mC m) (stOf s) q1 q2:=by
 obtain ⟨vt,ve,rfl,h1,h2⟩:=h
 obtain ⟨q1,c1,rfl⟩:=bg_ h1
 obtain ⟨q2,c2,vs,e2,hx⟩:=ex_rowM h2
 rw [nld] at e2
 subst e2
 have hm1:=da_ h1
 obtain ⟨cs,hr,_⟩:=h2
 have hm2:=da_ hr
 refine ⟨q1,c1,q2,c2,rfl,?_,⟨vs,hx⟩,?_⟩
 ·exact p7_ h1
 ·refine ⟨by show (sb s.name).size≤_;rw [ef_];exact hf.1,?_,?_,?_,?_⟩
  ·intro x hx
   obtain ⟨y,hy,rfl⟩:=List.mem_map.1 hx
   rw [ef_];exact hf.2.1 y hy
  ·intro e he
   obtain ⟨y,hy,rfl⟩:=List.mem_map.1 he
   have h3:=hf.2.2 y hy
   refine ⟨by rw [nld];exact h3.1,fun t ht=>?_⟩
   obtain ⟨z,hz,rfl⟩:=List.mem_map.1 ht
   have h4:=h3.2 z hz
   exact ⟨by show (sb z.name).size≤_;rw [ef_];exact h4.1,by show ((z.value:Nat):Int)≤_;omega⟩
  ·show (s.targets.map sb).length≤_;rw [nld];exact hm1
  ·show (s.exprs.map _).length≤_;rw [nld];exact hm2
theorem bd_rowM {l:List Syn.St} {q:Option Addr} {c n:Nat} {cs:List Value} (h:RowM m 57 4 (.slice q n c) n cs) (he:Enc (StM m) cs l) (hf:∀s∈l,StFit s) (hl:l.length≤2199023255552):∃lv,BdRow (mC m) q (l.map stOf) lv:=by
 have hrd:=(RowM.rdO h)
 have hstl:∀(c:List Value) (x:Syn.St),StM m c x→c.length=4:=fun c x ⟨_,_,e,_⟩=>by rw [e];rfl
 have key:∀j (hj:j<l.length),∃x:StV,(∃g o,q=some ⟨g,o,none⟩∧mC m ⟨g,o+j*4,none⟩=some (.int .i64 x.k)∧mC m ⟨g,o+j*4+1,none⟩=some (.string x.nm)∧mC m ⟨g,o+j*4+2,none⟩=some (.slice x.q1 x.n1 x.c1)∧mC m ⟨g,o+j*4+3,none⟩=some (.slice x.q2 x.n2 x.c2))∧∃q1 c1 q2 c2,x=⟨(stOf l[j]).kind,(stOf l[j]).name,q1,(stOf l[j]).targets.length,c1,q2,(stOf l[j]).exprs.length,c2⟩∧SR (mC m) (stOf l[j]) q1 q2:=by
  intro j hj
  obtain ⟨g,o,c,h1,h2,h3⟩:=rdC (size:=4) hstl hrd he j hj (by decide)
  obtain ⟨q1,c1,q2,c2,rfl,hsr⟩:=st_SR h2 (hf _ (List.getElem_mem hj))
  have e1:(stOf l[j]).targets.length=l[j].targets.length:=nld ..
  have e2:(stOf l[j]).exprs.length=l[j].exprs.length:=nld ..
  refine ⟨⟨(stOf l[j]).kind,(stOf l[j]).name,q1,(stOf l[j]).targets.length,c1,q2,(stOf l[j]).exprs.length,c2⟩,⟨g,o,h1,h3 0 _ (by decide) rfl,h3 1 _ (by decide) rfl,?_,?_⟩,q1,c1,q2,c2,rfl,hsr⟩
  ·rw [e1];exact h3 2 _ (by decide) rfl
  ·rw [e2];exact h3 3 _ (by decide) rfl
 obtain ⟨lv,hlen,hlv⟩:=eg_ key
 refine ⟨lv,⟨by rw [nld];exact hlen,fun j hj=>?_,fun j hj hj'=>?_,by rw [nld];exact hl⟩⟩
 ·exact (hlv j (by omega) hj).1
 ·obtain ⟨q1,c1,q2,c2,e1,e2⟩:=(hlv j (by omega) hj).2
  rw [List.getElem_map]
  exact ⟨q1,c1,q2,c2,e1,e2⟩
theorem fn_FR {c:List Value} {f:Syn.Fn} (h:FnM m c f) (hf:FnFit f):∃q1 c1 q2 c2 q3 c3 q4 c4,c=[.string (sb f.name),.int .u64 (f.level:Nat),.slice q1 f.params.length c1,.slice q2 f.results.length c2,.slice q3 f.vars.length c3,.slice q4 f.body.length c4]∧FR (mC m) (fnOf f) q1 q2 q3 q4:=by
 obtain ⟨a,b,d,e,rfl,hl,⟨c1,p1,e1⟩,⟨c2,p2,e2⟩,⟨c3,p3,e3⟩,⟨c4,p4,e4⟩⟩:=h
 obtain ⟨q1,d1,rfl⟩:=bg_ p1
 obtain ⟨q2,d2,rfl⟩:=bg_ p2
 obtain ⟨q3,d3,rfl⟩:=bg_ p3
 obtain ⟨q4,d4,rfl⟩:=bg_ p4
 have h1:=lg_ p1 e1
 have h2:=la_rowM p2 e2
 have h3:=lg_ p3 e3
 have m1:=da_ p1
 have m2:=da_ p2
 have m3:=da_ p3
 have hde:∀{l:List Syn.De},(∀d∈l,d.label<18446744073709551616)→(∀d∈l,d.name.length≤140737488355327)→∀d∈l.map deOf,DeF d:=by
  intro l ha hb d hd
  obtain ⟨y,hy,rfl⟩:=List.mem_map.1 hd
  exact ⟨ha y hy,by show (sb y.name).size≤_;rw [ef_];exact hb y hy⟩
 refine ⟨q1,d1,q2,d2,q3,d3,q4,d4,rfl,⟨⟨by show (sb f.name).size≤_;rw [ef_];exact hf.1,hl,⟨hde h1.2 hf.2.1,by show (f.params.map _).length≤_;rw [nld];exact m1⟩,⟨h2.2,m2⟩,⟨hde h3.2 hf.2.2.1,by show (f.vars.map _).length≤_;rw [nld];exact m3⟩⟩,h1.1,h2.1,h3.1,bd_rowM p4 e4 hf.2.2.2.1 hf.2.2.2.2⟩⟩
theorem fn_rowM {l:List Syn.Fn} {q:Option Addr} {c n:Nat} {cs:List Value} (h:RowM m 54 6 (.slice q n c) n cs) (he:Enc (FnM m) cs l) (hf:∀s∈l,FnFit s):∃lv,FnRow (mC m) q (l.map fnOf) lv:=by
 have hrd:=(RowM.rdO h)
 have hstl:∀(c:List Value) (x:Syn.Fn),FnM m c x→c.length=6:=fun c x ⟨_,_,_,_,e,_⟩=>by rw [e];rfl
 have key:∀j (hj:j<l.length),∃x:FnV,(∃g o,q=some ⟨g,o,none⟩∧mC m ⟨g,o+j*6,none⟩=some (.string x.nm)∧mC m ⟨g,o+j*6+1,none⟩=some (.int .u64 (x.lv:Nat))∧mC m ⟨g,o+j*6+2,none⟩=some (.slice x.q1 x.n1 x.c1)∧mC m ⟨g,o+j*6+3,none⟩=some (.slice x.q2 x.n2 x.c2)∧mC m ⟨g,o+j*6+4,none⟩=some (.slice x.q3 x.n3 x.c3)∧mC m ⟨g,o+j*6+5,none⟩=some (.slice x.q4 x.n4 x.c4))∧∃q1 c1 q2 c2 q3 c3 q4 c4,x=⟨(fnOf l[j]).name,(fnOf l[j]).level,q1,(fnOf l[j]).params.length,c1,q2,(fnOf l[j]).results.length,c2,q3,(fnOf l[j]).vars.length,c3,q4,(fnOf l[j]).body.length,c4⟩∧FR (mC m) (fnOf l[j]) q1 q2 q3 q4:=by
  intro j hj
  obtain ⟨g,o,c,h1,h2,h3⟩:=rdC (size:=6) hstl hrd he j hj (by decide)
  obtain ⟨q1,c1,q2,c2,q3,c3,q4,c4,rfl,hsr⟩:=fn_FR h2 (hf _ (List.getElem_mem hj))
  have e1:(fnOf l[j]).params.length=l[j].params.length:=nld ..
  have e3:(fnOf l[j]).vars.length=l[j].vars.length:=nld ..
  have e4:(fnOf l[j]).body.length=l[j].body.length:=nld ..
  refine ⟨⟨(fnOf l[j]).name,(fnOf l[j]).level,q1,(fnOf l[j]).params.length,c1,q2,(fnOf l[j]).results.length,c2,q3,(fnOf l[j]).vars.length,c3,q4,(fnOf l[j]).body.length,c4⟩,⟨g,o,h1,h3 0 _ (by decide) rfl,h3 1 _ (by decide) rfl,?_,h3 3 _ (by decide) rfl,?_,?_⟩,q1,c1,q2,c2,q3,c3,q4,c4,rfl,hsr⟩
  ·rw [e1];exact h3 2 _ (by decide) rfl
  ·rw [e3];exact h3 4 _ (by decide) rfl
  ·rw [e4];exact h3 5 _ (by decide) rfl
 obtain ⟨lv,hlen,hlv⟩:=eg_ key
 refine ⟨lv,⟨by rw [nld];exact hlen,fun j hj=>?_,fun j hj hj'=>?_⟩⟩
 ·exact (hlv j (by omega) hj).1
 ·obtain ⟨q1,c1,q2,c2,q3,c3,q4,c4,e1,e2⟩:=(hlv j (by omega) hj).2
  rw [List.getElem_map]
  exact ⟨q1,c1,q2,c2,q3,c3,q4,c4,e1,e2⟩
theorem j8_ {s:Syn.So} {q1 c1 q2 c2 q3 c3 q4 c4 q5 c5} (h:SoS m s q1 c1 q2 c2 q3 c3 q4 c4 q5 c5) (hf:SoFit s):SoR (mC m) (soOf s) q1 c1 q2 q3 q4 q5:=by
 obtain ⟨hp,⟨_,g1,g2⟩,⟨_,a1,a2⟩,⟨_,d1,d2⟩,⟨_,f1,f2⟩⟩:=h
 have hg:=lg_ g1 g2
 have ha:=ar_rowM a1 a2
 have hd:=lg_ d1 d2
 have hstr:=p7_ hp
 have mp:=da_ hp
 have hde:∀{l:List Syn.De},(∀d∈l,d.label<18446744073709551616)→(∀d∈l,d.name.length≤140737488355327)→∀d∈l.map deOf,DeF d:=by
  intro l ha hb d hd
  obtain ⟨y,hy,rfl⟩:=List.mem_map.1 hd
  exact ⟨ha y hy,by show (sb y.name).size≤_;rw [ef_];exact hb y hy⟩
 have hpl:(soOf s).principals.length=s.principals.length:=nld ..
 have hps:∀d∈(soOf s).principals,d.size≤140737488355327:=by
  intro d hd
  obtain ⟨y,hy,rfl⟩:=List.mem_map.1 hd
  rw [ef_];exact hf.1 y hy
 refine ⟨⟨⟨q1,c1,rfl,fun i hi=>?_⟩,?_,fun i=>?_⟩,hstr,hg.1,ha.1,hd.1,fn_rowM f1 f2 hf.2.2.2.2,⟨hde hg.2 hf.2.1,?_⟩,⟨?_,?_⟩,⟨hde hd.2 hf.2.2.2.1,?_⟩,?_,⟨hps,?_⟩⟩
 ·obtain ⟨g,o,e1,e2⟩:=hstr i hi
  exact ⟨g,o,e1,by rw [e2,List.getD_eq_getElem?_getD,List.getElem?_eq_getElem hi];rfl⟩
 ·rw [hpl];unfold maxLen;omega
 ·rw [List.getD_eq_getElem?_getD]
  cases h:(soOf s).principals[i]? with
  | none=>show ByteArray.empty.size≤_;decide
  | some x=>exact hps x (List.mem_of_getElem? h)
 ·show (s.globals.map _).length≤_;rw [nld];exact da_ g1
 ·intro d hd
  obtain ⟨y,hy,rfl⟩:=List.mem_map.1 hd
  have h1:=hf.2.2.1 y hy
  exact ⟨by show (sb y.name).size≤_;rw [ef_];exact h1.1,by show _≤((y.len:Nat):Int);omega,by show ((y.len:Nat):Int)≤_;omega,ha.2 y hy⟩
 ·show (s.arrays.map _).length≤_;rw [nld];exact da_ a1
 ·show (s.channels.map _).length≤_;rw [nld];exact da_ d1
 ·show (s.funcs.map _).length≤_;rw [nld];exact da_ f1
 ·rw [hpl];exact mp
end
end Go.Proofs.YtpcniebkabkikaaGreatDoor
namespace Go.Proofs.YtpcniebkabkikaaGreatDoor
open Go
open Go.Proofs.Syn (K Ex Sx Ln De Ar Fx Sox mk4 nm1 kw2 lbNs lbIx LbOk)
theorem bits_lb {ns:List (List Nat)} (h64:ns.length≤64) {m:Nat} (hm:m<2 ^ ns.length):Bt.bitsOf m=lbIx ns m:=by
 unfold Bt.bitsOf Bt.bitsFrom lbIx
 rw [List.range_eq_range',show (64:Nat)=ns.length+(64 - ns.length) by omega,←List.range'_append (s:=0) (m:=ns.length) (n:=64 - ns.length) (step:=1),List.filter_append]
 have h2:(List.range' (0+1*ns.length) (64 - ns.length)).filter m.testBit=[]:=by
  rw [List.filter_eq_nil_iff]
  intro i hi
  have h3:=(List.mem_range'_1.1 hi).1
  rw [Nat.testBit_lt_two_pow (Nat.lt_of_lt_of_le hm (Nat.pow_le_pow_right (by decide) (by omega)))]
  decide
 rw [h2,nlf]
theorem p8_ {zs:List ByteArray} {nm:Nat→List Nat}:∀(l:List Nat) (acc:List UInt8),(∀i∈l,(Bt.itemB zs i).map UInt8.toNat=nm i)→1<acc.length→(l.foldl (Bt.textStep zs) acc).map UInt8.toNat=acc.map UInt8.toNat++l.flatMap fun i=>32::nm i
 | [],acc,_,_=>by simp
 | i::l,acc,h,ha=>by
  have h1:Bt.textStep zs acc i=acc++(32::Bt.itemB zs i):=by unfold Bt.textStep;rw [if_pos ha];rfl
  rw [List.foldl_cons,h1,p8_ l _ (fun j hj=>h j (List.mem_cons_of_mem _ hj)) (by rw [nla];omega),nlh,List.map_cons,h i (List.mem_cons_self ..),List.flatMap_cons,nlb]
  rfl
theorem bl_lay:∀(l:List (List Nat)),lay (l.map fun s=>(([32],nm1 s):List Nat × K))=l.flatMap fun s=>32::s
 | []=>rfl
 | s::l=>by
  rw [List.map_cons,List.flatMap_cons,←bl_lay l]
  rfl
theorem lh_ {ns:List (List Nat)} (hn:∀s∈ns,PN s) (h64:ns.length≤64) {m:Nat} (hm:LbOk ns m) (g:List Nat):lay (lbIt ns m g)=g++lbZ (ns.map sb) m:=by
 have hit:∀i∈lbIx ns m,(Bt.itemB (Bt.gl (ns.map sb) (min (ns.map sb).length 64)) i).map UInt8.toNat=ns.getD i []:=by
  intro i hi
  unfold lbIx at hi
  rw [List.mem_filter,List.mem_range] at hi
  rw [item_at hn hi.1 (by omega) (hm.fst i hi.1 hi.2) (by rw [nld];omega),List.getD_eq_getElem?_getD,List.getElem?_eq_getElem hi.1]
  rfl
 unfold lbIt lbZ Bt.textB Bt.textAcc lbNs
 rw [bits_lb h64 hm.lt,nlh]
 generalize Bt.gl (ns.map sb) (min (ns.map sb).length 64)=zs at *
 show g++([123]++lay (blIt ((lbIx ns m).map fun i=>ns.getD i [])++[([],mk4 [125])]))=_
 rw [aq_]
 cases hl:lbIx ns m with
 | nil=>rfl
 | cons i l =>
  rw [hl] at hit
  have h1:=hit i (List.mem_cons_self ..)
  have hne:ns.getD i []≠[]:=by
   have hi:i∈lbIx ns m:=by rw [hl];exact List.mem_cons_self ..
   unfold lbIx at hi
   rw [List.mem_filter,List.mem_range] at hi
   rw [List.getD_eq_getElem?_getD,List.getElem?_eq_getElem hi.1]
   exact (hn _ (List.getElem_mem hi.1)).ne
  have h2:Bt.textStep zs [123] i=123::Bt.itemB zs i:=by unfold Bt.textStep;rw [if_neg (by decide)];rfl
  have h3:1<(123::Bt.itemB zs i:List UInt8).length:=by
   rw [nlk]
   have:(Bt.itemB zs i).length≠0:=fun e=>hne (by rw [←h1,List.eq_nil_of_length_eq_zero e];rfl)
   omega
  rw [List.foldl_cons,h2,p8_ (nm:=fun i=>ns.getD i []) l _ (fun j hj=>hit j (List.mem_cons_of_mem _ hj)) h3,List.map_cons,List.map_cons,h1]
  show g++([123]++((ns.getD i []++lay ((l.map fun i=>ns.getD i []).map fun s=>(([32],nm1 s):List Nat × K)))++[125]))=_
  rw [bl_lay,List.flatMap_map]
  simp
end Go.Proofs.YtpcniebkabkikaaGreatDoor
namespace Go.Proofs.YtpcniebkabkikaaGreatDoor
open Go
open Go.Proofs.Syn (K Ex Tm Sx Ln Sh De Ar Fx Sox mk4 nm1 kw2 lbNs lbIx LbOk tx nest)
theorem pn_is {s:List Nat} (h:PN s):isL s=1:=by
 have hw:=h.word
 have h0:s.length≠0:=fun e=>h.ne (List.eq_nil_of_length_eq_zero e)
 have h32:¬32<s.length:=fun e=>h.name ⟨rfl,e⟩
 have he:errL s=0:=by
  unfold errL
  rw [hw]
  dsimp only
  rw [if_neg h0,if_neg (fun e=>h32 e.2),if_neg (fun e=>absurd e.1 (by decide))]
 unfold isL
 rw [hw]
 exact if_pos ⟨h.ne,he,rfl⟩
theorem os_:(sb []).toList.isEmpty=true:=by rw [Lib.toList_data];rfl
theorem dl_ {t:TmZ} {w:Nat} (hr:rightZ t=true) (hw:wantZ t=w) (r:List TmZ) (n:Nat) (h:w≤n):wholeF (t::r) n=wholeF r (n - w+1):=by
 rw [wholeF,hr,hw,decide_eq_true h];rfl
theorem rgt_1 {t:TmZ} (hk:t.kind=1) (hv:0≤t.value) (hn:t.name.toList.isEmpty=true):rightZ t=true:=by
 unfold rightZ;rw [if_pos hk,hn,decide_eq_true hv];rfl
theorem rgt_2 {t:TmZ} (hk:t.kind=2∨t.kind=3) (hv:t.value=0) (hn:isL (bl t.name)=1):rightZ t=true:=by
 unfold rightZ;rw [if_neg (by omega),if_pos hk,hn,decide_eq_true hv];rfl
theorem rgt_4 {t:TmZ} (hk:t.kind=4) (hv:15≤t.value∧t.value≤17) (hn:t.name.toList.isEmpty=true):rightZ t=true:=by
 unfold rightZ;rw [if_neg (by omega),if_neg (by omega),if_pos hk,hn,decide_eq_true hv];rfl
theorem rgt_5 {t:TmZ} (hk:t.kind=5) (hv:1≤t.value∧t.value≤14) (hn:t.name.toList.isEmpty=true):rightZ t=true:=by
 unfold rightZ;rw [if_neg (by omega),if_neg (by omega),if_neg (by omega),if_pos hk,hn,decide_eq_true hv];rfl
theorem uq_ (v:Nat):rightZ (tmOf ⟨1,v,[]⟩)=true:=rgt_1 rfl (Int.natCast_nonneg v) os_
theorem p9_ {s:List Nat} (h:PN s) {k:Nat} (hk:k=2∨k=3):rightZ (tmOf ⟨k,0,s⟩)=true :=
 rgt_2 (show (k:Int)=2∨(k:Int)=3 by omega) rfl (by show isL (bl (sb s))=1;rw [e7_ (eb_ h)];exact pn_is h)
theorem yl_ {o:Nat} (h1:15≤o) (h2:o≤17):rightZ (tmOf ⟨4,o,[]⟩)=true:=rgt_4 rfl ⟨show (15:Int)≤(o:Int) by omega,show (o:Int)≤17 by omega⟩ os_
theorem ur_ {o:Nat} (h1:1≤o) (h2:o≤14):rightZ (tmOf ⟨5,o,[]⟩)=true:=rgt_5 rfl ⟨show (1:Int)≤(o:Int) by omega,show (o:Int)≤14 by omega⟩ os_
theorem dm_:∀(e:Ex),e.Wf→e.All PN (QN dgN)→∀r n,wholeF (e.flat.map tmOf++r) n=wholeF r (n+1)
 | .num v,_,_,r,n=>dl_ (uq_ v) rfl r n (Nat.zero_le _)
 | .nm s,_,h,r,n=>dl_ (p9_ h (.inl rfl)) rfl r n (Nat.zero_le _)
 | .idx s e,hw,h,r,n=>by
  rw [Ex.flat,nlh,nlb,dm_ e hw h.2]
  exact dl_ (w:=1) (p9_ h.1 (.inr rfl)) rfl r (n+1) (by omega)
 | .un o e,hw,h,r,n=>by
  rw [Ex.flat,nlh,nlb,dm_ e hw.2.2 h]
  exact dl_ (w:=1) (yl_ hw.1 hw.2.1) rfl r (n+1) (by omega)
 | .bin o a b,hw,h,r,n=>by
  rw [Ex.flat,nlh,nlh,nlb,nlb,dm_ a hw.2.2.1 h.1,dm_ b hw.2.2.2 h.2]
  exact dl_ (w:=2) (ur_ hw.1 hw.2.1) rfl r (n+1+1) (by omega)
theorem ix_:∀(e:Ex),e.All PN (QN dgN)→∀t∈e.flat,∀c∈t.name,c<256
 | .num v,_,t,ht,c,hc=>by
  obtain rfl:=List.mem_singleton.1 ht
  cases hc
 | .nm s,h,t,ht,c,hc=>by
  obtain rfl:=List.mem_singleton.1 ht
  exact eb_ h c hc
 | .idx s e,h,t,ht,c,hc=>by
  rcases List.mem_append.1 ht with ht|ht
  ·exact ix_ e h.2 t ht c hc
  ·obtain rfl:=List.mem_singleton.1 ht
   exact eb_ h.1 c hc
 | .un o e,h,t,ht,c,hc=>by
  rcases List.mem_append.1 ht with ht|ht
  ·exact ix_ e h t ht c hc
  ·obtain rfl:=List.mem_singleton.1 ht
   cases hc
 | .bin o a b,h,t,ht,c,hc=>by
  rcases List.mem_append.1 ht with ht|ht
  ·rcases List.mem_append.1 ht with ht|ht
   ·exact ix_ a h.1 t ht c hc
   ·exact ix_ b h.2 t ht c hc
  ·obtain rfl:=List.mem_singleton.1 ht
   cases hc
theorem tm_back {t:Tm} (h:∀c∈t.name,c<256):tmN (tmOf t)=t:=by
 show (⟨t.kind,t.value,bl (sb t.name)⟩:Tm)=t
 rw [e7_ h]
theorem ff_ {e:Ex} (hw:e.Wf) (ha:e.All PN (QN dgN)):exZ (e.flat.map tmOf)=exText dgN e 0:=by
 have h1:wholeZ (e.flat.map tmOf)=true:=by
  unfold wholeZ
  have:=dm_ e hw ha [] 0
  rw [nlf] at this
  rw [this];rfl
 have h2:(e.flat.map tmOf).map tmN=e.flat:=by
  rw [List.map_map]
  exact (List.map_congr_left (g:=id) fun t ht=>tm_back (ix_ e ha t ht)).trans (List.map_id _)
 unfold exZ textZ
 rw [if_pos h1,h2]
 have:=gc_ (dg:=dgN) e [] []
 rw [nlf] at this
 rw [this];rfl
theorem ot_ {α β:Type} {f:α→List Nat→List (List Nat × K)} {z:β→List Nat} {m:α→β}:∀{l:List α},(∀x∈l,∀g,lay (f x g)=g++z (m x))→∀g,lay (rowIt f l g)=(if l=[] then [] else g)++sepZ [44,32] z (l.map m)
 | [],_,_=>rfl
 | x::l,h,g=>by
  have hr:∀l:List α,(∀x∈l,∀g,lay (f x g)=g++z (m x))→lay (l.flatMap fun y=>([],mk4 [44])::f y [32])=(l.map m).flatMap fun y=>[44,32]++z y:=by
   intro l
   induction l with
   | nil=>exact fun _=>rfl
   | cons y l ih =>
    intro h
    rw [List.flatMap_cons,aq_,ih fun x hx=>h x (List.mem_cons_of_mem _ hx),List.map_cons,List.flatMap_cons]
    show 44::lay (f y [32])++_=_
    rw [h y (List.mem_cons_self ..)]
    rfl
  rw [rowIt,aq_,h x (List.mem_cons_self ..),hr l fun y hy=>h y (List.mem_cons_of_mem _ hy),if_neg (by simp),List.map_cons,sepZ,nlb]
theorem ym_ {α β:Type} {f:α→List Nat→List (List Nat × K)} {z:β→List Nat} {m:α→β} {l:List α} (h:∀x∈l,∀g,lay (f x g)=g++z (m x)):lay (rowIt f l [])=sepZ [44,32] z (l.map m):=by
 rw [ot_ h]
 split <;> rfl
section
variable {ns:List (List Nat)}
theorem de_lay (hn:∀s∈ns,PN s) (h64:ns.length≤64) {d:De} (hd:PN d.name∧LbOk ns d.label) (g:List Nat):lay (deIt ns d g)=g++declZ (ns.map sb) (deOf d):=by
 show g++(d.name++lay (lbIt ns d.label [32]))=g++(bl (sb d.name)++32::lbZ (ns.map sb) d.label)
 rw [lh_ hn h64 hd.2,e7_ (eb_ hd.1)]
 rfl
theorem us_ (hn:∀s∈ns,PN s) (h64:ns.length≤64) {d:De} (hd:PN d.name∧LbOk ns d.label) (s:String) (g:List Nat) {w:List Nat} (hw:w=g++(tx s++[32])):lay (kdIt ns s g d)++[10]=kdZ w (ns.map sb) (deOf d):=by
 subst hw
 show g++(tx s++lay (deIt ns d [32]++[([],mk4 [59])]))++[10]=(g++(tx s++[32]))++(declZ (ns.map sb) (deOf d)++[59,10])
 rw [aq_,de_lay hn h64 hd]
 simp [lay,mk4]
theorem ar_lay (hn:∀s∈ns,PN s) (h64:ns.length≤64) {a:Ar} (hd:PN a.name) (hl:LbOk ns a.label):lay (arIt dgN ns a)++[10]=arZ (ns.map sb) (arOf a):=by
 have e:itN ((a.len:Nat):Int)=dgN a.len:=by unfold itN;rw [if_neg (by omega)];rfl
 show [] ++ (tx "array" ++ ([32] ++ (a.name ++ ([32] ++ (dgN a.len ++ lay (lbIt ns a.label [32] ++ [([],mk4 [59])])))))) ++ [10] = [97,114,114,97,121,32] ++ (bl (sb a.name) ++ ([32] ++ (itN ((a.len : Nat) : Int) ++ ([32] ++ (lbZ (ns.map sb) a.label ++ [59,10])))))
 rw [aq_,lh_ hn h64 hl,e7_ (eb_ hd),e,show tx "array" = [97,114,114,97,121] by decide]
 simp [lay,mk4]
end
section
theorem ut_:∀(l:List (List Nat)),(∀s∈l,PN s)→lay (l.map fun s=>(([32],nm1 s):List Nat × K))=(l.map sb).flatMap fun y=>[32]++bl y
 | [],_=>rfl
 | s::l,h=>by
  rw [List.map_cons,List.map_cons,List.flatMap_cons,←ut_ l fun t ht=>h t (List.mem_cons_of_mem _ ht),e7_ (eb_ (h s (List.mem_cons_self ..)))]
  rfl
theorem pr_lay {ns:List (List Nat)} (hn:∀s∈ns,PN s) (h0:ns≠[]):lay (prIt ns)++[10]=[112,114,105,110,99,105,112,97,108,32]++(sepZ [32] bl (ns.map sb)++[59,10]):=by
 cases ns with
 | nil=>exact absurd rfl h0
 | cons s l =>
  show [] ++ (tx "principal" ++ lay (((s :: l).map fun s => (([32],nm1 s) : List Nat × K)) ++ [([],mk4 [59])])) ++ [10] = _
  rw [aq_,ut_ _ hn,show tx "principal" = [112,114,105,110,99,105,112,97,108] by decide,List.map_cons,List.flatMap_cons,sepZ]
  simp [lay,mk4]
end
theorem uu_ {l:List (List Nat)} (h:∀s∈l,PN s) (g:List Nat):lay (rowIt nmIt l g)=(if l=[] then [] else g)++sepZ [44,32] bl (l.map sb) :=
 ot_ (f:=nmIt) (m:=sb) (fun s hs g=>by
  show g++(s++[])=_
  rw [nlf,e7_ (eb_ (h s hs))]) g
theorem uv_ {l:List Ex} (h:∀e∈l,e.Wf∧e.dp 0≤12∧e.All PN (QN dgN)) (g:List Nat):lay (rowIt (fun e g=>exIt dgN e 0 g) l g)=(if l=[] then [] else g)++sepZ [44,32] exZ ((l.map Ex.flat).map fun e=>e.map tmOf):=by
 rw [List.map_map]
 exact ot_ (f:=fun e g=>exIt dgN e 0 g) (m:=(fun e=>e.map tmOf) ∘ Ex.flat) (fun e he g=>by
  rw [a8_]
  exact congrArg (g++·) (ff_ (h e he).1 (h e he).2.2).symm) g
theorem yn_ {l:List Ex} (h:∀e∈l,e.Wf∧e.dp 0≤12∧e.All PN (QN dgN)):lay (rowIt (fun e g=>exIt dgN e 0 g) l [])=sepZ [44,32] exZ ((l.map Ex.flat).map fun e=>e.map tmOf):=by
 rw [uv_ h]
 split <;> rfl
theorem sx_lay {x:Sx} (ha:x.Al PN (QN dgN)) (g:List Nat):lay (sxIt dgN x g)=g++lineZ (stOf x.st):=by
 obtain ⟨⟨h,hn⟩,h2,h3⟩:=ha
 cases h with
 | sh h =>
  cases h with
  | assign s e =>
   have he:=h3 e (by simp)
   have hs:=h2 s (by simp)
   show lay (rowIt nmIt [s] g++([32],mk4 [61])::(exIt dgN e 0 [32]++[([],mk4 [59])]))=g++((bl (sb s)++[])++([32,61,32]++(exZ (e.flat.map tmOf)++[59])))
   rw [aq_,uu_ (l:=[s]) h2,lay,aq_,a8_,ff_ he.1 he.2.2]
   simp [lay,mk4,sepZ]
  | store s a b =>
   have hea:=h3 a (by simp)
   have heb:=h3 b (by simp)
   have hs:=hn (.inl rfl)
   show lay ((g,nm1 s)::([],mk4 [91])::(exIt dgN a 0 []++([],mk4 [93])::([32],mk4 [61])::(exIt dgN b 0 [32]++[([],mk4 [59])])))=g++(bl (sb s)++([91]++(exZ (a.flat.map tmOf)++([93,32,61,32]++(exZ (b.flat.map tmOf)++[59])))))
   rw [lay,lay,aq_,a8_,lay,lay,aq_,a8_,ff_ hea.1 hea.2.2,ff_ heb.1 heb.2.2,e7_ (eb_ hs)]
   simp [lay,mk4,nm1]
  | send c e =>
   have he:=h3 e (by simp)
   have hs:=hn (.inr (.inl rfl))
   show lay ((g,kw2 "send") :: ([32],nm1 c) :: (exIt dgN e 0 [32] ++ [([],mk4 [59])])) = g ++ ([115,101,110,100,32] ++ (bl (sb c) ++ ([32] ++ (exZ (e.flat.map tmOf) ++ [59]))))
   rw [lay,lay,aq_,a8_,ff_ he.1 he.2.2,e7_ (eb_ hs),show (kw2 "send").text = [115,101,110,100] by decide]
   simp [lay,mk4,nm1]
  | call ts s es =>
   have hs:=hn (.inr (.inr rfl))
   show lay ((if ts=[] then [(g,nm1 s)] else rowIt nmIt ts g++[([32],mk4 [61]),([32],nm1 s)])++([],mk4 [40])::(rowIt (fun e g=>exIt dgN e 0 g) es []++[([],mk4 [41]),([],mk4 [59])]))=g++((if (ts.map sb).length=0 then [] else sepZ [44,32] bl (ts.map sb)++[32,61,32])++(bl (sb s)++([40]++(sepZ [44,32] exZ ((es.map Ex.flat).map fun e=>e.map tmOf)++[41,59]))))
   rw [aq_,lay,aq_,yn_ (l:=es) h3,e7_ (eb_ hs)]
   by_cases h0:ts=[]
   ·subst h0
    rw [if_pos rfl]
    simp [lay,mk4,nm1]
   ·rw [if_neg h0,if_neg (by rw [nld];exact fun e=>h0 (List.eq_nil_of_length_eq_zero e)),aq_,uu_ h2,if_neg h0]
    simp [lay,mk4,nm1]
 | iff e =>
  have he:=h3 e (by simp)
  show lay ((g,kw2 "if") :: (exIt dgN e 0 [32] ++ [([32],mk4 [123])])) = g ++ ([105,102,32] ++ (exZ (e.flat.map tmOf) ++ [32,123]))
  rw [lay,aq_,a8_,ff_ he.1 he.2.2,show (kw2 "if").text = [105,102] by decide]
  simp [lay,mk4]
 | els =>
  show g ++ ([125] ++ ([32] ++ (tx "else" ++ ([32] ++ ([123] ++ []))))) = g ++ [125,32,101,108,115,101,32,123]
  rw [show tx "else" = [101,108,115,101] by decide]
  rfl
 | whi e =>
  have he:=h3 e (by simp)
  show lay ((g,kw2 "while") :: (exIt dgN e 0 [32] ++ [([32],mk4 [123])])) = g ++ ([119,104,105,108,101,32] ++ (exZ (e.flat.map tmOf) ++ [32,123]))
  rw [lay,aq_,a8_,ff_ he.1 he.2.2,show (kw2 "while").text = [119,104,105,108,101] by decide]
  simp [lay,mk4]
 | fin=>rfl
 | ret es =>
  show lay ((g,kw2 "return") :: (rowIt (fun e g => exIt dgN e 0 g) es [32] ++ [([],mk4 [59])])) = g ++ ([114,101,116,117,114,110] ++ ((if ((es.map Ex.flat).map fun e => e.map tmOf).length = 0 then [] else [32] ++ sepZ [44,32] exZ ((es.map Ex.flat).map fun e => e.map tmOf)) ++ [59]))
  rw [lay,aq_,uv_ (l := es) h3,show (kw2 "return").text = [114,101,116,117,114,110] by decide]
  by_cases h0:es=[]
  ·subst h0
   rw [if_pos rfl]
   simp [lay,mk4,sepZ]
  ·rw [if_neg h0,if_neg (by rw [nld,nld];exact fun e=>h0 (List.eq_nil_of_length_eq_zero e))]
   simp [lay,mk4]
end Go.Proofs.YtpcniebkabkikaaGreatDoor
namespace Go.Proofs.YtpcniebkabkikaaGreatDoor
open Go
open Go.Proofs.Syn (K Ex Tm Sx Ln Sh De Ar Fx Sox mk4 nm1 kw2 lbNs lbIx LbOk tx nest FnOk)
theorem go_ (a:List (List Nat × K)) (l:List (List (List Nat × K))):linesT (a::l)=lay a++[10]++linesT l:=by unfold linesT;rw [List.flatMap_cons]
theorem c3_ (a b:List (List (List Nat × K))):linesT (a++b)=linesT a++linesT b:=by unfold linesT;rw [List.flatMap_append]
theorem eh_ {α β:Type} {f:α→List (List Nat × K)} {z:β→List Nat} {m:α→β}:∀{l:List α},(∀x∈l,lay (f x)++[10]=z (m x))→linesT (l.map f)=(l.map m).flatMap z
 | [],_=>rfl
 | x::l,h=>by
  rw [List.map_cons,go_,List.map_cons,List.flatMap_cons,h x (List.mem_cons_self ..),eh_ fun y hy=>h y (List.mem_cons_of_mem _ hy)]
theorem dp_nat (x:Sx) {d:Nat} (h:1≤d):dpZ (d:Int) (stOf x.st)=((if x.kind=6∨x.kind=8 then d - 1 else d:Nat):Int):=by
 have hk:(stOf x.st).kind=(x.kind:Int):=rfl
 unfold dpZ;rw [hk];split <;> split <;> omega
theorem nx_nat (x:Sx) {d:Nat} (h:1≤d):nxZ (d:Int) (stOf x.st)=((if x.kind=5∨x.kind=7 then d+1 else if x.kind=8 then d - 1 else d:Nat):Int):=by
 have hk:(stOf x.st).kind=(x.kind:Int):=rfl
 unfold nxZ;rw [hk];split <;> split <;> (try split) <;> (try split) <;> omega
theorem ln_kind {x:Sx} (h:Ln x):1≤x.kind∧x.kind≤9:=by
 cases h with
 | sh h=>cases h <;> exact ⟨by simp,by simp⟩
 | _=>exact ⟨by simp,by simp⟩
theorem one_lay {x:Sx} (ha:x.Al PN (QN dgN)) (k:Nat):lay (sxIt dgN x (ind k))++[10]=stZ (k:Int) (stOf x.st):=by
 have hk:(stOf x.st).kind=(x.kind:Int):=rfl
 have h:=ln_kind ha.1.1
 rw [sx_lay ha]
 unfold stZ
 rw [if_neg (by rw [hk];omega),show ((k:Nat):Int).toNat=k from rfl,nlb]
 rfl
theorem qa_:∀(l:List Sx) (st st2:List Bool),(∀x∈l,x.Al PN (QN dgN))→nest (l.map Sx.kind) st=some st2→linesT (stLs dgN (st.length+1) l)=bodyZ ((st.length+1:Nat):Int) (l.map fun x=>stOf x.st)
 | [],_,_,_,_=>rfl
 | x::l,st,st2,h,hn=>by
  have hx:=h x (List.mem_cons_self ..)
  have hr:∀y∈l,y.Al PN (QN dgN):=fun y hy=>h y (List.mem_cons_of_mem _ hy)
  rw [stLs,go_,List.map_cons,bodyZ,dp_nat x (by omega),nx_nat x (by omega),←one_lay hx]
  congr 1
  obtain ⟨st',e,hn'⟩:∃st':List Bool,(if x.kind=5∨x.kind=7 then st.length+1+1 else if x.kind=8 then st.length+1 - 1 else st.length+1)=st'.length+1∧nest (l.map Sx.kind) st'=some st2:=by
   rw [List.map_cons,nest.eq_def] at hn
   simp only at hn
   by_cases h5:x.kind=5
   ·rw [if_pos h5] at hn
    exact ⟨true::st,by rw [if_pos (.inl h5)];rfl,hn⟩
   ·rw [if_neg h5] at hn
    by_cases h7:x.kind=7
    ·rw [if_pos h7] at hn
     exact ⟨false::st,by rw [if_pos (.inr h7)];rfl,hn⟩
    ·rw [if_neg h7] at hn
     have h57:¬(x.kind=5∨x.kind=7):=by omega
     by_cases h6:x.kind=6
     ·rw [if_pos h6] at hn
      cases st with
      | nil=>cases hn
      | cons b st =>
       cases b with
       | false=>cases hn
       | true=>exact ⟨false::st,by rw [if_neg h57,if_neg (by omega)];rfl,hn⟩
     ·rw [if_neg h6] at hn
      by_cases h8:x.kind=8
      ·rw [if_pos h8] at hn
       cases st with
       | nil=>cases hn
       | cons b st=>exact ⟨st,by rw [if_neg h57,if_pos h8];rfl,hn⟩
      ·rw [if_neg h8] at hn
       exact ⟨st,by rw [if_neg h57,if_neg h8],hn⟩
  rw [e]
  exact qa_ l st' st2 hr hn'
section
variable {ns:List (List Nat)}
theorem br_lay {α β:Type} {f:α→List Nat→List (List Nat × K)} {z:β→List Nat} {m:α→β} {l:List α} (h:∀x∈l,∀g,lay (f x g)=g++z (m x)):lay (brIt f l)=[32,40]++(sepZ [44,32] z (l.map m)++[41]):=by
 show [32]++([40]++lay (rowIt f l []++[([],mk4 [41])]))=_
 rw [aq_,ym_ h]
 rfl
theorem fh_lay (hn:∀s∈ns,PN s) (h64:ns.length≤64) {x:Fx} (hx:x.Ok ns dgN PN (QN dgN)):lay (fhIt ns x)=[102,117,110,99,32]++(declZ (ns.map sb) ⟨sb x.name,x.level⟩++([32,40]++(sepZ [44,32] (declZ (ns.map sb)) (x.params.map deOf)++([41,32,40]++(sepZ [44,32] (lbZ (ns.map sb)) x.results++[41,32,123]))))):=by
 have hps:=br_lay (f:=deIt ns) (z:=declZ (ns.map sb)) (m:=deOf) (l:=x.params) fun d hd g=>de_lay hn h64 (hx.ps d hd) g
 have hrs:=br_lay (f:=lbIt ns) (z:=lbZ (ns.map sb)) (m:=id) (l:=x.results) fun m hm g=>lh_ hn h64 (hx.rs m hm) g
 rw [List.map_id] at hrs
 show [] ++ (tx "func" ++ ([32] ++ (x.name ++ lay (lbIt ns x.level [32] ++ (brIt (deIt ns) x.params ++ (brIt (lbIt ns) x.results ++ [([32],mk4 [123])])))))) = [102,117,110,99,32] ++ ((bl (sb x.name) ++ 32 :: lbZ (ns.map sb) x.level) ++ _)
 rw [aq_,aq_,aq_,hps,hrs,lh_ hn h64 hx.lv,e7_ (eb_ hx.nm),show tx "func" = [102,117,110,99] by decide]
 simp [lay,mk4]
theorem fx_lay (hn:∀s∈ns,PN s) (h64:ns.length≤64) {x:Fx} (hx:x.Ok ns dgN PN (QN dgN)) (ho:FnOk x.fn):linesT (fxLs dgN ns x)=fnZ (ns.map sb) (fnOf x.fn):=by
 have hal:∀y∈x.body.flatten++[(⟨9,[],[],x.es⟩:Sx)],y.Al PN (QN dgN):=Syn.mem_snoc (fun y hy=>by
  obtain ⟨xs,h1,h2⟩:=List.mem_flatten.1 hy
  exact (hx.bd xs h1).al y h2) ⟨⟨.ret _,fun h=>by simp at h⟩,fun _ h=>(by cases h),hx.es⟩
 have hnest:nest ((x.body.flatten++[(⟨9,[],[],x.es⟩:Sx)]).map Sx.kind) []=some []:=by
  have h1:=(Syn.endsM_nest _).1 ho.ends
  rw [←h1]
  congr 1
  show _=((x.body.flatten.map Sx.st++[(⟨9,[],[],x.es.map Ex.flat⟩:Syn.St)]).map Syn.St.kind)
  rw [nlh,nlh,List.map_map]
  rfl
 have hb:=qa_ _ [] [] hal hnest
 have hv := eh_ (f := kdIt ns "var" (ind 1)) (z := kdZ [32,32,118,97,114,32] (ns.map sb)) (m := deOf) (l := x.vars) fun d hd => us_ hn h64 (hx.vs d hd) "var" (ind 1) (by decide)
 unfold fxLs
 rw [go_,c3_,c3_,hv,fh_lay hn h64 hx]
 have hb':linesT (stLs dgN 1 (x.body.flatten++[(⟨9,[],[],x.es⟩:Sx)]))=bodyZ 1 ((x.body.flatten.map Sx.st++[(⟨9,[],[],x.es.map Ex.flat⟩:Syn.St)]).map stOf):=by
  refine Eq.trans hb ?_
  rw [nlh,nlh,List.map_map]
  rfl
 rw [hb']
 show _=[102,117,110,99,32]++(declZ (ns.map sb) ⟨sb x.name,x.level⟩++([32,40]++(sepZ [44,32] (declZ (ns.map sb)) (x.params.map deOf)++([41,32,40]++(sepZ [44,32] (lbZ (ns.map sb)) x.results++([41,32,123,10]++((x.vars.map deOf).flatMap (kdZ [32,32,118,97,114,32] (ns.map sb))++(bodyZ 1 ((x.body.flatten.map Sx.st++[(⟨9,[],[],x.es.map Ex.flat⟩:Syn.St)]).map stOf)++[125,10]))))))))
 simp [linesT,lay,mk4]
end
theorem so_nest {x:Sox} (hx:x.Ok dgN PN (QN dgN)):∀f∈x.funcs,FnOk f.fn:=fun f hf =>
 Syn.source_good (s8_ hx 0 (F:=(x.tk dgN).length+2) (by omega)) f.fn (List.mem_map_of_mem hf)
theorem uw_ {x:Sox} (hx:x.Ok dgN PN (QN dgN)):soZ (soOf x.so)=soText dgN x:=by
 have hn:=hx.ps
 have h64:=hx.few
 have hg := eh_ (f := kdIt x.principals "global" []) (z := kdZ [103,108,111,98,97,108,32] (x.principals.map sb)) (m := deOf) (l := x.globals) fun d hd => us_ hn h64 (hx.gs d hd) "global" [] (by decide)
 have hc := eh_ (f := kdIt x.principals "channel" []) (z := kdZ [99,104,97,110,110,101,108,32] (x.principals.map sb)) (m := deOf) (l := x.channels) fun d hd => us_ hn h64 (hx.cs d hd) "channel" [] (by decide)
 have har:=eh_ (f:=arIt dgN x.principals) (z:=arZ (x.principals.map sb)) (m:=arOf) (l:=x.arrays) fun a ha=>ar_lay hn h64 (hx.ars a ha).1 (hx.ars a ha).2.2
 have hf:∀l:List Fx,(∀f∈l,f∈x.funcs)→linesT (l.flatMap (fxLs dgN x.principals))=((l.map Fx.fn).map fnOf).flatMap (fnZ (x.principals.map sb)):=by
  intro l
  induction l with
  | nil=>exact fun _=>rfl
  | cons f l ih =>
   intro h
   have hm:=h f (List.mem_cons_self ..)
   rw [List.flatMap_cons,c3_,List.map_cons,List.map_cons,List.flatMap_cons,ih fun g hg=>h g (List.mem_cons_of_mem _ hg),fx_lay hn h64 (hx.fs f hm) (so_nest hx f hm)]
 unfold soText soLs
 rw [c3_,c3_,c3_,c3_,hg,hc,har,hf x.funcs fun _ h=>h]
 show (if (x.principals.map sb).length=0 then [] else [112,114,105,110,99,105,112,97,108,32]++(sepZ [32] bl (x.principals.map sb)++[59,10]))++_=_
 congr 1
 by_cases h0:x.principals=[]
 ·rw [if_pos (by rw [h0];rfl),if_pos h0];rfl
 ·rw [if_neg (by rw [nld];exact fun e=>h0 (List.eq_nil_of_length_eq_zero e)),if_neg h0,←pr_lay hn h0]
  unfold linesT;rw [List.flatMap_singleton]
end Go.Proofs.YtpcniebkabkikaaGreatDoor
namespace Go.Proofs.Syn
section
variable {T:Nat→Option K} {F N:Nat}
theorem hv_ (hN:∀i k,T i=some k→i<N) {i:Nat} {s:List Nat} (h:is T i s=true):i<N:=by
 unfold is at h
 split at h
 ·rename_i k hk
  exact hN _ _ hk
 ·cases h
def LnE (N:Nat) (p:Nat→R (List Tm)):Prop:=∀i l j,p i=.ok (l,j)→l.length+i≤j∧i<j∧j≤N
theorem ux_ (hN:∀i k,T i=some k→i<N) {p:Nat→R (List Tm)} (hp:LnE N p) (ms:List (List Nat × Nat)):∀(f:Nat) (l:List Tm) (i:Nat) (l':List Tm) (j:Nat),i≤N→loopF T p ms f l i=.ok (l',j)→l'.length+i≤l.length+j∧i≤j∧j≤N
 | 0,_,_,_,_,_,h=>by cases h
 | f+1,l,i,l',j,hi,h=>by
  rw [loopF] at h
  split at h
  ·injection h with h;injection h with h1 h2
   subst h1;subst h2
   exact ⟨Nat.le_refl _,Nat.le_refl _,hi⟩
  ·obtain ⟨r,i2,h1,h2⟩:=R.on_ok h
   obtain ⟨a,b,c⟩:=hp _ _ _ h1
   obtain ⟨d,e,g⟩:=ux_ hN hp ms f _ i2 l' j c h2
   rw [nla,nla,nlc] at d
   omega
theorem hw_ (hN:∀i k,T i=some k→i<N) {u:Nat→R (List Tm)} (hu:LnE N u):∀k,LnE N (tower T F u k)
 | 0=>fun i l j h=>hu i l j h
 | k+1=>fun i l j h=>by
  rw [tower] at h
  obtain ⟨l1,i1,h1,h2⟩:=R.on_ok h
  obtain ⟨a,b,c⟩:=hw_ hN hu k _ _ _ h1
  obtain ⟨d,e,g⟩:=ux_ hN (hw_ hN hu k) _ _ _ _ _ _ c h2
  omega
theorem qb_:∀(f i:Nat) (l:List Nat) (j:Nat),unOps T f i=.ok (l,j)→l.length+i≤j
 | 0,_,_,_,h=>by cases h
 | f+1,i,l,j,h=>by
  rw [unOps] at h
  split at h
  ·injection h with h;injection h with h1 h2
   subst h1;subst h2
   simp
  ·obtain ⟨r,i2,h1,h2⟩:=R.on_ok h
   injection h2 with h2;injection h2 with h3 h4
   subst h3;subst h4
   have:=qb_ f _ _ _ h1
   rw [nlk];omega
theorem bs_ (hN:∀i k,T i=some k→i<N) {i j:Nat} {s:List Nat} {u:Unit} (h:want T i s=.ok (u,j)):i<N∧j=i+1:=⟨hv_ hN (want_ok h).1,(want_ok h).2⟩
theorem ey_ (hN:∀i k,T i=some k→i<N) {i j:Nat} {s:List Nat} (h:name T i=.ok (s,j)):i<N∧j=i+1:=by
 obtain ⟨_,h2,k,hk,_⟩:=name_ok h
 exact ⟨hN _ _ hk,h2⟩
theorem qc_ (hN:∀i k,T i=some k→i<N) {e:Option (Nat→R (List Tm))} (he:∀p,e=some p→LnE N p):LnE N (unary T F e):=by
 intro i l j h
 unfold unary at h
 obtain ⟨ops,i1,h1,h⟩:=R.on_ok h
 have ho:=qb_ _ _ _ _ h1
 obtain ⟨l2,i2,h2,h⟩:=R.on_ok h
 injection h with h;injection h with h3 h4
 subst h3;subst h4
 have key:l2.length+i1≤i2∧i1<i2∧i2≤N:=by
  split at h2
  ·cases h2
  ·rename_i k hk
   have hk:=hN _ _ hk
   split at h2
   ·injection h2 with h2;injection h2 with h3 h4
    subst h3;subst h4
    rw [nlc];omega
   ·split at h2
    ·split at h2
     ·cases h2
     ·obtain ⟨l3,i3,h3,h2⟩:=R.on_ok h2
      obtain ⟨_,i4,h4,h2⟩:=R.on_ok h2
      injection h2 with h2;injection h2 with h5 h6
      subst h5;subst h6
      have a:=he _ rfl _ _ _ h3
      have b:=bs_ hN h4
      omega
    ·obtain ⟨s,i3,h3,h2⟩:=R.on_ok h2
     have hs:=ey_ hN h3
     split at h2
     ·split at h2
      ·cases h2
      ·obtain ⟨l4,i4,h4,h2⟩:=R.on_ok h2
       obtain ⟨_,i5,h5,h2⟩:=R.on_ok h2
       injection h2 with h2;injection h2 with h6 h7
       subst h6;subst h7
       have a:=he _ rfl _ _ _ h4
       have b:=bs_ hN h5
       rw [nla,nlc];omega
     ·injection h2 with h2;injection h2 with h6 h7
      subst h6;subst h7
      rw [nlc];omega
 rw [nla,nld,List.length_reverse]
 omega
theorem ei_ (hN:∀i k,T i=some k→i<N):∀d,LnE N (exprD T F d)
 | 0=>hw_ hN (qc_ hN (fun p h=>by cases h)) 6
 | d+1=>hw_ hN (qc_ hN (fun p h=>by cases h;exact ei_ hN d)) 6
def LnS (N:Nat) (p:Nat→R (List St)):Prop:=∀i l j,p i=.ok (l,j)→(∀s∈l,∀e∈s.exprs,e.length≤N)∧l.length+i≤j∧i<j∧j≤N
theorem uy_ (hN:∀i k,T i=some k→i<N) {e:Nat→R (List Tm)} (he:LnE N e) (fin:List Nat):∀(f:Nat) (l:List (List Tm)) (i:Nat) (l':List (List Tm)) (j:Nat),(∀x∈l,x.length≤N)→listF T e fin f l i=.ok (l',j)→(∀x∈l',x.length≤N)∧i<j∧j≤N
 | 0,_,_,_,_,_,h=>by cases h
 | f+1,l,i,l',j,hl,h=>by
  rw [listF] at h
  obtain ⟨x,i1,h1,h⟩:=R.on_ok h
  have hx:=he _ _ _ h1
  split at h
  ·rename_i hi
   have:=hv_ hN hi
   injection h with h;injection h with h2 h3
   subst h2;subst h3
   exact ⟨mem_snoc hl (by omega),by omega⟩
  ·split at h
   ·obtain ⟨a,b⟩:=uy_ hN he fin f _ _ _ _ (mem_snoc hl (by omega)) h
    exact ⟨a,by omega⟩
   ·cases h
theorem m1_ (hN:∀i k,T i=some k→i<N) {fin:List Nat} {i j:Nat} {l:List (List Tm)} (h:list T F fin i=.ok (l,j)):(∀x∈l,x.length≤N)∧i<j∧j≤N:=by
 unfold list at h
 split at h
 ·rename_i hi
  have:=hv_ hN hi
  injection h with h;injection h with h2 h3
  subst h2;subst h3
  exact ⟨fun _ hx=>(by cases hx),by omega⟩
 ·exact uy_ hN (ei_ hN 12) _ _ _ _ _ _ (fun _ hx=>(by cases hx)) h
theorem uz_ (hN:∀i k,T i=some k→i<N) {ts:List (List Nat)} {s:List Nat} {i j:Nat} {l:List St} (h:call T F ts s i=.ok (l,j)):(∀s∈l,∀e∈s.exprs,e.length≤N)∧l.length+i≤j∧i<j∧j≤N:=by
 unfold call at h
 obtain ⟨_,i1,h1,h⟩:=R.on_ok h
 obtain ⟨es,i2,h2,h⟩:=R.on_ok h
 obtain ⟨_,i3,h3,h⟩:=R.on_ok h
 injection h with h;injection h with h4 h5
 subst h4;subst h5
 have a:=bs_ hN h1
 have b:=m1_ hN h2
 have c:=bs_ hN h3
 exact ⟨fun x hx=>by rw [List.mem_singleton.1 hx];exact b.1,by rw [nlc];omega⟩
theorem yo_ (hN:∀i k,T i=some k→i<N):LnS N (plain T F):=by
 intro i l j h
 unfold plain at h
 obtain ⟨s,i1,h1,h⟩:=R.on_ok h
 have n1:=ey_ hN h1
 split at h
 ·obtain ⟨a,i2,h2,h⟩:=R.on_ok h
  obtain ⟨_,i3,h3,h⟩:=R.on_ok h
  obtain ⟨_,i4,h4,h⟩:=R.on_ok h
  obtain ⟨b,i5,h5,h⟩:=R.on_ok h
  obtain ⟨_,i6,h6,h⟩:=R.on_ok h
  injection h with h;injection h with h7 h8
  subst h7;subst h8
  have g2:=ei_ hN 12 _ _ _ h2
  have g3:=bs_ hN h3
  have g4:=bs_ hN h4
  have g5:=ei_ hN 12 _ _ _ h5
  have g6:=bs_ hN h6
  refine ⟨fun x hx=>?_,by rw [nlc];omega⟩
  rw [List.mem_singleton.1 hx]
  intro e he
  rcases (show e=a∨e=b by simpa using he) with rfl|rfl <;> omega
 ·split at h
  ·have:=uz_ hN h
   exact ⟨this.1,by omega⟩
  ·obtain ⟨ts,i2,h2,h⟩:=R.on_ok h
   obtain ⟨_,i3,h3,h⟩:=R.on_ok h
   have g2:=em_ _ _ _ _ _ h2
   have g3:=bs_ hN h3
   split at h
   ·obtain ⟨e,i4,h4,h⟩:=R.on_ok h
    obtain ⟨_,i5,h5,h⟩:=R.on_ok h
    injection h with h;injection h with h7 h8
    subst h7;subst h8
    have g4:=ei_ hN 12 _ _ _ h4
    have g5:=bs_ hN h5
    refine ⟨fun x hx=>?_,by rw [nlc];omega⟩
    rw [List.mem_singleton.1 hx]
    intro y hy
    rw [List.mem_singleton.1 hy]
    omega
   ·obtain ⟨s,i4,h4,h⟩:=R.on_ok h
    have g4:=ey_ hN h4
    have:=uz_ hN h
    exact ⟨this.1,by omega⟩
theorem li_ (hN:∀i k,T i=some k→i<N) {s:Nat→R (List St)} (hs:LnS N s) (fin:List Nat):∀(f:Nat) (l:List St) (i:Nat) (l':List St) (j:Nat),(∀x∈l,∀e∈x.exprs,e.length≤N)→stmtsF T s fin f l i=.ok (l',j)→(∀x∈l',∀e∈x.exprs,e.length≤N)∧l'.length+i+1≤l.length+j∧i<j∧j≤N
 | 0,_,_,_,_,_,h=>by cases h
 | f+1,l,i,l',j,hl,h=>by
  rw [stmtsF] at h
  split at h
  ·rename_i hi
   have:=hv_ hN hi
   injection h with h;injection h with h2 h3
   subst h2;subst h3
   exact ⟨hl,by omega⟩
  ·obtain ⟨x,i1,h1,h⟩:=R.on_ok h
   obtain ⟨a,b,c⟩:=hs _ _ _ h1
   obtain ⟨d,e,g⟩:=li_ hN hs fin f _ _ _ _ (vj_ hl a) h
   rw [nla] at e
   exact ⟨d,by omega⟩
theorem lj_ (hN:∀i k,T i=some k→i<N) {s:Option (Nat→R (List St))} (hs:∀p,s=some p→LnS N p) {i:Nat} {l:List St} {j:Nat} (h:block T F s i=.ok (l,j)):(∀s∈l,∀e∈s.exprs,e.length≤N)∧l.length+i+2≤j∧j≤N:=by
 unfold block at h
 split at h
 ·split at h <;> cases h
 ·obtain ⟨_,i1,h1,h⟩:=R.on_ok h
  have g:=bs_ hN h1
  obtain ⟨a,b,c⟩:=li_ hN (hs _ rfl) _ _ [] _ _ _ (fun _ hx=>(by cases hx)) h
  rw [nlg] at b
  exact ⟨a,by omega⟩
theorem m2_ (hN:∀i k,T i=some k→i<N) {s:Option (Nat→R (List St))} (hs:∀p,s=some p→LnS N p):LnS N (stmtOf T F s):=by
 intro i l j h
 have h1e:∀(k:Nat) (e:List Tm),e.length≤N→∀y∈(⟨k,[],[],[e]⟩:St).exprs,y.length≤N:=fun k e he y hy=>by
  rw [List.mem_singleton.1 hy];exact he
 unfold stmtOf at h
 split at h
 ·obtain ⟨e,i1,h1,h⟩:=R.on_ok h
  obtain ⟨a,i2,h2,h⟩:=R.on_ok h
  have g1:=ei_ hN 12 _ _ _ h1
  have g2:=lj_ hN hs h2
  split at h
  ·obtain ⟨b,i3,h3,h⟩:=R.on_ok h
   have g3:=lj_ hN hs h3
   injection h with h;injection h with h4 h5
   subst h4;subst h5
   refine ⟨?_,?_,by omega⟩
   ·intro x hx
    simp only [List.cons_append,List.mem_cons,List.mem_append,nlb,List.not_mem_nil,or_false] at hx
    rcases hx with rfl|hx|rfl|hx|rfl
    ·exact h1e 5 e (by omega)
    ·exact g2.1 x hx
    ·exact fun y hy=>by cases hy
    ·exact g3.1 x hx
    ·exact fun y hy=>by cases hy
   ·simp only [nla,nlk,nlg];omega
  ·injection h with h;injection h with h4 h5
   subst h4;subst h5
   refine ⟨?_,?_,by omega⟩
   ·intro x hx
    simp only [List.cons_append,List.mem_cons,List.mem_append,List.not_mem_nil,or_false] at hx
    rcases hx with rfl|hx|rfl
    ·exact h1e 5 e (by omega)
    ·exact g2.1 x hx
    ·exact fun y hy=>by cases hy
   ·simp only [nla,nlk,nlg];omega
 ·split at h
  ·obtain ⟨e,i1,h1,h⟩:=R.on_ok h
   obtain ⟨a,i2,h2,h⟩:=R.on_ok h
   have g1:=ei_ hN 12 _ _ _ h1
   have g2:=lj_ hN hs h2
   injection h with h;injection h with h4 h5
   subst h4;subst h5
   refine ⟨?_,?_,by omega⟩
   ·intro x hx
    simp only [List.cons_append,List.mem_cons,List.mem_append,List.not_mem_nil,or_false] at hx
    rcases hx with rfl|hx|rfl
    ·exact h1e 7 e (by omega)
    ·exact g2.1 x hx
    ·exact fun y hy=>by cases hy
   ·simp only [nla,nlk,nlg];omega
  ·split at h
   ·obtain ⟨c,i1,h1,h⟩:=R.on_ok h
    obtain ⟨e,i2,h2,h⟩:=R.on_ok h
    obtain ⟨_,i3,h3,h⟩:=R.on_ok h
    injection h with h;injection h with h4 h5
    subst h4;subst h5
    have g1:=ey_ hN h1
    have g2:=ei_ hN 12 _ _ _ h2
    have g3:=bs_ hN h3
    refine ⟨fun x hx=>?_,by rw [nlc];omega⟩
    rw [List.mem_singleton.1 hx]
    intro y hy
    rw [List.mem_singleton.1 hy]
    omega
   ·exact yo_ hN _ _ _ h
theorem u0_ (hN:∀i k,T i=some k→i<N):∀d,LnS N (stmtD T F d)
 | 0=>m2_ hN (fun p h=>by cases h)
 | d+1=>m2_ hN (fun p h=>by cases h;exact u0_ hN d)
def FnLe (N:Nat) (g:Fn):Prop:=g.body.length≤N+1∧∀s∈g.body,∀e∈s.exprs,e.length≤N
theorem func_ln (hN:∀i k,T i=some k→i<N) {ns:List (List Nat)} {i j:Nat} {g:Fn} (h:func T F ns i=.ok (g,j)):FnLe N g:=by
 unfold func at h
 obtain ⟨s,i1,h1,h⟩:=R.on_ok h
 obtain ⟨l,i2,h2,h⟩:=R.on_ok h
 obtain ⟨ps,i3,h3,h⟩:=R.on_ok h
 obtain ⟨rs,i4,h4,h⟩:=R.on_ok h
 obtain ⟨_,i5,h5,h⟩:=R.on_ok h
 obtain ⟨vs,i6,h6,h⟩:=R.on_ok h
 obtain ⟨b,i7,h7,h⟩:=R.on_ok h
 obtain ⟨es,i8,h8,h⟩:=R.on_ok h
 obtain ⟨_,i9,h9,h⟩:=R.on_ok h
 injection h with h;injection h with h10 h11
 subst h10
 have g7:=li_ hN (u0_ hN 12) _ _ [] _ _ _ (fun _ hx=>(by cases hx)) h7
 have g8:=m1_ hN h8
 rw [nlg] at g7
 refine ⟨?_,mem_snoc g7.1 g8.1⟩
 show (b++[_]).length≤N+1
 rw [nla,nlc];omega
theorem f3_ (hN:∀i k,T i=some k→i<N) {ns:List (List Nat)}:∀(f:Nat) (s:So) (i:Nat) (s':So) (j:Nat),(∀g∈s.funcs,FnLe N g)→declsF T F ns f s i=.ok (s',j)→∀g∈s'.funcs,FnLe N g
 | 0,_,_,_,_,_,h=>by cases h
 | f+1,s,i,s',j,hs,h=>by
  rw [declsF] at h
  split at h
  ·injection h with h;injection h with h1 h2
   subst h1;exact hs
  ·split at h
   ·obtain ⟨d,i1,h1,h⟩:=R.on_ok h
    obtain ⟨_,i2,h2,h⟩:=R.on_ok h
    exact f3_ hN f { s with globals:=s.globals++[d] } i2 s' j hs h
   ·split at h
    ·obtain ⟨d,i1,h1,h⟩:=R.on_ok h
     obtain ⟨_,i2,h2,h⟩:=R.on_ok h
     exact f3_ hN f { s with channels:=s.channels++[d] } i2 s' j hs h
    ·split at h
     ·obtain ⟨n,i1,h1,h⟩:=R.on_ok h
      obtain ⟨v,i2,h2,h⟩:=R.on_ok h
      obtain ⟨l,i3,h3,h⟩:=R.on_ok h
      obtain ⟨_,i4,h4,h⟩:=R.on_ok h
      exact f3_ hN f { s with arrays:=s.arrays++[⟨n,v,l⟩] } i4 s' j hs h
     ·split at h
      ·obtain ⟨g,i1,h1,h⟩:=R.on_ok h
       exact f3_ hN f { s with funcs:=s.funcs++[g] } i1 s' j (mem_snoc hs (func_ln hN h1)) h
      ·cases h
theorem source_ln (hN:∀i k,T i=some k→i<N) {s:So} {j:Nat} (h:source T F=.ok (s,j)):∀g∈s.funcs,FnLe N g:=by
 unfold source at h
 obtain ⟨ns,i1,h1,h⟩:=R.on_ok h
 exact f3_ hN _ _ _ _ _ (fun _ hx=>(by cases hx)) h
end
def Up {α:Type} (r r':R α):Prop:=r'=r∨∃j,r=.error (99,j)
theorem Up.refl {α:Type} (r:R α):Up r r:=.inl rfl
theorem Up.on {α β:Type} {r r':R α} {f f':α→Nat→R β} (h:Up r r') (hf:∀x j,Up (f x j) (f' x j)):Up (r.on f) (r'.on f'):=by
 rcases h with rfl|⟨j,rfl⟩
 ·match r' with
  | .error e=>exact Up.refl _
  | .ok (x,j)=>exact hf x j
 ·exact .inr ⟨j,rfl⟩
theorem Up.sw {α:Type} {c:Prop} [Decidable c] {a a' b b':R α} (ha:c→Up a a') (hb:¬c→Up b b'):Up (if c then a else b) (if c then a' else b'):=by
 by_cases h:c
 ·rw [if_pos h,if_pos h];exact ha h
 ·rw [if_neg h,if_neg h];exact hb h
section
variable {T:Nat→Option K} {F G:Nat}
theorem m3_ (ns:List (List Nat)):∀(f g:Nat),f≤g→∀(l i:Nat),Up (labelF T ns f l i) (labelF T ns g l i)
 | 0,_,_,_,i=>.inr ⟨i,by rw [labelF]⟩
 | f+1,0,h,_,_=>absurd h (by omega)
 | f+1,g+1,h,l,i=>by
  rw [labelF,labelF]
  cases T i with
  | none=>exact Up.refl _
  | some k=>exact Up.sw (fun _=>Up.sw (fun _=>m3_ ns f g (by omega) _ _) (fun _=>Up.refl _)) (fun _=>Up.refl _)
theorem hx_ (h:F≤G) (ns:List (List Nat)) (i:Nat):Up (label T F ns i) (label T G ns i) :=
 (Up.refl _).on fun _ _=>(m3_ ns F G h _ _).on fun _ _=>Up.refl _
theorem lk_ (h:F≤G) (ns:List (List Nat)) (i:Nat):Up (decl T F ns i) (decl T G ns i) :=
 (Up.refl _).on fun _ _=>(hx_ h ns _).on fun _ _=>Up.refl _
theorem u1_ {p p':Nat→R (List Tm)} (hp:∀i,Up (p i) (p' i)) (ms:List (List Nat × Nat)):∀(f g:Nat),f≤g→∀(l:List Tm) (i:Nat),Up (loopF T p ms f l i) (loopF T p' ms g l i)
 | 0,_,_,_,i=>.inr ⟨i,by rw [loopF]⟩
 | f+1,0,h,_,_=>absurd h (by omega)
 | f+1,g+1,h,l,i=>by
  rw [loopF,loopF]
  exact Up.sw (fun _=>Up.refl _) (fun _=>(hp _).on fun _ _=>u1_ hp ms f g (by omega) _ _)
theorem hy_ (h:F≤G) {u u':Nat→R (List Tm)} (hu:∀i,Up (u i) (u' i)):∀k i,Up (tower T F u k i) (tower T G u' k i)
 | 0,i=>hu i
 | k+1,i=>by
  rw [tower,tower]
  exact (hy_ h hu k i).on fun _ _=>u1_ (hy_ h hu k) _ F G h _ _
theorem qd_:∀(f g:Nat),f≤g→∀i,Up (unOps T f i) (unOps T g i)
 | 0,_,_,i=>.inr ⟨i,by rw [unOps]⟩
 | f+1,0,h,_=>absurd h (by omega)
 | f+1,g+1,h,i=>by
  rw [unOps,unOps]
  exact Up.sw (fun _=>Up.refl _) (fun _=>(qd_ f g (by omega) _).on fun _ _=>Up.refl _)
def BothU {α:Type}:Option (Nat→R α)→Option (Nat→R α)→Prop
 | none,none=>True
 | some p,some p'=>∀i,Up (p i) (p' i)
 | _,_=>False
theorem qe_ (h:F≤G) {e e':Option (Nat→R (List Tm))} (he:BothU e e') (i:Nat):Up (unary T F e i) (unary T G e' i):=by
 unfold unary
 refine (qd_ F G h i).on fun ops i=>Up.on ?_ fun _ _=>Up.refl _
 cases T i with
 | none=>exact Up.refl _
 | some k =>
  refine Up.sw (fun _=>Up.refl _) (fun _=>Up.sw (fun _=>?_) (fun _=>(Up.refl _).on fun s i=>Up.sw (fun _=>?_) (fun _=>Up.refl _)))
  ·match e,e',he with
   | none,none,_=>exact Up.refl _
   | some p,some p',he=>exact (he _).on fun _ _=>Up.refl _
  ·match e,e',he with
   | none,none,_=>exact Up.refl _
   | some p,some p',he=>exact (he _).on fun _ _=>Up.refl _
theorem ej_ (h:F≤G):∀d i,Up (exprD T F d i) (exprD T G d i)
 | 0=>fun i=>by rw [exprD,exprD];exact hy_ h (fun i=>qe_ h (e:=none) (e':=none) trivial i) 6 i
 | d+1=>fun i=>by rw [exprD,exprD];exact hy_ h (fun i=>qe_ h (e:=some _) (e':=some _) (ej_ h d) i) 6 i
theorem qf_ {e e':Nat→R (List Tm)} (he:∀i,Up (e i) (e' i)) (fin:List Nat):∀(f g:Nat),f≤g→∀(l:List (List Tm)) (i:Nat),Up (listF T e fin f l i) (listF T e' fin g l i)
 | 0,_,_,_,i=>.inr ⟨i,by rw [listF]⟩
 | f+1,0,h,_,_=>absurd h (by omega)
 | f+1,g+1,h,l,i=>by
  rw [listF,listF]
  exact (he i).on fun _ _=>Up.sw (fun _=>Up.refl _) (fun _=>Up.sw (fun _=>qf_ he fin f g (by omega) _ _) (fun _=>Up.refl _))
theorem u2_ (h:F≤G) (fin:List Nat) (i:Nat):Up (list T F fin i) (list T G fin i) :=
 Up.sw (fun _=>Up.refl _) (fun _=>qf_ (ej_ h 12) fin F G h _ _)
theorem iy_:∀(f g:Nat),f≤g→∀(l:List (List Nat)) (i:Nat),Up (targetsF T f l i) (targetsF T g l i)
 | 0,_,_,_,i=>.inr ⟨i,by rw [targetsF]⟩
 | f+1,0,h,_,_=>absurd h (by omega)
 | f+1,g+1,h,l,i=>by
  rw [targetsF,targetsF]
  exact Up.sw (fun _=>(Up.refl _).on fun _ _=>iy_ f g (by omega) _ _) (fun _=>Up.refl _)
theorem iz_ {s s':Nat→R (List St)} (hs:∀i,Up (s i) (s' i)) (fin:List Nat):∀(f g:Nat),f≤g→∀(l:List St) (i:Nat),Up (stmtsF T s fin f l i) (stmtsF T s' fin g l i)
 | 0,_,_,_,i=>.inr ⟨i,by rw [stmtsF]⟩
 | f+1,0,h,_,_=>absurd h (by omega)
 | f+1,g+1,h,l,i=>by
  rw [stmtsF,stmtsF]
  exact Up.sw (fun _=>Up.refl _) (fun _=>(hs i).on fun _ _=>iz_ hs fin f g (by omega) _ _)
theorem ll_ (h:F≤G) {s s':Option (Nat→R (List St))} (hs:BothU s s') (i:Nat):Up (block T F s i) (block T G s' i):=by
 match s,s',hs with
 | none,none,_=>exact Up.refl _
 | some p,some p',hs=>exact (Up.refl _).on fun _ _=>iz_ hs _ F G h _ _
theorem u3_ (h:F≤G) (ts:List (List Nat)) (s:List Nat) (i:Nat):Up (call T F ts s i) (call T G ts s i) :=
 (Up.refl _).on fun _ _=>(u2_ h _ _).on fun _ _=>Up.refl _
theorem yp_ (h:F≤G) (i:Nat):Up (plain T F i) (plain T G i):=by
 unfold plain
 refine (Up.refl _).on fun s i=>Up.sw (fun _=>?_) (fun _=>Up.sw (fun _=>u3_ h _ _ _) (fun _=>?_))
 ·exact (ej_ h 12 _).on fun _ _=>(Up.refl _).on fun _ _=>(Up.refl _).on fun _ _=>(ej_ h 12 _).on fun _ _=>Up.refl _
 ·exact (iy_ F G h _ _).on fun _ _=>(Up.refl _).on fun _ _=>Up.sw (fun _=>(ej_ h 12 _).on fun _ _=>Up.refl _) (fun _=>(Up.refl _).on fun _ _=>u3_ h _ _ _)
theorem m4_ (h:F≤G) {s s':Option (Nat→R (List St))} (hs:BothU s s') (i:Nat):Up (stmtOf T F s i) (stmtOf T G s' i):=by
 unfold stmtOf
 refine Up.sw (fun _=>?_) (fun _=>Up.sw (fun _=>?_) (fun _=>Up.sw (fun _=>?_) (fun _=>yp_ h i)))
 ·exact (ej_ h 12 _).on fun _ _=>(ll_ h hs _).on fun _ _=>Up.sw (fun _=>(ll_ h hs _).on fun _ _=>Up.refl _) (fun _=>Up.refl _)
 ·exact (ej_ h 12 _).on fun _ _=>(ll_ h hs _).on fun _ _=>Up.refl _
 ·exact (Up.refl _).on fun _ _=>(ej_ h 12 _).on fun _ _=>Up.refl _
theorem u4_ (h:F≤G):∀d i,Up (stmtD T F d i) (stmtD T G d i)
 | 0=>fun i=>by rw [stmtD,stmtD];exact m4_ h (s:=none) (s':=none) trivial i
 | d+1=>fun i=>by rw [stmtD,stmtD];exact m4_ h (s:=some _) (s':=some _) (u4_ h d) i
theorem u5_ {α:Type} {p p':Nat→R α} (hp:∀i,Up (p i) (p' i)):∀(f g:Nat),f≤g→∀(l:List α) (i:Nat),Up (rowF T p f l i) (rowF T p' g l i)
 | 0,_,_,_,i=>.inr ⟨i,by rw [rowF]⟩
 | f+1,0,h,_,_=>absurd h (by omega)
 | f+1,g+1,h,l,i=>by
  rw [rowF,rowF]
  exact (hp i).on fun _ _=>Up.sw (fun _=>Up.refl _) (fun _=>Up.sw (fun _=>u5_ hp f g (by omega) _ _) (fun _=>Up.refl _))
theorem row_up {α:Type} (h:F≤G) {p p':Nat→R α} (hp:∀i,Up (p i) (p' i)) (i:Nat):Up (row T F p i) (row T G p' i) :=
 (Up.refl _).on fun _ _=>Up.sw (fun _=>Up.refl _) (fun _=>u5_ hp F G h _ _)
theorem qg_ (hF:F≤G) (ns:List (List Nat)):∀(f g:Nat),f≤g→∀(l:List De) (i:Nat),Up (varsF T F ns f l i) (varsF T G ns g l i)
 | 0,_,_,_,i=>.inr ⟨i,by rw [varsF]⟩
 | f+1,0,h,_,_=>absurd h (by omega)
 | f+1,g+1,h,l,i=>by
  rw [varsF,varsF]
  exact Up.sw (fun _=>(lk_ hF ns _).on fun _ _=>(Up.refl _).on fun _ _=>qg_ hF ns f g (by omega) _ _) (fun _=>Up.refl _)
theorem func_up (h:F≤G) (ns:List (List Nat)) (i:Nat):Up (func T F ns i) (func T G ns i) :=
 (Up.refl _).on fun _ _=>(hx_ h ns _).on fun _ _=>(row_up h (lk_ h ns) _).on fun _ _=>(row_up h (hx_ h ns) _).on fun _ _=>(Up.refl _).on fun _ _=>(qg_ h ns F G h _ _).on fun _ _ =>
  (iz_ (u4_ h 12) _ F G h _ _).on fun _ _=>(u2_ h _ _).on fun _ _=>Up.refl _
theorem m5_:∀(f g:Nat),f≤g→∀(l:List (List Nat)) (i:Nat),Up (namesF T f l i) (namesF T g l i)
 | 0,_,_,_,i=>.inr ⟨i,by rw [namesF]⟩
 | f+1,0,h,_,_=>absurd h (by omega)
 | f+1,g+1,h,l,i=>by
  rw [namesF,namesF]
  exact (Up.refl _).on fun _ _=>Up.sw (fun _=>Up.refl _) (fun _=>Up.sw (fun _=>m5_ f g (by omega) _ _) (fun _=>Up.refl _))
theorem e6_ (hF:F≤G):∀(f g:Nat),f≤g→∀(l:List (List Nat)) (i:Nat),Up (principalsF T F f l i) (principalsF T G g l i)
 | 0,_,_,_,i=>.inr ⟨i,by rw [principalsF]⟩
 | f+1,0,h,_,_=>absurd h (by omega)
 | f+1,g+1,h,l,i=>by
  rw [principalsF,principalsF]
  exact Up.sw (fun _=>(m5_ F G hF _ _).on fun _ _=>(Up.refl _).on fun _ _=>e6_ hF f g (by omega) _ _) (fun _=>Up.refl _)
theorem ek_ (hF:F≤G) (ns:List (List Nat)):∀(f g:Nat),f≤g→∀(s:So) (i:Nat),Up (declsF T F ns f s i) (declsF T G ns g s i)
 | 0,_,_,_,i=>.inr ⟨i,by rw [declsF]⟩
 | f+1,0,h,_,_=>absurd h (by omega)
 | f+1,g+1,h,s,i=>by
  rw [declsF,declsF]
  cases T i with
  | none=>exact Up.refl _
  | some k =>
   refine Up.sw (fun _=>?_) (fun _=>Up.sw (fun _=>?_) (fun _=>Up.sw (fun _=>?_) (fun _=>Up.sw (fun _=>?_) (fun _=>Up.refl _))))
   ·exact (lk_ hF ns _).on fun _ _=>(Up.refl _).on fun _ _=>ek_ hF ns f g (by omega) _ _
   ·exact (lk_ hF ns _).on fun _ _=>(Up.refl _).on fun _ _=>ek_ hF ns f g (by omega) _ _
   ·exact (Up.refl _).on fun _ _=>(Up.refl _).on fun _ _=>(hx_ hF ns _).on fun _ _=>(Up.refl _).on fun _ _=>ek_ hF ns f g (by omega) _ _
   ·exact (func_up hF ns _).on fun _ _=>ek_ hF ns f g (by omega) _ _
theorem u6_ (h:F≤G):Up (source T F) (source T G):=(e6_ h F G h _ _).on fun _ _=>ek_ h _ F G h _ _
theorem source_rounds {n:Nat} (hN:∀i,n≤i→T i=none) {F G:Nat} (hF:n<F) (hG:n<G):source T F=source T G:=by
 have key:∀{F G:Nat},n<F→F≤G→source T F=source T G:=fun {F G} hF h=>by
  rcases u6_ (T:=T) h with e|⟨j,e⟩
  ·exact e.symm
  ·have:=source_fit hN hF
   rw [e] at this
   obtain ⟨h1,_⟩:=this
   rcases h1 with h1|h1|h1|h1 <;> cases h1
 rcases Nat.le_total F G with h|h
 ·exact key hF h
 ·exact (key hG h).symm
end
end Go.Proofs.Syn
namespace Go.Proofs.YtpcniebkabkikaaGreatDoor
open Go
open Go.Proofs.Syn (K Ex Tm Sx Ln Sh De Ar Fx Sox FnLe)
theorem lm_:∀(N:Nat) (l:List Nat),l.length≤N→(∀c∈l,c<256)→∀a,∀t∈(scanL l a).1,∀c∈t.text,c<256
 | _,[],_,_,a,t,ht=>by rw [scanL] at ht;exact absurd ht (by simp)
 | 0,c::r,h,_,_,_,_=>absurd h (by simp)
 | N+1,c::r,h,hl,a,t,ht=>by
  have hr:r.length≤N:=by simpa using h
  rw [scanL] at ht
  split at ht
  ·exact lm_ N r hr (fun d hd=>hl d (List.mem_cons_of_mem _ hd)) _ t ht
  ·split at ht
   ·rename_i h35
    subst h35
    exact lm_ N _ (by have:=ch_ r;rw [nlk] at this;omega) (fun d hd=>hl d ((List.dropWhile_sublist _).subset hd)) _ t ht
   ·split at ht
    ·exact absurd ht (by simp)
    ·rename_i h0
     split at ht
     ·exact absurd ht (by simp)
     ·split at ht
      ·exact absurd ht (by simp)
      ·rcases List.mem_cons.1 ht with rfl|ht
       ·exact fun d hd=>hl d (List.mem_of_mem_take hd)
       ·exact lm_ N _ (by have:=h9_ c r _ h0;rw [nlk] at this;omega) (fun d hd=>hl d (List.mem_of_mem_drop hd)) _ t ht
theorem bl_byte (s:ByteArray):∀c∈bl s,c<256:=by
 intro c hc
 unfold bl at hc
 obtain ⟨u,_,rfl⟩:=List.mem_map.1 hc
 exact u.toNat_lt
theorem u7_ (s:ByteArray):(itsOf s).map It.key=allItems s:=its_key fun x hx=>e7_ (by
 unfold allItems at hx
 split at hx
 ·rw [List.mem_singleton.1 hx];exact fun c hc=>by cases hc
 ·unfold itemsOf at hx
  rcases List.mem_append.1 hx with hx|hx
  ·obtain ⟨t,ht,rfl⟩:=List.mem_map.1 hx
   exact lm_ _ (bl s) (Nat.le_refl _) (bl_byte s) 0 t ht
  ·split at hx
   ·cases hx
   ·rw [List.mem_singleton.1 hx];exact fun c hc=>by cases hc)
theorem src_ws {s:ByteArray} {so:Syn.So} (h:srcOf s=.ok so):Ws (itsOf s)∧∃j,Syn.source (Tk (itsOf s)) ((itsOf s).length+1)=.ok (so,j):=by
 unfold srcOf readOf at h
 cases hf:faultOf s with
 | some q=>rw [hf] at h;cases h
 | none =>
  rw [hf] at h
  have h0:∀x∈itsOf s,x.e=0:=by
   unfold faultOf at hf
   rw [Option.map_eq_none_iff,List.find?_eq_none] at hf
   intro x hx
   have:=hf x hx
   simpa using this
  refine ⟨ws_of (u7_ s) h0,?_⟩
  cases hr:Syn.source (Tk (itsOf s)) ((itsOf s).length+1) with
  | error q=>rw [hr] at h;cases h
  | ok q =>
   rw [hr] at h
   simp only [Except.ok.injEq] at h
   exact ⟨q.2,by rw [←h]⟩
theorem tk_ok {ys:List It} (hw:Ws ys):Syn.TkOk PN (QN dgN) (Tk ys):=by
 intro i k h
 unfold Tk at h
 cases hy:ys[i]? with
 | none=>rw [hy] at h;cases h
 | some y =>
  rw [hy] at h
  obtain rfl:keyOf y=k:=by simpa using h
  have hg:=hw.1 y (List.mem_of_getElem? hy)
  have hv:=hg.val
  have hn:=hg.num
  refine ⟨fun e=>?_,fun e=>?_⟩
  ·have e:y.k=1:=e
   rw [if_neg (by omega)] at hv
   rw [e,hv] at hg
   exact hg
  ·have e:y.k=3:=e
   rw [if_pos e] at hv
   refine rd_ (show y.v≤_ from ?_)
   have hm:most=9223372036854775807:=rfl
   rcases Nat.lt_or_ge most (valD (bl y.t)) with q|q
   ·exact absurd ⟨e,q⟩ hn
   ·omega
theorem tk_lt {ys:List It}:∀i k,Tk ys i=some k→i<ys.length:=by
 intro i k h
 rcases Nat.lt_or_ge i ys.length with q|q
 ·exact q
 ·rw [cm_ q] at h;cases h
theorem dn_ {s:List Nat} (h:PN s):s.length≤140737488355327:=by
 have:¬32<s.length:=fun e=>h.name ⟨rfl,e⟩
 omega
theorem qn_le {v:Nat} (h:QN dgN v):v≤9223372036854775807:=by
 have hv:=h.val
 rw [if_pos rfl] at hv
 have hm:most=9223372036854775807:=rfl
 have hn:=h.num
 rcases Nat.lt_or_ge most (valD (dgN v)) with q|q
 ·exact absurd ⟨rfl,q⟩ hn
 ·omega
theorem f4_:∀(e:Ex),e.Wf→e.All PN (QN dgN)→∀t∈e.flat,t.name.length≤140737488355327∧t.value≤9223372036854775807
 | .num v,_,h,t,ht=>by
  obtain rfl:=List.mem_singleton.1 ht
  exact ⟨Nat.zero_le _,qn_le h⟩
 | .nm s,_,h,t,ht=>by
  obtain rfl:=List.mem_singleton.1 ht
  exact ⟨dn_ h,Nat.zero_le _⟩
 | .idx s e,hw,h,t,ht=>by
  rcases List.mem_append.1 ht with ht|ht
  ·exact f4_ e hw h.2 t ht
  ·obtain rfl:=List.mem_singleton.1 ht
   exact ⟨dn_ h.1,Nat.zero_le _⟩
 | .un o e,hw,h,t,ht=>by
  rcases List.mem_append.1 ht with ht|ht
  ·exact f4_ e hw.2.2 h t ht
  ·obtain rfl:=List.mem_singleton.1 ht
   exact ⟨Nat.zero_le _,by have:=hw.2.1;show o≤_;omega⟩
 | .bin o a b,hw,h,t,ht=>by
  rcases List.mem_append.1 ht with ht|ht
  ·rcases List.mem_append.1 ht with ht|ht
   ·exact f4_ a hw.2.2.1 h.1 t ht
   ·exact f4_ b hw.2.2.2 h.2 t ht
  ·obtain rfl:=List.mem_singleton.1 ht
   exact ⟨Nat.zero_le _,by have:=hw.2.1;show o≤_;omega⟩
theorem st_fit {x:Sx} (hx:x.Al PN (QN dgN)) {N:Nat} (hN:N≤2097152) (hl:∀e∈x.st.exprs,e.length≤N):StFit x.st:=by
 obtain ⟨⟨h,hn⟩,h2,h3⟩:=hx
 refine ⟨?_,fun t ht=>dn_ (h2 t ht),fun e he=>?_⟩
 ·show x.name.length≤_
  cases h with
  | sh h =>
   cases h with
   | assign s e=>exact Nat.zero_le _
   | store s a b=>exact dn_ (hn (.inl rfl))
   | send c e=>exact dn_ (hn (.inr (.inl rfl)))
   | call ts s es=>exact dn_ (hn (.inr (.inr rfl)))
  | _=>exact Nat.zero_le _
 ·refine ⟨Nat.le_trans (hl e he) hN,?_⟩
  obtain ⟨y,hy,rfl⟩:=List.mem_map.1 he
  exact f4_ y (h3 y hy).1 (h3 y hy).2.2
theorem so_fit {x:Sox} (hx:x.Ok dgN PN (QN dgN)) {N:Nat} (hN:N≤2097152) (hl:∀g∈x.so.funcs,FnLe N g):SoFit x.so:=by
 refine ⟨fun s hs=>dn_ (hx.ps s hs),fun d hd=>dn_ (hx.gs d hd).1,fun a ha=>⟨dn_ (hx.ars a ha).1,qn_le (hx.ars a ha).2.1⟩,fun d hd=>dn_ (hx.cs d hd).1,fun f hf=>?_⟩
 obtain ⟨h1,h2⟩:=hl f hf
 obtain ⟨g,hg,rfl⟩:=List.mem_map.1 hf
 have ho:=hx.fs g hg
 refine ⟨dn_ ho.nm,fun d hd=>dn_ (ho.ps d hd).1,fun d hd=>dn_ (ho.vs d hd).1,fun s hs=>?_,by omega⟩
 have hs2:=h2 s hs
 rcases List.mem_append.1 hs with hs|hs
 ·obtain ⟨y,hy,rfl⟩:=List.mem_map.1 hs
  obtain ⟨xs,h3,h4⟩:=List.mem_flatten.1 hy
  exact st_fit ((ho.bd xs h3).al y h4) hN hs2
 ·obtain rfl:=List.mem_singleton.1 hs
  exact st_fit (x:=⟨9,[],[],g.es⟩) ⟨⟨.ret _,fun h=>by simp at h⟩,fun _ h=>(by cases h),ho.es⟩ hN hs2
theorem dz_ {s:ByteArray} {so:Syn.So} (h:srcOf s=.ok so):SoFit so∧∃x:Sox,so=x.so∧x.Ok dgN PN (QN dgN):=by
 obtain ⟨hw,j,hj⟩:=src_ws h
 obtain ⟨x,rfl,hx⟩:=Syn.source_of (dg:=dgN) (tk_ok hw) hj
 have hl:=Syn.source_ln (N:=(itsOf s).length) tk_lt hj
 exact ⟨so_fit hx (by have:=hw.2;omega) hl,x,rfl,hx⟩
theorem yq_ {x:Sox} (hx:x.Ok dgN PN (QN dgN)) (hb:bl (sb (soText dgN x))=soText dgN x) (hs:(soText dgN x).length≤65536):srcOf (sb (soText dgN x))=.ok x.so:=by
 obtain ⟨h1,h2⟩:=s7_ hx 0
 have hr:=s8_ hx 0 (F:=(x.tk dgN).length+2) (by omega)
 generalize sb (soText dgN x)=s at hb ⊢
 have hsz:s.size≤65536:=by rw [←ae_,hb];exact hs
 have ha:allItems s=(scanL (bl s) 0).1.map fun t=>(t,0):=by
  rw [allItems,if_neg (by omega),itemsOf,hb,if_pos h1,nlf]
 have hk:=u7_ s
 rw [ha] at hk
 have h0:∀y∈itsOf s,y.e=0:=by
  intro y hy
  have:y.key∈(itsOf s).map It.key:=List.mem_map_of_mem hy
  rw [hk] at this
  obtain ⟨t,_,e⟩:=List.mem_map.1 this
  exact (congrArg Prod.snd e).symm
 have hT:(itsOf s).map keyOf=(scanL (soText dgN x) 0).1.map kk:=by
  have:=congrArg (fun l=>l.map fun p:Tok × Nat=>kk p.1) hk
  simp only [List.map_map] at this
  rw [hb] at this
  exact this
 have hlen:(itsOf s).length=(x.tk dgN).length:=by
  have:=congrArg List.length hT
  rw [h2,nld] at this
  exact this
 have hTk:Tk (itsOf s)=fun i=>((scanL (soText dgN x) 0).1.map kk)[i]?:=by
  funext i
  rw [←hT,List.getElem?_map];rfl
 unfold srcOf readOf
 rw [hf_ (u7_ s) h0]
 dsimp only
 have hN:∀i,(x.tk dgN).length≤i→Tk (itsOf s) i=none:=fun i hi=>cm_ (by omega)
 rw [Syn.source_rounds hN (F:=(itsOf s).length+1) (G:=(x.tk dgN).length+2) (by omega) (by omega),hTk,hr]
end Go.Proofs.YtpcniebkabkikaaGreatDoor
namespace Go.Proofs.YtpcniebkabkikaaGreatDoor
open Go Go.RowKit Go.Proofs.Mm
section
variable {C D:Cl} {w:World} {q q':Option Addr}
theorem kitEx {l l':List (List TmZ)} {vs vs':List Value} {c c':Nat} (hl:l.length≤9223372036854775807) (hl':l'.length≤9223372036854775807) (n3:∀e∈l,e.length≤9223372036854775807) (n3':∀e∈l',e.length≤9223372036854775807) (ha:ExRow C q l vs) (hb:ExRow D q' l' vs') (hC:CLe C (wC w)) (hD:CLe D (wC w)):Calls prog 100 #[.slice q l.length c,.slice q' l'.length c'] w (Says (l=l') w):=by
 obtain ⟨n,hnn⟩:∃n,l.length=n:=⟨_,rfl⟩
 obtain ⟨n',hnn'⟩:∃n,l'.length=n:=⟨_,rfl⟩
 have HA:=hid ha
 have HB:=hid hb
 have HCC:=hid hC
 have HDD:=hid hD
 have H3:=hid n3
 have H3':=hid n3'
 have HN:=hid hnn
 have HN':=hid hnn'
 rw [hnn] at hl ⊢
 rw [hnn'] at hl' ⊢
 clear ha hb hnn hnn' hC hD n3 n3'
 by_cases hnm:n=n'
 ·subst hnm
  have hneq:((n:Int) != (n:Int))=false:=by simp
  go_enter func100,ntmps100
  go_wp2
  go_loopw [5] (fun i wr=>∃k nq:Nat,k≤n∧i=.int .i64 k∧wr=w.drewN nq∧Hid (l.take k=l'.take k)) (fun i _=>n - (intOf i).toNat)
  case atStart=>exact ⟨0,0,Nat.zero_le _,rfl,rfl,hid rfl⟩
  case round =>
   obtain ⟨k,nq,hk,rfl,rfl,hT⟩:=hrel
   by_cases hlt:k<n
   ·have hk1:k<l.length:=by rw [HN.out];exact hlt
    have hk2:k<l'.length:=by rw [HN'.out];exact hlt
    have hk3:k<vs.length:=by rw [HA.out.len];exact hk1
    have hk4:k<vs'.length:=by rw [HB.out.len];exact hk2
    obtain ⟨g,o,rfl,a1⟩:=HA.out.cells k hk3
    obtain ⟨g',o',rfl,b1⟩:=HB.out.cells k hk4
    obtain ⟨qe,ce,eu,hr,_⟩:=HA.out.each k hk3 hk1
    obtain ⟨qe',ce',eu',hr',_⟩:=HB.out.each k hk4 hk2
    obtain ⟨u,evt⟩:∃v,Value.slice qe l[k].length ce=v:=⟨_,rfl⟩
    obtain ⟨u',evt'⟩:∃v,Value.slice qe' l'[k].length ce'=v:=⟨_,rfl⟩
    rw [eu,evt] at a1
    rw [eu',evt'] at b1
    obtain ⟨W,hW⟩:∃W,w.drewN nq=W:=⟨_,rfl⟩
    have a1:W.cell? ⟨g,o+k,none⟩=some u:=by rw [←hW];exact HCC.out _ _ a1
    have b1:W.cell? ⟨g',o'+k,none⟩=some u':=by rw [←hW];exact HDD.out _ _ b1
    have HT:=hid (fun j=>show Calls prog 28 #[u,u'] (W.drewN j) (Says (l[k]=l'[k]) (W.drewN j)) from by
     rw [←evt,←evt']
     exact kitTm (w:=W.drewN j) (H3.out _ (List.getElem_mem hk1)) (H3'.out _ (List.getElem_mem hk2)) hr hr' (by rw [←hW];exact HCC.out) (by rw [←hW];exact HDD.out))
    rw [hW]
    have HWW:=hid hW
    have hki:(k:Int)<(n:Int):=by omega
    clear hW hr hr' eu eu' evt evt' hk3 hk4
    go_wp2
    obtain ⟨tb,HTB⟩:∃tb:Bool,Hid (tb=true↔l[k]=l'[k]):=⟨decide (tb' l[k] l'[k]),hid (by rw [decide_eq_true_iff];exact Iff.rfl)⟩
    have HT3:=hid (fun j=>(HT.out j).mono (fun e w' (h:Says (l[k]=l'[k]) (W.drewN j) e w')=>k3_ HTB.out h))
    go_quiet ((go_at_call 28;exact Calls.quiet_of (HT3.out _)))
    cases tb
    ·have HNE:=hid (dt_ hk1 hk2 (fun e=>by have:=HTB.out.2 e;cases this))
     go_wp2
     go_ret
     rw [←HWW.out]
     exact bw_ HNE.out
    ·have HT2:=hid (bc_ hk1 hk2 hT.out (HTB.out.1 rfl))
     go_wp2
     exact ⟨⟨k+1,_,by omega,by go_num,by rw [←HWW.out,World.drewN_drewN],HT2⟩,by simp [intOf];omega⟩
   ·obtain rfl:k=n:=by omega
    have HT2:=hid (bp_ HN.out HN'.out hT.out)
    go_wp2
    go_ret
    exact b9_ HT2.out
 ·have HNE:=hid (show ¬l=l' from fun e=>hnm (by rw [←HN.out,←HN'.out,e]))
  have hneq:((n:Int) != (n':Int))=true:=by simp;omega
  go_enter func100,ntmps100
  go_wp2
  go_ret
  exact cy_ (k:=0) HNE.out
theorem kitSt {l l':List StZ} {lv lv':List StV} {c c':Nat} (ha:BdRow C q l lv) (hb:BdRow D q' l' lv') (hC:CLe C (wC w)) (hD:CLe D (wC w)):Calls prog 54 #[.slice q l.length c,.slice q' l'.length c'] w (Says (l=l') w):=by
 have hl:l.length≤9223372036854775807:=by have:=ha.few;omega
 have hl':l'.length≤9223372036854775807:=by have:=hb.few;omega
 obtain ⟨n,hnn⟩:∃n,l.length=n:=⟨_,rfl⟩
 obtain ⟨n',hnn'⟩:∃n,l'.length=n:=⟨_,rfl⟩
 have HA:=hid ha
 have HB:=hid hb
 have HCC:=hid hC
 have HDD:=hid hD
 have HN:=hid hnn
 have HN':=hid hnn'
 rw [hnn] at hl ⊢
 rw [hnn'] at hl' ⊢
 clear ha hb hnn hnn' hC hD
 by_cases hnm:n=n'
 ·subst hnm
  have hneq:((n:Int) != (n:Int))=false:=by simp
  go_enter func54,ntmps54
  go_wp2
  go_loopw [5] (fun i wr=>∃k nq:Nat,k≤n∧i=.int .i64 k∧wr=w.drewN nq∧Hid (l.take k=l'.take k)) (fun i _=>n - (intOf i).toNat)
  case atStart=>exact ⟨0,0,Nat.zero_le _,rfl,rfl,hid rfl⟩
  case round =>
   obtain ⟨k,nq,hk,rfl,rfl,hT⟩:=hrel
   by_cases hlt:k<n
   ·have hk1:k<l.length:=by rw [HN.out];exact hlt
    have hk2:k<l'.length:=by rw [HN'.out];exact hlt
    have hk3:k<lv.length:=by rw [HA.out.len];exact hk1
    have hk4:k<lv'.length:=by rw [HB.out.len];exact hk2
    obtain ⟨g,o,rfl,a0,a1,a2,a3⟩:=HA.out.cells k hk3
    obtain ⟨g',o',rfl,b0,b1,b2,b3⟩:=HB.out.cells k hk4
    obtain ⟨p1,d1,p2,d2,eu,hs⟩:=HA.out.rd k hk3 hk1
    obtain ⟨p1',d1',p2',d2',eu',hs'⟩:=HB.out.rd k hk4 hk2
    obtain ⟨vs,hs⟩:=hs.rd2
    obtain ⟨vs',hs'⟩:=hs'.rd2
    obtain ⟨vt,evt⟩:∃v,Value.slice p1 l[k].targets.length d1=v:=⟨_,rfl⟩
    obtain ⟨vt',evt'⟩:∃v,Value.slice p1' l'[k].targets.length d1'=v:=⟨_,rfl⟩
    obtain ⟨ve,eve⟩:∃v,Value.slice p2 l[k].exprs.length d2=v:=⟨_,rfl⟩
    obtain ⟨ve',eve'⟩:∃v,Value.slice p2' l'[k].exprs.length d2'=v:=⟨_,rfl⟩
    rw [eu] at a0 a1 a2 a3
    rw [eu'] at b0 b1 b2 b3
    obtain ⟨W,hW⟩:∃W,w.drewN nq=W:=⟨_,rfl⟩
    have x0:W.cell? ⟨g,o+k*4,none⟩=some (.int .i64 l[k].kind):=by rw [←hW];exact HCC.out _ _ a0
    have x1:W.cell? ⟨g,o+k*4+1,none⟩=some (.string l[k].name):=by rw [←hW];exact HCC.out _ _ a1
    have x2:W.cell? ⟨g,o+k*4+2,none⟩=some vt:=by rw [←hW,←evt];exact HCC.out _ _ a2
    have x3:W.cell? ⟨g,o+k*4+3,none⟩=some ve:=by rw [←hW,←eve];exact HCC.out _ _ a3
    have y0:W.cell? ⟨g',o'+k*4,none⟩=some (.int .i64 l'[k].kind):=by rw [←hW];exact HDD.out _ _ b0
    have y1:W.cell? ⟨g',o'+k*4+1,none⟩=some (.string l'[k].name):=by rw [←hW];exact HDD.out _ _ b1
    have y2:W.cell? ⟨g',o'+k*4+2,none⟩=some vt':=by rw [←hW,←evt'];exact HDD.out _ _ b2
    have y3:W.cell? ⟨g',o'+k*4+3,none⟩=some ve':=by rw [←hW,←eve'];exact HDD.out _ _ b3
    have HT:=hid (fun j=>show Calls prog 51 #[vt,vt'] (W.drewN j) (Says (l[k].targets=l'[k].targets) (W.drewN j)) from by
     rw [←evt,←evt']
     exact kitStr (w:=W.drewN j) hs.n1 hs'.n1 hs.tg hs'.tg (by rw [←hW];exact HCC.out) (by rw [←hW];exact HDD.out))
    have HX:=hid (fun j=>show Calls prog 100 #[ve,ve'] (W.drewN j) (Says (l[k].exprs=l'[k].exprs) (W.drewN j)) from by
     rw [←eve,←eve']
     exact kitEx (w:=W.drewN j) hs.n2 hs'.n2 hs.n3 hs'.n3 hs.ex hs'.ex (by rw [←hW];exact HCC.out) (by rw [←hW];exact HDD.out))
    rw [hW]
    have HWW:=hid hW
    have hki:(k:Int)<(n:Int):=by omega
    clear hW hs hs' eu eu' evt evt' eve eve' a0 a1 a2 a3 b0 b1 b2 b3 hk3 hk4
    obtain ⟨t3,HT3⟩:∃tb:Bool,Hid (tb=true↔l[k].targets=l'[k].targets):=⟨decide (tb' l[k].targets l'[k].targets),hid (by rw [decide_eq_true_iff];exact Iff.rfl)⟩
    obtain ⟨t4,HT4⟩:∃tb:Bool,Hid (tb=true↔l[k].exprs=l'[k].exprs):=⟨decide (tb' l[k].exprs l'[k].exprs),hid (by rw [decide_eq_true_iff];exact Iff.rfl)⟩
    have HT5:=hid (fun j=>(HT.out j).mono (fun e w' (h:Says (l[k].targets=l'[k].targets) (W.drewN j) e w')=>k3_ HT3.out h))
    have HX5:=hid (fun j=>(HX.out j).mono (fun e w' (h:Says (l[k].exprs=l'[k].exprs) (W.drewN j) e w')=>k3_ HT4.out h))
    obtain ⟨t1,e1⟩:∃b,(l[k].kind == l'[k].kind)=b:=⟨_,rfl⟩
    obtain ⟨t2,e2⟩:∃b,(l[k].name.toList == l'[k].name.toList)=b:=⟨_,rfl⟩
    have HALL:=hid (show (t1=true∧t2=true∧t3=true∧t4=true)↔l[k]=l'[k] from by
     constructor
     ·rintro ⟨c1,c2,c3,c4⟩
      have d3:=HT3.out.1 c3
      have d4:=HT4.out.1 c4
      have d1:=beq_iff_eq.1 (e1.trans c1)
      have d2:=hm_.1 (e2.trans c2)
      generalize l[k]=x at d1 d2 d3 d4 ⊢
      generalize l'[k]=y at d1 d2 d3 d4 ⊢
      cases x;cases y;simp_all
     ·intro h
      refine ⟨by rw [←e1,h];simp,by rw [←e2,h];simp,HT3.out.2 (by rw [h]),HT4.out.2 (by rw [h])⟩)
    generalize l[k].kind=kd at *
    generalize l[k].name=nm at *
    generalize l'[k].kind=kd' at *
    generalize l'[k].name=nm' at *
    have e3:(kd != kd')=!t1:=by rw [←e1];rfl
    have e4:(nm.toList != nm'.toList)=!t2:=by rw [←e2];rfl
    cases t1
    ·have HNE:=hid (dt_ hk1 hk2 (fun e=>by have:=HALL.out.2 e;exact absurd this.1 (by decide)))
     simp only [Bool.not_false] at e3
     go_wp2
     go_quiet (first|(go_at_call 51;exact Calls.quiet_of (HT5.out _))|(go_at_call 100;exact Calls.quiet_of (HX5.out _)))
     go_wp2
     go_ret
     rw [←HWW.out]
     exact bw_ HNE.out
    cases t2
    ·have HNE:=hid (dt_ hk1 hk2 (fun e=>by have:=HALL.out.2 e;exact absurd this.2.1 (by decide)))
     simp only [Bool.not_true] at e3
     simp only [Bool.not_false] at e4
     go_wp2
     go_quiet (first|(go_at_call 51;exact Calls.quiet_of (HT5.out _))|(go_at_call 100;exact Calls.quiet_of (HX5.out _)))
     go_wp2
     go_ret
     rw [←HWW.out]
     exact bw_ HNE.out
    simp only [Bool.not_true] at e3 e4
    cases t3
    ·have HNE:=hid (dt_ hk1 hk2 (fun e=>by have:=HALL.out.2 e;exact absurd this.2.2.1 (by decide)))
     go_wp2
     go_quiet (first|(go_at_call 51;exact Calls.quiet_of (HT5.out _))|(go_at_call 100;exact Calls.quiet_of (HX5.out _)))
     go_wp2
     go_ret
     rw [←HWW.out]
     exact bw_ HNE.out
    cases t4
    ·have HNE:=hid (dt_ hk1 hk2 (fun e=>by have:=HALL.out.2 e;exact absurd this.2.2.2 (by decide)))
     go_wp2
     go_quiet (first|(go_at_call 51;exact Calls.quiet_of (HT5.out _))|(go_at_call 100;exact Calls.quiet_of (HX5.out _)))
     go_wp2
     go_ret
     rw [←HWW.out]
     exact bw_ HNE.out
    ·have HT2:=hid (bc_ hk1 hk2 hT.out (HALL.out.1 ⟨rfl,rfl,rfl,rfl⟩))
     go_wp2
     go_quiet (first|(go_at_call 51;exact Calls.quiet_of (HT5.out _))|(go_at_call 100;exact Calls.quiet_of (HX5.out _)))
     go_wp2
     exact ⟨⟨k+1,_,by omega,by go_num,by rw [←HWW.out,World.drewN_drewN],HT2⟩,by simp [intOf];omega⟩
   ·obtain rfl:k=n:=by omega
    have HT2:=hid (bp_ HN.out HN'.out hT.out)
    go_wp2
    go_ret
    exact b9_ HT2.out
 ·have HNE:=hid (show ¬l=l' from fun e=>hnm (by rw [←HN.out,←HN'.out,e]))
  have hneq:((n:Int) != (n':Int))=true:=by simp;omega
  go_enter func54,ntmps54
  go_wp2
  go_ret
  exact cy_ (k:=0) HNE.out
end
end Go.Proofs.YtpcniebkabkikaaGreatDoor
