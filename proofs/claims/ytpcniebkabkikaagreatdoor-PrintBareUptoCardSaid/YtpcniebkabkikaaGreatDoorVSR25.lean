/- What has been read lies in memory as it can be printed. A source that has been read can be printed. Plain: labels, declarations, arrays: as they are printed, as they are laid. Plain: what has been read is printed as its text. Plain: a source that has been read is printed as its text. Plain: what is read is no longer than what it is read from. Plain: with more rounds a reader tells the same, unless -/
import Derived.Test.YtpcniebkabkikaaGreatDoorVSR14
import Derived.Test.YtpcniebkabkikaaGreatDoorVSR24
import Derived.Test.YtpcniebkabkikaaGreatDoorVSR12
import Derived.Test.YtpcniebkabkikaaGreatDoorVSR1
import Derived.Test.YtpcniebkabkikaaGreatDoorVSR4
import Derived.Test.YtpcniebkabkikaaGreatDoorVSR2
import Derived.Test.YtpcniebkabkikaaGreatDoorVSR5
import Derived.Test.YtpcniebkabkikaaGreatDoorVSR8
import Derived.Below
import Derived.Laws.OwnMore
import Derived.RegionTactic
import Derived.Test.YtpcniebkabkikaaGreatDoorVSR3
import Derived.OwnWalk
import Derived.Outline
import Derived.Laws.IdiomStrings
import Derived.Test.YtpcniebkabkikaaGreatDoorVSR13
import Derived.Shelf.Strings.BuilderK
import Derived.Laws.AppendOwnNone
namespace Go.Proofs.YtpcniebkabkikaaGreatDoor
open Go Go.RowKit Go.Proofs.Mm
def tmOf (t:Syn.Tm):TmZ:=⟨(t.kind:Int),(t.value:Int),sb t.name⟩
def stOf (s:Syn.St):StZ:=⟨(s.kind:Int),sb s.name,s.targets.map sb,s.exprs.map fun e=>e.map tmOf⟩
def deOf (d:Syn.De):DeZ:=⟨sb d.name,d.label⟩
def arOf (a:Syn.Ar):ArZ:=⟨sb a.name,(a.len:Int),a.label⟩
def fnOf (f:Syn.Fn):FnZ:=⟨sb f.name,f.level,f.params.map deOf,f.results,f.vars.map deOf,f.body.map stOf⟩
def soOf (s:Syn.So):SoZ:=⟨s.principals.map sb,s.globals.map deOf,s.arrays.map arOf,s.channels.map deOf,s.funcs.map fnOf⟩
def ExFit (e:List Syn.Tm):Prop:=e.length≤2097152∧∀ t ∈ e,t.name.length≤140737488355327∧t.value≤9223372036854775807
def StFit (s:Syn.St):Prop:=s.name.length≤140737488355327∧(∀ x ∈ s.targets,x.length≤140737488355327)∧∀ e ∈ s.exprs,ExFit e
def FnFit (f:Syn.Fn):Prop:=f.name.length≤140737488355327∧(∀ d ∈ f.params,d.name.length≤140737488355327)∧(∀ d ∈ f.vars,d.name.length≤140737488355327)∧(∀ s ∈ f.body,StFit s)∧f.body.length≤2199023255552
def SoFit (s:Syn.So):Prop:=(∀ x ∈ s.principals,x.length≤140737488355327)∧(∀ d ∈ s.globals,d.name.length≤140737488355327)∧(∀ a ∈ s.arrays,a.name.length≤140737488355327∧a.len≤9223372036854775807)∧(∀ d ∈ s.channels,d.name.length≤140737488355327)∧∀ f ∈ s.funcs,FnFit f
theorem rdC {α:Type} {R:List Value→α→Prop} {size:Nat} {C:Cl} {q:Option Addr} {cs:List Value} {l:List α} (hR:∀ c x,R c x→c.length=size) (h:RdO C q cs) (he:Enc R cs l) (j:Nat) (hj:j<l.length) (hs:0<size) :
    ∃ g o c,q=some ⟨g,o,none⟩∧R c l[j]∧∀ r u,r<size→c[r]?=some u→C ⟨g,o+j * size+r,none⟩=some u:=by
  obtain ⟨hl,ha⟩:=encZ_at hR he
  obtain ⟨c,h1,h2⟩:=ha j hj
  have hc:=hR _ _ h1
  rcases h with h | ⟨g,o,hg,h3⟩
  · subst h
    have:=h2 0 hs
    rw [List.getElem?_eq_getElem (show 0<c.length by omega)] at this
    simp at this
  · exact ⟨g,o,c,hg,h1,fun r u hr hu=>by rw [Nat.add_assoc];exact h3 _ _ (by rw [h2 r hr];exact hu)⟩
section
variable {m:Mem} {q:Option Addr} {c:Nat}
theorem str_rowM {l:List (List Nat)} {n:Nat} (h:RowM m 9 1 (.slice q n c) n (strC l)):StrRow (mC m) q (l.map sb):=by
  intro j hj
  have hj':j<l.length:=by simpa using hj
  obtain ⟨g,o,c,h1,rfl,h2⟩:=rdC (size:=1) (fun c x e=>by rw [e];rfl) (RowM.rdO h) (enc_str l) j hj' (by decide)
  refine ⟨g,o,h1,?_⟩
  have:=h2 0 _ (by decide) rfl
  rw [List.getElem_map]
  simpa using this
theorem de_rowM {l:List Syn.De} {n:Nat} {cs:List Value} (h:RowM m 59 2 (.slice q n c) n cs) (he:Enc (DeR m) cs l):DeRow (mC m) q (l.map deOf)∧∀ d ∈ l,d.label<18446744073709551616:=by
  constructor
  · intro j hj
    have hj':j<l.length:=by simpa using hj
    obtain ⟨g,o,c,h1,⟨rfl,_⟩,h2⟩:=rdC (size:=2) (fun c x e=>by rw [e.1];rfl) (RowM.rdO h) he j hj' (by decide)
    rw [List.getElem_map]
    exact ⟨g,o,h1,h2 0 _ (by decide) rfl,h2 1 _ (by decide) rfl⟩
  · intro d hd
    obtain ⟨j,hj,rfl⟩:=List.getElem_of_mem hd
    obtain ⟨g,o,c,_,⟨_,hl⟩,_⟩:=rdC (size:=2) (fun c x e=>by rw [e.1];rfl) (RowM.rdO h) he j hj (by decide)
    exact hl
theorem la_rowM {l:List Nat} {n:Nat} {cs:List Value} (h:RowM m 50 1 (.slice q n c) n cs) (he:Enc (LaR m) cs l):LaRow (mC m) q l∧∀ d ∈ l,d<18446744073709551616:=by
  constructor
  · intro j hj
    obtain ⟨g,o,c,h1,⟨rfl,_⟩,h2⟩:=rdC (size:=1) (fun c x e=>by rw [e.1];rfl) (RowM.rdO h) he j hj (by decide)
    refine ⟨g,o,h1,?_⟩
    have:=h2 0 _ (by decide) rfl
    simpa using this
  · intro d hd
    obtain ⟨j,hj,rfl⟩:=List.getElem_of_mem hd
    obtain ⟨g,o,c,_,⟨_,hl⟩,_⟩:=rdC (size:=1) (fun c x e=>by rw [e.1];rfl) (RowM.rdO h) he j hj (by decide)
    exact hl
theorem ar_rowM {l:List Syn.Ar} {n:Nat} {cs:List Value} (h:RowM m 72 3 (.slice q n c) n cs) (he:Enc (ArR m) cs l):ArRow (mC m) q (l.map arOf)∧∀ d ∈ l,d.label<18446744073709551616:=by
  constructor
  · intro j hj
    have hj':j<l.length:=by simpa using hj
    obtain ⟨g,o,c,h1,⟨rfl,_⟩,h2⟩:=rdC (size:=3) (fun c x e=>by rw [e.1];rfl) (RowM.rdO h) he j hj' (by decide)
    rw [List.getElem_map]
    exact ⟨g,o,h1,h2 0 _ (by decide) rfl,h2 1 _ (by decide) rfl,h2 2 _ (by decide) rfl⟩
  · intro d hd
    obtain ⟨j,hj,rfl⟩:=List.getElem_of_mem hd
    obtain ⟨g,o,c,_,⟨_,hl⟩,_⟩:=rdC (size:=3) (fun c x e=>by rw [e.1];rfl) (RowM.rdO h) he j hj (by decide)
    exact hl
theorem enc_tm:∀ l:List Syn.Tm,Enc (fun c t=>c=tmC t) (tmCells l) l
  | []=>rfl
  | t :: l=>⟨tmC t,tmCells l,by rw [show t :: l=[t]++l from rfl,tmCells_app,tmCells_one],rfl,enc_tm l⟩
theorem tm_rowM {l:List Syn.Tm} {v:Value} (h:TmM m v l):∃ qe ce,v=.slice qe (l.map tmOf).length ce∧TmRow (mC m) qe (l.map tmOf)∧ce≤maxLen∧(l.map tmOf).length≤ce:=by
  obtain ⟨qe,ce,rfl⟩:=rowM_shape h
  refine ⟨qe,ce,by rw [List.length_map],fun j hj=>?_,?_,?_⟩
  · have hj':j<l.length:=by simpa using hj
    obtain ⟨g,o,c,h1,rfl,h2⟩:=rdC (size:=3) (fun c x e=>by rw [e];rfl) (RowM.rdO h) (enc_tm l) j hj' (by decide)
    rw [List.getElem_map]
    exact ⟨g,o,h1,h2 0 _ (by decide) rfl,h2 1 _ (by decide) rfl,h2 2 _ (by decide) rfl⟩
  · rcases h.2 with ⟨e,_⟩ | ⟨g,cap,cur,e,_,_,hc,_⟩
    · injection e with _ _ e;rw [e];exact Nat.zero_le _
    · injection e with _ _ e;rw [e];exact hc
  · rw [List.length_map]
    rcases h.2 with ⟨e,h0⟩ | ⟨g,cap,cur,e,_,hc,_⟩
    · injection e with _ _ e;omega
    · injection e with _ _ e;rw [e];exact hc
theorem ex_rowM {l:List (List Syn.Tm)} {v:Value} (h:ExM m v l):∃ q c vs,v=.slice q (l.map fun e=>e.map tmOf).length c∧ExRow (mC m) q (l.map fun e=>e.map tmOf) vs:=by
  obtain ⟨cs,h1,h2⟩:=h
  obtain ⟨q,c,rfl⟩:=rowM_shape h1
  have hlen:=tm_single h2
  have hrd:=(RowM.rdO h1)
  obtain ⟨_,hat⟩:=encZ_at (size:=1) (fun c x ⟨u,e,_⟩=>by rw [e];rfl) h2
  refine ⟨q,c,cs,by rw [List.length_map],⟨by rw [List.length_map];exact hlen,fun j hj=>?_,fun j hj hj'=>?_⟩⟩
  · rcases hrd with h | ⟨g,o,e,h3⟩
    · subst h;exact absurd hj (by simp)
    · exact ⟨g,o,e,h3 j _ (List.getElem?_eq_getElem hj)⟩
  · have hj2:j<l.length:=by simpa using hj'
    obtain ⟨c',⟨u,rfl,hu⟩,h4⟩:=hat j hj2
    have h5:=h4 0 (by decide)
    rw [Nat.mul_one,Nat.add_zero,List.getElem?_eq_getElem hj] at h5
    have h6:cs[j]=u:=by simpa using h5
    obtain ⟨qe,ce,e1,e2,e3,e4⟩:=tm_rowM hu
    rw [h6,List.getElem_map]
    exact ⟨qe,ce,e1,e2,e3,e4⟩
end
end Go.Proofs.YtpcniebkabkikaaGreatDoor
namespace Go.Proofs.YtpcniebkabkikaaGreatDoor
open Go Go.RowKit Go.Proofs.Mm
theorem size_sb (l:List Nat):(sb l).size=l.length:=sb_size l
theorem list_each {β:Type}:∀ {n:Nat} {P:(j:Nat)→j<n→β→Prop},(∀ j (hj:j<n),∃ x,P j hj x)→∃ l:List β,l.length=n∧∀ j (hj:j<n) (h:j<l.length),P j hj l[j]
  | 0,_,_=>⟨[],rfl,fun j hj=>absurd hj (by omega)⟩
  | n+1,P,h=>by
    obtain ⟨l,h1,h2⟩:=list_each (n:=n) (P:=fun j hj x=>P j (by omega) x) (fun j hj=>h j (by omega))
    obtain ⟨x,hx⟩:=h n (by omega)
    refine ⟨l++[x],by rw [List.length_append,h1];rfl,fun j hj hl=>?_⟩
    by_cases e:j<n
    · rw [List.getElem_append_left (by omega)]
      exact h2 j e (by omega)
    · obtain rfl:j=n:=by omega
      have:(l++[x])[l.length]'(by simp)=x:=by simp
      subst h1
      rw [this];exact hx
section
variable {m:Mem}
theorem st_SR {c:List Value} {s:Syn.St} (h:StM m c s) (hf:StFit s):∃ q1 c1 q2 c2,c=[.int .i64 (s.kind:Int),.string (sb s.name),.slice q1 s.targets.length c1,.slice q2 s.exprs.length c2]∧SR (mC m) (stOf s) q1 q2:=by
  obtain ⟨vt,ve,rfl,h1,h2⟩:=h
  obtain ⟨q1,c1,rfl⟩:=rowM_shape h1
  obtain ⟨q2,c2,vs,e2,hx⟩:=ex_rowM h2
  rw [List.length_map] at e2
  subst e2
  have hm1:=row_max h1
  obtain ⟨cs,hr,_⟩:=h2
  have hm2:=row_max hr
  refine ⟨q1,c1,q2,c2,rfl,?_,⟨vs,hx⟩,?_⟩
  · exact str_rowM h1
  · refine ⟨by show (sb s.name).size≤_;rw [size_sb];exact hf.1,?_,?_,?_,?_⟩
    · intro x hx
      obtain ⟨y,hy,rfl⟩:=List.mem_map.1 hx
      rw [size_sb];exact hf.2.1 y hy
    · intro e he
      obtain ⟨y,hy,rfl⟩:=List.mem_map.1 he
      have h3:=hf.2.2 y hy
      refine ⟨by rw [List.length_map];exact h3.1,fun t ht=>?_⟩
      obtain ⟨z,hz,rfl⟩:=List.mem_map.1 ht
      have h4:=h3.2 z hz
      exact ⟨by show (sb z.name).size≤_;rw [size_sb];exact h4.1,by show ((z.value:Nat):Int)≤_;omega⟩
    · show (s.targets.map sb).length≤_;rw [List.length_map];exact hm1
    · show (s.exprs.map _).length≤_;rw [List.length_map];exact hm2
theorem bd_rowM {l:List Syn.St} {q:Option Addr} {c n:Nat} {cs:List Value} (h:RowM m 57 4 (.slice q n c) n cs) (he:Enc (StM m) cs l) (hf:∀ s ∈ l,StFit s) (hl:l.length≤2199023255552):∃ lv,BdRow (mC m) q (l.map stOf) lv:=by
  have hrd:=(RowM.rdO h)
  have hstl:∀ (c:List Value) (x:Syn.St),StM m c x→c.length=4:=fun c x ⟨_,_,e,_⟩=>by rw [e];rfl
  have key:∀ j (hj:j<l.length),∃ x:StV,(∃ g o,q=some ⟨g,o,none⟩∧mC m ⟨g,o+j * 4,none⟩=some (.int .i64 x.k)∧mC m ⟨g,o+j * 4+1,none⟩=some (.string x.nm)∧mC m ⟨g,o+j * 4+2,none⟩=some (.slice x.q1 x.n1 x.c1)∧mC m ⟨g,o+j * 4+3,none⟩=some (.slice x.q2 x.n2 x.c2))∧∃ q1 c1 q2 c2,x=⟨(stOf l[j]).kind,(stOf l[j]).name,q1,(stOf l[j]).targets.length,c1,q2,(stOf l[j]).exprs.length,c2⟩∧SR (mC m) (stOf l[j]) q1 q2:=by
    intro j hj
    obtain ⟨g,o,c,h1,h2,h3⟩:=rdC (size:=4) hstl hrd he j hj (by decide)
    obtain ⟨q1,c1,q2,c2,rfl,hsr⟩:=st_SR h2 (hf _ (List.getElem_mem hj))
    have e1:(stOf l[j]).targets.length=l[j].targets.length:=List.length_map ..
    have e2:(stOf l[j]).exprs.length=l[j].exprs.length:=List.length_map ..
    refine ⟨⟨(stOf l[j]).kind,(stOf l[j]).name,q1,(stOf l[j]).targets.length,c1,q2,(stOf l[j]).exprs.length,c2⟩,⟨g,o,h1,h3 0 _ (by decide) rfl,h3 1 _ (by decide) rfl,?_,?_⟩,q1,c1,q2,c2,rfl,hsr⟩
    · rw [e1];exact h3 2 _ (by decide) rfl
    · rw [e2];exact h3 3 _ (by decide) rfl
  obtain ⟨lv,hlen,hlv⟩:=list_each key
  refine ⟨lv,⟨by rw [List.length_map];exact hlen,fun j hj=>?_,fun j hj hj'=>?_,by rw [List.length_map];exact hl⟩⟩
  · exact (hlv j (by omega) hj).1
  · obtain ⟨q1,c1,q2,c2,e1,e2⟩:=(hlv j (by omega) hj).2
    rw [List.getElem_map]
    exact ⟨q1,c1,q2,c2,e1,e2⟩
theorem fn_FR {c:List Value} {f:Syn.Fn} (h:FnM m c f) (hf:FnFit f):∃ q1 c1 q2 c2 q3 c3 q4 c4,c=[.string (sb f.name),.int .u64 (f.level:Nat),.slice q1 f.params.length c1,.slice q2 f.results.length c2,.slice q3 f.vars.length c3,.slice q4 f.body.length c4]∧FR (mC m) (fnOf f) q1 q2 q3 q4:=by
  obtain ⟨a,b,d,e,rfl,hl,⟨c1,p1,e1⟩,⟨c2,p2,e2⟩,⟨c3,p3,e3⟩,⟨c4,p4,e4⟩⟩:=h
  obtain ⟨q1,d1,rfl⟩:=rowM_shape p1
  obtain ⟨q2,d2,rfl⟩:=rowM_shape p2
  obtain ⟨q3,d3,rfl⟩:=rowM_shape p3
  obtain ⟨q4,d4,rfl⟩:=rowM_shape p4
  have h1:=de_rowM p1 e1
  have h2:=la_rowM p2 e2
  have h3:=de_rowM p3 e3
  have m1:=row_max p1
  have m2:=row_max p2
  have m3:=row_max p3
  have hde:∀ {l:List Syn.De},(∀ d ∈ l,d.label<18446744073709551616)→(∀ d ∈ l,d.name.length≤140737488355327)→∀ d ∈ l.map deOf,DeF d:=by
    intro l ha hb d hd
    obtain ⟨y,hy,rfl⟩:=List.mem_map.1 hd
    exact ⟨ha y hy,by show (sb y.name).size≤_;rw [size_sb];exact hb y hy⟩
  refine ⟨q1,d1,q2,d2,q3,d3,q4,d4,rfl,⟨⟨by show (sb f.name).size≤_;rw [size_sb];exact hf.1,hl,⟨hde h1.2 hf.2.1,by show (f.params.map _).length≤_;rw [List.length_map];exact m1⟩,⟨h2.2,m2⟩,⟨hde h3.2 hf.2.2.1,by show (f.vars.map _).length≤_;rw [List.length_map];exact m3⟩⟩,h1.1,h2.1,h3.1,bd_rowM p4 e4 hf.2.2.2.1 hf.2.2.2.2⟩⟩
theorem fn_rowM {l:List Syn.Fn} {q:Option Addr} {c n:Nat} {cs:List Value} (h:RowM m 54 6 (.slice q n c) n cs) (he:Enc (FnM m) cs l) (hf:∀ s ∈ l,FnFit s):∃ lv,FnRow (mC m) q (l.map fnOf) lv:=by
  have hrd:=(RowM.rdO h)
  have hstl:∀ (c:List Value) (x:Syn.Fn),FnM m c x→c.length=6:=fun c x ⟨_,_,_,_,e,_⟩=>by rw [e];rfl
  have key:∀ j (hj:j<l.length),∃ x:FnV,(∃ g o,q=some ⟨g,o,none⟩∧mC m ⟨g,o+j * 6,none⟩=some (.string x.nm)∧mC m ⟨g,o+j * 6+1,none⟩=some (.int .u64 (x.lv:Nat))∧mC m ⟨g,o+j * 6+2,none⟩=some (.slice x.q1 x.n1 x.c1)∧mC m ⟨g,o+j * 6+3,none⟩=some (.slice x.q2 x.n2 x.c2)∧mC m ⟨g,o+j * 6+4,none⟩=some (.slice x.q3 x.n3 x.c3)∧mC m ⟨g,o+j * 6+5,none⟩=some (.slice x.q4 x.n4 x.c4))∧∃ q1 c1 q2 c2 q3 c3 q4 c4,x=⟨(fnOf l[j]).name,(fnOf l[j]).level,q1,(fnOf l[j]).params.length,c1,q2,(fnOf l[j]).results.length,c2,q3,(fnOf l[j]).vars.length,c3,q4,(fnOf l[j]).body.length,c4⟩∧FR (mC m) (fnOf l[j]) q1 q2 q3 q4:=by
    intro j hj
    obtain ⟨g,o,c,h1,h2,h3⟩:=rdC (size:=6) hstl hrd he j hj (by decide)
    obtain ⟨q1,c1,q2,c2,q3,c3,q4,c4,rfl,hsr⟩:=fn_FR h2 (hf _ (List.getElem_mem hj))
    have e1:(fnOf l[j]).params.length=l[j].params.length:=List.length_map ..
    have e3:(fnOf l[j]).vars.length=l[j].vars.length:=List.length_map ..
    have e4:(fnOf l[j]).body.length=l[j].body.length:=List.length_map ..
    refine ⟨⟨(fnOf l[j]).name,(fnOf l[j]).level,q1,(fnOf l[j]).params.length,c1,q2,(fnOf l[j]).results.length,c2,q3,(fnOf l[j]).vars.length,c3,q4,(fnOf l[j]).body.length,c4⟩,⟨g,o,h1,h3 0 _ (by decide) rfl,h3 1 _ (by decide) rfl,?_,h3 3 _ (by decide) rfl,?_,?_⟩,q1,c1,q2,c2,q3,c3,q4,c4,rfl,hsr⟩
    · rw [e1];exact h3 2 _ (by decide) rfl
    · rw [e3];exact h3 4 _ (by decide) rfl
    · rw [e4];exact h3 5 _ (by decide) rfl
  obtain ⟨lv,hlen,hlv⟩:=list_each key
  refine ⟨lv,⟨by rw [List.length_map];exact hlen,fun j hj=>?_,fun j hj hj'=>?_⟩⟩
  · exact (hlv j (by omega) hj).1
  · obtain ⟨q1,c1,q2,c2,q3,c3,q4,c4,e1,e2⟩:=(hlv j (by omega) hj).2
    rw [List.getElem_map]
    exact ⟨q1,c1,q2,c2,q3,c3,q4,c4,e1,e2⟩
theorem so_SoR {s:Syn.So} {q1 c1 q2 c2 q3 c3 q4 c4 q5 c5} (h:SoS m s q1 c1 q2 c2 q3 c3 q4 c4 q5 c5) (hf:SoFit s):SoR (mC m) (soOf s) q1 c1 q2 q3 q4 q5:=by
  obtain ⟨hp,⟨_,g1,g2⟩,⟨_,a1,a2⟩,⟨_,d1,d2⟩,⟨_,f1,f2⟩⟩:=h
  have hg:=de_rowM g1 g2
  have ha:=ar_rowM a1 a2
  have hd:=de_rowM d1 d2
  have hstr:=str_rowM hp
  have mp:=row_max hp
  have hde:∀ {l:List Syn.De},(∀ d ∈ l,d.label<18446744073709551616)→(∀ d ∈ l,d.name.length≤140737488355327)→∀ d ∈ l.map deOf,DeF d:=by
    intro l ha hb d hd
    obtain ⟨y,hy,rfl⟩:=List.mem_map.1 hd
    exact ⟨ha y hy,by show (sb y.name).size≤_;rw [size_sb];exact hb y hy⟩
  have hpl:(soOf s).principals.length=s.principals.length:=List.length_map ..
  have hps:∀ d ∈ (soOf s).principals,d.size≤140737488355327:=by
    intro d hd
    obtain ⟨y,hy,rfl⟩:=List.mem_map.1 hd
    rw [size_sb];exact hf.1 y hy
  refine ⟨⟨⟨q1,c1,rfl,fun i hi=>?_⟩,?_,fun i=>?_⟩,hstr,hg.1,ha.1,hd.1,fn_rowM f1 f2 hf.2.2.2.2,⟨hde hg.2 hf.2.1,?_⟩,⟨?_,?_⟩,⟨hde hd.2 hf.2.2.2.1,?_⟩,?_,⟨hps,?_⟩⟩
  · obtain ⟨g,o,e1,e2⟩:=hstr i hi
    exact ⟨g,o,e1,by rw [e2,List.getD_eq_getElem?_getD,List.getElem?_eq_getElem hi];rfl⟩
  · rw [hpl];unfold maxLen;omega
  · rw [List.getD_eq_getElem?_getD]
    cases h:(soOf s).principals[i]? with
    | none=>show ByteArray.empty.size≤_;decide
    | some x=>exact hps x (List.mem_of_getElem? h)
  · show (s.globals.map _).length≤_;rw [List.length_map];exact row_max g1
  · intro d hd
    obtain ⟨y,hy,rfl⟩:=List.mem_map.1 hd
    have h1:=hf.2.2.1 y hy
    exact ⟨by show (sb y.name).size≤_;rw [size_sb];exact h1.1,by show _≤((y.len:Nat):Int);omega,by show ((y.len:Nat):Int)≤_;omega,ha.2 y hy⟩
  · show (s.arrays.map _).length≤_;rw [List.length_map];exact row_max a1
  · show (s.channels.map _).length≤_;rw [List.length_map];exact row_max d1
  · show (s.funcs.map _).length≤_;rw [List.length_map];exact row_max f1
  · rw [hpl];exact mp
end
end Go.Proofs.YtpcniebkabkikaaGreatDoor
namespace Go.Proofs.YtpcniebkabkikaaGreatDoor
open Go
open Go.Proofs.Syn (K Ex Sx De Ar Fx mk4 nm1 lbNs lbIx)
end Go.Proofs.YtpcniebkabkikaaGreatDoor
namespace Go.Proofs.YtpcniebkabkikaaGreatDoor
open Go
open Go.Proofs.Syn (K Ex Tm Sx De Ar Fx mk4 nm1 lbNs lbIx tx nest)
section
variable {ns:List (List Nat)}
end
section
end
end Go.Proofs.YtpcniebkabkikaaGreatDoor
namespace Go.Proofs.YtpcniebkabkikaaGreatDoor
open Go
open Go.Proofs.Syn (K Ex Tm Sx De Ar Fx mk4 nm1 lbNs lbIx tx nest FnOk)
section
variable {ns:List (List Nat)}
end
end Go.Proofs.YtpcniebkabkikaaGreatDoor
namespace Go.Proofs.Syn
section
variable {T:Nat→Option K} {F N:Nat}
def FnLe (N:Nat) (g:Fn):Prop:=g.body.length≤N+1∧∀ s ∈ g.body,∀ e ∈ s.exprs,e.length≤N
end
end Go.Proofs.Syn
namespace Go.Proofs.Syn
def Up {α:Type} (r r':R α):Prop:=r'=r ∨ ∃ j,r=.error (99,j)
theorem Up.refl {α:Type} (r:R α):Up r r:=.inl rfl
section
variable {T:Nat→Option K} {F G:Nat}
end
end Go.Proofs.Syn
namespace Go.Proofs.YtpcniebkabkikaaGreatDoor
open Go
open Go.Proofs.Syn (K Ex Tm Sx De Ar Fx FnLe)
theorem scan_lt:∀ (N:Nat) (l:List Nat),l.length≤N→(∀ c ∈ l,c<256)→∀ a,∀ t ∈ (scanL l a).1,∀ c ∈ t.text,c<256
  | _,[],_,_,a,t,ht=>by rw [scanL] at ht;exact absurd ht (by simp)
  | 0,c :: r,h,_,_,_,_=>absurd h (by simp)
  | N+1,c :: r,h,hl,a,t,ht=>by
    have hr:r.length≤N:=by simpa using h
    rw [scanL] at ht
    split at ht
    · exact scan_lt N r hr (fun d hd=>hl d (List.mem_cons_of_mem _ hd)) _ t ht
    · split at ht
      · rename_i h35
        subst h35
        exact scan_lt N _ (by have:=dropWhile_lt r;rw [List.length_cons] at this;omega) (fun d hd=>hl d ((List.dropWhile_sublist _).subset hd)) _ t ht
      · split at ht
        · exact absurd ht (by simp)
        · rename_i h0
          split at ht
          · exact absurd ht (by simp)
          · split at ht
            · exact absurd ht (by simp)
            · rcases List.mem_cons.1 ht with rfl | ht
              · exact fun d hd=>hl d (List.mem_of_mem_take hd)
              · exact scan_lt N _ (by have:=drop_lt c r _ h0;rw [List.length_cons] at this;omega) (fun d hd=>hl d (List.mem_of_mem_drop hd)) _ t ht
theorem bl_byte (s:ByteArray):∀ c ∈ bl s,c<256:=by
  intro c hc
  unfold bl at hc
  obtain ⟨u,_,rfl⟩:=List.mem_map.1 hc
  exact u.toNat_lt
theorem its_is (s:ByteArray):(itsOf s).map It.key=allItems s:=its_key fun x hx=>bl_sb (by
  unfold allItems at hx
  split at hx
  · rw [List.mem_singleton.1 hx];exact fun c hc=>by cases hc
  · unfold itemsOf at hx
    rcases List.mem_append.1 hx with hx | hx
    · obtain ⟨t,ht,rfl⟩:=List.mem_map.1 hx
      exact scan_lt _ (bl s) (Nat.le_refl _) (bl_byte s) 0 t ht
    · split at hx
      · cases hx
      · rw [List.mem_singleton.1 hx];exact fun c hc=>by cases hc)
theorem tk_ok {ys:List It} (hw:Ws ys):Syn.TkOk PN (QN dgN) (Tk ys):=by
  intro i k h
  unfold Tk at h
  cases hy:ys[i]? with
  | none=>rw [hy] at h;cases h
  | some y =>
    rw [hy] at h
    obtain rfl:keyOf y=k:=by simpa using h
    have hg:=hw.1 y (List.mem_of_getElem? hy)
    have hv:=hg.val
    have hn:=hg.num
    refine ⟨fun e=>?_,fun e=>?_⟩
    · have e:y.k=1:=e
      rw [if_neg (by omega)] at hv
      rw [e,hv] at hg
      exact hg
    · have e:y.k=3:=e
      rw [if_pos e] at hv
      refine dgN_good (show y.v≤_ from ?_)
      have hm:most=9223372036854775807:=rfl
      rcases Nat.lt_or_ge most (valD (bl y.t)) with q | q
      · exact absurd ⟨e,q⟩ hn
      · omega
end Go.Proofs.YtpcniebkabkikaaGreatDoor
namespace Go.Proofs.YtpcniebkabkikaaGreatDoor
open Go
open Go.Proofs.Syn (K Ex Tm)
theorem exp_text {e:Ex} (hw:e.Wf) (hx:e.All PN (QN dgN)) {s:ByteArray} (hb:bl s=exText dgN e 0) (hs:s.size≤65536):expOf s=.ok e.flat ∨ ∃ a,expOf s=.error (51,a):=by
  obtain ⟨h1,h2⟩:=scan_ex hw hx 0
  have ha:allItems s=(scanL (bl s) 0).1.map fun t=>(t,0):=by
    rw [allItems,if_neg (by omega),itemsOf,hb,if_pos h1,List.append_nil]
  have hk:=its_is s
  rw [ha] at hk
  have h0:∀ y ∈ itsOf s,y.e=0:=by
    intro y hy
    have:y.key ∈ (itsOf s).map It.key:=List.mem_map_of_mem hy
    rw [hk] at this
    obtain ⟨t,_,e⟩:=List.mem_map.1 this
    exact (congrArg Prod.snd e).symm
  have hT:(itsOf s).map keyOf=e.tk dgN 0:=by
    have:=congrArg (fun l=>l.map fun p:Tok × Nat=>kk p.1) hk
    simp only [List.map_map] at this
    rw [hb] at this
    exact this.trans h2
  have hlen:(itsOf s).length=(e.tk dgN 0).length:=by
    have:=congrArg List.length hT
    rwa [List.length_map] at this
  have hTk:∀ i,Tk (itsOf s) i=(e.tk dgN 0)[i]?:=fun i=>by
    rw [← hT,List.getElem?_map];rfl
  have hAt:Syn.At (Tk (itsOf s)) 0 (e.tk dgN 0):=fun j x hj=>by rw [Nat.zero_add,hTk];exact hj
  have hno:Tk (itsOf s) (0+(e.tk dgN 0).length)=none:=Tk_none (by omega)
  have hst:Syn.Stop (Tk (itsOf s)) (0+(e.tk dgN 0).length) 0:=by
    have hi:∀ t,Syn.is (Tk (itsOf s)) (0+(e.tk dgN 0).length) t=false:=fun t=>by unfold Syn.is;rw [hno]
    exact ⟨fun k _ _=>Syn.opOf_no hi _,hi _⟩
  have hd:=Syn.expr_deep (F:=(itsOf s).length+1) hw hAt hst (by omega)
  unfold expOf readOf
  rw [faultOf_none (its_is s) h0]
  dsimp only
  unfold Syn.whole1
  rcases hd with hd | ⟨j,hd⟩
  · rw [hd]
    refine .inl ?_
    simp only [Syn.R.on]
    rw [hno]
    rfl
  · rw [hd]
    exact .inr ⟨_,rfl⟩
theorem exp_bare {e:Ex} (hw:e.Wf) (hx:e.All PN (QN dgN)) {s:ByteArray} (h:(bl s).count 40<(exText dgN e 0).count 40):expOf s ≠ .ok e.flat:=by
  intro hk
  unfold expOf readOf at hk
  cases hf:faultOf s with
  | some q=>rw [hf] at hk;cases hk
  | none =>
    rw [hf] at hk
    have h0:∀ x ∈ itsOf s,x.e=0:=by
      unfold faultOf at hf
      rw [Option.map_eq_none_iff,List.find?_eq_none] at hf
      intro x hx
      have:=hf x hx
      simpa using this
    obtain ⟨_,hall,hz⟩:=all_short (its_is s) h0
    have hk2:=its_is s
    rw [hall,itemsOf,if_pos hz,List.append_nil] at hk2
    have hT:(itsOf s).map keyOf=(scanL (bl s) 0).1.map kk:=by
      have:=congrArg (fun l=>l.map fun p:Tok × Nat=>kk p.1) hk2
      simp only [List.map_map] at this
      exact this
    have hTk:Tk (itsOf s)=fun i=>((scanL (bl s) 0).1.map kk)[i]?:=by
      funext i
      rw [← hT,List.getElem?_map];rfl
    rw [hTk] at hk
    cases hr:Syn.whole1 (fun i=>((scanL (bl s) 0).1.map kk)[i]?) ((itsOf s).length+1) with
    | error q=>rw [hr] at hk;cases hk
    | ok q =>
      rw [hr] at hk
      simp only [Except.ok.injEq] at hk
      unfold Syn.whole1 at hr
      obtain ⟨l,i,h1,h2⟩:=Syn.R.on_ok (show _=Except.ok (q.1,q.2) from hr)
      split at h2
      · cases h2
      · injection h2 with h2
        injection h2 with h2 _
        rw [h2,hk] at h1
        have:=bare hw hx (bl s) 0 h1
        omega
end Go.Proofs.YtpcniebkabkikaaGreatDoor
namespace Go.Proofs.YtpcniebkabkikaaGreatDoor
open Go
end Go.Proofs.YtpcniebkabkikaaGreatDoor
namespace Go.Proofs.YtpcniebkabkikaaGreatDoor
open Go
open Go.Proofs.Syn (K Ex Tm opLv opMark unMark opLv_le)
end Go.Proofs.YtpcniebkabkikaaGreatDoor
namespace Go.Proofs.YtpcniebkabkikaaGreatDoor
open Go Go.RowKit
end Go.Proofs.YtpcniebkabkikaaGreatDoor
namespace Go.Proofs.YtpcniebkabkikaaGreatDoor
open Go Go.RowKit
theorem head_at (s:ByteArray) (a:Nat) (h:a<s.size):(bl s).drop a=(s[a]).toNat :: (bl s).drop (a+1):=by
  have h1:a<(bl s).length:=by rw [bl_length];exact h
  have h2:=bl_get s a h
  rw [List.getElem?_eq_getElem h1] at h2
  rw [List.drop_eq_getElem_cons h1,Option.some.inj h2]
end Go.Proofs.YtpcniebkabkikaaGreatDoor
namespace Go.Proofs.YtpcniebkabkikaaGreatDoor
open Go Go.RowKit
end Go.Proofs.YtpcniebkabkikaaGreatDoor
namespace Go.Proofs.YtpcniebkabkikaaGreatDoor
open Go Go.RowKit Go.Proofs.Mm
open Go.Proofs.Syn (K Ex Tm opLv opMark unMark opLv_le)
end Go.Proofs.YtpcniebkabkikaaGreatDoor
namespace Go.Proofs.YtpcniebkabkikaaGreatDoor
open Go Go.RowKit Go.Proofs.Mm
open Go.Proofs.Syn (K Ex Tm opLv opMark unMark opLv_le)
section
variable {C:Cl} {W:World}
end
end Go.Proofs.YtpcniebkabkikaaGreatDoor
namespace Go.Proofs.YtpcniebkabkikaaGreatDoor
open Go Go.RowKit Go.Proofs.Mm
end Go.Proofs.YtpcniebkabkikaaGreatDoor
namespace Go.Proofs.YtpcniebkabkikaaGreatDoor
open Go Go.RowKit Go.Proofs.Mm
open Go.Proofs.Syn (K Ex Tm opLv opMark unMark opLv_le)
def TmBlk (b:Nat) (k v:Int) (s:ByteArray) (a w:World):Prop:=w.cell? ⟨b,0,none⟩=some (.int .i64 k)∧w.cell? ⟨b,1,none⟩=some (.int .i64 v)∧w.cell? ⟨b,2,none⟩=some (.string s)∧Below a.heap.size a w
theorem TmBlk.new (W:World) (k v:Int) (s:ByteArray):TmBlk W.heap.size k v s W (W.alloc (.cells #[.int .i64 k,.int .i64 v,.string s] 45)):=by
  obtain ⟨a,b,c⟩:=three_tb W k v s
  exact ⟨a,b,c,(Below.refl _ _).alloc (Nat.le_refl _) _⟩
theorem wrapI_small {m:Nat} (h:m≤9223372036854775807):IntKind.i64.wrap (m:Int)=(m:Int):=by rw [IntKind.wrap_i64];omega
section
variable {W:World} {q:Option Addr} {n c i:Nat}
end
end Go.Proofs.YtpcniebkabkikaaGreatDoor
namespace Go.Proofs.YtpcniebkabkikaaGreatDoor
open Go Go.RowKit Go.Proofs.Mm
open Go.Proofs.Syn (K Ex Tm opLv opMark unMark opLv_le)
section
variable {W:World} {q:Option Addr} {n c i:Nat}
end
end Go.Proofs.YtpcniebkabkikaaGreatDoor
namespace Go.Proofs.YtpcniebkabkikaaGreatDoor
open Go Go.RowKit Go.Proofs.Mm
open Go.Proofs.Syn (K Ex Tm opLv opMark unMark opLv_le)
section
variable {W:World} {q:Option Addr} {n c i:Nat}
end
end Go.Proofs.YtpcniebkabkikaaGreatDoor
namespace Go.Proofs.YtpcniebkabkikaaGreatDoor
open Go Go.RowKit Go.Proofs.Mm
open Go.Proofs.Syn (K Ex Tm opLv opMark unMark opLv_le)
section
variable {W:World} {q:Option Addr} {n c i:Nat}
end
end Go.Proofs.YtpcniebkabkikaaGreatDoor
namespace Go.Proofs.YtpcniebkabkikaaGreatDoor
open Go Go.RowKit Go.Proofs.Mm
open Go.Proofs.Syn (K Ex Tm opLv opMark unMark opLv_le)
section
variable {W:World} {q:Option Addr} {n c i:Nat}
end
end Go.Proofs.YtpcniebkabkikaaGreatDoor
namespace Go.Proofs.YtpcniebkabkikaaGreatDoor
open Go Go.RowKit Go.Proofs.Mm
open Go.Proofs.Syn (K Ex Tm opLv opMark unMark opLv_le)
theorem flat_pos:∀ e:Ex,1≤e.flat.length
  | .num _=>Nat.le_refl _
  | .nm _=>Nat.le_refl _
  | .idx _ _=>by rw [Ex.flat,List.length_append];exact Nat.le_add_left _ _
  | .un _ _=>by rw [Ex.flat,List.length_append];exact Nat.le_add_left _ _
  | .bin _ _ _=>by rw [Ex.flat,List.length_append];exact Nat.le_add_left _ _
theorem tm_bck {t:TmZ} (h:rightZ t=true) {x:Tm} (he:tmN t=x):t.kind=x.kind∧t.value=x.value∧bl t.name=x.name:=by
  subst he
  have hk:=right_k h
  have hv:0≤t.value:=by
    rcases hk with e | e | e | e | e
    · unfold rightZ at h
      rw [if_pos e,Bool.and_eq_true,decide_eq_true_eq] at h
      exact h.1
    · unfold rightZ at h
      rw [if_neg (by omega),if_pos (.inl e),Bool.and_eq_true,decide_eq_true_eq] at h
      omega
    · unfold rightZ at h
      rw [if_neg (by omega),if_pos (.inr e),Bool.and_eq_true,decide_eq_true_eq] at h
      omega
    · have:=(right_4 h e).1;omega
    · have:=(right_5 h e).1;omega
  refine ⟨?_,?_,rfl⟩
  · show t.kind=((t.kind.toNat:Nat):Int);omega
  · show t.value=((t.value.toNat:Nat):Int);omega
section
variable {C:Cl} {q:Option Addr} {c:Nat}
variable {W:World}
end
end Go.Proofs.YtpcniebkabkikaaGreatDoor
namespace Go.Proofs.YtpcniebkabkikaaGreatDoor
open Go
open Go.Proofs.Syn (K Ex Tm)
theorem flat_names:∀ (e:Ex),e.All PN (QN dgN)→∀ t ∈ e.flat,∀ c ∈ t.name,c<256
  | .num v,_,t,ht=>by
    obtain rfl:=List.mem_singleton.1 ht
    intro c hc;cases hc
  | .nm s,h,t,ht=>by
    obtain rfl:=List.mem_singleton.1 ht
    exact pn_lt h
  | .idx s e,h,t,ht=>by
    rcases List.mem_append.1 ht with ht | ht
    · exact flat_names e h.2 t ht
    · obtain rfl:=List.mem_singleton.1 ht
      exact pn_lt h.1
  | .un o e,h,t,ht=>by
    rcases List.mem_append.1 ht with ht | ht
    · exact flat_names e h t ht
    · obtain rfl:=List.mem_singleton.1 ht
      intro c hc;cases hc
  | .bin o a b,h,t,ht=>by
    rcases List.mem_append.1 ht with ht | ht
    · rcases List.mem_append.1 ht with ht | ht
      · exact flat_names a h.1 t ht
      · exact flat_names b h.2 t ht
    · obtain rfl:=List.mem_singleton.1 ht
      intro c hc;cases hc
theorem exp_names {s:ByteArray} {l:List Tm} (h:expOf s=.ok l):(l.map tmOf).map tmN=l:=by
  unfold expOf readOf at h
  cases hf:faultOf s with
  | some q=>rw [hf] at h;cases h
  | none =>
    rw [hf] at h
    have h0:∀ x ∈ itsOf s,x.e=0:=by
      unfold faultOf at hf
      rw [Option.map_eq_none_iff,List.find?_eq_none] at hf
      intro x hx
      have:=hf x hx
      simpa using this
    have hw:=ws_of (its_is s) h0
    cases hr:Syn.whole1 (Tk (itsOf s)) ((itsOf s).length+1) with
    | error q=>rw [hr] at h;cases h
    | ok q =>
      rw [hr] at h
      simp only [Except.ok.injEq] at h
      unfold Syn.whole1 at hr
      obtain ⟨l1,i,h1,h2⟩:=Syn.R.on_ok (show _=Except.ok (q.1,q.2) from hr)
      split at h2
      · cases h2
      · injection h2 with h2
        injection h2 with h2 _
        obtain ⟨e,hw1,he,_,hall⟩:=Syn.expr_tree (P:=PN) (Q:=QN dgN) (tk_ok hw) h1
        rw [← h,← h2,he,List.map_map]
        have hfl:=flat_names e hall
        rw [List.map_congr_left (g:=id)]
        · exact List.map_id _
        · intro t ht
          show tmN (tmOf t)=t
          have hn:=hfl t ht
          obtain ⟨kd,v,n⟩:=t
          show (⟨((kd:Nat):Int).toNat,((v:Nat):Int).toNat,bl (sb n)⟩:Tm)=_
          rw [bl_sb hn,Int.toNat_natCast,Int.toNat_natCast]
theorem tms_back {l:List TmZ} (hrt:∀ t ∈ l,rightZ t=true):(l.map tmN).map tmOf=l:=by
  rw [List.map_map,List.map_congr_left (g:=id)]
  · exact List.map_id _
  · intro t ht
    obtain ⟨h1,h2,h3⟩:=tm_bck (hrt t ht) rfl
    show tmOf (tmN t)=t
    obtain ⟨kd,v,n⟩:=t
    show (⟨((kd.toNat:Nat):Int),((v.toNat:Nat):Int),sb (bl n)⟩:TmZ)=_
    rw [sb_bl]
    simp only at h1 h2
    rw [← show kd=((kd.toNat:Nat):Int) from h1,← show v=((v.toNat:Nat):Int) from h2]
def opB (l:List Nat) (k:Nat):List Nat:=(List.range k).filter fun i=>l[i]? == some 40
theorem opB_succ (l:List Nat) (k:Nat):opB l (k+1)=opB l k++if l[k]?=some 40 then [k] else []:=by
  unfold opB
  rw [List.range_succ,List.filter_append,List.filter_cons,List.filter_nil]
  congr 1
  by_cases h:l[k]?=some 40
  · rw [if_pos (by rw [h];rfl),if_pos h]
  · rw [if_neg (by simpa using h),if_neg h]
theorem opB_mem {l:List Nat} {k i:Nat} (h:i ∈ opB l k):i<k∧l[i]?=some 40:=by
  unfold opB at h
  rw [List.mem_filter,List.mem_range] at h
  exact ⟨h.1,by simpa using h.2⟩
theorem opB_len (l:List Nat) (k:Nat):(opB l k).length≤k:=by
  unfold opB
  exact Nat.le_trans (List.length_filter_le _ _) (by simp)
theorem fewer {l:List Nat} {i j:Nat} (hi:l[i]?=some 40) (hij:i<j) (hj:j<l.length):(l.take i++[32]++((l.drop (i+1)).take (j - (i+1)))++[32]++l.drop (j+1)).count 40<l.count 40:=by
  have h1:l=l.take i++40 :: ((l.drop (i+1)).take (j - (i+1))++((l.drop (i+1)).drop (j - (i+1)))):=by
    rw [List.take_append_drop]
    have:=List.getElem?_eq_some_iff.1 hi
    obtain ⟨hlt,hx⟩:=this
    conv=>lhs;rw [← List.take_append_drop i l,List.drop_eq_getElem_cons hlt,hx]
  have h2:((l.drop (i+1)).drop (j - (i+1))).count 40 ≥ (l.drop (j+1)).count 40:=by
    rw [List.drop_drop,show i+1+(j - (i+1))=j by omega,List.drop_eq_getElem_cons hj]
    exact List.count_le_count_cons ..
  have h3:=congrArg (List.count 40) h1
  have e1:((40:Nat) == 40)=true:=rfl
  have e2:((32:Nat) == 40)=false:=rfl
  simp only [List.count_append,List.count_cons,List.count_nil,e1,e2,if_true,Bool.false_eq_true,if_false,Nat.add_zero] at h3 ⊢
  omega
end Go.Proofs.YtpcniebkabkikaaGreatDoor
namespace Go.Proofs.YtpcniebkabkikaaGreatDoor
open Go Go.RowKit Go.Proofs.Mm
open List renaming setIfInBounds_toArray→n1,set_cons_zero→n2,set_cons_succ→n3,getElem_toArray→n4,getElem_cons_zero→n5,getElem_cons_succ→n6
section
variable {C:Cl} {B b:Nat} {vp:Value} {t:List Nat} {W:World}
set_option maxRecDepth 100000 in
set_option maxHeartbeats 4000000 in
theorem source_0 (hc:PC C B) (s:SoZ) {q1 q2 q3 q4 q5:Option Addr} (c1 c2 c3 c4 c5:Nat) (h:PI C B b (.slice q1 s.principals.length c1) t W) (hs:SoR C s q1 c1 q2 q3 q4 q5) (h0:s.principals.length=0) :
    Calls Tryz.prog 33 #[.pointer (some ⟨b,0,none⟩),sov s q1 c1 q2 c2 q3 c3 q4 c4 q5 c5] W (Wrote C B b (.slice q1 s.principals.length c1) W (t++(s.globals.flatMap (kdZ [103,108,111,98,97,108,32] s.principals)++(s.arrays.flatMap (arZ s.principals)++(s.channels.flatMap (kdZ [99,104,97,110,110,101,108,32] s.principals)++s.funcs.flatMap (fnZ s.principals)))))):=by
  have hne:W.heap.size ≠ b:=by have:=h.b_lt;omega
  have HP1:=Lib.hid (h.alloc hc (soo s q1 c1 q2 c2 q3 c3 q4 c4 q5 c5))
  have HK1:=Lib.hid ((Kp.refl B (fun k=>k=b) W).alloc h.low (soo s q1 c1 q2 c2 q3 c3 q4 c4 q5 c5))
  have HX1:=Lib.hid (World.alloc_heap_new W (soo s q1 c1 q2 c2 q3 c3 q4 c4 q5 c5))
  have HC:=Lib.hid hc
  have HS:=Lib.hid hs
  obtain ⟨lv,hlv⟩:=hs.fn
  have HLV:=Lib.hid hlv
  have hmx:Tryz.prog.follows .mixedOrders=true:=by kernel_rfl
  have hgt:¬ (0:Int)<(s.principals.length:Int):=by omega
  unfold soo at HP1 HK1 HX1
  unfold sov
  clear h hc hs hlv h0
  go_enter Tryz.func33,Tryz.ntmps33
  go_upto_region 1 with fail
  generalize (W.alloc _:World)=w1 at *
  obtain ⟨d0,d1,d2,d3,d4⟩:=soo_cells HX1.out
  go_upto_region 5 with fail
  have HPd:=Lib.hid (HP1.out.all HC.out (Below.refl _ w1).drew)
  have HKd:=Lib.hid (show Kp B (fun k=>k=b) W w1.drew from HK1.out.drewN 1)
  have HXd:=Lib.hid (show w1.drew.heap[W.heap.size]?=some (soo s q1 c1 q2 c2 q3 c3 q4 c4 q5 c5) from HX1.out)
  clear d0 d1 d2 d3 d4 HP1 HK1 HX1
  have hS0:=soo_cells HXd.out
  refine wp_region_held_drew (S:=(fun w':World=>w'.cell? ⟨W.heap.size,0,none⟩=some (.slice q1 s.principals.length c1)∧w'.cell? ⟨W.heap.size,1,none⟩=some (.slice q2 s.globals.length c2)∧w'.cell? ⟨W.heap.size,2,none⟩=some (.slice q3 s.arrays.length c3)∧w'.cell? ⟨W.heap.size,3,none⟩=some (.slice q4 s.channels.length c4)∧w'.cell? ⟨W.heap.size,4,none⟩=some (.slice q5 s.funcs.length c5))) hmx hS0 (fun hHeld=>?_)
  refine wpAnyH_take (i:=0) (v:=.pointer (some ⟨b,0,none⟩)) rfl (by kernel_rfl) (by kernel_rfl) (by kernel_rfl) (fun _ _ _ h=>h) (Or.inl ⟨by rfl,fun w hSw=>by obtain ⟨s0,s1,s2,s3,s4⟩:=hSw;go_simp⟩) (by assumption) ?_
  try simp only [Act.put,n1,n2,n3,n4,n5,n6]
  refine wpAnyH_take (i:=1) (v:=.pointer (some ⟨b,0,none⟩)) rfl (by kernel_rfl) (by kernel_rfl) (by kernel_rfl) (fun _ _ _ h=>h) (Or.inl ⟨by rfl,fun w hSw=>by obtain ⟨s0,s1,s2,s3,s4⟩:=hSw;go_simp⟩) (by assumption) ?_
  try simp only [Act.put,n1,n2,n3,n4,n5,n6]
  refine wpAnyH_take (i:=3) (v:=.pointer (some ⟨W.heap.size,1,none⟩)) rfl (by kernel_rfl) (by kernel_rfl) (by kernel_rfl) (fun _ _ _ h=>h) (Or.inl ⟨by rfl,fun w hSw=>by obtain ⟨s0,s1,s2,s3,s4⟩:=hSw;go_simp⟩) (by assumption) ?_
  try simp only [Act.put,n1,n2,n3,n4,n5,n6]
  refine wpAnyH_take (i:=4) (v:=.slice q2 s.globals.length c2) rfl (by kernel_rfl) (by kernel_rfl) (by kernel_rfl) (fun _ _ _ h=>h) (Or.inl ⟨by rfl,fun w hSw=>by obtain ⟨s0,s1,s2,s3,s4⟩:=hSw;go_simp⟩) (by assumption) ?_
  try simp only [Act.put,n1,n2,n3,n4,n5,n6]
  refine wpAnyH_ready (rs:=[2]) (by kernel_rfl) (by simp) ?_
  refine AllReadyH.cons rfl (fun K1 hK1=>?_) AllReadyH.nil
  go_simp
  go_at_call 61
  refine (declLine_p (b:=b) ⟨#[103,108,111,98,97,108,32]⟩ _).mono ?_
  rintro e wz ⟨rfl,hb,hd⟩
  have HPz:=Lib.hid (HPd.out.all HC.out hb)
  have HKz:=Lib.hid (HKd.out.trans (Kp.all hb HPd.out.low))
  have HXz:=Lib.hid ((hb.block _ (heap_lt HXd.out)).trans HXd.out)
  have HDZ:=Lib.hid hd
  clear hb hd
  unfold dlC
  refine hK1.out _ _ (soo_cells HXz.out) (fun hHeld=>?_)
  try simp only [Act.put,n1,n2,n3,n4,n5,n6]
  refine wpAnyH_ready (rs:=[5]) (by kernel_rfl) (by simp) ?_
  refine AllReadyH.cons rfl (fun K2 hK2=>?_) AllReadyH.nil
  go_simp
  have HW2:=Lib.hid (kinds_p HC.out HS.out.pv HPz.out (c:=c2) s.globals HS.out.gf.2 HS.out.gl HS.out.gf.1 (by decide) HDZ.out HPd.out.b_lt)
  unfold dlC at HW2
  go_at_call 60
  refine HW2.out.mono ?_
  rintro e w2 ⟨rfl,hp,hk⟩
  have HP2:=Lib.hid hp
  have HX2:=Lib.hid (soo_kp HXz.out hk hne)
  have HK2:=Lib.hid (HKz.out.trans hk)
  clear hp hk
  refine hK2.out _ _ (soo_cells HX2.out) (fun hHeld=>?_)
  try simp only [Act.put,n1,n2,n3,n4,n5,n6]
  refine wpAnyH_done (by kernel_rfl) ?_ _
  obtain ⟨d0,d1,d2,d3,d4⟩:=soo_cells HX2.out
  have HW:=Lib.hid (arrays_p HC.out HS.out.pv HP2.out (c:=c3) s.arrays HS.out.af HS.out.ar)
  go_wp2_with fail
  go_at_call 62
  refine HW.out.mono ?_
  rintro e w3 ⟨rfl,hp,hk⟩
  have HP3:=Lib.hid hp
  have HX3:=Lib.hid (soo_kp HX2.out hk hne)
  have HK3:=Lib.hid (HK2.out.trans hk)
  clear hp hk d0 d1 d2 d3 d4 HW HX2 HK2 HP2
  obtain ⟨d0,d1,d2,d3,d4⟩:=soo_cells HX3.out
  go_upto_region 7 with fail
  have HPd:=Lib.hid (HP3.out.all HC.out (Below.refl _ w3).drew)
  have HKd:=Lib.hid (show Kp B (fun k=>k=b) W w3.drew from HK3.out.drewN 1)
  have HXd:=Lib.hid (show w3.drew.heap[W.heap.size]?=some (soo s q1 c1 q2 c2 q3 c3 q4 c4 q5 c5) from HX3.out)
  clear d0 d1 d2 d3 d4 HP3 HK3 HX3
  have hS0:=soo_cells HXd.out
  refine wp_region_held_drew (S:=(fun w':World=>w'.cell? ⟨W.heap.size,0,none⟩=some (.slice q1 s.principals.length c1)∧w'.cell? ⟨W.heap.size,1,none⟩=some (.slice q2 s.globals.length c2)∧w'.cell? ⟨W.heap.size,2,none⟩=some (.slice q3 s.arrays.length c3)∧w'.cell? ⟨W.heap.size,3,none⟩=some (.slice q4 s.channels.length c4)∧w'.cell? ⟨W.heap.size,4,none⟩=some (.slice q5 s.funcs.length c5))) hmx hS0 (fun hHeld=>?_)
  refine wpAnyH_take (i:=0) (v:=.pointer (some ⟨b,0,none⟩)) rfl (by kernel_rfl) (by kernel_rfl) (by kernel_rfl) (fun _ _ _ h=>h) (Or.inl ⟨by rfl,fun w hSw=>by obtain ⟨s0,s1,s2,s3,s4⟩:=hSw;go_simp⟩) (by assumption) ?_
  try simp only [Act.put,n1,n2,n3,n4,n5,n6]
  refine wpAnyH_take (i:=1) (v:=.pointer (some ⟨b,0,none⟩)) rfl (by kernel_rfl) (by kernel_rfl) (by kernel_rfl) (fun _ _ _ h=>h) (Or.inl ⟨by rfl,fun w hSw=>by obtain ⟨s0,s1,s2,s3,s4⟩:=hSw;go_simp⟩) (by assumption) ?_
  try simp only [Act.put,n1,n2,n3,n4,n5,n6]
  refine wpAnyH_take (i:=3) (v:=.pointer (some ⟨W.heap.size,3,none⟩)) rfl (by kernel_rfl) (by kernel_rfl) (by kernel_rfl) (fun _ _ _ h=>h) (Or.inl ⟨by rfl,fun w hSw=>by obtain ⟨s0,s1,s2,s3,s4⟩:=hSw;go_simp⟩) (by assumption) ?_
  try simp only [Act.put,n1,n2,n3,n4,n5,n6]
  refine wpAnyH_take (i:=4) (v:=.slice q4 s.channels.length c4) rfl (by kernel_rfl) (by kernel_rfl) (by kernel_rfl) (fun _ _ _ h=>h) (Or.inl ⟨by rfl,fun w hSw=>by obtain ⟨s0,s1,s2,s3,s4⟩:=hSw;go_simp⟩) (by assumption) ?_
  try simp only [Act.put,n1,n2,n3,n4,n5,n6]
  refine wpAnyH_ready (rs:=[2]) (by kernel_rfl) (by simp) ?_
  refine AllReadyH.cons rfl (fun K1 hK1=>?_) AllReadyH.nil
  go_simp
  go_at_call 61
  refine (declLine_p (b:=b) ⟨#[99,104,97,110,110,101,108,32]⟩ _).mono ?_
  rintro e wz ⟨rfl,hb,hd⟩
  have HPz:=Lib.hid (HPd.out.all HC.out hb)
  have HKz:=Lib.hid (HKd.out.trans (Kp.all hb HPd.out.low))
  have HXz:=Lib.hid ((hb.block _ (heap_lt HXd.out)).trans HXd.out)
  have HDZ:=Lib.hid hd
  clear hb hd
  unfold dlC
  refine hK1.out _ _ (soo_cells HXz.out) (fun hHeld=>?_)
  try simp only [Act.put,n1,n2,n3,n4,n5,n6]
  refine wpAnyH_ready (rs:=[5]) (by kernel_rfl) (by simp) ?_
  refine AllReadyH.cons rfl (fun K2 hK2=>?_) AllReadyH.nil
  go_simp
  have HW2:=Lib.hid (kinds_p HC.out HS.out.pv HPz.out (c:=c4) s.channels HS.out.cf.2 HS.out.ch HS.out.cf.1 (by decide) HDZ.out HPd.out.b_lt)
  unfold dlC at HW2
  go_at_call 60
  refine HW2.out.mono ?_
  rintro e w4 ⟨rfl,hp,hk⟩
  have HP4:=Lib.hid hp
  have HX4:=Lib.hid (soo_kp HXz.out hk hne)
  have HK4:=Lib.hid (HKz.out.trans hk)
  clear hp hk
  refine hK2.out _ _ (soo_cells HX4.out) (fun hHeld=>?_)
  try simp only [Act.put,n1,n2,n3,n4,n5,n6]
  refine wpAnyH_done (by kernel_rfl) ?_ _
  obtain ⟨d0,d1,d2,d3,d4⟩:=soo_cells HX4.out
  have HW:=Lib.hid (funcs_p HC.out HS.out.pv HP4.out (c:=c5) s.funcs HS.out.ff HLV.out)
  go_wp2_with fail
  go_at_call 64
  refine HW.out.mono ?_
  rintro e w5 ⟨rfl,hp,hk⟩
  have HP5:=Lib.hid hp
  have HX5:=Lib.hid (soo_kp HX4.out hk hne)
  have HK5:=Lib.hid (HK4.out.trans hk)
  clear hp hk d0 d1 d2 d3 d4 HW HX4 HK4 HP4
  go_wp2_with fail
  first | go_end0 | refine bodyPost_ret (results_none rfl _ _ _) rfl ?_
  refine ⟨rfl,?_,HK5.out⟩
  have hp:=HP5.out
  have e1:bl ⟨#[112,114,105,110,99,105,112,97,108,32]⟩=[112,114,105,110,99,105,112,97,108,32]:=rfl
  have e2:bl ⟨#[32]⟩=[32]:=rfl
  have e3:bl ⟨#[59,10]⟩=[59,10]:=rfl
  have e4:bl ⟨#[103,108,111,98,97,108,32]⟩=[103,108,111,98,97,108,32]:=rfl
  have e5:bl ⟨#[99,104,97,110,110,101,108,32]⟩=[99,104,97,110,110,101,108,32]:=rfl
  simpa [List.append_assoc,e1,e2,e3,e4,e5] using hp
end
end Go.Proofs.YtpcniebkabkikaaGreatDoor
namespace Go.Proofs.YtpcniebkabkikaaGreatDoor
open Go Go.RowKit Go.Proofs.Mm
open List renaming setIfInBounds_toArray→n1,set_cons_zero→n2,set_cons_succ→n3,getElem_toArray→n4,getElem_cons_zero→n5,getElem_cons_succ→n6
section
variable {C:Cl} {B b:Nat} {vp:Value} {t:List Nat} {W:World}
set_option maxRecDepth 100000 in
set_option maxHeartbeats 4000000 in
theorem source_1 (hc:PC C B) (s:SoZ) {q1 q2 q3 q4 q5:Option Addr} (c1 c2 c3 c4 c5:Nat) (h:PI C B b (.slice q1 s.principals.length c1) t W) (hs:SoR C s q1 c1 q2 q3 q4 q5) (h0:s.principals.length ≠ 0) :
    Calls Tryz.prog 33 #[.pointer (some ⟨b,0,none⟩),sov s q1 c1 q2 c2 q3 c3 q4 c4 q5 c5] W (Wrote C B b (.slice q1 s.principals.length c1) W (t++(([112,114,105,110,99,105,112,97,108,32]++(sepZ [32] bl s.principals++[59,10]))++(s.globals.flatMap (kdZ [103,108,111,98,97,108,32] s.principals)++(s.arrays.flatMap (arZ s.principals)++(s.channels.flatMap (kdZ [99,104,97,110,110,101,108,32] s.principals)++s.funcs.flatMap (fnZ s.principals))))))):=by
  have hne:W.heap.size ≠ b:=by have:=h.b_lt;omega
  have HP1:=Lib.hid (h.alloc hc (soo s q1 c1 q2 c2 q3 c3 q4 c4 q5 c5))
  have HK1:=Lib.hid ((Kp.refl B (fun k=>k=b) W).alloc h.low (soo s q1 c1 q2 c2 q3 c3 q4 c4 q5 c5))
  have HX1:=Lib.hid (World.alloc_heap_new W (soo s q1 c1 q2 c2 q3 c3 q4 c4 q5 c5))
  have HC:=Lib.hid hc
  have HS:=Lib.hid hs
  obtain ⟨lv,hlv⟩:=hs.fn
  have HLV:=Lib.hid hlv
  have hmx:Tryz.prog.follows .mixedOrders=true:=by kernel_rfl
  have hgt:(0:Int)<(s.principals.length:Int):=by omega
  unfold soo at HP1 HK1 HX1
  unfold sov
  clear h hc hs hlv h0
  go_enter Tryz.func33,Tryz.ntmps33
  go_upto_region 1 with fail
  generalize (W.alloc _:World)=w1 at *
  obtain ⟨d0,d1,d2,d3,d4⟩:=soo_cells HX1.out
  have HW:=Lib.hid (word_p HC.out HP1.out ⟨#[112,114,105,110,99,105,112,97,108,32]⟩ (by decide))
  go_wp2_with fail
  go_at_call 57
  refine HW.out.mono ?_
  rintro e w2 ⟨rfl,hp,hk⟩
  have HP2:=Lib.hid hp
  have HX2:=Lib.hid (soo_kp HX1.out hk hne)
  have HK2:=Lib.hid (HK1.out.trans hk)
  clear hp hk d0 d1 d2 d3 d4 HW HX1 HK1 HP1
  obtain ⟨d0,d1,d2,d3,d4⟩:=soo_cells HX2.out
  go_upto_region 3 with fail
  have HPd:=Lib.hid (HP2.out.all HC.out (Below.refl _ w2).drew)
  have HKd:=Lib.hid (show Kp B (fun k=>k=b) W w2.drew from HK2.out.drewN 1)
  have HXd:=Lib.hid (show w2.drew.heap[W.heap.size]?=some (soo s q1 c1 q2 c2 q3 c3 q4 c4 q5 c5) from HX2.out)
  clear d0 d1 d2 d3 d4 HP2 HK2 HX2
  have hS0:=soo_cells HXd.out
  refine wp_region_held_drew (S:=(fun w':World=>w'.cell? ⟨W.heap.size,0,none⟩=some (.slice q1 s.principals.length c1)∧w'.cell? ⟨W.heap.size,1,none⟩=some (.slice q2 s.globals.length c2)∧w'.cell? ⟨W.heap.size,2,none⟩=some (.slice q3 s.arrays.length c3)∧w'.cell? ⟨W.heap.size,3,none⟩=some (.slice q4 s.channels.length c4)∧w'.cell? ⟨W.heap.size,4,none⟩=some (.slice q5 s.funcs.length c5))) hmx hS0 (fun hHeld=>?_)
  refine wpAnyH_take (i:=0) (v:=.pointer (some ⟨b,0,none⟩)) rfl (by kernel_rfl) (by kernel_rfl) (by kernel_rfl) (fun _ _ _ h=>h) (Or.inl ⟨by rfl,fun w hSw=>by obtain ⟨s0,s1,s2,s3,s4⟩:=hSw;go_simp⟩) (by assumption) ?_
  try simp only [Act.put,n1,n2,n3,n4,n5,n6]
  refine wpAnyH_take (i:=1) (v:=.pointer (some ⟨b,0,none⟩)) rfl (by kernel_rfl) (by kernel_rfl) (by kernel_rfl) (fun _ _ _ h=>h) (Or.inl ⟨by rfl,fun w hSw=>by obtain ⟨s0,s1,s2,s3,s4⟩:=hSw;go_simp⟩) (by assumption) ?_
  try simp only [Act.put,n1,n2,n3,n4,n5,n6]
  refine wpAnyH_take (i:=3) (v:=.pointer (some ⟨b,0,none⟩)) rfl (by kernel_rfl) (by kernel_rfl) (by kernel_rfl) (fun _ _ _ h=>h) (Or.inl ⟨by rfl,fun w hSw=>by obtain ⟨s0,s1,s2,s3,s4⟩:=hSw;go_simp⟩) (by assumption) ?_
  try simp only [Act.put,n1,n2,n3,n4,n5,n6]
  refine wpAnyH_take (i:=4) (v:=.func (.func 57) #[.pointer (some ⟨b,0,none⟩)] #[]) rfl (by kernel_rfl) (by kernel_rfl) (by kernel_rfl) (fun _ _ _ h=>h) (Or.inl ⟨by rfl,fun w hSw=>by obtain ⟨s0,s1,s2,s3,s4⟩:=hSw;go_simp⟩) (by assumption) ?_
  try simp only [Act.put,n1,n2,n3,n4,n5,n6]
  refine wpAnyH_take (i:=5) (v:=.pointer (some ⟨W.heap.size,0,none⟩)) rfl (by kernel_rfl) (by kernel_rfl) (by kernel_rfl) (fun _ _ _ h=>h) (Or.inl ⟨by rfl,fun w hSw=>by obtain ⟨s0,s1,s2,s3,s4⟩:=hSw;go_simp⟩) (by assumption) ?_
  try simp only [Act.put,n1,n2,n3,n4,n5,n6]
  refine wpAnyH_take (i:=6) (v:=.slice q1 s.principals.length c1) rfl (by kernel_rfl) (by kernel_rfl) (by kernel_rfl) (fun _ _ _ h=>h) (Or.inl ⟨by rfl,fun w hSw=>by obtain ⟨s0,s1,s2,s3,s4⟩:=hSw;go_simp⟩) (by assumption) ?_
  try simp only [Act.put,n1,n2,n3,n4,n5,n6]
  refine wpAnyH_ready (rs:=[2]) (by kernel_rfl) (by simp) ?_
  refine AllReadyH.cons rfl (fun K1 hK1=>?_) AllReadyH.nil
  go_simp
  go_at_call 59
  refine (between_p HC.out HPd.out ⟨#[32]⟩).mono ?_
  rintro e wz ⟨rfl,hpz,hb,hst,hsz⟩
  have HSEP:=Lib.hid (sepStr_p HC.out HPd.out (c:=c1) s.principals HS.out.pf.2 HS.out.pr (Ki:=57) (fi:=#[.pointer (some ⟨b,0,none⟩)]) (ci:=#[]) (enters_of Tryz.func57 (by kernel_rfl) rfl) (f:=bl) (fun k hk x wr t' hx hp _=>word_p HC.out hp x (HS.out.pf.1 x (by rw [← hx];exact List.getElem_mem hk))) ⟨#[32]⟩ (by decide) rfl hpz hb hst hsz)
  have HXz:=Lib.hid ((hb.block _ (heap_lt HXd.out)).trans HXd.out)
  clear hpz hb hst hsz
  unfold btC at HSEP ⊢
  refine hK1.out _ _ (soo_cells HXz.out) (fun hHeld=>?_)
  try simp only [Act.put,n1,n2,n3,n4,n5,n6]
  refine wpAnyH_ready (rs:=[7]) (by kernel_rfl) (by simp) ?_
  refine AllReadyH.cons rfl (fun K2 hK2=>?_) AllReadyH.nil
  go_simp
  go_at_call 58
  refine HSEP.out.mono ?_
  rintro e w3 ⟨rfl,hp,hkW⟩
  have HP3:=Lib.hid hp
  have HX3:=Lib.hid (soo_kp HXd.out hkW hne)
  have HK3:=Lib.hid (HKd.out.trans hkW)
  clear hp hkW
  refine hK2.out _ _ (soo_cells HX3.out) (fun hHeld=>?_)
  try simp only [Act.put,n1,n2,n3,n4,n5,n6]
  refine wpAnyH_done (by kernel_rfl) ?_ _
  obtain ⟨d0,d1,d2,d3,d4⟩:=soo_cells HX3.out
  have HW:=Lib.hid (word_p HC.out HP3.out ⟨#[59,10]⟩ (by decide))
  go_wp2_with fail
  go_at_call 57
  refine HW.out.mono ?_
  rintro e w4 ⟨rfl,hp,hk⟩
  have HP4:=Lib.hid hp
  have HX4:=Lib.hid (soo_kp HX3.out hk hne)
  have HK4:=Lib.hid (HK3.out.trans hk)
  clear hp hk d0 d1 d2 d3 d4 HW HX3 HK3 HP3
  obtain ⟨d0,d1,d2,d3,d4⟩:=soo_cells HX4.out
  go_upto_region 5 with fail
  have HPd:=Lib.hid (HP4.out.all HC.out (Below.refl _ w4).drew)
  have HKd:=Lib.hid (show Kp B (fun k=>k=b) W w4.drew from HK4.out.drewN 1)
  have HXd:=Lib.hid (show w4.drew.heap[W.heap.size]?=some (soo s q1 c1 q2 c2 q3 c3 q4 c4 q5 c5) from HX4.out)
  clear d0 d1 d2 d3 d4 HP4 HK4 HX4
  have hS0:=soo_cells HXd.out
  refine wp_region_held_drew (S:=(fun w':World=>w'.cell? ⟨W.heap.size,0,none⟩=some (.slice q1 s.principals.length c1)∧w'.cell? ⟨W.heap.size,1,none⟩=some (.slice q2 s.globals.length c2)∧w'.cell? ⟨W.heap.size,2,none⟩=some (.slice q3 s.arrays.length c3)∧w'.cell? ⟨W.heap.size,3,none⟩=some (.slice q4 s.channels.length c4)∧w'.cell? ⟨W.heap.size,4,none⟩=some (.slice q5 s.funcs.length c5))) hmx hS0 (fun hHeld=>?_)
  refine wpAnyH_take (i:=0) (v:=.pointer (some ⟨b,0,none⟩)) rfl (by kernel_rfl) (by kernel_rfl) (by kernel_rfl) (fun _ _ _ h=>h) (Or.inl ⟨by rfl,fun w hSw=>by obtain ⟨s0,s1,s2,s3,s4⟩:=hSw;go_simp⟩) (by assumption) ?_
  try simp only [Act.put,n1,n2,n3,n4,n5,n6]
  refine wpAnyH_take (i:=1) (v:=.pointer (some ⟨b,0,none⟩)) rfl (by kernel_rfl) (by kernel_rfl) (by kernel_rfl) (fun _ _ _ h=>h) (Or.inl ⟨by rfl,fun w hSw=>by obtain ⟨s0,s1,s2,s3,s4⟩:=hSw;go_simp⟩) (by assumption) ?_
  try simp only [Act.put,n1,n2,n3,n4,n5,n6]
  refine wpAnyH_take (i:=3) (v:=.pointer (some ⟨W.heap.size,1,none⟩)) rfl (by kernel_rfl) (by kernel_rfl) (by kernel_rfl) (fun _ _ _ h=>h) (Or.inl ⟨by rfl,fun w hSw=>by obtain ⟨s0,s1,s2,s3,s4⟩:=hSw;go_simp⟩) (by assumption) ?_
  try simp only [Act.put,n1,n2,n3,n4,n5,n6]
  refine wpAnyH_take (i:=4) (v:=.slice q2 s.globals.length c2) rfl (by kernel_rfl) (by kernel_rfl) (by kernel_rfl) (fun _ _ _ h=>h) (Or.inl ⟨by rfl,fun w hSw=>by obtain ⟨s0,s1,s2,s3,s4⟩:=hSw;go_simp⟩) (by assumption) ?_
  try simp only [Act.put,n1,n2,n3,n4,n5,n6]
  refine wpAnyH_ready (rs:=[2]) (by kernel_rfl) (by simp) ?_
  refine AllReadyH.cons rfl (fun K1 hK1=>?_) AllReadyH.nil
  go_simp
  go_at_call 61
  refine (declLine_p (b:=b) ⟨#[103,108,111,98,97,108,32]⟩ _).mono ?_
  rintro e wz ⟨rfl,hb,hd⟩
  have HPz:=Lib.hid (HPd.out.all HC.out hb)
  have HKz:=Lib.hid (HKd.out.trans (Kp.all hb HPd.out.low))
  have HXz:=Lib.hid ((hb.block _ (heap_lt HXd.out)).trans HXd.out)
  have HDZ:=Lib.hid hd
  clear hb hd
  unfold dlC
  refine hK1.out _ _ (soo_cells HXz.out) (fun hHeld=>?_)
  try simp only [Act.put,n1,n2,n3,n4,n5,n6]
  refine wpAnyH_ready (rs:=[5]) (by kernel_rfl) (by simp) ?_
  refine AllReadyH.cons rfl (fun K2 hK2=>?_) AllReadyH.nil
  go_simp
  have HW2:=Lib.hid (kinds_p HC.out HS.out.pv HPz.out (c:=c2) s.globals HS.out.gf.2 HS.out.gl HS.out.gf.1 (by decide) HDZ.out HPd.out.b_lt)
  unfold dlC at HW2
  go_at_call 60
  refine HW2.out.mono ?_
  rintro e w5 ⟨rfl,hp,hk⟩
  have HP5:=Lib.hid hp
  have HX5:=Lib.hid (soo_kp HXz.out hk hne)
  have HK5:=Lib.hid (HKz.out.trans hk)
  clear hp hk
  refine hK2.out _ _ (soo_cells HX5.out) (fun hHeld=>?_)
  try simp only [Act.put,n1,n2,n3,n4,n5,n6]
  refine wpAnyH_done (by kernel_rfl) ?_ _
  obtain ⟨d0,d1,d2,d3,d4⟩:=soo_cells HX5.out
  have HW:=Lib.hid (arrays_p HC.out HS.out.pv HP5.out (c:=c3) s.arrays HS.out.af HS.out.ar)
  go_wp2_with fail
  go_at_call 62
  refine HW.out.mono ?_
  rintro e w6 ⟨rfl,hp,hk⟩
  have HP6:=Lib.hid hp
  have HX6:=Lib.hid (soo_kp HX5.out hk hne)
  have HK6:=Lib.hid (HK5.out.trans hk)
  clear hp hk d0 d1 d2 d3 d4 HW HX5 HK5 HP5
  obtain ⟨d0,d1,d2,d3,d4⟩:=soo_cells HX6.out
  go_upto_region 7 with fail
  have HPd:=Lib.hid (HP6.out.all HC.out (Below.refl _ w6).drew)
  have HKd:=Lib.hid (show Kp B (fun k=>k=b) W w6.drew from HK6.out.drewN 1)
  have HXd:=Lib.hid (show w6.drew.heap[W.heap.size]?=some (soo s q1 c1 q2 c2 q3 c3 q4 c4 q5 c5) from HX6.out)
  clear d0 d1 d2 d3 d4 HP6 HK6 HX6
  have hS0:=soo_cells HXd.out
  refine wp_region_held_drew (S:=(fun w':World=>w'.cell? ⟨W.heap.size,0,none⟩=some (.slice q1 s.principals.length c1)∧w'.cell? ⟨W.heap.size,1,none⟩=some (.slice q2 s.globals.length c2)∧w'.cell? ⟨W.heap.size,2,none⟩=some (.slice q3 s.arrays.length c3)∧w'.cell? ⟨W.heap.size,3,none⟩=some (.slice q4 s.channels.length c4)∧w'.cell? ⟨W.heap.size,4,none⟩=some (.slice q5 s.funcs.length c5))) hmx hS0 (fun hHeld=>?_)
  refine wpAnyH_take (i:=0) (v:=.pointer (some ⟨b,0,none⟩)) rfl (by kernel_rfl) (by kernel_rfl) (by kernel_rfl) (fun _ _ _ h=>h) (Or.inl ⟨by rfl,fun w hSw=>by obtain ⟨s0,s1,s2,s3,s4⟩:=hSw;go_simp⟩) (by assumption) ?_
  try simp only [Act.put,n1,n2,n3,n4,n5,n6]
  refine wpAnyH_take (i:=1) (v:=.pointer (some ⟨b,0,none⟩)) rfl (by kernel_rfl) (by kernel_rfl) (by kernel_rfl) (fun _ _ _ h=>h) (Or.inl ⟨by rfl,fun w hSw=>by obtain ⟨s0,s1,s2,s3,s4⟩:=hSw;go_simp⟩) (by assumption) ?_
  try simp only [Act.put,n1,n2,n3,n4,n5,n6]
  refine wpAnyH_take (i:=3) (v:=.pointer (some ⟨W.heap.size,3,none⟩)) rfl (by kernel_rfl) (by kernel_rfl) (by kernel_rfl) (fun _ _ _ h=>h) (Or.inl ⟨by rfl,fun w hSw=>by obtain ⟨s0,s1,s2,s3,s4⟩:=hSw;go_simp⟩) (by assumption) ?_
  try simp only [Act.put,n1,n2,n3,n4,n5,n6]
  refine wpAnyH_take (i:=4) (v:=.slice q4 s.channels.length c4) rfl (by kernel_rfl) (by kernel_rfl) (by kernel_rfl) (fun _ _ _ h=>h) (Or.inl ⟨by rfl,fun w hSw=>by obtain ⟨s0,s1,s2,s3,s4⟩:=hSw;go_simp⟩) (by assumption) ?_
  try simp only [Act.put,n1,n2,n3,n4,n5,n6]
  refine wpAnyH_ready (rs:=[2]) (by kernel_rfl) (by simp) ?_
  refine AllReadyH.cons rfl (fun K1 hK1=>?_) AllReadyH.nil
  go_simp
  go_at_call 61
  refine (declLine_p (b:=b) ⟨#[99,104,97,110,110,101,108,32]⟩ _).mono ?_
  rintro e wz ⟨rfl,hb,hd⟩
  have HPz:=Lib.hid (HPd.out.all HC.out hb)
  have HKz:=Lib.hid (HKd.out.trans (Kp.all hb HPd.out.low))
  have HXz:=Lib.hid ((hb.block _ (heap_lt HXd.out)).trans HXd.out)
  have HDZ:=Lib.hid hd
  clear hb hd
  unfold dlC
  refine hK1.out _ _ (soo_cells HXz.out) (fun hHeld=>?_)
  try simp only [Act.put,n1,n2,n3,n4,n5,n6]
  refine wpAnyH_ready (rs:=[5]) (by kernel_rfl) (by simp) ?_
  refine AllReadyH.cons rfl (fun K2 hK2=>?_) AllReadyH.nil
  go_simp
  have HW2:=Lib.hid (kinds_p HC.out HS.out.pv HPz.out (c:=c4) s.channels HS.out.cf.2 HS.out.ch HS.out.cf.1 (by decide) HDZ.out HPd.out.b_lt)
  unfold dlC at HW2
  go_at_call 60
  refine HW2.out.mono ?_
  rintro e w7 ⟨rfl,hp,hk⟩
  have HP7:=Lib.hid hp
  have HX7:=Lib.hid (soo_kp HXz.out hk hne)
  have HK7:=Lib.hid (HKz.out.trans hk)
  clear hp hk
  refine hK2.out _ _ (soo_cells HX7.out) (fun hHeld=>?_)
  try simp only [Act.put,n1,n2,n3,n4,n5,n6]
  refine wpAnyH_done (by kernel_rfl) ?_ _
  obtain ⟨d0,d1,d2,d3,d4⟩:=soo_cells HX7.out
  have HW:=Lib.hid (funcs_p HC.out HS.out.pv HP7.out (c:=c5) s.funcs HS.out.ff HLV.out)
  go_wp2_with fail
  go_at_call 64
  refine HW.out.mono ?_
  rintro e w8 ⟨rfl,hp,hk⟩
  have HP8:=Lib.hid hp
  have HX8:=Lib.hid (soo_kp HX7.out hk hne)
  have HK8:=Lib.hid (HK7.out.trans hk)
  clear hp hk d0 d1 d2 d3 d4 HW HX7 HK7 HP7
  go_wp2_with fail
  first | go_end0 | refine bodyPost_ret (results_none rfl _ _ _) rfl ?_
  refine ⟨rfl,?_,HK8.out⟩
  have hp:=HP8.out
  have e1:bl ⟨#[112,114,105,110,99,105,112,97,108,32]⟩=[112,114,105,110,99,105,112,97,108,32]:=rfl
  have e2:bl ⟨#[32]⟩=[32]:=rfl
  have e3:bl ⟨#[59,10]⟩=[59,10]:=rfl
  have e4:bl ⟨#[103,108,111,98,97,108,32]⟩=[103,108,111,98,97,108,32]:=rfl
  have e5:bl ⟨#[99,104,97,110,110,101,108,32]⟩=[99,104,97,110,110,101,108,32]:=rfl
  simpa [List.append_assoc,e1,e2,e3,e4,e5] using hp
end
end Go.Proofs.YtpcniebkabkikaaGreatDoor
namespace Go.Proofs.YtpcniebkabkikaaGreatDoor
open Go Go.RowKit Go.Proofs.Mm
theorem cellsByte:Tryz.prog.cellsOf 5=1:=by kernel_rfl
section
variable {B b:Nat} {vp:Value} {lg:Bool} {acc:List Nat} {w:World}
set_option maxHeartbeats 2000000 in
set_option maxRecDepth 100000 in
theorem string_w (h:WrC B b vp lg acc w) (hBw:B≤w.heap.size):Calls Tryz.prog 34 #[.pointer (some ⟨b,0,none⟩)] w fun e w'=>e=.returned (.string (sb acc))∧Below B w w'∧Lib.OthersKept 5 none w w':=by
  obtain ⟨hB,p,v,hbk,hp,hown,hne⟩:=h
  have hmx:Tryz.prog.follows .mixedOrders=true:=by kernel_rfl
  have u1:=run_underlying Tryz.underlying109
  have u2:=run_underlying Tryz.underlying3
  have u3:=run_underlying Tryz.underlying9
  have u4:=run_underlying Tryz.underlying77
  have hUS:=fun (w:World) (p:Option Addr)=>Lib.run_unsafeString_none (P:=Tryz.prog) (w:=w) 109 3 9 p
  have hlen:acc.length=(sb acc).data.toList.length:=by unfold sb;simp
  rcases hown.2 with ⟨rfl,h0⟩ | ⟨g,cap,cur,fz,rfl,hbg,hg,hfz,hnc,hcm,hcs,htake⟩
  · have ha:acc=[]:=List.eq_nil_of_length_eq_zero h0
    subst ha
    have c1:w.drew.cell? ⟨b,1,none⟩=some (.slice none 0 0):=cell_of (w:=w.drew) hbk rfl
    have hSD:(Builtin.unsafeSliceData_ #[77] 109 #[.slice none 0 0]).run Tryz.prog w.drew=.ok (.pointer none) w.drew:=rfl
    clear hbk hown hne hp
    go_enter Tryz.func34,Tryz.ntmps34
    go_wp2
    go_region_o
    all_goals (go_wp2;go_ret;exact ⟨rfl,Below.drew (Below.refl B w),(Lib.OthersKept.refl _ _ w).drew⟩)
  · by_cases h0:acc=[]
    · subst h0
      by_cases hc0:cap=0
      · subst hc0
        have c1:w.drew.cell? ⟨b,1,none⟩=some (.slice (some ⟨g,0,none⟩) 0 0):=cell_of (w:=w.drew) hbk rfl
        have hlt:=heap_lt hbk
        have hSD:(Builtin.unsafeSliceData_ #[77] 109 #[.slice (some ⟨g,0,none⟩) 0 0]).run Tryz.prog w.drew=.ok (.pointer (some ⟨w.drew.heap.size,0,none⟩)) (w.drew.alloc (.view ⟨g,0,none⟩ 5)) :=
          Lib.run_unsafeSliceData_zero w.drew _ _ 5 Tryz.underlying109 ⟨g,0,none⟩ 0 (5,cur.size) (by have hg':w.drew.heap[g]?=some (.cells cur 5 fz):=hg;simp [World.shape?,hg'])
        have c2:(w.drew.alloc (.view ⟨g,0,none⟩ 5)).cell? ⟨b,1,none⟩=some (.slice (some ⟨g,0,none⟩) 0 0):=by
          have:(w.drew.alloc (.view ⟨g,0,none⟩ 5)).heap[b]?=_:=(Lib.alloc_old w.drew _ b hlt).trans hbk
          rw [Lib.cell_of_heap this];rfl
        have c3:(w.alloc (.view ⟨g,0,none⟩ 5)).drew.cell? ⟨b,1,none⟩=some (.slice (some ⟨g,0,none⟩) 0 0):=c2
        have c0:w.cell? ⟨b,1,none⟩=some (.slice (some ⟨g,0,none⟩) 0 0):=c1
        clear hbk hown hne hp
        go_enter Tryz.func34,Tryz.ntmps34
        go_wp2
        go_region_o
        all_goals (go_wp2;go_ret;exact ⟨rfl,(Below.drew (Below.refl B w)).alloc hBw _,(Lib.OthersKept.refl _ _ w).drew.alloc _⟩)
      · have c1:w.drew.cell? ⟨b,1,none⟩=some (.slice (some ⟨g,0,none⟩) 0 cap):=cell_of (w:=w.drew) hbk rfl
        have hSD:(Builtin.unsafeSliceData_ #[77] 109 #[.slice (some ⟨g,0,none⟩) 0 cap]).run Tryz.prog w.drew=.ok (.pointer (some ⟨g,0,none⟩)) w.drew :=
          Lib.run_unsafeSliceData_row _ _ _ _ _ _ hc0
        clear hc0 hbk hown hne hp
        go_enter Tryz.func34,Tryz.ntmps34
        go_wp2
        go_region_o
        all_goals (go_wp2;go_ret;exact ⟨rfl,Below.drew (Below.refl B w),(Lib.OthersKept.refl _ _ w).drew⟩)
    · obtain ⟨l,hl⟩:∃ l,(sb acc).data.toList=l:=⟨_,rfl⟩
      have hne0:l ≠ []:=by rintro rfl;rw [hl] at hlen;exact h0 (List.eq_nil_of_length_eq_zero (by simpa using hlen))
      have hl0:l.length ≠ 0:=by simpa using hne0
      have hsb:sb acc=⟨l.toArray⟩:=by rw [← hl]
      rw [hl] at hlen
      rw [hsb]
      rw [hlen] at hbk hnc hfz htake
      have c1:w.drew.cell? ⟨b,1,none⟩=some (.slice (some ⟨g,0,none⟩) l.length cap):=cell_of (w:=w.drew) hbk rfl
      have hSD:(Builtin.unsafeSliceData_ #[77] 109 #[.slice (some ⟨g,0,none⟩) l.length cap]).run Tryz.prog w.drew=.ok (.pointer (some ⟨g,0,none⟩)) w.drew :=
        Lib.run_unsafeSliceData_row _ _ _ _ _ _ (by omega)
      have hUS2:(Builtin.unsafeString_ #[109,3] 9 #[.pointer (some ⟨g,0,none⟩),.int .i64 l.length]).run Tryz.prog w.drew=.ok (.string ⟨l.toArray⟩) (w.drew.freeze ⟨g,0,none⟩ l.length):=by
        refine Lib.run_unsafeString_row w.drew 109 3 9 5 Tryz.underlying109 cellsByte g cur.size (by have hg':w.drew.heap[g]?=some (.cells cur 5 fz):=hg;simp [World.shape?,hg']) l hne0 (by omega) (by unfold maxLen at hcm;omega) ?_
        intro j x hx
        have hxs:(Lib.strCells (sb acc))[j]?=some (.int .u8 x.toNat):=by
          rw [Lib.strCells_eq,hl];simp [Lib.byteCells,hx]
        exact hown.cells (g:=g) rfl j _ hxs
      have HGC:=Lib.hid (show ∃ c fz,w.drew.heap[g]?=some (.cells c 5 fz) from ⟨cur,fz,hg⟩)
      clear hbk hown hne hp hUS hsb
      go_enter Tryz.func34,Tryz.ntmps34
      go_wp2
      go_region_o
      all_goals (go_wp2;go_ret;exact ⟨rfl,Lib.below_freeze (Below.drew (Below.refl B w)) (p:=⟨g,0,none⟩) hbg _,(Lib.OthersKept.refl _ _ w).drew.freeze ⟨g,0,none⟩ _ HGC.out⟩)
end
end Go.Proofs.YtpcniebkabkikaaGreatDoor
namespace Go.Proofs.YtpcniebkabkikaaGreatDoor
open Go Go.RowKit Go.Proofs.Mm
def Readz (s:SoZ):Prop:=∃ so,srcOf (sb (soZ s))=.ok so∧soOf so=s
def SrcRes (s:SoZ) (W:World) (e:Ending) (w':World):Prop:=Below W.heap.size W w' ∧
  ((65536<(soZ s).length∧e=.returned (.tuple #[.string ⟨#[]⟩,.int .i64 3])) ∨
   (¬ 65536<(soZ s).length∧(∃ z,bl z=soZ s)∧((Readz s∧e=.returned (.tuple #[.string (sb (soZ s)),.int .i64 0])) ∨ (¬ Readz s∧e=.returned (.tuple #[.string ⟨#[]⟩,.int .i64 1])))))
section
variable {C:Cl} {B b:Nat} {W:World} {q1 q2 q3 q4 q5:Option Addr}
theorem src_src (hc:PC C B) (s:SoZ) (c1 c2 c3 c4 c5:Nat) (h:PI C B b (.slice q1 s.principals.length c1) [] W) (hs:SoR C s q1 c1 q2 q3 q4 q5) :
    Calls Tryz.prog 33 #[.pointer (some ⟨b,0,none⟩),sov s q1 c1 q2 c2 q3 c3 q4 c4 q5 c5] W (Wrote C B b (.slice q1 s.principals.length c1) W (soZ s)):=by
  by_cases h0:s.principals.length=0
  · have:=source_0 hc s c1 c2 c3 c4 c5 h hs h0
    unfold soZ
    rw [if_pos h0]
    exact this
  · have:=source_1 hc s c1 c2 c3 c4 c5 h hs h0
    unfold soZ
    rw [if_neg h0]
    exact this
theorem same_read {D:Cl} (so:Syn.So) (s:SoZ) {c1 c2 c3 c4 c5 d1 d2 d3 d4 d5:Nat} {r1 r2 r3 r4 r5:Option Addr} (hs:SoR C (soOf so) q1 c1 q2 q3 q4 q5) (ht:SoR D s r1 d1 r2 r3 r4 r5) (hC:CLe C (wC W)) (hD:CLe D (wC W)) :
    Calls Tryz.prog 35 #[.agg #[.slice q1 so.principals.length c1,.slice q2 so.globals.length c2,.slice q3 so.arrays.length c3,.slice q4 so.channels.length c4,.slice q5 so.funcs.length c5],sov s r1 d1 r2 d2 r3 d3 r4 d4 r5 d5] W (SaysB (soOf so=s) W):=by
  have h:=sameSource_p (c2:=c2) (c3:=c3) (c4:=c4) (c5:=c5) (d2:=d2) (d3:=d3) (d4:=d4) (d5:=d5) (soOf so) s hs ht hC hD
  have e1:(soOf so).principals.length=so.principals.length:=List.length_map ..
  have e2:(soOf so).globals.length=so.globals.length:=List.length_map ..
  have e3:(soOf so).arrays.length=so.arrays.length:=List.length_map ..
  have e4:(soOf so).channels.length=so.channels.length:=List.length_map ..
  have e5:(soOf so).funcs.length=so.funcs.length:=List.length_map ..
  unfold sov at h ⊢
  rw [e1,e2,e3,e4,e5] at h
  exact h
set_option maxRecDepth 100000 in
set_option maxHeartbeats 4000000 in
theorem source_p (s:SoZ) (c1 c2 c3 c4 c5:Nat) (hs:SoR C s q1 c1 q2 q3 q4 q5) (hC:CLe C (wC W)) (hE:EnvP W) (hfit:¬ 65536<(soZ s).length→∀ so,srcOf (sb (soZ s))=.ok so→SoFit so) :
    Calls Tryz.prog 9 #[sov s q1 c1 q2 c2 q3 c3 q4 c4 q5 c5] W (SrcRes s W):=by
  have hc:PC C W.heap.size:=⟨fun a v e=>World.block_lt_of_cell? _ _ (hC a v e),hE.lt⟩
  have hbA:Below W.heap.size W (W.alloc (soo s q1 c1 q2 c2 q3 c3 q4 c4 q5 c5)):=(Below.refl _ _).alloc (Nat.le_refl _) _
  have hbB:Below W.heap.size W ((W.alloc (soo s q1 c1 q2 c2 q3 c3 q4 c4 q5 c5)).alloc (.cells #[.pointer none,.slice none 0 0,.bool false,.slice q1 s.principals.length c1] 81)):=hbA.alloc (by rw [World.size_alloc];omega) _
  have hX:=heap_new _ (.cells #[.pointer none,.slice none 0 0,.bool false,.slice q1 s.principals.length c1] 81) (World.alloc_heap_new W (soo s q1 c1 q2 c2 q3 c3 q4 c4 q5 c5))
  have hbw:=World.alloc_heap_new (W.alloc (soo s q1 c1 q2 c2 q3 c3 q4 c4 q5 c5)) (.cells #[.pointer none,.slice none 0 0,.bool false,.slice q1 s.principals.length c1] 81)
  rw [World.size_alloc] at hbw
  have hpi:PI C W.heap.size (W.heap.size+1) (.slice q1 s.principals.length c1) [] ((W.alloc (soo s q1 c1 q2 c2 q3 c3 q4 c4 q5 c5)).alloc (.cells #[.pointer none,.slice none 0 0,.bool false,.slice q1 s.principals.length c1] 81)) :=
    ⟨hc.rd hC hbB,hE.all hbB,⟨false,[],⟨by omega,_,_,hbw,.inl rfl,⟨rfl,.inl ⟨rfl,rfl⟩⟩,by simp [Value.ownBlock]⟩,by simp,.inl ⟨rfl,rfl,⟨⟨#[]⟩,rfl⟩⟩⟩,hbB.size⟩
  have HSRC:=Lib.hid (src_src hc s c1 c2 c3 c4 c5 hpi hs)
  have HX:=Lib.hid hX
  have HC:=Lib.hid hc
  have HCC:=Lib.hid hC
  have HS:=Lib.hid hs
  have HE:=Lib.hid hE
  have HBB:=Lib.hid hbB
  have HFIT:=Lib.hid hfit
  unfold sov at HSRC ⊢
  unfold soo at HX HSRC HBB
  clear hc hbA hbB hX hbw hpi hs hC hE hfit
  go_enter Tryz.func9,Tryz.ntmps9
  go_wp2_with fail
  go_at_call 33
  refine HSRC.out.mono ?_
  rintro e w2 ⟨rfl,hp,hk⟩
  have hX2:=hk.heap HX.out (by omega) (by decide)
  have HX2:=Lib.hid hX2
  have HB2:=Lib.hid (HBB.out.trans hk.below)
  have HP2:=Lib.hid hp
  obtain ⟨lg,acc,hw,hl,hx⟩:=hp.wr
  obtain ⟨z2,_⟩:=hw.raw
  clear hX2 hk hp
  rcases hx with ⟨rfl,rfl,hz⟩ | ⟨rfl,hlong⟩
  · have hnl:¬ 65536<(soZ s).length:=by omega
    have HST:=Lib.hid (string_w hw HP2.out.low)
    have HNL:=Lib.hid hnl
    have HZ:=Lib.hid hz
    clear hw hl hnl hz
    go_wp2_with fail
    go_at_call 34
    refine HST.out.mono ?_
    rintro e w3 ⟨rfl,hb3,hk3⟩
    have HX3:=Lib.hid (hk3 _ _ HX2.out (by simp) (by intro c fz e;cases e))
    have HB3:=Lib.hid (HB2.out.trans hb3)
    have HPA:=Lib.hid (parse_any (sb (soZ s)) w3 (HE.out.all HB3.out).lex (m:=fun _=>none) (fun _ _ e=>by cases e))
    clear hb3 hk3 HST HX2 HP2 HB2 z2
    go_wp2_with fail
    go_at_call 25
    refine HPA.out.mono ?_
    intro e w4 hres
    obtain ⟨hb4,⟨er,a,hsrc,rfl⟩ | ⟨so,p1,a1,p2,a2,p3,a3,p4,a4,p5,a5,m',hsrc,rfl,hso,_,hhas⟩⟩:=hres.cases
    · have HB4:=Lib.hid (on_below HB3.out hb4)
      have HNR:=Lib.hid (show ¬ Readz s from fun ⟨so,h,_⟩=>by rw [hsrc] at h;cases h)
      clear hb4 hres hsrc HPA HX3 HB3
      go_wp2_with fail
      go_ret2
      exact ⟨(HB4.out.alloc HB4.out.size _).alloc (by rw [World.size_alloc];have:=HB4.out.size;omega) _,.inr ⟨HNL.out,HZ.out,.inr ⟨HNR.out,rfl⟩⟩⟩
    · have HB4:=Lib.hid (on_below HB3.out hb4)
      have hx4:=(hb4.block _ (heap_lt HX3.out)).trans HX3.out
      have hB6:Below W.heap.size W ((w4.alloc (.cells #[.slice p1 so.principals.length a1,.slice p2 so.globals.length a2,.slice p3 so.arrays.length a3,.slice p4 so.channels.length a4,.slice p5 so.funcs.length a5] 27)).alloc (.cells #[.int .i64 0,.int .i64 0,.int .i64 0] 61)):=(HB4.out.alloc HB4.out.size _).alloc (by rw [World.size_alloc];have:=HB4.out.size;omega) _
      have hb6:Below w4.heap.size w4 ((w4.alloc (.cells #[.slice p1 so.principals.length a1,.slice p2 so.globals.length a2,.slice p3 so.arrays.length a3,.slice p4 so.channels.length a4,.slice p5 so.funcs.length a5] 27)).alloc (.cells #[.int .i64 0,.int .i64 0,.int .i64 0] 61)):=((Below.refl _ _).alloc (Nat.le_refl _) _).alloc (by rw [World.size_alloc];omega) _
      have HSM:=Lib.hid (fun w (h1:Below W.heap.size W w) (h2:Below w4.heap.size w4 w)=>same_read (W:=w) (c2:=a2) (c3:=a3) (c4:=a4) (c5:=a5) (d2:=c2) (d3:=c3) (d4:=c4) (d5:=c5) so s (so_SoR (SoM.rows hso) (HFIT.out HNL.out so hsrc)) HS.out ((has_cle hhas).trans (below_cle h2)) (HCC.out.trans (below_cle h1)))
      have HB6:=Lib.hid hB6
      have HB6b:=Lib.hid hb6
      have HX6:=Lib.hid ((hb6.block _ (heap_lt hx4)).trans hx4)
      have HRZ:=Lib.hid (show Readz s ↔ soOf so=s from ⟨fun ⟨x,h,e⟩=>by rw [hsrc] at h;injection h with h;rw [h];exact e,fun e=>⟨so,hsrc,e⟩⟩)
      unfold sov at HSM
      clear hb4 hres hsrc hso hhas hx4 hB6 hb6 HPA HX3 HB3
      obtain ⟨x0,x1,x2,x3,x4⟩:=soo_cells HX6.out
      go_wp2_with fail
      go_at_call 35
      refine (HSM.out _ HB6.out HB6b.out).mono ?_
      rintro e w7 ⟨p,rfl,hp,hb7⟩
      have HB7:=Lib.hid (on_below HB6.out hb7)
      have HP:=Lib.hid hp
      clear hb7 hp x0 x1 x2 x3 x4 HB6 HB6b HX6 HSM
      cases p
      · go_wp2_with fail
        go_ret2
        exact ⟨HB7.out,.inr ⟨HNL.out,HZ.out,.inr ⟨fun h=>(by have:=HP.out.2 (HRZ.out.1 h);cases this),rfl⟩⟩⟩
      · go_wp2_with fail
        go_ret2
        exact ⟨HB7.out,.inr ⟨HNL.out,HZ.out,.inl ⟨HRZ.out.2 (HP.out.1 (by first | rfl | trivial)),rfl⟩⟩⟩
  · have HLONG:=Lib.hid hlong
    clear hw hl hlong
    go_wp2_with fail
    go_ret2
    exact ⟨HB2.out,.inl ⟨HLONG.out,rfl⟩⟩
end
end Go.Proofs.YtpcniebkabkikaaGreatDoor
namespace Go.Proofs.YtpcniebkabkikaaGreatDoor
open Go Go.RowKit Go.Proofs.Mm
def gvT:ByteArray:=⟨(((([112,114,105,110,99,105,112,97,108,32,97,32,98,59,10,103,108,111,98,97,108,32,120,32,123,97,125,59,10,97,114,114,97]:List UInt8).append [121,32,116,32,52,32,123,125,59,10,99,104,97,110,110,101,108,32,99,32,123,97,32,98,125,59,10,102,117,110,99,32,102,32]).append ([123,125,32,40,112,32,123,125,44,32,113,32,123,97,125,41,32,40,123,125,44,32,123,97,125,41,32,123,10,32,32,118,97].append [114,32,118,32,123,125,59,10,32,32,118,32,61,32,112,32,43,32,49,59,10,32,32,116,91,118,93,32,61,32,112,59,10,32])).append (([32,105,102,32,112,32,60,32,50,32,123,10,32,32,32,32,115,101,110,100,32,99,32,113,59,10,32,32,125,32,101,108,115].append [101,32,123,10,32,32,32,32,119,104,105,108,101,32,118,32,123,10,32,32,32,32,32,32,118,44,32,120,32,61,32,102,40,118]).append ([32,45,32,49,44,32,48,41,59,10,32,32,32,32,125,10,32,32,125,10,32,32,114,101,116,117,114,110,32,118,44,32,113].append [59,10,125,10,102,117,110,99,32,103,32,123,125,32,40,41,32,40,41,32,123,10,32,32,114,101,116,117,114,110,59,10,125,10]))).toArray⟩
def gvS:Syn.So:=⟨[[97],[98]],[⟨[120],1⟩],[⟨[116],4,0⟩],[⟨[99],3⟩],[⟨[102],0,[⟨[112],0⟩,⟨[113],1⟩],[0,1],[⟨[118],0⟩],[⟨1,[],[[118]],[[⟨2,0,[112]⟩,⟨1,1,[]⟩,⟨5,1,[]⟩]]⟩,⟨2,[116],[],[[⟨2,0,[118]⟩],[⟨2,0,[112]⟩]]⟩,⟨5,[],[],[[⟨2,0,[112]⟩,⟨1,2,[]⟩,⟨5,13,[]⟩]]⟩,⟨3,[99],[],[[⟨2,0,[113]⟩]]⟩,⟨6,[],[],[]⟩,⟨7,[],[],[[⟨2,0,[118]⟩]]⟩,⟨4,[102],[[118],[120]],[[⟨2,0,[118]⟩,⟨1,1,[]⟩,⟨5,2,[]⟩],[⟨1,0,[]⟩]]⟩,⟨8,[],[],[]⟩,⟨8,[],[],[]⟩,⟨9,[],[],[[⟨2,0,[118]⟩],[⟨2,0,[113]⟩]]⟩]⟩,⟨[103],0,[],[],[],[⟨9,[],[],[]⟩]⟩]⟩
set_option maxRecDepth 100000 in
theorem gv_read:srcOf gvT=.ok gvS:=by
  unfold srcOf
  rw [readOf_F _ _ (by decide +kernel)]
  exact okIs_eq (by decide +kernel)
set_option maxRecDepth 100000 in
theorem gv_fit:SoFit gvS:=by unfold SoFit FnFit StFit ExFit;decide +kernel
set_option maxRecDepth 100000 in
theorem gv_text:soZ (soOf gvS)=bl gvT:=by decide +kernel
theorem gv_sb:sb (soZ (soOf gvS))=gvT:=by rw [gv_text,sb_bl]
theorem gv_len:¬ 65536<(soZ (soOf gvS)).length:=by rw [gv_text,bl_length];decide +kernel
theorem gv_readz:Readz (soOf gvS):=⟨gvS,by rw [gv_sb];exact gv_read,rfl⟩
theorem gv_fits (so:Syn.So) (h:srcOf (sb (soZ (soOf gvS)))=.ok so):SoFit so:=by
  rw [gv_sb,gv_read] at h
  injection h with h
  rw [← h];exact gv_fit
end Go.Proofs.YtpcniebkabkikaaGreatDoor
namespace Go.Proofs.YtpcniebkabkikaaGreatDoor
open Go Go.RowKit Go.Proofs.Mm
theorem given_p (W:World):Calls Tryz.prog 42 #[] W fun e w'=>e=.returned (.string gvT)∧Below W.heap.size W w':=by
  go_enter Tryz.func42,Tryz.ntmps42
  go_wp2
  go_ret
  exact ⟨rfl,Below.refl _ _⟩
set_option maxRecDepth 100000 in
theorem name_t (x:ByteArray) (W:World):Calls Tryz.prog 19 #[.string x] W fun e w'=>e=.returned (tv ⟨2,0,x⟩)∧Below W.heap.size W w':=by
  go_enter Tryz.func19,Tryz.ntmps19
  go_wp2
  exact bodyPost_ret (v:=tv ⟨2,0,x⟩) (by simp [results,Tryz.results19,go_sem,tv]) rfl ⟨rfl,(Below.refl _ _).alloc (Nat.le_refl _) _⟩
set_option maxRecDepth 100000 in
theorem bin_t (x:Int) (W:World):Calls Tryz.prog 21 #[.int .i64 x] W fun e w'=>e=.returned (tv ⟨5,x,⟨#[]⟩⟩)∧Below W.heap.size W w':=by
  go_enter Tryz.func21,Tryz.ntmps21
  go_wp2
  exact bodyPost_ret (v:=tv ⟨5,x,⟨#[]⟩⟩) (by simp [results,Tryz.results21,go_sem,tv]) rfl ⟨rfl,(Below.refl _ _).alloc (Nat.le_refl _) _⟩
def tmCs (l:List TmZ):List Value:=l.flatMap tmZ
def TmAt (W:World) (g:Nat) (l:List TmZ):Prop:=W.heap[g]?=some (.cells (tmCs l).toArray 45 (0,0))
theorem tmCs_enc:∀ l:List TmZ,Enc (fun c t=>c=tmZ t) (tmCs l) l
  | []=>rfl
  | t :: l=>⟨tmZ t,tmCs l,by unfold tmCs;rw [List.flatMap_cons],rfl,tmCs_enc l⟩
theorem TmAt.row {W:World} {g:Nat} {l:List TmZ} (h:TmAt W g l):TmRow (wC W) (some ⟨g,0,none⟩) l:=by
  intro j hj
  have hr:RdO (wC W) (some ⟨g,0,none⟩) (tmCs l):=.inr ⟨g,0,rfl,fun k u hu=>by
    rw [Nat.zero_add]
    exact cell_of h (by rw [List.getElem?_toArray];exact hu)⟩
  obtain ⟨g',o,c,h1,rfl,h2⟩:=rdC (size:=3) (fun c x e=>by rw [e];rfl) hr (tmCs_enc l) j hj (by decide)
  exact ⟨g',o,h1,h2 0 _ (by decide) rfl,h2 1 _ (by decide) rfl,h2 2 _ (by decide) rfl⟩
def txZ (l:List TmZ):List Nat:=if wholeZ l then exZ l else [110,111,110,101]
section
variable {C:Cl} {W:World}
set_option maxRecDepth 100000 in
set_option maxHeartbeats 1000000 in
theorem text_t (l:List TmZ) (hf:ExF l) {q:Option Addr} {c:Nat} (hrow:TmRow C q l) (hc:c≤maxLen) (hlc:l.length≤c) (hr:CLe C (wC W)) (hE:EnvP W) :
    Calls Tryz.prog 20 #[.slice q l.length c] W fun e w'=>∃ s,e=.returned (.string s)∧bl s=txZ l∧Below W.heap.size W w':=by
  have HX:=Lib.hid (expr_p l hf hrow hc hlc hr hE)
  have HT:=Lib.hid (show txZ l=_ from rfl)
  have HN:=Lib.hid (show wholeZ l=false→exZ l=[] from fun h=>by unfold exZ;rw [h];rfl)
  obtain ⟨n,hn⟩:∃ n,l.length=n:=⟨_,rfl⟩
  rw [hn] at HX ⊢
  clear hf hrow hc hlc hr hE hn
  cases hb:wholeZ l with
  | false =>
    rw [hb] at HX
    have HE:=Lib.hid (HN.out hb)
    have HB:=Lib.hid hb
    clear hb
    go_enter Tryz.func20,Tryz.ntmps20
    go_wp2_with fail
    go_at_call 14
    refine HX.out.mono ?_
    rintro e w1 ⟨s,rfl,hs,hb1⟩
    have hs0:s=⟨#[]⟩:=bl_inj (by rw [hs,HE.out];rfl)
    subst hs0
    have HB1:=Lib.hid hb1
    clear hb1 hs
    go_wp2_with fail
    go_ret
    exact ⟨_,rfl,by unfold txZ;rw [HB.out];rfl,HB1.out⟩
  | true =>
    rw [hb] at HX
    have HB:=Lib.hid hb
    clear hb
    go_enter Tryz.func20,Tryz.ntmps20
    go_wp2_with fail
    go_at_call 14
    refine HX.out.mono ?_
    rintro e w1 ⟨s,rfl,hs,hb1⟩
    have HB1:=Lib.hid hb1
    have HS:=Lib.hid hs
    clear hb1 hs
    go_wp2_with fail
    go_ret
    exact ⟨_,rfl,by unfold txZ;rw [HB.out];exact HS.out,HB1.out⟩
end
end Go.Proofs.YtpcniebkabkikaaGreatDoor
namespace Go.Proofs.YtpcniebkabkikaaGreatDoor
open Go Go.RowKit Go.Proofs.Mm
theorem name_l (x:ByteArray) (W:World):Calls Tryz.prog 19 #[.string x] W fun e w'=>e=.returned (.agg #[.int .i64 2,.int .i64 0,.string x])∧Below W.heap.size W w':=name_t x W
theorem bin_l (x:Int) (W:World):Calls Tryz.prog 21 #[.int .i64 x] W fun e w'=>e=.returned (.agg #[.int .i64 5,.int .i64 x,.string ⟨#[]⟩])∧Below W.heap.size W w':=bin_t x W
def awL:List TmZ:=[⟨2,0,⟨#[97]⟩⟩,⟨2,0,⟨#[98]⟩⟩,⟨5,1,⟨#[]⟩⟩,⟨2,0,⟨#[99]⟩⟩,⟨5,3,⟨#[]⟩⟩]
theorem aw_text:txZ awL=[40,97,32,43,32,98,41,32,42,32,99]:=by decide +kernel
theorem aw_fit:ExF awL:=by unfold ExF TmF awL;decide +kernel
theorem source_gv {C:Cl} {W:World} {q1 q2 q3 q4 q5:Option Addr} {c1 c2 c3 c4 c5:Nat} (hs:SoR C (soOf gvS) q1 c1 q2 q3 q4 q5) (hC:CLe C (wC W)) (hE:EnvP W) :
    Calls Tryz.prog 9 #[.agg #[.slice q1 gvS.principals.length c1,.slice q2 gvS.globals.length c2,.slice q3 gvS.arrays.length c3,.slice q4 gvS.channels.length c4,.slice q5 gvS.funcs.length c5]] W fun e w'=>e=.returned (.tuple #[.string gvT,.int .i64 0])∧Below W.heap.size W w':=by
  have h:=source_p (soOf gvS) c1 c2 c3 c4 c5 hs hC hE (fun _=>gv_fits)
  have e1:(soOf gvS).principals.length=gvS.principals.length:=List.length_map ..
  have e2:(soOf gvS).globals.length=gvS.globals.length:=List.length_map ..
  have e3:(soOf gvS).arrays.length=gvS.arrays.length:=List.length_map ..
  have e4:(soOf gvS).channels.length=gvS.channels.length:=List.length_map ..
  have e5:(soOf gvS).funcs.length=gvS.funcs.length:=List.length_map ..
  unfold sov at h
  rw [e1,e2,e3,e4,e5] at h
  refine h.mono ?_
  rintro e w' ⟨hb,⟨h1,_⟩ | ⟨_,_,⟨_,h2⟩ | ⟨h2,_⟩⟩⟩
  · exact absurd h1 gv_len
  · exact ⟨by rw [h2,gv_sb],hb⟩
  · exact absurd gv_readz h2
section
variable {W:World}
set_option maxRecDepth 100000 in
set_option maxHeartbeats 4000000 in
theorem awake_p (W:World) (hE:EnvP W):Calls Tryz.prog 12 #[] W fun e w'=>e=.returned (.bool true)∧Below W.heap.size W w':=by
  have HE:=Lib.hid hE
  have hgg:(gvT.toList == gvT.toList)=true:=by simp
  clear hE
  go_enter Tryz.func12,Tryz.ntmps12
  go_wp2_with fail
  go_at_call 42
  refine (given_p _).mono ?_
  rintro e w1 ⟨rfl,hb1⟩
  have HB1:=Lib.hid hb1
  have HPA:=Lib.hid (parse_any gvT w1 (HE.out.all hb1).lex (m:=fun _=>none) (fun _ _ e=>by cases e))
  clear hb1
  go_wp2_with fail
  go_at_call 25
  refine HPA.out.mono ?_
  intro e w2 hres
  obtain ⟨hb2,⟨er,a,hsrc,rfl⟩ | ⟨so,p1,a1,p2,a2,p3,a3,p4,a4,p5,a5,m',hsrc,rfl,hso,_,hhas⟩⟩:=hres.cases
  · rw [gv_read] at hsrc;cases hsrc
  rw [gv_read] at hsrc
  injection hsrc with hsrc
  subst hsrc
  have HB2:=Lib.hid (on_below HB1.out hb2)
  have HSR:=Lib.hid (fun w (h1:Below W.heap.size W w) (h2:Below w2.heap.size w2 w)=>source_gv (W:=w) (c2:=a2) (c3:=a3) (c4:=a4) (c5:=a5) (so_SoR (SoM.rows hso) gv_fit) ((has_cle hhas).trans (below_cle h2)) (HE.out.all h1))
  clear hb2 hres hso hhas HPA HB1
  generalize gvS.principals.length=n1 at *
  generalize gvS.globals.length=n2 at *
  generalize gvS.arrays.length=n3 at *
  generalize gvS.channels.length=n4 at *
  generalize gvS.funcs.length=n5 at *
  have HB3:=Lib.hid (show Below W.heap.size W ((w2.alloc (.cells #[.slice p1 n1 a1,.slice p2 n2 a2,.slice p3 n3 a3,.slice p4 n4 a4,.slice p5 n5 a5] 27)).alloc (.cells #[.int .i64 0,.int .i64 0,.int .i64 0] 61)) from (HB2.out.alloc HB2.out.size _).alloc (by rw [World.size_alloc];have:=HB2.out.size;omega) _)
  have HB4:=Lib.hid (show Below w2.heap.size w2 ((w2.alloc (.cells #[.slice p1 n1 a1,.slice p2 n2 a2,.slice p3 n3 a3,.slice p4 n4 a4,.slice p5 n5 a5] 27)).alloc (.cells #[.int .i64 0,.int .i64 0,.int .i64 0] 61)) from ((Below.refl _ _).alloc (Nat.le_refl _) _).alloc (by rw [World.size_alloc];omega) _)
  have hflt:=World.alloc_heap_new (w2.alloc (.cells #[.slice p1 n1 a1,.slice p2 n2 a2,.slice p3 n3 a3,.slice p4 n4 a4,.slice p5 n5 a5] 27)) (.cells #[.int .i64 0,.int .i64 0,.int .i64 0] 61)
  rw [World.size_alloc] at hflt
  have HFL:=Lib.hid hflt
  clear hflt
  go_wp2_with fail
  go_at_call 9
  refine (HSR.out _ HB3.out HB4.out).mono ?_
  rintro e w5 ⟨rfl,hb5⟩
  have HB5:=Lib.hid (on_below HB3.out hb5)
  have hfl:=(hb5.block _ (heap_lt HFL.out)).trans HFL.out
  have f0:=cell_of (j:=0) hfl rfl
  have f1:=cell_of (j:=1) hfl rfl
  have f2:=cell_of (j:=2) hfl rfl
  clear hb5 hfl HB3 HB4 HSR HFL HB2
  go_wp2_with fail
  go_at_call 42
  refine (given_p _).mono ?_
  rintro e w6 ⟨rfl,hb⟩
  have HB6:=Lib.hid (on_below HB5.out hb)
  clear hb f0 f1 f2
  go_wp2_with fail
  go_at_call 19
  refine (name_l _ _).mono ?_
  rintro e w7 ⟨rfl,hb⟩
  have HB7:=Lib.hid (on_below HB6.out hb)
  clear hb
  go_wp2_with fail
  go_at_call 19
  refine (name_l _ _).mono ?_
  rintro e w8 ⟨rfl,hb⟩
  have HB8:=Lib.hid (on_below HB7.out hb)
  clear hb
  go_wp2_with fail
  go_at_call 21
  refine (bin_l _ _).mono ?_
  rintro e w9 ⟨rfl,hb⟩
  have HB9:=Lib.hid (on_below HB8.out hb)
  clear hb
  go_wp2_with fail
  go_at_call 19
  refine (name_l _ _).mono ?_
  rintro e w10 ⟨rfl,hb⟩
  have HB10:=Lib.hid (on_below HB9.out hb)
  clear hb
  go_wp2_with fail
  go_at_call 21
  refine (bin_l _ _).mono ?_
  rintro e w11 ⟨rfl,hb⟩
  have HB11:=Lib.hid (on_below HB10.out hb)
  clear hb
  have HTX:=Lib.hid (fun w (h:w=w11.alloc (.cells (tmCs awL).toArray 45))=>text_t (W:=w) (C:=wC w) awL aw_fit (c:=5) (TmAt.row (g:=w11.heap.size) (show TmAt w w11.heap.size awL from by rw [h];exact World.alloc_heap_new _ _)) (by decide) (by decide) (CLe.refl _) (HE.out.all (by rw [h];exact on_alloc HB11.out _)))
  go_wp2_with fail
  go_at_call 20
  refine (HTX.out _ rfl).mono ?_
  rintro e w12 ⟨s,rfl,hs,hb⟩
  have HB12:=Lib.hid (on_below (on_alloc HB11.out _) hb)
  have hse:s=⟨#[40,97,32,43,32,98,41,32,42,32,99]⟩:=bl_inj (by rw [hs,aw_text];rfl)
  subst hse
  clear hb hs HTX
  go_wp2_with fail
  go_ret
  exact ⟨rfl,HB12.out⟩
end
end Go.Proofs.YtpcniebkabkikaaGreatDoor
namespace Go.Proofs.YtpcniebkabkikaaGreatDoor
open Go Go.RowKit Go.Proofs.Mm
theorem infoOf {P:Program} {t:TypeId} {z:Value} {size bytes:Nat} (h:(P.info? t).map (fun i=>(i.zero,i.size,i.bytes))=some (some z,size,bytes)):∃ i,P.info? t=some i∧i.zero=some z∧i.size=size∧i.bytes=bytes:=by
  cases hi:P.info? t with
  | none=>rw [hi] at h;cases h
  | some i =>
    rw [hi] at h
    simp only [Option.map_some,Option.some.injEq,Prod.mk.injEq] at h
    exact ⟨i,rfl,h.1,h.2.1,h.2.2⟩
def deZ (d:DeZ):List Value:=[.string d.name,.int .u64 (d.label:Nat)]
def laZ (l:Nat):List Value:=[.int .u64 (l:Nat)]
def stZc (s:ByteArray):List Value:=[.string s]
def mkD (lt:Bool):List Value:=if lt then [.string ⟨#[109,97,114,107]⟩,.int .u64 0] else []
def mkL (lt:Bool):List Value:=if lt then [.int .u64 7171] else []
def DesR (lt:Bool) (C:Cl) (v:Value) (l:List DeZ):Prop:=SlX (mkD lt) 24 C (fun c t=>c=deZ t) v l
def LasR (lt:Bool) (C:Cl) (v:Value) (l:List Nat):Prop:=SlX (mkL lt) 8 C (fun c t=>c=laZ t) v l
def SttR (lt:Bool) (C:Cl) (v:Value) (l:List ByteArray):Prop:=SlX (mkS lt) 16 C (fun c t=>c=stZc t) v l
theorem str_len (c:List Value) (s:ByteArray) (h:c=stZc s):c.length=1:=by rw [h];rfl
theorem tm_len (c:List Value) (s:TmZ) (h:c=tmZ s):c.length=3:=by rw [h];rfl
theorem de_len (c:List Value) (s:DeZ) (h:c=deZ s):c.length=2:=by rw [h];rfl
theorem la_len (c:List Value) (s:Nat) (h:c=laZ s):c.length=1:=by rw [h];rfl
theorem grown_bel {B:Nat} {a w w':World} {row:Option Nat} (h:Below B a w) (hB:B≤w.heap.size) (hg:w.grownBy w' row) (hr:∀ k,row=some k→B≤k):Below B a w' :=
  h.trans ⟨hg.os,hg.tape,hg.output,hg.size,fun k hk=>hg.block k (Nat.lt_of_lt_of_le hk hB) (fun e=>absurd (hr k e.symm) (by omega))⟩
def Yes (w:World) (e:Ending) (w':World):Prop:=e=.returned (.bool true)∧∃ k,w'=w.drewN k
theorem says_true {p:Prop} {w:World} {e:Ending} {w':World} (hp:p) (h:Says p w e w'):Yes w e w':=by
  obtain ⟨b,rfl,hb,hk⟩:=h
  rw [hb.2 hp]
  exact ⟨rfl,hk⟩
theorem Yes.below {w:World} {e:Ending} {w':World} (h:Yes w e w'):e=.returned (.bool true)∧Below w.heap.size w w':=by
  obtain ⟨h1,k,rfl⟩:=h
  exact ⟨h1,Go.below_drewN (Below.refl _ _) k⟩
theorem SttR.row {lt:Bool} {C:Cl} {v:Value} {l:List ByteArray} (h:SttR lt C v l):∃ q c,v=.slice q l.length c∧StrRow C q l∧l.length≤140737488351232∧c≤maxLen∧l.length≤c:=by
  obtain ⟨q,c,_,h1,_,_,_,_,_,_,hlc⟩:=id h
  obtain ⟨q',c',h1',_,h3,h4,h5,_⟩:=SlX.at (size:=1) h (by decide) str_len
  rw [h1'] at h1
  injection h1 with e1 _ e3
  subst e1 e3
  refine ⟨q',c',h1',fun j hj=>?_,h3,h4,hlc⟩
  obtain ⟨g,o,e,hq,he,h6⟩:=h5 j hj
  subst he
  exact ⟨g,o,hq,by have:=h6 0 _ (by decide) rfl;simpa using this⟩
theorem TmsR.row {lt:Bool} {C:Cl} {v:Value} {l:List TmZ} (h:TmsR lt C v l):∃ q c,v=.slice q l.length c∧TmRow C q l∧l.length≤140737488351232∧c≤maxLen∧l.length≤c:=by
  obtain ⟨q,c,_,h1,_,_,_,_,_,_,hlc⟩:=id h
  obtain ⟨q',c',h1',_,h3,h4,h5,_⟩:=SlX.at (size:=3) h (by decide) tm_len
  rw [h1'] at h1
  injection h1 with e1 _ e3
  subst e1 e3
  refine ⟨q',c',h1',fun j hj=>?_,h3,h4,hlc⟩
  obtain ⟨g,o,e,hq,he,h6⟩:=h5 j hj
  subst he
  exact ⟨g,o,hq,by have:=h6 0 _ (by decide) rfl;exact this,by have:=h6 1 _ (by decide) rfl;rwa [← Nat.add_assoc] at this,by have:=h6 2 _ (by decide) rfl;rwa [← Nat.add_assoc] at this⟩
theorem DesR.row {lt:Bool} {C:Cl} {v:Value} {l:List DeZ} (h:DesR lt C v l):∃ q c,v=.slice q l.length c∧DeRow C q l∧l.length≤140737488351232∧c≤maxLen∧l.length≤c:=by
  obtain ⟨q,c,_,h1,_,_,_,_,_,_,hlc⟩:=id h
  obtain ⟨q',c',h1',_,h3,h4,h5,_⟩:=SlX.at (size:=2) h (by decide) de_len
  rw [h1'] at h1
  injection h1 with e1 _ e3
  subst e1 e3
  refine ⟨q',c',h1',fun j hj=>?_,h3,h4,hlc⟩
  obtain ⟨g,o,e,hq,he,h6⟩:=h5 j hj
  subst he
  exact ⟨g,o,hq,by have:=h6 0 _ (by decide) rfl;exact this,by have:=h6 1 _ (by decide) rfl;rwa [← Nat.add_assoc] at this⟩
theorem LasR.row {lt:Bool} {C:Cl} {v:Value} {l:List Nat} (h:LasR lt C v l):∃ q c,v=.slice q l.length c∧LaRow C q l∧l.length≤140737488351232∧c≤maxLen∧l.length≤c:=by
  obtain ⟨q,c,_,h1,_,_,_,_,_,_,hlc⟩:=id h
  obtain ⟨q',c',h1',_,h3,h4,h5,_⟩:=SlX.at (size:=1) h (by decide) la_len
  rw [h1'] at h1
  injection h1 with e1 _ e3
  subst e1 e3
  refine ⟨q',c',h1',fun j hj=>?_,h3,h4,hlc⟩
  obtain ⟨g,o,e,hq,he,h6⟩:=h5 j hj
  subst he
  exact ⟨g,o,hq,by have:=h6 0 _ (by decide) rfl;simpa using this⟩
end Go.Proofs.YtpcniebkabkikaaGreatDoor
namespace Go.Proofs.YtpcniebkabkikaaGreatDoor
open Go Go.RowKit Go.Proofs.Mm
open Go.Proofs.Syn (K Ex Tm)
theorem und_ints:Tryz.prog.underlying 67=some (.slice 3):=by kernel_rfl
theorem infoIn:∃ i,Tryz.prog.info? 3=some i∧i.zero=some (.int .i64 0)∧i.size=1∧i.bytes=8:=infoOf (by kernel_rfl)
section
variable {C:Cl} {W:World} {q:Option Addr} {c:Nat}
set_option maxRecDepth 100000 in
set_option maxHeartbeats 4000000 in
theorem bare_no (l:List TmZ) (hf:ExF l) (k:Int) (hrow:TmRow C q l) (hc:c≤maxLen) (hlc:l.length≤c) (hr:CLe C (wC W)) (hE:EnvP W) (hno:wholeZ l=false) :
    Calls Tryz.prog 7 #[.slice q l.length c,.int .i64 k] W fun e w'=>e=.returned (.bool true)∧Below W.heap.size W w':=by
  have HX:=Lib.hid (expr_p (W:=W) l hf hrow hc hlc hr hE)
  have HE:=Lib.hid hE
  have HN:=Lib.hid (show exZ l=[] from by unfold exZ;rw [hno];rfl)
  rw [hno] at HX
  generalize l.length=n at *
  clear hrow hr hE hc hlc hno hf
  go_enter Tryz.func7,Tryz.ntmps7
  go_wp2_with fail
  go_at_call 14
  refine HX.out.mono ?_
  rintro e w1 ⟨s,rfl,hs,hb1⟩
  have hs0:s=⟨#[]⟩:=bl_inj (by rw [hs,HN.out];rfl)
  subst hs0
  have HB1:=Lib.hid hb1
  clear hb1 hs
  go_wp2_with fail
  go_at_call 12
  refine (awake_p _ (HE.out.all HB1.out)).mono ?_
  rintro e w2 ⟨rfl,hb2⟩
  have HB2:=Lib.hid (on_below HB1.out hb2)
  clear hb2
  go_wp2_with fail
  go_ret
  exact ⟨rfl,HB2.out⟩
set_option maxRecDepth 100000 in
set_option maxHeartbeats 4000000 in
theorem bare_long (l:List TmZ) (hf:ExF l) (k:Int) (hrow:TmRow C q l) (hc:c≤maxLen) (hlc:l.length≤c) (hr:CLe C (wC W)) (hE:EnvP W) (hwh:wholeZ l=true) (hlg:2000<(exZ l).length) :
    Calls Tryz.prog 7 #[.slice q l.length c,.int .i64 k] W fun e w'=>e=.returned (.bool true)∧Below W.heap.size W w':=by
  have HX:=Lib.hid (expr_p (W:=W) l hf hrow hc hlc hr hE)
  have HE:=Lib.hid hE
  have HN:=Lib.hid (fun (s:ByteArray) (h:bl s=exZ l)=>(show (2000:Int)<(s.size:Int) from by have:=congrArg List.length h;rw [bl_length] at this;omega))
  rw [hwh] at HX
  generalize l.length=n at *
  clear hrow hr hE hc hlc hwh hf hlg
  go_enter Tryz.func7,Tryz.ntmps7
  go_wp2_with fail
  go_at_call 14
  refine HX.out.mono ?_
  rintro e w1 ⟨s,rfl,hs,hb1⟩
  have hsz:=HN.out s hs
  have HB1:=Lib.hid hb1
  clear hb1 hs
  go_wp2_with fail
  go_at_call 12
  refine (awake_p _ (HE.out.all HB1.out)).mono ?_
  rintro e w2 ⟨rfl,hb2⟩
  have HB2:=Lib.hid (on_below HB1.out hb2)
  clear hb2
  go_wp2_with fail
  go_ret
  exact ⟨rfl,HB2.out⟩
end
end Go.Proofs.YtpcniebkabkikaaGreatDoor
namespace Go.Proofs.YtpcniebkabkikaaGreatDoor
open Go Go.RowKit Go.Proofs.Mm
open Go.Proofs.Syn (K Ex Tm)
theorem says_false {p:Prop} {w:World} {e:Ending} {w':World} (hp:¬ p) (h:Says p w e w'):e=.returned (.bool false)∧Below w.heap.size w w':=by
  obtain ⟨b,rfl,hb,k,rfl⟩:=h
  have:b=false:=by
    cases b with
    | false=>rfl
    | true=>exact absurd (hb.1 rfl) hp
  rw [this]
  exact ⟨rfl,Go.below_drewN (Below.refl _ _) k⟩
theorem ne0 (d:Nat):(((d+1:Nat):Int) == 0)=false:=by rw [beq_eq_false_iff_ne];omega
section
variable {C:Cl} {w:World} {q:Option Addr} {c n:Nat} {l:List TmZ}
theorem terms_none (hn:l.length=n) (h1:1≤n) (h2:n≤2097152) (hrow:TmRow C q l) (hC:CLe C (wC w)) :
    Calls Tryz.prog 28 #[.slice none 0 0,.slice q n c] w fun e w'=>e=.returned (.bool false)∧Below w.heap.size w w':=by
  have h:=kitTm (w:=w) (l:=[]) (l':=l) (q:=none) (C:=fun _=>none) (c:=0) (c':=c) (by simp) (by omega) (fun j hj=>absurd hj (by simp)) hrow (fun _ _ e=>by cases e) hC
  rw [hn] at h
  exact h.mono fun e w' hs=>says_false (fun e=>by rw [← e] at hn;simp at hn;omega) hs
theorem terms_not {m2:Mem} {l2:List Tm} {q2:Option Addr} {c2:Nat} {S:ByteArray} {ex:Ex} (hn:l.length=n) (h2:n≤2097152) (hrow:TmRow C q l) (hC:CLe C (wC w)) (hexp:expOf S=.ok l2) (hno:expOf S ≠ .ok ex.flat) (htm:l.map tmN=ex.flat) (hM:TmM m2 (.slice q2 l2.length c2) l2) (hm:CLe (mC m2) (wC w)) (hlen:l2.length≤9223372036854775807) :
    Calls Tryz.prog 28 #[.slice q2 l2.length c2,.slice q n c] w fun e w'=>e=.returned (.bool false)∧Below w.heap.size w w':=by
  obtain ⟨q3,c3,hv,hr2,_,_⟩:=tm_rowM hM
  injection hv with e1 _ e3
  subst e1 e3
  have h:=kitTm (w:=w) (c:=c2) (c':=c) (by rw [List.length_map];exact hlen) (by omega) hr2 hrow hm hC
  rw [hn,List.length_map] at h
  refine h.mono fun e w' hs=>says_false (fun he=>hno ?_) hs
  rw [hexp,← htm,← he,exp_names hexp]
end
end Go.Proofs.YtpcniebkabkikaaGreatDoor
