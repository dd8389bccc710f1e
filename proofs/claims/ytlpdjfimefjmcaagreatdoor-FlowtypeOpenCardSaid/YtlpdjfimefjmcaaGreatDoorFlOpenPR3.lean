/- Sources that are handed in, of whatever names, labels and statements, as they read in memory, with a mark behind each row or without. The kit's lent rows: strings, terms; they read as what came in, with a mark behind, in memory of their own. The kit's lent declarations and labels: they read as what  -/
import Derived.Test.YtlpdjfimefjmcaaGreatDoorFlOpenPR2
import Derived.Lib.Hide
import Derived.Laws.AppendOwnNone
import Derived.RangeFuncRecord
open Go.Lib (hid)
namespace Go.Proofs.YtlpdjfimefjmcaaGreatDoor
open Go Go.RowKit Go.Proofs.Mm
structure DeZ where
 name:ByteArray
 label:Nat
structure ArZ where
 name:ByteArray
 len:Int
 label:Nat
structure FnZ where
 name:ByteArray
 level:Nat
 params:List DeZ
 results:List Nat
 vars:List DeZ
 body:List StZ
structure SoZ where
 principals:List ByteArray
 globals:List DeZ
 arrays:List ArZ
 channels:List DeZ
 funcs:List FnZ
instance:Inhabited DeZ:=⟨⟨⟨#[]⟩,0⟩⟩
instance:Inhabited ArZ:=⟨⟨⟨#[]⟩,0,0⟩⟩
instance:Inhabited FnZ:=⟨⟨⟨#[]⟩,0,[],[],[],[]⟩⟩
instance:Inhabited SoZ:=⟨⟨[],[],[],[],[]⟩⟩
def deZ (d:DeZ):List Value:=[.string d.name,.int .u64 (d.label:Nat)]
def laZ (l:Nat):List Value:=[.int .u64 (l:Nat)]
def arZv (a:ArZ):List Value:=[.string a.name,.int .i64 a.len,.int .u64 (a.label:Nat)]
def mkD (lt:Bool):List Value:=if lt then [.string ⟨#[109,97,114,107]⟩,.int .u64 0] else []
def mkL (lt:Bool):List Value:=if lt then [.int .u64 7171] else []
def mkA (lt:Bool):List Value:=if lt then [.string ⟨#[109,97,114,107]⟩,.int .i64 0,.int .u64 0] else []
def mkF (lt:Bool):List Value:=if lt then [.string ⟨#[109,97,114,107]⟩,.int .u64 0,.slice none 0 0,.slice none 0 0,.slice none 0 0,.slice none 0 0] else []
def u64B:Nat:=18446744073709551616
def DesR (lt:Bool) (C:Cl) (v:Value) (l:List DeZ):Prop:=SlX (mkD lt) 24 C (fun c d=>c=deZ d∧d.label<u64B) v l
def LasR (lt:Bool) (C:Cl) (v:Value) (l:List Nat):Prop:=SlX (mkL lt) 8 C (fun c x=>c=laZ x∧x<u64B) v l
def ArsR (lt:Bool) (C:Cl) (v:Value) (l:List ArZ):Prop:=SlX (mkA lt) 32 C (fun c a=>c=arZv a∧a.label<u64B) v l
def FnR1 (lt:Bool) (C:Cl) (c:List Value) (f:FnZ):Prop :=
 ∃vp vr vv vb,c=[.string f.name,.int .u64 (f.level:Nat),vp,vr,vv,vb]∧f.level<u64B∧DesR lt C vp f.params∧LasR lt C vr f.results∧DesR lt C vv f.vars∧BdR lt C vb f.body
def FnsR (lt:Bool) (C:Cl) (v:Value) (l:List FnZ):Prop:=SlX (mkF lt) 120 C (FnR1 lt C) v l
def SrcR (lt:Bool) (C:Cl) (v:Value) (s:SoZ):Prop :=
 ∃v1 v2 v3 v4 v5,v=.agg #[v1,v2,v3,v4,v5]∧StrR lt C v1 s.principals∧DesR lt C v2 s.globals∧ArsR lt C v3 s.arrays∧DesR lt C v4 s.channels∧FnsR lt C v5 s.funcs
theorem de_lenZ (c:List Value) (d:DeZ) (h:c=deZ d∧d.label<u64B):c.length=2:=by rw [h.1];rfl
theorem la_lenZ (c:List Value) (d:Nat) (h:c=laZ d∧d<u64B):c.length=1:=by rw [h.1];rfl
theorem ar_lenZ (c:List Value) (d:ArZ) (h:c=arZv d∧d.label<u64B):c.length=3:=by rw [h.1];rfl
theorem str_lenZ (c:List Value) (d:ByteArray) (h:c=[Value.string d]):c.length=1:=by rw [h];rfl
theorem tm_lenZ (c:List Value) (d:TmZ) (h:c=tmZ d):c.length=3:=by rw [h];rfl
section
variable {lt:Bool} {C D:Cl}
theorem ex_lenZ (c:List Value) (d:List TmZ) (h:ExR1 lt C c d):c.length=1:=by obtain ⟨u,rfl,_⟩:=h;rfl
theorem st_lenZ (c:List Value) (d:StZ) (h:StR1 lt C c d):c.length=4:=by obtain ⟨vt,ve,rfl,_⟩:=h;rfl
theorem fn_lenZ (c:List Value) (d:FnZ) (h:FnR1 lt C c d):c.length=6:=by obtain ⟨a,b,e,f,rfl,_⟩:=h;rfl
theorem DesR.le {v:Value} {l:List DeZ} (h:DesR lt C v l) (hc:CLe C D):DesR lt D v l:=SlX.mono h hc fun _ _ e=>e
theorem LasR.le {v:Value} {l:List Nat} (h:LasR lt C v l) (hc:CLe C D):LasR lt D v l:=SlX.mono h hc fun _ _ e=>e
theorem ArsR.le {v:Value} {l:List ArZ} (h:ArsR lt C v l) (hc:CLe C D):ArsR lt D v l:=SlX.mono h hc fun _ _ e=>e
theorem FnR1.le {c:List Value} {f:FnZ} (h:FnR1 lt C c f) (hc:CLe C D):FnR1 lt D c f:=by
 obtain ⟨vp,vr,vv,vb,e,h0,h1,h2,h3,h4⟩:=h
 exact ⟨vp,vr,vv,vb,e,h0,h1.le hc,h2.le hc,h3.le hc,h4.le hc⟩
theorem FnsR.le {v:Value} {l:List FnZ} (h:FnsR lt C v l) (hc:CLe C D):FnsR lt D v l:=SlX.mono h hc fun _ _ e=>e.le hc
theorem SrcR.le {v:Value} {s:SoZ} (h:SrcR lt C v s) (hc:CLe C D):SrcR lt D v s:=by
 obtain ⟨v1,v2,v3,v4,v5,e,h1,h2,h3,h4,h5⟩:=h
 exact ⟨v1,v2,v3,v4,v5,e,h1.le hc,h2.le hc,h3.le hc,h4.le hc,h5.le hc⟩
end
def StrAt (C:Cl) (q:Option Addr) (l:List ByteArray):Prop:=∀j (hj:j<l.length),∃g o,q=some ⟨g,o,none⟩∧C ⟨g,o+j,none⟩=some (.string l[j])
def DeAt (C:Cl) (q:Option Addr) (l:List DeZ):Prop:=∀j (hj:j<l.length),∃g o,q=some ⟨g,o,none⟩∧C ⟨g,o+j*2,none⟩=some (.string l[j].name)∧C ⟨g,o+j*2+1,none⟩=some (.int .u64 (l[j].label:Nat))∧l[j].label<u64B
def LaAt (C:Cl) (q:Option Addr) (l:List Nat):Prop:=∀j (hj:j<l.length),∃g o,q=some ⟨g,o,none⟩∧C ⟨g,o+j,none⟩=some (.int .u64 (l[j]:Nat))∧l[j]<u64B
def ArAt (C:Cl) (q:Option Addr) (l:List ArZ):Prop:=∀j (hj:j<l.length),∃g o,q=some ⟨g,o,none⟩∧C ⟨g,o+j*3,none⟩=some (.string l[j].name)∧C ⟨g,o+j*3+1,none⟩=some (.int .i64 l[j].len)∧C ⟨g,o+j*3+2,none⟩=some (.int .u64 (l[j].label:Nat))∧l[j].label<u64B
def TmAt (C:Cl) (q:Option Addr) (l:List TmZ):Prop:=∀j (hj:j<l.length),∃g o,q=some ⟨g,o,none⟩∧C ⟨g,o+j*3,none⟩=some (.int .i64 l[j].kind)∧C ⟨g,o+j*3+1,none⟩=some (.int .i64 l[j].value)∧C ⟨g,o+j*3+2,none⟩=some (.string l[j].name)
def ExAt (lt:Bool) (C:Cl) (q:Option Addr) (l:List (List TmZ)):Prop:=∀j (hj:j<l.length),∃g o qe ce,q=some ⟨g,o,none⟩∧C ⟨g,o+j,none⟩=some (.slice qe l[j].length ce)∧TmsR lt C (.slice qe l[j].length ce) l[j]
def StAt (lt:Bool) (C:Cl) (q:Option Addr) (l:List StZ):Prop:=∀j (hj:j<l.length),∃g o qt ct qe ce,q=some ⟨g,o,none⟩∧C ⟨g,o+j*4,none⟩=some (.int .i64 l[j].kind)∧C ⟨g,o+j*4+1,none⟩=some (.string l[j].name)∧C ⟨g,o+j*4+2,none⟩=some (.slice qt l[j].targets.length ct)∧C ⟨g,o+j*4+3,none⟩=some (.slice qe l[j].exprs.length ce)∧StrR lt C (.slice qt l[j].targets.length ct) l[j].targets∧ExsR lt C (.slice qe l[j].exprs.length ce) l[j].exprs
def FnLies (lt:Bool) (C:Cl) (f:FnZ) (qp:Option Addr) (cp:Nat) (qr:Option Addr) (cr:Nat) (qv:Option Addr) (cv:Nat) (qb:Option Addr) (cb:Nat):Prop :=
 f.level<u64B∧DesR lt C (.slice qp f.params.length cp) f.params∧LasR lt C (.slice qr f.results.length cr) f.results∧DesR lt C (.slice qv f.vars.length cv) f.vars∧BdR lt C (.slice qb f.body.length cb) f.body
def FnAt (lt:Bool) (C:Cl) (q:Option Addr) (l:List FnZ):Prop:=∀j (hj:j<l.length),∃g o qp cp qr cr qv cv qb cb,q=some ⟨g,o,none⟩∧C ⟨g,o+j*6,none⟩=some (.string l[j].name)∧C ⟨g,o+j*6+1,none⟩=some (.int .u64 (l[j].level:Nat)) ∧
 C ⟨g,o+j*6+2,none⟩=some (.slice qp l[j].params.length cp)∧C ⟨g,o+j*6+3,none⟩=some (.slice qr l[j].results.length cr)∧C ⟨g,o+j*6+4,none⟩=some (.slice qv l[j].vars.length cv)∧C ⟨g,o+j*6+5,none⟩=some (.slice qb l[j].body.length cb)∧FnLies lt C l[j] qp cp qr cr qv cv qb cb
theorem slx_shape {α:Type} {mk:List Value} {bs:Nat} {C:Cl} {R:List Value→α→Prop} {v:Value} {l:List α} (h:SlX mk bs C R v l):∃q c,v=.slice q l.length c:=let ⟨q,c,_,e,_⟩:=h;⟨q,c,e⟩
theorem slx_len {α:Type} {mk:List Value} {bs:Nat} {C:Cl} {R:List Value→α→Prop} {v:Value} {l:List α} (h:SlX mk bs C R v l):l.length*bs≤140737488351232:=by
 obtain ⟨_,_,_,_,_,_,_,h5,_⟩:=h;exact h5
section
variable {lt:Bool} {C:Cl} {q:Option Addr} {n c:Nat}
theorem slx_at {α:Type} {mk:List Value} {bs:Nat} {R:List Value→α→Prop} {l:List α} {size:Nat} (h:SlX mk (bs+1) C R (.slice q n c) l) (hs:0<size) (hR:∀c x,R c x→c.length=size) :
 ∀j (hj:j<l.length),∃g o e,q=some ⟨g,o,none⟩∧R e l[j]∧∀r u,r<size→e[r]?=some u→C ⟨g,o+j*size+r,none⟩=some u:=by
 intro j hj
 obtain ⟨q',c',e1,_,_,_,ha,_⟩:=h.at hs hR
 obtain ⟨rfl,_,_⟩:q=q'∧n=l.length∧c=c':=by injection e1 with a b c;exact ⟨a,b,c⟩
 obtain ⟨g,o,e,h1,h2,h3⟩:=ha j hj
 exact ⟨g,o,e,h1,h2,fun r u hr hu=>by rw [Nat.add_assoc];exact h3 r u hr hu⟩
theorem StrR.cells {l:List ByteArray} (h:StrR lt C (.slice q n c) l):StrAt C q l:=by
 intro j hj
 obtain ⟨g,o,e,h1,rfl,h3⟩:=slx_at (size:=1) h (by decide) str_lenZ j hj
 refine ⟨g,o,h1,?_⟩
 have:=h3 0 _ (by decide) rfl
 simpa using this
theorem DesR.cells {l:List DeZ} (h:DesR lt C (.slice q n c) l):DeAt C q l:=by
 intro j hj
 obtain ⟨g,o,e,h1,⟨rfl,hb⟩,h3⟩:=slx_at (size:=2) h (by decide) de_lenZ j hj
 exact ⟨g,o,h1,h3 0 _ (by decide) rfl,h3 1 _ (by decide) rfl,hb⟩
theorem LasR.cells {l:List Nat} (h:LasR lt C (.slice q n c) l):LaAt C q l:=by
 intro j hj
 obtain ⟨g,o,e,h1,⟨rfl,hb⟩,h3⟩:=slx_at (size:=1) h (by decide) la_lenZ j hj
 refine ⟨g,o,h1,?_,hb⟩
 have:=h3 0 _ (by decide) rfl
 simpa using this
theorem ArsR.cells {l:List ArZ} (h:ArsR lt C (.slice q n c) l):ArAt C q l:=by
 intro j hj
 obtain ⟨g,o,e,h1,⟨rfl,hb⟩,h3⟩:=slx_at (size:=3) h (by decide) ar_lenZ j hj
 exact ⟨g,o,h1,h3 0 _ (by decide) rfl,h3 1 _ (by decide) rfl,h3 2 _ (by decide) rfl,hb⟩
theorem TmsR.cells {l:List TmZ} (h:TmsR lt C (.slice q n c) l):TmAt C q l:=by
 intro j hj
 obtain ⟨g,o,e,h1,rfl,h3⟩:=slx_at (size:=3) h (by decide) tm_lenZ j hj
 exact ⟨g,o,h1,h3 0 _ (by decide) rfl,h3 1 _ (by decide) rfl,h3 2 _ (by decide) rfl⟩
theorem ExsR.cells {l:List (List TmZ)} (h:ExsR lt C (.slice q n c) l):ExAt lt C q l:=by
 intro j hj
 obtain ⟨g,o,e,h1,⟨u,rfl,hu⟩,h3⟩:=slx_at (size:=1) h (by decide) ex_lenZ j hj
 obtain ⟨qe,ce,rfl⟩:=slx_shape hu
 refine ⟨g,o,qe,ce,h1,?_,hu⟩
 have:=h3 0 _ (by decide) rfl
 simpa using this
theorem BdR.cells {l:List StZ} (h:BdR lt C (.slice q n c) l):StAt lt C q l:=by
 intro j hj
 obtain ⟨g,o,e,h1,⟨vt,ve,rfl,ht,he⟩,h3⟩:=slx_at (size:=4) h (by decide) st_lenZ j hj
 obtain ⟨qt,ct,rfl⟩:=slx_shape ht
 obtain ⟨qe,ce,rfl⟩:=slx_shape he
 exact ⟨g,o,qt,ct,qe,ce,h1,h3 0 _ (by decide) rfl,h3 1 _ (by decide) rfl,h3 2 _ (by decide) rfl,h3 3 _ (by decide) rfl,ht,he⟩
theorem FnsR.cells {l:List FnZ} (h:FnsR lt C (.slice q n c) l):FnAt lt C q l:=by
 intro j hj
 obtain ⟨g,o,e,h1,⟨vp,vr,vv,vb,rfl,hl,hp,hr,hv,hb⟩,h3⟩:=slx_at (size:=6) h (by decide) fn_lenZ j hj
 obtain ⟨qp,cp,rfl⟩:=slx_shape hp
 obtain ⟨qr,cr,rfl⟩:=slx_shape hr
 obtain ⟨qv,cv,rfl⟩:=slx_shape hv
 obtain ⟨qb,cb,rfl⟩:=slx_shape hb
 exact ⟨g,o,qp,cp,qr,cr,qv,cv,qb,cb,h1,h3 0 _ (by decide) rfl,h3 1 _ (by decide) rfl,h3 2 _ (by decide) rfl,h3 3 _ (by decide) rfl,h3 4 _ (by decide) rfl,h3 5 _ (by decide) rfl,hl,hp,hr,hv,hb⟩
end
theorem str_len (c:List Value) (d:ByteArray) (h:c=[Value.string d]):c.length=1:=str_lenZ c d h
theorem tm_len (c:List Value) (d:TmZ) (h:c=tmZ d):c.length=3:=tm_lenZ c d h
theorem ex_len {lt:Bool} {C:Cl} (c:List Value) (d:List TmZ) (h:ExR1 lt C c d):c.length=1:=ex_lenZ c d h
theorem st_len {lt:Bool} {C:Cl} (c:List Value) (d:StZ) (h:StR1 lt C c d):c.length=4:=st_lenZ c d h
theorem und_strs:Tryz.prog.underlying 22=some (.slice 9):=by kernel_rfl
theorem und_tms:Tryz.prog.underlying 97=some (.slice 140):=by kernel_rfl
theorem und_exs:Tryz.prog.underlying 45=some (.slice 97):=by kernel_rfl
theorem und_sts:Tryz.prog.underlying 41=some (.slice 47):=by kernel_rfl
theorem infoOf {P:Program} {t:TypeId} {z:Value} {size bytes:Nat} (h:(P.info? t).map (fun i=>(i.zero,i.size,i.bytes))=some (some z,size,bytes)):∃i,P.info? t=some i∧i.zero=some z∧i.size=size∧i.bytes=bytes:=by
 cases hi:P.info? t with
 | none=>rw [hi] at h;cases h
 | some i =>
  rw [hi] at h
  simp only [Option.map_some,Option.some.injEq,Prod.mk.injEq] at h
  exact ⟨i,rfl,h.1,h.2.1,h.2.2⟩
theorem infoSr:∃i,Tryz.prog.info? 9=some i∧i.zero=some (.string ⟨#[]⟩)∧i.size=1∧i.bytes=16:=infoOf (by kernel_rfl)
theorem infoTz:∃i,Tryz.prog.info? 140=some i∧i.zero=some (.agg #[.int .i64 0,.int .i64 0,.string ⟨#[]⟩])∧i.size=3∧i.bytes=32:=infoOf (by kernel_rfl)
theorem infoEz:∃i,Tryz.prog.info? 97=some i∧i.zero=some (.slice none 0 0)∧i.size=1∧i.bytes=24:=infoOf (by kernel_rfl)
theorem infoSz:∃i,Tryz.prog.info? 47=some i∧i.zero=some (.agg #[.int .i64 0,.string ⟨#[]⟩,.slice none 0 0,.slice none 0 0])∧i.size=4∧i.bytes=72:=infoOf (by kernel_rfl)
theorem lent_done {α:Type} {w w':World} {m:Mem} {E:TypeId} {size bs n c:Nat} {q:Option Addr} {cs mk:List Value} {R:Mem→List Value→α→Prop} {l:List α} (hm:Has w' m) (hv:∀k,(Value.slice q (n+1) c).ownBlock=some k→m k=none)
 (hrow:w'.ownsRow w.heap.size E size (.slice q (n+1) c) (n+1) (cs++mk)) (hl:l.length=n) (he:Enc (R m) cs l) (hR:∀m m':Mem,m.le m'→∀c x,R m c x→R m' c x) (hb:n*bs≤140737488351232) :
 ∃m',m.More w m'∧Has w' m'∧SlX mk bs (mC m') (R m') (.slice q n c) l:=by
 have hcap:n+1≤c∧c≤maxLen∧q≠none:=by
  rcases hrow.2 with ⟨_,h0⟩|⟨g',cap',cur,h0,_,_,h1,h2,_⟩
  ·omega
  ·injection h0 with h3 _ h4
   subst h4
   exact ⟨h1,h2,by rw [h3];simp⟩
 obtain ⟨m',h1,h2,h3,h4⟩:=RowM.done hrow hm hv
 refine ⟨m',⟨h1,fun k hk hlt=>?_⟩,h3,q,c,cs,by rw [hl],.inr (by omega),RowM.rdO h4,he.mono (hR _ _ h1),by rw [hl];exact hb,hcap.2.1,fun h=>absurd h hcap.2.2,by omega⟩
 cases hx:m' k with
 | none=>rfl
 | some o =>
  rcases h2 k (by rw [hx];simp) with h|h
  ·exact absurd hk h
  ·have:=(hrow.lt k h).1
   omega
theorem has_grown {w w':World} {m:Mem} (h:Has w m) (hb:Below w.heap.size w w'):Has w' m:=fun k o e=>by
 have:=h k o e
 rw [hb.block k (heap_lt this)];exact this
theorem enc_cells {α:Type} {C:Cl} {R:List Value→α→Prop} {l:List α} {cs:List Value} {g o:Nat} (_h:Enc R cs l) (hr:∀j u,cs[j]?=some u→C ⟨g,o+j,none⟩=some u):∀j u,cs[j]?=some u→C ((⟨g,o,none⟩:Addr).add j)=some u:=by
 intro j u hu
 rw [show ((⟨g,o,none⟩:Addr).add j)=⟨g,o+j,none⟩ from by unfold Addr.add;split <;> simp_all]
 exact hr j u hu
theorem str_one {l:List ByteArray} {cs:List Value} (h:Enc (fun c s=>c=[Value.string s]) cs l):∀u∈cs,u.oneCell'=true:=by
 induction l generalizing cs with
 | nil=>obtain rfl:cs=[]:=h;intro u hu;cases hu
 | cons x l ih =>
  obtain ⟨c,r,rfl,rfl,h2⟩:=h
  intro u hu
  rcases List.mem_append.1 hu with hu|hu
  ·rw [List.mem_singleton.1 hu];rfl
  ·exact ih h2 u hu
theorem tms_one {l:List TmZ} {cs:List Value} (h:Enc (fun c s=>c=tmZ s) cs l):∀u∈cs,u.oneCell'=true:=by
 induction l generalizing cs with
 | nil=>obtain rfl:cs=[]:=h;intro u hu;cases hu
 | cons x l ih =>
  obtain ⟨c,r,rfl,rfl,h2⟩:=h
  intro u hu
  rcases List.mem_append.1 hu with hu|hu
  ·simp only [tmZ,List.mem_cons,List.not_mem_nil,or_false] at hu
   rcases hu with rfl|rfl|rfl <;> rfl
  ·exact ih h2 u hu
set_option maxRecDepth 100000 in
set_option maxHeartbeats 2000000 in
theorem lentStrings_any {w:World} {v:Value} {l:List ByteArray} (h:StrR false (wC w) v l) {m:Mem} (hm:Has w m) :
 Calls Tryz.prog 19 #[v] w fun e w'=>∃v' m',e=.returned v'∧Below w.heap.size w w'∧m.More w m'∧Has w' m'∧StrR true (mC m') v' l:=by
 obtain ⟨q,c,cs,rfl,_,hr,he,hb,hmax,hqn,hlc⟩:=h
 obtain ⟨n,hn⟩:∃n,l.length=n:=⟨_,rfl⟩
 obtain ⟨hcl,_⟩:=encZ_at str_len he
 have hon:=str_one he
 have HE:=hid he
 have HN:=hid hn
 have HM:=hid hm
 rw [hn] at hb hcl hlc ⊢
 clear he hn hm
 obtain ⟨i2,h2,h3,h4,h5⟩:=infoSr
 have hnil:=World.ownsRow_nil w w.heap.size 9 1
 have HF:=hid (show ∀k,w.heap.size≤k→m k=none from fun k hk=>HM.out.lt hk)
 have hone:∀u∈mkS true,u.oneCell'=true:=by intro u hu;simp only [mkS,if_true,List.mem_cons,List.not_mem_nil,or_false] at hu;(subst hu;rfl)
 rcases q with _|ad
 ·obtain rfl:c=0:=hqn rfl
  obtain rfl:n=0:=by omega
  have hc0:cs=[]:=List.eq_nil_of_length_eq_zero (by simpa using hcl)
  subst hc0
  have hR1:=hnil.alloc (.cells (mkS true).toArray 9)
  have hnew:=row_new w (mkS true) 9
  go_enter Tryz.func19,Tryz.ntmps19
  go_wp2_with (first|(at_builtin;refine wpList_append_own_none rfl _ _ 22 rfl w.heap.size 9 i2 1 und_strs h2 _ 0 [] rfl hnil rfl ?_)|(at_builtin;refine wpList_append_own _ rfl _ _ 22 rfl w.heap.size 9 i2 _ 1 16 und_strs h2 h3 h4 h5 rfl (by decide) _ 0 [] rfl hR1 ⟨w.heap.size,0,none⟩ 1 1 (mkS true) rfl rfl hnew hone (by unfold maxLen;omega) (by omega) (by simp) ?_))
  intro v2 w2 hR2 hg2 _
  obtain ⟨q2,c2,rfl⟩:=own_shape hR2
  have hB2:Below w.heap.size w w2:=grown_below ((Below.refl _ w).alloc (Nat.le_refl _) _) (by simp) hg2 (fun j hj=>(hR1.lt j hj).1)
  have HD:=hid (lent_done (w:=w) (bs:=16) (R:=fun _=>(fun c s=>c=[Value.string s])) (has_grown HM.out hB2) (fun k hk=>HF.out k (hR2.lt k hk).1) (by simpa using hR2) HN.out HE.out (fun _ _ _ _ _ h=>h) (by omega))
  have HB:=hid hB2
  have hcap:1≤c2:=by
   rcases hR2.2 with ⟨_,h0⟩|⟨g',cap',cur,h0,_,_,h1,_,_⟩
   ·omega
   ·injection h0 with _ _ h4
    omega
  clear hg2 hR1 hnil hB2 hR2
  go_wp2
  go_ret
  obtain ⟨m',d1,d2,d3⟩:=HD.out
  exact ⟨_,m',rfl,HB.out,d1,d2,d3⟩
 ·have hcl2:∀j u,cs[j]?=some u→w.cell? (ad.add j)=some u:=by
   rcases hr with hr|⟨g,o,hq,hr⟩
   ·have:=(List.append_eq_nil_iff.1 hr).1
    subst this
    intro j u hu
    simp at hu
   ·injection hq with hq
    subst hq
    exact enc_cells HE.out (fun j u hu=>hr j u (by rw [List.getElem?_append_left ((List.getElem?_eq_some_iff.1 hu).1)];exact hu))
  clear hr
  go_enter Tryz.func19,Tryz.ntmps19
  go_wp2_with (at_builtin;refine wpList_append_own _ rfl _ _ 22 rfl w.heap.size 9 i2 _ 1 16 und_strs h2 h3 h4 h5 rfl (by decide) _ 0 [] rfl hnil ad n c cs rfl hcl hcl2 hon (by unfold maxLen;omega) (by omega) (Nat.le_refl _) ?_)
  intro v1 w1 hR1 hg1 _
  obtain ⟨q1,c1,rfl⟩:=own_shape hR1
  have hB1:Below w.heap.size w w1:=grown_below (Below.refl _ w) (Nat.le_refl _) hg1 (fun j hj=>by cases hj)
  have hw1:=hB1.size
  have hR1':=hR1.alloc (.cells (mkS true).toArray 9)
  have hnew:=row_new w1 (mkS true) 9
  try simp only [Nat.zero_add,List.nil_append] at hR1 hR1'
  clear hg1 hnil hcl2 hon hR1
  go_wp2_with (at_builtin;refine wpList_append_own _ rfl _ _ 22 rfl w.heap.size 9 i2 _ 1 16 und_strs h2 h3 h4 h5 rfl (by decide) _ n cs rfl hR1' ⟨w1.heap.size,0,none⟩ 1 1 (mkS true) rfl rfl hnew hone (by unfold maxLen;omega) (by omega) (by simp <;> omega) ?_)
  intro v2 w2 hR2 hg2 _
  obtain ⟨q2,c2,rfl⟩:=own_shape hR2
  have hB2:Below w.heap.size w w2:=grown_below (hB1.alloc hw1 _) (by simp;omega) hg2 (fun j hj=>(hR1'.lt j hj).1)
  have HD:=hid (lent_done (w:=w) (bs:=16) (R:=fun _=>(fun c s=>c=[Value.string s])) (has_grown HM.out hB2) (fun k hk=>HF.out k (hR2.lt k hk).1) hR2 HN.out HE.out (fun _ _ _ _ _ h=>h) (by omega))
  have HB:=hid hB2
  have hcap:n+1≤c2:=by
   rcases hR2.2 with ⟨_,h0⟩|⟨g',cap',cur,h0,_,_,h1,_,_⟩
   ·omega
   ·injection h0 with _ _ h4
    omega
  clear hg2 hR1' hB2 hR2 hB1
  go_wp2
  go_ret
  obtain ⟨m',d1,d2,d3⟩:=HD.out
  exact ⟨_,m',rfl,HB.out,d1,d2,d3⟩
set_option maxRecDepth 100000 in
set_option maxHeartbeats 2000000 in
theorem lentTerms_any {w:World} {v:Value} {l:List TmZ} (h:TmsR false (wC w) v l) {m:Mem} (hm:Has w m) :
 Calls Tryz.prog 46 #[v] w fun e w'=>∃v' m',e=.returned v'∧Below w.heap.size w w'∧m.More w m'∧Has w' m'∧TmsR true (mC m') v' l:=by
 obtain ⟨q,c,cs,rfl,_,hr,he,hb,hmax,hqn,hlc⟩:=h
 obtain ⟨n,hn⟩:∃n,l.length=n:=⟨_,rfl⟩
 obtain ⟨hcl,_⟩:=encZ_at tm_len he
 have hon:=tms_one he
 have HE:=hid he
 have HN:=hid hn
 have HM:=hid hm
 rw [hn] at hb hcl hlc ⊢
 clear he hn hm
 obtain ⟨i2,h2,h3,h4,h5⟩:=infoTz
 have hnil:=World.ownsRow_nil w w.heap.size 140 3
 have HF:=hid (show ∀k,w.heap.size≤k→m k=none from fun k hk=>HM.out.lt hk)
 have hone:∀u∈mkT true,u.oneCell'=true:=by intro u hu;simp only [mkT,if_true,List.mem_cons,List.not_mem_nil,or_false] at hu;(rcases hu with rfl|rfl|rfl <;> rfl)
 rcases q with _|ad
 ·obtain rfl:c=0:=hqn rfl
  obtain rfl:n=0:=by omega
  have hc0:cs=[]:=List.eq_nil_of_length_eq_zero (by simpa using hcl)
  subst hc0
  have hR1:=hnil.alloc (.cells (mkT true).toArray 140)
  have hnew:=row_new w (mkT true) 140
  go_enter Tryz.func46,Tryz.ntmps46
  go_wp2_with (first|(at_builtin;refine wpList_append_own_none rfl _ _ 97 rfl w.heap.size 140 i2 3 und_tms h2 _ 0 [] rfl hnil rfl ?_)|(at_builtin;refine wpList_append_own _ rfl _ _ 97 rfl w.heap.size 140 i2 _ 3 32 und_tms h2 h3 h4 h5 rfl (by decide) _ 0 [] rfl hR1 ⟨w.heap.size,0,none⟩ 1 1 (mkT true) rfl rfl hnew hone (by unfold maxLen;omega) (by omega) (by simp) ?_))
  intro v2 w2 hR2 hg2 _
  obtain ⟨q2,c2,rfl⟩:=own_shape hR2
  have hB2:Below w.heap.size w w2:=grown_below ((Below.refl _ w).alloc (Nat.le_refl _) _) (by simp) hg2 (fun j hj=>(hR1.lt j hj).1)
  have HD:=hid (lent_done (w:=w) (bs:=32) (R:=fun _=>(fun c s=>c=tmZ s)) (has_grown HM.out hB2) (fun k hk=>HF.out k (hR2.lt k hk).1) (by simpa using hR2) HN.out HE.out (fun _ _ _ _ _ h=>h) (by omega))
  have HB:=hid hB2
  have hcap:1≤c2:=by
   rcases hR2.2 with ⟨_,h0⟩|⟨g',cap',cur,h0,_,_,h1,_,_⟩
   ·omega
   ·injection h0 with _ _ h4
    omega
  clear hg2 hR1 hnil hB2 hR2
  go_wp2
  go_ret
  obtain ⟨m',d1,d2,d3⟩:=HD.out
  exact ⟨_,m',rfl,HB.out,d1,d2,d3⟩
 ·have hcl2:∀j u,cs[j]?=some u→w.cell? (ad.add j)=some u:=by
   rcases hr with hr|⟨g,o,hq,hr⟩
   ·have:=(List.append_eq_nil_iff.1 hr).1
    subst this
    intro j u hu
    simp at hu
   ·injection hq with hq
    subst hq
    exact enc_cells HE.out (fun j u hu=>hr j u (by rw [List.getElem?_append_left ((List.getElem?_eq_some_iff.1 hu).1)];exact hu))
  clear hr
  go_enter Tryz.func46,Tryz.ntmps46
  go_wp2_with (at_builtin;refine wpList_append_own _ rfl _ _ 97 rfl w.heap.size 140 i2 _ 3 32 und_tms h2 h3 h4 h5 rfl (by decide) _ 0 [] rfl hnil ad n c cs rfl hcl hcl2 hon (by unfold maxLen;omega) (by omega) (Nat.le_refl _) ?_)
  intro v1 w1 hR1 hg1 _
  obtain ⟨q1,c1,rfl⟩:=own_shape hR1
  have hB1:Below w.heap.size w w1:=grown_below (Below.refl _ w) (Nat.le_refl _) hg1 (fun j hj=>by cases hj)
  have hw1:=hB1.size
  have hR1':=hR1.alloc (.cells (mkT true).toArray 140)
  have hnew:=row_new w1 (mkT true) 140
  try simp only [Nat.zero_add,List.nil_append] at hR1 hR1'
  clear hg1 hnil hcl2 hon hR1
  go_wp2_with (at_builtin;refine wpList_append_own _ rfl _ _ 97 rfl w.heap.size 140 i2 _ 3 32 und_tms h2 h3 h4 h5 rfl (by decide) _ n cs rfl hR1' ⟨w1.heap.size,0,none⟩ 1 1 (mkT true) rfl rfl hnew hone (by unfold maxLen;omega) (by omega) (by simp <;> omega) ?_)
  intro v2 w2 hR2 hg2 _
  obtain ⟨q2,c2,rfl⟩:=own_shape hR2
  have hB2:Below w.heap.size w w2:=grown_below (hB1.alloc hw1 _) (by simp;omega) hg2 (fun j hj=>(hR1'.lt j hj).1)
  have HD:=hid (lent_done (w:=w) (bs:=32) (R:=fun _=>(fun c s=>c=tmZ s)) (has_grown HM.out hB2) (fun k hk=>HF.out k (hR2.lt k hk).1) hR2 HN.out HE.out (fun _ _ _ _ _ h=>h) (by omega))
  have HB:=hid hB2
  have hcap:n+1≤c2:=by
   rcases hR2.2 with ⟨_,h0⟩|⟨g',cap',cur,h0,_,_,h1,_,_⟩
   ·omega
   ·injection h0 with _ _ h4
    omega
  clear hg2 hR1' hB2 hR2 hB1
  go_wp2
  go_ret
  obtain ⟨m',d1,d2,d3⟩:=HD.out
  exact ⟨_,m',rfl,HB.out,d1,d2,d3⟩
theorem und_des:Tryz.prog.underlying 23=some (.slice 37):=by kernel_rfl
theorem und_las:Tryz.prog.underlying 40=some (.slice 29):=by kernel_rfl
theorem infoDz:∃i,Tryz.prog.info? 37=some i∧i.zero=some (.agg #[.string ⟨#[]⟩,.int .u64 0])∧i.size=2∧i.bytes=24:=infoOf (by kernel_rfl)
theorem infoLz:∃i,Tryz.prog.info? 29=some i∧i.zero=some (.int .u64 0)∧i.size=1∧i.bytes=8:=infoOf (by kernel_rfl)
theorem one_De {l:List DeZ} {cs:List Value} (h:Enc (fun c s=>c=deZ s∧s.label<u64B) cs l):∀u∈cs,u.oneCell'=true:=by
 induction l generalizing cs with
 | nil=>obtain rfl:cs=[]:=h;intro u hu;cases hu
 | cons x l ih =>
  obtain ⟨c,r,rfl,⟨rfl,_⟩,h2⟩:=h
  intro u hu
  rcases List.mem_append.1 hu with hu|hu
  ·simp only [deZ,List.mem_cons,List.not_mem_nil,or_false] at hu
   rcases hu with rfl|rfl <;> rfl
  ·exact ih h2 u hu
set_option maxRecDepth 100000 in
set_option maxHeartbeats 2000000 in
theorem lentDecls_any {w:World} {v:Value} {l:List DeZ} (h:DesR false (wC w) v l) {m:Mem} (hm:Has w m) :
 Calls Tryz.prog 20 #[v] w fun e w'=>∃v' m',e=.returned v'∧Below w.heap.size w w'∧m.More w m'∧Has w' m'∧DesR true (mC m') v' l:=by
 obtain ⟨q,c,cs,rfl,_,hr,he,hb,hmax,hqn,hlc⟩:=h
 obtain ⟨n,hn⟩:∃n,l.length=n:=⟨_,rfl⟩
 obtain ⟨hcl,_⟩:=encZ_at de_lenZ he
 have hon:=one_De he
 have HE:=hid he
 have HN:=hid hn
 have HM:=hid hm
 rw [hn] at hb hcl hlc ⊢
 clear he hn hm
 obtain ⟨i2,h2,h3,h4,h5⟩:=infoDz
 have hnil:=World.ownsRow_nil w w.heap.size 37 2
 have HF:=hid (show ∀k,w.heap.size≤k→m k=none from fun k hk=>HM.out.lt hk)
 have hone:∀u∈mkD true,u.oneCell'=true:=by intro u hu;simp only [mkD,if_true,List.mem_cons,List.not_mem_nil,or_false] at hu;(rcases hu with rfl|rfl <;> rfl)
 rcases q with _|ad
 ·obtain rfl:c=0:=hqn rfl
  obtain rfl:n=0:=by omega
  have hc0:cs=[]:=List.eq_nil_of_length_eq_zero (by simpa using hcl)
  subst hc0
  have hR1:=hnil.alloc (.cells (mkD true).toArray 37)
  have hnew:=row_new w (mkD true) 37
  go_enter Tryz.func20,Tryz.ntmps20
  go_wp2_with (first|(at_builtin;refine wpList_append_own_none rfl _ _ 23 rfl w.heap.size 37 i2 2 und_des h2 _ 0 [] rfl hnil rfl ?_)|(at_builtin;refine wpList_append_own _ rfl _ _ 23 rfl w.heap.size 37 i2 _ 2 24 und_des h2 h3 h4 h5 rfl (by decide) _ 0 [] rfl hR1 ⟨w.heap.size,0,none⟩ 1 1 (mkD true) rfl rfl hnew hone (by unfold maxLen;omega) (by omega) (by simp) ?_))
  intro v2 w2 hR2 hg2 _
  obtain ⟨q2,c2,rfl⟩:=own_shape hR2
  have hB2:Below w.heap.size w w2:=grown_below ((Below.refl _ w).alloc (Nat.le_refl _) _) (by simp) hg2 (fun j hj=>(hR1.lt j hj).1)
  have HD:=hid (lent_done (w:=w) (bs:=24) (R:=fun _=>(fun c s=>c=deZ s∧s.label<u64B)) (has_grown HM.out hB2) (fun k hk=>HF.out k (hR2.lt k hk).1) (by simpa using hR2) HN.out HE.out (fun _ _ _ _ _ h=>h) (by omega))
  have HB:=hid hB2
  have hcap:1≤c2:=by
   rcases hR2.2 with ⟨_,h0⟩|⟨g',cap',cur,h0,_,_,h1,_,_⟩
   ·omega
   ·injection h0 with _ _ h4
    omega
  clear hg2 hR1 hnil hB2 hR2
  go_wp2
  go_ret
  obtain ⟨m',d1,d2,d3⟩:=HD.out
  exact ⟨_,m',rfl,HB.out,d1,d2,d3⟩
 ·have hcl2:∀j u,cs[j]?=some u→w.cell? (ad.add j)=some u:=by
   rcases hr with hr|⟨g,o,hq,hr⟩
   ·have:=(List.append_eq_nil_iff.1 hr).1
    subst this
    intro j u hu
    simp at hu
   ·injection hq with hq
    subst hq
    exact enc_cells HE.out (fun j u hu=>hr j u (by rw [List.getElem?_append_left ((List.getElem?_eq_some_iff.1 hu).1)];exact hu))
  clear hr
  go_enter Tryz.func20,Tryz.ntmps20
  go_wp2_with (at_builtin;refine wpList_append_own _ rfl _ _ 23 rfl w.heap.size 37 i2 _ 2 24 und_des h2 h3 h4 h5 rfl (by decide) _ 0 [] rfl hnil ad n c cs rfl hcl hcl2 hon (by unfold maxLen;omega) (by omega) (Nat.le_refl _) ?_)
  intro v1 w1 hR1 hg1 _
  obtain ⟨q1,c1,rfl⟩:=own_shape hR1
  have hB1:Below w.heap.size w w1:=grown_below (Below.refl _ w) (Nat.le_refl _) hg1 (fun j hj=>by cases hj)
  have hw1:=hB1.size
  have hR1':=hR1.alloc (.cells (mkD true).toArray 37)
  have hnew:=row_new w1 (mkD true) 37
  try simp only [Nat.zero_add,List.nil_append] at hR1 hR1'
  clear hg1 hnil hcl2 hon hR1
  go_wp2_with (at_builtin;refine wpList_append_own _ rfl _ _ 23 rfl w.heap.size 37 i2 _ 2 24 und_des h2 h3 h4 h5 rfl (by decide) _ n cs rfl hR1' ⟨w1.heap.size,0,none⟩ 1 1 (mkD true) rfl rfl hnew hone (by unfold maxLen;omega) (by omega) (by simp <;> omega) ?_)
  intro v2 w2 hR2 hg2 _
  obtain ⟨q2,c2,rfl⟩:=own_shape hR2
  have hB2:Below w.heap.size w w2:=grown_below (hB1.alloc hw1 _) (by simp;omega) hg2 (fun j hj=>(hR1'.lt j hj).1)
  have HD:=hid (lent_done (w:=w) (bs:=24) (R:=fun _=>(fun c s=>c=deZ s∧s.label<u64B)) (has_grown HM.out hB2) (fun k hk=>HF.out k (hR2.lt k hk).1) hR2 HN.out HE.out (fun _ _ _ _ _ h=>h) (by omega))
  have HB:=hid hB2
  have hcap:n+1≤c2:=by
   rcases hR2.2 with ⟨_,h0⟩|⟨g',cap',cur,h0,_,_,h1,_,_⟩
   ·omega
   ·injection h0 with _ _ h4
    omega
  clear hg2 hR1' hB2 hR2 hB1
  go_wp2
  go_ret
  obtain ⟨m',d1,d2,d3⟩:=HD.out
  exact ⟨_,m',rfl,HB.out,d1,d2,d3⟩
theorem one_La {l:List Nat} {cs:List Value} (h:Enc (fun c s=>c=laZ s∧s<u64B) cs l):∀u∈cs,u.oneCell'=true:=by
 induction l generalizing cs with
 | nil=>obtain rfl:cs=[]:=h;intro u hu;cases hu
 | cons x l ih =>
  obtain ⟨c,r,rfl,⟨rfl,_⟩,h2⟩:=h
  intro u hu
  rcases List.mem_append.1 hu with hu|hu
  ·simp only [laZ,List.mem_cons,List.not_mem_nil,or_false] at hu
   (subst hu;rfl)
  ·exact ih h2 u hu
set_option maxRecDepth 100000 in
set_option maxHeartbeats 2000000 in
theorem lentLabels_any {w:World} {v:Value} {l:List Nat} (h:LasR false (wC w) v l) {m:Mem} (hm:Has w m) :
 Calls Tryz.prog 21 #[v] w fun e w'=>∃v' m',e=.returned v'∧Below w.heap.size w w'∧m.More w m'∧Has w' m'∧LasR true (mC m') v' l:=by
 obtain ⟨q,c,cs,rfl,_,hr,he,hb,hmax,hqn,hlc⟩:=h
 obtain ⟨n,hn⟩:∃n,l.length=n:=⟨_,rfl⟩
 obtain ⟨hcl,_⟩:=encZ_at la_lenZ he
 have hon:=one_La he
 have HE:=hid he
 have HN:=hid hn
 have HM:=hid hm
 rw [hn] at hb hcl hlc ⊢
 clear he hn hm
 obtain ⟨i2,h2,h3,h4,h5⟩:=infoLz
 have hnil:=World.ownsRow_nil w w.heap.size 29 1
 have HF:=hid (show ∀k,w.heap.size≤k→m k=none from fun k hk=>HM.out.lt hk)
 have hone:∀u∈mkL true,u.oneCell'=true:=by intro u hu;simp only [mkL,if_true,List.mem_cons,List.not_mem_nil,or_false] at hu;(subst hu;rfl)
 rcases q with _|ad
 ·obtain rfl:c=0:=hqn rfl
  obtain rfl:n=0:=by omega
  have hc0:cs=[]:=List.eq_nil_of_length_eq_zero (by simpa using hcl)
  subst hc0
  have hR1:=hnil.alloc (.cells (mkL true).toArray 29)
  have hnew:=row_new w (mkL true) 29
  go_enter Tryz.func21,Tryz.ntmps21
  go_wp2_with (first|(at_builtin;refine wpList_append_own_none rfl _ _ 40 rfl w.heap.size 29 i2 1 und_las h2 _ 0 [] rfl hnil rfl ?_)|(at_builtin;refine wpList_append_own _ rfl _ _ 40 rfl w.heap.size 29 i2 _ 1 8 und_las h2 h3 h4 h5 rfl (by decide) _ 0 [] rfl hR1 ⟨w.heap.size,0,none⟩ 1 1 (mkL true) rfl rfl hnew hone (by unfold maxLen;omega) (by omega) (by simp) ?_))
  intro v2 w2 hR2 hg2 _
  obtain ⟨q2,c2,rfl⟩:=own_shape hR2
  have hB2:Below w.heap.size w w2:=grown_below ((Below.refl _ w).alloc (Nat.le_refl _) _) (by simp) hg2 (fun j hj=>(hR1.lt j hj).1)
  have HD:=hid (lent_done (w:=w) (bs:=8) (R:=fun _=>(fun c s=>c=laZ s∧s<u64B)) (has_grown HM.out hB2) (fun k hk=>HF.out k (hR2.lt k hk).1) (by simpa using hR2) HN.out HE.out (fun _ _ _ _ _ h=>h) (by omega))
  have HB:=hid hB2
  have hcap:1≤c2:=by
   rcases hR2.2 with ⟨_,h0⟩|⟨g',cap',cur,h0,_,_,h1,_,_⟩
   ·omega
   ·injection h0 with _ _ h4
    omega
  clear hg2 hR1 hnil hB2 hR2
  go_wp2
  go_ret
  obtain ⟨m',d1,d2,d3⟩:=HD.out
  exact ⟨_,m',rfl,HB.out,d1,d2,d3⟩
 ·have hcl2:∀j u,cs[j]?=some u→w.cell? (ad.add j)=some u:=by
   rcases hr with hr|⟨g,o,hq,hr⟩
   ·have:=(List.append_eq_nil_iff.1 hr).1
    subst this
    intro j u hu
    simp at hu
   ·injection hq with hq
    subst hq
    exact enc_cells HE.out (fun j u hu=>hr j u (by rw [List.getElem?_append_left ((List.getElem?_eq_some_iff.1 hu).1)];exact hu))
  clear hr
  go_enter Tryz.func21,Tryz.ntmps21
  go_wp2_with (at_builtin;refine wpList_append_own _ rfl _ _ 40 rfl w.heap.size 29 i2 _ 1 8 und_las h2 h3 h4 h5 rfl (by decide) _ 0 [] rfl hnil ad n c cs rfl hcl hcl2 hon (by unfold maxLen;omega) (by omega) (Nat.le_refl _) ?_)
  intro v1 w1 hR1 hg1 _
  obtain ⟨q1,c1,rfl⟩:=own_shape hR1
  have hB1:Below w.heap.size w w1:=grown_below (Below.refl _ w) (Nat.le_refl _) hg1 (fun j hj=>by cases hj)
  have hw1:=hB1.size
  have hR1':=hR1.alloc (.cells (mkL true).toArray 29)
  have hnew:=row_new w1 (mkL true) 29
  try simp only [Nat.zero_add,List.nil_append] at hR1 hR1'
  clear hg1 hnil hcl2 hon hR1
  go_wp2_with (at_builtin;refine wpList_append_own _ rfl _ _ 40 rfl w.heap.size 29 i2 _ 1 8 und_las h2 h3 h4 h5 rfl (by decide) _ n cs rfl hR1' ⟨w1.heap.size,0,none⟩ 1 1 (mkL true) rfl rfl hnew hone (by unfold maxLen;omega) (by omega) (by simp <;> omega) ?_)
  intro v2 w2 hR2 hg2 _
  obtain ⟨q2,c2,rfl⟩:=own_shape hR2
  have hB2:Below w.heap.size w w2:=grown_below (hB1.alloc hw1 _) (by simp;omega) hg2 (fun j hj=>(hR1'.lt j hj).1)
  have HD:=hid (lent_done (w:=w) (bs:=8) (R:=fun _=>(fun c s=>c=laZ s∧s<u64B)) (has_grown HM.out hB2) (fun k hk=>HF.out k (hR2.lt k hk).1) hR2 HN.out HE.out (fun _ _ _ _ _ h=>h) (by omega))
  have HB:=hid hB2
  have hcap:n+1≤c2:=by
   rcases hR2.2 with ⟨_,h0⟩|⟨g',cap',cur,h0,_,_,h1,_,_⟩
   ·omega
   ·injection h0 with _ _ h4
    omega
  clear hg2 hR1' hB2 hR2 hB1
  go_wp2
  go_ret
  obtain ⟨m',d1,d2,d3⟩:=HD.out
  exact ⟨_,m',rfl,HB.out,d1,d2,d3⟩
theorem SlX.shape {α:Type} {mk:List Value} {bs:Nat} {C:Cl} {R:List Value→α→Prop} {v:Value} {l:List α} (h:SlX mk bs C R v l):∃q c,v=.slice q l.length c:=let ⟨q,c,_,e,_⟩:=h;⟨q,c,e⟩
def RwI {α:Type} (E:TypeId) (size:Nat) (R:Mem→List Value→α→Prop) (w:World) (m:Mem) (n:Nat) (l:List α) (vF iV:Value) (wr:World):Prop :=
 ∃k q c cs m',k≤n∧iV=.int .i64 (k:Nat)∧vF=.slice q k c∧Hid (wr.ownsRow w.heap.size E size (.slice q k c) k cs)∧Hid (Enc (R m') cs (l.take k))∧Hid (Has wr m')∧Hid (m.More w m')∧Hid (∀b,(Value.slice q k c).ownBlock=some b→m' b=none)∧Hid (Below w.heap.size w wr)
theorem RwI.start {α:Type} {E:TypeId} {size:Nat} {R:Mem→List Value→α→Prop} {w:World} {m:Mem} {n:Nat} {l:List α} (h:Has w m):RwI E size R w m n l (.slice none 0 0) (.int .i64 0) w :=
 ⟨0,none,0,[],m,Nat.zero_le _,rfl,rfl,hid (World.ownsRow_nil _ _ _ _),hid Enc.nil,hid h,hid (Mem.More.refl _ _),hid (fun b hb=>by cases hb),hid (Below.refl _ _)⟩
theorem rw_step {α:Type} {E:TypeId} {size:Nat} {R:Mem→List Value→α→Prop} {w wr w' w9:World} {m m' m'':Mem} {k c:Nat} {q:Option Addr} {l:List α} {cs news:List Value} {v9:Value} {o:Obj} (hk:k<l.length)
 (hE:Enc (R m') cs (l.take k)) (hMo:m.More w m') (hFr:∀b,(Value.slice q k c).ownBlock=some b→m' b=none) (hB:Below w.heap.size w wr) (hrow:wr.ownsRow w.heap.size E size (.slice q k c) k cs)
 (hb:Below wr.heap.size wr w') (hmo:m'.More wr m'') (hH:Has w' m'') (hR:∀m m':Mem,m.le m'→∀c x,R m c x→R m' c x) (hx:R m'' news l[k])
 (hown:w9.ownsRow w.heap.size E size v9 (k+1) (cs++news)) (hg:(w'.alloc o).grownBy w9 (Value.slice q k c).ownBlock) (hat:v9.ownBlock=(Value.slice q k c).ownBlock∨v9.ownBlock=some (w'.heap.size+1)) :
 ∃q9 c9,v9=.slice q9 (k+1) c9∧Hid (w9.ownsRow w.heap.size E size (.slice q9 (k+1) c9) (k+1) (cs++news))∧Hid (Enc (R m'') (cs++news) (l.take (k+1)))∧Hid (Has w9 m'')∧Hid (m.More w m'')∧Hid (∀b,(Value.slice q9 (k+1) c9).ownBlock=some b→m'' b=none)∧Hid (Below w.heap.size w w9):=by
 obtain ⟨q9,c9,rfl⟩:=own_shape hown
 have h1:=hB.size
 have h2:=hb.size
 have hfr:∀b,(Value.slice q k c).ownBlock=some b→m'' b=none:=fun b e=>hmo.new b (hFr b e) (hrow.lt b e).2
 have hC:Chg (fun b=>(Value.slice q k c).ownBlock=some b) w' w9:=((Chg.refl _ w').alloc _).then (grown_chg hg (fun b hb=>.inl hb))
 refine ⟨q9,c9,rfl,hid hown,hid ?_,hid (hH.chg hC hfr),hid (hMo.trans hmo h1),hid (fun b hb=>?_),hid ?_⟩
 ·rw [List.take_succ_eq_append_getElem hk]
  exact (hE.mono (hR _ _ hmo.le)).app (Enc.one hx)
 ·rcases hat with hat|hat
  ·exact hfr b (hat.symm.trans hb)
  ·have:=hat.symm.trans hb
   injection this with this
   exact hH.lt (by omega)
 ·exact grown_below ((hB.trans (hb.mono h1)).alloc (by omega) _) (by simp;omega) hg (fun j hj=>(hrow.lt j hj).1)
theorem rw_end {α:Type} {E:TypeId} {size bs:Nat} {R:Mem→List Value→α→Prop} {w wr w9:World} {m m':Mem} {n c:Nat} {q:Option Addr} {l:List α} {cs mk:List Value} {v9:Value} {o:Obj} (hn:l.length=n)
 (hE:Enc (R m') cs (l.take n)) (hMo:m.More w m') (hFr:∀b,(Value.slice q n c).ownBlock=some b→m' b=none) (hB:Below w.heap.size w wr) (hrow:wr.ownsRow w.heap.size E size (.slice q n c) n cs) (hH:Has wr m') (hR:∀m m':Mem,m.le m'→∀c x,R m c x→R m' c x)
 (hown:w9.ownsRow w.heap.size E size v9 (n+1) (cs++mk)) (hg:(wr.alloc o).grownBy w9 (Value.slice q n c).ownBlock) (hat:v9.ownBlock=(Value.slice q n c).ownBlock∨v9.ownBlock=some (wr.heap.size+1)) (hb:n*bs≤140737488351232) :
 ∃q9 c9,v9=.slice q9 (n+1) c9∧n+1≤c9∧(∃g9,q9=some ⟨g9,0,none⟩)∧Hid (∃m9,m.More w m9∧Has w9 m9∧SlX mk bs (mC m9) (R m9) (.slice q9 n c9) l)∧Hid (Below w.heap.size w w9):=by
 obtain ⟨q9,c9,rfl⟩:=own_shape hown
 have h1:=hB.size
 have hC:Chg (fun b=>(Value.slice q n c).ownBlock=some b) wr w9:=((Chg.refl _ wr).alloc _).then (grown_chg hg (fun b hb=>.inl hb))
 have hcap:n+1≤c9∧∃g9,q9=some ⟨g9,0,none⟩:=by
  rcases hown.2 with ⟨_,h0⟩|⟨g',cap',cur,h0,_,_,h1,_,_⟩
  ·omega
  ·injection h0 with h3 _ h4
   exact ⟨by omega,g',h3⟩
 obtain ⟨m9,d1,d2,d3⟩:=lent_done (w:=w) (bs:=bs) (R:=R) (hH.chg hC hFr) (fun b hb=>by
  rcases hat with hat|hat
  ·exact hFr b (hat.symm.trans hb)
  ·have:=hat.symm.trans hb
   injection this with this
   exact hH.lt (by omega)) hown hn (by rwa [List.take_of_length_le (by omega)] at hE) hR hb
 exact ⟨q9,c9,rfl,hcap.1,hcap.2,hid ⟨m9,hMo.trans d1 (Nat.le_refl _),d2,d3⟩,hid (grown_below (hB.alloc h1 _) (by simp;omega) hg (fun j hj=>(hrow.lt j hj).1))⟩
theorem stR_mono:∀m m':Mem,m.le m'→∀c x,StR1 true (mC m) c x→StR1 true (mC m') c x:=fun _ _ h _ _ e=>e.le (mle_cle h)
theorem exR_mono:∀m m':Mem,m.le m'→∀c x,ExR1 true (mC m) c x→ExR1 true (mC m') c x:=fun _ _ h _ _ e=>e.le (mle_cle h)
set_option maxRecDepth 100000 in
set_option maxHeartbeats 8000000 in
theorem lentStmts_any {w:World} {v:Value} {l:List StZ} (h:BdR false (wC w) v l) {m:Mem} (hm:Has w m) :
 Calls Tryz.prog 22 #[v] w fun e w'=>∃v' m',e=.returned v'∧(∃g c,v'=.slice (some ⟨g,0,none⟩) l.length c)∧Below w.heap.size w w'∧m.More w m'∧Has w' m'∧BdR true (mC m') v' l:=by
 have hB:=h
 obtain ⟨q,c,rfl,_,hmax,_,ha,_⟩:=h.at (by decide) st_len
 obtain ⟨n,hn⟩:∃n,l.length=n:=⟨_,rfl⟩
 have HBD:=hid (show n*72≤140737488351232 from by obtain ⟨_,_,_,_,_,_,_,h5,_⟩:=hB;rw [←hn];exact h5)
 have HA:=hid ha
 have HN:=hid hn
 have HM:=hid hm
 rw [hn] at hmax ⊢
 clear h hB ha hn hm
 obtain ⟨i1,hi1,hz1,hs1,hb1⟩:=infoSz
 obtain ⟨i2,hi2,hz2,hs2,hb2⟩:=infoEz
 go_enter Tryz.func22,Tryz.ntmps22
 go_wp2_with fail
 go_loopw [3,4] (RwI 47 4 (fun m=>StR1 true (mC m)) w m n l) (fun _ i _=>n - (intOf i).toNat)
 case atStart=>exact RwI.start HM.out
 case round =>
  obtain ⟨k,qF,cF,cs,m1,hk,rfl,rfl,HF,HE,HM1,HMo,HFr,HB⟩:=hrel
  generalize wr=V at *
  by_cases hlt:k<n
  ·have hkl:k<l.length:=by rw [HN.out];exact hlt
   obtain ⟨g,o,e,rfl,⟨vt,ve,rfl,ht,he⟩,a1⟩:=HA.out k hkl
   obtain ⟨qt,ct,hvt⟩:=SlX.shape ht
   obtain ⟨qe,ce,hve⟩:=SlX.shape he
   obtain ⟨nt,hnt⟩:∃nt,l[k].targets.length=nt:=⟨_,rfl⟩
   obtain ⟨ne,hne⟩:∃ne,l[k].exprs.length=ne:=⟨_,rfl⟩
   have HNT:=hid hnt
   have HNE:=hid hne
   rw [hnt] at hvt
   rw [hne] at hve
   subst hvt hve
   clear hnt hne
   have HX0:=hid (show w.cell? ⟨g,o+k*4,none⟩=some (.int .i64 l[k].kind)∧w.cell? ⟨g,o+k*4+1,none⟩=some (.string l[k].name)∧w.cell? ⟨g,o+k*4+2,none⟩=some (.slice qt nt ct)∧w.cell? ⟨g,o+k*4+3,none⟩=some (.slice qe ne ce) from by
    refine ⟨a1 0 _ (by decide) rfl,?_,?_,?_⟩
    ·have:=a1 1 _ (by decide) rfl;rwa [←Nat.add_assoc] at this
    ·have:=a1 2 _ (by decide) rfl;rwa [←Nat.add_assoc] at this
    ·have:=a1 3 _ (by decide) rfl;rwa [←Nat.add_assoc] at this)
   have HST:=hid (show StrR false (wC w) (.slice qt nt ct) l[k].targets from ht)
   have HEX:=hid (show ExsR false (wC w) (.slice qe ne ce) l[k].exprs from he)
   clear ht he a1
   have hle:=below_cle HB.out
   have x0:=hle _ _ HX0.out.1
   have x1:=hle _ _ HX0.out.2.1
   have x2:=hle _ _ HX0.out.2.2.1
   have x3:=hle _ _ HX0.out.2.2.2
   unfold wC at x0 x1 x2 x3
   have hglt:g<V.heap.size:=World.block_lt_of_cell? _ _ x0
   clear hle
   have hki:(k:Int)<(n:Int):=by omega
   obtain ⟨kd,hkd⟩:∃kd,l[k].kind=kd:=⟨_,rfl⟩
   obtain ⟨nm,hnm⟩:∃nm,l[k].name=nm:=⟨_,rfl⟩
   rw [hkd] at x0
   rw [hnm] at x1
   have HKD:=hid hkd
   have HNM:=hid hnm
   clear hkd hnm
   have hfz0:(V.alloc (.cells #[.int .i64 kd,.string nm,.slice qt nt ct,.slice qe ne ce] 47)).heap[V.heap.size]?=some (.cells #[.int .i64 kd,.string nm,.slice qt nt ct,.slice qe ne ce] 47 (0,0)):=World.alloc_heap_new _ _
   go_wp2_with fail
   obtain ⟨W1,hW1⟩:∃W1,V.alloc (.cells #[.int .i64 kd,.string nm,.slice qt nt ct,.slice qe ne ce] 47)=W1:=⟨_,rfl⟩
   have hb1:Below V.heap.size V W1:=by rw [←hW1];exact (Below.refl _ _).alloc (Nat.le_refl _) _
   have hsz1:W1.heap.size=V.heap.size+1:=by rw [←hW1];simp
   rw [hW1] at hfz0 ⊢
   obtain ⟨bx,hbx⟩:∃bx,V.heap.size=bx:=⟨_,rfl⟩
   have HBW:=hid hbx
   go_at_call 19
   refine (lentStrings_any (HST.out.le ((below_cle HB.out).trans (below_cle hb1))) (has_grown HM1.out hb1)).mono ?_
   rintro e w2 ⟨v2,m2,rfl,hb2,hmo2,hH2,hS2⟩
   obtain ⟨qs,cs2,rfl⟩:=SlX.shape hS2
   rw [HNT.out]
   rw [HNT.out] at hS2
   have hx2:w2.heap[bx]?=some (.cells #[.int .i64 kd,.string nm,.slice qt nt ct,.slice qe ne ce] 47 (0,0)):=by rw [hb2.block _ (by omega),←hbx];exact hfz0
   have hm2x:m2 bx=none:=hmo2.new bx (HM1.out.lt (by omega)) (by omega)
   have hbb:Below bx V w2:=by rw [←hbx];exact hb1.trans (hb2.mono (by omega))
   rw [hbx]
   have hfr2:w2.frozen? ⟨bx,2,none⟩=false:=free_of hx2
   have hc2:w2.cell? ⟨bx,2,none⟩=some (.slice qt nt ct):=cell_of hx2 rfl
   have HX2:=hid hx2
   have HH2:=hid hH2
   have HS2:=hid hS2
   have HMO2:=hid (show m1.More V m2 from ⟨hmo2.le,fun b hb hl=>hmo2.new b hb (by omega)⟩)
   have HBB:=hid hbb
   clear hx2 hH2 hS2 hmo2 hb2 hbb hb1 hfz0 x0 x1 x2 x3 hglt
   obtain ⟨W3,hW3⟩:∃W3,w2.setCell ⟨bx,2,none⟩ (.slice qs nt cs2)=W3:=⟨_,rfl⟩
   have HX3:=hid (show W3.heap[bx]?=some (.cells #[.int .i64 kd,.string nm,.slice qs nt cs2,.slice qe ne ce] 47 (0,0)) by rw [←hW3];exact heap_set HX2.out 2 _)
   have HH3:=hid (show Has W3 m2 by rw [←hW3];exact HH2.out.chg ((Chg.refl (fun b=>b=bx) w2).setCell (.inl rfl) _) (fun b e=>by rw [e];exact hm2x))
   have HB3:=hid (show Below bx V W3 by rw [←hW3];exact HBB.out.setCell (Nat.le_refl _) _)
   have HB4:=hid (show Below w.heap.size w W3 from HB.out.trans (HB3.out.mono (by have:=HB.out.size;omega)))
   have y0:=below_cle HB4.out _ _ HX0.out.2.2.2
   unfold wC at y0
   obtain ⟨qe',ce',heq,_,hmaxe,_,hae,_⟩:=HEX.out.at (by decide) ex_len
   have hq1:qe=qe':=by injection heq
   clear heq
   subst hq1
   have HAE:=hid hae
   rw [HNE.out] at hmaxe
   have hbe:ne*24≤140737488351232:=by obtain ⟨_,_,_,_,_,_,_,h5,_⟩:=HEX.out;rw [←HNE.out];exact h5
   have hmx:bx<W3.heap.size:=heap_lt HX3.out
   clear hae HX2 HH2
   go_wp2_with fail
   clear hfr2 hc2
   try rw [hW3]
   clear hW3
   go_loopw [6,7] (RwI 97 1 (fun m=>ExR1 true (mC m)) W3 m2 ne l[k].exprs) (fun _ i _=>ne - (intOf i).toNat)
   case atStart=>exact RwI.start HH3.out
   case round =>
    obtain ⟨j,qE,cE,cs3,m3,hj,rfl,rfl,GF,GE,GM,GMo,GFr,GB⟩:=hrel
    have HB5:=hid (show Below w.heap.size w wr from HB4.out.trans (GB.out.mono HB4.out.size))
    have z0:=below_cle HB5.out _ _ HX0.out.2.2.2
    unfold wC at z0
    by_cases hjl:j<ne
    ·have hje:j<l[k].exprs.length:=by rw [HNE.out];exact hjl
     obtain ⟨ge,oe,e2,rfl,⟨u,rfl,hu⟩,a2⟩:=HAE.out j hje
     have hu0:=below_cle HB5.out _ _ (a2 0 _ (by decide) rfl)
     unfold wC at hu0
     rw [Nat.mul_one,Nat.add_zero] at hu0
     have HU:=hid (hu.le (below_cle HB5.out))
     have hji:(j:Int)<(ne:Int):=by omega
     clear a2 hu
     go_wp2_with fail
     go_at_call 46
     refine (lentTerms_any HU.out GM.out).mono ?_
     rintro e w4 ⟨v4,m4,rfl,hb4,hmo4,hH4,hT4⟩
     obtain ⟨q4,c4,rfl⟩:=SlX.shape hT4
     have hrow:=own_chg GF.out (Below.chg hb4 (Nat.le_refl _) (fun _=>False)) (fun _ _ e=>e)
     have hnew:=row_new w4 [.slice q4 l[k].exprs[j].length c4] 97
     have hone:∀u∈[Value.slice q4 l[k].exprs[j].length c4],u.oneCell'=true:=by intro u hu;rw [List.mem_singleton.1 hu];rfl
     have hs4:=hb4.size
     have hs3:=GB.out.size
     have HB44:=hid hb4
     have HMO4:=hid hmo4
     have HH4:=hid hH4
     have HT4:=hid hT4
     clear hb4 hmo4 hH4 hT4
     go_wp2_with (at_builtin;refine wpList_append_own_at _ rfl _ _ 45 rfl W3.heap.size 97 i2 _ 1 24 und_exs hi2 hz2 hs2 hb2 rfl (by decide) _ _ _ rfl (hrow.alloc _) ⟨w4.heap.size,0,none⟩ 1 1 [.slice q4 l[k].exprs[j].length c4] rfl rfl hnew hone (by unfold maxLen;omega) (by omega) (by simp;omega) ?_)
     intro v9 w9 hR9 hg9 _ hat
     obtain ⟨q9,c9,rfl,r1,r2,r3,r4,r5,r6⟩:=rw_step hje GE.out GMo.out GFr.out GB.out GF.out HB44.out HMO4.out HH4.out exR_mono ⟨_,rfl,HT4.out⟩ hR9 hg9 (by simpa using hat)
     clear hR9 hg9 hat hrow
     go_wp2_with fail
     exact ⟨⟨j+1,q9,c9,_,m4,by omega,by go_num,rfl,r1,r2,r3,r4,r5,r6⟩,by simp [intOf];omega⟩
    ·obtain rfl:j=ne:=by omega
     have hrow:=GF.out
     have hnew:=row_new wr [.slice none 0 0] 97
     have hone:∀u∈[Value.slice none 0 0],u.oneCell'=true:=by intro u hu;rw [List.mem_singleton.1 hu];rfl
     have hs3:=GB.out.size
     go_wp2_with (at_builtin;refine wpList_append_own_at _ rfl _ _ 45 rfl W3.heap.size 97 i2 _ 1 24 und_exs hi2 hz2 hs2 hb2 rfl (by decide) _ _ _ rfl (hrow.alloc _) ⟨wr.heap.size,0,none⟩ 1 1 [.slice none 0 0] rfl rfl hnew hone (by unfold maxLen;omega) (by omega) (by simp;omega) ?_)
     intro v9 w9 hR9 hg9 _ hat
     obtain ⟨q9,c9,rfl,hcap,-,HD,HB9⟩:=rw_end (m:=m2) HNE.out GE.out GMo.out GFr.out GB.out GF.out GM.out exR_mono hR9 hg9 (by simpa using hat) hbe
     clear hR9 hg9 hat hrow
     obtain ⟨m9,hmo9,hH9,hx9⟩:=HD.out
     have hX9:w9.heap[bx]?=some (.cells #[.int .i64 kd,.string nm,.slice qs nt cs2,.slice qe j ce] 47 (0,0)):=by rw [HB9.out.block _ hmx];exact HX3.out
     have hm9x:m9 bx=none:=hmo9.new bx hm2x hmx
     have HB10:=hid (HB4.out.trans (HB9.out.mono HB4.out.size))
     have z9:=below_cle HB10.out _ _ HX0.out.2.2.2
     unfold wC at z9
     have hfr9:w9.frozen? ⟨bx,3,none⟩=false:=free_of hX9
     have hc9:w9.cell? ⟨bx,3,none⟩=some (.slice qe j ce):=cell_of hX9 rfl
     obtain ⟨W5,hW5⟩:∃W5,w9.setCell ⟨bx,3,none⟩ (.slice q9 j c9)=W5:=⟨_,rfl⟩
     have HX5:=hid (show W5.heap[bx]?=some (.cells #[.int .i64 kd,.string nm,.slice qs nt cs2,.slice q9 j c9] 47 (0,0)) by rw [←hW5];exact heap_set hX9 3 _)
     have HH5:=hid (show Has W5 m9 by rw [←hW5];exact hH9.chg ((Chg.refl (fun b=>b=bx) w9).setCell (.inl rfl) _) (fun b e=>by rw [e];exact hm9x))
     have HB5:=hid (show Below bx V W5 by rw [←hW5];exact (HB3.out.trans (HB9.out.mono (by omega))).setCell (Nat.le_refl _) _)
     have HS5:=hid (show StrR true (mC m9) (.slice qs nt cs2) l[k].targets from HS2.out.le (mle_cle hmo9.le))
     have HX6:=hid (show ExsR true (mC m9) (.slice q9 j c9) l[k].exprs from hx9)
     have HMO9:=hid (HMO2.out.trans hmo9 HB3.out.size)
     clear hmo9 hH9 hx9 hX9 HD
     have t0:W5.cell? ⟨bx,0,none⟩=some (.int .i64 kd):=cell_of HX5.out rfl
     have t1:W5.cell? ⟨bx,1,none⟩=some (.string nm):=cell_of HX5.out rfl
     have t2:W5.cell? ⟨bx,2,none⟩=some (.slice qs nt cs2):=cell_of HX5.out rfl
     have t3:W5.cell? ⟨bx,3,none⟩=some (.slice q9 j c9):=cell_of HX5.out rfl
     have hrow:=own_chg HF.out (Below.chg HB5.out (by rw [HBW.out];exact Nat.le_refl _) (fun _=>False)) (fun _ _ e=>e)
     have hnew:=row_new W5 [.int .i64 kd,.string nm,.slice qs nt cs2,.slice q9 j c9] 47
     have hone:∀u∈[Value.int .i64 kd,.string nm,.slice qs nt cs2,.slice q9 j c9],u.oneCell'=true:=by
      intro u hu
      simp only [List.mem_cons,List.not_mem_nil,or_false] at hu
      rcases hu with rfl|rfl|rfl|rfl <;> rfl
     have hbd:=HBD.out
     have hs5:=HB5.out.size
     have hs6:=HB.out.size
     have hV:=HBW.out
     go_wp2_with (at_builtin;refine wpList_append_own_at _ rfl _ _ 41 rfl w.heap.size 47 i1 _ 4 72 und_sts hi1 hz1 hs1 hb1 rfl (by decide) _ _ _ rfl (hrow.alloc _) ⟨W5.heap.size,0,none⟩ 1 1 [.int .i64 kd,.string nm,.slice qs nt cs2,.slice q9 j c9] rfl rfl hnew hone (by unfold maxLen;omega) (by omega) (by simp;omega) ?_)
     intro v10 w10 hR10 hg10 _ hat
     obtain ⟨q10,c10,rfl,r1,r2,r3,r4,r5,r6⟩:=rw_step hkl HE.out HMo.out HFr.out HB.out HF.out (by rw [hV];exact HB5.out) HMO9.out HH5.out stR_mono ⟨_,_,by rw [HKD.out,HNM.out],HS5.out,HX6.out⟩ hR10 hg10 (by simpa using hat)
     clear hR10 hg10 hat hrow
     go_wp2_with fail
     exact ⟨⟨k+1,q10,c10,_,m9,by omega,by go_num,rfl,r1,r2,r3,r4,r5,r6⟩,by simp [intOf];omega⟩
  ·obtain rfl:k=n:=by omega
   have hrow:=HF.out
   have hnew:=row_new V (mkB true) 47
   have hone:∀u∈mkB true,u.oneCell'=true:=by intro u hu;simp only [mkB,if_true,List.mem_cons,List.not_mem_nil,or_false] at hu;rcases hu with rfl|rfl|rfl|rfl <;> rfl
   have hbd:=HBD.out
   have hws:=HB.out.size
   go_wp2_with (at_builtin;refine wpList_append_own_at _ rfl _ _ 41 rfl w.heap.size 47 i1 _ 4 72 und_sts hi1 hz1 hs1 hb1 rfl (by decide) _ _ _ rfl (hrow.alloc _) ⟨V.heap.size,0,none⟩ 1 1 (mkB true) rfl rfl hnew hone (by unfold maxLen;omega) (by omega) (by simp;omega) ?_)
   intro v2 w2 hR2 hg2 _ hat
   obtain ⟨q2,c2,rfl,hcap,⟨g2,hg2'⟩,HD,HB2⟩:=rw_end (m:=m) HN.out HE.out HMo.out HFr.out HB.out hrow HM1.out stR_mono hR2 hg2 (by simpa using hat) hbd
   clear hg2 hR2 hrow hat
   have HG2:=hid (show Value.slice q2 k c2=.slice (some ⟨g2,0,none⟩) k c2 by rw [hg2'])
   clear hg2'
   go_wp2
   go_ret
   obtain ⟨m',d1,d2,d3⟩:=HD.out
   exact ⟨_,m',rfl,⟨g2,c2,HG2.out⟩,HB2.out,d1,d2,d3⟩
end Go.Proofs.YtlpdjfimefjmcaaGreatDoor
