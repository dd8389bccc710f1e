/- A part of the proof of PrintBack: contracts and plain facts. -/
import Derived.Test.YtpcniebkabkikaaGreatDoorPBqR2
import Derived.WalkLawsBesides
import Derived.Test.YtpcniebkabkikaaGreatDoorProg
import Derived.WalkKit
import Derived.Deep.DeepCutAuto
import Derived.Deep.CutBlock
import Derived.LoopTactic
import Derived.Lib.Strings
import Derived.Lib.Hide
set_option maxRecDepth 100000
set_option maxHeartbeats 8000000
open Go.Lib (hid)
open Go.Proofs.Tryz
open List renaming append_assoc → nlb
namespace Go.Proofs.Syn
structure StOk (s:St):Prop where
 low:1≤s.kind
 high:s.kind≤8
 one:s.kind=1∨s.kind=3∨s.kind=5∨s.kind=7→s.exprs.length=1
 two:s.kind=2→s.exprs.length=2
 none:s.kind=6∨s.kind=8→s.exprs.length=0
 target:s.kind=1→s.targets.length=1
 whole:∀e∈s.exprs,Wh e
def nest:List Nat→List Bool→Option (List Bool)
 | [],st=>some st
 | k::l,st =>
  if k=5 then nest l (true::st)
  else if k=7 then nest l (false::st)
  else if k=6 then (match st with
   | true::st=>nest l (false::st)
   | _=>none)
  else if k=8 then (match st with
   | _::st=>nest l st
   | []=>none)
  else nest l st
theorem vi_ (l:List Nat) (st:List Bool):nest (5::l) st=nest l (true::st):=by simp [nest]
theorem nest_7 (l:List Nat) (st:List Bool):nest (7::l) st=nest l (false::st):=by simp [nest]
theorem nest_6 (l:List Nat) (st:List Bool):nest (6::l) (true::st)=nest l (false::st):=by simp [nest]
theorem qk_ (l:List Nat) (x:Bool) (st:List Bool):nest (8::l) (x::st)=nest l st:=by simp [nest]
def Bal (l:List Nat):Prop:=∀st r,nest (l++r) st=nest r st
theorem Bal.nil:Bal []:=fun _ _=>rfl
theorem Bal.one {k:Nat} (h5:k≠5) (h6:k≠6) (h7:k≠7) (h8:k≠8):Bal [k]:=fun st r=>by simp [nest,h5,h6,h7,h8]
theorem Bal.app {l m:List Nat} (h:Bal l) (h':Bal m):Bal (l++m):=fun st r=>by rw [nlb,h,h']
theorem Bal.ifs {a:List Nat} (h:Bal a):Bal (5::a++[8]):=fun st r=>by
 rw [nlb];show nest (5::(a++([8]++r))) st=_
 rw [vi_,h];exact qk_ _ _ _
theorem Bal.whiles {a:List Nat} (h:Bal a):Bal (7::a++[8]):=fun st r=>by
 rw [nlb];show nest (7::(a++([8]++r))) st=_
 rw [nest_7,h];exact qk_ _ _ _
theorem Bal.elses {a b:List Nat} (h:Bal a) (h':Bal b):Bal (5::a++6::b++[8]):=fun st r=>by
 rw [nlb,nlb];show nest (5::(a++(6::(b++([8]++r))))) st=_
 rw [vi_,h,nest_6,h']
 exact qk_ _ _ _
section
variable {T:Nat→Option K} {F:Nat}
def GoodS (p:Nat→R (List St)):Prop:=∀i l j,p i=.ok (l,j)→(∀s∈l,StOk s)∧Bal (l.map St.kind)∧i<j
theorem mem_snoc {α:Type} {P:α→Prop} {l:List α} {x:α} (h:∀y∈l,P y) (hx:P x):∀y∈l++[x],P y:=by
 intro y hy
 rcases List.mem_append.1 hy with hy|hy
 ·exact h y hy
 ·rw [List.mem_singleton.1 hy];exact hx
theorem vj_ {α:Type} {P:α→Prop} {l m:List α} (h:∀y∈l,P y) (h':∀y∈m,P y):∀y∈l++m,P y:=by
 intro y hy
 rcases List.mem_append.1 hy with hy|hy
 ·exact h y hy
 ·exact h' y hy
theorem m7_ {e:Nat→R (List Tm)} (he:Good e) (fin:List Nat):∀(f:Nat) (l:List (List Tm)) (i:Nat) (l':List (List Tm)) (j:Nat),(∀x∈l,Wh x)→listF T e fin f l i=.ok (l',j)→(∀x∈l',Wh x)∧i<j
 | 0,_,_,_,_,_,h=>by cases h
 | f+1,l,i,l',j,hl,h=>by
  rw [listF] at h
  obtain ⟨x,i1,h1,h⟩:=R.on_ok h
  obtain ⟨hx,hi⟩:=he _ _ _ h1
  split at h
  ·injection h with h;injection h with h2 h3
   subst h2;subst h3
   exact ⟨mem_snoc hl hx,by omega⟩
  ·split at h
   ·obtain ⟨a,b⟩:=m7_ he fin f _ _ _ _ (mem_snoc hl hx) h
    exact ⟨a,by omega⟩
   ·cases h
theorem i1_ {fin:List Nat} {i j:Nat} {l:List (List Tm)} (h:list T F fin i=.ok (l,j)):(∀x∈l,Wh x)∧i<j:=by
 unfold list at h
 split at h
 ·injection h with h;injection h with h2 h3
  subst h2;subst h3
  exact ⟨fun _ hx=>(by cases hx),by omega⟩
 ·exact m7_ (expr_good 12) _ _ _ _ _ _ (fun _ hx=>(by cases hx)) h
theorem em_:∀(f:Nat) (l:List (List Nat)) (i:Nat) (l':List (List Nat)) (j:Nat),targetsF T f l i=.ok (l',j)→i≤j
 | 0,_,_,_,_,h=>by cases h
 | f+1,l,i,l',j,h=>by
  rw [targetsF] at h
  split at h
  ·obtain ⟨s,i1,h1,h⟩:=R.on_ok h
   have:=(name_ok h1).2.1
   have:=em_ f _ _ _ _ h
   omega
  ·injection h with h;injection h with h2 h3
   omega
theorem m8_ {ts:List (List Nat)} {s:List Nat} {i j:Nat} {l:List St} (h:call T F ts s i=.ok (l,j)):(∀s∈l,StOk s)∧Bal (l.map St.kind)∧i<j:=by
 unfold call at h
 obtain ⟨_,i1,h1,h⟩:=R.on_ok h
 obtain ⟨es,i2,h2,h⟩:=R.on_ok h
 obtain ⟨_,i3,h3,h⟩:=R.on_ok h
 injection h with h;injection h with h4 h5
 subst h4;subst h5
 have a:=(want_ok h1).2
 have b:=i1_ h2
 have c:=(want_ok h3).2
 refine ⟨fun x hx=>?_,Bal.one (by simp) (by simp) (by simp) (by simp),by omega⟩
 rw [List.mem_singleton.1 hx]
 exact ⟨by simp,by simp,by simp,by simp,by simp,by simp,b.1⟩
theorem r2_:GoodS (plain T F):=by
 intro i l j h
 unfold plain at h
 obtain ⟨s,i1,h1,h⟩:=R.on_ok h
 have n1:=(name_ok h1).2.1
 split at h
 ·obtain ⟨a,i2,h2,h⟩:=R.on_ok h
  obtain ⟨_,i3,h3,h⟩:=R.on_ok h
  obtain ⟨_,i4,h4,h⟩:=R.on_ok h
  obtain ⟨b,i5,h5,h⟩:=R.on_ok h
  obtain ⟨_,i6,h6,h⟩:=R.on_ok h
  injection h with h;injection h with h7 h8
  subst h7;subst h8
  have g2:=expr_good 12 _ _ _ h2
  have g3:=(want_ok h3).2
  have g4:=(want_ok h4).2
  have g5:=expr_good 12 _ _ _ h5
  have g6:=(want_ok h6).2
  refine ⟨fun x hx=>?_,Bal.one (by simp) (by simp) (by simp) (by simp),by omega⟩
  rw [List.mem_singleton.1 hx]
  refine ⟨by simp,by simp,by simp,by simp,by simp,by simp,?_⟩
  intro e he
  rcases (show e=a∨e=b by simpa using he) with rfl|rfl
  ·exact g2.1
  ·exact g5.1
 ·split at h
  ·have:=m8_ h
   exact ⟨this.1,this.2.1,by omega⟩
  ·obtain ⟨ts,i2,h2,h⟩:=R.on_ok h
   obtain ⟨_,i3,h3,h⟩:=R.on_ok h
   have g2:=em_ _ _ _ _ _ h2
   have g3:=(want_ok h3).2
   split at h
   ·rename_i ht
    obtain ⟨e,i4,h4,h⟩:=R.on_ok h
    obtain ⟨_,i5,h5,h⟩:=R.on_ok h
    injection h with h;injection h with h7 h8
    subst h7;subst h8
    have g4:=expr_good 12 _ _ _ h4
    have g5:=(want_ok h5).2
    refine ⟨fun x hx=>?_,Bal.one (by simp) (by simp) (by simp) (by simp),by omega⟩
    rw [List.mem_singleton.1 hx]
    refine ⟨by simp,by simp,by simp,by simp,by simp,fun _=>ht.1,?_⟩
    intro y hy
    rw [List.mem_singleton.1 hy]
    exact g4.1
   ·obtain ⟨s,i4,h4,h⟩:=R.on_ok h
    have g4:=(name_ok h4).2.1
    have:=m8_ h
    exact ⟨this.1,this.2.1,by omega⟩
theorem gq_ {s:Nat→R (List St)} (hs:GoodS s) (fin:List Nat):∀(f:Nat) (l:List St) (i:Nat) (l':List St) (j:Nat),(∀x∈l,StOk x)→Bal (l.map St.kind)→stmtsF T s fin f l i=.ok (l',j)→(∀x∈l',StOk x)∧Bal (l'.map St.kind)∧i<j
 | 0,_,_,_,_,_,_,h=>by cases h
 | f+1,l,i,l',j,hl,hb,h=>by
  rw [stmtsF] at h
  split at h
  ·injection h with h;injection h with h2 h3
   subst h2;subst h3
   exact ⟨hl,hb,by omega⟩
  ·obtain ⟨x,i1,h1,h⟩:=R.on_ok h
   obtain ⟨a,b,c⟩:=hs _ _ _ h1
   obtain ⟨d,e,g⟩:=gq_ hs fin f _ _ _ _ (vj_ hl a) (by rw [List.map_append];exact hb.app b) h
   exact ⟨d,e,by omega⟩
theorem gr_ {s:Option (Nat→R (List St))} (hs:∀p,s=some p→GoodS p):GoodS (block T F s):=by
 intro i l j h
 unfold block at h
 split at h
 ·split at h <;> cases h
 ·obtain ⟨_,i1,h1,h⟩:=R.on_ok h
  have g:=(want_ok h1).2
  obtain ⟨a,b,c⟩:=gq_ (hs _ rfl) _ _ [] _ _ _ (fun _ hx=>(by cases hx)) Bal.nil h
  exact ⟨a,b,by omega⟩
theorem vk_ (k:Nat) (hk:k=5∨k=7) {e:List Tm} (h:Wh e):StOk ⟨k,[],[],[e]⟩:=by
 refine ⟨?_,?_,fun _=>rfl,?_,?_,?_,fun x hx=>by rw [List.mem_singleton.1 hx];exact h⟩
 all_goals (try intro h1);simp only at *;omega
theorem ql_ (k:Nat) (hk:k=6∨k=8):StOk ⟨k,[],[],[]⟩:=by
 refine ⟨?_,?_,?_,?_,fun _=>rfl,?_,fun x hx=>by cases hx⟩
 all_goals (try intro h1);simp only at *;omega
theorem stmtOf_good {s:Option (Nat→R (List St))} (hs:∀p,s=some p→GoodS p):GoodS (stmtOf T F s):=by
 intro i l j h
 unfold stmtOf at h
 split at h
 ·obtain ⟨e,i1,h1,h⟩:=R.on_ok h
  obtain ⟨a,i2,h2,h⟩:=R.on_ok h
  have g1:=expr_good 12 _ _ _ h1
  have g2:=gr_ hs _ _ _ h2
  split at h
  ·obtain ⟨b,i3,h3,h⟩:=R.on_ok h
   have g3:=gr_ hs _ _ _ h3
   injection h with h;injection h with h4 h5
   subst h4;subst h5
   refine ⟨?_,?_,by omega⟩
   ·intro x hx
    simp only [List.cons_append,List.mem_cons,List.mem_append,nlb,List.not_mem_nil,or_false] at hx
    rcases hx with rfl|hx|rfl|hx|rfl
    ·exact vk_ 5 (.inl rfl) g1.1
    ·exact g2.1 x hx
    ·exact ql_ 6 (.inl rfl)
    ·exact g3.1 x hx
    ·exact ql_ 8 (.inr rfl)
   ·simpa using Bal.elses g2.2.1 g3.2.1
  ·injection h with h;injection h with h4 h5
   subst h4;subst h5
   refine ⟨?_,?_,by omega⟩
   ·intro x hx
    simp only [List.cons_append,List.mem_cons,List.mem_append,List.not_mem_nil,or_false] at hx
    rcases hx with rfl|hx|rfl
    ·exact vk_ 5 (.inl rfl) g1.1
    ·exact g2.1 x hx
    ·exact ql_ 8 (.inr rfl)
   ·simpa using Bal.ifs g2.2.1
 ·split at h
  ·obtain ⟨e,i1,h1,h⟩:=R.on_ok h
   obtain ⟨a,i2,h2,h⟩:=R.on_ok h
   have g1:=expr_good 12 _ _ _ h1
   have g2:=gr_ hs _ _ _ h2
   injection h with h;injection h with h4 h5
   subst h4;subst h5
   refine ⟨?_,?_,by omega⟩
   ·intro x hx
    simp only [List.cons_append,List.mem_cons,List.mem_append,List.not_mem_nil,or_false] at hx
    rcases hx with rfl|hx|rfl
    ·exact vk_ 7 (.inr rfl) g1.1
    ·exact g2.1 x hx
    ·exact ql_ 8 (.inr rfl)
   ·simpa using Bal.whiles g2.2.1
  ·split at h
   ·obtain ⟨c,i1,h1,h⟩:=R.on_ok h
    obtain ⟨e,i2,h2,h⟩:=R.on_ok h
    obtain ⟨_,i3,h3,h⟩:=R.on_ok h
    injection h with h;injection h with h4 h5
    subst h4;subst h5
    have g1:=(name_ok h1).2.1
    have g2:=expr_good 12 _ _ _ h2
    have g3:=(want_ok h3).2
    refine ⟨fun x hx=>?_,Bal.one (by simp) (by simp) (by simp) (by simp),by omega⟩
    rw [List.mem_singleton.1 hx]
    refine ⟨by simp,by simp,by simp,by simp,by simp,by simp,?_⟩
    intro y hy
    rw [List.mem_singleton.1 hy]
    exact g2.1
   ·exact r2_ _ _ _ h
theorem stmt_good:∀d,GoodS (stmtD T F d)
 | 0=>stmtOf_good (fun p h=>by cases h)
 | d+1=>stmtOf_good (fun p h=>by cases h;exact stmt_good d)
def FnOk (g:Fn):Prop:=∃(b:List St) (es:List (List Tm)),g.body=b++[⟨9,[],[],es⟩]∧(∀s∈b,StOk s)∧Bal (b.map St.kind)∧∀e∈es,Wh e
theorem vl_ {ns:List (List Nat)} {i j:Nat} {g:Fn} (h:func T F ns i=.ok (g,j)):FnOk g:=by
 unfold func at h
 obtain ⟨s,i1,h1,h⟩:=R.on_ok h
 obtain ⟨l,i2,h2,h⟩:=R.on_ok h
 obtain ⟨ps,i3,h3,h⟩:=R.on_ok h
 obtain ⟨rs,i4,h4,h⟩:=R.on_ok h
 obtain ⟨_,i5,h5,h⟩:=R.on_ok h
 obtain ⟨vs,i6,h6,h⟩:=R.on_ok h
 obtain ⟨b,i7,h7,h⟩:=R.on_ok h
 obtain ⟨es,i8,h8,h⟩:=R.on_ok h
 obtain ⟨_,i9,h9,h⟩:=R.on_ok h
 injection h with h;injection h with h10 h11
 subst h10
 have g7:=gq_ (stmt_good 12) _ _ [] _ _ _ (fun _ hx=>(by cases hx)) Bal.nil h7
 exact ⟨b,es,rfl,g7.1,g7.2.1,(i1_ h8).1⟩
theorem do_ {ns:List (List Nat)}:∀(f:Nat) (s:So) (i:Nat) (s':So) (j:Nat),(∀g∈s.funcs,FnOk g)→declsF T F ns f s i=.ok (s',j)→∀g∈s'.funcs,FnOk g
 | 0,_,_,_,_,_,h=>by cases h
 | f+1,s,i,s',j,hs,h=>by
  rw [declsF] at h
  split at h
  ·injection h with h;injection h with h1 h2
   subst h1;exact hs
  ·split at h
   ·obtain ⟨d,i1,h1,h⟩:=R.on_ok h
    obtain ⟨_,i2,h2,h⟩:=R.on_ok h
    exact do_ f { s with globals:=s.globals++[d] } i2 s' j hs h
   ·split at h
    ·obtain ⟨d,i1,h1,h⟩:=R.on_ok h
     obtain ⟨_,i2,h2,h⟩:=R.on_ok h
     exact do_ f { s with channels:=s.channels++[d] } i2 s' j hs h
    ·split at h
     ·obtain ⟨n,i1,h1,h⟩:=R.on_ok h
      obtain ⟨v,i2,h2,h⟩:=R.on_ok h
      obtain ⟨l,i3,h3,h⟩:=R.on_ok h
      obtain ⟨_,i4,h4,h⟩:=R.on_ok h
      exact do_ f { s with arrays:=s.arrays++[⟨n,v,l⟩] } i4 s' j hs h
     ·split at h
      ·obtain ⟨g,i1,h1,h⟩:=R.on_ok h
       exact do_ f { s with funcs:=s.funcs++[g] } i1 s' j (mem_snoc hs (vl_ h1)) h
      ·cases h
theorem source_good {s:So} {j:Nat} (h:source T F=.ok (s,j)):∀g∈s.funcs,FnOk g:=by
 unfold source at h
 obtain ⟨ns,i1,h1,h⟩:=R.on_ok h
 exact do_ _ _ _ _ _ (fun _ hx=>(by cases hx)) h
end
def fin {α:Type}:R α→Nat
 | .error e=>e.2
 | .ok x=>x.2
def L {α:Type} (m i:Nat) (r r':R α):Prop:=i≤fin r∧(fin r≤m→r'=r)
theorem L.on {α β:Type} {m i:Nat} {r r':R α} {f f':α→Nat→R β} (h:L m i r r') (hf:∀x j,r=.ok (x,j)→L m j (f x j) (f' x j)):L m i (r.on f) (r'.on f'):=by
 match r,h,hf with
 | .error e,h,_=>exact ⟨h.1,fun hm=>by rw [h.2 hm];rfl⟩
 | .ok (x,j),h,hf =>
  have g:=hf x j rfl
  have h1:i≤j:=h.1
  have h2:j≤fin (f x j):=g.1
  refine ⟨Nat.le_trans h1 h2,fun hm=>?_⟩
  have hm':fin (f x j)≤m:=hm
  rw [h.2 (Nat.le_trans h2 hm')]
  exact g.2 hm'
theorem L.from {α:Type} {m i k:Nat} {r r':R α} (h:L m k r r') (hik:i≤k):L m i r r':=⟨Nat.le_trans hik h.1,h.2⟩
theorem L.ok {α:Type} {m i j:Nat} (x:α) (h:i≤j):L m i (.ok (x,j):R α) (.ok (x,j)):=⟨h,fun _=>rfl⟩
theorem L.err {α:Type} {m i j:Nat} (e:Nat) (h:i≤j):L m i (.error (e,j):R α) (.error (e,j)):=⟨h,fun _=>rfl⟩
theorem L.low {α:Type} {m i:Nat} {r r':R α} (h1:i≤fin r) (h:i≤m→L m i r r'):L m i r r':=⟨h1,fun hm=>(h (Nat.le_trans h1 hm)).2 hm⟩
theorem L.sw {α:Type} {m i:Nat} {c c':Bool} {a a' b b':R α} (hc:i≤m→c'=c) (ha:L m i a a') (hb:L m i b b'):L m i (if c=true then a else b) (if c'=true then a' else b'):=by
 refine L.low ?_ fun h=>?_
 ·split
  ·exact ha.1
  ·exact hb.1
 ·rw [hc h]
  split
  ·exact ha
  ·exact hb
theorem vm_ {α β:Type} {r:R α} {f:α→Nat→R β} (h:∀x j,r=.ok (x,j)→j≤fin (f x j)):fin r≤fin (r.on f):=by
 match r,h with
 | .error e,_=>exact Nat.le_refl _
 | .ok (x,j),h=>exact h x j rfl
section
variable {T T':Nat→Option K} {F m:Nat} (hT:∀i,i≤m→T' i=T i)
include hT
theorem b4_ {i:Nat} (s:List Nat) (h:i≤m):is T' i s=is T i s:=by unfold is;rw [hT i h]
theorem en_ {i:Nat} (h:i≤m):named T' i=named T i:=by unfold named;rw [hT i h]
theorem qm_ {i:Nat} (ms:List (List Nat × Nat)) (h:i≤m):opOf T' ms i=opOf T ms i:=by
 unfold opOf
 rw [show (fun m:List Nat × Nat=>is T' i m.1)=fun m=>is T i m.1 from funext fun x=>b4_ hT x.1 h]
theorem bk_ (i:Nat) (s:List Nat):L m i (want T i s) (want T' i s):=by
 unfold want
 exact L.sw (fun h=>b4_ hT s h) (L.ok _ (by omega)) (L.err _ (by omega))
theorem d1_ (i:Nat):L m i (name T i) (name T' i):=by
 refine L.low ?_ fun h=>?_
 ·unfold name;split
  ·split <;> simp [fin]
  ·simp [fin]
 ·unfold name;rw [hT i h];split
  ·split
   ·exact L.ok _ (by omega)
   ·exact L.err _ (by omega)
  ·exact L.err _ (by omega)
theorem r3_ (i:Nat):L m i (number T i) (number T' i):=by
 refine L.low ?_ fun h=>?_
 ·unfold number;split
  ·split <;> simp [fin]
  ·simp [fin]
 ·unfold number;rw [hT i h];split
  ·split
   ·exact L.ok _ (by omega)
   ·exact L.err _ (by omega)
  ·exact L.err _ (by omega)
theorem gs_ (ns:List (List Nat)):∀(f l i:Nat),L m i (labelF T ns f l i) (labelF T' ns f l i)
 | 0,_,_=>L.err _ (by omega)
 | f+1,l,i=>by
  refine L.low ?_ fun h=>?_
  ·rw [labelF];split
   ·split
    ·split
     ·exact ((gs_ ns f _ (i+1)).from (by omega)).1
     ·simp [fin]
    ·simp [fin]
   ·simp [fin]
  ·rw [labelF,labelF,hT i h];split
   ·split
    ·split
     ·exact (gs_ ns f _ (i+1)).from (by omega)
     ·exact L.err _ (by omega)
    ·exact L.ok _ (by omega)
   ·exact L.ok _ (by omega)
theorem f5_ (ns:List (List Nat)) (i:Nat):L m i (label T F ns i) (label T' F ns i) :=
 (bk_ hT i _).on fun _ j _=>(gs_ hT ns F 0 j).on fun _ j _=>(bk_ hT j _).on fun _ _ _=>L.ok _ (Nat.le_refl _)
theorem lt_ (ns:List (List Nat)) (i:Nat):L m i (decl T F ns i) (decl T' F ns i) :=
 (d1_ hT i).on fun _ j _=>(f5_ hT ns j).on fun _ _ _=>L.ok _ (Nat.le_refl _)
theorem lu_ {p p':Nat→R (List Tm)} (hp:∀i,L m i (p i) (p' i)) (ms:List (List Nat × Nat)):∀(f:Nat) (l:List Tm) (i:Nat),L m i (loopF T p ms f l i) (loopF T' p' ms f l i)
 | 0,_,_=>L.err _ (by omega)
 | f+1,l,i=>by
  have key:∀o,L m i ((p (i+1)).on fun r j=>loopF T p ms f (l++r++[⟨5,o,[]⟩]) j) ((p' (i+1)).on fun r j=>loopF T' p' ms f (l++r++[⟨5,o,[]⟩]) j):=fun o =>
   ((hp (i+1)).from (by omega)).on fun r j _=>lu_ hp ms f _ j
  refine L.low ?_ fun h=>?_
  ·rw [loopF];split
   ·simp [fin]
   ·exact (key _).1
  ·rw [loopF,loopF,qm_ hT ms h];split
   ·exact L.ok _ (by omega)
   ·exact key _
theorem eo_ {u u':Nat→R (List Tm)} (hu:∀i,L m i (u i) (u' i)):∀k i,L m i (tower T F u k i) (tower T' F u' k i)
 | 0,i=>hu i
 | k+1,i=>by
  rw [tower,tower]
  exact (eo_ hu k i).on fun l j _=>lu_ hT (eo_ hu k) _ _ _ _
theorem m9_:∀(f i:Nat),L m i (unOps T f i) (unOps T' f i)
 | 0,_=>L.err _ (by omega)
 | f+1,i=>by
  have key:∀o,L m i ((unOps T f (i+1)).on fun l j=>(.ok (o::l,j):R (List Nat))) ((unOps T' f (i+1)).on fun l j=>(.ok (o::l,j):R (List Nat))):=fun o =>
   ((m9_ f (i+1)).from (by omega)).on fun _ _ _=>L.ok _ (Nat.le_refl _)
  refine L.low ?_ fun h=>?_
  ·rw [unOps];split
   ·simp [fin]
   ·exact (key _).1
  ·rw [unOps,unOps,qm_ hT _ h];split
   ·exact L.ok _ (by omega)
   ·exact key _
def brack (T:Nat→Option K) (e:Option (Nat→R (List Tm))) (g:List Tm→List Tm) (s:List Nat) (i:Nat):R (List Tm) :=
 match e with
 | none=>.error (51,i)
 | some p=>(p (i+1)).on fun l i=>(want T i s).on fun _ i=>.ok (g l,i)
def atomN (T:Nat→Option K) (e:Option (Nat→R (List Tm))) (i:Nat):R (List Tm) :=
 (name T i).on fun s i=>if is T i [91] then brack T e (fun l=>l++[⟨3,0,s⟩]) [93] i else .ok ([⟨2,0,s⟩],i)
def atom (T:Nat→Option K) (e:Option (Nat→R (List Tm))) (i:Nat):R (List Tm) :=
 match T i with
 | none=>.error (50,i)
 | some k =>
  if k.kind=3 then .ok ([⟨1,k.value,[]⟩],i+1)
  else if is T i [40] then brack T e (fun l=>l) [41] i
  else atomN T e i
omit hT in
theorem unary_atom (e:Option (Nat→R (List Tm))) (i:Nat):unary T F e i=(unOps T F i).on fun ops i=>(atom T e i).on fun l i=>.ok (l++ops.reverse.map fun o=>⟨4,o,[]⟩,i):=rfl
def Both (m:Nat):Option (Nat→R (List Tm))→Option (Nat→R (List Tm))→Prop
 | none,none=>True
 | some p,some p'=>∀i,L m i (p i) (p' i)
 | _,_=>False
theorem i2_ {e e':Option (Nat→R (List Tm))} (he:Both m e e') (g:List Tm→List Tm) (s:List Nat) (i:Nat) :
 L m i (brack T e g s i) (brack T' e' g s i):=by
 match e,e',he with
 | none,none,_=>exact L.err _ (Nat.le_refl _)
 | some p,some p',he=>exact ((he (i+1)).from (by omega)).on fun l j _=>(bk_ hT j s).on fun _ _ _=>L.ok _ (Nat.le_refl _)
theorem vn_ {e e':Option (Nat→R (List Tm))} (he:Both m e e') (i:Nat):L m i (atomN T e i) (atomN T' e' i) :=
 (d1_ hT i).on fun s j _=>L.sw (fun h=>b4_ hT _ h) (i2_ hT he (fun l=>l++[⟨3,0,s⟩]) _ j) (L.ok _ (Nat.le_refl _))
theorem yz_ {e e':Option (Nat→R (List Tm))} (he:Both m e e') (i:Nat):L m i (atom T e i) (atom T' e' i):=by
 have key2:=L.sw (fun h=>b4_ hT [40] h) (i2_ hT he (fun l=>l) [41] i) (vn_ hT he i)
 refine L.low ?_ fun h=>?_
 ·unfold atom;split
  ·simp [fin]
  ·split
   ·simp [fin]
   ·exact key2.1
 ·unfold atom;rw [hT i h];split
  ·exact L.err _ (by omega)
  ·split
   ·exact L.ok _ (by omega)
   ·exact key2
theorem i3_ {e e':Option (Nat→R (List Tm))} (he:Both m e e') (i:Nat):L m i (unary T F e i) (unary T' F e' i):=by
 rw [unary_atom,unary_atom]
 exact (m9_ hT F i).on fun ops j _=>(yz_ hT he j).on fun _ _ _=>L.ok _ (Nat.le_refl _)
theorem ce_:∀d i,L m i (exprD T F d i) (exprD T' F d i)
 | 0,i=>eo_ hT (i3_ (e:=none) (e':=none) hT trivial) 6 i
 | d+1,i=>eo_ hT (i3_ (e:=some _) (e':=some _) hT (ce_ d)) 6 i
end
section
variable {T:Nat→Option K} {F:Nat}
theorem not_is {i:Nat} (h:named T i=true) (s:List Nat):is T i s=false:=by
 unfold named at h;unfold is
 split
 ·rename_i k hk
  rw [hk] at h
  have:k.kind=1:=by simpa using h
  simp [this]
 ·rfl
theorem no_op {i:Nat} (h:named T i=true) (ms:List (List Nat × Nat)):opOf T ms i=0:=by
 unfold opOf
 have:ms.find? (fun m=>is T i m.1)=none:=by
  rw [List.find?_eq_none]
  intro x _
  rw [not_is h];simp
 rw [this]
theorem lv_ {i:Nat} (h:named T i=true):∃k,T i=some k∧k.kind=1∧name T i=.ok (k.text,i+1):=by
 unfold named at h
 split at h
 ·rename_i k hk
  have:k.kind=1:=by simpa using h
  exact ⟨k,hk,this,by unfold name;rw [hk];simp [this]⟩
 ·cases h
theorem expr_on (hF:F≠0) {i:Nat} (h:named T i=true):i+1≤fin (expr T F i):=by
 have ht:∀j,j≤0→T j=T j:=fun _ _=>rfl
 have hu:i+1≤fin (unary T F (some (exprD T F 11)) i):=by
  rw [unary_atom]
  have h1:unOps T F i=.ok ([],i):=by
   match F,hF with
   | f+1,_=>rw [unOps,if_pos (no_op h _)]
  rw [h1]
  show i+1≤fin ((atom T (some (exprD T F 11)) i).on _)
  refine Nat.le_trans ?_ (vm_ fun x j _=>Nat.le_refl _)
  obtain ⟨k,hk,h1,h2⟩:=lv_ h
  unfold atom
  rw [hk]
  show i+1≤fin (if k.kind=3 then _ else if is T i [40] then _ else atomN T _ i)
  rw [if_neg (by omega),not_is h,if_neg (by simp)]
  unfold atomN
  rw [h2]
  exact (L.sw (m:=0) (fun h=>b4_ ht _ h) (i2_ (T':=T) ht (e:=some (exprD T F 11)) (e':=some (exprD T F 11)) (ce_ ht 11) (fun l=>l++[⟨3,0,k.text⟩]) [93] (i+1)) (L.ok _ (Nat.le_refl _))).1
 have hl:=fun i=>(i3_ (T':=T) (F:=F) ht (e:=some (exprD T F 11)) (e':=some (exprD T F 11)) (ce_ ht 11) i)
 have:∀k,i+1≤fin (tower T F (unary T F (some (exprD T F 11))) k i):=by
  intro k
  induction k with
  | zero=>exact hu
  | succ k ih =>
   rw [tower]
   exact Nat.le_trans ih (vm_ fun x j _=>(lu_ (T':=T) ht (eo_ ht hl k) _ _ _ _).1)
 exact this 6
end
section
variable {T T':Nat→Option K} {F m:Nat} (hT:∀i,i≤m→T' i=T i)
include hT
theorem na_ {e e':Nat→R (List Tm)} (he:∀i,L m i (e i) (e' i)) (s:List Nat):∀(f:Nat) (l:List (List Tm)) (i:Nat),L m i (listF T e s f l i) (listF T' e' s f l i)
 | 0,_,_=>L.err _ (Nat.le_refl _)
 | f+1,l,i=>by
  rw [listF,listF]
  exact (he i).on fun x j _=>L.sw (fun h=>b4_ hT _ h) (L.ok _ (by omega)) (L.sw (fun h=>b4_ hT _ h) ((na_ he s f _ (j+1)).from (by omega)) (L.err _ (Nat.le_refl _)))
theorem qn_ (s:List Nat) (i:Nat):L m i (list T F s i) (list T' F s i):=by
 unfold list
 exact L.sw (fun h=>b4_ hT _ h) (L.ok _ (by omega)) (na_ hT (ce_ hT 12) s _ _ _)
theorem hg_:∀(f:Nat) (l:List (List Nat)) (i:Nat),L m i (targetsF T f l i) (targetsF T' f l i)
 | 0,_,_=>L.err _ (Nat.le_refl _)
 | f+1,l,i=>by
  rw [targetsF,targetsF]
  exact L.sw (fun h=>b4_ hT _ h) (((d1_ hT (i+1)).from (by omega)).on fun s j _=>hg_ f _ j) (L.ok _ (Nat.le_refl _))
theorem gt_ {s s':Nat→R (List St)} (hs:∀i,L m i (s i) (s' i)) (e:List Nat):∀(f:Nat) (l:List St) (i:Nat),L m i (stmtsF T s e f l i) (stmtsF T' s' e f l i)
 | 0,_,_=>L.err _ (Nat.le_refl _)
 | f+1,l,i=>by
  rw [stmtsF,stmtsF]
  exact L.sw (fun h=>b4_ hT _ h) (L.ok _ (by omega)) ((hs i).on fun x j _=>gt_ hs e f _ j)
def BothS (m:Nat):Option (Nat→R (List St))→Option (Nat→R (List St))→Prop
 | none,none=>True
 | some p,some p'=>∀i,L m i (p i) (p' i)
 | _,_=>False
theorem i4_ {s s':Option (Nat→R (List St))} (hs:BothS m s s') (i:Nat):L m i (block T F s i) (block T' F s' i):=by
 match s,s',hs with
 | none,none,_=>exact L.sw (fun h=>b4_ hT _ h) (L.err _ (Nat.le_refl _)) (L.err _ (Nat.le_refl _))
 | some p,some p',hs=>exact (bk_ hT i _).on fun _ j _=>gt_ hT hs _ _ _ _
theorem lw_ (ts:List (List Nat)) (s:List Nat) (i:Nat):L m i (call T F ts s i) (call T' F ts s i) :=
 (bk_ hT i _).on fun _ j _=>(qn_ hT _ j).on fun _l j _=>(bk_ hT j _).on fun _ _ _=>L.ok _ (Nat.le_refl _)
theorem vo_ (hF:F≠0) (i:Nat):L m i (plain T F i) (plain T' F i):=by
 refine (d1_ hT i).on fun s j _=>?_
 refine L.sw (fun h=>b4_ hT _ h) ?_ (L.sw (fun h=>b4_ hT _ h) (lw_ hT _ _ j) ?_)
 ·exact ((ce_ hT 12 (j+1)).from (by omega)).on fun a j _=>(bk_ hT j _).on fun _ j _=>(bk_ hT j _).on fun _ j _=>(ce_ hT 12 j).on fun b j _=>(bk_ hT j _).on fun _ j _=>L.ok _ (Nat.le_refl _)
 ·refine (hg_ hT F [s] j).on fun ts j _=>(bk_ hT j _).on fun _ j _=>?_
  have A:L m j ((expr T F j).on fun e i=>(want T i [59]).on fun _ i=>(.ok ([⟨1,[],ts,[e]⟩],i):R (List St))) ((expr T' F j).on fun e i=>(want T' i [59]).on fun _ i=>(.ok ([⟨1,[],ts,[e]⟩],i):R (List St))) :=
   (ce_ hT 12 j).on fun e j _=>(bk_ hT j _).on fun _ j _=>L.ok _ (Nat.le_refl _)
  have B:L m j ((name T j).on fun s i=>call T F ts s i) ((name T' j).on fun s i=>call T' F ts s i) :=
   (d1_ hT j).on fun s j _=>lw_ hT ts s j
  by_cases hl:ts.length=1
  ·by_cases hn:named T j=true
   ·-- a name: the token behind it decides,and either way goes on to it
    have hA:j+1≤fin ((expr T F j).on fun e i=>(want T i [59]).on fun _ i=>(.ok ([⟨1,[],ts,[e]⟩],i):R (List St))) :=
     Nat.le_trans (expr_on hF hn) (vm_ fun e k _=>((bk_ (T':=T) (m:=0) (fun _ _=>rfl) k _).on (f':=fun _ i=>(.ok ([⟨1,[],ts,[e]⟩],i):R (List St))) fun _ _ _=>L.ok _ (Nat.le_refl _)).1)
    have hB:j+1≤fin ((name T j).on fun s i=>call T F ts s i):=by
     obtain ⟨k,_,_,h2⟩:=lv_ hn
     rw [h2]
     exact (lw_ (T':=T) (m:=0) (fun _ _=>rfl) ts k.text (j+1)).1
    refine ⟨?_,fun hm=>?_⟩
    ·split
     ·exact A.1
     ·exact B.1
    ·have hj:j+1≤m:=by
      refine Nat.le_trans ?_ hm
      split
      ·exact hA
      ·exact hB
     have h1:=en_ hT (i:=j) (by omega)
     have h2:=b4_ hT [40] hj
     rw [h1,h2]
     split at hm
     ·rename_i hc
      rw [if_pos hc,if_pos hc]
      exact A.2 hm
     ·rename_i hc
      rw [if_neg hc,if_neg hc]
      exact B.2 hm
   ·refine L.low ?_ fun hj=>?_
    ·rw [if_pos ⟨hl,fun h=>hn h.1⟩];exact A.1
    ·rw [if_pos ⟨hl,fun h=>hn h.1⟩,if_pos ⟨hl,fun h=>hn (by rw [←en_ hT hj];exact h.1)⟩]
     exact A
  ·rw [if_neg (fun h=>hl h.1),if_neg (fun h=>hl h.1)]
   exact B
theorem ka_ (hF:F≠0) {s s':Option (Nat→R (List St))} (hs:BothS m s s') (i:Nat):L m i (stmtOf T F s i) (stmtOf T' F s' i):=by
 unfold stmtOf
 refine L.sw (fun h=>b4_ hT _ h) ?_ (L.sw (fun h=>b4_ hT _ h) ?_ (L.sw (fun h=>b4_ hT _ h) ?_ (vo_ hT hF i)))
 ·exact ((ce_ hT 12 (i+1)).from (by omega)).on fun e j _=>(i4_ hT hs j).on fun a j _ =>
   L.sw (fun h=>b4_ hT _ h) (((i4_ hT hs (j+1)).from (by omega)).on fun b j _=>L.ok _ (Nat.le_refl _)) (L.ok _ (Nat.le_refl _))
 ·exact ((ce_ hT 12 (i+1)).from (by omega)).on fun e j _=>(i4_ hT hs j).on fun a j _=>L.ok _ (Nat.le_refl _)
 ·exact ((d1_ hT (i+1)).from (by omega)).on fun c j _=>(ce_ hT 12 j).on fun e j _=>(bk_ hT j _).on fun _ j _=>L.ok _ (Nat.le_refl _)
theorem qo_ (hF:F≠0):∀d i,L m i (stmtD T F d i) (stmtD T' F d i)
 | 0,i=>ka_ hT hF (s:=none) (s':=none) trivial i
 | d+1,i=>ka_ hT hF (s:=some _) (s':=some _) (qo_ hF d) i
theorem qp_ {α:Type} {p p':Nat→R α} (hp:∀i,L m i (p i) (p' i)):∀(f:Nat) (l:List α) (i:Nat),L m i (rowF T p f l i) (rowF T' p' f l i)
 | 0,_,_=>L.err _ (Nat.le_refl _)
 | f+1,l,i=>by
  rw [rowF,rowF]
  exact (hp i).on fun x j _=>L.sw (fun h=>b4_ hT _ h) (L.ok _ (by omega)) (L.sw (fun h=>b4_ hT _ h) ((qp_ hp f _ (j+1)).from (by omega)) (L.err _ (Nat.le_refl _)))
theorem vp_ {α:Type} {p p':Nat→R α} (hp:∀i,L m i (p i) (p' i)) (i:Nat):L m i (row T F p i) (row T' F p' i) :=
 (bk_ hT i _).on fun _ j _=>L.sw (fun h=>b4_ hT _ h) (L.ok _ (by omega)) (qp_ hT hp _ _ _)
theorem nb_ (ns:List (List Nat)):∀(f:Nat) (l:List De) (i:Nat),L m i (varsF T F ns f l i) (varsF T' F ns f l i)
 | 0,_,_=>L.err _ (Nat.le_refl _)
 | f+1,l,i=>by
  rw [varsF,varsF]
  exact L.sw (fun h=>b4_ hT _ h) (((lt_ hT ns (i+1)).from (by omega)).on fun d j _=>(bk_ hT j _).on fun _ j _=>nb_ ns f _ j) (L.ok _ (Nat.le_refl _))
theorem func_loc (hF:F≠0) (ns:List (List Nat)) (i:Nat):L m i (func T F ns i) (func T' F ns i) :=
 (d1_ hT i).on fun _s j _=>(f5_ hT ns j).on fun _l j _=>(vp_ hT (lt_ hT ns) j).on fun _ps j _=>(vp_ hT (f5_ hT ns) j).on fun _rs j _ =>
  (bk_ hT j _).on fun _ j _=>(nb_ hT ns F [] j).on fun _vs j _=>(gt_ hT (qo_ hT hF 12) _ _ _ j).on fun _b j _ =>
   (qn_ hT _ j).on fun _es j _=>(bk_ hT j _).on fun _ _j _=>L.ok _ (Nat.le_refl _)
theorem namesF_loc:∀(f:Nat) (l:List (List Nat)) (i:Nat),L m i (namesF T f l i) (namesF T' f l i)
 | 0,_,_=>L.err _ (Nat.le_refl _)
 | f+1,l,i=>by
  rw [namesF,namesF]
  by_cases hn:named T i=true
  ·obtain ⟨k,hk,h1,h2⟩:=lv_ hn
   have g:L m i (if l.length=64 then .error (74,i) else if named T (i+1) then namesF T f (l++[k.text]) (i+1) else .ok (l++[k.text],i+1))
    (if l.length=64 then .error (74,i) else if named T' (i+1) then namesF T' f (l++[k.text]) (i+1) else .ok (l++[k.text],i+1)):=by
    by_cases hl:l.length=64
    ·rw [if_pos hl,if_pos hl];exact L.err _ (Nat.le_refl _)
    ·rw [if_neg hl,if_neg hl]
     exact (L.sw (fun h=>en_ hT h) (namesF_loc f _ (i+1)) (L.ok _ (Nat.le_refl _))).from (by omega)
   refine L.low (by rw [h2];exact g.1) fun hi=>?_
   have hn':named T' i=true:=by rw [en_ hT hi];exact hn
   obtain ⟨k',hk',_,h2'⟩:=lv_ hn'
   rw [hT i hi,hk] at hk'
   obtain rfl:=Option.some.inj hk'
   rw [h2,h2']
   exact g
  ·have hE:∀T0:Nat→Option K,¬named T0 i=true→name T0 i=.error (50,i):=by
    intro T0 h0
    unfold name;unfold named at h0
    split
    ·rename_i k hk
     rw [hk] at h0
     rw [if_neg (by simpa using h0)]
    ·rfl
   refine L.low ?_ fun hi=>?_
   ·rw [hE T hn];exact Nat.le_refl _
   ·rw [hE T hn,hE T' (by rw [en_ hT hi];exact hn)]
    exact L.err _ (Nat.le_refl _)
end
def Fit {α:Type} (n:Nat):R α→Prop
 | .error e=>(e.1=50∨e.1=10∨e.1=74∨e.1=51)∧e.2≤n
 | .ok x=>x.2≤n
theorem Fit.on {α β:Type} {n:Nat} {r:R α} {f:α→Nat→R β} (h:Fit n r) (hf:∀x j,r=.ok (x,j)→j≤n→Fit n (f x j)):Fit n (r.on f):=by
 match r,h,hf with
 | .error e,h,_=>exact h
 | .ok (x,j),h,hf=>exact hf x j rfl h
theorem Fit.ok {α:Type} {n j:Nat} (x:α) (h:j≤n):Fit n (.ok (x,j):R α):=h
theorem Fit.err {α:Type} {n j:Nat} (h:j≤n):Fit n (.error (50,j):R α):=⟨.inl rfl,h⟩
theorem Fit.sw {α:Type} {n:Nat} {c:Prop} [Decidable c] {a b:R α} (ha:c→Fit n a) (hb:¬c→Fit n b):Fit n (if c then a else b):=by
 split
 ·rename_i h;exact ha h
 ·rename_i h;exact hb h
section
variable {T:Nat→Option K} {F n:Nat} (hN:∀i,n≤i→T i=none)
include hN
theorem is_lt {i:Nat} {s:List Nat} (h:is T i s=true):i<n:=by
 by_cases hi:n≤i
 ·unfold is at h;rw [hN i hi] at h;cases h
 ·omega
theorem named_lt {i:Nat} (h:named T i=true):i<n:=by
 by_cases hi:n≤i
 ·unfold named at h;rw [hN i hi] at h;cases h
 ·omega
theorem lx_ {i:Nat} {k:K} (h:T i=some k):i<n:=by
 by_cases hi:n≤i
 ·rw [hN i hi] at h;cases h
 ·omega
theorem opOf_lt {i:Nat} {ms:List (List Nat × Nat)} (h:opOf T ms i≠0):i<n:=by
 unfold opOf at h
 split at h
 ·rename_i x hx
  exact is_lt hN (s:=x.1) (by simpa using List.find?_some hx)
 ·exact absurd rfl h
theorem want_fit {i:Nat} (s:List Nat) (h:i≤n):Fit n (want T i s):=Fit.sw (fun hc=>Fit.ok _ (is_lt hN hc)) (fun _=>Fit.err h)
theorem name_fit {i:Nat} (h:i≤n):Fit n (name T i):=by
 unfold name;split
 ·rename_i k hk
  exact Fit.sw (fun _=>Fit.ok _ (lx_ hN hk)) (fun _=>Fit.err h)
 ·exact Fit.err h
theorem number_fit {i:Nat} (h:i≤n):Fit n (number T i):=by
 unfold number;split
 ·rename_i k hk
  exact Fit.sw (fun _=>Fit.ok _ (lx_ hN hk)) (fun _=>Fit.err h)
 ·exact Fit.err h
theorem kb_ (ns:List (List Nat)):∀(f l i:Nat),i≤n→n<f+i→Fit n (labelF T ns f l i)
 | 0,_,_,h,hf=>by omega
 | f+1,l,i,h,hf=>by
  rw [labelF];split
  ·rename_i k hk
   have:=lx_ hN hk
   exact Fit.sw (fun _=>Fit.sw (fun _=>kb_ ns f _ _ (by omega) (by omega)) (fun _=>⟨.inr (.inl rfl),h⟩)) (fun _=>Fit.ok _ h)
  ·exact Fit.ok _ h
theorem label_fit (hF:n<F) (ns:List (List Nat)) {i:Nat} (h:i≤n):Fit n (label T F ns i) :=
 (want_fit hN _ h).on fun _ _ _ h=>(kb_ hN ns F 0 _ h (by omega)).on fun _ _ _ h=>(want_fit hN _ h).on fun _ _ _ h=>Fit.ok _ h
theorem h0_ (hF:n<F) (ns:List (List Nat)) {i:Nat} (h:i≤n):Fit n (decl T F ns i) :=
 (name_fit hN h).on fun _ _ _ h=>(label_fit hN hF ns h).on fun _ _ _ h=>Fit.ok _ h
def FitP {α:Type} (n:Nat) (p:Nat→R α):Prop:=∀i,i≤n→Fit n (p i)∧∀x j,p i=.ok (x,j)→i≤j
theorem loop_fit {p:Nat→R (List Tm)} (hp:FitP n p) (ms:List (List Nat × Nat)):∀(f:Nat) (l:List Tm) (i:Nat),i≤n→n<f+i→Fit n (loopF T p ms f l i)
 | 0,_,_,h,hf=>by omega
 | f+1,l,i,h,hf=>by
  rw [loopF]
  refine Fit.sw (fun _=>Fit.ok _ h) fun ho=>?_
  have:=opOf_lt hN ho
  exact (hp (i+1) this).1.on fun r j hr hj=>loop_fit hp ms f _ j hj (by have:=(hp (i+1) this).2 _ _ hr;omega)
theorem tower_fit (hF:n<F) {u:Nat→R (List Tm)} (hu:FitP n u):∀k,FitP n (tower T F u k)
 | 0=>hu
 | k+1=>fun i hi=>by
  have hk:=tower_fit hF hu k
  refine ⟨?_,fun x j hx=>?_⟩
  ·rw [tower]
   exact (hk i hi).1.on fun l j _ hj=>loop_fit hN hk _ F l j hj (by omega)
  ·rw [tower] at hx
   obtain ⟨l,j1,h1,h2⟩:=R.on_ok hx
   have a:=(hk i hi).2 _ _ h1
   have hj1:j1≤n:=by have:=(hk i hi).1;rw [h1] at this;exact this
   have b:∀(f:Nat) (l:List Tm) (i:Nat) (l':List Tm) (j:Nat),i≤n→loopF T (tower T F u k) (marks (5 - k)) f l i=.ok (l',j)→i≤j:=by
    intro f
    induction f with
    | zero=>intro l i l' j _ h;cases h
    | succ f ih =>
     intro l i l' j hi h
     rw [loopF] at h
     split at h
     ·injection h with h;injection h with _ h;omega
     ·rename_i ho
      have hlt:=opOf_lt hN ho
      obtain ⟨r,i2,h3,h4⟩:=R.on_ok h
      have c:=(hk (i+1) hlt).2 _ _ h3
      have hi2:i2≤n:=by have:=(hk (i+1) hlt).1;rw [h3] at this;exact this
      have:=ih _ _ _ _ hi2 h4
      omega
   have:=b _ _ _ _ _ hj1 h2
   omega
theorem unOps_fit:∀(f i:Nat),i≤n→n<f+i→Fit n (unOps T f i)
 | 0,_,h,hf=>by omega
 | f+1,i,h,hf=>by
  rw [unOps]
  refine Fit.sw (fun _=>Fit.ok _ h) fun ho=>?_
  have:=opOf_lt hN ho
  exact (unOps_fit f (i+1) this (by omega)).on fun _ _ _ hj=>Fit.ok _ hj
theorem brack_fit {e:Option (Nat→R (List Tm))} (he:∀p,e=some p→FitP n p) (g:List Tm→List Tm) (s:List Nat) {i:Nat} (h:i<n):Fit n (brack T e g s i):=by
 unfold brack;split
 ·exact ⟨.inr (.inr (.inr rfl)),by show i≤n;omega⟩
 ·exact (he _ rfl (i+1) h).1.on fun _ _ _ hj=>(want_fit hN _ hj).on fun _ _ _ hj=>Fit.ok _ hj
theorem atom_fit {e:Option (Nat→R (List Tm))} (he:∀p,e=some p→FitP n p) {i:Nat} (h:i≤n):Fit n (atom T e i):=by
 unfold atom;split
 ·exact Fit.err h
 ·rename_i k hk
  exact Fit.sw (fun _=>Fit.ok _ (lx_ hN hk)) fun _=>Fit.sw (fun hi=>brack_fit hN he _ _ (is_lt hN hi)) fun _ =>
   (name_fit hN h).on fun s j _ hj=>Fit.sw (fun hi=>brack_fit hN he _ _ (is_lt hN hi)) fun _=>Fit.ok _ hj
theorem unary_fit (hF:n<F) {e:Option (Nat→R (List Tm))} (he:∀p,e=some p→FitP n p) (hg:∀p,e=some p→Good p):FitP n (unary T F e):=fun i hi=>by
 refine ⟨?_,fun x j hx=>Nat.le_of_lt (gm_ hg _ _ _ hx).2⟩
 rw [unary_atom]
 exact (unOps_fit hN F i hi (by omega)).on fun _ _ _ hj=>(atom_fit hN he hj).on fun _ _ _ hj=>Fit.ok _ hj
theorem expr_fit (hF:n<F):∀d,FitP n (exprD T F d)
 | 0=>tower_fit hN hF (unary_fit hN hF (fun p h=>by cases h) (fun p h=>by cases h)) 6
 | d+1=>tower_fit hN hF (unary_fit hN hF (fun p h=>by cases h;exact expr_fit hF d) (fun p h=>by cases h;exact expr_good d)) 6
theorem nc_ {e:Nat→R (List Tm)} (he:FitP n e) (s:List Nat):∀(f:Nat) (l:List (List Tm)) (i:Nat),i≤n→n<f+i→Fit n (listF T e s f l i)
 | 0,_,_,h,hf=>by omega
 | f+1,l,i,h,hf=>by
  rw [listF]
  refine (he i h).1.on fun x j hx hj=>Fit.sw (fun hi=>Fit.ok _ (is_lt hN hi)) fun _=>Fit.sw (fun hi=>nc_ he s f _ _ (is_lt hN hi) ?_) fun _=>Fit.err hj
  have:=(he i h).2 _ _ hx
  omega
theorem qq_ (hF:n<F) (s:List Nat) {i:Nat} (h:i≤n):Fit n (list T F s i) :=
 Fit.sw (fun hi=>Fit.ok _ (is_lt hN hi)) fun _=>nc_ hN (expr_fit hN hF 12) s _ _ _ h (by omega)
theorem targetsF_fit:∀(f:Nat) (l:List (List Nat)) (i:Nat),i≤n→n<f+i→Fit n (targetsF T f l i)
 | 0,_,_,h,hf=>by omega
 | f+1,l,i,h,hf=>by
  rw [targetsF]
  exact Fit.sw (fun hi=>(name_fit hN (is_lt hN hi)).on fun s j hs hj=>targetsF_fit f _ j hj (by have:=(name_ok hs).2.1;omega)) fun _=>Fit.ok _ h
theorem gu_ {s:Nat→R (List St)} (hs:∀i,i≤n→Fit n (s i)) (hg:GoodS s) (e:List Nat):∀(f:Nat) (l:List St) (i:Nat),i≤n→n<f+i→Fit n (stmtsF T s e f l i)
 | 0,_,_,h,hf=>by omega
 | f+1,l,i,h,hf=>by
  rw [stmtsF]
  exact Fit.sw (fun hi=>Fit.ok _ (is_lt hN hi)) fun _=>(hs i h).on fun x j hx hj=>gu_ hs hg e f _ j hj (by have:=(hg _ _ _ hx).2.2;omega)
theorem i5_ (hF:n<F) {s:Option (Nat→R (List St))} (hs:∀p,s=some p→∀i,i≤n→Fit n (p i)) (hg:∀p,s=some p→GoodS p) {i:Nat} (h:i≤n):Fit n (block T F s i):=by
 unfold block;split
 ·exact Fit.sw (fun _=>⟨.inr (.inr (.inr rfl)),h⟩) fun _=>Fit.err h
 ·exact (want_fit hN _ h).on fun _ j _ hj=>gu_ hN (hs _ rfl) (hg _ rfl) _ F _ j hj (by omega)
theorem qr_ (hF:n<F) (ts:List (List Nat)) (s:List Nat) {i:Nat} (h:i≤n):Fit n (call T F ts s i) :=
 (want_fit hN _ h).on fun _ _ _ h=>(qq_ hN hF _ h).on fun _ _ _ h=>(want_fit hN _ h).on fun _ _ _ h=>Fit.ok _ h
theorem vq_ (hF:n<F) {i:Nat} (h:i≤n):Fit n (plain T F i) :=
 (name_fit hN h).on fun s j _ h=>Fit.sw
  (fun hi=>(expr_fit hN hF 12 (j+1) (is_lt hN hi)).1.on fun _ _ _ h=>(want_fit hN _ h).on fun _ _ _ h=>(want_fit hN _ h).on fun _ j _ h=>(expr_fit hN hF 12 j h).1.on fun _ _ _ h=>(want_fit hN _ h).on fun _ _ _ h=>Fit.ok _ h)
  fun _=>Fit.sw (fun _=>qr_ hN hF _ _ h) fun _=>(targetsF_fit hN F _ j h (by omega)).on fun ts _ _ h=>(want_fit hN _ h).on fun _ j _ h=>Fit.sw
   (fun _=>(expr_fit hN hF 12 j h).1.on fun _ _ _ h=>(want_fit hN _ h).on fun _ _ _ h=>Fit.ok _ h)
   fun _=>(name_fit hN h).on fun _ _ _ h=>qr_ hN hF _ _ h
theorem stmtOf_fit (hF:n<F) {s:Option (Nat→R (List St))} (hs:∀p,s=some p→∀i,i≤n→Fit n (p i)) (hg:∀p,s=some p→GoodS p) {i:Nat} (h:i≤n):Fit n (stmtOf T F s i) :=
 Fit.sw (fun hi=>(expr_fit hN hF 12 (i+1) (is_lt hN hi)).1.on fun _ _ _ h=>(i5_ hN hF hs hg h).on fun _ _j _ h=>Fit.sw
  (fun hi=>(i5_ hN hF hs hg (is_lt hN hi)).on fun _ _ _ h=>Fit.ok _ h) fun _=>Fit.ok _ h)
  fun _=>Fit.sw (fun hi=>(expr_fit hN hF 12 (i+1) (is_lt hN hi)).1.on fun _ _ _ h=>(i5_ hN hF hs hg h).on fun _ _ _ h=>Fit.ok _ h)
  fun _=>Fit.sw (fun hi=>(name_fit hN (is_lt hN hi)).on fun _ j _ h=>(expr_fit hN hF 12 j h).1.on fun _ _ _ h=>(want_fit hN _ h).on fun _ _ _ h=>Fit.ok _ h)
  fun _=>vq_ hN hF h
theorem stmt_fit (hF:n<F):∀d i,i≤n→Fit n (stmtD T F d i)
 | 0,_,h=>stmtOf_fit hN hF (fun p h=>by cases h) (fun p h=>by cases h) h
 | d+1,_,h=>stmtOf_fit hN hF (fun p h=>by cases h;exact stmt_fit hF d) (fun p h=>by cases h;exact stmt_good d) h
theorem qs_ {α:Type} {p:Nat→R α} (hp:FitP n p):∀(f:Nat) (l:List α) (i:Nat),i≤n→n<f+i→Fit n (rowF T p f l i)
 | 0,_,_,h,hf=>by omega
 | f+1,l,i,h,hf=>by
  rw [rowF]
  refine (hp i h).1.on fun x j hx hj=>Fit.sw (fun hi=>Fit.ok _ (is_lt hN hi)) fun _=>Fit.sw (fun hi=>qs_ hp f _ _ (is_lt hN hi) ?_) fun _=>Fit.err hj
  have:=(hp i h).2 _ _ hx
  omega
theorem vr_ (hF:n<F) {α:Type} {p:Nat→R α} (hp:FitP n p) {i:Nat} (h:i≤n):Fit n (row T F p i) :=
 (want_fit hN _ h).on fun _ j _ h=>Fit.sw (fun hi=>Fit.ok _ (is_lt hN hi)) fun _=>qs_ hN hp F _ j h (by omega)
omit hN in
theorem on_from {α:Type} {p:Nat→R α} (h:∀i,i≤fin (p i)):∀i x j,p i=.ok (x,j)→i≤j:=fun i x j hx=>by
 have:=h i
 rwa [hx] at this
theorem label_fitP (hF:n<F) (ns:List (List Nat)):FitP n (label T F ns):=fun i hi=>⟨label_fit hN hF ns hi,on_from (fun i=>(f5_ (T':=T) (m:=0) (fun _ _=>rfl) ns i).1) i⟩
theorem decl_fitP (hF:n<F) (ns:List (List Nat)):FitP n (decl T F ns):=fun i hi=>⟨h0_ hN hF ns hi,on_from (fun i=>(lt_ (T':=T) (m:=0) (fun _ _=>rfl) ns i).1) i⟩
theorem nd_ (hF:n<F) (ns:List (List Nat)):∀(f:Nat) (l:List De) (i:Nat),i≤n→n<f+i→Fit n (varsF T F ns f l i)
 | 0,_,_,h,hf=>by omega
 | f+1,l,i,h,hf=>by
  rw [varsF]
  refine Fit.sw (fun hi=>(h0_ hN hF ns (is_lt hN hi)).on fun d j hd hj=>(want_fit hN _ hj).on fun _ k hk hkn=>nd_ hF ns f _ k hkn ?_) fun _=>Fit.ok _ h
  have:=(decl_fitP hN hF ns (i+1) (is_lt hN hi)).2 _ _ hd
  have:=(want_ok hk).2
  omega
theorem func_fit (hF:n<F) (ns:List (List Nat)) {i:Nat} (h:i≤n):Fit n (func T F ns i) :=
 (name_fit hN h).on fun _ _ _ h=>(label_fit hN hF ns h).on fun _ _ _ h=>(vr_ hN hF (decl_fitP hN hF ns) h).on fun _ _ _ h=>(vr_ hN hF (label_fitP hN hF ns) h).on fun _ _ _ h =>
  (want_fit hN _ h).on fun _ j _ h=>(nd_ hN hF ns F _ j h (by omega)).on fun _ j _ h=>(gu_ hN (stmt_fit hN hF 12) (stmt_good 12) _ F _ j h (by omega)).on fun _ _ _ h =>
   (qq_ hN hF _ h).on fun _ _ _ h=>(want_fit hN _ h).on fun _ _ _ h=>Fit.ok _ h
theorem namesF_fit:∀(f:Nat) (l:List (List Nat)) (i:Nat),i≤n→n<f+i→Fit n (namesF T f l i)
 | 0,_,_,h,hf=>by omega
 | f+1,l,i,h,hf=>by
  rw [namesF]
  exact (name_fit hN h).on fun s j hs hj=>Fit.sw (fun _=>⟨.inr (.inr (.inl rfl)),h⟩) fun _=>Fit.sw (fun _=>namesF_fit f _ j hj (by have:=(name_ok hs).2.1;omega)) fun _=>Fit.ok _ hj
theorem ep_ (hF:n<F):∀(f:Nat) (l:List (List Nat)) (i:Nat),i≤n→n<f+i→Fit n (principalsF T F f l i)
 | 0,_,_,h,hf=>by omega
 | f+1,l,i,h,hf=>by
  rw [principalsF]
  refine Fit.sw (fun hi=>(namesF_fit hN F l (i+1) (is_lt hN hi) (by omega)).on fun d j hd hj=>(want_fit hN _ hj).on fun _ k hk hkn=>ep_ hF f _ k hkn ?_) fun _=>Fit.ok _ h
  have:=on_from (p:=namesF T F l) (fun i=>(namesF_loc (T':=T) (m:=0) (fun _ _=>rfl) F l i).1) _ _ _ hd
  have:=(want_ok hk).2
  omega
theorem dp_ (hF:n<F) (ns:List (List Nat)):∀(f:Nat) (s:So) (i:Nat),i≤n→n<f+i→Fit n (declsF T F ns f s i)
 | 0,_,_,h,hf=>by omega
 | f+1,s,i,h,hf=>by
  rw [declsF];split
  ·exact Fit.ok _ h
  ·refine Fit.sw (fun hi=>(h0_ hN hF ns (is_lt hN hi)).on fun d j hd hj=>(want_fit hN _ hj).on fun _ k hk hkn=>dp_ hF ns f _ k hkn ?_) fun _ =>
    Fit.sw (fun hi=>(h0_ hN hF ns (is_lt hN hi)).on fun d j hd hj=>(want_fit hN _ hj).on fun _ k hk hkn=>dp_ hF ns f _ k hkn ?_) fun _ =>
    Fit.sw (fun hi=>(name_fit hN (is_lt hN hi)).on fun nm j hm hj=>(number_fit hN hj).on fun v j2 hv hj2=>(label_fit hN hF ns hj2).on fun l j3 hl hj3=>(want_fit hN _ hj3).on fun _ k hk hkn=>dp_ hF ns f _ k hkn ?_) fun _ =>
    Fit.sw (fun hi=>(func_fit hN hF ns (is_lt hN hi)).on fun g j hg hj=>dp_ hF ns f _ j hj ?_) fun _=>Fit.err h
   ·have:=(decl_fitP hN hF ns (i+1) (is_lt hN hi)).2 _ _ hd
    have:=(want_ok hk).2
    omega
   ·have:=(decl_fitP hN hF ns (i+1) (is_lt hN hi)).2 _ _ hd
    have:=(want_ok hk).2
    omega
   ·have:=(name_ok hm).2.1
    have:=on_from (p:=number T) (fun i=>(r3_ (T':=T) (m:=0) (fun _ _=>rfl) i).1) _ _ _ hv
    have:=(label_fitP hN hF ns j2 hj2).2 _ _ hl
    have:=(want_ok hk).2
    omega
   ·have:=on_from (p:=func T F ns) (fun i=>(func_loc (T':=T) (m:=0) (fun _ _=>rfl) (by omega) ns i).1) _ _ _ hg
    omega
theorem source_fit (hF:n<F):Fit n (source T F) :=
 (ep_ hN hF F [] 0 (by omega) (by omega)).on fun ns j _ hj=>dp_ hN hF ns F _ j hj (by omega)
end
def goE (ks:List Nat):List Nat→Nat→List Nat→List Int→List Int→Option (List Int × List Int)
 | [],_,op,es,ls=>if op=[] then some (es,ls) else none
 | k::r,i,op,es,ls =>
  if k=5∨k=7 then goE ks r (i+1) (i::op) es ls
  else if k=6 then
   match op with
   | t::op=>if ks[t]?=some 5 then goE ks r (i+1) (i::op) es (ls.set t i) else none
   | []=>none
  else if k=8 then
   match op with
   | t::op=>goE ks r (i+1) op (es.set t i) ls
   | []=>none
  else goE ks r (i+1) op es ls
def viaElse (es ls:List Int):List Int:=(es.zip ls).map fun p=>if 0≤p.2 then (es[p.2.toNat]?).getD (-1) else p.1
def endsM (ks:List Nat):Option (List Int × List Int) :=
 (goE ks ks 0 [] (List.replicate ks.length (-1)) (List.replicate ks.length (-1))).map fun p=>(viaElse p.1 p.2,p.2)
theorem goE_nil (ks:List Nat) (i:Nat) (op:List Nat) (es ls:List Int):goE ks [] i op es ls=if op=[] then some (es,ls) else none:=by rw [goE.eq_def]
theorem y0_ (ks:List Nat) (k:Nat) (r:List Nat) (i:Nat) (op:List Nat) (es ls:List Int):goE ks (k::r) i op es ls =
 if k=5∨k=7 then goE ks r (i+1) (i::op) es ls
 else if k=6 then
  match op with
  | t::op=>if ks[t]?=some 5 then goE ks r (i+1) (i::op) es (ls.set t i) else none
  | []=>none
 else if k=8 then
  match op with
  | t::op=>goE ks r (i+1) op (es.set t i) ls
  | []=>none
 else goE ks r (i+1) op es ls:=by rw [goE.eq_def]
theorem ez_ (ks:List Nat):∀(r:List Nat) (i:Nat) (op:List Nat) (es ls:List Int),ks.drop i=r →
 ((goE ks r i op es ls).isSome=true↔nest r (op.map fun t=>decide (ks[t]?=some 5))=some [])
 | [],i,op,es,ls,_=>by
  rw [goE_nil,nest]
  cases op with
  | nil=>simp
  | cons t op=>simp
 | k::r,i,op,es,ls,h=>by
  have hk:ks[i]?=some k:=by
   have:=congrArg (fun l=>l[0]?) h
   simpa using this
  have hr:ks.drop (i+1)=r:=by
   rw [←List.drop_drop,h];rfl
  rw [y0_]
  by_cases h5:k=5
  ·subst h5
   rw [if_pos (.inl rfl),ez_ ks r (i+1) _ _ _ hr,List.map_cons,vi_,hk]
   simp
  by_cases h7:k=7
  ·subst h7
   rw [if_pos (.inr rfl),ez_ ks r (i+1) _ _ _ hr,List.map_cons,nest_7,hk]
   simp
  rw [if_neg (by omega)]
  by_cases h6:k=6
  ·subst h6
   rw [if_pos rfl]
   cases op with
   | nil=>simp [nest]
   | cons t op =>
    by_cases ht:ks[t]?=some 5
    ·simp only [if_pos ht]
     rw [ez_ ks r (i+1) _ _ _ hr,List.map_cons,List.map_cons,hk]
     simp only [ht,decide_true]
     rw [nest_6]
     simp
    ·simp only [List.map_cons,ht,decide_false]
     simp [nest]
  rw [if_neg h6]
  by_cases h8:k=8
  ·subst h8
   rw [if_pos rfl]
   cases op with
   | nil=>simp [nest]
   | cons t op =>
    simp only
    rw [ez_ ks r (i+1) _ _ _ hr,List.map_cons,qk_]
  ·rw [if_neg h8,ez_ ks r (i+1) _ _ _ hr,nest.eq_def (k::r)];simp only [if_neg h5,if_neg h7,if_neg h6,if_neg h8]
theorem endsM_nest (ks:List Nat):(endsM ks).isSome=true↔nest ks []=some []:=by
 unfold endsM
 rw [Option.isSome_map]
 exact ez_ ks ks 0 [] _ _ rfl
theorem FnOk.ends {g:Fn} (h:FnOk g):(endsM (g.body.map St.kind)).isSome=true:=by
 obtain ⟨b,es,hb,_,hn,_⟩:=h
 rw [endsM_nest,hb,List.map_append]
 have:nest (b.map St.kind++[9]) []=some []:=by rw [hn];simp [nest]
 exact this
-- the chapter's examples
end Go.Proofs.Syn
namespace Go.Proofs.YtpcniebkabkikaaGreatDoor
open Go Go.RowKit Go.Proofs.Mm
def sb (l:List Nat):ByteArray:=⟨(l.map UInt8.ofNat).toArray⟩
theorem db_ (t:ByteArray):sb (bl t)=t:=by
 unfold sb bl
 rw [List.map_map]
 have:(UInt8.ofNat ∘ UInt8.toNat)=id:=by funext x;simp
 rw [this,List.map_id]
theorem ax_ (t s:ByteArray):(t.toList == s.toList)=(bl t == bl s):=by
 rw [Bool.eq_iff_iff,beq_iff_eq,beq_iff_eq,Lib.toList_data,Lib.toList_data]
 constructor
 ·intro h;unfold bl;rw [h]
 ·intro h;rw [a3_ h]
def keyOf (x:It):Syn.K:=⟨x.k,bl x.t,x.v⟩
def Tk (ys:List It) (i:Nat):Option Syn.K:=(ys[i]?).map keyOf
def tk (ys:List It) (len i:Nat):It:=ys.getD i ⟨0,⟨#[]⟩,0,len,0⟩
def Ws (ys:List It):Prop:=(∀x∈ys,Good x.k (bl x.t) x.v)∧ys.length≤65536
theorem cm_ {ys:List It} {i:Nat} (h:ys.length≤i):Tk ys i=none:=by unfold Tk;rw [List.getElem?_eq_none h];rfl
theorem cn_ {ys:List It} {len i:Nat} (h:i<ys.length):Tk ys i=some (keyOf (tk ys len i)):=by
 unfold Tk tk;rw [List.getElem?_eq_getElem h,List.getD_eq_getElem?_getD,List.getElem?_eq_getElem h];rfl
theorem qt_ (ys:List It) (len:Nat) {i:Nat} (h:ys.length≤i):tk ys len i=⟨0,⟨#[]⟩,0,len,0⟩:=by
 unfold tk;rw [List.getD_eq_getElem?_getD,List.getElem?_eq_none h];rfl
theorem vs_ {ys:List It} (hw:Ws ys) (len:Nat) {i:Nat} (h:i<ys.length):Good (tk ys len i).k (bl (tk ys len i).t) (tk ys len i).v:=by
 refine hw.1 _ ?_
 unfold tk;rw [List.getD_eq_getElem?_getD,List.getElem?_eq_getElem h];exact List.getElem_mem h
def Mk (s:List Nat):Bool:=s != [] && (wordL s).1 == s.length && ((wordL s).2 == 2 || (wordL s).2 == 4)
theorem az_ {ys:List It} (hw:Ws ys) (len i:Nat) {s:List Nat} (hs:Mk s=true):(bl (tk ys len i).t == s)=Syn.is (Tk ys) i s:=by
 unfold Mk at hs
 simp only [Bool.and_eq_true,bne_iff_ne,beq_iff_eq,Bool.or_eq_true] at hs
 by_cases h:i<ys.length
 ·have hg:=vs_ hw len h
  unfold Syn.is
  rw [cn_ (len:=len) h]
  simp only [keyOf]
  by_cases he:bl (tk ys len i).t=s
  ·have hk:=hg.word
   rw [he] at hk
   rw [hk] at hs
   rw [he]
   rcases hs.2 with e|e <;> simp only at e <;> simp [e]
  ·simp [he]
 ·rw [qt_ ys len (by omega)]
  unfold Syn.is
  rw [cm_ (by omega)]
  rw [beq_eq_false_iff_ne]
  intro e
  exact hs.1.1 e.symm
theorem b2_ (ys:List It) (len i:Nat):(((tk ys len i).k:Int) == 1)=Syn.named (Tk ys) i:=by
 by_cases h:i<ys.length
 ·unfold Syn.named;rw [cn_ (len:=len) h];simp only [keyOf];rw [Bool.eq_iff_iff,beq_iff_eq,beq_iff_eq];omega
 ·rw [qt_ ys len (by omega)];unfold Syn.named;rw [cm_ (by omega)];rfl
structure PS (ys:List It) (len bp bw:Nat) (vp:Value) (w:World) (i:Nat):Prop where
 st:∃c,w.heap[bp]?=some (.cells #[.slice (some ⟨bw,4*i,none⟩) (ys.length+1 - i) c,vp] 153 (0,0))∧ys.length+1 - i≤c∧c≤maxLen
 toks:∃arr,w.heap[bw]?=some (.cells arr 151 (0,0))∧∀j,j≤ys.length→arr[4*j]?=some (.int .i64 ((tk ys len j).k:Nat))∧arr[4*j+1]?=some (.string (tk ys len j).t)∧arr[4*j+2]?=some (.int .i64 ((tk ys len j).v:Nat))∧arr[4*j+3]?=some (.int .i64 ((tk ys len j).a:Nat))
 le:i≤ys.length
 few:ys.length≤65536
theorem aa_ {w:World} {b j:Nat} {arr:Array Value} {T:TypeId} {v:Value} (h:w.heap[b]?=some (.cells arr T (0,0))) (hv:arr[j]?=some v):w.cell? ⟨b,j,none⟩=some v:=by
 rw [cell_of_row w b j arr T (0,0) h];exact hv
theorem ag_ {w:World} {b j:Nat} {arr:Array Value} {T:TypeId} (h:w.heap[b]?=some (.cells arr T (0,0))):w.frozen? ⟨b,j,none⟩=false:=by
 simp [World.frozen?,h]
theorem ao_ {w:World} {b:Nat} {arr:Array Value} {T:TypeId} (h:w.heap[b]?=some (.cells arr T (0,0))) (j:Nat) (v:Value):(w.setCell ⟨b,j,none⟩ v).heap[b]?=some (.cells (arr.setIfInBounds j v) T (0,0)):=by
 have hlt:=(Array.getElem?_eq_some_iff.1 h).1
 simp only [World.setCell,Array.getElem?_modify,h,Option.map_some,if_true]
 rfl
theorem ad_ (w:World) (o:Obj) {k:Nat} {x:Obj} (h:w.heap[k]?=some x):(w.alloc o).heap[k]?=some x:=by
 rw [Below.heap_alloc _ _ _ (heap_lt h)];exact h
theorem bh_ {w:World} {b j k:Nat} {v:Value} {x:Obj} (h:w.heap[k]?=some x) (hn:k≠b):(w.setCell ⟨b,j,none⟩ v).heap[k]?=some x:=by
 rw [Below.heap_setCell _ _ _ _ hn];exact h
theorem PS.ne {ys:List It} {len bp bw i:Nat} {vp:Value} {w:World} (h:PS ys len bp bw vp w i):bw≠bp:=by
 obtain ⟨c,h1,_⟩:=h.st
 obtain ⟨arr,h2,_⟩:=h.toks
 rintro rfl
 have:=h1.symm.trans h2
 simp at this
theorem PS.raw {ys:List It} {len bp bw i:Nat} {vp:Value} {w:World} (h:PS ys len bp bw vp w i) :
 ∃c,w.cell? ⟨bp,0,none⟩=some (.slice (some ⟨bw,4*i,none⟩) (ys.length+1 - i) c)∧w.frozen? ⟨bp,0,none⟩=false∧ys.length+1 - i≤c∧c≤9223372036854775807 ∧
  w.cell? ⟨bw,4*i,none⟩=some (.int .i64 ((tk ys len i).k:Nat))∧w.cell? ⟨bw,4*i+1,none⟩=some (.string (tk ys len i).t)∧w.cell? ⟨bw,4*i+2,none⟩=some (.int .i64 ((tk ys len i).v:Nat))∧w.cell? ⟨bw,4*i+3,none⟩=some (.int .i64 ((tk ys len i).a:Nat)):=by
 obtain ⟨c,h1,h2,h3⟩:=h.st
 obtain ⟨arr,h4,h5⟩:=h.toks
 obtain ⟨a0,a1,a2,a3⟩:=h5 i h.le
 exact ⟨c,aa_ h1 rfl,ag_ h1,h2,by simpa [maxLen] using h3,aa_ h4 a0,aa_ h4 a1,aa_ h4 a2,aa_ h4 a3⟩
theorem PS.chg {ys:List It} {len bp bw i:Nat} {vp:Value} {w w':World} (h:PS ys len bp bw vp w i) {S:Nat→Prop} (hc:Chg S w w') (h1:¬S bp) (h2:¬S bw):PS ys len bp bw vp w' i:=by
 obtain ⟨⟨c,a1,a2⟩,⟨arr,b1,b2⟩,h3,h4⟩:=h
 exact ⟨⟨c,hc.heap a1 h1,a2⟩,⟨arr,hc.heap b1 h2,b2⟩,h3,h4⟩
theorem PS.lt {ys:List It} {len bp bw i:Nat} {vp:Value} {w:World} (h:PS ys len bp bw vp w i):bp<w.heap.size∧bw<w.heap.size:=by
 obtain ⟨⟨c,a1,a2⟩,⟨arr,b1,b2⟩,h3,h4⟩:=h
 exact ⟨heap_lt a1,heap_lt b1⟩
def gv (er a:Int):List PanicEntry:=[{ v:=.iface 149 (.agg #[.int .i64 er,.int .i64 (-1),.int .i64 a]),recovered:=false }]
def Ret {α:Type} (ys:List It) (len:Nat) (S:Nat→Prop) (w:World) (r:Syn.R α) (ok:α→Nat→Ending→World→Prop) (e:Ending) (w':World):Prop :=
 Chg S w w'∧match r with
 | .error (er,k)=>e=.panicked (gv er ((tk ys len k).a:Nat))
 | .ok (x,j)=>ok x j e w'
theorem Ret.ok {α:Type} {ys:List It} {len:Nat} {S:Nat→Prop} {w:World} {x:α} {j:Nat} {ok:α→Nat→Ending→World→Prop} {e:Ending} {w':World} (h:Ret ys len S w (.ok (x,j):Syn.R α) ok e w'):Chg S w w'∧ok x j e w':=h
section
variable {ys:List It} {len bp bw i:Nat} {vp:Value} {w:World}
theorem ho_ (h:PS ys len bp bw vp w i) (s:ByteArray):Calls prog 145 #[.pointer (some ⟨bp,0,none⟩),.string s] w fun e w'=>e=.returned (.bool ((tk ys len i).t.toList == s.toList))∧w=w':=by
 obtain ⟨c,h0,hf,hc,hc2,h1,h2,h3,h4⟩:=h.raw
 have hle:=h.le
 have hm:0<ys.length+1 - i:=by omega
 clear h hf hc hc2 h1 h3 h4
 generalize ys.length+1 - i=m at *
 generalize 4*i=o at *
 go_enter func145,ntmps145
 go_wp2
 go_ret
 exact ⟨rfl,rfl⟩
theorem bl_ (h:PS ys len bp bw vp w i) (s:Int):Calls prog 184 #[.pointer (some ⟨bp,0,none⟩),.int .i64 s] w fun e w'=>e=.returned (.bool (((tk ys len i).k:Int) == s))∧w=w':=by
 obtain ⟨c,h0,hf,hc,hc2,h1,h2,h3,h4⟩:=h.raw
 have hle:=h.le
 have hm:0<ys.length+1 - i:=by omega
 clear h hf hc hc2 h2 h3 h4
 generalize ys.length+1 - i=m at *
 generalize 4*i=o at *
 go_enter func184,ntmps184
 go_wp2
 go_ret
 exact ⟨rfl,rfl⟩
theorem ps_next (h:PS ys len bp bw vp w i) (hi:i<ys.length) {w':World} (hc:Chg (fun k=>k=bp) w w')
 (h0:∃c,w'.heap[bp]?=some (.cells #[.slice (some ⟨bw,4*i+4,none⟩) (ys.length+1 - i - 1) c,vp] 153 (0,0))∧ys.length+1 - i - 1≤c∧c≤maxLen):PS ys len bp bw vp w' (i+1):=by
 obtain ⟨c,h0,h1,h2⟩:=h0
 obtain ⟨arr,h4,h5⟩:=h.toks
 refine ⟨⟨c,?_,by omega,h2⟩,⟨arr,hc.heap h4 h.ne,h5⟩,hi,h.few⟩
 rw [h0,show 4*(i+1)=4*i+4 by omega,show ys.length+1 - (i+1)=ys.length+1 - i - 1 by omega]
theorem gv_ (h:PS ys len bp bw vp w i) (hi:i<ys.length):Calls prog 146 #[.pointer (some ⟨bp,0,none⟩)] w fun e w'=>e=.returned (.agg #[.int .i64 ((tk ys len i).k:Nat),.string (tk ys len i).t,.int .i64 ((tk ys len i).v:Nat),.int .i64 ((tk ys len i).a:Nat)])∧Chg (fun k=>k=bp) w w'∧PS ys len bp bw vp w' (i+1):=by
 obtain ⟨c,h0,hf,hc,hc2,h1,h2,h3,h4⟩:=h.raw
 obtain ⟨hlt,hlb⟩:=h.lt
 have hfew:=h.few
 obtain ⟨c',g0,g1,g2⟩:=h.st
 have hcc:c'=c:=by
  have:=(aa_ g0 (j:=0) rfl).symm.trans h0
  simpa using this
 subst hcc
 have HP:=hid (fun w' hc h0=>ps_next (w':=w') h hi hc h0)
 have HG:=hid g0
 have hm:2≤ys.length+1 - i:=by omega
 clear h g0 g1
 have hm2:ys.length+1 - i≤100000:=by omega
 generalize ys.length+1 - i=m at *
 generalize 4*i=o at *
 have hm1:0<m:=by omega
 have hm3:1≤m:=by omega
 have hm4:1≤c':=by omega
 have hm5:¬c'=1:=by omega
 go_enter func146,ntmps146
 go_wp2
 refine bodyPost_ret (v:=.agg #[.int .i64 ((tk ys len i).k:Nat),.string (tk ys len i).t,.int .i64 ((tk ys len i).v:Nat),.int .i64 ((tk ys len i).a:Nat)]) (by simp [results,Tryz.results146,go_sem]) rfl ?_
 have hC:=(((Chg.refl (fun k=>k=bp) w).setCell (p:=⟨bp,0,none⟩) (.inl rfl) (.slice (some ⟨bw,o+4,none⟩) (m - 1) (c' - 1))).alloc (.cells #[.int .i64 ((tk ys len i).k:Nat),.string (tk ys len i).t,.int .i64 ((tk ys len i).v:Nat),.int .i64 ((tk ys len i).a:Nat)] 151)).alloc (.cells #[.int .i64 ((tk ys len i).k:Nat),.string (tk ys len i).t,.int .i64 ((tk ys len i).v:Nat),.int .i64 ((tk ys len i).a:Nat)] 151)
 refine ⟨rfl,hC,HP.out _ hC ⟨c' - 1,ad_ _ _ (ad_ _ _ (ao_ HG.out 0 _)),by omega,by omega⟩⟩
theorem i6_ (a er:Int) (w:World) :
 Calls prog 92 #[.int .i64 a,.int .i64 er] w fun e w'=>e=.returned (.agg #[.int .i64 er,.int .i64 (-1),.int .i64 a])∧w'=w.alloc (.cells #[.int .i64 er,.int .i64 (-1),.int .i64 a] 61):=by
 go_enter func92,ntmps92
 go_wp2
 exact bodyPost_ret (v:=.agg #[.int .i64 er,.int .i64 (-1),.int .i64 a]) (by simp [results,Tryz.results92,go_sem]) rfl ⟨rfl,rfl⟩
theorem fg_ (h:PS ys len bp bw vp w i) (er:Int) (S:Nat→Prop):Calls prog 144 #[.pointer (some ⟨bp,0,none⟩),.int .i64 er] w fun e w'=>e=.panicked (gv er ((tk ys len i).a:Nat))∧Chg S w w':=by
 obtain ⟨c,h0,hf,hc,hc2,h1,h2,h3,h4⟩:=h.raw
 have hle:=h.le
 have hm:0<ys.length+1 - i:=by omega
 clear h hf hc hc2 h1 h2 h3
 generalize ys.length+1 - i=m at *
 generalize 4*i=o at *
 generalize (((tk ys len i).a:Nat):Int)=a at *
 go_enter func144,ntmps144
 go_wp2_with (go_at_call 92;refine (i6_ _ _ _).mono ?_;rintro e w' ⟨rfl,rfl⟩)
 exact ⟨rfl,rfl,(Chg.refl S w).alloc _⟩
theorem f6_ (h:PS ys len bp bw vp w i) (hi:i<ys.length) (s:ByteArray) (ht:((tk ys len i).t.toList == s.toList)=true) :
 Calls prog 95 #[.pointer (some ⟨bp,0,none⟩),.string s] w fun e w'=>e=.returned (.bool true)∧Chg (fun k=>k=bp) w w'∧PS ys len bp bw vp w' (i+1):=by
 have h1:=ho_ h s
 rw [ht] at h1
 clear ht
 go_enter func95,ntmps95
 go_wp2_with (go_at_call 145;refine h1.mono ?_;rintro e w' ⟨rfl,rfl⟩)
 go_at_call 146
 refine (gv_ h hi).mono ?_
 rintro e w' ⟨rfl,hc,hp⟩
 go_wp2
 go_ret
 exact ⟨rfl,hc,hp⟩
theorem gw_ (h:PS ys len bp bw vp w i) (s:ByteArray) (ht:((tk ys len i).t.toList == s.toList)=false) :
 Calls prog 95 #[.pointer (some ⟨bp,0,none⟩),.string s] w fun e w'=>e=.returned (.bool false)∧w=w':=by
 have h1:=ho_ h s
 rw [ht] at h1
 clear ht
 go_enter func95,ntmps95
 go_wp2_with (go_at_call 145;refine h1.mono ?_;rintro e w' ⟨rfl,rfl⟩)
 go_ret
 exact ⟨rfl,rfl⟩
theorem h1_ (h:PS ys len bp bw vp w i) (hi:i<ys.length) (s:ByteArray) (ht:((tk ys len i).t.toList == s.toList)=true) :
 Calls prog 149 #[.pointer (some ⟨bp,0,none⟩),.string s] w fun e w'=>e=.returned (.tuple #[])∧Chg (fun k=>k=bp) w w'∧PS ys len bp bw vp w' (i+1):=by
 have h1:=f6_ h hi s ht
 clear ht
 go_enter func149,ntmps149
 go_wp2_with (go_at_call 95;refine h1.mono ?_;rintro e w' ⟨rfl,hc,hp⟩)
 go_end0
 exact ⟨rfl,hc,hp⟩
theorem i7_ (h:PS ys len bp bw vp w i) (s:ByteArray) (ht:((tk ys len i).t.toList == s.toList)=false) (S:Nat→Prop) :
 Calls prog 149 #[.pointer (some ⟨bp,0,none⟩),.string s] w fun e w'=>e=.panicked (gv 50 ((tk ys len i).a:Nat))∧Chg S w w':=by
 have h1:=gw_ h s ht
 clear ht
 go_enter func149,ntmps149
 go_wp2_with (go_at_call 95;refine h1.mono ?_;rintro e w' ⟨rfl,rfl⟩)
 go_at_call 144
 refine (fg_ h 50 S).mono ?_
 rintro e w' ⟨rfl,hc⟩
 go_wp2
 exact ⟨rfl,rfl,hc⟩
theorem PS.alloc (h:PS ys len bp bw vp w i) (o:Obj):PS ys len bp bw vp (w.alloc o) i:=h.chg (S:=fun _=>False) ((Chg.refl _ _).alloc o) id id
theorem ly_ {S:Nat→Prop} {a w:World} (h:Chg S a w) {g:Nat} (hg:S g∨a.heap.size≤g) (x0 x1 x2 x3:Value) :
 Chg S a ((((w.setCell ⟨g,0,none⟩ x0).setCell ⟨g,1,none⟩ x1).setCell ⟨g,2,none⟩ x2).setCell ⟨g,3,none⟩ x3) :=
 (((h.setCell (p:=⟨g,0,none⟩) hg _).setCell (p:=⟨g,1,none⟩) hg _).setCell (p:=⟨g,2,none⟩) hg _).setCell (p:=⟨g,3,none⟩) hg _
theorem hh_ (h:PS ys len bp bw vp w i) (hi:i<ys.length) (k:Int) (ht:(((tk ys len i).k:Int) == k)=true) :
 Calls prog 151 #[.pointer (some ⟨bp,0,none⟩),.int .i64 k] w fun e w'=>e=.returned (.agg #[.int .i64 ((tk ys len i).k:Nat),.string (tk ys len i).t,.int .i64 ((tk ys len i).v:Nat),.int .i64 ((tk ys len i).a:Nat)])∧Chg (fun k=>k=bp) w w'∧PS ys len bp bw vp w' (i+1):=by
 obtain ⟨hlt,hlb⟩:=h.lt
 have h':=h.alloc (.cells #[.int .i64 0,.string ⟨#[]⟩,.int .i64 0,.int .i64 0] 151)
 have h1:=bl_ h' k
 rw [ht] at h1
 clear ht
 go_enter func151,ntmps151
 go_wp2_with (go_at_call 184;refine h1.mono ?_;rintro e w' ⟨rfl,rfl⟩)
 go_at_call 146
 refine (gv_ h' hi).mono ?_
 rintro e w' ⟨rfl,hc,hp⟩
 have hT:TokB w' w.heap.size 0 ⟨#[]⟩ 0 0:=hc.heap (World.alloc_heap_new w _) (by omega)
 obtain ⟨k0,k1,k2,k3,f0,f1,f2,f3⟩:=hT.at_
 have hn:w.heap.size≠bp:=by omega
 have hC:Chg (fun k=>k=bp) w w':=((Chg.refl _ w).alloc _).then (hc.mono (by intro i q;exact .inl q))
 have HC:=hid hC
 have HP:=hid hp
 clear hc hp hC h1 h'
 go_wp2
 exact bodyPost_ret (v:=.agg #[.int .i64 ((tk ys len i).k:Nat),.string (tk ys len i).t,.int .i64 ((tk ys len i).v:Nat),.int .i64 ((tk ys len i).a:Nat)]) (by simp [results,Tryz.results151,go_sem,k0,k1,k2,k3]) rfl ⟨rfl,ly_ HC.out (.inr (Nat.le_refl _)) _ _ _ _,HP.out.chg (ly_ (Chg.refl (fun k=>k=w.heap.size) _) (.inl rfl) _ _ _ _) (by omega) (by omega)⟩
theorem fh_ (h:PS ys len bp bw vp w i) (k:Int) (ht:(((tk ys len i).k:Int) == k)=false) (S:Nat→Prop) :
 Calls prog 151 #[.pointer (some ⟨bp,0,none⟩),.int .i64 k] w fun e w'=>e=.panicked (gv 50 ((tk ys len i).a:Nat))∧Chg S w w':=by
 have h':=h.alloc (.cells #[.int .i64 0,.string ⟨#[]⟩,.int .i64 0,.int .i64 0] 151)
 have h1:=bl_ h' k
 rw [ht] at h1
 clear ht
 go_enter func151,ntmps151
 go_wp2_with (go_at_call 184;refine h1.mono ?_;rintro e w' ⟨rfl,rfl⟩)
 go_at_call 144
 refine (fg_ h' 50 S).mono ?_
 rintro e w' ⟨rfl,hc⟩
 go_wp2
 exact ⟨rfl,rfl,((Chg.refl S w).alloc _).then (hc.mono (fun i q=>.inl q))⟩
theorem lz_ (k v a:Int) (t:ByteArray) (w:World):(Instr.field 151 (.agg #[.int .i64 k,.string t,.int .i64 v,.int .i64 a]) 1).run prog w=.ok (.string t) w:=by kernel_rfl
theorem i8_ (k v a:Int) (t:ByteArray) (w:World):(Instr.field 151 (.agg #[.int .i64 k,.string t,.int .i64 v,.int .i64 a]) 2).run prog w=.ok (.int .i64 v) w:=by kernel_rfl
attribute [local go_sem] lz_ i8_
theorem vt_ (h:PS ys len bp bw vp w i) :
 Calls prog 150 #[.pointer (some ⟨bp,0,none⟩)] w (Ret ys len (fun k=>k=bp) w (Syn.name (Tk ys) i) fun x j e w'=>e=.returned (.string (sb x))∧PS ys len bp bw vp w' j):=by
 by_cases hn:Syn.named (Tk ys) i=true
 ·have hi:i<ys.length:=by
   rcases Nat.lt_or_ge i ys.length with q|q
   ·exact q
   ·rw [Syn.named,cm_ q] at hn;cases hn
  have hr:Syn.name (Tk ys) i=.ok (bl (tk ys len i).t,i+1):=by
   rw [Syn.named,cn_ (len:=len) hi] at hn
   unfold Syn.name
   rw [cn_ (len:=len) hi]
   exact if_pos (by simpa using hn)
  rw [hr]
  have h1:=hh_ h hi 1 (by rw [b2_];exact hn)
  clear hr hn
  go_enter func150,ntmps150
  go_wp2_with (go_at_call 151;refine h1.mono ?_;rintro e w' ⟨rfl,hc,hp⟩)
  go_ret
  exact ⟨hc,by rw [db_];rfl,hp⟩
 ·have hr:Syn.name (Tk ys) i=.error (50,i):=by
   unfold Syn.named at hn
   unfold Syn.name
   split
   ·rename_i k hk
    rw [hk] at hn
    simp only [beq_iff_eq] at hn
    rw [if_neg hn]
   ·rfl
  rw [hr]
  have h1:=fh_ h 1 (by rw [b2_];simpa using hn) (fun k=>k=bp)
  clear hr hn
  go_enter func150,ntmps150
  go_wp2_with (go_at_call 151;refine h1.mono ?_;rintro e w' ⟨rfl,hc⟩)
  exact ⟨rfl,hc,rfl⟩
end
end Go.Proofs.YtpcniebkabkikaaGreatDoor
namespace Go.Proofs.YtpcniebkabkikaaGreatDoor
open Go Go.RowKit
theorem a5_ {K:Act→World→Prop} {Q:Exit→Act→World→Prop} {n:Nat} {a:Act} {w:World} (h:Q (.exit n) a w):Exit.then K Q (.exit n) a w:=h
theorem bu_ {Q:Exit→Act→World→Prop} {m n:Nat} {a:Act} {w:World} (hn:¬n=m) (h:Q (.exit n) a w):Exit.inBlock m Q (.exit n) a w:=by
 show (if n=m then Q .normal a w else Q (.exit n) a w)
 rw [if_neg hn];exact h
theorem bv_ {Q:Exit→Act→World→Prop} {n:Nat} {a:Act} {w:World} (h:Q .normal a w):Exit.inBlock n Q (.exit n) a w:=by
 show (if n=n then Q .normal a w else Q (.exit n) a w)
 rw [if_pos rfl];exact h
def signL:Nat→List UInt8
 | 1=>[43]
 | 2=>[45]
 | 3=>[42]
 | 4=>[47]
 | 5=>[37]
 | 6=>[38]
 | 7=>[124]
 | 8=>[94]
 | 9=>[60,60]
 | 10=>[62,62]
 | 11=>[61,61]
 | 12=>[33,61]
 | 13=>[60]
 | 14=>[60,61]
 | 15=>[45]
 | 16=>[33]
 | 17=>[126]
 | _=>[]
def signV (op:Int):ByteArray:=⟨(if 1≤op∧op≤17 then signL op.toNat else []).toArray⟩
def arV (op:Int):Int:=if 1≤op∧op≤14 then 2 else if 15≤op∧op≤17 then 1 else 0
theorem sign_1 (w:World):Calls prog 177 #[.int .i64 1] w fun e w'=>e=.returned (.string (⟨#[43]⟩:ByteArray))∧w=w':=by
 go_enter func177,ntmps177
 go_upto_region 2 with (fail)
 iterate 10 go_step
 refine wp_cond_split rfl (fun h=>?_) (fun h=>absurd h (by decide))
 apply wp_exit
 repeat (first|refine a5_ ?_|refine bu_ (by decide) ?_)
 refine bv_ ?_
 go_wp2
 go_ret
 exact ⟨rfl,rfl⟩
theorem sign_2 (w:World):Calls prog 177 #[.int .i64 2] w fun e w'=>e=.returned (.string (⟨#[45]⟩:ByteArray))∧w=w':=by
 go_enter func177,ntmps177
 go_upto_region 3 with (fail)
 iterate 10 go_step
 refine wp_cond_split rfl (fun h=>?_) (fun h=>absurd h (by decide))
 apply wp_exit
 repeat (first|refine a5_ ?_|refine bu_ (by decide) ?_)
 refine bv_ ?_
 go_wp2
 go_ret
 exact ⟨rfl,rfl⟩
theorem sign_3 (w:World):Calls prog 177 #[.int .i64 3] w fun e w'=>e=.returned (.string (⟨#[42]⟩:ByteArray))∧w=w':=by
 go_enter func177,ntmps177
 go_upto_region 5 with (fail)
 iterate 10 go_step
 refine wp_cond_split rfl (fun h=>?_) (fun h=>absurd h (by decide))
 apply wp_exit
 repeat (first|refine a5_ ?_|refine bu_ (by decide) ?_)
 refine bv_ ?_
 go_wp2
 go_ret
 exact ⟨rfl,rfl⟩
theorem sign_4 (w:World):Calls prog 177 #[.int .i64 4] w fun e w'=>e=.returned (.string (⟨#[47]⟩:ByteArray))∧w=w':=by
 go_enter func177,ntmps177
 go_upto_region 6 with (fail)
 iterate 10 go_step
 refine wp_cond_split rfl (fun h=>?_) (fun h=>absurd h (by decide))
 apply wp_exit
 repeat (first|refine a5_ ?_|refine bu_ (by decide) ?_)
 refine bv_ ?_
 go_wp2
 go_ret
 exact ⟨rfl,rfl⟩
theorem sign_5 (w:World):Calls prog 177 #[.int .i64 5] w fun e w'=>e=.returned (.string (⟨#[37]⟩:ByteArray))∧w=w':=by
 go_enter func177,ntmps177
 go_upto_region 7 with (fail)
 iterate 10 go_step
 refine wp_cond_split rfl (fun h=>?_) (fun h=>absurd h (by decide))
 apply wp_exit
 repeat (first|refine a5_ ?_|refine bu_ (by decide) ?_)
 refine bv_ ?_
 go_wp2
 go_ret
 exact ⟨rfl,rfl⟩
theorem sign_6 (w:World):Calls prog 177 #[.int .i64 6] w fun e w'=>e=.returned (.string (⟨#[38]⟩:ByteArray))∧w=w':=by
 go_enter func177,ntmps177
 go_upto_region 8 with (fail)
 iterate 10 go_step
 refine wp_cond_split rfl (fun h=>?_) (fun h=>absurd h (by decide))
 apply wp_exit
 repeat (first|refine a5_ ?_|refine bu_ (by decide) ?_)
 refine bv_ ?_
 go_wp2
 go_ret
 exact ⟨rfl,rfl⟩
theorem sign_7 (w:World):Calls prog 177 #[.int .i64 7] w fun e w'=>e=.returned (.string (⟨#[124]⟩:ByteArray))∧w=w':=by
 go_enter func177,ntmps177
 go_upto_region 9 with (fail)
 iterate 10 go_step
 refine wp_cond_split rfl (fun h=>?_) (fun h=>absurd h (by decide))
 apply wp_exit
 repeat (first|refine a5_ ?_|refine bu_ (by decide) ?_)
 refine bv_ ?_
 go_wp2
 go_ret
 exact ⟨rfl,rfl⟩
theorem sign_8 (w:World):Calls prog 177 #[.int .i64 8] w fun e w'=>e=.returned (.string (⟨#[94]⟩:ByteArray))∧w=w':=by
 go_enter func177,ntmps177
 go_upto_region 10 with (fail)
 iterate 10 go_step
 refine wp_cond_split rfl (fun h=>?_) (fun h=>absurd h (by decide))
 apply wp_exit
 repeat (first|refine a5_ ?_|refine bu_ (by decide) ?_)
 refine bv_ ?_
 go_wp2
 go_ret
 exact ⟨rfl,rfl⟩
theorem sign_9 (w:World):Calls prog 177 #[.int .i64 9] w fun e w'=>e=.returned (.string (⟨#[60,60]⟩:ByteArray))∧w=w':=by
 go_enter func177,ntmps177
 go_upto_region 11 with (fail)
 iterate 10 go_step
 refine wp_cond_split rfl (fun h=>?_) (fun h=>absurd h (by decide))
 apply wp_exit
 repeat (first|refine a5_ ?_|refine bu_ (by decide) ?_)
 refine bv_ ?_
 go_wp2
 go_ret
 exact ⟨rfl,rfl⟩
theorem vu_ (w:World):Calls prog 177 #[.int .i64 10] w fun e w'=>e=.returned (.string (⟨#[62,62]⟩:ByteArray))∧w=w':=by
 go_enter func177,ntmps177
 go_upto_region 12 with (fail)
 iterate 10 go_step
 refine wp_cond_split rfl (fun h=>?_) (fun h=>absurd h (by decide))
 apply wp_exit
 repeat (first|refine a5_ ?_|refine bu_ (by decide) ?_)
 refine bv_ ?_
 go_wp2
 go_ret
 exact ⟨rfl,rfl⟩
theorem vv_ (w:World):Calls prog 177 #[.int .i64 11] w fun e w'=>e=.returned (.string (⟨#[61,61]⟩:ByteArray))∧w=w':=by
 go_enter func177,ntmps177
 go_upto_region 13 with (fail)
 iterate 10 go_step
 refine wp_cond_split rfl (fun h=>?_) (fun h=>absurd h (by decide))
 apply wp_exit
 repeat (first|refine a5_ ?_|refine bu_ (by decide) ?_)
 refine bv_ ?_
 go_wp2
 go_ret
 exact ⟨rfl,rfl⟩
theorem vw_ (w:World):Calls prog 177 #[.int .i64 12] w fun e w'=>e=.returned (.string (⟨#[33,61]⟩:ByteArray))∧w=w':=by
 go_enter func177,ntmps177
 go_upto_region 14 with (fail)
 iterate 10 go_step
 refine wp_cond_split rfl (fun h=>?_) (fun h=>absurd h (by decide))
 apply wp_exit
 repeat (first|refine a5_ ?_|refine bu_ (by decide) ?_)
 refine bv_ ?_
 go_wp2
 go_ret
 exact ⟨rfl,rfl⟩
theorem vx_ (w:World):Calls prog 177 #[.int .i64 13] w fun e w'=>e=.returned (.string (⟨#[60]⟩:ByteArray))∧w=w':=by
 go_enter func177,ntmps177
 go_upto_region 15 with (fail)
 iterate 10 go_step
 refine wp_cond_split rfl (fun h=>?_) (fun h=>absurd h (by decide))
 apply wp_exit
 repeat (first|refine a5_ ?_|refine bu_ (by decide) ?_)
 refine bv_ ?_
 go_wp2
 go_ret
 exact ⟨rfl,rfl⟩
theorem vy_ (w:World):Calls prog 177 #[.int .i64 14] w fun e w'=>e=.returned (.string (⟨#[60,61]⟩:ByteArray))∧w=w':=by
 go_enter func177,ntmps177
 go_upto_region 16 with (fail)
 iterate 10 go_step
 refine wp_cond_split rfl (fun h=>?_) (fun h=>absurd h (by decide))
 apply wp_exit
 repeat (first|refine a5_ ?_|refine bu_ (by decide) ?_)
 refine bv_ ?_
 go_wp2
 go_ret
 exact ⟨rfl,rfl⟩
theorem vz_ (w:World):Calls prog 177 #[.int .i64 15] w fun e w'=>e=.returned (.string (⟨#[45]⟩:ByteArray))∧w=w':=by
 go_enter func177,ntmps177
 go_upto_region 4 with (fail)
 iterate 10 go_step
 refine wp_cond_split rfl (fun h=>?_) (fun h=>absurd h (by decide))
 apply wp_exit
 repeat (first|refine a5_ ?_|refine bu_ (by decide) ?_)
 refine bv_ ?_
 go_wp2
 go_ret
 exact ⟨rfl,rfl⟩
theorem v0_ (w:World):Calls prog 177 #[.int .i64 16] w fun e w'=>e=.returned (.string (⟨#[33]⟩:ByteArray))∧w=w':=by
 go_enter func177,ntmps177
 go_upto_region 17 with (fail)
 iterate 10 go_step
 refine wp_cond_split rfl (fun h=>?_) (fun h=>absurd h (by decide))
 apply wp_exit
 repeat (first|refine a5_ ?_|refine bu_ (by decide) ?_)
 refine bv_ ?_
 go_wp2
 go_ret
 exact ⟨rfl,rfl⟩
theorem v1_ (w:World):Calls prog 177 #[.int .i64 17] w fun e w'=>e=.returned (.string (⟨#[126]⟩:ByteArray))∧w=w':=by
 go_enter func177,ntmps177
 go_upto_region 18 with (fail)
 iterate 10 go_step
 refine wp_cond_split rfl (fun h=>?_) (fun h=>absurd h (by decide))
 apply wp_exit
 repeat (first|refine a5_ ?_|refine bu_ (by decide) ?_)
 refine bv_ ?_
 go_wp2
 go_ret
 exact ⟨rfl,rfl⟩
theorem v2_ (op:Int) (hop:op<1∨17<op) (w:World):Calls prog 177 #[.int .i64 op] w fun e w'=>e=.returned (.string (⟨#[]⟩:ByteArray))∧w=w':=by
 have c1:(op == 1)=false:=by simp;omega
 have c2:(op == 2)=false:=by simp;omega
 have c3:(op == 3)=false:=by simp;omega
 have c4:(op == 4)=false:=by simp;omega
 have c5:(op == 5)=false:=by simp;omega
 have c6:(op == 6)=false:=by simp;omega
 have c7:(op == 7)=false:=by simp;omega
 have c8:(op == 8)=false:=by simp;omega
 have c9:(op == 9)=false:=by simp;omega
 have c10:(op == 10)=false:=by simp;omega
 have c11:(op == 11)=false:=by simp;omega
 have c12:(op == 12)=false:=by simp;omega
 have c13:(op == 13)=false:=by simp;omega
 have c14:(op == 14)=false:=by simp;omega
 have c15:(op == 15)=false:=by simp;omega
 have c16:(op == 16)=false:=by simp;omega
 have c17:(op == 17)=false:=by simp;omega
 clear hop
 go_enter func177,ntmps177
 go_upto_region 18 with (fail)
 iterate 10 go_step
 refine wp_cond_split rfl (fun h=>absurd h (by decide)) (fun h=>?_)
 go_step
 go_step
 go_step
 apply wp_exit
 repeat (first|refine a5_ ?_|refine bu_ (by decide) ?_)
 refine bv_ ?_
 go_wp2
 go_ret
 exact ⟨rfl,rfl⟩
theorem r4_ (op:Int):op=1∨op=2∨op=3∨op=4∨op=5∨op=6∨op=7∨op=8∨op=9∨op=10∨op=11∨op=12∨op=13∨op=14∨op=15∨op=16∨op=17∨(op<1∨17<op):=by omega
theorem y1_ (op:Int) (w:World):Calls prog 177 #[.int .i64 op] w fun e w'=>e=.returned (.string (signV op))∧w=w':=by
 rcases r4_ op with rfl|rfl|rfl|rfl|rfl|rfl|rfl|rfl|rfl|rfl|rfl|rfl|rfl|rfl|rfl|rfl|rfl|hop
 ·exact sign_1 w
 ·exact sign_2 w
 ·exact sign_3 w
 ·exact sign_4 w
 ·exact sign_5 w
 ·exact sign_6 w
 ·exact sign_7 w
 ·exact sign_8 w
 ·exact sign_9 w
 ·exact vu_ w
 ·exact vv_ w
 ·exact vw_ w
 ·exact vx_ w
 ·exact vy_ w
 ·exact vz_ w
 ·exact v0_ w
 ·exact v1_ w
 ·rw [show signV op=(⟨#[]⟩:ByteArray) from by unfold signV;rw [if_neg (by omega)]];exact v2_ op hop w
theorem v3_ (op:Int) (w:World):Calls prog 136 #[.int .i64 op] w fun e w'=>e=.returned (.int .i64 (arV op))∧w=w':=by
 unfold arV
 by_cases h1:1≤op∧op≤14
 ·rw [if_pos h1]
  obtain ⟨h1,h2⟩:=h1
  go_enter func136,ntmps136
  go_wp2
  go_ret
  exact ⟨rfl,rfl⟩
 ·rw [if_neg h1]
  by_cases h2:15≤op∧op≤17
  ·rw [if_pos h2]
   obtain ⟨h2,h3⟩:=h2
   have h4:¬op≤14:=by omega
   clear h1
   go_enter func136,ntmps136
   go_wp2
   go_ret
   exact ⟨rfl,rfl⟩
  ·rw [if_neg h2]
   rcases (show op<1∨17<op by omega) with h|h
   all_goals
    clear h1 h2
    go_enter func136,ntmps136
    go_wp2
    go_ret
    exact ⟨rfl,rfl⟩
def hitS (s:ByteArray) (ar:Int) (k:Nat):Bool:=((signV k).toList == s.toList) && (arV k == ar)
def First (s:ByteArray) (ar:Int) (n:Nat):Prop:=1≤n∧n≤18∧(∀j,1≤j→j<n→hitS s ar j=false)∧(n=18∨hitS s ar n=true)
def bsV (n:Nat):Value:=if n=18 then .tuple #[.int .i64 0,.bool false] else .tuple #[.int .i64 n,.bool true]
theorem r5_ (s:ByteArray) (ar:Int):∀(d n:Nat),n+d=18→1≤n→(∀j,1≤j→j<n→hitS s ar j=false)→∃m,First s ar m:=by
 intro d
 induction d with
 | zero=>intro n hn h1 h;exact ⟨n,h1,by omega,h,.inl (by omega)⟩
 | succ d ih =>
  intro n hn h1 h
  cases hh:hitS s ar n with
  | true=>exact ⟨n,h1,by omega,h,.inr hh⟩
  | false=>exact ih (n+1) (by omega) (by omega) (fun j hj hjn=>if e:j=n then by rw [e];exact hh else h j hj (by omega))
theorem ne_ (s:ByteArray) (ar:Int):∃m,First s ar m:=r5_ s ar 17 1 rfl (Nat.le_refl _) (fun j h1 h2=>by omega)
theorem miss (s:ByteArray) (ar:Int) (k:Nat) (h:hitS s ar k=false):((signV k).toList == s.toList)=false∨(((signV k).toList == s.toList)=true∧(arV k == ar)=false):=by
 unfold hitS at h
 rw [Bool.and_eq_false_iff] at h
 cases h1:((signV k).toList == s.toList) with
 | false=>exact .inl rfl
 | true=>rw [h1] at h;exact .inr ⟨rfl,h.resolve_left (by simp)⟩
theorem v4_ (s:ByteArray) (ar:Int) (k:Nat) (h:hitS s ar k=true):((signV k).toList == s.toList)=true∧(arV k == ar)=true:=by
 unfold hitS at h
 simpa using h
theorem gx_ (s:ByteArray) (ar:Int) (n:Nat) (hn:First s ar n) (w:World) :
 Calls prog 193 #[.string s,.int .i64 ar] w fun e w'=>e=.returned (bsV n)∧w=w':=by
 obtain ⟨h1,h18,hno,hyes⟩:=hn
 have HNO:=hid hno
 have HY:=hid hyes
 clear hno hyes
 go_enter func193,ntmps193
 go_wp2
 go_loop [6] (fun x=>∃k:Nat,1≤k∧k≤n∧x=.int .i64 k) (fun x=>18 - (intOf x).toNat)
 case atStart=>exact ⟨1,Nat.le_refl _,h1,rfl⟩
 case round =>
  obtain ⟨k,hk,hkn,rfl⟩:=hrel
  have hs:=y1_ k w
  have ha:=v3_ k w
  by_cases hlt:k<n
  ·have hm:=HNO.out k hk hlt
   have hk17:(k:Int)≤17:=by omega
   rcases miss s ar k hm with hm1|⟨hm1,hm2⟩
   ·clear hm
    go_wp2_with (first|(go_at_call 177;refine hs.mono ?_;rintro e w' ⟨rfl,rfl⟩)|(go_at_call 136;refine ha.mono ?_;rintro e w' ⟨rfl,rfl⟩))
    exact ⟨⟨k+1,by omega,by omega,by go_num⟩,by simp [intOf];omega⟩
   ·clear hm
    go_wp2_with (first|(go_at_call 177;refine hs.mono ?_;rintro e w' ⟨rfl,rfl⟩)|(go_at_call 136;refine ha.mono ?_;rintro e w' ⟨rfl,rfl⟩))
    exact ⟨⟨k+1,by omega,by omega,by go_num⟩,by simp [intOf];omega⟩
  ·obtain rfl:k=n:=by omega
   by_cases h:k=18
   ·subst h
    clear HNO HY
    go_wp2
    go_ret2
    exact ⟨rfl,rfl⟩
   ·obtain ⟨hm1,hm2⟩:=v4_ s ar k (HY.out.resolve_left h)
    have hk17:(k:Int)≤17:=by omega
    have hV:=hid (show bsV k=.tuple #[.int .i64 k,.bool true] from if_neg h)
    clear HNO HY
    go_wp2_with (first|(go_at_call 177;refine hs.mono ?_;rintro e w' ⟨rfl,rfl⟩)|(go_at_call 136;refine ha.mono ?_;rintro e w' ⟨rfl,rfl⟩))
    go_ret2
    exact ⟨by rw [hV.out];rfl,rfl⟩
end Go.Proofs.YtpcniebkabkikaaGreatDoor
namespace Go.Proofs.Syn
def Cnt (p:Nat→R (List Tm)):Prop:=∀i l j,p i=.ok (l,j)→l.length+i≤j
section
variable {T:Nat→Option K} {F:Nat}
theorem qu_ {p:Nat→R (List Tm)} (hp:Cnt p) (ms:List (List Nat × Nat)):∀(f:Nat) (l:List Tm) (i:Nat) (l':List Tm) (j:Nat),loopF T p ms f l i=.ok (l',j)→l'.length+i≤l.length+j
 | 0,_,_,_,_,h=>by cases h
 | f+1,l,i,l',j,h=>by
  rw [loopF] at h
  split at h
  ·injection h with h;injection h with h1 h2
   subst h1;subst h2;exact Nat.le_refl _
  ·obtain ⟨r,i2,h1,h2⟩:=R.on_ok h
   have a:=hp _ _ _ h1
   have b:=qu_ hp ms f _ i2 l' j h2
   simp only [List.length_append,List.length_singleton] at b
   omega
theorem tower_cnt {u:Nat→R (List Tm)} (hu:Cnt u):∀k,Cnt (tower T F u k)
 | 0=>fun i l j h=>hu i l j h
 | k+1=>fun i l j h=>by
  rw [tower] at h
  obtain ⟨l1,i1,h1,h2⟩:=R.on_ok h
  have a:=tower_cnt hu k _ _ _ h1
  have b:=qu_ (tower_cnt hu k) _ _ _ _ _ _ h2
  omega
theorem nf_:∀(f i:Nat) (l:List Nat) (j:Nat),unOps T f i=.ok (l,j)→l.length+i=j
 | 0,_,_,_,h=>by cases h
 | f+1,i,l,j,h=>by
  rw [unOps] at h
  split at h
  ·injection h with h;injection h with h1 h2
   subst h1;subst h2;simp
  ·obtain ⟨l1,i1,h1,h2⟩:=R.on_ok h
   injection h2 with h2;injection h2 with h3 h4
   subst h3;subst h4
   have:=nf_ f _ _ _ h1
   simp only [List.length_cons];omega
theorem brack_cnt {e:Option (Nat→R (List Tm))} (he:∀p,e=some p→Cnt p) {g:List Tm→List Tm} (hg:∀l,(g l).length≤l.length+1) {s:List Nat} {i j:Nat} {l:List Tm} (h:brack T e g s i=.ok (l,j)):l.length+i≤j:=by
 unfold brack at h
 split at h
 ·cases h
 ·obtain ⟨l1,i1,h1,h⟩:=R.on_ok h
  obtain ⟨_,i2,h2,h⟩:=R.on_ok h
  injection h with h;injection h with h3 h4
  subst h3;subst h4
  have a:=he _ rfl _ _ _ h1
  have b:=(want_ok h2).2
  have:=hg l1
  omega
theorem atom_cnt {e:Option (Nat→R (List Tm))} (he:∀p,e=some p→Cnt p):Cnt (atom T e):=by
 intro i l j h
 unfold atom at h
 split at h
 ·cases h
 ·split at h
  ·injection h with h;injection h with h3 h4
   subst h3;subst h4;simp;omega
  ·split at h
   ·exact brack_cnt he (fun l=>Nat.le_succ _) h
   ·unfold atomN at h
    obtain ⟨s,i1,h1,h⟩:=R.on_ok h
    have a:=(name_ok h1).2.1
    split at h
    ·have:=brack_cnt he (g:=fun l=>l++[⟨3,0,s⟩]) (fun l=>by simp) h
     omega
    ·injection h with h;injection h with h3 h4
     subst h3;subst h4;simp;omega
theorem unary_cnt {e:Option (Nat→R (List Tm))} (he:∀p,e=some p→Cnt p):Cnt (unary T F e):=by
 intro i l j h
 rw [unary_atom] at h
 obtain ⟨ops,i1,h1,h⟩:=R.on_ok h
 obtain ⟨l1,i2,h2,h⟩:=R.on_ok h
 injection h with h;injection h with h3 h4
 subst h3;subst h4
 have a:=nf_ _ _ _ _ h1
 have b:=atom_cnt he _ _ _ h2
 simp only [List.length_append,List.length_map,List.length_reverse]
 omega
theorem expr_cnt:∀d,Cnt (exprD T F d)
 | 0=>tower_cnt (unary_cnt (fun p h=>by cases h)) 6
 | d+1=>tower_cnt (unary_cnt (fun p h=>by cases h;exact expr_cnt d)) 6
end
theorem Fit.pos {α:Type} {n:Nat} {r:R α} {x:α} {j:Nat} (h:Fit n r) (e:r=.ok (x,j)):j≤n:=by rw [e] at h;exact h
theorem Fit.no99 {α:Type} {n j:Nat} {r:R α} (h:Fit n r) (e:r=.error (99,j)):False:=by
 rw [e] at h
 rcases h.1 with h|h|h|h <;> cases h
def lvlOf (op:Nat):Nat :=
 if 11≤op∧op≤14 then 0 else if op=7∨op=8 then 1 else if op=6 then 2 else if op=9∨op=10 then 3 else if op=1∨op=2 then 4 else 5
def sgn:Nat→List Nat
 | 1=>[43] | 2=>[45] | 3=>[42] | 4=>[47] | 5=>[37] | 6=>[38] | 7=>[124] | 8=>[94] | 9=>[60,60] | 10=>[62,62] | 11=>[61,61] | 12=>[33,61] | 13=>[60] | 14=>[60,61]
 | 15=>[45] | 16=>[33] | 17=>[126] | _=>[]
theorem find_congr {α:Type} {p q:α→Bool}:∀{l:List α},(∀m∈l,p m=q m)→l.find? p=l.find? q
 | [],_=>rfl
 | m::l,h=>by
  rw [List.find?_cons,List.find?_cons,h m (List.mem_cons_self ..),find_congr (fun x hx=>h x (List.mem_cons_of_mem _ hx))]
def opTx (ms:List (List Nat × Nat)) (t:List Nat):Nat:=match ms.find? fun m=>t == m.1 with
 | some m=>m.2
 | none=>0
theorem opTx_sgn (n:Nat) (h1:1≤n) (h2:n≤14) (l:Nat) (hl:l≤5):opTx (marks l) (sgn n)=if lvlOf n=l then n else 0:=by
 have:∀n:Fin 15,∀l:Fin 6,1≤n.val→opTx (marks l.val) (sgn n.val)=if lvlOf n.val=l.val then n.val else 0:=by decide
 exact this ⟨n,by omega⟩ ⟨l,by omega⟩ h1
theorem opTx_none (ms:List (List Nat × Nat)) (t:List Nat) (h:∀m∈ms,t≠m.1):opTx ms t=0:=by
 unfold opTx
 rw [List.find?_eq_none.2 (fun m hm=>by simpa using h m hm)]
theorem marks_sgn (l:Nat):∀m∈marks l,sgn m.2=m.1∧1≤m.2∧m.2≤14:=by
 have:(marks l).all (fun m=>decide (sgn m.2=m.1∧1≤m.2∧m.2≤14))=true:=by
  unfold marks
  split <;> decide
 intro m hm
 simpa using List.all_eq_true.1 this m hm
def unL:List (List Nat × Nat):=[([45],15),([33],16),([126],17)]
theorem opTx_un (n:Nat) (h1:15≤n) (h2:n≤17):opTx unL (sgn n)=n:=by
 rcases (show n=15∨n=16∨n=17 by omega) with rfl|rfl|rfl <;> decide
end Go.Proofs.Syn
namespace Go.Proofs.YtpcniebkabkikaaGreatDoor
open Go Go.RowKit Go.Proofs.Mm
theorem bl_sign (n:Nat) (h1:1≤n) (h2:n≤17):bl (signV n)=Syn.sgn n:=by
 have:∀n:Fin 18,1≤n.val→bl (signV n.val)=Syn.sgn n.val:=by decide
 exact this ⟨n,by omega⟩ h1
theorem h2_ (t:ByteArray) (ar:Int) (n:Nat) (h1:1≤n) (h2:n≤17):hitS t ar n=true↔bl t=Syn.sgn n∧arV n=ar:=by
 unfold hitS
 rw [ax_,bl_sign n h1 h2,Bool.and_eq_true,beq_iff_eq,beq_iff_eq,eq_comm]
theorem bysign2 (t:ByteArray):∃n,First t 2 n∧((n=18∧∀l,Syn.opTx (Syn.marks l) (bl t)=0)∨(1≤n∧n≤14∧∀l,l≤5→Syn.opTx (Syn.marks l) (bl t)=if Syn.lvlOf n=l then n else 0)):=by
 obtain ⟨n,h1,h18,hno,hyes⟩:=ne_ t 2
 refine ⟨n,⟨h1,h18,hno,hyes⟩,?_⟩
 by_cases hn:n=18
 ·refine .inl ⟨hn,fun l=>Syn.opTx_none _ _ fun m hm e=>?_⟩
  obtain ⟨a,b,c⟩:=Syn.marks_sgn l m hm
  have:=hno m.2 b (by omega)
  have h2:=(h2_ t 2 m.2 b (by omega)).2 ⟨by rw [e,a],by unfold arV;rw [if_pos (by omega)]⟩
  rw [this] at h2;cases h2
 ·obtain ⟨a,b⟩:=(h2_ t 2 n h1 (by omega)).1 (hyes.resolve_left hn)
  have hn14:n≤14:=by
   unfold arV at b
   split at b
   ·omega
   ·split at b <;> omega
  exact .inr ⟨h1,hn14,fun l hl=>by rw [a];exact Syn.opTx_sgn n h1 hn14 l hl⟩
theorem bysign1 (t:ByteArray):∃n,First t 1 n∧((n=18∧Syn.opTx Syn.unL (bl t)=0)∨(15≤n∧n≤17∧Syn.opTx Syn.unL (bl t)=n)):=by
 obtain ⟨n,h1,h18,hno,hyes⟩:=ne_ t 1
 refine ⟨n,⟨h1,h18,hno,hyes⟩,?_⟩
 by_cases hn:n=18
 ·refine .inl ⟨hn,Syn.opTx_none _ _ fun m hm e=>?_⟩
  have hm2:Syn.sgn m.2=m.1∧15≤m.2∧m.2≤17:=by
   have:Syn.unL.all (fun m=>decide (Syn.sgn m.2=m.1∧15≤m.2∧m.2≤17))=true:=by decide
   simpa using List.all_eq_true.1 this m hm
  obtain ⟨a,b,c⟩:=hm2
  have:=hno m.2 (by omega) (by omega)
  have h2:=(h2_ t 1 m.2 (by omega) c).2 ⟨by rw [e,a],by unfold arV;rw [if_neg (by omega),if_pos (by omega)]⟩
  rw [this] at h2;cases h2
 ·obtain ⟨a,b⟩:=(h2_ t 1 n h1 (by omega)).1 (hyes.resolve_left hn)
  have hn15:15≤n:=by
   unfold arV at b
   split at b
   ·omega
   ·split at b <;> omega
  exact .inr ⟨hn15,by omega,by rw [a];exact Syn.opTx_un n hn15 (by omega)⟩
theorem i9_ {ys:List It} (hw:Ws ys) (len i:Nat) {ms:List (List Nat × Nat)} (hm:∀m∈ms,Mk m.1=true):Syn.opOf (Tk ys) ms i=Syn.opTx ms (bl (tk ys len i).t):=by
 unfold Syn.opOf Syn.opTx
 rw [Syn.find_congr (q:=fun m=>bl (tk ys len i).t == m.1) (fun m hx=>(az_ hw len i (hm m hx)).symm)]
 rfl
theorem y2_ (l:Nat):∀m∈Syn.marks l,Mk m.1=true:=by
 have:(Syn.marks l).all (fun m=>Mk m.1)=true:=by
  unfold Syn.marks
  split <;> decide
 exact List.all_eq_true.1 this
theorem mk_un:∀m∈Syn.unL,Mk m.1=true:=by decide
theorem ou_ (n:Nat) (h1:1≤n) (h2:n≤14) (w:World):Calls prog 194 #[.int .i64 (n:Nat)] w fun e w'=>e=.returned (.int .i64 ((Syn.lvlOf n:Nat):Int))∧w=w':=by
 rcases (show n=1∨n=2∨n=3∨n=4∨n=5∨n=6∨n=7∨n=8∨n=9∨n=10∨n=11∨n=12∨n=13∨n=14 by omega) with rfl|rfl|rfl|rfl|rfl|rfl|rfl|rfl|rfl|rfl|rfl|rfl|rfl|rfl
 all_goals
  clear h1 h2
  go_enter func194,ntmps194
  go_wp2
  go_ret
  exact ⟨rfl,rfl⟩
section
variable {ys:List It} {len bp bw i:Nat} {vp:Value} {w:World}
theorem ng_ (hw:Ws ys) (h:PS ys len bp bw vp w i) (ho:Syn.opOf (Tk ys) Syn.unL i=0) :
 Calls prog 195 #[.pointer (some ⟨bp,0,none⟩)] w fun e w'=>e=.returned (.tuple #[.int .i64 0,.bool false])∧w=w':=by
 obtain ⟨n,hn,hc⟩:=bysign1 (tk ys len i).t
 rw [i9_ hw len i mk_un] at ho
 have hn18:n=18:=by rcases hc with hc|hc <;> omega
 subst hn18
 have hb:=gx_ _ _ _ hn w
 rw [show bsV 18=.tuple #[.int .i64 0,.bool false] from rfl] at hb
 obtain ⟨c,h0,hf,hcc,hc2,h1,h2,h3,h4⟩:=h.raw
 have hle:=h.le
 have hm:0<ys.length+1 - i:=by omega
 clear h hf hcc hc2 h1 h3 h4 hc hn ho
 generalize ys.length+1 - i=m at *
 generalize 4*i=o at *
 go_enter func195,ntmps195
 go_wp2_with (go_at_call 193;refine hb.mono ?_;rintro e w' ⟨rfl,rfl⟩)
 go_ret2
 exact ⟨rfl,rfl⟩
theorem l0_ (hw:Ws ys) (h:PS ys len bp bw vp w i) (n:Nat) (hn0:n≠0) (ho:Syn.opOf (Tk ys) Syn.unL i=n) (hi:i<ys.length) :
 Calls prog 195 #[.pointer (some ⟨bp,0,none⟩)] w fun e w'=>e=.returned (.tuple #[.int .i64 (n:Nat),.bool true])∧Chg (fun k=>k=bp) w w'∧PS ys len bp bw vp w' (i+1):=by
 obtain ⟨n',hn,hc⟩:=bysign1 (tk ys len i).t
 rw [i9_ hw len i mk_un] at ho
 have hn18:n'=n∧n≤17:=by rcases hc with hc|hc <;> omega
 obtain ⟨rfl,hn17⟩:=hn18
 have hb:=gx_ _ _ _ hn w
 rw [show bsV n'=.tuple #[.int .i64 (n':Nat),.bool true] from if_neg (by omega)] at hb
 have ht:=hid (gv_ h hi)
 obtain ⟨c,h0,hf,hcc,hc2,h1,h2,h3,h4⟩:=h.raw
 have hle:=h.le
 have hm:0<ys.length+1 - i:=by omega
 clear h hf hcc hc2 h1 h3 h4 hc hn ho hn0
 generalize ys.length+1 - i=m at *
 generalize 4*i=o at *
 go_enter func195,ntmps195
 go_wp2_with (go_at_call 193;refine hb.mono ?_;rintro e w' ⟨rfl,rfl⟩)
 go_at_call 146
 refine ht.out.mono ?_
 rintro e w' ⟨rfl,hC,hP⟩
 go_wp2
 go_ret2
 exact ⟨rfl,hC,hP⟩
end
end Go.Proofs.YtpcniebkabkikaaGreatDoor
