/- A part of the proof of PrintBack: contracts and plain facts. -/
import Derived.Test.YtpcniebkabkikaaGreatDoorPBqR4
import Derived.Test.YtpcniebkabkikaaGreatDoorPBqR2
import Derived.Test.YtpcniebkabkikaaGreatDoorPBqR3
set_option maxRecDepth 100000
set_option maxHeartbeats 8000000
open Go.Lib (hid)
open Go.Proofs.Tryz
open List renaming length_append → nla, append_assoc → nlb, length_cons → nlk, length_nil → nlg, cons_append → nli
namespace Go.Proofs.YtpcniebkabkikaaGreatDoor
open Go
open Go.Proofs.Syn (K)
def Sep (t r:List Nat):Prop:=∀c x,t.head?=some c→r.head?=some x→(letterB c=true→nameB x=false)∧(digitB c=true→digitB x=false)∧(t=[c]→[c,x] ∉ mark2)
theorem wf_ {t r:List Nat} {k:Nat} (hw:wordL t=(t.length,k)) (hs:t≠[]) (h:Sep t r):wordL (t++r)=(t.length,k):=by
 cases t with
 | nil=>exact absurd rfl hs
 | cons c t =>
  by_cases hl:letterB c=true
  ·rw [wordL,if_pos hl] at hw
   simp only at hw
   injection hw with h1 h2
   have hall:(c::t).takeWhile nameB=c::t:=by
    have:=as_ (p:=nameB) (c::t)
    rw [h1,List.take_length] at this
    exact this.symm
   rw [hall,List.take_length] at h2
   have hst:((c::t)++r).takeWhile nameB=c::t:=bf_ _ _ (fun x hx=>bd_ (c::t) x (by rw [hall];exact hx)) (fun x hx=>(h c x rfl hx).1 hl)
   rw [nli] at hst ⊢
   rw [wordL,if_pos hl]
   simp only
   rw [hst,←nli,List.take_left,h2]
  ·by_cases hd:digitB c=true
   ·rw [wordL,if_neg hl,if_pos hd] at hw
    injection hw with h1 h2
    have hall:(c::t).takeWhile digitB=c::t:=by
     have:=as_ (p:=digitB) (c::t)
     rw [h1,List.take_length] at this
     exact this.symm
    have hst:((c::t)++r).takeWhile digitB=c::t:=bf_ _ _ (fun x hx=>bd_ (c::t) x (by rw [hall];exact hx)) (fun x hx=>(h c x rfl hx).2.1 hd)
    rw [nli] at hst ⊢
    rw [wordL,if_neg hl,if_pos hd,hst,h2]
   ·rw [wordL,if_neg hl,if_neg hd] at hw
    split at hw
    ·rename_i h2
     injection hw with h3 h4
     obtain ⟨d,rfl⟩:∃d,t=[d]:=by
      cases t with
      | nil=>simp at h3
      | cons d t =>
       cases t with
       | nil=>exact ⟨d,rfl⟩
       | cons e t=>simp at h3
     show wordL (c::d::r)=_
     rw [wordL,if_neg hl,if_neg hd,if_pos (by exact h2),←h4]
     rfl
    ·rename_i h2
     split at hw
     ·rename_i h1
      injection hw with h3 h4
      obtain rfl:t=[]:=by
       cases t with
       | nil=>rfl
       | cons d t=>simp at h3
      show wordL (c::r)=_
      have h5:(c::r).take 2 ∉ mark2:=by
       cases r with
       | nil=>exact h2
       | cons x r=>exact (h c x rfl rfl).2.2 rfl
      rw [wordL,if_neg hl,if_neg hd,if_neg h5,if_pos h1,←h4]
      rfl
     ·injection hw with h3 h4
      simp at h3
theorem wg_ {k v:Nat} {t r:List Nat} (h:Good k t v) (hr:Sep t r) (a:Nat) :
 scanL (t++r) a=(⟨k,t,v,a⟩::(scanL r (a+t.length)).1,(scanL r (a+t.length)).2):=by
 obtain ⟨hw,hs,hh,hn,hu,hv⟩:=h
 have hag:wordL (t++r)=(t.length,k):=wf_ hw hs hr
 cases t with
 | nil=>exact absurd rfl hs
 | cons c t =>
  obtain ⟨h1,h2⟩:=hh c rfl
  have htk:((c::t)++r).take (c::t).length=c::t:=List.take_left
  have hdr:((c::t)++r).drop (c::t).length=r:=List.drop_left
  rw [nli] at hag htk hdr ⊢
  rw [scanL,if_neg (by rw [h1];simp),dif_neg h2,hag,dif_neg (by simp),if_neg hn]
  simp only
  rw [htk,hdr,if_neg hu,hv]
theorem hj_:∀(g r:List Nat) (a:Nat),(∀b∈g,blankB b=true)→scanL (g++r) a=scanL r (a+g.length)
 | [],_,_,_=>rfl
 | b::g,r,a,h=>by
  rw [nli,cw_ _ _ (h b (List.mem_cons_self ..)),hj_ g r (a+1) (fun x hx=>h x (List.mem_cons_of_mem _ hx)),nlk]
  congr 1;omega
theorem sep_nil (t:List Nat):Sep t []:=fun _ _ _ h=>by cases h
theorem ca_ (t:List Nat) {b:Nat} (hb:blankB b=true) (r:List Nat):Sep t (b::r):=fun c x _ hx=>by
 obtain rfl:b=x:=by simpa using hx
 obtain ⟨h1,h2,_,h4⟩:=sb_ hb
 exact ⟨fun _=>h1,fun _=>h2,fun _ hm=>h4 _ hm (by simp)⟩
theorem bq_ {c:Nat} (hl:letterB c=false) (hd:digitB c=false) (hm:∀m∈mark2,m.head?≠some c) (r:List Nat):Sep [c] r:=fun c' x hc _=>by
 obtain rfl:c=c':=by simpa using hc
 exact ⟨fun h=>(by rw [hl] at h;cases h),fun h=>(by rw [hd] at h;cases h),fun _ h=>hm _ h rfl⟩
theorem qz_ (t:List Nat) {x:Nat} (hn:nameB x=false) (hm:∀m∈mark2,m[1]?≠some x) (r:List Nat):Sep t (x::r):=fun c y _ hy=>by
 obtain rfl:x=y:=by simpa using hy
 have hd:digitB x=false:=by
  unfold nameB at hn
  exact (Bool.or_eq_false_iff.1 hn).2
 exact ⟨fun _=>hn,fun _=>hd,fun _ h=>hm _ h rfl⟩
def lay:List (List Nat × K)→List Nat
 | []=>[]
 | p::l=>p.1++(p.2.text++lay l)
theorem aq_:∀(a b:List (List Nat × K)),lay (a++b)=lay a++lay b
 | [],b=>rfl
 | p::a,b=>by
  show p.1++(p.2.text++lay (a++b))=p.1++(p.2.text++lay a)++lay b
  rw [aq_ a b];simp
def Lays:List (List Nat × K)→List Nat→Prop
 | [],_=>True
 | p::l,r=>(∀b∈p.1,blankB b=true)∧Good p.2.kind p.2.text p.2.value∧Sep p.2.text (lay l++r)∧Lays l r
theorem a2_:∀(a b:List (List Nat × K)) (r:List Nat),Lays (a++b) r↔Lays a (lay b++r)∧Lays b r
 | [],b,r=>⟨fun h=>⟨trivial,h⟩,fun h=>h.2⟩
 | p::a,b,r=>by
  show _∧_∧Sep p.2.text (lay (a++b)++r)∧Lays (a++b) r↔(_∧_∧Sep p.2.text (lay a++(lay b++r))∧Lays a (lay b++r))∧Lays b r
  rw [aq_,nlb,a2_ a b r]
  exact ⟨fun ⟨h1,h2,h3,h4,h5⟩=>⟨⟨h1,h2,h3,h4⟩,h5⟩,fun ⟨⟨h1,h2,h3,h4⟩,h5⟩=>⟨h1,h2,h3,h4,h5⟩⟩
end Go.Proofs.YtpcniebkabkikaaGreatDoor
namespace Go.Proofs.Syn
inductive Ex where
 | num (v:Nat)
 | nm (s:List Nat)
 | idx (s:List Nat) (e:Ex)
 | un (o:Nat) (e:Ex)
 | bin (o:Nat) (l r:Ex)
def Ex.flat:Ex→List Tm
 | .num v=>[⟨1,v,[]⟩]
 | .nm s=>[⟨2,0,s⟩]
 | .idx s e=>e.flat++[⟨3,0,s⟩]
 | .un o e=>e.flat++[⟨4,o,[]⟩]
 | .bin o l r=>l.flat++r.flat++[⟨5,o,[]⟩]
def opLv (o:Nat):Nat:=if 11≤o then 0 else if o=7∨o=8 then 1 else if o=6 then 2 else if o=9∨o=10 then 3 else if o=1∨o=2 then 4 else 5
def opMark:Nat→List Nat
 | 1=>[43] | 2=>[45] | 3=>[42] | 4=>[47] | 5=>[37] | 6=>[38] | 7=>[124] | 8=>[94] | 9=>[60,60] | 10=>[62,62] | 11=>[61,61] | 12=>[33,61] | 13=>[60] | _=>[60,61]
def unMark:Nat→List Nat
 | 15=>[45] | 16=>[33] | _=>[126]
def mk4 (s:List Nat):K:=⟨4,s,0⟩
def br (b:Bool) (l:List K):List K:=if b then mk4 [40]::(l++[mk4 [41]]) else l
section
variable (dg:Nat→List Nat)
def Ex.tk:Ex→Nat→List K
 | .num v,_=>[⟨3,dg v,v⟩]
 | .nm s,_=>[⟨1,s,0⟩]
 | .idx s e,_=>⟨1,s,0⟩::mk4 [91]::(e.tk 0++[mk4 [93]])
 | .un o e,_=>mk4 (unMark o)::e.tk 6
 | .bin o l r,lv=>br (decide (opLv o<lv)) (l.tk (opLv o)++mk4 (opMark o)::r.tk (opLv o+1))
end
def Ex.dp:Ex→Nat→Nat
 | .num _,_=>0
 | .nm _,_=>0
 | .idx _ e,_=>e.dp 0+1
 | .un _ e,_=>e.dp 6
 | .bin o l r,lv=>max (l.dp (opLv o)) (r.dp (opLv o+1))+if opLv o<lv then 1 else 0
def Ex.Wf:Ex→Prop
 | .num _=>True
 | .nm _=>True
 | .idx _ e=>e.Wf
 | .un o e=>15≤o∧o≤17∧e.Wf
 | .bin o l r=>1≤o∧o≤14∧l.Wf∧r.Wf
def sub (T:Nat→Option K) (F:Nat):Nat→Option (Nat→R (List Tm))
 | 0=>none
 | d+1=>some (exprD T F d)
theorem f7_ (T:Nat→Option K) (F d:Nat):exprD T F d=tower T F (unary T F (sub T F d)) 6:=by cases d <;> rfl
theorem b1_ (o:Nat):opLv o≤5:=by unfold opLv;split <;> (try split) <;> (try split) <;> (try split) <;> (try split) <;> omega
def At (T:Nat→Option K) (i:Nat) (ts:List K):Prop:=∀(j:Nat) (x:K),ts[j]?=some x→T (i+j)=some x
section
variable {T:Nat→Option K} {F:Nat} {dg:Nat→List Nat}
theorem At.head {i:Nat} {x:K} {l:List K} (h:At T i (x::l)):T i=some x:=h 0 x rfl
theorem At.tail {i:Nat} {x:K} {l:List K} (h:At T i (x::l)):At T (i+1) l:=fun j y hy=>by
 have:=h (j+1) y (by simpa using hy)
 rwa [show i+(j+1)=i+1+j by omega] at this
theorem At.left {i:Nat} {a b:List K} (h:At T i (a++b)):At T i a:=fun j x hx=>h j x (by
 rw [List.getElem?_append_left (List.getElem?_eq_some_iff.1 hx).1];exact hx)
theorem At.right {i:Nat} {a b:List K} (h:At T i (a++b)):At T (i+a.length) b:=fun j x hx=>by
 have:=h (a.length+j) x (by rw [List.getElem?_append_right (by omega),show a.length+j - a.length=j by omega];exact hx)
 rwa [show i+(a.length+j)=i+a.length+j by omega] at this
def opP (ms:List (List Nat × Nat)) (s:List Nat):Nat:=match ms.find? fun m=>s == m.1 with
 | some m=>m.2
 | none=>0
theorem je_ {j:Nat} {s:List Nat} {v:Nat} (h:T j=some ⟨4,s,v⟩) (ms:List (List Nat × Nat)):opOf T ms j=opP ms s:=by
 unfold opOf opP
 have:(fun m:List Nat × Nat=>is T j m.1)=fun m=>s == m.1:=by
  funext m
  unfold is
  rw [h];rfl
 rw [this]
 cases List.find? (fun m:List Nat × Nat=>s == m.1) ms <;> rfl
theorem opOf_no {j:Nat} (h:∀s,is T j s=false) (ms:List (List Nat × Nat)):opOf T ms j=0:=by
 unfold opOf
 have:ms.find? (fun m=>is T j m.1)=none:=List.find?_eq_none.2 (fun m _=>by rw [h];simp)
 rw [this]
theorem fj_ {j:Nat} {k:K} (h:T j=some k) (h2:k.kind≠2) (h4:k.kind≠4) (s:List Nat):is T j s=false:=by
 unfold is
 rw [h]
 have e2:(k.kind == 2)=false:=by simpa using h2
 have e4:(k.kind == 4)=false:=by simpa using h4
 simp [e2,e4]
structure Stop (T:Nat→Option K) (j lv:Nat):Prop where
 op:∀k,lv≤k→k≤5→opOf T (marks k) j=0
 ix:is T j [91]=false
theorem Stop.mono {j lv lv':Nat} (h:Stop T j lv) (hl:lv≤lv'):Stop T j lv':=⟨fun k h1 h2=>h.op k (by omega) h2,h.ix⟩
theorem is_m {j:Nat} {s:List Nat} {v:Nat} (h:T j=some ⟨4,s,v⟩) (t:List Nat):is T j t=(s == t):=by
 unfold is;rw [h];rfl
theorem op_here:∀o:Fin 15,1≤o.val→opP (marks (opLv o.val)) (opMark o.val)=o.val:=by decide
theorem y5_:∀(o:Fin 15) (k:Fin 6),1≤o.val→k.val≠opLv o.val→opP (marks k.val) (opMark o.val)=0:=by decide
theorem dd_ {j:Nat} {s:List Nat} {v:Nat} (h:T j=some ⟨4,s,v⟩) (hs:∀k:Fin 6,opP (marks k.val) s=0) (hx:(s == [91])=false) (lv:Nat):Stop T j lv:=⟨fun k _ h2=>by
 rw [je_ h];exact hs ⟨k,by omega⟩,by rw [is_m h];exact hx⟩
theorem op_ix:∀o:Fin 15,(opMark o.val == [91])=false:=by decide
theorem stop_op {j o:Nat} {v:Nat} (h:T j=some ⟨4,opMark o,v⟩) (h1:1≤o) (h2:o≤14):Stop T j (opLv o+1):=⟨fun k hk h5=>by
 rw [je_ h];exact y5_ ⟨o,by omega⟩ ⟨k,by omega⟩ h1 (by show k≠opLv o;omega),by rw [is_m h];exact op_ix ⟨o,by omega⟩⟩
def uns:List (List Nat × Nat):=[([45],15),([33],16),([126],17)]
theorem un_here:∀o:Fin 18,15≤o.val→opP uns (unMark o.val)=o.val:=by decide
def RdA (T:Nat→Option K) (F:Nat) (dg:Nat→List Nat) (e:Ex) (lv:Nat):Prop:=∀d i,e.dp lv≤d→At T i (e.tk dg lv)→Stop T (i+(e.tk dg lv).length) lv→(e.tk dg lv).length<F→tower T F (unary T F (sub T F d)) (6 - lv) i=.ok (e.flat,i+(e.tk dg lv).length)
def LpA (T:Nat→Option K) (F:Nat) (dg:Nat→List Nat) (e:Ex) (lv:Nat):Prop:=∀d i,e.dp lv≤d→At T i (e.tk dg lv)→Stop T (i+(e.tk dg lv).length) (lv+1)→(e.tk dg lv).length<F→∃f,F≤f+(e.tk dg lv).length∧tower T F (unary T F (sub T F d)) (6 - lv) i=loopF T (tower T F (unary T F (sub T F d)) (5 - lv)) (marks lv) f e.flat (i+(e.tk dg lv).length)
theorem y6_ (u:Nat→R (List Tm)) {lv:Nat} (h:lv≤5) (i:Nat):tower T F u (6 - lv) i=(tower T F u (5 - lv) i).on fun l j=>loopF T (tower T F u (5 - lv)) (marks lv) F l j:=by
 rw [show 6 - lv=(5 - lv)+1 by omega,tower,show 5 - (5 - lv)=lv by omega]
theorem lp_of {e:Ex} {lv:Nat} (hlv:lv≤5) (htk:e.tk dg lv=e.tk dg (lv+1)) (hdp:e.dp lv=e.dp (lv+1)) (h:RdA T F dg e (lv+1)):LpA T F dg e lv:=by
 intro d i h1 h2 h3 h4
 refine ⟨F,by omega,?_⟩
 rw [htk] at h2 h3 h4 ⊢
 rw [hdp] at h1
 have:=h d i h1 h2 h3 h4
 rw [show 6 - (lv+1)=5 - lv by omega] at this
 rw [y6_ _ hlv,this]
 rfl
theorem rd_of {e:Ex} {lv:Nat} (hlv:lv≤5) (h:LpA T F dg e lv):RdA T F dg e lv:=by
 intro d i h1 h2 h3 h4
 obtain ⟨f,h5,h6⟩:=h d i h1 h2 (h3.mono (by omega)) h4
 obtain ⟨f,rfl⟩:∃f',f=f'+1:=⟨f - 1,by omega⟩
 rw [h6,loopF,if_pos (h3.op lv (Nat.le_refl _) hlv)]
theorem down {e:Ex} {b:Nat} (hb:b≤6) (hr:RdA T F dg e b):∀(n a:Nat),a+n=b→(∀lv,a≤lv→lv<b→e.tk dg lv=e.tk dg (lv+1)∧e.dp lv=e.dp (lv+1))→RdA T F dg e a∧(a<b→LpA T F dg e a)
 | 0,a,hn,_=>by
  obtain rfl:a=b:=by omega
  exact ⟨hr,fun h=>absurd h (by omega)⟩
 | n+1,a,hn,hs=>by
  have ih:=down hb hr n (a+1) (by omega) (fun lv h1 h2=>hs lv (by omega) h2)
  obtain ⟨s1,s2⟩:=hs a (Nat.le_refl _) (by omega)
  have hl:=lp_of (by omega) s1 s2 ih.1
  exact ⟨rd_of (by omega) hl,fun _=>hl⟩
theorem un_step {e:Option (Nat→R (List Tm))} {f i o:Nat} (h:opOf T uns i=o) (ho:o≠0):((unOps T (f+1) i).on fun ops i=>(atom T e i).on fun l i=>(.ok (l++ops.reverse.map fun o=>⟨4,o,[]⟩,i):R (List Tm))) =
 ((unOps T f (i+1)).on fun ops i=>(atom T e i).on fun l i=>(.ok (l++ops.reverse.map fun o=>⟨4,o,[]⟩,i):R (List Tm))).on fun l j=>.ok (l++[⟨4,o,[]⟩],j):=by
 rw [unOps]
 have h':opOf T [([45],15),([33],16),([126],17)] i=o:=h
 rw [h',if_neg ho]
 cases unOps T f (i+1) with
 | error q=>rfl
 | ok q =>
  obtain ⟨ops,j⟩:=q
  show (atom T e j).on _=((atom T e j).on _).on _
  cases atom T e j with
  | error q=>rfl
  | ok q =>
   obtain ⟨l,k⟩:=q
   show (Except.ok _:R (List Tm))=Except.ok _
   rw [List.reverse_cons,List.map_append,←nlb]
   rfl
theorem l3_ {e:Option (Nat→R (List Tm))} {f i:Nat} (h:opOf T uns i=0):((unOps T (f+1) i).on fun ops i=>(atom T e i).on fun l i=>(.ok (l++ops.reverse.map fun o=>⟨4,o,[]⟩,i):R (List Tm)))=atom T e i:=by
 rw [unOps]
 have h':opOf T [([45],15),([33],16),([126],17)] i=0:=h
 rw [h',if_pos rfl]
 show (atom T e i).on _=_
 cases atom T e i with
 | error q=>rfl
 | ok q =>
  obtain ⟨l,k⟩:=q
  show (Except.ok (l++[],k):R (List Tm))=_
  rw [List.append_nil]
def UnA (T:Nat→Option K) (F:Nat) (dg:Nat→List Nat) (e:Ex):Prop:=∀d i f,e.dp 6≤d→At T i (e.tk dg 6)→Stop T (i+(e.tk dg 6).length) 6→(e.tk dg 6).length<F→(e.tk dg 6).length<f→((unOps T f i).on fun ops i=>(atom T (sub T F d) i).on fun l i=>(.ok (l++ops.reverse.map fun o=>⟨4,o,[]⟩,i):R (List Tm)))=.ok (e.flat,i+(e.tk dg 6).length)
theorem UnA.rd {e:Ex} (h:UnA T F dg e):RdA T F dg e 6:=fun d i h1 h2 h3 h4=>h d i F h1 h2 h3 h4 h4
theorem wh_ {j:Nat} (h:T j=some (mk4 [41])) (lv:Nat):Stop T j lv:=dd_ h (by decide) (by decide) lv
theorem wi_ {j:Nat} (h:T j=some (mk4 [93])) (lv:Nat):Stop T j lv:=dd_ h (by decide) (by decide) lv
theorem co_ {j:Nat} {s:List Nat} (h:T j=some (mk4 s)) (t:List Nat):is T j t=(s == t):=by
 unfold is;rw [h];rfl
theorem bn_ {j:Nat} {s:List Nat} (h:T j=some (mk4 s)):want T j s=.ok ((),j+1):=by
 unfold want;rw [co_ h];simp
theorem q0_ {e:Ex} (h:RdA T F dg e 0) (g:List Tm→List Tm) (c:List Nat) (hc:c=[41]∨c=[93]) {d i:Nat} (hd:e.dp 0+1≤d) (hi:At T (i+1) (e.tk dg 0++[mk4 c])) (hF:(e.tk dg 0).length<F):brack T (sub T F d) g c i=.ok (g e.flat,i+(e.tk dg 0).length+2):=by
 obtain ⟨d,rfl⟩:∃d',d=d'+1:=⟨d - 1,by omega⟩
 have hcl:=hi.right.head
 have:=h d (i+1) (by omega) hi.left (by rcases hc with rfl|rfl;exact wh_ hcl 0;exact wi_ hcl 0) hF
 show (exprD T F d (i+1)).on _=_
 rw [f7_,this]
 show (want T (i+1+(e.tk dg 0).length) c).on _=_
 rw [bn_ hcl]
 show (Except.ok _:R (List Tm))=Except.ok _
 rw [show i+1+(e.tk dg 0).length+1=i+(e.tk dg 0).length+2 by omega]
theorem no_un {j:Nat} {k:K} (h:T j=some k) (h2:k.kind≠2) (h4:k.kind≠4):opOf T uns j=0:=opOf_no (fj_ h h2 h4) _
theorem np_ {e:Option (Nat→R (List Tm))} {i:Nat} {s:List Nat} {v:Nat} (hT:T i=some ⟨1,s,v⟩):atom T e i=if is T (i+1) [91] then brack T e (fun l=>l++[⟨3,0,s⟩]) [93] (i+1) else .ok ([⟨2,0,s⟩],i+1):=by
 have hn:name T i=.ok (s,i+1):=by
  unfold name;rw [hT];exact if_pos rfl
 have h40:is T i [40]=false:=fj_ hT (by show (1:Nat)≠2;decide) (by show (1:Nat)≠4;decide) _
 unfold atom
 rw [hT]
 show (if (1:Nat)=3 then _ else if is T i [40]=true then _ else atomN T e i)=_
 rw [if_neg (by decide),if_neg (by rw [h40];simp)]
 unfold atomN
 rw [hn]
 rfl
theorem nq_:∀(e:Ex),e.Wf→(∀lv,lv≤6→RdA T F dg e lv)∧(∀lv,lv≤5→LpA T F dg e lv)∧UnA T F dg e
 | .num v,_=>by
  have hu:UnA T F dg (.num v):=by
   intro d i f _ h2 _ _ h5
   obtain ⟨f,rfl⟩:∃f',f=f'+1:=⟨f - 1,by omega⟩
   have hT:=h2.head
   rw [l3_ (no_un hT (by show (3:Nat)≠2;decide) (by show (3:Nat)≠4;decide))]
   unfold atom
   rw [hT]
   exact if_pos rfl
  have:=fun a (ha:a≤6)=>down (Nat.le_refl 6) hu.rd (6 - a) a (by omega) (fun _ _ _=>⟨rfl,rfl⟩)
  exact ⟨fun lv h=>(this lv h).1,fun lv h=>(this lv (by omega)).2 (by omega),hu⟩
 | .nm s,_=>by
  have hu:UnA T F dg (.nm s):=by
   intro d i f _ h2 h3 _ h5
   obtain ⟨f,rfl⟩:∃f',f=f'+1:=⟨f - 1,by omega⟩
   have hT:=h2.head
   rw [l3_ (no_un hT (by show (1:Nat)≠2;decide) (by show (1:Nat)≠4;decide)),np_ hT]
   exact if_neg (by rw [show is T (i+1) [91]=false from h3.ix];simp)
  have:=fun a (ha:a≤6)=>down (Nat.le_refl 6) hu.rd (6 - a) a (by omega) (fun _ _ _=>⟨rfl,rfl⟩)
  exact ⟨fun lv h=>(this lv h).1,fun lv h=>(this lv (by omega)).2 (by omega),hu⟩
 | .idx s e,hw=>by
  obtain ⟨ih,_,_⟩:=nq_ e hw
  have hu:UnA T F dg (.idx s e):=by
   intro d i f h1 h2 h3 h4 h5
   obtain ⟨f,rfl⟩:∃f',f=f'+1:=⟨f - 1,by omega⟩
   have hT:=h2.head
   have hb:=h2.tail.head
   have hr:=h2.tail.tail
   have hl:((Ex.idx s e).tk dg 6).length=(e.tk dg 0).length+3:=by simp [Ex.tk]
   rw [l3_ (no_un hT (by show (1:Nat)≠2;decide) (by show (1:Nat)≠4;decide)),np_ hT,if_pos (by rw [co_ hb];rfl)]
   rw [q0_ (ih 0 (by omega)) _ [93] (.inr rfl) h1 hr (by omega),hl]
   show (Except.ok _:R (List Tm))=Except.ok _
   rw [show i+1+(e.tk dg 0).length+2=i+((e.tk dg 0).length+3) by omega]
   rfl
  have:=fun a (ha:a≤6)=>down (Nat.le_refl 6) hu.rd (6 - a) a (by omega) (fun _ _ _=>⟨rfl,rfl⟩)
  exact ⟨fun lv h=>(this lv h).1,fun lv h=>(this lv (by omega)).2 (by omega),hu⟩
 | .un o e,hw=>by
  obtain ⟨ho1,ho2,hw⟩:=hw
  obtain ⟨_,_,ih⟩:=nq_ e hw
  have hu:UnA T F dg (.un o e):=by
   intro d i f h1 h2 h3 h4 h5
   obtain ⟨f,rfl⟩:∃f',f=f'+1:=⟨f - 1,by omega⟩
   have hT:=h2.head
   have hl:((Ex.un o e).tk dg 6).length=(e.tk dg 6).length+1:=by simp [Ex.tk]
   rw [hl] at h3 h4 h5
   rw [un_step (o:=o) (by rw [je_ hT];exact un_here ⟨o,by omega⟩ ho1) (by omega),ih d (i+1) f h1 h2.tail (by rwa [show i+1+(e.tk dg 6).length=i+((e.tk dg 6).length+1) by omega]) (by omega) (by omega),hl]
   show (Except.ok _:R (List Tm))=Except.ok _
   rw [show i+1+(e.tk dg 6).length=i+((e.tk dg 6).length+1) by omega]
   rfl
  have:=fun a (ha:a≤6)=>down (Nat.le_refl 6) hu.rd (6 - a) a (by omega) (fun _ _ _=>⟨rfl,rfl⟩)
  exact ⟨fun lv h=>(this lv h).1,fun lv h=>(this lv (by omega)).2 (by omega),hu⟩
 | .bin o l r,hw=>by
  obtain ⟨ho1,ho2,hwl,hwr⟩:=hw
  obtain ⟨_,ihl,_⟩:=nq_ l hwl
  obtain ⟨ihr,_,_⟩:=nq_ r hwr
  have hv:=b1_ o
  obtain ⟨v,hvv⟩:∃v,opLv o=v:=⟨_,rfl⟩
  rw [hvv] at hv
  have htk:∀lv,lv≤v→(Ex.bin o l r).tk dg lv=l.tk dg v++mk4 (opMark o)::r.tk dg (v+1):=fun lv h=>by
   rw [Ex.tk,hvv];unfold br;rw [if_neg (by simpa using h)]
  have hdp:∀lv,lv≤v→(Ex.bin o l r).dp lv=max (l.dp v) (r.dp (v+1)):=fun lv h=>by
   rw [Ex.dp,hvv,if_neg (by omega)];rfl
  have hlp:LpA T F dg (.bin o l r) v:=by
   intro d i h1 h2 h3 h4
   rw [htk v (Nat.le_refl _)] at h2 h3 h4 ⊢
   rw [hdp v (Nat.le_refl _)] at h1
   have hlen:(l.tk dg v++mk4 (opMark o)::r.tk dg (v+1)).length=(l.tk dg v).length+(r.tk dg (v+1)).length+1:=by simp;omega
   rw [hlen] at h3 h4 ⊢
   have hop:=h2.right.head
   have hst:=stop_op hop ho1 ho2
   rw [hvv] at hst
   obtain ⟨f,h5,h6⟩:=ihl v hv d i (by omega) h2.left hst (by omega)
   obtain ⟨f,rfl⟩:∃f',f=f'+1:=⟨f - 1,by omega⟩
   refine ⟨f,by omega,?_⟩
   have hoo:opOf T (marks v) (i+(l.tk dg v).length)=o:=by
    rw [je_ hop,←hvv];exact op_here ⟨o,by omega⟩ ho1
   have hr:=ihr (v+1) (by omega) d (i+(l.tk dg v).length+1) (by omega) h2.right.tail (by rwa [show i+(l.tk dg v).length+1+(r.tk dg (v+1)).length=i+((l.tk dg v).length+(r.tk dg (v+1)).length+1) by omega]) (by omega)
   rw [show 6 - (v+1)=5 - v by omega] at hr
   rw [h6,loopF,hoo,if_neg (by omega),hr]
   show loopF T _ (marks v) f (l.flat++r.flat++[⟨5,o,[]⟩]) _=_
   rw [show i+(l.tk dg v).length+1+(r.tk dg (v+1)).length=i+((l.tk dg v).length+(r.tk dg (v+1)).length+1) by omega]
   rfl
  have hlow:=fun a (ha:a≤v)=>down (by omega) (rd_of hv hlp) (v - a) a (by omega) (fun lv h1 h2=>⟨by rw [htk lv (by omega),htk (lv+1) (by omega)],by rw [hdp lv (by omega),hdp (lv+1) (by omega)]⟩)
  have htk2:∀lv,v<lv→(Ex.bin o l r).tk dg lv=mk4 [40]::((Ex.bin o l r).tk dg 0++[mk4 [41]]):=fun lv h=>by
   rw [htk 0 (Nat.zero_le _),Ex.tk,hvv];unfold br;rw [if_pos (by simpa using h)]
  have hdp2:∀lv,v<lv→(Ex.bin o l r).dp lv=(Ex.bin o l r).dp 0+1:=fun lv h=>by
   rw [hdp 0 (Nat.zero_le _),Ex.dp,hvv,if_pos h]
  have hu:UnA T F dg (.bin o l r):=by
   intro d i f h1 h2 h3 h4 h5
   obtain ⟨f,rfl⟩:∃f',f=f'+1:=⟨f - 1,by omega⟩
   rw [htk2 6 (by omega)] at h2 h4 h5 ⊢
   rw [hdp2 6 (by omega)] at h1
   have hT:=h2.head
   have hl:(mk4 [40]::((Ex.bin o l r).tk dg 0++[mk4 [41]])).length=((Ex.bin o l r).tk dg 0).length+2:=by simp
   have hn:opOf T uns i=0:=by rw [je_ hT];decide
   rw [l3_ hn,hl]
   unfold atom
   rw [hT]
   show (if (4:Nat)=3 then _ else if is T i [40]=true then brack T (sub T F d) (fun l=>l) [41] i else _)=_
   rw [if_neg (by decide),if_pos (by rw [co_ hT];rfl),q0_ (hlow 0 (Nat.zero_le _)).1 _ [41] (.inl rfl) h1 h2.tail (by rw [hl] at h4;omega)]
   show (Except.ok _:R (List Tm))=Except.ok _
   rw [show i+((Ex.bin o l r).tk dg 0).length+2=i+(((Ex.bin o l r).tk dg 0).length+2) by omega]
  have hup:=fun a (ha:v<a) (ha6:a≤6)=>down (Nat.le_refl 6) hu.rd (6 - a) a (by omega) (fun lv h1 h2=>⟨by rw [htk2 lv (by omega),htk2 (lv+1) (by omega)],by rw [hdp2 lv (by omega),hdp2 (lv+1) (by omega)]⟩)
  refine ⟨fun lv h=>?_,fun lv h=>?_,hu⟩
  ·by_cases hl:lv≤v
   ·exact (hlow lv hl).1
   ·exact (hup lv (by omega) h).1
  ·by_cases hl:lv<v
   ·exact (hlow lv (by omega)).2 hl
   ·by_cases he:lv=v
    ·rw [he];exact hlp
    ·exact (hup lv (by omega) (by omega)).2 (by omega)
theorem d3_ {e:Ex} (hw:e.Wf) (hd:e.dp 0≤12) {i:Nat} (h:At T i (e.tk dg 0)) (hs:Stop T (i+(e.tk dg 0).length) 0) (hF:(e.tk dg 0).length<F):expr T F i=.ok (e.flat,i+(e.tk dg 0).length):=by
 show exprD T F 12 i=_
 rw [f7_]
 exact (nq_ e hw).1 0 (by omega) 12 i hd h hs hF
end
def Ex.All (P:List Nat→Prop) (Q:Nat→Prop):Ex→Prop
 | .num v=>Q v
 | .nm s=>P s
 | .idx s e=>P s∧e.All P Q
 | .un _ e=>e.All P Q
 | .bin _ l r=>l.All P Q∧r.All P Q
theorem Ex.dp_mono:∀(e:Ex) {a b:Nat},a≤b→e.dp a≤e.dp b
 | .num _,_,_,_=>Nat.le_refl _
 | .nm _,_,_,_=>Nat.le_refl _
 | .idx _ _,_,_,_=>Nat.le_refl _
 | .un _ _,_,_,_=>Nat.le_refl _
 | .bin o l r,a,b,h=>by
  rw [Ex.dp,Ex.dp]
  by_cases h1:opLv o<a
  ·rw [if_pos h1,if_pos (by omega)];exact Nat.le_refl _
  ·rw [if_neg h1];omega
theorem Ex.dp_six:∀(e:Ex),e.dp 6≤e.dp 0+1
 | .num _=>by rw [Ex.dp,Ex.dp];omega
 | .nm _=>by rw [Ex.dp,Ex.dp];omega
 | .idx _ _=>by rw [Ex.dp,Ex.dp];omega
 | .un _ _=>by rw [Ex.dp,Ex.dp];omega
 | .bin o l r=>by
  rw [Ex.dp,Ex.dp]
  split <;> split <;> omega
theorem y7_:∀(k:Fin 6),∀m∈marks k.val,opLv m.2=k.val∧1≤m.2∧m.2≤14:=by decide
section
variable {T:Nat→Option K} {F:Nat} {P:List Nat→Prop} {Q:Nat→Prop}
def TrA (P:List Nat→Prop) (Q:Nat→Prop) (p:Nat→R (List Tm)) (lv d:Nat):Prop:=∀i l j,p i=.ok (l,j)→∃e:Ex,e.Wf∧l=e.flat∧e.dp lv≤d∧e.All P Q
theorem nr_ {p:Nat→R (List Tm)} {lv d:Nat} (hlv:lv≤5) (hp:TrA P Q p (lv+1) d):∀(f:Nat) (e:Ex) (i:Nat) (l:List Tm) (j:Nat),e.Wf→e.dp lv≤d→e.All P Q→loopF T p (marks lv) f e.flat i=.ok (l,j)→∃e:Ex,e.Wf∧l=e.flat∧e.dp lv≤d∧e.All P Q
 | 0,_,_,_,_,_,_,_,h=>by cases h
 | f+1,e,i,l,j,hw,hd,ha,h=>by
  rw [loopF] at h
  split at h
  ·injection h with h;injection h with h _
   exact ⟨e,hw,h.symm,hd,ha⟩
  ·rename_i ho
   obtain ⟨r,i2,h1,h2⟩:=R.on_ok h
   obtain ⟨e2,hw2,rfl,hd2,ha2⟩:=hp _ _ _ h1
   obtain ⟨m,hm,he⟩:=k8_ ho
   have hb:=y7_ ⟨lv,by omega⟩ m hm
   rw [he] at hb
   obtain ⟨b1,b2,b3⟩:=hb
   have b1:opLv (opOf T (marks lv) i)=lv:=b1
   refine nr_ hlv hp f (.bin (opOf T (marks lv) i) e e2) i2 l j ⟨b2,b3,hw,hw2⟩ ?_ ⟨ha,ha2⟩ h2
   rw [Ex.dp,b1,if_neg (by omega)];omega
theorem e1_ {u:Nat→R (List Tm)} {d:Nat} (hu:TrA P Q u 6 d):∀k,k≤6→TrA P Q (tower T F u k) (6 - k) d
 | 0,_=>hu
 | k+1,hk=>by
  intro i l j h
  rw [tower] at h
  obtain ⟨l1,i1,h1,h2⟩:=R.on_ok h
  obtain ⟨e,hw,rfl,hd,ha⟩:=e1_ hu k (by omega) _ _ _ h1
  rw [show 6 - (k+1)=5 - k by omega]
  refine nr_ (by omega) ?_ _ e _ _ _ hw (Nat.le_trans (e.dp_mono (by omega)) hd) ha h2
  rw [show 5 - k+1=6 - k by omega]
  exact e1_ hu k (by omega)
theorem q1_ {d:Nat}:∀(ops:List Nat) (e:Ex),(∀o∈ops,15≤o∧o≤17)→e.Wf→e.dp 6≤d→e.All P Q→∃e':Ex,e'.Wf∧e.flat++ops.map (fun o=>(⟨4,o,[]⟩:Tm))=e'.flat∧e'.dp 6≤d∧e'.All P Q
 | [],e,_,hw,hd,ha=>⟨e,hw,by simp,hd,ha⟩
 | o::ops,e,ho,hw,hd,ha=>by
  have h1:=ho o (List.mem_cons_self ..)
  obtain ⟨e',k1,k2,k3,k4⟩:=q1_ ops (.un o e) (fun x hx=>ho x (List.mem_cons_of_mem _ hx)) ⟨h1.1,h1.2,hw⟩ hd ha
  refine ⟨e',k1,?_,k3,k4⟩
  rw [←k2,Ex.flat];simp
theorem kf_ {d:Nat} {g:List Tm→List Tm} {c:List Nat} {i j:Nat} {l:List Tm} (hs:∀p,sub T F d=some p→TrA P Q p 0 (d - 1)) (h:brack T (sub T F d) g c i=.ok (l,j)):∃e:Ex,e.Wf∧l=g e.flat∧e.dp 0+1≤d∧e.All P Q:=by
 cases d with
 | zero=>cases h
 | succ d =>
  unfold brack at h
  obtain ⟨l1,i1,h1,h⟩:=R.on_ok (show (exprD T F d (i+1)).on _=_ from h)
  obtain ⟨_,i2,_,h⟩:=R.on_ok h
  injection h with h;injection h with h _
  obtain ⟨e,k1,k2,k3,k4⟩:=hs _ rfl _ _ _ h1
  exact ⟨e,k1,by rw [←h,k2],by omega,k4⟩
theorem kg_ {d:Nat} (hT:∀i k,T i=some k→(k.kind=1→P k.text)∧(k.kind=3→Q k.value)) (hs:∀p,sub T F d=some p→TrA P Q p 0 (d - 1)):TrA P Q (unary T F (sub T F d)) 6 d:=by
 intro i l j h
 rw [unary_atom] at h
 obtain ⟨ops,i1,h1,h⟩:=R.on_ok h
 have ho:=(gl_ _ _ _ _ h1).1
 obtain ⟨l2,i2,h2,h⟩:=R.on_ok h
 injection h with h;injection h with h _
 have key:∃e:Ex,e.Wf∧l2=e.flat∧e.dp 6≤d∧e.All P Q:=by
  unfold atom at h2
  split at h2
  ·cases h2
  ·rename_i k hk
   split at h2
   ·rename_i h3
    injection h2 with h2;injection h2 with h2 _
    exact ⟨.num k.value,trivial,h2.symm,Nat.zero_le _,(hT _ _ hk).2 h3⟩
   ·split at h2
    ·obtain ⟨e,k1,k2,k3,k4⟩:=kf_ hs h2
     exact ⟨e,k1,k2,by have:=e.dp_six;omega,k4⟩
    ·unfold atomN at h2
     obtain ⟨s,i3,h3,h2⟩:=R.on_ok h2
     obtain ⟨_,_,k',hk',hkt,hk1⟩:=name_ok h3
     have hP:=(hT _ _ hk').1 hk1
     rw [hkt] at hP
     split at h2
     ·obtain ⟨e,k1,k2,k3,k4⟩:=kf_ hs h2
      exact ⟨.idx s e,k1,k2,k3,hP,k4⟩
     ·injection h2 with h2;injection h2 with h2 _
      exact ⟨.nm s,trivial,h2.symm,Nat.zero_le _,hP⟩
 obtain ⟨e,k1,rfl,k3,k4⟩:=key
 obtain ⟨e',q1,q2,q3,q4⟩:=q1_ ops.reverse e (fun o hx=>ho o (List.mem_reverse.1 hx)) k1 k3 k4
 exact ⟨e',q1,by rw [←h,q2],q3,q4⟩
theorem kh_ (hT:∀i k,T i=some k→(k.kind=1→P k.text)∧(k.kind=3→Q k.value)):∀d,TrA P Q (exprD T F d) 0 d
 | 0=>by
  rw [f7_]
  exact e1_ (kg_ hT (fun p h=>by cases h)) 6 (Nat.le_refl _)
 | d+1=>by
  rw [f7_]
  exact e1_ (kg_ hT (fun p h=>by
   injection h with h
   rw [←h];exact kh_ hT d)) 6 (Nat.le_refl _)
theorem wj_ (hT:∀i k,T i=some k→(k.kind=1→P k.text)∧(k.kind=3→Q k.value)) {i j:Nat} {l:List Tm} (h:expr T F i=.ok (l,j)):∃e:Ex,e.Wf∧l=e.flat∧e.dp 0≤12∧e.All P Q:=kh_ hT 12 _ _ _ h
end
structure Sx where
 kind:Nat
 name:List Nat
 targets:List (List Nat)
 es:List Ex
def Sx.st (x:Sx):St:=⟨x.kind,x.name,x.targets,x.es.map Ex.flat⟩
def kw2 (s:String):K:=⟨2,tx s,0⟩
def nm1 (s:List Nat):K:=⟨1,s,0⟩
section
variable (dg:Nat→List Nat)
def comma {α:Type} (f:α→List K):List α→List K
 | []=>[]
 | [x]=>f x
 | x::y::l=>f x++mk4 [44]::comma f (y::l)
def exsTk (l:List Ex):List K:=comma (fun e=>e.tk dg 0) l
def tgTk (l:List (List Nat)):List K:=comma (fun s=>[nm1 s]) l
def Sx.tk (x:Sx):List K :=
 match x.kind,x.es with
 | 1,[e]=>tgTk x.targets++mk4 [61]::(e.tk dg 0++[mk4 [59]])
 | 2,[a,b]=>nm1 x.name::mk4 [91]::(a.tk dg 0++mk4 [93]::mk4 [61]::(b.tk dg 0++[mk4 [59]]))
 | 3,[e] => kw2 "send" :: nm1 x.name :: (e.tk dg 0 ++ [mk4 [59]])
 | 4,es=>(if x.targets=[] then [] else tgTk x.targets++[mk4 [61]])++nm1 x.name::mk4 [40]::(exsTk dg es++[mk4 [41],mk4 [59]])
 | 5,[e] => kw2 "if" :: (e.tk dg 0 ++ [mk4 [123]])
 | 6,_ => [mk4 [125],kw2 "else",mk4 [123]]
 | 7,[e] => kw2 "while" :: (e.tk dg 0 ++ [mk4 [123]])
 | 8,_=>[mk4 [125]]
 | 9,es => kw2 "return" :: (exsTk dg es ++ [mk4 [59]])
 | _,_=>[]
def sxsTk (l:List Sx):List K:=l.flatMap (Sx.tk dg)
end
section
variable {T:Nat→Option K} {F:Nat} {dg:Nat→List Nat}
theorem cv_ {α:Type} (f:α→List K) (x:α) (l:List α):comma f (x::l)=f x++l.flatMap fun y=>mk4 [44]::f y:=by
 induction l generalizing x with
 | nil=>simp [comma]
 | cons y l ih=>rw [comma,ih y];simp
theorem Ex.tk_pos (e:Ex):∀lv,0<(e.tk dg lv).length:=by
 cases e with
 | num v=>intro lv;simp [Ex.tk]
 | nm s=>intro lv;simp [Ex.tk]
 | idx s e=>intro lv;simp [Ex.tk]
 | un o e=>intro lv;simp [Ex.tk]
 | bin o l r =>
  intro lv
  rw [Ex.tk];unfold br
  split <;> simp <;> omega
def HdE (k:K):Prop:=k.kind=1∨k.kind=3∨∃s,k=mk4 s∧s∈[[40],[45],[33],[126]]
theorem un_mem:∀o:Fin 18,15≤o.val→unMark o.val∈[[40],[45],[33],[126]]:=by decide
theorem Ex.hd:∀(e:Ex),e.Wf→∀lv,∃k r,e.tk dg lv=k::r∧HdE k
 | .num v,_,_=>⟨_,_,rfl,.inr (.inl rfl)⟩
 | .nm s,_,_=>⟨_,_,rfl,.inl rfl⟩
 | .idx s e,_,_=>⟨_,_,rfl,.inl rfl⟩
 | .un o e,h,_=>⟨_,_,rfl,.inr (.inr ⟨_,rfl,un_mem ⟨o,by have:=h.2.1;omega⟩ h.1⟩)⟩
 | .bin o l r,h,lv=>by
  rw [Ex.tk];unfold br
  split
  ·exact ⟨_,_,rfl,.inr (.inr ⟨_,rfl,by simp⟩)⟩
  ·obtain ⟨k,t,h1,h2⟩:=Ex.hd l h.2.2.1 (opLv o)
   exact ⟨k,t++mk4 (opMark o)::r.tk dg (opLv o+1),by rw [h1];rfl,h2⟩
theorem hd_not {k:K} (h:HdE k) {i:Nat} (hT:T i=some k) (s:List Nat) (hs:s ∉ ([[40],[45],[33],[126]]:List (List Nat))):is T i s=false:=by
 rcases h with h|h|⟨t,rfl,h⟩
 ·exact fj_ hT (by omega) (by omega) s
 ·exact fj_ hT (by omega) (by omega) s
 ·rw [co_ hT,beq_eq_false_iff_ne]
  rintro rfl
  exact hs h
theorem q2_ {fin:List Nat} (hfin:fin=[41]∨fin=[59]):∀(f:Nat) (es:List Ex) (e:Ex) (acc:List (List Tm)) (i:Nat),(∀x∈e::es,x.Wf∧x.dp 0≤12)→At T i (exsTk dg (e::es)++[mk4 fin])→(exsTk dg (e::es)).length+1<F→es.length<f →
 listF T (expr T F) fin f acc i=.ok (acc++(e::es).map Ex.flat,i+(exsTk dg (e::es)).length+1)
 | 0,_,_,_,_,_,_,_,h=>absurd h (by omega)
 | f+1,es,e,acc,i,hw,hA,hF,hf=>by
  obtain ⟨w1,w2⟩:=hw e (List.mem_cons_self ..)
  have hne:([44]:List Nat)≠fin:=by rcases hfin with rfl|rfl <;> decide
  have hstop:∀{j:Nat},T j=some (mk4 fin)→Stop T j 0:=fun h=>by
   rcases hfin with rfl|rfl
   ·exact wh_ h 0
   ·exact dd_ h (by decide) (by decide) 0
  cases es with
  | nil =>
   have ht:exsTk dg [e]=e.tk dg 0:=rfl
   rw [ht] at hA hF ⊢
   have hx:=hA.right.head
   rw [listF,d3_ w1 w2 hA.left (hstop hx) (by omega)]
   show (if is T (i+(e.tk dg 0).length) fin=true then _ else _)=_
   rw [if_pos (by rw [co_ hx];simp)]
   rfl
  | cons e2 es =>
   have ht:exsTk dg (e::e2::es)=e.tk dg 0++mk4 [44]::exsTk dg (e2::es):=rfl
   rw [ht] at hA hF ⊢
   rw [nlb] at hA
   have hx:=hA.right.head
   have hs:Stop T (i+(e.tk dg 0).length) 0:=dd_ hx (by decide) (by decide) 0
   have hl:(e.tk dg 0++mk4 [44]::exsTk dg (e2::es)).length=(e.tk dg 0).length+1+(exsTk dg (e2::es)).length:=by simp;omega
   rw [hl] at hF ⊢
   rw [listF,d3_ w1 w2 hA.left hs (by omega)]
   show (if is T (i+(e.tk dg 0).length) fin=true then _ else if is T (i+(e.tk dg 0).length) [44]=true then _ else _)=_
   rw [if_neg (by rw [co_ hx];simpa using hne),if_pos (by rw [co_ hx];rfl)]
   rw [q2_ hfin f es e2 (acc++[e.flat]) _ (fun x hx=>hw x (List.mem_cons_of_mem _ hx)) hA.right.tail (by omega) (by simpa using hf)]
   show (Except.ok _:R (List (List Tm)))=Except.ok _
   rw [nlb,show i+(e.tk dg 0).length+1+(exsTk dg (e2::es)).length+1=i+((e.tk dg 0).length+1+(exsTk dg (e2::es)).length)+1 by omega]
   rfl
theorem ns_:∀(es:List Ex),es.length≤(exsTk dg es).length
 | []=>by simp
 | [e]=>by have:=e.tk_pos (dg:=dg) 0;show 1≤(e.tk dg 0).length;omega
 | e::e2::es=>by
  have ih:=ns_ (e2::es)
  show es.length+1+1≤(e.tk dg 0++mk4 [44]::exsTk dg (e2::es)).length
  simp only [nla,nlk] at ih ⊢
  omega
theorem wk_ {fin:List Nat} (hfin:fin=[41]∨fin=[59]) (es:List Ex) {i:Nat} (hw:∀x∈es,x.Wf∧x.dp 0≤12) (hA:At T i (exsTk dg es++[mk4 fin])) (hF:(exsTk dg es).length+1<F):list T F fin i=.ok (es.map Ex.flat,i+(exsTk dg es).length+1):=by
 unfold list
 cases es with
 | nil =>
  have hx:T i=some (mk4 fin):=hA.head
  rw [if_pos (by rw [co_ hx];simp)]
  rfl
 | cons e es =>
  obtain ⟨k,r,h1,h2⟩:=Ex.hd (dg:=dg) e (hw e (List.mem_cons_self ..)).1 0
  have hk:T i=some k:=by
   have:At T i (e.tk dg 0):=by
    have:=hA.left
    unfold exsTk at this
    rw [cv_] at this
    exact this.left
   rw [h1] at this
   exact this.head
  rw [if_neg (by rw [hd_not h2 hk fin (by rcases hfin with rfl | rfl <;> decide)];simp)]
  have:=q2_ hfin F es e [] i hw hA hF (by have:=ns_ (dg:=dg) (e::es);simp at this;omega)
  rw [this];rfl
theorem g2_:∀(f:Nat) (l:List (List Nat)) (s:List Nat) (acc:List (List Nat)) (i:Nat),At T i (nm1 s::(l.flatMap fun t=>[mk4 [44],nm1 t])++[mk4 [61]])→l.length<f →
 targetsF T f acc (i+1)=.ok (acc++l,i+1+(l.flatMap fun t=>[mk4 [44],nm1 t]).length)
 | 0,_,_,_,_,_,h=>absurd h (by omega)
 | f+1,[],s,acc,i,hA,_=>by
  have hx:T (i+1)=some (mk4 [61]):=hA.tail.head
  rw [targetsF,if_neg (by rw [co_ hx];decide)]
  simp
 | f+1,t::l,s,acc,i,hA,hf=>by
  have h1:=hA.tail
  rw [List.flatMap_cons] at h1 ⊢
  have hx:T (i+1)=some (mk4 [44]):=h1.head
  have h2:At T (i+1+1) (nm1 t::(l.flatMap fun t=>[mk4 [44],nm1 t])++[mk4 [61]]):=h1.tail
  have hn:name T (i+1+1)=.ok (t,i+1+1+1):=by
   unfold name;rw [h2.head];exact if_pos rfl
  rw [targetsF,if_pos (by rw [co_ hx];rfl),hn]
  show targetsF T f (acc++[t]) (i+1+1+1)=_
  rw [g2_ f l t (acc++[t]) (i+1+1) h2 (by simpa using hf)]
  show (Except.ok _:R (List (List Nat)))=Except.ok _
  rw [nlb]
  simp only [nla,nlk,nlg]
  congr 2
  omega
end
inductive Sh:Sx→Prop where
 | assign (s:List Nat) (e:Ex):Sh ⟨1,[],[s],[e]⟩
 | store (s:List Nat) (a b:Ex):Sh ⟨2,s,[],[a,b]⟩
 | send (c:List Nat) (e:Ex):Sh ⟨3,c,[],[e]⟩
 | call (ts:List (List Nat)) (s:List Nat) (es:List Ex):Sh ⟨4,s,ts,es⟩
inductive Ln:Sx→Prop where
 | sh {x:Sx} (h:Sh x):Ln x
 | iff (e:Ex):Ln ⟨5,[],[],[e]⟩
 | els:Ln ⟨6,[],[],[]⟩
 | whi (e:Ex):Ln ⟨7,[],[],[e]⟩
 | fin:Ln ⟨8,[],[],[]⟩
 | ret (es:List Ex):Ln ⟨9,[],[],es⟩
def Sx.Al (P:List Nat→Prop) (Q:Nat→Prop) (x:Sx):Prop:=(Ln x∧((x.kind=2∨x.kind=3∨x.kind=4)→P x.name))∧(∀t∈x.targets,P t)∧∀e∈x.es,e.Wf∧e.dp 0≤12∧e.All P Q
section
variable {T:Nat→Option K} {F:Nat} {dg:Nat→List Nat} {P:List Nat→Prop} {Q:Nat→Prop}
def Nc (ts:List K):Prop:=∀(k1 k2:K) (r:List K),ts=k1::k2::r→k1.kind=1→k2≠mk4 [40]
theorem op_no40:∀o:Fin 15,opMark o.val≠[40]:=by decide
theorem wl_ {s t:List Nat} (h:s≠t):mk4 s≠mk4 t:=fun e=>h (by injection e)
theorem wm_:∀(e:Ex),e.Wf→∀(lv:Nat) (c:K) (r:List K),c≠mk4 [40]→Nc (e.tk dg lv++c::r)
 | .num v,_,_,c,r,_=>fun k1 k2 r' h h1=>by
  have h:(⟨3,dg v,v⟩:K)::c::r=k1::k2::r':=h
  injection h with h _
  rw [←h] at h1
  cases h1
 | .nm s,_,_,c,r,hc=>fun k1 k2 r' h h1=>by
  have h:(⟨1,s,0⟩:K)::c::r=k1::k2::r':=h
  injection h with _ h;injection h with h _
  rw [←h];exact hc
 | .idx s e,_,_,c,r,_=>fun k1 k2 r' h h1=>by
  have h:(⟨1,s,0⟩:K)::mk4 [91]::((e.tk dg 0++[mk4 [93]])++c::r)=k1::k2::r':=h
  injection h with _ h;injection h with h _
  rw [←h];exact wl_ (by decide)
 | .un o e,_,_,c,r,_=>fun k1 k2 r' h h1=>by
  have h:mk4 (unMark o)::(e.tk dg 6++c::r)=k1::k2::r':=h
  injection h with h _
  rw [←h] at h1
  cases h1
 | .bin o l rr,hw,lv,c,r,_=>fun k1 k2 r' h h1=>by
  rw [Ex.tk] at h
  unfold br at h
  split at h
  ·have h:mk4 [40]::((l.tk dg (opLv o)++mk4 (opMark o)::rr.tk dg (opLv o+1)++[mk4 [41]])++c::r)=k1::k2::r':=h
   injection h with h _
   rw [←h] at h1
   cases h1
  ·rw [nlb] at h
   exact wm_ l hw.2.2.1 (opLv o) (mk4 (opMark o)) (rr.tk dg (opLv o+1)++c::r) (wl_ (op_no40 ⟨o,by have:=hw.2.1;omega⟩)) k1 k2 r' h h1
def Fit4 (ts:List K):Prop:=∀k∈ts,k.kind≠2∧(k.kind=4→k=mk4 k.text)
theorem fk_ (s:List Nat):(mk4 s).kind≠2∧((mk4 s).kind=4→mk4 s=mk4 (mk4 s).text):=⟨by show (4:Nat)≠2;decide,fun _=>rfl⟩
theorem h3_ {a b:List K} (h:Fit4 a) (h':Fit4 b):Fit4 (a++b):=fun k hk=>by
 rcases List.mem_append.1 hk with e|e
 ·exact h k e
 ·exact h' k e
theorem b5_ {k:K} {b:List K} (h:k.kind≠2∧(k.kind=4→k=mk4 k.text)) (h':Fit4 b):Fit4 (k::b):=fun x hx=>by
 rcases List.mem_cons.1 hx with rfl|e
 ·exact h
 ·exact h' x e
theorem f8_:Fit4 []:=fun _ h=>by cases h
theorem jf_:∀(e:Ex) (lv:Nat),Fit4 (e.tk dg lv)
 | .num v,_=>b5_ ⟨by show (3:Nat)≠2;decide,fun h=>by cases h⟩ f8_
 | .nm s,_=>b5_ ⟨by show (1:Nat)≠2;decide,fun h=>by cases h⟩ f8_
 | .idx s e,_=>b5_ ⟨by show (1:Nat)≠2;decide,fun h=>by cases h⟩ (b5_ (fk_ _) (h3_ (jf_ e 0) (b5_ (fk_ _) f8_)))
 | .un o e,_=>b5_ (fk_ _) (jf_ e 6)
 | .bin o l r,lv=>by
  rw [Ex.tk];unfold br
  have:=h3_ (jf_ l (opLv o)) (b5_ (fk_ (opMark o)) (jf_ r (opLv o+1)))
  split
  ·exact b5_ (fk_ _) (h3_ this (b5_ (fk_ _) f8_))
  ·exact this
theorem de_ {i:Nat} {s:List Nat} (h:T i=some (nm1 s)):name T i=.ok (s,i+1):=by
 unfold name;rw [h];exact if_pos rfl
theorem g3_ {i:Nat} {s:List Nat} (h:T i=some (nm1 s)) (t:List Nat):is T i t=false:=fj_ h (by show (1:Nat)≠2;decide) (by show (1:Nat)≠4;decide) t
theorem b8_ {i:Nat} {s:String} (h:T i=some (kw2 s)) (t:List Nat):is T i t=(tx s == t):=by unfold is;rw [h];rfl
theorem nt_ (s:List Nat) (l:List (List Nat)):tgTk (s::l)=nm1 s::l.flatMap fun t=>[mk4 [44],nm1 t]:=by
 unfold tgTk;rw [cv_];rfl
theorem tg_len (l:List (List Nat)):l.length≤(l.flatMap fun t=>[mk4 [44],nm1 t]).length:=by
 induction l with
 | nil=>simp
 | cons t l ih=>rw [List.flatMap_cons];simp at ih ⊢;omega
theorem wn_ {ts:List (List Nat)} {s:List Nat} {es:List Ex} {i:Nat} (hw:∀x∈es,x.Wf∧x.dp 0≤12) (hA:At T i (mk4 [40]::(exsTk dg es++[mk4 [41],mk4 [59]]))) (hF:(exsTk dg es).length+1<F):call T F ts s i=.ok ([⟨4,s,ts,es.map Ex.flat⟩],i+(exsTk dg es).length+3):=by
 unfold call
 rw [bn_ hA.head]
 show (list T F [41] (i+1)).on _=_
 have h1:At T (i+1) (exsTk dg es++[mk4 [41]]++[mk4 [59]]):=by
  have:=hA.tail;rwa [show exsTk dg es++[mk4 [41],mk4 [59]]=exsTk dg es++[mk4 [41]]++[mk4 [59]] by simp] at this
 rw [wk_ (.inl rfl) es hw h1.left hF]
 have h2:=h1.right.head
 simp only [nla,List.length_singleton] at h2
 show (want T (i+1+(exsTk dg es).length+1) [59]).on _=_
 rw [bn_ (by rw [show i+1+(exsTk dg es).length+1=i+1+((exsTk dg es).length+1) by omega];exact h2)]
 show (Except.ok _:R (List St))=Except.ok _
 rw [show i+1+(exsTk dg es).length+1+1=i+(exsTk dg es).length+3 by omega]
theorem nu_ {x:Sx} (hs:Sh x) (hw:∀e∈x.es,e.Wf∧e.dp 0≤12) {i:Nat} (hA:At T i (x.tk dg)) (hF:(x.tk dg).length<F) (s:Option (Nat→R (List St))):stmtOf T F s i=.ok ([x.st],i+(x.tk dg).length):=by
 cases hs with
 | send c e =>
  obtain ⟨w1,w2⟩:=hw e (by simp)
  have ht : (Sx.tk dg ⟨3,c,[],[e]⟩) = kw2 "send" :: nm1 c :: (e.tk dg 0 ++ [mk4 [59]]) := rfl
  rw [ht] at hA hF ⊢
  have h0:=hA.head
  have h3:=hA.tail.tail
  have hx:=h3.right.head
  unfold stmtOf
  rw [if_neg (by rw [b8_ h0];decide),if_neg (by rw [b8_ h0];decide),if_pos (by rw [b8_ h0];decide),de_ hA.tail.head]
  show (expr T F (i+1+1)).on _=_
  rw [d3_ w1 w2 h3.left (dd_ hx (by decide) (by decide) 0) (by simp at hF;omega)]
  show (want T (i+1+1+(e.tk dg 0).length) [59]).on _=_
  rw [bn_ hx]
  show (Except.ok _:R (List St))=Except.ok _
  simp only [nlk,nla,nlg]
  rw [show i+1+1+(e.tk dg 0).length+1=i+((e.tk dg 0).length+(0+1)+1+1) by omega]
  rfl
 | store n a b =>
  obtain ⟨w1,w2⟩:=hw a (by simp)
  obtain ⟨w3,w4⟩:=hw b (by simp)
  have ht:(Sx.tk dg ⟨2,n,[],[a,b]⟩)=nm1 n::mk4 [91]::(a.tk dg 0++mk4 [93]::mk4 [61]::(b.tk dg 0++[mk4 [59]])):=rfl
  rw [ht] at hA hF ⊢
  have h0:=hA.head
  have h1:=hA.tail.head
  have h2:=hA.tail.tail
  have h3:=h2.right.head
  have h4:=h2.right.tail.head
  have h5:=h2.right.tail.tail
  have h6:=h5.right.head
  have hl:(nm1 n::mk4 [91]::(a.tk dg 0++mk4 [93]::mk4 [61]::(b.tk dg 0++[mk4 [59]]))).length=(a.tk dg 0).length+(b.tk dg 0).length+5:=by simp;omega
  rw [hl] at hF ⊢
  unfold stmtOf
  rw [if_neg (by rw [g3_ h0];simp),if_neg (by rw [g3_ h0];simp),if_neg (by rw [g3_ h0];simp)]
  unfold plain
  rw [de_ h0]
  show (if is T (i+1) [91]=true then _ else _)=_
  rw [if_pos (by rw [co_ h1];rfl),d3_ w1 w2 h2.left (wi_ h3 0) (by omega)]
  show (want T (i+1+1+(a.tk dg 0).length) [93]).on _=_
  rw [bn_ h3]
  show (want T (i+1+1+(a.tk dg 0).length+1) [61]).on _=_
  rw [bn_ h4]
  show (expr T F (i+1+1+(a.tk dg 0).length+1+1)).on _=_
  rw [d3_ w3 w4 h5.left (dd_ h6 (by decide) (by decide) 0) (by omega)]
  show (want T (i+1+1+(a.tk dg 0).length+1+1+(b.tk dg 0).length) [59]).on _=_
  rw [bn_ h6]
  show (Except.ok _:R (List St))=Except.ok _
  rw [show i+1+1+(a.tk dg 0).length+1+1+(b.tk dg 0).length+1=i+((a.tk dg 0).length+(b.tk dg 0).length+5) by omega]
  rfl
 | assign n e =>
  obtain ⟨w1,w2⟩:=hw e (by simp)
  have ht:(Sx.tk dg ⟨1,[],[n],[e]⟩)=nm1 n::mk4 [61]::(e.tk dg 0++[mk4 [59]]):=rfl
  rw [ht] at hA hF ⊢
  have h0:=hA.head
  have h1:=hA.tail.head
  have h2:=hA.tail.tail
  have h3:=h2.right.head
  have hl:(nm1 n::mk4 [61]::(e.tk dg 0++[mk4 [59]])).length=(e.tk dg 0).length+3:=by simp
  rw [hl] at hF ⊢
  unfold stmtOf
  rw [if_neg (by rw [g3_ h0];simp),if_neg (by rw [g3_ h0];simp),if_neg (by rw [g3_ h0];simp)]
  unfold plain
  rw [de_ h0]
  show (if is T (i+1) [91]=true then _ else if is T (i+1) [40]=true then _ else (targetsF T F [n] (i+1)).on _)=_
  rw [if_neg (by rw [co_ h1];decide),if_neg (by rw [co_ h1];decide)]
  have htg:=g2_ (T:=T) F [] n [n] i (by exact (show At T i ([nm1 n,mk4 [61]]++(e.tk dg 0++[mk4 [59]])) from hA).left) (by show 0<F;omega)
  rw [htg]
  show (want T (i+1) [61]).on _=_
  rw [bn_ h1]
  have hnc:=wm_ e w1 (dg:=dg) 0 (mk4 [59]) [] (wl_ (by decide))
  have hcond:[n].length=1∧¬(named T (i+1+1)=true∧is T (i+1+1+1) [40]=true):=by
   refine ⟨rfl,fun ⟨c1,c2⟩=>?_⟩
   have hpos:=e.tk_pos (dg:=dg) 0
   obtain ⟨k1,r1,he1⟩:∃k1 r1,e.tk dg 0++[mk4 [59]]=k1::r1:=by
    cases hh:e.tk dg 0 with
    | nil=>rw [hh] at hpos;simp at hpos
    | cons a b=>exact ⟨a,b++[mk4 [59]],rfl⟩
   obtain ⟨k2,r2,he2⟩:∃k2 r2,r1=k2::r2:=by
    cases r1 with
    | nil=>have:=congrArg List.length he1;rw [nla] at this;simp only [nlk,nlg] at this;omega
    | cons a b=>exact ⟨a,b,rfl⟩
   rw [he1,he2] at h2
   have q1:=h2.head
   have q2:=h2.tail.head
   have hk1:k1.kind=1:=by
    unfold named at c1;rw [q1] at c1;simpa using c1
   refine hnc k1 k2 r2 (by rw [he1,he2]) hk1 ?_
   have hk2mem:k2∈e.tk dg 0++[mk4 [59]]:=by rw [he1,he2];simp
   unfold is at c2
   rw [q2] at c2
   have hc2:=c2
   simp only [Bool.and_eq_true,Bool.or_eq_true,beq_iff_eq] at hc2
   obtain ⟨hc3,hc4⟩:=hc2
   have hft:=h3_ (jf_ (dg:=dg) e 0) (b5_ (fk_ [59]) f8_) k2 hk2mem
   rw [hft.2 (hc3.resolve_left hft.1),hc4]
  show (if [n].length=1∧¬(named T (i+1+1)=true∧is T (i+1+1+1) [40]=true) then _ else _)=_
  rw [if_pos hcond,d3_ w1 w2 h2.left (dd_ h3 (by decide) (by decide) 0) (by omega)]
  show (want T (i+1+1+(e.tk dg 0).length) [59]).on _=_
  rw [bn_ h3]
  show (Except.ok _:R (List St))=Except.ok _
  rw [show i+1+1+(e.tk dg 0).length+1=i+((e.tk dg 0).length+3) by omega]
  rfl
 | call ts n es =>
  cases ts with
  | nil =>
   have ht:(Sx.tk dg ⟨4,n,[],es⟩)=nm1 n::mk4 [40]::(exsTk dg es++[mk4 [41],mk4 [59]]):=rfl
   rw [ht] at hA hF ⊢
   have h0:=hA.head
   have h1:=hA.tail.head
   unfold stmtOf
   rw [if_neg (by rw [g3_ h0];simp),if_neg (by rw [g3_ h0];simp),if_neg (by rw [g3_ h0];simp)]
   unfold plain
   rw [de_ h0]
   show (if is T (i+1) [91]=true then _ else if is T (i+1) [40]=true then call T F [] n (i+1) else _)=_
   rw [if_neg (by rw [co_ h1];decide),if_pos (by rw [co_ h1];rfl),wn_ hw hA.tail (by show (exsTk dg es).length+1<F;simp at hF;omega)]
   show (Except.ok _:R (List St))=Except.ok _
   simp only [nlk,nla,nlg]
   rw [show i+1+(exsTk dg es).length+3=i+((exsTk dg es).length+(0+1+1)+1+1) by omega]
   rfl
  | cons t ts =>
   have ht:(Sx.tk dg ⟨4,n,t::ts,es⟩)=(tgTk (t::ts)++[mk4 [61]])++nm1 n::mk4 [40]::(exsTk dg es++[mk4 [41],mk4 [59]]):=rfl
   rw [ht] at hA hF ⊢
   rw [nt_] at hA hF ⊢
   obtain ⟨L,hL⟩:∃L,(ts.flatMap fun t=>[mk4 [44],nm1 t]).length=L:=⟨_,rfl⟩
   have htl:=tg_len ts
   rw [hL] at htl
   have hlen:((nm1 t::(ts.flatMap fun t=>[mk4 [44],nm1 t]))++[mk4 [61]]).length=L+2:=by simp [hL]
   have hl:(((nm1 t::(ts.flatMap fun t=>[mk4 [44],nm1 t]))++[mk4 [61]])++nm1 n::mk4 [40]::(exsTk dg es++[mk4 [41],mk4 [59]])).length=L+(exsTk dg es).length+6:=by rw [nla,hlen];simp;omega
   rw [hl] at hF ⊢
   have h0:T i=some (nm1 t):=hA.left.head
   have hr:=hA.right
   rw [hlen] at hr
   have hn:=hr.head
   have hp:=hr.tail.head
   have heq:T (i+1+L)=some (mk4 [61]):=by
    have:=hA.left.right.head
    simp only [nlk,hL] at this
    rwa [show i+(L+1)=i+1+L by omega] at this
   have h1:is T (i+1) [91]=false∧is T (i+1) [40]=false:=by
    cases ts with
    | nil =>
     have:L=0:=by rw [←hL];rfl
     rw [this,Nat.add_zero] at heq
     exact ⟨by rw [co_ heq];decide,by rw [co_ heq];decide⟩
    | cons u us =>
     have:T (i+1)=some (mk4 [44]):=hA.left.left.tail.head
     exact ⟨by rw [co_ this];decide,by rw [co_ this];decide⟩
   unfold stmtOf
   rw [if_neg (by rw [g3_ h0];simp),if_neg (by rw [g3_ h0];simp),if_neg (by rw [g3_ h0];simp)]
   unfold plain
   rw [de_ h0]
   show (if is T (i+1) [91]=true then _ else if is T (i+1) [40]=true then _ else (targetsF T F [t] (i+1)).on _)=_
   rw [if_neg (by rw [h1.1];simp),if_neg (by rw [h1.2];simp),g2_ (T:=T) F ts t [t] i hA.left (by omega)]
   show (want T (i+1+(ts.flatMap fun t=>[mk4 [44],nm1 t]).length) [61]).on _=_
   rw [hL,bn_ heq]
   have e1:i+1+L+1=i+(L+2):=by omega
   rw [e1]
   show (if ([t]++ts).length=1∧¬(named T (i+(L+2))=true∧is T (i+(L+2)+1) [40]=true) then _ else (name T (i+(L+2))).on _)=_
   rw [if_neg (fun h=>h.2 ⟨by unfold named;rw [hn];rfl,by rw [co_ hp];rfl⟩),de_ hn]
   show call T F ([t]++ts) n (i+(L+2)+1)=_
   rw [wn_ hw hr.tail (by show (exsTk dg es).length+1<F;omega)]
   show (Except.ok _:R (List St))=Except.ok _
   rw [show i+(L+2)+1+(exsTk dg es).length+3=i+(L+(exsTk dg es).length+6) by omega]
   rfl
end
def HdS (k : K) : Prop := k.kind = 1 ∨ k = kw2 "send" ∨ k = kw2 "if" ∨ k = kw2 "while"
section
variable {T:Nat→Option K} {F:Nat} {dg:Nat→List Nat} {P:List Nat→Prop} {Q:Nat→Prop}
theorem wo_ {k : K} (h : HdS k) {i : Nat} (hT : T i = some k) {t : List Nat} (ht : t = [125] ∨ t = tx "return" ∨ t = tx "else") : is T i t = false := by
 rcases h with h|rfl|rfl|rfl
 ·exact fj_ hT (by omega) (by omega) t
 ·rw [b8_ hT];rcases ht with rfl | rfl | rfl <;> decide
 ·rw [b8_ hT];rcases ht with rfl | rfl | rfl <;> decide
 ·rw [b8_ hT];rcases ht with rfl | rfl | rfl <;> decide
structure Ch (dg:Nat→List Nat) (P:List Nat→Prop) (Q:Nat→Prop) (d:Nat) (xs:List Sx):Prop where
 rd : ∀ (T : Nat → Option K) (F i : Nat),At T i (sxsTk dg xs) → (sxsTk dg xs).length < F → is T (i + (sxsTk dg xs).length) (tx "else") = false → stmtD T F d i = .ok (xs.map Sx.st,i + (sxsTk dg xs).length)
 hd:∃k r,sxsTk dg xs=k::r∧HdS k
 al:∀x∈xs,x.Al P Q
theorem sxsTk_app (a b:List Sx):sxsTk dg (a++b)=sxsTk dg a++sxsTk dg b:=by unfold sxsTk;rw [List.flatMap_append]
theorem sxsTk_cons (x:Sx) (b:List Sx):sxsTk dg (x::b)=x.tk dg++sxsTk dg b:=by unfold sxsTk;rw [List.flatMap_cons]
theorem l4_ {d : Nat} {fin : K} (hfin : fin = mk4 [125] ∨ fin = kw2 "return") : ∀ (f : Nat) (xss : List (List Sx)) (acc : List St) (i : Nat),(∀ xs ∈ xss,Ch dg P Q d xs) → At T i (sxsTk dg xss.flatten ++ [fin]) → (sxsTk dg xss.flatten).length < F → xss.length < f →
 stmtsF T (stmtD T F d) fin.text f acc i=.ok (acc++xss.flatten.map Sx.st,i+(sxsTk dg xss.flatten).length+1)
 | 0,_,_,_,_,_,_,h=>absurd h (by omega)
 | f+1,[],acc,i,_,hA,_,_=>by
  have hx:T i=some fin:=hA.head
  have:is T i fin.text=true:=by rcases hfin with rfl|rfl <;> (unfold is;rw [hx];decide)
  rw [stmtsF,if_pos this]
  simp [sxsTk]
 | f+1,xs::xss,acc,i,hg,hA,hF,hf=>by
  have hc:=hg xs (List.mem_cons_self ..)
  rw [List.flatten_cons,sxsTk_app] at hA hF ⊢
  rw [nlb] at hA
  obtain ⟨k,r,hk,hk2⟩:=hc.hd
  have hT:T i=some k:=by have:=hA.left;rw [hk] at this;exact this.head
  have hnf:is T i fin.text=false:=wo_ hk2 hT (by rcases hfin with rfl|rfl;exact .inl rfl;exact .inr (.inl rfl))
  have hr:=hA.right
  have hne : is T (i + (sxsTk dg xs).length) (tx "else") = false := by
   cases xss with
   | nil =>
    have hx:T (i+(sxsTk dg xs).length)=some fin:=hr.head
    rcases hfin with rfl|rfl <;> (unfold is;rw [hx];decide)
   | cons ys yss =>
    obtain ⟨k2,r2,h1,h2⟩:=(hg ys (by simp)).hd
    rw [List.flatten_cons,sxsTk_app,nlb] at hr
    have hx:T (i+(sxsTk dg xs).length)=some k2:=by have:=hr.left;rw [h1] at this;exact this.head
    exact wo_ h2 hx (.inr (.inr rfl))
  rw [nla] at hF ⊢
  rw [stmtsF,if_neg (by rw [hnf];simp),hc.rd T F i hA.left (by omega) hne]
  show stmtsF T (stmtD T F d) fin.text f (acc++xs.map Sx.st) (i+(sxsTk dg xs).length)=_
  rw [l4_ hfin f xss _ _ (fun ys h=>hg ys (List.mem_cons_of_mem _ h)) hr (by omega) (by simpa using hf)]
  show (Except.ok _:R (List St))=Except.ok _
  rw [List.map_append,nlb,show i+(sxsTk dg xs).length+(sxsTk dg xss.flatten).length+1=i+((sxsTk dg xs).length+(sxsTk dg xss.flatten).length)+1 by omega]
theorem g4_ {d:Nat}:∀(xss:List (List Sx)),(∀xs∈xss,Ch dg P Q d xs)→xss.length≤(sxsTk dg xss.flatten).length
 | [],_=>by simp
 | xs::xss,h=>by
  obtain ⟨k,r,hk,_⟩:=(h xs (List.mem_cons_self ..)).hd
  have ih:=g4_ xss (fun ys hy=>h ys (List.mem_cons_of_mem _ hy))
  rw [List.flatten_cons,sxsTk_app,hk,nla,nlk,nlk]
  omega
theorem h4_ {d:Nat} {xss:List (List Sx)} (hg:∀xs∈xss,Ch dg P Q d xs) {i:Nat} (hA:At T i (mk4 [123]::(sxsTk dg xss.flatten++[mk4 [125]]))) (hF:(sxsTk dg xss.flatten).length<F):block T F (some (stmtD T F d)) i=.ok (xss.flatten.map Sx.st,i+(sxsTk dg xss.flatten).length+2):=by
 show (want T i [123]).on _=_
 rw [bn_ hA.head]
 have:=l4_ (T:=T) (F:=F) (fin:=mk4 [125]) (.inl rfl) F xss [] (i+1) hg hA.tail hF (by have:=g4_ xss hg;omega)
 show stmtsF T (stmtD T F d) [125] F [] (i+1)=_
 rw [show ([125]:List Nat)=(mk4 [125]).text from rfl,this]
 show (Except.ok _:R (List St))=Except.ok _
 rw [show i+1+(sxsTk dg xss.flatten).length+1=i+(sxsTk dg xss.flatten).length+2 by omega]
 rfl
def TkOk (P:List Nat→Prop) (Q:Nat→Prop) (T:Nat→Option K):Prop:=∀i k,T i=some k→(k.kind=1→P k.text)∧(k.kind=3→Q k.value)
theorem hk_ (hT:TkOk P Q T) {i j:Nat} {s:List Nat} (h:name T i=.ok (s,j)):P s:=by
 obtain ⟨_,_,k,h1,h2,h3⟩:=name_ok h
 rw [←h2];exact (hT _ _ h1).1 h3
theorem oz_ (hT:TkOk P Q T) {i j:Nat} {l:List Tm} (h:expr T F i=.ok (l,j)):∃e:Ex,l=e.flat∧(e.Wf∧e.dp 0≤12∧e.All P Q):=by
 obtain ⟨e,h1,h2,h3,h4⟩:=wj_ hT h
 exact ⟨e,h2,h1,h3,h4⟩
theorem q3_ (hT:TkOk P Q T) (fin:List Nat):∀(f:Nat) (es:List Ex) (i:Nat) (l:List (List Tm)) (j:Nat),(∀e∈es,e.Wf∧e.dp 0≤12∧e.All P Q)→listF T (expr T F) fin f (es.map Ex.flat) i=.ok (l,j)→∃es:List Ex,l=es.map Ex.flat∧∀e∈es,e.Wf∧e.dp 0≤12∧e.All P Q
 | 0,_,_,_,_,_,h=>by cases h
 | f+1,es,i,l,j,hes,h=>by
  rw [listF] at h
  obtain ⟨x,i2,h1,h2⟩:=R.on_ok h
  obtain ⟨e,rfl,he⟩:=oz_ hT h1
  have hes2:∀y∈es++[e],y.Wf∧y.dp 0≤12∧y.All P Q:=mem_snoc hes he
  have hm:es.map Ex.flat++[e.flat]=(es++[e]).map Ex.flat:=by simp
  split at h2
  ·injection h2 with h2;injection h2 with h2 _
   exact ⟨es++[e],by rw [←h2,hm],hes2⟩
  ·split at h2
   ·rw [hm] at h2
    exact q3_ hT fin f _ _ _ _ hes2 h2
   ·cases h2
theorem wp_ (hT:TkOk P Q T) {fin:List Nat} {i j:Nat} {l:List (List Tm)} (h:list T F fin i=.ok (l,j)):∃es:List Ex,l=es.map Ex.flat∧∀e∈es,e.Wf∧e.dp 0≤12∧e.All P Q:=by
 unfold list at h
 split at h
 ·injection h with h;injection h with h _
  exact ⟨[],h.symm,fun _ h=>by cases h⟩
 ·exact q3_ hT fin F [] i l j (fun _ h=>by cases h) h
theorem ki_ (hT:TkOk P Q T):∀(f:Nat) (l:List (List Nat)) (i:Nat) (l':List (List Nat)) (j:Nat),(∀t∈l,P t)→targetsF T f l i=.ok (l',j)→(∀t∈l',P t)∧∃m,l'=l++m
 | 0,_,_,_,_,_,h=>by cases h
 | f+1,l,i,l',j,hl,h=>by
  rw [targetsF] at h
  split at h
  ·obtain ⟨s,i2,h1,h2⟩:=R.on_ok h
   obtain ⟨a,m,b⟩:=ki_ hT f _ _ _ _ (mem_snoc hl (hk_ hT h1)) h2
   exact ⟨a,[s]++m,by rw [b,nlb]⟩
  ·injection h with h;injection h with h _
   rw [←h];exact ⟨hl,[],by simp⟩
theorem wq_ (hT:TkOk P Q T) {ts:List (List Nat)} {s:List Nat} (hts:∀t∈ts,P t) (hs:P s) {i j:Nat} {l:List St} (h:call T F ts s i=.ok (l,j)):∃x,Sh x∧x.Al P Q∧l=[x.st]:=by
 unfold call at h
 obtain ⟨_,i1,_,h⟩:=R.on_ok h
 obtain ⟨es,i2,h2,h⟩:=R.on_ok h
 obtain ⟨_,i3,_,h⟩:=R.on_ok h
 injection h with h;injection h with h _
 obtain ⟨es,rfl,hes⟩:=wp_ hT h2
 exact ⟨⟨4,s,ts,es⟩,.call ts s es,⟨⟨.sh (.call ts s es),fun _=>hs⟩,hts,hes⟩,h.symm⟩
theorem y8_ (hT:TkOk P Q T) {i j:Nat} {l:List St} (h:plain T F i=.ok (l,j)):∃x,Sh x∧x.Al P Q∧l=[x.st]:=by
 unfold plain at h
 obtain ⟨s,i1,h1,h⟩:=R.on_ok h
 have hs:=hk_ hT h1
 split at h
 ·obtain ⟨a,i2,h2,h⟩:=R.on_ok h
  obtain ⟨_,i3,_,h⟩:=R.on_ok h
  obtain ⟨_,i4,_,h⟩:=R.on_ok h
  obtain ⟨b,i5,h5,h⟩:=R.on_ok h
  obtain ⟨_,i6,_,h⟩:=R.on_ok h
  injection h with h;injection h with h _
  obtain ⟨ea,rfl,ha⟩:=oz_ hT h2
  obtain ⟨eb,rfl,hb⟩:=oz_ hT h5
  refine ⟨⟨2,s,[],[ea,eb]⟩,.store s ea eb,⟨⟨.sh (.store s ea eb),fun _=>hs⟩,(fun t ht=>by cases ht),fun e he=>?_⟩,h.symm⟩
  simp only [List.mem_cons,List.not_mem_nil,or_false] at he
  rcases he with rfl|rfl
  ·exact ha
  ·exact hb
 ·split at h
  ·exact wq_ hT (fun t ht=>by cases ht) hs h
  ·obtain ⟨ts,i2,h2,h⟩:=R.on_ok h
   obtain ⟨hts,m,hm⟩:=ki_ hT F [s] i1 ts i2 (fun t ht=>by rw [List.mem_singleton] at ht;rw [ht];exact hs) h2
   obtain ⟨_,i3,_,h⟩:=R.on_ok h
   split at h
   ·rename_i hc
    obtain ⟨e,i4,h4,h⟩:=R.on_ok h
    obtain ⟨_,i5,_,h⟩:=R.on_ok h
    injection h with h;injection h with h _
    obtain ⟨ee,rfl,he⟩:=oz_ hT h4
    obtain rfl:ts=[s]:=by
     rw [hm] at hc ⊢
     have:=hc.1
     simp only [nla,List.length_singleton] at this
     rw [List.eq_nil_of_length_eq_zero (show m.length=0 by omega)];rfl
    exact ⟨⟨1,[],[s],[ee]⟩,.assign s ee,⟨⟨.sh (.assign s ee),fun h=>by simp at h⟩,hts,fun e he2=>by rw [List.mem_singleton] at he2;rw [he2];exact he⟩,h.symm⟩
   ·obtain ⟨s2,i4,h4,h⟩:=R.on_ok h
    exact wq_ hT hts (hk_ hT h4) h
theorem wr_ {x:Sx} (h:Sh x):∃k r,x.tk dg=k::r∧HdS k:=by
 cases h with
 | assign s e=>exact ⟨_,_,rfl,.inl rfl⟩
 | store s a b=>exact ⟨_,_,rfl,.inl rfl⟩
 | send c e=>exact ⟨_,_,rfl,.inr (.inl rfl)⟩
 | call ts s es =>
  cases ts with
  | nil=>exact ⟨_,_,rfl,.inl rfl⟩
  | cons t ts =>
   show ∃k r,(tgTk (t::ts)++[mk4 [61]])++nm1 s::mk4 [40]::(exsTk dg es++[mk4 [41],mk4 [59]])=k::r∧HdS k
   rw [nt_]
   exact ⟨_,_,rfl,.inl rfl⟩
theorem ws_ {x:Sx} (h:Sh x) (ha:x.Al P Q) (d:Nat):Ch dg P Q d [x]:=by
 have ht:sxsTk dg [x]=x.tk dg:=by rw [sxsTk_cons];simp [sxsTk]
 refine ⟨fun T F i hA hF _=>?_,by rw [ht];exact wr_ h,fun y hy=>by rw [List.mem_singleton] at hy;rw [hy];exact ha⟩
 rw [ht] at hA hF ⊢
 cases d with
 | zero=>exact nu_ h (fun e he=>⟨(ha.2.2 e he).1,(ha.2.2 e he).2.1⟩) hA hF none
 | succ d=>exact nu_ h (fun e he=>⟨(ha.2.2 e he).1,(ha.2.2 e he).2.1⟩) hA hF (some (stmtD T F d))
theorem l5_ {s:Nat→R (List St)} {d:Nat} (hs:∀i l j,s i=.ok (l,j)→∃xs,l=xs.map Sx.st∧Ch dg P Q d xs) (fin:List Nat):∀(f:Nat) (xss:List (List Sx)) (i:Nat) (l:List St) (j:Nat),(∀xs∈xss,Ch dg P Q d xs)→stmtsF T s fin f (xss.flatten.map Sx.st) i=.ok (l,j)→∃xss:List (List Sx),l=xss.flatten.map Sx.st∧∀xs∈xss,Ch dg P Q d xs
 | 0,_,_,_,_,_,h=>by cases h
 | f+1,xss,i,l,j,hx,h=>by
  rw [stmtsF] at h
  split at h
  ·injection h with h;injection h with h _
   exact ⟨xss,h.symm,hx⟩
  ·obtain ⟨x,i2,h1,h2⟩:=R.on_ok h
   obtain ⟨xs,rfl,hc⟩:=hs _ _ _ h1
   rw [←List.map_append,show xss.flatten++xs=(xss++[xs]).flatten by simp] at h2
   exact l5_ hs fin f _ _ _ _ (mem_snoc hx hc) h2
def ifX (e:Ex):Sx:=⟨5,[],[],[e]⟩
def whX (e:Ex):Sx:=⟨7,[],[],[e]⟩
def elX:Sx:=⟨6,[],[],[]⟩
def enX:Sx:=⟨8,[],[],[]⟩
theorem l6_ (k:Nat) (hk:k=6∨k=8):(⟨k,[],[],[]⟩:Sx).Al P Q:=⟨⟨by rcases hk with rfl | rfl;exact .els;exact .fin,fun h=>by rcases hk with rfl | rfl <;> simp at h⟩,(fun _ h=>by cases h),fun _ h=>by cases h⟩
theorem wt_ (k:Nat) (hk:k=5∨k=7) {e:Ex} (h:e.Wf∧e.dp 0≤12∧e.All P Q):(⟨k,[],[],[e]⟩:Sx).Al P Q:=⟨⟨by rcases hk with rfl | rfl;exact .iff e;exact .whi e,fun h=>by rcases hk with rfl | rfl <;> simp at h⟩,(fun _ h=>by cases h),fun x hx=>by
 have:x=e:=by simpa using hx
 rw [this];exact h⟩
theorem y9_ {d:Nat} {e:Ex} (he:e.Wf∧e.dp 0≤12∧e.All P Q) {xss:List (List Sx)} (hg:∀xs∈xss,Ch dg P Q d xs):Ch dg P Q (d+1) (whX e::xss.flatten++[enX]):=by
 have ht : sxsTk dg (whX e :: xss.flatten ++ [enX]) = kw2 "while" :: (e.tk dg 0 ++ mk4 [123] :: (sxsTk dg xss.flatten ++ [mk4 [125]])) := by
  rw [nli,sxsTk_cons,sxsTk_app,show sxsTk dg [enX]=[mk4 [125]] from rfl]
  show (kw2 "while" :: (e.tk dg 0 ++ [mk4 [123]])) ++ _ = _
  simp
 refine ⟨fun T F i hA hF _=>?_,by rw [ht];exact ⟨_,_,rfl,.inr (.inr (.inr rfl))⟩,fun x hx=>?_⟩
 ·rw [ht] at hA hF ⊢
  have h0:=hA.head
  have h1:=hA.tail
  have h2:=h1.right
  have hl : (kw2 "while" :: (e.tk dg 0 ++ mk4 [123] :: (sxsTk dg xss.flatten ++ [mk4 [125]]))).length = (e.tk dg 0).length + (sxsTk dg xss.flatten).length + 3 := by simp; omega
  rw [hl] at hF ⊢
  show stmtOf T F (some (stmtD T F d)) i=_
  unfold stmtOf
  rw [if_neg (by rw [b8_ h0];decide),if_pos (by rw [b8_ h0];decide),d3_ he.1 he.2.1 h1.left (dd_ h2.head (by decide) (by decide) 0) (by omega)]
  show (block T F (some (stmtD T F d)) (i+1+(e.tk dg 0).length)).on _=_
  rw [h4_ hg h2 (by omega)]
  show (Except.ok _:R (List St))=Except.ok _
  rw [show i+1+(e.tk dg 0).length+(sxsTk dg xss.flatten).length+2=i+((e.tk dg 0).length+(sxsTk dg xss.flatten).length+3) by omega]
  simp [whX,enX,Sx.st]
 ·rcases List.mem_append.1 hx with hx|hx
  ·rcases List.mem_cons.1 hx with rfl|hx
   ·exact wt_ 7 (.inr rfl) he
   ·obtain ⟨xs,h1,h2⟩:=List.mem_flatten.1 hx
    exact (hg xs h1).al x h2
  ·rw [List.mem_singleton] at hx;rw [hx];exact l6_ 8 (.inr rfl)
theorem if_ch {d:Nat} {e:Ex} (he:e.Wf∧e.dp 0≤12∧e.All P Q) {xss:List (List Sx)} (hg:∀xs∈xss,Ch dg P Q d xs):Ch dg P Q (d+1) (ifX e::xss.flatten++[enX]):=by
 have ht : sxsTk dg (ifX e :: xss.flatten ++ [enX]) = kw2 "if" :: (e.tk dg 0 ++ mk4 [123] :: (sxsTk dg xss.flatten ++ [mk4 [125]])) := by
  rw [nli,sxsTk_cons,sxsTk_app,show sxsTk dg [enX]=[mk4 [125]] from rfl]
  show (kw2 "if" :: (e.tk dg 0 ++ [mk4 [123]])) ++ _ = _
  simp
 refine ⟨fun T F i hA hF hel=>?_,by rw [ht];exact ⟨_,_,rfl,.inr (.inr (.inl rfl))⟩,fun x hx=>?_⟩
 ·rw [ht] at hA hF hel ⊢
  have h0:=hA.head
  have h1:=hA.tail
  have h2:=h1.right
  have hl : (kw2 "if" :: (e.tk dg 0 ++ mk4 [123] :: (sxsTk dg xss.flatten ++ [mk4 [125]]))).length = (e.tk dg 0).length + (sxsTk dg xss.flatten).length + 3 := by simp; omega
  rw [hl] at hF hel ⊢
  show stmtOf T F (some (stmtD T F d)) i=_
  unfold stmtOf
  rw [if_pos (by rw [b8_ h0];decide),d3_ he.1 he.2.1 h1.left (dd_ h2.head (by decide) (by decide) 0) (by omega)]
  show (block T F (some (stmtD T F d)) (i+1+(e.tk dg 0).length)).on _=_
  rw [h4_ hg h2 (by omega)]
  have e1:i+1+(e.tk dg 0).length+(sxsTk dg xss.flatten).length+2=i+((e.tk dg 0).length+(sxsTk dg xss.flatten).length+3):=by omega
  rw [e1]
  show (if is T (i + ((e.tk dg 0).length + (sxsTk dg xss.flatten).length + 3)) (tx "else") = true then _ else _) = _
  rw [if_neg (by rw [hel];simp)]
  simp [ifX,enX,Sx.st]
 ·rcases List.mem_append.1 hx with hx|hx
  ·rcases List.mem_cons.1 hx with rfl|hx
   ·exact wt_ 5 (.inl rfl) he
   ·obtain ⟨xs,h1,h2⟩:=List.mem_flatten.1 hx
    exact (hg xs h1).al x h2
  ·rw [List.mem_singleton] at hx;rw [hx];exact l6_ 8 (.inr rfl)
theorem wu_ {d:Nat} {e:Ex} (he:e.Wf∧e.dp 0≤12∧e.All P Q) {xss yss:List (List Sx)} (hg:∀xs∈xss,Ch dg P Q d xs) (hy:∀xs∈yss,Ch dg P Q d xs):Ch dg P Q (d+1) (ifX e::xss.flatten++elX::yss.flatten++[enX]):=by
 have ht : sxsTk dg (ifX e :: xss.flatten ++ elX :: yss.flatten ++ [enX]) = kw2 "if" :: (e.tk dg 0 ++ ((mk4 [123] :: (sxsTk dg xss.flatten ++ [mk4 [125]])) ++ kw2 "else" :: (mk4 [123] :: (sxsTk dg yss.flatten ++ [mk4 [125]])))) := by
  rw [sxsTk_app,sxsTk_app,sxsTk_cons,sxsTk_cons,show sxsTk dg [enX]=[mk4 [125]] from rfl]
  show (kw2 "if" :: (e.tk dg 0 ++ [mk4 [123]])) ++ sxsTk dg xss.flatten ++ ([mk4 [125],kw2 "else",mk4 [123]] ++ sxsTk dg yss.flatten) ++ _ = _
  simp
 refine ⟨fun T F i hA hF _=>?_,by rw [ht];exact ⟨_,_,rfl,.inr (.inr (.inl rfl))⟩,fun x hx=>?_⟩
 ·rw [ht] at hA hF ⊢
  have h0:=hA.head
  have h1:=hA.tail
  have h2:=h1.right
  have h3:=h2.left
  have h4:=h2.right
  have hl1:(mk4 [123]::(sxsTk dg xss.flatten++[mk4 [125]])).length=(sxsTk dg xss.flatten).length+2:=by simp
  rw [hl1] at h4
  have h5:=h4.head
  have h6:=h4.tail
  have hl : (kw2 "if" :: (e.tk dg 0 ++ ((mk4 [123] :: (sxsTk dg xss.flatten ++ [mk4 [125]])) ++ kw2 "else" :: (mk4 [123] :: (sxsTk dg yss.flatten ++ [mk4 [125]]))))).length = (e.tk dg 0).length + (sxsTk dg xss.flatten).length + (sxsTk dg yss.flatten).length + 6 := by simp; omega
  rw [hl] at hF ⊢
  show stmtOf T F (some (stmtD T F d)) i=_
  unfold stmtOf
  rw [if_pos (by rw [b8_ h0];decide),d3_ he.1 he.2.1 h1.left (dd_ h3.head (by decide) (by decide) 0) (by omega)]
  show (block T F (some (stmtD T F d)) (i+1+(e.tk dg 0).length)).on _=_
  rw [h4_ hg h3 (by omega)]
  have e1:i+1+(e.tk dg 0).length+((sxsTk dg xss.flatten).length+2)=i+1+(e.tk dg 0).length+(sxsTk dg xss.flatten).length+2:=by omega
  rw [e1] at h5 h6
  show (if is T (i + 1 + (e.tk dg 0).length + (sxsTk dg xss.flatten).length + 2) (tx "else") = true then (block T F (some (stmtD T F d)) (i + 1 + (e.tk dg 0).length + (sxsTk dg xss.flatten).length + 2 + 1)).on _ else _) = _
  rw [if_pos (by rw [b8_ h5];simp),h4_ hy h6 (by omega)]
  show (Except.ok _:R (List St))=Except.ok _
  rw [show i+1+(e.tk dg 0).length+(sxsTk dg xss.flatten).length+2+1+(sxsTk dg yss.flatten).length+2=i+((e.tk dg 0).length+(sxsTk dg xss.flatten).length+(sxsTk dg yss.flatten).length+6) by omega]
  simp [ifX,enX,elX,Sx.st]
 ·rcases List.mem_append.1 hx with hx|hx
  ·rcases List.mem_append.1 hx with hx|hx
   ·rcases List.mem_cons.1 hx with rfl|hx
    ·exact wt_ 5 (.inl rfl) he
    ·obtain ⟨xs,h1,h2⟩:=List.mem_flatten.1 hx
     exact (hg xs h1).al x h2
   ·rcases List.mem_cons.1 hx with rfl|hx
    ·exact l6_ 6 (.inl rfl)
    ·obtain ⟨xs,h1,h2⟩:=List.mem_flatten.1 hx
     exact (hy xs h1).al x h2
  ·rw [List.mem_singleton] at hx;rw [hx];exact l6_ 8 (.inr rfl)
theorem za_ (hT:TkOk P Q T):∀d i l j,stmtD T F d i=.ok (l,j)→∃xs,l=xs.map Sx.st∧Ch dg P Q d xs:=by
 have hsimple:∀d (x:Sx),Sh x→x.Al P Q→∃xs,[x.st]=xs.map Sx.st∧Ch dg P Q d xs:=fun d x h1 h2=>⟨[x],rfl,ws_ h1 h2 d⟩
 have hplain:∀(d:Nat) (i:Nat) (l:List St) (j:Nat),plain T F i=.ok (l,j)→∃xs,l=xs.map Sx.st∧Ch dg P Q d xs:=fun d i l j h=>by
  obtain ⟨x,h1,h2,rfl⟩:=y8_ hT h
  exact hsimple d x h1 h2
 have hsend:∀(d:Nat) (i:Nat) (l:List St) (j:Nat),((name T (i+1)).on fun c i=>(expr T F i).on fun e i=>(want T i [59]).on fun _ i=>(.ok ([⟨3,c,[],[e]⟩],i):R (List St)))=.ok (l,j)→∃xs,l=xs.map Sx.st∧Ch dg P Q d xs:=fun d i l j h=>by
  obtain ⟨c,i1,h1,h⟩:=R.on_ok h
  obtain ⟨e,i2,h2,h⟩:=R.on_ok h
  obtain ⟨_,i3,_,h⟩:=R.on_ok h
  injection h with h;injection h with h _
  obtain ⟨ee,rfl,he⟩:=oz_ hT h2
  rw [←h]
  exact hsimple d ⟨3,c,[],[ee]⟩ (.send c ee) ⟨⟨.sh (.send c ee),fun _=>hk_ hT h1⟩,(fun _ h=>by cases h),fun x hx=>by
   have:x=ee:=by simpa using hx
   rw [this];exact he⟩
 intro d
 induction d with
 | zero =>
  intro i l j h
  have h:stmtOf T F none i=.ok (l,j):=h
  unfold stmtOf at h
  split at h
  ·obtain ⟨e,i1,h1,h⟩:=R.on_ok h
   obtain ⟨a,i2,h2,h⟩:=R.on_ok h
   unfold block at h2
   simp only at h2
   split at h2 <;> cases h2
  ·split at h
   ·obtain ⟨e,i1,h1,h⟩:=R.on_ok h
    obtain ⟨a,i2,h2,h⟩:=R.on_ok h
    unfold block at h2
    simp only at h2
    split at h2 <;> cases h2
   ·split at h
    ·exact hsend 0 i l j h
    ·exact hplain 0 i l j h
 | succ d ih =>
  have hblock:∀i l j,block T F (some (stmtD T F d)) i=.ok (l,j)→∃xss:List (List Sx),l=xss.flatten.map Sx.st∧∀xs∈xss,Ch dg P Q d xs:=fun i l j h=>by
   have h:(want T i [123]).on (fun _ i=>stmtsF T (stmtD T F d) [125] F [] i)=.ok (l,j):=h
   obtain ⟨_,i1,_,h⟩:=R.on_ok h
   exact l5_ ih [125] F [] i1 l j (fun _ h=>by cases h) h
  intro i l j h
  have h:stmtOf T F (some (stmtD T F d)) i=.ok (l,j):=h
  unfold stmtOf at h
  split at h
  ·obtain ⟨e,i1,h1,h⟩:=R.on_ok h
   obtain ⟨a,i2,h2,h⟩:=R.on_ok h
   obtain ⟨ee,rfl,he⟩:=oz_ hT h1
   obtain ⟨xss,rfl,hx⟩:=hblock _ _ _ h2
   split at h
   ·obtain ⟨b,i3,h3,h⟩:=R.on_ok h
    obtain ⟨yss,rfl,hy⟩:=hblock _ _ _ h3
    injection h with h;injection h with h _
    exact ⟨_,by rw [←h];simp [ifX,enX,elX,Sx.st],wu_ he hx hy⟩
   ·injection h with h;injection h with h _
    exact ⟨_,by rw [←h];simp [ifX,enX,Sx.st],if_ch he hx⟩
  ·split at h
   ·obtain ⟨e,i1,h1,h⟩:=R.on_ok h
    obtain ⟨a,i2,h2,h⟩:=R.on_ok h
    obtain ⟨ee,rfl,he⟩:=oz_ hT h1
    obtain ⟨xss,rfl,hx⟩:=hblock _ _ _ h2
    injection h with h;injection h with h _
    exact ⟨_,by rw [←h];simp [whX,enX,Sx.st],y9_ he hx⟩
   ·split at h
    ·exact hsend (d+1) i l j h
    ·exact hplain (d+1) i l j h
end
def lbIx (ns:List (List Nat)) (m:Nat):List Nat:=(List.range ns.length).filter fun i=>m.testBit i
def lbNs (ns:List (List Nat)) (m:Nat):List (List Nat):=(lbIx ns m).map fun i=>ns.getD i []
structure LbOk (ns:List (List Nat)) (m:Nat):Prop where
 lt:m<2 ^ ns.length
 fst:∀i (h:i<ns.length),m.testBit i=true→ns.idxOf ns[i]=i
theorem f9_ {ns:List (List Nat)} {m:Nat} {s:List Nat}:s∈lbNs ns m↔∃i,∃h:i<ns.length,m.testBit i=true∧ns[i]=s:=by
 unfold lbNs lbIx
 rw [List.mem_map]
 constructor
 ·rintro ⟨i,h1,h2⟩
  obtain ⟨h3,h4⟩:=List.mem_filter.1 h1
  have h5:=List.mem_range.1 h3
  exact ⟨i,h5,h4,by rw [←h2,List.getD_eq_getElem?_getD,List.getElem?_eq_getElem h5];rfl⟩
 ·rintro ⟨i,h1,h2,h3⟩
  exact ⟨i,List.mem_filter.2 ⟨List.mem_range.2 h1,h2⟩,by rw [←h3,List.getD_eq_getElem?_getD,List.getElem?_eq_getElem h1];rfl⟩
def lbTk (ns:List (List Nat)) (m:Nat):List K:=mk4 [123]::((lbNs ns m).map nm1++[mk4 [125]])
def deTk (ns:List (List Nat)) (d:De):List K:=nm1 d.name::lbTk ns d.label
def rowTk {α:Type} (f:α→List K) (l:List α):List K:=mk4 [40]::(comma f l++[mk4 [41]])
def varTk (ns : List (List Nat)) (d : De) : List K := kw2 "var" :: (deTk ns d ++ [mk4 [59]])
section
variable {T:Nat→Option K} {F:Nat} {dg:Nat→List Nat} {P:List Nat→Prop} {Q:Nat→Prop} {ns:List (List Nat)}
def orAll (ns:List (List Nat)) (l:List (List Nat)) (a:Nat):Nat:=l.foldl (fun a s=>a ||| 1 <<< ns.idxOf s) a
theorem nv_ (ns:List (List Nat)) (j:Nat):∀(l:List (List Nat)) (a:Nat),(orAll ns l a).testBit j=true↔a.testBit j=true∨∃s∈l,ns.idxOf s=j
 | [],a=>by simp [orAll]
 | s::l,a=>by
  show (orAll ns l (a ||| 1 <<< ns.idxOf s)).testBit j=true↔_
  rw [nv_ ns j l,Nat.testBit_or,Nat.one_shiftLeft,Nat.testBit_two_pow,Bool.or_eq_true,decide_eq_true_iff]
  constructor
  ·rintro ((h|h)|⟨t,h1,h2⟩)
   ·exact .inl h
   ·exact .inr ⟨s,List.mem_cons_self ..,h⟩
   ·exact .inr ⟨t,List.mem_cons_of_mem _ h1,h2⟩
  ·rintro (h|⟨t,h1,h2⟩)
   ·exact .inl (.inl h)
   ·rcases List.mem_cons.1 h1 with rfl|h1
    ·exact .inl (.inr h2)
    ·exact .inr ⟨t,h1,h2⟩
theorem zb_ {m:Nat} (hm:LbOk ns m):orAll ns (lbNs ns m) 0=m:=by
 apply Nat.eq_of_testBit_eq
 intro j
 rw [Bool.eq_iff_iff,nv_]
 constructor
 ·rintro (h|⟨s,h1,h2⟩)
  ·simp at h
  ·obtain ⟨i,h3,h4,rfl⟩:=f9_.1 h1
   rw [←h2,hm.fst i h3 h4];exact h4
 ·intro h
  have hj:j<ns.length:=by
   apply Nat.lt_of_not_le
   intro hle
   rw [Nat.testBit_lt_two_pow (Nat.lt_of_lt_of_le hm.lt (Nat.pow_le_pow_right (by decide) hle))] at h
   cases h
  exact .inr ⟨ns[j],f9_.2 ⟨j,hj,h,rfl⟩,hm.fst j hj h⟩
theorem nw_:∀(f:Nat) (l:List (List Nat)) (a i:Nat),(∀s∈l,s∈ns)→At T i (l.map nm1++[mk4 [125]])→l.length<f→labelF T ns f a i=.ok (orAll ns l a,i+l.length)
 | 0,_,_,_,_,_,h=>absurd h (by omega)
 | f+1,[],a,i,_,hA,_=>by
  have hx:T i=some (mk4 [125]):=hA.head
  rw [labelF,hx]
  rfl
 | f+1,s::l,a,i,hs,hA,hf=>by
  have hx:T i=some (nm1 s):=hA.head
  have hi:ns.idxOf s<ns.length:=List.idxOf_lt_length_iff.2 (hs s (List.mem_cons_self ..))
  rw [labelF,hx]
  show (if (1:Nat)=1 then (if ns.idxOf s<ns.length then labelF T ns f (a ||| 1 <<< ns.idxOf s) (i+1) else _) else _)=_
  rw [if_pos rfl,if_pos hi,nw_ f l _ (i+1) (fun t h=>hs t (List.mem_cons_of_mem _ h)) hA.tail (by simpa using hf)]
  show (Except.ok _:R Nat)=Except.ok _
  rw [nlk,show i+1+l.length=i+(l.length+1) by omega]
  rfl
theorem zc_ (m:Nat):(lbTk ns m).length=(lbNs ns m).length+2:=by simp [lbTk]
theorem h5_ {m:Nat} (hm:LbOk ns m) {i:Nat} (hA:At T i (lbTk ns m)) (hF:(lbTk ns m).length<F):label T F ns i=.ok (m,i+(lbTk ns m).length):=by
 rw [zc_] at hF ⊢
 unfold lbTk at hA
 unfold label
 rw [bn_ hA.head]
 show (labelF T ns F 0 (i+1)).on _=_
 rw [nw_ F (lbNs ns m) 0 (i+1) (fun s h=>by obtain ⟨i,h1,_,rfl⟩:=f9_.1 h;exact List.getElem_mem h1) hA.tail (by omega),zb_ hm]
 show (want T (i+1+(lbNs ns m).length) [125]).on _=_
 have h2:=hA.tail.right.head
 rw [List.length_map] at h2
 rw [bn_ h2]
 show (Except.ok _:R Nat)=Except.ok _
 rw [show i+1+(lbNs ns m).length+1=i+((lbNs ns m).length+2) by omega]
theorem l7_ {d:De} (hm:LbOk ns d.label) {i:Nat} (hA:At T i (deTk ns d)) (hF:(deTk ns d).length<F):decl T F ns i=.ok (d,i+(deTk ns d).length):=by
 have hl:(deTk ns d).length=(lbTk ns d.label).length+1:=rfl
 rw [hl] at hF ⊢
 unfold deTk at hA
 unfold decl
 rw [de_ hA.head]
 show (label T F ns (i+1)).on _=_
 rw [h5_ hm hA.tail (by omega)]
 show (Except.ok _:R De)=Except.ok _
 rw [show i+1+(lbTk ns d.label).length=i+((lbTk ns d.label).length+1) by omega]
theorem wv_ {α:Type} {p:Nat→R α} {g:α→List K}:∀(f:Nat) (l:List α) (x:α) (acc:List α) (i:Nat),(∀y∈x::l,∀j,At T j (g y)→(g y).length<F→p j=.ok (y,j+(g y).length))→At T i (comma g (x::l)++[mk4 [41]])→(comma g (x::l)).length<F→l.length<f →
 rowF T p f acc i=.ok (acc++x::l,i+(comma g (x::l)).length+1)
 | 0,_,_,_,_,_,_,_,h=>absurd h (by omega)
 | f+1,[],x,acc,i,hp,hA,hF,_=>by
  have ht:comma g [x]=g x:=rfl
  rw [ht] at hA hF ⊢
  have hx:=hA.right.head
  rw [rowF,hp x (List.mem_cons_self ..) i hA.left hF]
  show (if is T (i+(g x).length) [41]=true then _ else _)=_
  rw [if_pos (by rw [co_ hx];rfl)]
 | f+1,y::l,x,acc,i,hp,hA,hF,hf=>by
  have ht:comma g (x::y::l)=g x++mk4 [44]::comma g (y::l):=rfl
  rw [ht] at hA hF ⊢
  rw [nlb] at hA
  have hx:=hA.right.head
  have hl:(g x++mk4 [44]::comma g (y::l)).length=(g x).length+1+(comma g (y::l)).length:=by simp;omega
  rw [hl] at hF ⊢
  rw [rowF,hp x (List.mem_cons_self ..) i hA.left (by omega)]
  show (if is T (i+(g x).length) [41]=true then _ else if is T (i+(g x).length) [44]=true then _ else _)=_
  rw [if_neg (by rw [co_ hx];decide),if_pos (by rw [co_ hx];rfl)]
  rw [wv_ f l y (acc++[x]) _ (fun z hz=>hp z (List.mem_cons_of_mem _ hz)) hA.right.tail (by omega) (by simpa using hf)]
  show (Except.ok _:R (List α))=Except.ok _
  rw [nlb,show i+(g x).length+1+(comma g (y::l)).length+1=i+((g x).length+1+(comma g (y::l)).length)+1 by omega]
  rfl
theorem nx_ {α:Type} {g:α→List K} (hg:∀x,0<(g x).length):∀(l:List α),l.length≤(comma g l).length
 | []=>by simp
 | [x]=>by have:=hg x;show 1≤(g x).length;omega
 | x::y::l=>by
  have ih:=nx_ hg (y::l)
  show l.length+1+1≤(g x++mk4 [44]::comma g (y::l)).length
  simp only [nla,nlk] at ih ⊢
  omega
theorem row_rd {α:Type} {p:Nat→R α} {g:α→List K} (hg:∀x,∃k r,g x=k::r∧∀(i:Nat),T i=some k→is T i [41]=false) (l:List α) {i:Nat} (hp:∀y∈l,∀j,At T j (g y)→(g y).length<F→p j=.ok (y,j+(g y).length)) (hA:At T i (rowTk g l)) (hF:(rowTk g l).length<F):row T F p i=.ok (l,i+(rowTk g l).length):=by
 have hpos:∀x,0<(g x).length:=fun x=>by obtain ⟨k,r,h,_⟩:=hg x;rw [h];simp
 have hl:(rowTk g l).length=(comma g l).length+2:=by simp [rowTk]
 rw [hl] at hF ⊢
 unfold rowTk at hA
 unfold row
 rw [bn_ hA.head]
 show (if is T (i+1) [41]=true then _ else _)=_
 cases l with
 | nil =>
  have hx:T (i+1)=some (mk4 [41]):=hA.tail.head
  rw [if_pos (by rw [co_ hx];rfl)]
  rfl
 | cons x l =>
  obtain ⟨k,r,h1,h2⟩:=hg x
  have hk:T (i+1)=some k:=by
   have h3:=hA.tail.left
   rw [cv_,h1] at h3
   exact h3.head
  rw [if_neg (by rw [h2 _ hk];simp),wv_ F l x [] (i+1) hp hA.tail (by omega) (by have:=nx_ hpos (x::l);simp at this;omega)]
  show (Except.ok _:R (List α))=Except.ok _
  rw [show i+1+(comma g (x::l)).length+1=i+((comma g (x::l)).length+2) by omega]
  rfl
theorem ww_ : ∀ (f : Nat) (l : List De) (acc : List De) (i : Nat),(∀ d ∈ l,LbOk ns d.label) → At T i (l.flatMap (varTk ns)) → is T (i + (l.flatMap (varTk ns)).length) (tx "var") = false → (l.flatMap (varTk ns)).length < F → l.length < f →
 varsF T F ns f acc i=.ok (acc++l,i+(l.flatMap (varTk ns)).length)
 | 0,_,_,_,_,_,_,_,h=>absurd h (by omega)
 | f+1,[],acc,i,_,_,hv,_,_=>by
  rw [varsF,if_neg (by rw [show is T i (tx "var") = false from hv]; simp)]
  simp
 | f+1,d::l,acc,i,hd,hA,hv,hF,hf=>by
  rw [List.flatMap_cons] at hA hv hF ⊢
  have h1:=hA.left
  unfold varTk at h1
  have hl:(varTk ns d).length=(deTk ns d).length+2:=by simp [varTk]
  rw [nla,hl] at hv hF ⊢
  have hx:=h1.head
  have h2:=h1.tail.right.head
  have h3:=hA.right
  rw [hl] at h3
  rw [varsF,if_pos (by rw [b8_ hx];simp),l7_ (hd d (List.mem_cons_self ..)) h1.tail.left (by omega)]
  show (want T (i+1+(deTk ns d).length) [59]).on _=_
  rw [bn_ h2]
  show varsF T F ns f (acc++[d]) (i+1+(deTk ns d).length+1)=_
  have e1:i+1+(deTk ns d).length+1=i+((deTk ns d).length+2):=by omega
  rw [e1,ww_ f l (acc++[d]) _ (fun x h=>hd x (List.mem_cons_of_mem _ h)) h3 (by rw [show i+((deTk ns d).length+2)+(l.flatMap (varTk ns)).length=i+((deTk ns d).length+2+(l.flatMap (varTk ns)).length) by omega];exact hv) (by omega) (by simpa using hf)]
  show (Except.ok _:R (List De))=Except.ok _
  rw [nlb,show i+((deTk ns d).length+2)+(l.flatMap (varTk ns)).length=i+((deTk ns d).length+2+(l.flatMap (varTk ns)).length) by omega]
  rfl
end
structure Fx where
 name:List Nat
 level:Nat
 params:List De
 results:List Nat
 vars:List De
 body:List (List Sx)
 es:List Ex
def Fx.fn (x:Fx):Fn:=⟨x.name,x.level,x.params,x.results,x.vars,x.body.flatten.map Sx.st++[⟨9,[],[],x.es.map Ex.flat⟩]⟩
structure Fx.Ok (ns:List (List Nat)) (dg:Nat→List Nat) (P:List Nat→Prop) (Q:Nat→Prop) (x:Fx):Prop where
 nm:P x.name
 lv:LbOk ns x.level
 ps:∀d∈x.params,P d.name∧LbOk ns d.label
 rs:∀m∈x.results,LbOk ns m
 vs:∀d∈x.vars,P d.name∧LbOk ns d.label
 bd:∀xs∈x.body,Ch dg P Q 12 xs
 es:∀e∈x.es,e.Wf∧e.dp 0≤12∧e.All P Q
def Fx.tk (ns:List (List Nat)) (dg:Nat→List Nat) (x:Fx):List K :=
 kw2 "func" :: nm1 x.name :: (lbTk ns x.level ++ (rowTk (deTk ns) x.params ++ (rowTk (lbTk ns) x.results ++ mk4 [123] :: (x.vars.flatMap (varTk ns) ++ (sxsTk dg x.body.flatten ++ kw2 "return" :: (exsTk dg x.es ++ [mk4 [59],mk4 [125]]))))))
section
variable {T:Nat→Option K} {F:Nat} {dg:Nat→List Nat} {P:List Nat→Prop} {Q:Nat→Prop} {ns:List (List Nat)}
theorem wx_:∀(l:List De),l.length≤(l.flatMap (varTk ns)).length
 | []=>by simp
 | d::l=>by
  have ih:=wx_ l
  rw [List.flatMap_cons,nla,nlk]
  have:0<(varTk ns d).length:=by simp [varTk]
  omega
theorem func_rd {x:Fx} (hx:x.Ok ns dg P Q) {i:Nat} (hA:At T i (x.tk ns dg)) (hF:(x.tk ns dg).length<F):func T F ns (i+1)=.ok (x.fn,i+(x.tk ns dg).length):=by
 obtain ⟨nm,lv,ps,rs,vs,bd,es⟩:=x
 obtain ⟨_,h2,h3,h4,h5,h6,h7⟩:=hx
 simp only at h2 h3 h4 h5 h6 h7
 have hl:(Fx.tk ns dg ⟨nm,lv,ps,rs,vs,bd,es⟩).length=2+(lbTk ns lv).length+(rowTk (deTk ns) ps).length+(rowTk (lbTk ns) rs).length+1+(vs.flatMap (varTk ns)).length+(sxsTk dg bd.flatten).length+1+(exsTk dg es).length+2:=by
  simp [Fx.tk];omega
 rw [hl] at hF ⊢
 unfold Fx.tk at hA
 dsimp only at hA
 have a1:=hA.tail
 have a2:=a1.tail
 have a3:=a2.right
 have a4:=a3.right
 have a5:=a4.right
 have a6:=a5.tail
 have a7:=a6.right
 have a8:=a7.right
 have a9:=a8.tail
 unfold func
 rw [de_ a1.head]
 show (label T F ns (i+1+1)).on _=_
 rw [h5_ h2 a2.left (by omega)]
 show (row T F (decl T F ns) (i+1+1+(lbTk ns lv).length)).on _=_
 rw [row_rd (g:=deTk ns) (fun d=>⟨_,_,rfl,fun i h=>g3_ h _⟩) ps (fun d hd j h h'=>l7_ (h3 d hd).2 h h') a3.left (by omega)]
 show (row T F (label T F ns) (i+1+1+(lbTk ns lv).length+(rowTk (deTk ns) ps).length)).on _=_
 rw [row_rd (g:=lbTk ns) (fun d=>⟨_,_,rfl,fun i h=>by rw [co_ h];decide⟩) rs (fun d hd j h h'=>h5_ (h4 d hd) h h') a4.left (by omega)]
 show (want T (i+1+1+(lbTk ns lv).length+(rowTk (deTk ns) ps).length+(rowTk (lbTk ns) rs).length) [123]).on _=_
 rw [bn_ a5.head]
 show (varsF T F ns F [] (i+1+1+(lbTk ns lv).length+(rowTk (deTk ns) ps).length+(rowTk (lbTk ns) rs).length+1)).on _=_
 have hret : ∀ (j : Nat) (l : List K),At T j (sxsTk dg bd.flatten ++ kw2 "return" :: l) → is T j (tx "var") = false := by
  intro j l h
  cases bd with
  | nil =>
   have hh : T j = some (kw2 "return") := h.head
   rw [b8_ hh];decide
  | cons xs bd =>
   obtain ⟨k,r,hk,hk2⟩:=(h6 xs (List.mem_cons_self ..)).hd
   have hh:T j=some k:=by
    have:=h.left
    rw [List.flatten_cons,sxsTk_app,hk] at this
    exact this.head
   rcases hk2 with hk2|rfl|rfl|rfl
   ·exact fj_ hh (by omega) (by omega) _
   ·rw [b8_ hh];decide
   ·rw [b8_ hh];decide
   ·rw [b8_ hh];decide
 rw [ww_ F vs [] _ (fun d hd=>(h5 d hd).2) a6.left (hret _ _ a7) (by omega) (by have:=wx_ (ns:=ns) vs;omega)]
 show (stmtsF T (stmtD T F 12) (kw2 "return").text F [] (i + 1 + 1 + (lbTk ns lv).length + (rowTk (deTk ns) ps).length + (rowTk (lbTk ns) rs).length + 1 + (vs.flatMap (varTk ns)).length)).on _ = _
 have a7' : At T (i + 1 + 1 + (lbTk ns lv).length + (rowTk (deTk ns) ps).length + (rowTk (lbTk ns) rs).length + 1 + (vs.flatMap (varTk ns)).length) (sxsTk dg bd.flatten ++ [kw2 "return"]) := by
  have : sxsTk dg bd.flatten ++ kw2 "return" :: (exsTk dg es ++ [mk4 [59],mk4 [125]]) = (sxsTk dg bd.flatten ++ [kw2 "return"]) ++ (exsTk dg es ++ [mk4 [59],mk4 [125]]) := by simp
  rw [this] at a7
  exact a7.left
 rw [l4_ (fin := kw2 "return") (.inr rfl) F bd [] _ h6 a7' (by omega) (by have := g4_ bd h6; omega)]
 show (list T F [59] (i+1+1+(lbTk ns lv).length+(rowTk (deTk ns) ps).length+(rowTk (lbTk ns) rs).length+1+(vs.flatMap (varTk ns)).length+(sxsTk dg bd.flatten).length+1)).on _=_
 have e9:exsTk dg es++[mk4 [59],mk4 [125]]=(exsTk dg es++[mk4 [59]])++[mk4 [125]]:=by simp
 rw [e9] at a9
 rw [wk_ (.inr rfl) es (fun e he=>⟨(h7 e he).1,(h7 e he).2.1⟩) a9.left (by omega)]
 have a10:=a9.right.head
 rw [nla,List.length_singleton,←Nat.add_assoc] at a10
 show (want T (i+1+1+(lbTk ns lv).length+(rowTk (deTk ns) ps).length+(rowTk (lbTk ns) rs).length+1+(vs.flatMap (varTk ns)).length+(sxsTk dg bd.flatten).length+1+(exsTk dg es).length+1) [125]).on _=_
 rw [bn_ a10]
 show (Except.ok _:R Fn)=Except.ok _
 congr 2
 omega
theorem lbOk_or {a:Nat} {k:List Nat} (ha:LbOk ns a) (hk:ns.idxOf k<ns.length):LbOk ns (a ||| 1 <<< ns.idxOf k):=by
 refine ⟨Nat.or_lt_two_pow ha.lt (by rw [Nat.one_shiftLeft];exact Nat.pow_lt_pow_right (by decide) hk),fun i h hb=>?_⟩
 rw [Nat.testBit_or,Nat.one_shiftLeft,Nat.testBit_two_pow,Bool.or_eq_true,decide_eq_true_iff] at hb
 rcases hb with hb|rfl
 ·exact ha.fst i h hb
 ·rw [List.getElem_idxOf h]
theorem lbOk_0:LbOk ns 0:=⟨Nat.two_pow_pos _,fun i _ h=>by simp at h⟩
theorem ny_:∀(f:Nat) (a i m j:Nat),LbOk ns a→labelF T ns f a i=.ok (m,j)→LbOk ns m
 | 0,_,_,_,_,_,h=>by cases h
 | f+1,a,i,m,j,ha,h=>by
  rw [labelF] at h
  split at h
  ·split at h
   ·split at h
    ·rename_i h3
     exact ny_ f _ _ _ _ (lbOk_or ha h3) h
    ·cases h
   ·injection h with h;injection h with h _
    rw [←h];exact ha
  ·injection h with h;injection h with h _
   rw [←h];exact ha
theorem h6_ {i m j:Nat} (h:label T F ns i=.ok (m,j)):LbOk ns m:=by
 unfold label at h
 obtain ⟨_,i1,_,h⟩:=R.on_ok h
 obtain ⟨l,i2,h2,h⟩:=R.on_ok h
 obtain ⟨_,i3,_,h⟩:=R.on_ok h
 injection h with h;injection h with h _
 rw [←h]
 exact ny_ F 0 i1 l i2 lbOk_0 h2
theorem l8_ (hT:TkOk P Q T) {i j:Nat} {d:De} (h:decl T F ns i=.ok (d,j)):P d.name∧LbOk ns d.label:=by
 unfold decl at h
 obtain ⟨s,i1,h1,h⟩:=R.on_ok h
 obtain ⟨l,i2,h2,h⟩:=R.on_ok h
 injection h with h;injection h with h _
 rw [←h]
 exact ⟨hk_ hT h1,h6_ h2⟩
theorem wy_ {α:Type} {p:Nat→R α} {G:α→Prop} (hp:∀i x j,p i=.ok (x,j)→G x):∀(f:Nat) (l:List α) (i:Nat) (l':List α) (j:Nat),(∀x∈l,G x)→rowF T p f l i=.ok (l',j)→∀x∈l',G x
 | 0,_,_,_,_,_,h=>by cases h
 | f+1,l,i,l',j,hl,h=>by
  rw [rowF] at h
  obtain ⟨x,i1,h1,h⟩:=R.on_ok h
  split at h
  ·injection h with h;injection h with h _
   rw [←h];exact mem_snoc hl (hp _ _ _ h1)
  ·split at h
   ·exact wy_ hp f _ _ _ _ (mem_snoc hl (hp _ _ _ h1)) h
   ·cases h
theorem row_of {α:Type} {p:Nat→R α} {G:α→Prop} (hp:∀i x j,p i=.ok (x,j)→G x) {i j:Nat} {l:List α} (h:row T F p i=.ok (l,j)):∀x∈l,G x:=by
 unfold row at h
 obtain ⟨_,i1,_,h⟩:=R.on_ok h
 split at h
 ·injection h with h;injection h with h _
  rw [←h];exact fun _ h=>by cases h
 ·exact wy_ hp F [] i1 l j (fun _ h=>by cases h) h
theorem wz_ (hT:TkOk P Q T):∀(f:Nat) (l:List De) (i:Nat) (l':List De) (j:Nat),(∀d∈l,P d.name∧LbOk ns d.label)→varsF T F ns f l i=.ok (l',j)→∀d∈l',P d.name∧LbOk ns d.label
 | 0,_,_,_,_,_,h=>by cases h
 | f+1,l,i,l',j,hl,h=>by
  rw [varsF] at h
  split at h
  ·obtain ⟨d,i1,h1,h⟩:=R.on_ok h
   obtain ⟨_,i2,_,h⟩:=R.on_ok h
   exact wz_ hT f _ _ _ _ (mem_snoc hl (l8_ hT h1)) h
  ·injection h with h;injection h with h _
   rw [←h];exact hl
theorem func_of (hT:TkOk P Q T) {i j:Nat} {g:Fn} (h:func T F ns i=.ok (g,j)):∃x:Fx,g=x.fn∧x.Ok ns dg P Q:=by
 unfold func at h
 obtain ⟨s,i1,h1,h⟩:=R.on_ok h
 obtain ⟨l,i2,h2,h⟩:=R.on_ok h
 obtain ⟨ps,i3,h3,h⟩:=R.on_ok h
 obtain ⟨rs,i4,h4,h⟩:=R.on_ok h
 obtain ⟨_,i5,_,h⟩:=R.on_ok h
 obtain ⟨vs,i6,h6,h⟩:=R.on_ok h
 obtain ⟨b,i7,h7,h⟩:=R.on_ok h
 obtain ⟨es,i8,h8,h⟩:=R.on_ok h
 obtain ⟨_,i9,_,h⟩:=R.on_ok h
 injection h with h;injection h with h _
 obtain ⟨xss,rfl,hx⟩ := l5_ (dg := dg) (P := P) (Q := Q) (d := 12) (fun i l j h => za_ hT 12 i l j h) (tx "return") F [] i6 b i7 (fun _ h => by cases h) h7
 obtain ⟨xs,rfl,he⟩:=wp_ hT h8
 exact ⟨⟨s,l,ps,rs,vs,xss,xs⟩,h.symm,hk_ hT h1,h6_ h2,row_of (G:=fun d=>P d.name∧LbOk ns d.label) (fun _ _ _ h=>l8_ hT h) h3,row_of (G:=fun m=>LbOk ns m) (fun _ _ _ h=>h6_ h) h4,wz_ hT F [] _ _ _ (fun _ h=>by cases h) h6,hx,he⟩
end
end Go.Proofs.Syn
