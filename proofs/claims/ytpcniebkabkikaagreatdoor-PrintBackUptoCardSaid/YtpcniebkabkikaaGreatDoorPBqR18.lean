/- A part of the proof of PrintBack: contracts and plain facts. -/
import Derived.Test.YtpcniebkabkikaaGreatDoorPBqR17
set_option maxRecDepth 100000
set_option maxHeartbeats 8000000
open Go.Lib (hid)
open Go.Proofs.Tryz
open List renaming length_append → nla, length_nil → nlg
namespace Go.Proofs.YtpcniebkabkikaaGreatDoor
open Go Go.RowKit Go.Proofs.Mm
def start (T : Nat → Option Syn.K) (i : Nat) : Bool := Syn.is T i (Syn.tx "if") || Syn.is T i (Syn.tx "while") || Syn.is T i (Syn.tx "send") || Syn.named T i
def stF (T:Nat→Option Syn.K) (s:Nat→Syn.R (List Syn.St)):Nat→List Syn.St→Nat→Syn.R (List Syn.St)
 | 0,_,i=>.error (99,i)
 | f+1,l,i=>if start T i then (s i).on fun x j=>stF T s f (l++x) j else .ok (l,i)
theorem tx_ {T : Nat → Option Syn.K} {i : Nat} {fin : List Nat} (h : Syn.is T i fin = true) (h1 : fin ≠ Syn.tx "if") (h2 : fin ≠ Syn.tx "while") (h3 : fin ≠ Syn.tx "send") : start T i = false := by
 have hn:Syn.named T i=false:=by
  cases hh:Syn.named T i with
  | false=>rfl
  | true=>rw [Syn.not_is hh] at h;cases h
 have key:∀s,fin≠s→Syn.is T i s=false:=fun s hs=>by
  cases hh:Syn.is T i s with
  | false=>rfl
  | true=>exact (hs (we_ h hh)).elim
 unfold start
 rw [key _ h1,key _ h2,key _ h3,hn];rfl
theorem c6_ {T : Nat → Option Syn.K} {s : Nat → Syn.R (List Syn.St)} {fin : List Nat} (h1 : fin ≠ Syn.tx "if") (h2 : fin ≠ Syn.tx "while") (h3 : fin ≠ Syn.tx "send") (hs : ∀ i,start T i = false → s i = .error (50,i)) :
 ∀(f:Nat) (l:List Syn.St) (i:Nat),Syn.stmtsF T s fin f l i=(stF T s f l i).on fun l j=>(Syn.want T j fin).on fun _ j=>.ok (l,j)
 | 0,_,_=>rfl
 | f+1,l,i=>by
  rw [Syn.stmtsF,stF]
  by_cases hf:Syn.is T i fin=true
  ·rw [if_pos hf,tx_ hf h1 h2 h3,if_neg (by simp)]
   show _=(Syn.want T i fin).on fun _ j=>.ok (l,j)
   rw [show Syn.want T i fin=.ok ((),i+1) from if_pos hf];rfl
  ·rw [if_neg hf]
   cases hst:start T i with
   | false =>
    rw [if_neg (by simp),hs i hst]
    show _=(Syn.want T i fin).on fun _ j=>.ok (l,j)
    rw [show Syn.want T i fin=.error (50,i) from if_neg hf];rfl
   | true =>
    rw [if_pos rfl]
    cases s i with
    | error q=>rfl
    | ok q=>exact c6_ h1 h2 h3 hs f _ _
theorem mq_ {T:Nat→Option Syn.K} {F:Nat} {s:Option (Nat→Syn.R (List Syn.St))} {i:Nat} (h:start T i=false):Syn.stmtOf T F s i=.error (50,i):=by
 unfold start at h
 simp only [Bool.or_eq_false_iff] at h
 obtain ⟨⟨⟨h1,h2⟩,h3⟩,h4⟩:=h
 unfold Syn.stmtOf
 rw [h1,h2,h3,if_neg (by simp),if_neg (by simp),if_neg (by simp),pq_]
 unfold oneP namedP
 have:Syn.name T i=.error (50,i):=by
  unfold Syn.named at h4
  unfold Syn.name
  cases hT:T i with
  | none=>rfl
  | some k=>rw [hT] at h4;exact if_neg (by simpa using h4)
 rw [this];rfl
theorem infoSt:∃i,prog.info? 57=some i∧i.zero=some (.agg #[.int .i64 0,.string ⟨#[]⟩,.slice none 0 0,.slice none 0 0])∧i.size=4∧i.bytes=72:=by
 have h:(prog.info? 57).map (fun i=>(i.zero,i.size,i.bytes))=some (some (.agg #[.int .i64 0,.string ⟨#[]⟩,.slice none 0 0,.slice none 0 0]),4,72):=by kernel_rfl
 cases hi:prog.info? 57 with
 | none=>rw [hi] at h;cases h
 | some i =>
  rw [hi] at h
  simp only [Option.map_some,Option.some.injEq,Prod.mk.injEq] at h
  obtain ⟨e1,e2,e3⟩:=h
  exact ⟨i,rfl,e1,e2,e3⟩
def BR (w:World) (m:Mem) (v:Value) (l:List Syn.St):Prop:=∃cs,w.ownsRow 0 57 4 v l.length cs∧Enc (StM m) cs l
def BOk (ys:List It) (len bp bw:Nat) (vp:Value) (m:Mem) (st0:List Syn.St) (v:Value) (w:World) (l:List Syn.St) (j:Nat) (e:Ending) (w':World):Prop :=
 ∃v' m',e=.returned v'∧m.More w m'∧Has w' m'∧m' bp=none∧BR w' m' v' (st0++l)∧(∀k,v'.ownBlock=some k→m' k=none)∧Ob v w v'∧PS ys len bp bw vp w' j
def RdS (ys:List It) (len bp bw:Nat) (vp:Value) (K:FuncId) (args:Value→Array Value) (r:Nat→Syn.R (List Syn.St)):Prop :=
 ∀w i v st0 m,PS ys len bp bw vp w i→Has w m→m bp=none→BR w m v st0→(∀k,v.ownBlock=some k→m k=none)→st0.length+(ys.length - i)≤131072 →
  Calls prog K (args v) w (Ret ys len (TS bp v) w (r i) (BOk ys len bp bw vp m st0 v w))
section
variable {ys:List It} {len bp bw i:Nat} {vp:Value} {w:World}
theorem cd_ {m:Mem} {v:Value} {l:List Syn.St} (h:BR w m v l):∃q c,v=.slice q l.length c:=by
 obtain ⟨cs,h1,_⟩:=h
 exact ah_ h1
theorem zv_ (h:PS ys len bp bw vp w i) {m:Mem} {v:Value} {l:List Syn.St} (hr:BR w m v l):v.ownBlock≠some bp∧v.ownBlock≠some bw:=by
 obtain ⟨cs,hr,_⟩:=hr
 obtain ⟨⟨c,a1,_⟩,⟨arr,b1,_⟩,_,_⟩:=h
 constructor
 ·intro e
  obtain ⟨cur,h2⟩:=av_ hr e
  have:=a1.symm.trans h2
  simp at this
 ·intro e
  obtain ⟨cur,h2⟩:=av_ hr e
  have:=b1.symm.trans h2
  simp at this
theorem x8_ {m m':Mem} {v:Value} {l:List Syn.St} (h:BR w m v l) (hm:m.le m'):BR w m' v l:=by
 obtain ⟨cs,h1,h2⟩:=h
 exact ⟨cs,h1,h2.mono fun _ _ h=>h.le hm⟩
theorem ty_ {m:Mem} {v:Value} {l:List Syn.St} (hr:BR w m v l) {w':World} {S:Nat→Prop} (hc:Chg S w w') (hn:∀k,v.ownBlock=some k→¬S k):BR w' m v l:=by
 obtain ⟨cs,h1,h2⟩:=hr
 exact ⟨cs,a0_ h1 hc hn,h2⟩
theorem dw_ (h:PS ys len bp bw vp w i) {m:Mem} {v:Value} {l:List Syn.St} (hr:BR w m v l) {w':World} (hc:Chg (fun k=>k=bp) w w'):BR w' m v l :=
 ty_ hr hc (fun k hk e=>by subst e;exact (zv_ h hr).1 hk)
theorem pr_ {m:Mem} {v:Value} {l:List Syn.St} (hr:BR w m v l) (o:Obj):BR (w.alloc o) m v l:=ty_ hr ((Chg.refl (fun _=>False) w).alloc o) (fun _ _ e=>e)
theorem zw_ (h:PS ys len bp bw vp w i) {m:Mem} {v v':Value} {l:List Syn.St} {cs:List Value} (hr:w.ownsRow 0 57 4 v l.length cs) (he:Enc (StM m) cs l) (hH:Has w m) (hv:∀k,v.ownBlock=some k→m k=none) {st:Syn.St} {cells:List Value} (hst:StM m cells st) {w9:World} (T:TypeId)
 (hown:w9.ownsRow 0 57 4 v' (l.length+1) (cs++cells)) (hg:(w.alloc (.cells cells.toArray T)).grownBy w9 v.ownBlock) (hat:v'.ownBlock=v.ownBlock∨v'.ownBlock=some (w.heap.size+1)) :
 BR w9 m v' (l++[st])∧Has w9 m∧(∀k,v'.ownBlock=some k→m k=none)∧Ob v w v'∧PS ys len bp bw vp w9 i∧Chg (fun k=>v.ownBlock=some k) w w9:=by
 have hC:Chg (fun k=>v.ownBlock=some k) w w9:=((Chg.refl _ w).alloc _).then (a1_ hg (fun k hk=>.inl hk))
 have hn:=zv_ h (m:=m) ⟨cs,hr,he⟩
 refine ⟨⟨cs++cells,by rw [nla,List.length_singleton];exact hown,he.app (Enc.one hst)⟩,hH.chg hC (fun k e=>hv k e),fun k hk=>?_,fun k hk=>?_,h.chg hC hn.1 hn.2,hC⟩
 ·rcases hat with e|e
  ·rw [e] at hk;exact hv k hk
  ·rw [e] at hk
   obtain rfl:w.heap.size+1=k:=by simpa using hk
   exact hH.lt (by omega)
 ·rcases hat with e|e
  ·rw [e] at hk;exact .inl hk
  ·rw [e] at hk
   obtain rfl:w.heap.size+1=k:=by simpa using hk
   exact .inr (by omega)
theorem hb_ (k:Int) (s:ByteArray) (q1 q2:Option Addr) (n1 c1 n2 c2:Nat):∀u∈[Value.int .i64 k,.string s,.slice q1 n1 c1,.slice q2 n2 c2],u.oneCell'=true:=by
 intro u hu
 rcases List.mem_cons.1 hu with rfl|hu
 ·rfl
 rcases List.mem_cons.1 hu with rfl|hu
 ·rfl
 rcases List.mem_cons.1 hu with rfl|hu
 ·rfl
 rcases List.mem_cons.1 hu with rfl|hu
 ·rfl
 ·exact absurd hu (by simp)
theorem j0_:Mk (bl ⟨#[123]⟩)=true:=by decide
theorem ps_:Mk (bl ⟨#[125]⟩)=true:=by decide
theorem hn_ {v:Value} {a b:World} (h:Chg (fun k=>k=bp) a b):Chg (TS bp v) a b:=h.mono fun _ e=>.inl (.inl e)
theorem rq_ (hw:Ws ys) (h:PS ys len bp bw vp w i) (v:Value) (ok:List Syn.St→Nat→Ending→World→Prop) :
 Calls prog 225 #[.pointer (some ⟨bp,0,none⟩),v,.int .i64 12] w (Ret ys len (TS bp v) w (Syn.block (Tk ys) (ys.length+1) none i) ok):=by
 unfold Syn.block
 have h1:=ho_ h ⟨#[123]⟩
 rw [ax_,az_ hw len i j0_,show bl ⟨#[123]⟩=[123] from rfl] at h1
 cases hx:Syn.is (Tk ys) i [123] with
 | true =>
  rw [hx] at h1
  clear hx
  go_enter func225,ntmps225
  go_wp2_with (first|(go_at_call 145;refine h1.mono ?_;rintro e w' ⟨rfl,rfl⟩)|(go_at_call 144;refine (fg_ h 51 (TS bp v)).mono ?_;rintro e w' ⟨rfl,hc⟩))
  exact ⟨rfl,hc,rfl⟩
 | false =>
  rw [hx] at h1
  have h2:=i7_ h ⟨#[123]⟩ (by rw [ax_,az_ hw len i j0_];exact hx) (TS bp v)
  clear hx
  go_enter func225,ntmps225
  go_wp2_with (first|(go_at_call 145;refine h1.mono ?_;rintro e w' ⟨rfl,rfl⟩)|(go_at_call 149;refine h2.mono ?_;rintro e w' ⟨rfl,hc⟩))
  exact ⟨rfl,hc,rfl⟩
end
def CntS (p:Nat→Syn.R (List Syn.St)):Prop:=∀i l j,p i=.ok (l,j)→l.length+i≤j
section
variable {T:Nat→Option Syn.K} {F:Nat}
def branchP (T:Nat→Option Syn.K) (F:Nat) (s:Option (Nat→Syn.R (List Syn.St))) (i:Nat):Syn.R (List Syn.St) :=
 (Syn.expr T F i).on fun e i=>(Syn.block T F s i).on fun a i =>
  if Syn.is T i (Syn.tx "else") then (Syn.block T F s (i + 1)).on fun b i => .ok (⟨5,[],[],[e]⟩ :: a ++ ⟨6,[],[],[]⟩ :: b ++ [⟨8,[],[],[]⟩],i)
  else .ok (⟨5,[],[],[e]⟩::a++[⟨8,[],[],[]⟩],i)
def loopP (T:Nat→Option Syn.K) (F:Nat) (s:Option (Nat→Syn.R (List Syn.St))) (i:Nat):Syn.R (List Syn.St) :=
 (Syn.expr T F i).on fun e i=>(Syn.block T F s i).on fun a i=>.ok (⟨7,[],[],[e]⟩::a++[⟨8,[],[],[]⟩],i)
theorem c0_ (s:Option (Nat→Syn.R (List Syn.St))) (i:Nat):Syn.stmtOf T F s i =
 if Syn.is T i (Syn.tx "if") then branchP T F s (i + 1) else if Syn.is T i (Syn.tx "while") then loopP T F s (i + 1) else if Syn.is T i (Syn.tx "send") then oneP (sendP T F (i + 1)) else oneP (namedP T F i) := by
 unfold Syn.stmtOf
 rw [pq_]
 congr 3
 unfold oneP sendP
 simp only [fb_]
 rfl
theorem oo_ {s:Nat→Syn.R (List Syn.St)} (hs:CntS s):∀(f:Nat) (l:List Syn.St) (i:Nat) (l':List Syn.St) (j:Nat),stF T s f l i=.ok (l',j)→l'.length+i≤l.length+j
 | 0,_,_,_,_,h=>by cases h
 | f+1,l,i,l',j,h=>by
  rw [stF] at h
  split at h
  ·obtain ⟨x,i2,h1,h2⟩:=Syn.R.on_ok h
   have a:=hs _ _ _ h1
   have b:=oo_ hs f _ _ _ _ h2
   rw [nla] at b
   omega
  ·injection h with h;injection h with h1 h2
   subst h1;subst h2;exact Nat.le_refl _
theorem tz_ {n:Nat} (hN:∀i,n≤i→T i=none) {s:Nat→Syn.R (List Syn.St)} (hs:∀i,i≤n→Syn.Fit n (s i)) (hg:Syn.GoodS s):∀(f:Nat) (l:List Syn.St) (i:Nat),i≤n→n<f+i→Syn.Fit n (stF T s f l i)
 | 0,_,_,h,hf=>by omega
 | f+1,l,i,h,hf=>by
  rw [stF]
  refine Syn.Fit.sw (fun _=>(hs i h).on fun x j hx hj=>tz_ hN hs hg f _ j hj ?_) (fun _=>Syn.Fit.ok _ h)
  have:=(hg _ _ _ hx).2.2
  omega
theorem dh_ {s:Option (Nat→Syn.R (List Syn.St))} (hs:∀p,s=some p→CntS p) (hn:∀p,s=some p→∀i,start T i=false→p i=.error (50,i)) {i j:Nat} {l:List Syn.St} (h:Syn.block T F s i=.ok (l,j)):l.length+i+2≤j:=by
 unfold Syn.block at h
 split at h
 ·split at h <;> cases h
 ·rename_i p
  obtain ⟨_,i1,h1,h⟩:=Syn.R.on_ok h
  have e1:=(Syn.want_ok h1).2
  rw [c6_ (by decide) (by decide) (by decide) (hn p rfl)] at h
  obtain ⟨l1,i2,h2,h⟩:=Syn.R.on_ok h
  obtain ⟨_,i3,h3,h⟩:=Syn.R.on_ok h
  injection h with h;injection h with h4 h5
  subst h4;subst h5
  have a:=oo_ (hs p rfl) _ _ _ _ _ h2
  have e3:=(Syn.want_ok h3).2
  simp only [nlg] at a
  omega
theorem j1_ {s:Option (Nat→Syn.R (List Syn.St))} (hs:∀p,s=some p→CntS p) (hn:∀p,s=some p→∀i,start T i=false→p i=.error (50,i)):CntS (branchP T F s):=by
 intro i l j h
 unfold branchP at h
 obtain ⟨e,i1,h1,h⟩:=Syn.R.on_ok h
 obtain ⟨a,i2,h2,h⟩:=Syn.R.on_ok h
 have g1:=(Syn.expr_good 12 _ _ _ h1).2
 have g2:=dh_ hs hn h2
 split at h
 ·obtain ⟨b,i3,h3,h⟩:=Syn.R.on_ok h
  have g3:=dh_ hs hn h3
  injection h with h;injection h with h4 h5
  subst h4;subst h5
  simp only [nla,List.length_cons,nlg];omega
 ·injection h with h;injection h with h4 h5
  subst h4;subst h5
  simp only [nla,List.length_cons,nlg];omega
theorem mr_ {s:Option (Nat→Syn.R (List Syn.St))} (hs:∀p,s=some p→CntS p) (hn:∀p,s=some p→∀i,start T i=false→p i=.error (50,i)):CntS (loopP T F s):=by
 intro i l j h
 unfold loopP at h
 obtain ⟨e,i1,h1,h⟩:=Syn.R.on_ok h
 obtain ⟨a,i2,h2,h⟩:=Syn.R.on_ok h
 have g1:=(Syn.expr_good 12 _ _ _ h1).2
 have g2:=dh_ hs hn h2
 injection h with h;injection h with h4 h5
 subst h4;subst h5
 simp only [nla,List.length_cons,nlg];omega
theorem t0_ {r:Syn.R Syn.St} {l:List Syn.St} {j:Nat} (h:oneP r=.ok (l,j)):l.length=1:=by
 unfold oneP at h
 obtain ⟨x,i1,h1,h⟩:=Syn.R.on_ok h
 injection h with h;injection h with h4 h5
 subst h4;rfl
theorem j2_ {s:Option (Nat→Syn.R (List Syn.St))} (hs:∀p,s=some p→CntS p) (hn:∀p,s=some p→∀i,start T i=false→p i=.error (50,i)) (hg:∀p,s=some p→Syn.GoodS p):CntS (Syn.stmtOf T F s):=by
 intro i l j h
 have hlt:=(Syn.stmtOf_good hg _ _ _ h).2.2
 rw [c0_] at h
 split at h
 ·have:=j1_ hs hn _ _ _ h;omega
 ·split at h
  ·have:=mr_ hs hn _ _ _ h;omega
  ·split at h
   ·have:=t0_ h;omega
   ·have:=t0_ h;omega
theorem k5_:∀(d i:Nat),start T i=false→Syn.stmtD T F d i=.error (50,i)
 | 0,_,h=>mq_ h
 | _+1,_,h=>mq_ h
theorem ih_:∀d,CntS (Syn.stmtD T F d)
 | 0=>j2_ (fun p h=>by cases h) (fun p h=>by cases h) (fun p h=>by cases h)
 | d+1=>j2_ (s:=some (Syn.stmtD T F d)) (fun p h=>by cases h;exact ih_ d) (fun p h=>by cases h;exact k5_ d) (fun p h=>by cases h;exact Syn.stmt_good d)
end
def SOkD (ys:List It) (len bp bw:Nat) (vp:Value) (d:Nat) (s:Option (Nat→Syn.R (List Syn.St))):Prop :=
 (d=12∧s=none)∨(d<12∧∃p,s=some p∧CntS p∧(∀i,i≤ys.length→Syn.Fit ys.length (p i))∧Syn.GoodS p∧(∀i,start (Tk ys) i=false→p i=.error (50,i)) ∧
  RdS ys len bp bw vp 156 (fun v=>#[.pointer (some ⟨bp,0,none⟩),v,.int .i64 ((d:Int)+1)]) (fun i=>stF (Tk ys) p (ys.length+1) [] i))
section
variable {ys:List It} {len bp bw d:Nat} {vp:Value} {s:Option (Nat→Syn.R (List Syn.St))} (h:SOkD ys len bp bw vp d s)
include h
theorem SOkD.cnt:∀p,s=some p→CntS p:=by
 rcases h with ⟨_,rfl⟩|⟨_,r,rfl,h,_⟩
 ·intro p hp;cases hp
 ·intro p hp;cases hp;exact h
theorem SOkD.fit:∀p,s=some p→∀i,i≤ys.length→Syn.Fit ys.length (p i):=by
 rcases h with ⟨_,rfl⟩|⟨_,r,rfl,_,h,_⟩
 ·intro p hp;cases hp
 ·intro p hp;cases hp;exact h
theorem SOkD.good:∀p,s=some p→Syn.GoodS p:=by
 rcases h with ⟨_,rfl⟩|⟨_,r,rfl,_,_,h,_⟩
 ·intro p hp;cases hp
 ·intro p hp;cases hp;exact h
theorem SOkD.no:∀p,s=some p→∀i,start (Tk ys) i=false→p i=.error (50,i):=by
 rcases h with ⟨_,rfl⟩|⟨_,r,rfl,_,_,_,h,_⟩
 ·intro p hp;cases hp
 ·intro p hp;cases hp;exact h
end
section
variable {ys:List It} {len bp bw i:Nat} {vp:Value} {w:World}
theorem ii_ (hw:Ws ys) {d:Nat} {s:Option (Nat→Syn.R (List Syn.St))} (hs:SOkD ys len bp bw vp d s) :
 RdS ys len bp bw vp 225 (fun v=>#[.pointer (some ⟨bp,0,none⟩),v,.int .i64 (d:Int)]) (Syn.block (Tk ys) (ys.length+1) s):=by
 intro w i v st0 m h hm hbm hb hv hcount
 rcases hs with ⟨rfl,rfl⟩|⟨hd,p,rfl,hcnt,hfit,hgood,hno,hR⟩
 ·exact rq_ hw h v _
 obtain ⟨qv,cv,rfl⟩:=cd_ hb
 have h1:=ho_ h ⟨#[123]⟩
 rw [ax_,az_ hw len i j0_,show bl ⟨#[123]⟩=[123] from rfl] at h1
 obtain ⟨RR,hRR⟩:∃RR,Syn.block (Tk ys) (ys.length+1) (some p) i=RR:=⟨_,rfl⟩
 show Calls _ _ _ _ (Ret ys len _ w (Syn.block (Tk ys) (ys.length+1) (some p) i) _)
 rw [hRR]
 have hR0:(Syn.want (Tk ys) i [123]).on (fun _ i=>(stF (Tk ys) p (ys.length+1) [] i).on fun l j=>(Syn.want (Tk ys) j [125]).on fun _ j=>.ok (l,j))=RR:=by
  rw [←hRR]
  unfold Syn.block
  congr 1
  funext _ i
  rw [c6_ (by decide) (by decide) (by decide) hno]
 clear hRR
 have hne:((d:Int) == 12)=false:=by simp;omega
 cases hx:Syn.is (Tk ys) i [123] with
 | false =>
  rw [hx] at h1
  have h2:=i7_ h ⟨#[123]⟩ (by rw [ax_,az_ hw len i j0_];exact hx) (TS bp (.slice qv st0.length cv))
  have HE:=hid (show RR=.error (50,i) from by rw [←hR0,show Syn.want (Tk ys) i [123]=.error (50,i) from if_neg (by rw [hx];simp)];rfl)
  clear hx hR0
  go_enter func225,ntmps225
  go_wp2_with (first|(go_at_call 145;refine h1.mono ?_;rintro e w' ⟨rfl,rfl⟩)|(go_at_call 149;refine h2.mono ?_;rintro e w' ⟨rfl,hc⟩))
  exact ⟨rfl,ai_ HE.out hc⟩
 | true =>
  rw [hx] at h1
  have hlt:=a4_ hx
  have h2:=h1_ h hlt ⟨#[123]⟩ (by rw [ax_,az_ hw len i j0_];exact hx)
  have HR0:=hid (show (stF (Tk ys) p (ys.length+1) [] (i+1)).on (fun l j=>(Syn.want (Tk ys) j [125]).on fun _ j=>.ok (l,j))=RR from by rw [←hR0,show Syn.want (Tk ys) i [123]=.ok ((),i+1) from if_pos hx];rfl)
  have HRd:=hid hR
  have Hm:=hid hm
  have HB:=hid hb
  have HV:=hid hv
  have HP:=hid h
  clear hx hR0 hR hm hb hv h
  go_enter func225,ntmps225
  go_wp2_with (first|(go_at_call 145;refine h1.mono ?_;rintro e w' ⟨rfl,rfl⟩)|(go_at_call 149;refine h2.mono ?_;rintro e w1 ⟨rfl,hc1,hp1⟩))
  have h3:=an_ (HRd.out w1 (i+1) _ st0 m hp1 (Hm.out.chg hc1 (fun k e=>by subst e;exact hbm)) hbm (dw_ HP.out HB.out hc1) HV.out (by omega))
  have C1:=hid (hn_ (v:=.slice qv st0.length cv) hc1)
  have hs1:=hc1.size
  clear hc1 hp1 h2 h1
  go_at_call 156
  refine h3.mono ?_
  rintro e w2 ⟨hc2,⟨er,k,hr,rfl⟩|⟨l,j,hr,v2,m2,rfl,hmo,hH,hb2,hB2,hv2,ho2,hp2⟩⟩
  ·exact ⟨rfl,ai_ (by rw [←HR0.out,show stF (Tk ys) p (ys.length+1) [] (i+1)=_ from hr];rfl) (C1.out.then hc2)⟩
  obtain ⟨q2,c2,rfl⟩:=cd_ hB2
  have C2:=hid (C1.out.then hc2)
  have HR2:=hid (show (Syn.want (Tk ys) j [125]).on (fun _ j=>.ok (l,j))=RR from by rw [←HR0.out,show stF (Tk ys) p (ys.length+1) [] (i+1)=_ from hr];rfl)
  have h4:=bt_ hw hp2 ⟨#[125]⟩ ps_
  have HH:=hid hH
  have HB2:=hid hB2
  have HV2:=hid hv2
  have MO:=hid (hmo.from (w:=w) hs1)
  have HO:=hid (show Ob (.slice qv st0.length cv) w (.slice q2 (st0++l).length c2) from fun k hk=>by rcases ho2 k hk with q|q <;> first|exact .inl q|exact .inr (by omega))
  have HP2:=hid hp2
  clear hc2 hr h3 hmo hH hB2 hv2 ho2 hp2
  generalize hLn:(st0++l).length=Ln at *
  have HLn:=hid hLn
  clear hLn
  go_wp2_with fail
  go_at_call 149
  refine h4.mono ?_
  rintro e w3 ⟨hc3,⟨hr,rfl⟩|⟨hr,rfl,hp3⟩⟩
  ·exact ⟨rfl,ai_ (by rw [←HR2.out,show ([125]:List Nat)=bl ⟨#[125]⟩ from rfl,hr];rfl) (C2.out.then (hn_ hc3))⟩
  have HEND:=hid (show Ret ys len (TS bp (.slice qv st0.length cv)) w RR (BOk ys len bp bw vp m st0 (.slice qv st0.length cv) w) (.returned (.slice q2 Ln c2)) w3 from
   bx_ (x:=l) (j:=j+1) (by rw [←HR2.out,show ([125]:List Nat)=bl ⟨#[125]⟩ from rfl,hr];rfl) (C2.out.then (hn_ hc3)) ⟨_,m2,rfl,MO.out,HH.out.chg hc3 (fun k e=>by subst e;exact hb2),hb2,dw_ HP2.out HB2.out hc3,HV2.out,HO.out,hp3⟩)
  clear hc3 hr hp3 h4
  go_wp2
  go_ret
  exact HEND.out
end
end Go.Proofs.YtpcniebkabkikaaGreatDoor
