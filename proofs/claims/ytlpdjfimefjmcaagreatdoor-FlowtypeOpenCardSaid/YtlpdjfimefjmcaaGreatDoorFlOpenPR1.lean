/- Memory that has been handed out and is not written again; what a call may have turned. Over any program. Plain: what a row of tokens is read as, by the document's grammar: the first fault and the number of its token, or what is read and the number of the token behind. No bytes, no memory. Plain: of  -/
import Derived.Below
import Derived.Deep.Draws
import Derived.Laws.AppendOwn
namespace Go.Proofs.Mm
open Go Go.RowKit
structure Chg (S:Nat→Prop) (w w':World):Prop where
 os:w'.os=w.os
 tape:w'.tape=w.tape
 output:w'.output=w.output
 size:w.heap.size≤w'.heap.size
 block:∀k,k<w.heap.size→¬S k→w'.heap[k]?=w.heap[k]?
theorem Chg.refl (S:Nat→Prop) (w:World):Chg S w w:=⟨rfl,rfl,rfl,Nat.le_refl _,fun _ _ _=>rfl⟩
theorem Chg.trans {S S':Nat→Prop} {a b c:World} (h:Chg S a b) (k:Chg S' b c) (hs:∀i,S' i→S i∨a.heap.size≤i):Chg S a c :=
 ⟨k.os.trans h.os,k.tape.trans h.tape,k.output.trans h.output,Nat.le_trans h.size k.size,fun i hi hn =>
  (k.block i (Nat.lt_of_lt_of_le hi h.size) (fun e=>by rcases hs i e with q | q <;> first | exact hn q | exact absurd hi (by omega))).trans (h.block i hi hn)⟩
theorem Chg.then {S:Nat→Prop} {a b c:World} (h:Chg S a b) (k:Chg S b c):Chg S a c:=h.trans k fun _ q=>.inl q
theorem Chg.mono {S S':Nat→Prop} {a b:World} (h:Chg S a b) (hs:∀i,S i→S' i∨a.heap.size≤i):Chg S' a b :=
 ⟨h.os,h.tape,h.output,h.size,fun i hi hn=>h.block i hi (fun e=>by rcases hs i e with q | q <;> first | exact hn q | exact absurd hi (by omega))⟩
theorem Chg.drew {S:Nat→Prop} {a w:World} (h:Chg S a w):Chg S a w.drew:=⟨h.os,h.tape,h.output,h.size,h.block⟩
theorem Chg.drewN {S:Nat→Prop} {a w:World} (h:Chg S a w) (n:Nat):Chg S a (w.drewN n):=⟨h.os,h.tape,h.output,h.size,h.block⟩
theorem Chg.alloc {S:Nat→Prop} {a w:World} (h:Chg S a w) (o:Obj):Chg S a (w.alloc o) :=
 h.then ⟨rfl,rfl,rfl,by simp,fun k hk _=>Below.heap_alloc _ _ _ hk⟩
theorem Chg.setCell {S:Nat→Prop} {a w:World} (h:Chg S a w) {p:Addr} (hp:S p.block∨a.heap.size≤p.block) (u:Value):Chg S a (w.setCell p u) :=
 h.trans (S':=fun i=>i=p.block) ⟨rfl,rfl,rfl,by simp [World.setCell],fun k _ hk=>Below.heap_setCell _ _ _ _ hk⟩ (fun i e=>by subst e;exact hp)
theorem Chg.below {S:Nat→Prop} {a w:World} (h:Chg S a w) {B:Nat} (hB:B≤a.heap.size) (hS:∀i,S i→B≤i):Below B a w :=
 ⟨h.os,h.tape,h.output,h.size,fun k hk=>h.block k (by omega) (fun e=>by have:=hS k e;omega)⟩
theorem Below.chg {B:Nat} {a w:World} (h:Below B a w) (hB:a.heap.size≤B) (S:Nat→Prop):Chg S a w :=
 ⟨h.os,h.tape,h.output,h.size,fun k hk _=>h.block k (by omega)⟩
theorem grown_chg {a w:World} {row:Option Nat} (h:a.grownBy w row) {S:Nat→Prop} (hr:∀k,row=some k→S k∨a.heap.size≤k):Chg S a w :=
 ⟨h.os,h.tape,h.output,h.size,fun k hk hn=>h.block k hk (fun e=>by rcases hr k e.symm with q | q <;> first | exact hn q | exact absurd hk (by omega))⟩
theorem Chg.cell {S:Nat→Prop} {a w:World} (h:Chg S a w) {p:Addr} {v:Value} (hc:a.cell? p=some v) (hn:¬S p.block):w.cell? p=some v :=
 (World.cell?_of_block (h.block _ (World.block_lt_of_cell? _ _ hc) hn)).trans hc
theorem heap_lt {w:World} {b:Nat} {o:Obj} (h:w.heap[b]?=some o):b<w.heap.size:=(Array.getElem?_eq_some_iff.1 h).1
theorem Chg.heap {S:Nat→Prop} {a w:World} (h:Chg S a w) {k:Nat} {o:Obj} (hc:a.heap[k]?=some o) (hn:¬S k):w.heap[k]?=some o :=
 (h.block k (heap_lt hc) hn).trans hc
abbrev Mem:=Nat→Option Obj
def Has (w:World) (m:Mem):Prop:=∀k o,m k=some o→w.heap[k]?=some o
def Mem.le (m m':Mem):Prop:=∀k o,m k=some o→m' k=some o
structure Mem.More (w:World) (m m':Mem):Prop where
 le:m.le m'
 new:∀k,m k=none→k<w.heap.size→m' k=none
theorem Mem.le.refl (m:Mem):m.le m:=fun _ _ h=>h
theorem Mem.le.trans {a b c:Mem} (h:a.le b) (k:b.le c):a.le c:=fun i o e=>k i o (h i o e)
theorem Mem.More.refl (w:World) (m:Mem):m.More w m:=⟨Mem.le.refl m,fun _ h _=>h⟩
theorem Mem.More.trans {w w':World} {a b c:Mem} (h:a.More w b) (k:b.More w' c) (hw:w.heap.size≤w'.heap.size):a.More w c :=
 ⟨h.le.trans k.le,fun i e hi=>k.new i (h.new i e hi) (by omega)⟩
theorem Mem.More.from {w w':World} {a b:Mem} (h:a.More w' b) (hw:w.heap.size≤w'.heap.size):a.More w b:=⟨h.le,fun i e hi=>h.new i e (by omega)⟩
theorem Has.chg {S:Nat→Prop} {w w':World} {m:Mem} (h:Has w m) (hc:Chg S w w') (hs:∀k,S k→m k=none):Has w' m:=fun k o e =>
 hc.heap (h k o e) (fun q=>by rw [hs k q] at e;cases e)
theorem Has.lt {w:World} {m:Mem} (h:Has w m) {k:Nat} (hk:w.heap.size≤k):m k=none:=by
 cases e:m k with
 | none=>rfl
 | some o=>have:=heap_lt (h k o e);omega
def Mem.put (m:Mem) (g:Nat) (o:Obj):Mem:=fun k=>if k=g then some o else m k
theorem Mem.put_le {m:Mem} {g:Nat} {o:Obj} (h:m g=none):m.le (m.put g o):=fun k o' e=>by
 unfold Mem.put
 split
 ·rename_i e';subst e';rw [h] at e;cases e
 ·exact e
theorem Mem.put_same (m:Mem) (g:Nat) (o:Obj):m.put g o g=some o:=by unfold Mem.put;rw [if_pos rfl]
theorem Mem.put_other {m:Mem} {g k:Nat} {o:Obj} (h:k≠g):m.put g o k=m k:=by unfold Mem.put;rw [if_neg h]
theorem Has.put {w:World} {m:Mem} {g:Nat} {o:Obj} (h:Has w m) (hg:w.heap[g]?=some o):Has w (m.put g o):=fun k o' e=>by
 unfold Mem.put at e
 split at e
 ·rename_i e';subst e';injection e with e;subst e;exact hg
 ·exact h k o' e
theorem Mem.More.put {w:World} {m:Mem} {g:Nat} {o:Obj} (h:m g=none) (hg:w.heap.size≤g):m.More w (m.put g o) :=
 ⟨Mem.put_le h,fun k e hk=>by rw [Mem.put_other (by omega)];exact e⟩
def RowM (m:Mem) (E:TypeId) (size:Nat) (v:Value) (n:Nat) (xs:List Value):Prop :=
 xs.length=n*size ∧
 ((v=.slice none 0 0∧n=0) ∨
  ∃g cap cur,v=.slice (some ⟨g,0,none⟩) n cap∧m g=some (.cells cur E (0,0))∧n≤cap∧cap≤maxLen∧cur.size=cap*size∧cur.toList.take (n*size)=xs)
theorem RowM.le {m m':Mem} {E:TypeId} {size n:Nat} {v:Value} {xs:List Value} (h:RowM m E size v n xs) (hm:m.le m'):RowM m' E size v n xs:=by
 obtain ⟨h1,h2|⟨g,cap,cur,h2,h3,h4⟩⟩:=h
 ·exact ⟨h1,.inl h2⟩
 ·exact ⟨h1,.inr ⟨g,cap,cur,h2,hm _ _ h3,h4⟩⟩
theorem RowM.nil (m:Mem) (E:TypeId) (size:Nat):RowM m E size (.slice none 0 0) 0 []:=⟨by simp,.inl ⟨rfl,rfl⟩⟩
theorem RowM.done {w:World} {m:Mem} {B:Nat} {E:TypeId} {size n:Nat} {v:Value} {xs:List Value} (h:w.ownsRow B E size v n xs) (hm:Has w m) (hv:∀k,v.ownBlock=some k→m k=none) :
 ∃m',m.le m'∧(∀k,m' k≠none→m k≠none∨v.ownBlock=some k)∧Has w m'∧RowM m' E size v n xs:=by
 obtain ⟨h1,⟨rfl,rfl⟩|⟨g,cap,cur,rfl,hb,hg,h4⟩⟩:=h
 ·exact ⟨m,Mem.le.refl m,fun k h=>.inl h,hm,h1,.inl ⟨rfl,rfl⟩⟩
 ·refine ⟨m.put g _,Mem.put_le (hv g rfl),fun k hk=>?_,hm.put hg,h1,.inr ⟨g,cap,cur,rfl,Mem.put_same _ _ _,h4⟩⟩
  by_cases e:k=g
  ·subst e;exact .inr rfl
  ·rw [Mem.put_other e] at hk;exact .inl hk
end Go.Proofs.Mm
namespace Go.Proofs.Syn
structure K where
 kind:Nat
 text:List Nat
 value:Nat
deriving DecidableEq
structure Tm where
 kind:Nat
 value:Nat
 name:List Nat
deriving DecidableEq
structure St where
 kind:Nat
 name:List Nat
 targets:List (List Nat)
 exprs:List (List Tm)
deriving DecidableEq
structure De where
 name:List Nat
 label:Nat
deriving DecidableEq
structure Ar where
 name:List Nat
 len:Nat
 label:Nat
deriving DecidableEq
structure Fn where
 name:List Nat
 level:Nat
 params:List De
 results:List Nat
 vars:List De
 body:List St
deriving DecidableEq
structure So where
 principals:List (List Nat)
 globals:List De
 arrays:List Ar
 channels:List De
 funcs:List Fn
deriving DecidableEq
abbrev R (α:Type):=Except (Nat × Nat) (α × Nat)
def R.on {α β:Type} (r:R α) (f:α→Nat→R β):R β :=
 match r with
 | .error e=>.error e
 | .ok (x,i)=>f x i
def tx (s:String):List Nat:=s.toUTF8.data.toList.map UInt8.toNat
section
variable (T:Nat→Option K) (F:Nat)
def is (i:Nat) (s:List Nat):Bool :=
 match T i with
 | some k=>(k.kind == 2 || k.kind == 4) && k.text == s
 | none=>false
def named (i:Nat):Bool :=
 match T i with
 | some k=>k.kind == 1
 | none=>false
def want (i:Nat) (s:List Nat):R Unit:=if is T i s then .ok ((),i+1) else .error (50,i)
def name (i:Nat):R (List Nat) :=
 match T i with
 | some k=>if k.kind=1 then .ok (k.text,i+1) else .error (50,i)
 | none=>.error (50,i)
def number (i:Nat):R Nat :=
 match T i with
 | some k=>if k.kind=3 then .ok (k.value,i+1) else .error (50,i)
 | none=>.error (50,i)
def labelF (ns:List (List Nat)):Nat→Nat→Nat→R Nat
 | 0,_,i=>.error (99,i)
 | f+1,l,i =>
  match T i with
  | some k =>
   if k.kind=1 then
    if ns.idxOf k.text<ns.length then labelF ns f (l ||| 1 <<< ns.idxOf k.text) (i+1) else .error (10,i)
   else .ok (l,i)
  | none=>.ok (l,i)
def label (ns:List (List Nat)) (i:Nat):R Nat :=
 (want T i [123]).on fun _ i=>(labelF T ns F 0 i).on fun l i=>(want T i [125]).on fun _ i=>.ok (l,i)
def decl (ns:List (List Nat)) (i:Nat):R De :=
 (name T i).on fun s i=>(label T F ns i).on fun l i=>.ok (⟨s,l⟩,i)
def marks:Nat→List (List Nat × Nat)
 | 0=>[([61,61],11),([33,61],12),([60],13),([60,61],14)]
 | 1=>[([124],7),([94],8)]
 | 2=>[([38],6)]
 | 3=>[([60,60],9),([62,62],10)]
 | 4=>[([43],1),([45],2)]
 | _=>[([42],3),([47],4),([37],5)]
def opOf (ms:List (List Nat × Nat)) (i:Nat):Nat :=
 match ms.find? fun m=>is T i m.1 with
 | some m=>m.2
 | none=>0
def loopF (p:Nat→R (List Tm)) (ms:List (List Nat × Nat)):Nat→List Tm→Nat→R (List Tm)
 | 0,_,i=>.error (99,i)
 | f+1,l,i=>if opOf T ms i=0 then .ok (l,i) else (p (i+1)).on fun r j=>loopF p ms f (l++r++[⟨5,opOf T ms i,[]⟩]) j
def tower (u:Nat→R (List Tm)):Nat→Nat→R (List Tm)
 | 0,i=>u i
 | k+1,i=>(tower u k i).on fun l j=>loopF T (tower u k) (marks (5 - k)) F l j
def unOps:Nat→Nat→R (List Nat)
 | 0,i=>.error (99,i)
 | f+1,i=>if opOf T [([45],15),([33],16),([126],17)] i=0 then .ok ([],i) else (unOps f (i+1)).on fun l j=>.ok (opOf T [([45],15),([33],16),([126],17)] i::l,j)
def unary (e:Option (Nat→R (List Tm))) (i:Nat):R (List Tm) :=
 (unOps T F i).on fun ops i =>
  R.on (β:=List Tm)
   (match T i with
    | none=>.error (50,i)
    | some k =>
     if k.kind=3 then .ok ([⟨1,k.value,[]⟩],i+1)
     else if is T i [40] then
      match e with
      | none=>.error (51,i)
      | some p=>(p (i+1)).on fun l i=>(want T i [41]).on fun _ i=>.ok (l,i)
     else (name T i).on fun s i =>
      if is T i [91] then
       match e with
       | none=>.error (51,i)
       | some p=>(p (i+1)).on fun l i=>(want T i [93]).on fun _ i=>.ok (l++[⟨3,0,s⟩],i)
      else .ok ([⟨2,0,s⟩],i))
   fun l i=>.ok (l++ops.reverse.map fun o=>⟨4,o,[]⟩,i)
def exprD:Nat→Nat→R (List Tm)
 | 0=>tower T F (unary T F none) 6
 | d+1=>tower T F (unary T F (some (exprD d))) 6
def expr:Nat→R (List Tm):=exprD T F 12
def listF (e:Nat→R (List Tm)) (fin:List Nat):Nat→List (List Tm)→Nat→R (List (List Tm))
 | 0,_,i=>.error (99,i)
 | f+1,l,i=>(e i).on fun x i =>
  if is T i fin then .ok (l++[x],i+1) else if is T i [44] then listF e fin f (l++[x]) (i+1) else .error (50,i)
def list (fin:List Nat) (i:Nat):R (List (List Tm)):=if is T i fin then .ok ([],i+1) else listF T (expr T F) fin F [] i
def targetsF:Nat→List (List Nat)→Nat→R (List (List Nat))
 | 0,_,i=>.error (99,i)
 | f+1,l,i=>if is T i [44] then (name T (i+1)).on fun s i=>targetsF f (l++[s]) i else .ok (l,i)
def stmtsF (s:Nat→R (List St)) (fin:List Nat):Nat→List St→Nat→R (List St)
 | 0,_,i=>.error (99,i)
 | f+1,l,i=>if is T i fin then .ok (l,i+1) else (s i).on fun x i=>stmtsF s fin f (l++x) i
def block (s:Option (Nat→R (List St))) (i:Nat):R (List St) :=
 match s with
 | none=>if is T i [123] then .error (51,i) else .error (50,i)
 | some s=>(want T i [123]).on fun _ i=>stmtsF T s [125] F [] i
def call (ts:List (List Nat)) (s:List Nat) (i:Nat):R (List St) :=
 (want T i [40]).on fun _ i=>(list T F [41] i).on fun l i=>(want T i [59]).on fun _ i=>.ok ([⟨4,s,ts,l⟩],i)
def plain (i:Nat):R (List St) :=
 (name T i).on fun s i =>
  if is T i [91] then
   (expr T F (i+1)).on fun a i=>(want T i [93]).on fun _ i=>(want T i [61]).on fun _ i=>(expr T F i).on fun b i=>(want T i [59]).on fun _ i=>.ok ([⟨2,s,[],[a,b]⟩],i)
  else if is T i [40] then call T F [] s i
  else (targetsF T F [s] i).on fun ts i=>(want T i [61]).on fun _ i =>
   if ts.length=1∧¬(named T i=true∧is T (i+1) [40]=true) then
    (expr T F i).on fun e i=>(want T i [59]).on fun _ i=>.ok ([⟨1,[],ts,[e]⟩],i)
   else (name T i).on fun s i=>call T F ts s i
def stmtOf (s:Option (Nat→R (List St))) (i:Nat):R (List St) :=
 if is T i (tx "if") then
  (expr T F (i+1)).on fun e i=>(block T F s i).on fun a i =>
   if is T i (tx "else") then (block T F s (i + 1)).on fun b i => .ok (⟨5, [], [], [e]⟩ :: a ++ ⟨6, [], [], []⟩ :: b ++ [⟨8, [], [], []⟩], i)
   else .ok (⟨5,[],[],[e]⟩::a++[⟨8,[],[],[]⟩],i)
 else if is T i (tx "while") then
  (expr T F (i+1)).on fun e i=>(block T F s i).on fun a i=>.ok (⟨7,[],[],[e]⟩::a++[⟨8,[],[],[]⟩],i)
 else if is T i (tx "send") then
  (name T (i+1)).on fun c i=>(expr T F i).on fun e i=>(want T i [59]).on fun _ i=>.ok ([⟨3,c,[],[e]⟩],i)
 else plain T F i
def stmtD:Nat→Nat→R (List St)
 | 0=>stmtOf T F none
 | d+1=>stmtOf T F (some (stmtD d))
def rowF {α:Type} (p:Nat→R α):Nat→List α→Nat→R (List α)
 | 0,_,i=>.error (99,i)
 | f+1,l,i=>(p i).on fun x i =>
  if is T i [41] then .ok (l++[x],i+1) else if is T i [44] then rowF p f (l++[x]) (i+1) else .error (50,i)
def row {α:Type} (p:Nat→R α) (i:Nat):R (List α):=(want T i [40]).on fun _ i=>if is T i [41] then .ok ([],i+1) else rowF T p F [] i
def varsF (ns:List (List Nat)):Nat→List De→Nat→R (List De)
 | 0,_,i=>.error (99,i)
 | f + 1, l, i => if is T i (tx "var") then (decl T F ns (i + 1)).on fun d i => (want T i [59]).on fun _ i => varsF ns f (l ++ [d]) i else .ok (l, i)
def func (ns:List (List Nat)) (i:Nat):R Fn :=
 (name T i).on fun s i=>(label T F ns i).on fun l i=>(row T F (decl T F ns) i).on fun ps i=>(row T F (label T F ns) i).on fun rs i =>
  (want T i [123]).on fun _ i => (varsF T F ns F [] i).on fun vs i => (stmtsF T (stmtD T F 12) (tx "return") F [] i).on fun b i =>
   (list T F [59] i).on fun es i=>(want T i [125]).on fun _ i=>.ok (⟨s,l,ps,rs,vs,b++[⟨9,[],[],es⟩]⟩,i)
def namesF:Nat→List (List Nat)→Nat→R (List (List Nat))
 | 0,_,i=>.error (99,i)
 | f+1,l,i=>(name T i).on fun s j =>
  if l.length=64 then .error (74,i) else if named T j then namesF f (l++[s]) j else .ok (l++[s],j)
def principalsF:Nat→List (List Nat)→Nat→R (List (List Nat))
 | 0,_,i=>.error (99,i)
 | f + 1, l, i => if is T i (tx "principal") then (namesF T F l (i + 1)).on fun l i => (want T i [59]).on fun _ i => principalsF f l i else .ok (l, i)
def declsF (ns:List (List Nat)):Nat→So→Nat→R So
 | 0,_,i=>.error (99,i)
 | f+1,s,i =>
  match T i with
  | none=>.ok (s,i)
  | some _ =>
   if is T i (tx "global") then (decl T F ns (i + 1)).on fun d i => (want T i [59]).on fun _ i => declsF ns f { s with globals := s.globals ++ [d] } i
   else if is T i (tx "channel") then (decl T F ns (i + 1)).on fun d i => (want T i [59]).on fun _ i => declsF ns f { s with channels := s.channels ++ [d] } i
   else if is T i (tx "array") then
    (name T (i+1)).on fun n i=>(number T i).on fun v i=>(label T F ns i).on fun l i=>(want T i [59]).on fun _ i=>declsF ns f { s with arrays:=s.arrays++[⟨n,v,l⟩] } i
   else if is T i (tx "func") then (func T F ns (i + 1)).on fun g i => declsF ns f { s with funcs := s.funcs ++ [g] } i
   else .error (50,i)
def source:R So:=(principalsF T F F [] 0).on fun ns i=>declsF T F ns F ⟨ns,[],[],[],[]⟩ i
def whole1:R (List Tm):=(expr T F 0).on fun l i=>if (T i).isSome then .error (50,i) else .ok (l,i)
end
def run:List Tm→Nat→Option Nat
 | [],n=>some n
 | t::l,n =>
  if t.kind=1∨t.kind=2 then run l (n+1)
  else if t.kind=3∨t.kind=4∧15≤t.value∧t.value≤17 then (if n<1 then none else run l n)
  else if t.kind=5∧1≤t.value∧t.value≤14 then (if n<2 then none else run l (n - 1))
  else none
def Wh (l:List Tm):Prop:=∀(n:Nat) (r:List Tm),run (l++r) n=run r (n+1)
theorem wh_num (v:Nat):Wh [⟨1,v,[]⟩]:=fun n r=>by simp [Syn.run]
theorem wh_name (s:List Nat):Wh [⟨2,0,s⟩]:=fun n r=>by simp [Syn.run]
theorem Wh.index {l:List Tm} (h:Wh l) (s:List Nat):Wh (l++[⟨3,0,s⟩]):=fun n r=>by
 rw [List.append_assoc,h];simp [Syn.run]
theorem Wh.un {l:List Tm} (h:Wh l) {o:Nat} (h1:15≤o) (h2:o≤17):Wh (l++[⟨4,o,[]⟩]):=fun n r=>by
 rw [List.append_assoc,h];simp [Syn.run,h1,h2]
theorem Wh.bin {l r:List Tm} (h:Wh l) (h':Wh r) {o:Nat} (h1:1≤o) (h2:o≤14):Wh (l++r++[⟨5,o,[]⟩]):=fun n q=>by
 rw [List.append_assoc,List.append_assoc,h,h'];simp [Syn.run,h1,h2];intro;omega
theorem Wh.uns {l:List Tm} (h:Wh l):∀(ops:List Nat),(∀o∈ops,15≤o∧o≤17)→Wh (l++ops.map fun o=>⟨4,o,[]⟩)
 | [],_=>by rwa [List.map_nil,List.append_nil]
 | o::ops,ho=>by
  have h1:=ho o (List.mem_cons_self ..)
  have:=Wh.uns (h.un h1.1 h1.2) ops (fun x hx=>ho x (List.mem_cons_of_mem _ hx))
  rwa [List.append_assoc] at this
section
variable {T:Nat→Option K} {F:Nat}
theorem R.on_ok {α β:Type} {r:R α} {f:α→Nat→R β} {y:β} {j:Nat} (h:r.on f=.ok (y,j)):∃x i,r=.ok (x,i)∧f x i=.ok (y,j):=by
 match r,h with
 | .ok (x,i),h=>exact ⟨x,i,rfl,h⟩
theorem want_ok {i j:Nat} {s:List Nat} {u:Unit} (h:want T i s=.ok (u,j)):is T i s=true∧j=i+1:=by
 unfold want at h
 split at h
 ·rename_i hi
  injection h with h;injection h with _ h
  exact ⟨hi,h.symm⟩
 ·cases h
theorem name_ok {i j:Nat} {s:List Nat} (h:name T i=.ok (s,j)):named T i=true∧j=i+1∧∃k,T i=some k∧k.text=s∧k.kind=1:=by
 unfold name at h
 split at h
 ·rename_i k hk
  split at h
  ·rename_i h1
   injection h with h;injection h with h2 h
   exact ⟨by simp [named,hk,h1],h.symm,k,hk,h2,h1⟩
  ·cases h
 ·cases h
theorem opOf_mem {ms:List (List Nat × Nat)} {i:Nat} (h:opOf T ms i≠0):∃m∈ms,m.2=opOf T ms i:=by
 unfold opOf at h ⊢
 split
 ·rename_i m hm
  exact ⟨m,List.mem_of_find?_eq_some hm,rfl⟩
 ·rename_i hm
  rw [hm] at h
  exact absurd rfl h
theorem marks_ok (k:Nat):∀m∈marks k,1≤m.2∧m.2≤14:=by
 have:(marks k).all (fun m=>decide (1≤m.2∧m.2≤14))=true:=by
  unfold marks
  split <;> decide
 intro m hm
 simpa using List.all_eq_true.1 this m hm
def Good (p:Nat→R (List Tm)):Prop:=∀i l j,p i=.ok (l,j)→Wh l∧i<j
theorem loop_good {p:Nat→R (List Tm)} (hp:Good p) (k:Nat):∀(f:Nat) (l:List Tm) (i:Nat) (l':List Tm) (j:Nat),Wh l→loopF T p (marks k) f l i=.ok (l',j)→Wh l'∧i≤j
 | 0,_,_,_,_,_,h=>by cases h
 | f+1,l,i,l',j,hl,h=>by
  rw [loopF] at h
  split at h
  ·injection h with h;injection h with h1 h2
   subst h1;subst h2
   exact ⟨hl,Nat.le_refl _⟩
  ·rename_i ho
   obtain ⟨r,i2,h1,h2⟩:=R.on_ok h
   obtain ⟨hr,hi⟩:=hp _ _ _ h1
   obtain ⟨m,hm,he⟩:=opOf_mem ho
   have hb:=marks_ok k m hm
   rw [he] at hb
   obtain ⟨a,b⟩:=loop_good hp k f _ i2 l' j (hl.bin hr hb.1 hb.2) h2
   exact ⟨a,by omega⟩
theorem tower_good {u:Nat→R (List Tm)} (hu:Good u):∀k,Good (tower T F u k)
 | 0=>fun i l j h=>hu i l j h
 | k+1=>fun i l j h=>by
  rw [tower] at h
  obtain ⟨l1,i1,h1,h2⟩:=R.on_ok h
  obtain ⟨a,b⟩:=tower_good hu k _ _ _ h1
  obtain ⟨c,d⟩:=loop_good (tower_good hu k) _ _ _ _ _ _ a h2
  exact ⟨c,by omega⟩
theorem unOps_good:∀(f i:Nat) (l:List Nat) (j:Nat),unOps T f i=.ok (l,j)→(∀o∈l,15≤o∧o≤17)∧i≤j
 | 0,_,_,_,h=>by cases h
 | f+1,i,l,j,h=>by
  rw [unOps] at h
  split at h
  ·injection h with h;injection h with h1 h2
   subst h1;subst h2
   exact ⟨fun _ hx=>(by cases hx),Nat.le_refl _⟩
  ·rename_i ho
   obtain ⟨l1,i1,h1,h2⟩:=R.on_ok h
   injection h2 with h2;injection h2 with h2 h3
   subst h2;subst h3
   obtain ⟨a,b⟩:=unOps_good f _ _ _ h1
   obtain ⟨m,hm,he⟩:=opOf_mem ho
   have hb:15≤m.2∧m.2≤17:=by
    have:([([45],15),([33],16),([126],17)]:List (List Nat × Nat)).all (fun m=>decide (15≤m.2∧m.2≤17))=true:=by decide
    simpa using List.all_eq_true.1 this m hm
   rw [he] at hb
   refine ⟨fun o hx=>?_,by omega⟩
   rcases List.mem_cons.1 hx with rfl|hx
   ·exact hb
   ·exact a o hx
theorem unary_good {e:Option (Nat→R (List Tm))} (he:∀p,e=some p→Good p):Good (unary T F e):=by
 intro i l j h
 unfold unary at h
 obtain ⟨ops,i1,h1,h⟩:=R.on_ok h
 obtain ⟨ho,hi⟩:=unOps_good _ _ _ _ h1
 obtain ⟨l2,i2,h2,h⟩:=R.on_ok h
 injection h with h;injection h with h3 h4
 subst h3;subst h4
 have key:Wh l2∧i1<i2:=by
  split at h2
  ·cases h2
  ·split at h2
   ·injection h2 with h2;injection h2 with h3 h4
    subst h3;subst h4
    exact ⟨wh_num _,by omega⟩
   ·split at h2
    ·split at h2
     ·cases h2
     ·obtain ⟨l3,i3,h3,h2⟩:=R.on_ok h2
      obtain ⟨_,i4,h4,h2⟩:=R.on_ok h2
      injection h2 with h2;injection h2 with h5 h6
      subst h5;subst h6
      obtain ⟨a,b⟩:=he _ rfl _ _ _ h3
      have:=(want_ok h4).2
      exact ⟨a,by omega⟩
    ·obtain ⟨s,i3,h3,h2⟩:=R.on_ok h2
     have hs:=(name_ok h3).2.1
     split at h2
     ·split at h2
      ·cases h2
      ·obtain ⟨l4,i4,h4,h2⟩:=R.on_ok h2
       obtain ⟨_,i5,h5,h2⟩:=R.on_ok h2
       injection h2 with h2;injection h2 with h6 h7
       subst h6;subst h7
       obtain ⟨a,b⟩:=he _ rfl _ _ _ h4
       have:=(want_ok h5).2
       exact ⟨a.index s,by omega⟩
     ·injection h2 with h2;injection h2 with h6 h7
      subst h6;subst h7
      exact ⟨wh_name s,by omega⟩
 exact ⟨key.1.uns _ (fun o hx=>ho o (List.mem_reverse.1 hx)),by omega⟩
theorem expr_good:∀d,Good (exprD T F d)
 | 0=>tower_good (unary_good (fun p h=>by cases h)) 6
 | d+1=>tower_good (unary_good (fun p h=>by cases h;exact expr_good d)) 6
end
structure StOk (s:St):Prop where
 low:1≤s.kind
 high:s.kind≤8
 one:s.kind=1∨s.kind=3∨s.kind=5∨s.kind=7→s.exprs.length=1
 two:s.kind=2→s.exprs.length=2
 none:s.kind=6∨s.kind=8→s.exprs.length=0
 target:s.kind=1→s.targets.length=1
 whole:∀e∈s.exprs,Wh e
def nest:List Nat→List Bool→Option (List Bool)
 | [],st=>some st
 | k::l,st =>
  if k=5 then nest l (true::st)
  else if k=7 then nest l (false::st)
  else if k=6 then (match st with
   | true::st=>nest l (false::st)
   | _=>none)
  else if k=8 then (match st with
   | _::st=>nest l st
   | []=>none)
  else nest l st
theorem nest_5 (l:List Nat) (st:List Bool):nest (5::l) st=nest l (true::st):=by simp [nest]
theorem nest_7 (l:List Nat) (st:List Bool):nest (7::l) st=nest l (false::st):=by simp [nest]
theorem nest_6 (l:List Nat) (st:List Bool):nest (6::l) (true::st)=nest l (false::st):=by simp [nest]
theorem nest_8 (l:List Nat) (x:Bool) (st:List Bool):nest (8::l) (x::st)=nest l st:=by simp [nest]
def Bal (l:List Nat):Prop:=∀st r,nest (l++r) st=nest r st
theorem Bal.nil:Bal []:=fun _ _=>rfl
theorem Bal.one {k:Nat} (h5:k≠5) (h6:k≠6) (h7:k≠7) (h8:k≠8):Bal [k]:=fun st r=>by simp [nest,h5,h6,h7,h8]
theorem Bal.app {l m:List Nat} (h:Bal l) (h':Bal m):Bal (l++m):=fun st r=>by rw [List.append_assoc,h,h']
theorem Bal.ifs {a:List Nat} (h:Bal a):Bal (5::a++[8]):=fun st r=>by
 rw [List.append_assoc];show nest (5::(a++([8]++r))) st=_
 rw [nest_5,h];exact nest_8 _ _ _
theorem Bal.whiles {a:List Nat} (h:Bal a):Bal (7::a++[8]):=fun st r=>by
 rw [List.append_assoc];show nest (7::(a++([8]++r))) st=_
 rw [nest_7,h];exact nest_8 _ _ _
theorem Bal.elses {a b:List Nat} (h:Bal a) (h':Bal b):Bal (5::a++6::b++[8]):=fun st r=>by
 rw [List.append_assoc,List.append_assoc];show nest (5::(a++(6::(b++([8]++r))))) st=_
 rw [nest_5,h,nest_6,h']
 exact nest_8 _ _ _
section
variable {T:Nat→Option K} {F:Nat}
def GoodS (p:Nat→R (List St)):Prop:=∀i l j,p i=.ok (l,j)→(∀s∈l,StOk s)∧Bal (l.map St.kind)∧i<j
theorem mem_snoc {α:Type} {P:α→Prop} {l:List α} {x:α} (h:∀y∈l,P y) (hx:P x):∀y∈l++[x],P y:=by
 intro y hy
 rcases List.mem_append.1 hy with hy|hy
 ·exact h y hy
 ·rw [List.mem_singleton.1 hy];exact hx
theorem mem_app {α:Type} {P:α→Prop} {l m:List α} (h:∀y∈l,P y) (h':∀y∈m,P y):∀y∈l++m,P y:=by
 intro y hy
 rcases List.mem_append.1 hy with hy|hy
 ·exact h y hy
 ·exact h' y hy
theorem list_good {e:Nat→R (List Tm)} (he:Good e) (fin:List Nat):∀(f:Nat) (l:List (List Tm)) (i:Nat) (l':List (List Tm)) (j:Nat),(∀x∈l,Wh x)→listF T e fin f l i=.ok (l',j)→(∀x∈l',Wh x)∧i<j
 | 0,_,_,_,_,_,h=>by cases h
 | f+1,l,i,l',j,hl,h=>by
  rw [listF] at h
  obtain ⟨x,i1,h1,h⟩:=R.on_ok h
  obtain ⟨hx,hi⟩:=he _ _ _ h1
  split at h
  ·injection h with h;injection h with h2 h3
   subst h2;subst h3
   exact ⟨mem_snoc hl hx,by omega⟩
  ·split at h
   ·obtain ⟨a,b⟩:=list_good he fin f _ _ _ _ (mem_snoc hl hx) h
    exact ⟨a,by omega⟩
   ·cases h
theorem listed_good {fin:List Nat} {i j:Nat} {l:List (List Tm)} (h:list T F fin i=.ok (l,j)):(∀x∈l,Wh x)∧i<j:=by
 unfold list at h
 split at h
 ·injection h with h;injection h with h2 h3
  subst h2;subst h3
  exact ⟨fun _ hx=>(by cases hx),by omega⟩
 ·exact list_good (expr_good 12) _ _ _ _ _ _ (fun _ hx=>(by cases hx)) h
theorem targets_good:∀(f:Nat) (l:List (List Nat)) (i:Nat) (l':List (List Nat)) (j:Nat),targetsF T f l i=.ok (l',j)→i≤j
 | 0,_,_,_,_,h=>by cases h
 | f+1,l,i,l',j,h=>by
  rw [targetsF] at h
  split at h
  ·obtain ⟨s,i1,h1,h⟩:=R.on_ok h
   have:=(name_ok h1).2.1
   have:=targets_good f _ _ _ _ h
   omega
  ·injection h with h;injection h with h2 h3
   omega
theorem call_good {ts:List (List Nat)} {s:List Nat} {i j:Nat} {l:List St} (h:call T F ts s i=.ok (l,j)):(∀s∈l,StOk s)∧Bal (l.map St.kind)∧i<j:=by
 unfold call at h
 obtain ⟨_,i1,h1,h⟩:=R.on_ok h
 obtain ⟨es,i2,h2,h⟩:=R.on_ok h
 obtain ⟨_,i3,h3,h⟩:=R.on_ok h
 injection h with h;injection h with h4 h5
 subst h4;subst h5
 have a:=(want_ok h1).2
 have b:=listed_good h2
 have c:=(want_ok h3).2
 refine ⟨fun x hx=>?_,Bal.one (by simp) (by simp) (by simp) (by simp),by omega⟩
 rw [List.mem_singleton.1 hx]
 exact ⟨by simp,by simp,by simp,by simp,by simp,by simp,b.1⟩
theorem plain_good:GoodS (plain T F):=by
 intro i l j h
 unfold plain at h
 obtain ⟨s,i1,h1,h⟩:=R.on_ok h
 have n1:=(name_ok h1).2.1
 split at h
 ·obtain ⟨a,i2,h2,h⟩:=R.on_ok h
  obtain ⟨_,i3,h3,h⟩:=R.on_ok h
  obtain ⟨_,i4,h4,h⟩:=R.on_ok h
  obtain ⟨b,i5,h5,h⟩:=R.on_ok h
  obtain ⟨_,i6,h6,h⟩:=R.on_ok h
  injection h with h;injection h with h7 h8
  subst h7;subst h8
  have g2:=expr_good 12 _ _ _ h2
  have g3:=(want_ok h3).2
  have g4:=(want_ok h4).2
  have g5:=expr_good 12 _ _ _ h5
  have g6:=(want_ok h6).2
  refine ⟨fun x hx=>?_,Bal.one (by simp) (by simp) (by simp) (by simp),by omega⟩
  rw [List.mem_singleton.1 hx]
  refine ⟨by simp,by simp,by simp,by simp,by simp,by simp,?_⟩
  intro e he
  rcases (show e=a∨e=b by simpa using he) with rfl|rfl
  ·exact g2.1
  ·exact g5.1
 ·split at h
  ·have:=call_good h
   exact ⟨this.1,this.2.1,by omega⟩
  ·obtain ⟨ts,i2,h2,h⟩:=R.on_ok h
   obtain ⟨_,i3,h3,h⟩:=R.on_ok h
   have g2:=targets_good _ _ _ _ _ h2
   have g3:=(want_ok h3).2
   split at h
   ·rename_i ht
    obtain ⟨e,i4,h4,h⟩:=R.on_ok h
    obtain ⟨_,i5,h5,h⟩:=R.on_ok h
    injection h with h;injection h with h7 h8
    subst h7;subst h8
    have g4:=expr_good 12 _ _ _ h4
    have g5:=(want_ok h5).2
    refine ⟨fun x hx=>?_,Bal.one (by simp) (by simp) (by simp) (by simp),by omega⟩
    rw [List.mem_singleton.1 hx]
    refine ⟨by simp,by simp,by simp,by simp,by simp,fun _=>ht.1,?_⟩
    intro y hy
    rw [List.mem_singleton.1 hy]
    exact g4.1
   ·obtain ⟨s,i4,h4,h⟩:=R.on_ok h
    have g4:=(name_ok h4).2.1
    have:=call_good h
    exact ⟨this.1,this.2.1,by omega⟩
theorem stmts_good {s:Nat→R (List St)} (hs:GoodS s) (fin:List Nat):∀(f:Nat) (l:List St) (i:Nat) (l':List St) (j:Nat),(∀x∈l,StOk x)→Bal (l.map St.kind)→stmtsF T s fin f l i=.ok (l',j)→(∀x∈l',StOk x)∧Bal (l'.map St.kind)∧i<j
 | 0,_,_,_,_,_,_,h=>by cases h
 | f+1,l,i,l',j,hl,hb,h=>by
  rw [stmtsF] at h
  split at h
  ·injection h with h;injection h with h2 h3
   subst h2;subst h3
   exact ⟨hl,hb,by omega⟩
  ·obtain ⟨x,i1,h1,h⟩:=R.on_ok h
   obtain ⟨a,b,c⟩:=hs _ _ _ h1
   obtain ⟨d,e,g⟩:=stmts_good hs fin f _ _ _ _ (mem_app hl a) (by rw [List.map_append];exact hb.app b) h
   exact ⟨d,e,by omega⟩
theorem block_good {s:Option (Nat→R (List St))} (hs:∀p,s=some p→GoodS p):GoodS (block T F s):=by
 intro i l j h
 unfold block at h
 split at h
 ·split at h <;> cases h
 ·obtain ⟨_,i1,h1,h⟩:=R.on_ok h
  have g:=(want_ok h1).2
  obtain ⟨a,b,c⟩:=stmts_good (hs _ rfl) _ _ [] _ _ _ (fun _ hx=>(by cases hx)) Bal.nil h
  exact ⟨a,b,by omega⟩
theorem stOk_1 (k:Nat) (hk:k=5∨k=7) {e:List Tm} (h:Wh e):StOk ⟨k,[],[],[e]⟩:=by
 refine ⟨?_,?_,fun _=>rfl,?_,?_,?_,fun x hx=>by rw [List.mem_singleton.1 hx];exact h⟩
 all_goals (try intro h1);simp only at *;omega
theorem stOk_0 (k:Nat) (hk:k=6∨k=8):StOk ⟨k,[],[],[]⟩:=by
 refine ⟨?_,?_,?_,?_,fun _=>rfl,?_,fun x hx=>by cases hx⟩
 all_goals (try intro h1);simp only at *;omega
theorem stmtOf_good {s:Option (Nat→R (List St))} (hs:∀p,s=some p→GoodS p):GoodS (stmtOf T F s):=by
 intro i l j h
 unfold stmtOf at h
 split at h
 ·obtain ⟨e,i1,h1,h⟩:=R.on_ok h
  obtain ⟨a,i2,h2,h⟩:=R.on_ok h
  have g1:=expr_good 12 _ _ _ h1
  have g2:=block_good hs _ _ _ h2
  split at h
  ·obtain ⟨b,i3,h3,h⟩:=R.on_ok h
   have g3:=block_good hs _ _ _ h3
   injection h with h;injection h with h4 h5
   subst h4;subst h5
   refine ⟨?_,?_,by omega⟩
   ·intro x hx
    simp only [List.cons_append,List.mem_cons,List.mem_append,List.append_assoc,List.not_mem_nil,or_false] at hx
    rcases hx with rfl|hx|rfl|hx|rfl
    ·exact stOk_1 5 (.inl rfl) g1.1
    ·exact g2.1 x hx
    ·exact stOk_0 6 (.inl rfl)
    ·exact g3.1 x hx
    ·exact stOk_0 8 (.inr rfl)
   ·simpa using Bal.elses g2.2.1 g3.2.1
  ·injection h with h;injection h with h4 h5
   subst h4;subst h5
   refine ⟨?_,?_,by omega⟩
   ·intro x hx
    simp only [List.cons_append,List.mem_cons,List.mem_append,List.not_mem_nil,or_false] at hx
    rcases hx with rfl|hx|rfl
    ·exact stOk_1 5 (.inl rfl) g1.1
    ·exact g2.1 x hx
    ·exact stOk_0 8 (.inr rfl)
   ·simpa using Bal.ifs g2.2.1
 ·split at h
  ·obtain ⟨e,i1,h1,h⟩:=R.on_ok h
   obtain ⟨a,i2,h2,h⟩:=R.on_ok h
   have g1:=expr_good 12 _ _ _ h1
   have g2:=block_good hs _ _ _ h2
   injection h with h;injection h with h4 h5
   subst h4;subst h5
   refine ⟨?_,?_,by omega⟩
   ·intro x hx
    simp only [List.cons_append,List.mem_cons,List.mem_append,List.not_mem_nil,or_false] at hx
    rcases hx with rfl|hx|rfl
    ·exact stOk_1 7 (.inr rfl) g1.1
    ·exact g2.1 x hx
    ·exact stOk_0 8 (.inr rfl)
   ·simpa using Bal.whiles g2.2.1
  ·split at h
   ·obtain ⟨c,i1,h1,h⟩:=R.on_ok h
    obtain ⟨e,i2,h2,h⟩:=R.on_ok h
    obtain ⟨_,i3,h3,h⟩:=R.on_ok h
    injection h with h;injection h with h4 h5
    subst h4;subst h5
    have g1:=(name_ok h1).2.1
    have g2:=expr_good 12 _ _ _ h2
    have g3:=(want_ok h3).2
    refine ⟨fun x hx=>?_,Bal.one (by simp) (by simp) (by simp) (by simp),by omega⟩
    rw [List.mem_singleton.1 hx]
    refine ⟨by simp,by simp,by simp,by simp,by simp,by simp,?_⟩
    intro y hy
    rw [List.mem_singleton.1 hy]
    exact g2.1
   ·exact plain_good _ _ _ h
theorem stmt_good:∀d,GoodS (stmtD T F d)
 | 0=>stmtOf_good (fun p h=>by cases h)
 | d+1=>stmtOf_good (fun p h=>by cases h;exact stmt_good d)
end
def fin {α:Type}:R α→Nat
 | .error e=>e.2
 | .ok x=>x.2
def L {α:Type} (m i:Nat) (r r':R α):Prop:=i≤fin r∧(fin r≤m→r'=r)
theorem L.on {α β:Type} {m i:Nat} {r r':R α} {f f':α→Nat→R β} (h:L m i r r') (hf:∀x j,r=.ok (x,j)→L m j (f x j) (f' x j)):L m i (r.on f) (r'.on f'):=by
 match r,h,hf with
 | .error e,h,_=>exact ⟨h.1,fun hm=>by rw [h.2 hm];rfl⟩
 | .ok (x,j),h,hf =>
  have g:=hf x j rfl
  have h1:i≤j:=h.1
  have h2:j≤fin (f x j):=g.1
  refine ⟨Nat.le_trans h1 h2,fun hm=>?_⟩
  have hm':fin (f x j)≤m:=hm
  rw [h.2 (Nat.le_trans h2 hm')]
  exact g.2 hm'
theorem L.from {α:Type} {m i k:Nat} {r r':R α} (h:L m k r r') (hik:i≤k):L m i r r':=⟨Nat.le_trans hik h.1,h.2⟩
theorem L.ok {α:Type} {m i j:Nat} (x:α) (h:i≤j):L m i (.ok (x,j):R α) (.ok (x,j)):=⟨h,fun _=>rfl⟩
theorem L.err {α:Type} {m i j:Nat} (e:Nat) (h:i≤j):L m i (.error (e,j):R α) (.error (e,j)):=⟨h,fun _=>rfl⟩
theorem L.low {α:Type} {m i:Nat} {r r':R α} (h1:i≤fin r) (h:i≤m→L m i r r'):L m i r r':=⟨h1,fun hm=>(h (Nat.le_trans h1 hm)).2 hm⟩
theorem L.sw {α:Type} {m i:Nat} {c c':Bool} {a a' b b':R α} (hc:i≤m→c'=c) (ha:L m i a a') (hb:L m i b b'):L m i (if c=true then a else b) (if c'=true then a' else b'):=by
 refine L.low ?_ fun h=>?_
 ·split
  ·exact ha.1
  ·exact hb.1
 ·rw [hc h]
  split
  ·exact ha
  ·exact hb
theorem on_fin {α β:Type} {r:R α} {f:α→Nat→R β} (h:∀x j,r=.ok (x,j)→j≤fin (f x j)):fin r≤fin (r.on f):=by
 match r,h with
 | .error e,_=>exact Nat.le_refl _
 | .ok (x,j),h=>exact h x j rfl
section
variable {T T':Nat→Option K} {F m:Nat} (hT:∀i,i≤m→T' i=T i)
include hT
theorem is_loc {i:Nat} (s:List Nat) (h:i≤m):is T' i s=is T i s:=by unfold is;rw [hT i h]
theorem named_loc {i:Nat} (h:i≤m):named T' i=named T i:=by unfold named;rw [hT i h]
theorem opOf_loc {i:Nat} (ms:List (List Nat × Nat)) (h:i≤m):opOf T' ms i=opOf T ms i:=by
 unfold opOf
 rw [show (fun m:List Nat × Nat=>is T' i m.1)=fun m=>is T i m.1 from funext fun x=>is_loc hT x.1 h]
theorem want_loc (i:Nat) (s:List Nat):L m i (want T i s) (want T' i s):=by
 unfold want
 exact L.sw (fun h=>is_loc hT s h) (L.ok _ (by omega)) (L.err _ (by omega))
theorem name_loc (i:Nat):L m i (name T i) (name T' i):=by
 refine L.low ?_ fun h=>?_
 ·unfold name;split
  ·split <;> simp [fin]
  ·simp [fin]
 ·unfold name;rw [hT i h];split
  ·split
   ·exact L.ok _ (by omega)
   ·exact L.err _ (by omega)
  ·exact L.err _ (by omega)
theorem number_loc (i:Nat):L m i (number T i) (number T' i):=by
 refine L.low ?_ fun h=>?_
 ·unfold number;split
  ·split <;> simp [fin]
  ·simp [fin]
 ·unfold number;rw [hT i h];split
  ·split
   ·exact L.ok _ (by omega)
   ·exact L.err _ (by omega)
  ·exact L.err _ (by omega)
theorem labelF_loc (ns:List (List Nat)):∀(f l i:Nat),L m i (labelF T ns f l i) (labelF T' ns f l i)
 | 0,_,_=>L.err _ (by omega)
 | f+1,l,i=>by
  refine L.low ?_ fun h=>?_
  ·rw [labelF];split
   ·split
    ·split
     ·exact ((labelF_loc ns f _ (i+1)).from (by omega)).1
     ·simp [fin]
    ·simp [fin]
   ·simp [fin]
  ·rw [labelF,labelF,hT i h];split
   ·split
    ·split
     ·exact (labelF_loc ns f _ (i+1)).from (by omega)
     ·exact L.err _ (by omega)
    ·exact L.ok _ (by omega)
   ·exact L.ok _ (by omega)
theorem label_loc (ns:List (List Nat)) (i:Nat):L m i (label T F ns i) (label T' F ns i) :=
 (want_loc hT i _).on fun _ j _=>(labelF_loc hT ns F 0 j).on fun _ j _=>(want_loc hT j _).on fun _ _ _=>L.ok _ (Nat.le_refl _)
theorem decl_loc (ns:List (List Nat)) (i:Nat):L m i (decl T F ns i) (decl T' F ns i) :=
 (name_loc hT i).on fun _ j _=>(label_loc hT ns j).on fun _ _ _=>L.ok _ (Nat.le_refl _)
theorem loop_loc {p p':Nat→R (List Tm)} (hp:∀i,L m i (p i) (p' i)) (ms:List (List Nat × Nat)):∀(f:Nat) (l:List Tm) (i:Nat),L m i (loopF T p ms f l i) (loopF T' p' ms f l i)
 | 0,_,_=>L.err _ (by omega)
 | f+1,l,i=>by
  have key:∀o,L m i ((p (i+1)).on fun r j=>loopF T p ms f (l++r++[⟨5,o,[]⟩]) j) ((p' (i+1)).on fun r j=>loopF T' p' ms f (l++r++[⟨5,o,[]⟩]) j):=fun o =>
   ((hp (i+1)).from (by omega)).on fun r j _=>loop_loc hp ms f _ j
  refine L.low ?_ fun h=>?_
  ·rw [loopF];split
   ·simp [fin]
   ·exact (key _).1
  ·rw [loopF,loopF,opOf_loc hT ms h];split
   ·exact L.ok _ (by omega)
   ·exact key _
theorem tower_loc {u u':Nat→R (List Tm)} (hu:∀i,L m i (u i) (u' i)):∀k i,L m i (tower T F u k i) (tower T' F u' k i)
 | 0,i=>hu i
 | k+1,i=>by
  rw [tower,tower]
  exact (tower_loc hu k i).on fun l j _=>loop_loc hT (tower_loc hu k) _ _ _ _
theorem unOps_loc:∀(f i:Nat),L m i (unOps T f i) (unOps T' f i)
 | 0,_=>L.err _ (by omega)
 | f+1,i=>by
  have key:∀o,L m i ((unOps T f (i+1)).on fun l j=>(.ok (o::l,j):R (List Nat))) ((unOps T' f (i+1)).on fun l j=>(.ok (o::l,j):R (List Nat))):=fun o =>
   ((unOps_loc f (i+1)).from (by omega)).on fun _ _ _=>L.ok _ (Nat.le_refl _)
  refine L.low ?_ fun h=>?_
  ·rw [unOps];split
   ·simp [fin]
   ·exact (key _).1
  ·rw [unOps,unOps,opOf_loc hT _ h];split
   ·exact L.ok _ (by omega)
   ·exact key _
def brack (T:Nat→Option K) (e:Option (Nat→R (List Tm))) (g:List Tm→List Tm) (s:List Nat) (i:Nat):R (List Tm) :=
 match e with
 | none=>.error (51,i)
 | some p=>(p (i+1)).on fun l i=>(want T i s).on fun _ i=>.ok (g l,i)
def atomN (T:Nat→Option K) (e:Option (Nat→R (List Tm))) (i:Nat):R (List Tm) :=
 (name T i).on fun s i=>if is T i [91] then brack T e (fun l=>l++[⟨3,0,s⟩]) [93] i else .ok ([⟨2,0,s⟩],i)
def atom (T:Nat→Option K) (e:Option (Nat→R (List Tm))) (i:Nat):R (List Tm) :=
 match T i with
 | none=>.error (50,i)
 | some k =>
  if k.kind=3 then .ok ([⟨1,k.value,[]⟩],i+1)
  else if is T i [40] then brack T e (fun l=>l) [41] i
  else atomN T e i
omit hT in
theorem unary_atom (e:Option (Nat→R (List Tm))) (i:Nat):unary T F e i=(unOps T F i).on fun ops i=>(atom T e i).on fun l i=>.ok (l++ops.reverse.map fun o=>⟨4,o,[]⟩,i):=rfl
def Both (m:Nat):Option (Nat→R (List Tm))→Option (Nat→R (List Tm))→Prop
 | none,none=>True
 | some p,some p'=>∀i,L m i (p i) (p' i)
 | _,_=>False
theorem brack_loc {e e':Option (Nat→R (List Tm))} (he:Both m e e') (g:List Tm→List Tm) (s:List Nat) (i:Nat) :
 L m i (brack T e g s i) (brack T' e' g s i):=by
 match e,e',he with
 | none,none,_=>exact L.err _ (Nat.le_refl _)
 | some p,some p',he=>exact ((he (i+1)).from (by omega)).on fun l j _=>(want_loc hT j s).on fun _ _ _=>L.ok _ (Nat.le_refl _)
theorem atomN_loc {e e':Option (Nat→R (List Tm))} (he:Both m e e') (i:Nat):L m i (atomN T e i) (atomN T' e' i) :=
 (name_loc hT i).on fun s j _=>L.sw (fun h=>is_loc hT _ h) (brack_loc hT he (fun l=>l++[⟨3,0,s⟩]) _ j) (L.ok _ (Nat.le_refl _))
theorem atom_loc {e e':Option (Nat→R (List Tm))} (he:Both m e e') (i:Nat):L m i (atom T e i) (atom T' e' i):=by
 have key2:=L.sw (fun h=>is_loc hT [40] h) (brack_loc hT he (fun l=>l) [41] i) (atomN_loc hT he i)
 refine L.low ?_ fun h=>?_
 ·unfold atom;split
  ·simp [fin]
  ·split
   ·simp [fin]
   ·exact key2.1
 ·unfold atom;rw [hT i h];split
  ·exact L.err _ (by omega)
  ·split
   ·exact L.ok _ (by omega)
   ·exact key2
theorem unary_loc {e e':Option (Nat→R (List Tm))} (he:Both m e e') (i:Nat):L m i (unary T F e i) (unary T' F e' i):=by
 rw [unary_atom,unary_atom]
 exact (unOps_loc hT F i).on fun ops j _=>(atom_loc hT he j).on fun _ _ _=>L.ok _ (Nat.le_refl _)
theorem expr_loc:∀d i,L m i (exprD T F d i) (exprD T' F d i)
 | 0,i=>tower_loc hT (unary_loc (e:=none) (e':=none) hT trivial) 6 i
 | d+1,i=>tower_loc hT (unary_loc (e:=some _) (e':=some _) hT (expr_loc d)) 6 i
end
section
variable {T:Nat→Option K} {F:Nat}
theorem not_is {i:Nat} (h:named T i=true) (s:List Nat):is T i s=false:=by
 unfold named at h;unfold is
 split
 ·rename_i k hk
  rw [hk] at h
  have:k.kind=1:=by simpa using h
  simp [this]
 ·rfl
theorem no_op {i:Nat} (h:named T i=true) (ms:List (List Nat × Nat)):opOf T ms i=0:=by
 unfold opOf
 have:ms.find? (fun m=>is T i m.1)=none:=by
  rw [List.find?_eq_none]
  intro x _
  rw [not_is h];simp
 rw [this]
theorem name_is {i:Nat} (h:named T i=true):∃k,T i=some k∧k.kind=1∧name T i=.ok (k.text,i+1):=by
 unfold named at h
 split at h
 ·rename_i k hk
  have:k.kind=1:=by simpa using h
  exact ⟨k,hk,this,by unfold name;rw [hk];simp [this]⟩
 ·cases h
theorem expr_on (hF:F≠0) {i:Nat} (h:named T i=true):i+1≤fin (expr T F i):=by
 have ht:∀j,j≤0→T j=T j:=fun _ _=>rfl
 have hu:i+1≤fin (unary T F (some (exprD T F 11)) i):=by
  rw [unary_atom]
  have h1:unOps T F i=.ok ([],i):=by
   match F,hF with
   | f+1,_=>rw [unOps,if_pos (no_op h _)]
  rw [h1]
  show i+1≤fin ((atom T (some (exprD T F 11)) i).on _)
  refine Nat.le_trans ?_ (on_fin fun x j _=>Nat.le_refl _)
  obtain ⟨k,hk,h1,h2⟩:=name_is h
  unfold atom
  rw [hk]
  show i+1≤fin (if k.kind=3 then _ else if is T i [40] then _ else atomN T _ i)
  rw [if_neg (by omega),not_is h,if_neg (by simp)]
  unfold atomN
  rw [h2]
  exact (L.sw (m:=0) (fun h=>is_loc ht _ h) (brack_loc (T':=T) ht (e:=some (exprD T F 11)) (e':=some (exprD T F 11)) (expr_loc ht 11) (fun l=>l++[⟨3,0,k.text⟩]) [93] (i+1)) (L.ok _ (Nat.le_refl _))).1
 have hl:=fun i=>(unary_loc (T':=T) (F:=F) ht (e:=some (exprD T F 11)) (e':=some (exprD T F 11)) (expr_loc ht 11) i)
 have:∀k,i+1≤fin (tower T F (unary T F (some (exprD T F 11))) k i):=by
  intro k
  induction k with
  | zero=>exact hu
  | succ k ih =>
   rw [tower]
   exact Nat.le_trans ih (on_fin fun x j _=>(loop_loc (T':=T) ht (tower_loc ht hl k) _ _ _ _).1)
 exact this 6
end
section
variable {T T':Nat→Option K} {F m:Nat} (hT:∀i,i≤m→T' i=T i)
include hT
theorem listF_loc {e e':Nat→R (List Tm)} (he:∀i,L m i (e i) (e' i)) (s:List Nat):∀(f:Nat) (l:List (List Tm)) (i:Nat),L m i (listF T e s f l i) (listF T' e' s f l i)
 | 0,_,_=>L.err _ (Nat.le_refl _)
 | f+1,l,i=>by
  rw [listF,listF]
  exact (he i).on fun x j _=>L.sw (fun h=>is_loc hT _ h) (L.ok _ (by omega)) (L.sw (fun h=>is_loc hT _ h) ((listF_loc he s f _ (j+1)).from (by omega)) (L.err _ (Nat.le_refl _)))
theorem list_loc (s:List Nat) (i:Nat):L m i (list T F s i) (list T' F s i):=by
 unfold list
 exact L.sw (fun h=>is_loc hT _ h) (L.ok _ (by omega)) (listF_loc hT (expr_loc hT 12) s _ _ _)
theorem targetsF_loc:∀(f:Nat) (l:List (List Nat)) (i:Nat),L m i (targetsF T f l i) (targetsF T' f l i)
 | 0,_,_=>L.err _ (Nat.le_refl _)
 | f+1,l,i=>by
  rw [targetsF,targetsF]
  exact L.sw (fun h=>is_loc hT _ h) (((name_loc hT (i+1)).from (by omega)).on fun s j _=>targetsF_loc f _ j) (L.ok _ (Nat.le_refl _))
theorem stmtsF_loc {s s':Nat→R (List St)} (hs:∀i,L m i (s i) (s' i)) (e:List Nat):∀(f:Nat) (l:List St) (i:Nat),L m i (stmtsF T s e f l i) (stmtsF T' s' e f l i)
 | 0,_,_=>L.err _ (Nat.le_refl _)
 | f+1,l,i=>by
  rw [stmtsF,stmtsF]
  exact L.sw (fun h=>is_loc hT _ h) (L.ok _ (by omega)) ((hs i).on fun x j _=>stmtsF_loc hs e f _ j)
def BothS (m:Nat):Option (Nat→R (List St))→Option (Nat→R (List St))→Prop
 | none,none=>True
 | some p,some p'=>∀i,L m i (p i) (p' i)
 | _,_=>False
theorem block_loc {s s':Option (Nat→R (List St))} (hs:BothS m s s') (i:Nat):L m i (block T F s i) (block T' F s' i):=by
 match s,s',hs with
 | none,none,_=>exact L.sw (fun h=>is_loc hT _ h) (L.err _ (Nat.le_refl _)) (L.err _ (Nat.le_refl _))
 | some p,some p',hs=>exact (want_loc hT i _).on fun _ j _=>stmtsF_loc hT hs _ _ _ _
theorem call_loc (ts:List (List Nat)) (s:List Nat) (i:Nat):L m i (call T F ts s i) (call T' F ts s i) :=
 (want_loc hT i _).on fun _ j _=>(list_loc hT _ j).on fun _l j _=>(want_loc hT j _).on fun _ _ _=>L.ok _ (Nat.le_refl _)
theorem plain_loc (hF:F≠0) (i:Nat):L m i (plain T F i) (plain T' F i):=by
 refine (name_loc hT i).on fun s j _=>?_
 refine L.sw (fun h=>is_loc hT _ h) ?_ (L.sw (fun h=>is_loc hT _ h) (call_loc hT _ _ j) ?_)
 ·exact ((expr_loc hT 12 (j+1)).from (by omega)).on fun a j _=>(want_loc hT j _).on fun _ j _=>(want_loc hT j _).on fun _ j _=>(expr_loc hT 12 j).on fun b j _=>(want_loc hT j _).on fun _ j _=>L.ok _ (Nat.le_refl _)
 ·refine (targetsF_loc hT F [s] j).on fun ts j _=>(want_loc hT j _).on fun _ j _=>?_
  have A:L m j ((expr T F j).on fun e i=>(want T i [59]).on fun _ i=>(.ok ([⟨1,[],ts,[e]⟩],i):R (List St))) ((expr T' F j).on fun e i=>(want T' i [59]).on fun _ i=>(.ok ([⟨1,[],ts,[e]⟩],i):R (List St))) :=
   (expr_loc hT 12 j).on fun e j _=>(want_loc hT j _).on fun _ j _=>L.ok _ (Nat.le_refl _)
  have B:L m j ((name T j).on fun s i=>call T F ts s i) ((name T' j).on fun s i=>call T' F ts s i) :=
   (name_loc hT j).on fun s j _=>call_loc hT ts s j
  by_cases hl:ts.length=1
  ·by_cases hn:named T j=true
   ·-- a name: the token behind it decides,and either way goes on to it
    have hA:j+1≤fin ((expr T F j).on fun e i=>(want T i [59]).on fun _ i=>(.ok ([⟨1,[],ts,[e]⟩],i):R (List St))) :=
     Nat.le_trans (expr_on hF hn) (on_fin fun e k _=>((want_loc (T':=T) (m:=0) (fun _ _=>rfl) k _).on (f':=fun _ i=>(.ok ([⟨1,[],ts,[e]⟩],i):R (List St))) fun _ _ _=>L.ok _ (Nat.le_refl _)).1)
    have hB:j+1≤fin ((name T j).on fun s i=>call T F ts s i):=by
     obtain ⟨k,_,_,h2⟩:=name_is hn
     rw [h2]
     exact (call_loc (T':=T) (m:=0) (fun _ _=>rfl) ts k.text (j+1)).1
    refine ⟨?_,fun hm=>?_⟩
    ·split
     ·exact A.1
     ·exact B.1
    ·have hj:j+1≤m:=by
      refine Nat.le_trans ?_ hm
      split
      ·exact hA
      ·exact hB
     have h1:=named_loc hT (i:=j) (by omega)
     have h2:=is_loc hT [40] hj
     rw [h1,h2]
     split at hm
     ·rename_i hc
      rw [if_pos hc,if_pos hc]
      exact A.2 hm
     ·rename_i hc
      rw [if_neg hc,if_neg hc]
      exact B.2 hm
   ·refine L.low ?_ fun hj=>?_
    ·rw [if_pos ⟨hl,fun h=>hn h.1⟩];exact A.1
    ·rw [if_pos ⟨hl,fun h=>hn h.1⟩,if_pos ⟨hl,fun h=>hn (by rw [←named_loc hT hj];exact h.1)⟩]
     exact A
  ·rw [if_neg (fun h=>hl h.1),if_neg (fun h=>hl h.1)]
   exact B
theorem stmtOf_loc (hF:F≠0) {s s':Option (Nat→R (List St))} (hs:BothS m s s') (i:Nat):L m i (stmtOf T F s i) (stmtOf T' F s' i):=by
 unfold stmtOf
 refine L.sw (fun h=>is_loc hT _ h) ?_ (L.sw (fun h=>is_loc hT _ h) ?_ (L.sw (fun h=>is_loc hT _ h) ?_ (plain_loc hT hF i)))
 ·exact ((expr_loc hT 12 (i+1)).from (by omega)).on fun e j _=>(block_loc hT hs j).on fun a j _ =>
   L.sw (fun h=>is_loc hT _ h) (((block_loc hT hs (j+1)).from (by omega)).on fun b j _=>L.ok _ (Nat.le_refl _)) (L.ok _ (Nat.le_refl _))
 ·exact ((expr_loc hT 12 (i+1)).from (by omega)).on fun e j _=>(block_loc hT hs j).on fun a j _=>L.ok _ (Nat.le_refl _)
 ·exact ((name_loc hT (i+1)).from (by omega)).on fun c j _=>(expr_loc hT 12 j).on fun e j _=>(want_loc hT j _).on fun _ j _=>L.ok _ (Nat.le_refl _)
theorem stmt_loc (hF:F≠0):∀d i,L m i (stmtD T F d i) (stmtD T' F d i)
 | 0,i=>stmtOf_loc hT hF (s:=none) (s':=none) trivial i
 | d+1,i=>stmtOf_loc hT hF (s:=some _) (s':=some _) (stmt_loc hF d) i
theorem rowF_loc {α:Type} {p p':Nat→R α} (hp:∀i,L m i (p i) (p' i)):∀(f:Nat) (l:List α) (i:Nat),L m i (rowF T p f l i) (rowF T' p' f l i)
 | 0,_,_=>L.err _ (Nat.le_refl _)
 | f+1,l,i=>by
  rw [rowF,rowF]
  exact (hp i).on fun x j _=>L.sw (fun h=>is_loc hT _ h) (L.ok _ (by omega)) (L.sw (fun h=>is_loc hT _ h) ((rowF_loc hp f _ (j+1)).from (by omega)) (L.err _ (Nat.le_refl _)))
theorem row_loc {α:Type} {p p':Nat→R α} (hp:∀i,L m i (p i) (p' i)) (i:Nat):L m i (row T F p i) (row T' F p' i) :=
 (want_loc hT i _).on fun _ j _=>L.sw (fun h=>is_loc hT _ h) (L.ok _ (by omega)) (rowF_loc hT hp _ _ _)
theorem varsF_loc (ns:List (List Nat)):∀(f:Nat) (l:List De) (i:Nat),L m i (varsF T F ns f l i) (varsF T' F ns f l i)
 | 0,_,_=>L.err _ (Nat.le_refl _)
 | f+1,l,i=>by
  rw [varsF,varsF]
  exact L.sw (fun h=>is_loc hT _ h) (((decl_loc hT ns (i+1)).from (by omega)).on fun d j _=>(want_loc hT j _).on fun _ j _=>varsF_loc ns f _ j) (L.ok _ (Nat.le_refl _))
theorem func_loc (hF:F≠0) (ns:List (List Nat)) (i:Nat):L m i (func T F ns i) (func T' F ns i) :=
 (name_loc hT i).on fun _s j _=>(label_loc hT ns j).on fun _l j _=>(row_loc hT (decl_loc hT ns) j).on fun _ps j _=>(row_loc hT (label_loc hT ns) j).on fun _rs j _ =>
  (want_loc hT j _).on fun _ j _=>(varsF_loc hT ns F [] j).on fun _vs j _=>(stmtsF_loc hT (stmt_loc hT hF 12) _ _ _ j).on fun _b j _ =>
   (list_loc hT _ j).on fun _es j _=>(want_loc hT j _).on fun _ _j _=>L.ok _ (Nat.le_refl _)
theorem namesF_loc:∀(f:Nat) (l:List (List Nat)) (i:Nat),L m i (namesF T f l i) (namesF T' f l i)
 | 0,_,_=>L.err _ (Nat.le_refl _)
 | f+1,l,i=>by
  rw [namesF,namesF]
  by_cases hn:named T i=true
  ·obtain ⟨k,hk,h1,h2⟩:=name_is hn
   have g:L m i (if l.length=64 then .error (74,i) else if named T (i+1) then namesF T f (l++[k.text]) (i+1) else .ok (l++[k.text],i+1))
    (if l.length=64 then .error (74,i) else if named T' (i+1) then namesF T' f (l++[k.text]) (i+1) else .ok (l++[k.text],i+1)):=by
    by_cases hl:l.length=64
    ·rw [if_pos hl,if_pos hl];exact L.err _ (Nat.le_refl _)
    ·rw [if_neg hl,if_neg hl]
     exact (L.sw (fun h=>named_loc hT h) (namesF_loc f _ (i+1)) (L.ok _ (Nat.le_refl _))).from (by omega)
   refine L.low (by rw [h2];exact g.1) fun hi=>?_
   have hn':named T' i=true:=by rw [named_loc hT hi];exact hn
   obtain ⟨k',hk',_,h2'⟩:=name_is hn'
   rw [hT i hi,hk] at hk'
   obtain rfl:=Option.some.inj hk'
   rw [h2,h2']
   exact g
  ·have hE:∀T0:Nat→Option K,¬named T0 i=true→name T0 i=.error (50,i):=by
    intro T0 h0
    unfold name;unfold named at h0
    split
    ·rename_i k hk
     rw [hk] at h0
     rw [if_neg (by simpa using h0)]
    ·rfl
   refine L.low ?_ fun hi=>?_
   ·rw [hE T hn];exact Nat.le_refl _
   ·rw [hE T hn,hE T' (by rw [named_loc hT hi];exact hn)]
    exact L.err _ (Nat.le_refl _)
end
end Go.Proofs.Syn
