/- A law under a condition of what comes in, with variables that are laid: what its contract asks. Plain: what a row of tokens is read as, by the document's grammar: the first fault and the number of its token, or what is read and the number of the token behind. No bytes, no memory. Plain: of a source that is read each statement is as its kind asks, blocks nest, and each body ends with its only retur -/
import Derived.Test.YtpcniebkabkikaaGreatDoorRows
import Derived.Deep.CondSized
import Derived.Handed
import Derived.ChangeShapes
import Derived.WideShapes
import Derived.LaidLaws
import Derived.WalkKit
namespace Go.Proofs.YtpcniebkabkikaaGreatDoor
open Go Go.ChangeShapes Go.WideShapes Go.ChangeAt
variable {H:Type} {enc:TypeId × Value→H}
theorem lifted_cond {a:Assume} {C:Checked} {os:Os} {f:FuncId} {fn:Func} {s:OpenSpec} {k:(H:Type)→List (DataW H)→Bool} (hk:s.cond=some k) {F:Stop.Interp} {conds:List PathCond} {apart fresh handsOn again:Bool} {X:World→Array Value→Prop}
    (hX:∀ (w w':World) (args:Array Value),w.heap=w'.heap→X w args→X w' args)
    (own:ownKnob C.prog.godebug=none) (started:os.Started) (noInit:C.prog.inits.idxOf? f=none) (hfn:C.prog.funcs[f]?=some fn)
    (witness:∃ (w:World) (tape:Tape) (i:Input),w.os=os∧(w.forCall tape i).Shaped C.prog∧i.vars=[]∧Input.okWide C.prog (w.forCall tape i) .any w.heap.size f i ∧
      ((s.pre enc C.prog fn conds apart (w.forCall tape i).memory i.args∧X (w.forCall tape i).memory i.args)∧sizedMet enc C.prog fn s apart (w.forCall tape i).memory i.args)∧a.holds C.prog (lone (Frame.enter C.prog f i.args .normal) [] (w.forCall tape i)))
    (contract:∀ (W:World) (base:Nat) (args:Array Value) (ds gs:List (DataW H)) (before:List MemPlace),
      (∀ (j:Nat) t v,fn.params[j]?=some t→args[j]?=some v→Value.okWide C.prog W .any base t v) →
      DataW.Whole enc C.prog fn.params.toList s.vars apart W args.toList ds gs before →
      conds.all (PathCond.test C.prog ⟨fn.params.toList,ds,s.bare.plain.varTypes C.prog,gs⟩)=true→k H (ds++gs)=true →
      (DataW.weightsEach C.prog (fn.params.toList++s.bare.plain.varTypes C.prog) (ds++gs)).all (·≤reachBytes)=true→X W args →
      a.holds C.prog (lone (Frame.enter C.prog f args .normal) [] W) →
      Calls C.prog f args W fun e W'=>∃ v,e=.returned v∧(s.at F).post enc C.prog fn apart fresh handsOn again W args v W') :
    ReturnsInHanded a C os f .any (fun w args=>(s.pre enc C.prog fn conds apart w args∧X w args)∧sizedMet enc C.prog fn s apart w args) ((s.at F).post enc C.prog fn apart fresh handsOn again):=by
  refine returnsInHanded_of_calls own started noInit witness ?_
  intro w tape i _ _ _ hok hpre hholds
  obtain ⟨_,_,_,fn',hfn',_,_,_,_,hval⟩:=hok
  have e:fn'=fn:=Option.some.inj (hfn'.symm.trans hfn)
  subst e
  obtain ⟨ds,gs,before,hw,hc,hkk⟩:=(OpenSpec.pre_some hk conds apart _ _).1 hpre.1.1
  have hw':=DataW.Whole.of_heap (w':=w.forCall tape i) (by rfl) hw
  refine (contract (w.forCall tape i) w.heap.size i.args ds gs before hval hw' hc hkk (hpre.2.weights hw) (hX _ _ _ (by rfl) hpre.1.2) hholds).mono fun e W' ⟨v,he,hp⟩=>?_
  subst he
  exact ChangeSpec.post_blind hp
theorem witness_cond {C:Checked} {os:Os} {f:FuncId} {fn:Func} {s:OpenSpec} {k:(H:Type)→List (DataW H)→Bool} (hk:s.cond=some k) {conds:List PathCond} {apart:Bool} {X:World→Array Value→Prop} (modest:Bool) (w0:World) (args:Array Value) (fuel:Nat) (hos:w0.os=os)
    (hsh:(w0.forCall (fun _ _=>0) ⟨#[],args,[]⟩).Shaped C.prog)
    (hok:Input.okWideB C.prog (w0.forCall (fun _ _=>0) ⟨#[],args,[]⟩) f ⟨#[],args,[]⟩=true)
    {x:List (DataW H) × List (DataW H) × List MemPlace} (hw:DataW.whole enc C.prog (w0.forCall (fun _ _=>0) ⟨#[],args,[]⟩).memory fn.params.toList s.vars apart args.toList fuel=some x)
    (hc:conds.all (PathCond.test C.prog ⟨fn.params.toList,x.1,s.bare.plain.varTypes C.prog,x.2.1⟩)=true) (hkk:k H (x.1++x.2.1)=true)
    (hsz:sizedMet enc C.prog fn s apart (w0.forCall (fun _ _=>0) ⟨#[],args,[]⟩).memory args)
    (hx:X (w0.forCall (fun _ _=>0) ⟨#[],args,[]⟩).memory args) :
    ∃ (w:World) (tape:Tape) (i:Input),w.os=os∧(w.forCall tape i).Shaped C.prog∧i.vars=[]∧Input.okWide C.prog (w.forCall tape i) .any w.heap.size f i ∧
      ((s.pre enc C.prog fn conds apart (w.forCall tape i).memory i.args∧X (w.forCall tape i).memory i.args)∧sizedMet enc C.prog fn s apart (w.forCall tape i).memory i.args)∧({ modest:=modest }:Assume).holds C.prog (lone (Frame.enter C.prog f i.args .normal) [] (w.forCall tape i)) :=
  ⟨w0,fun _ _=>0,⟨#[],args,[]⟩,hos,hsh,(Input.okWide_of_okWideB (base:=0) hok).1,(Input.okWide_of_okWideB hok).2,⟨⟨(OpenSpec.pre_some hk _ _ _ _).2 ⟨_,_,_,DataW.Whole_of_whole hw,hc,hkk⟩,hx⟩,hsz⟩,by
    simp only [Assume.holds]
    exact ⟨by simp,by simp,fun _=>Modest.zero,by simp,by simp⟩⟩
end Go.Proofs.YtpcniebkabkikaaGreatDoor
namespace Go.Proofs.Syn
structure K where
  kind:Nat
  text:List Nat
  value:Nat
deriving DecidableEq
structure Tm where
  kind:Nat
  value:Nat
  name:List Nat
deriving DecidableEq
structure St where
  kind:Nat
  name:List Nat
  targets:List (List Nat)
  exprs:List (List Tm)
deriving DecidableEq
structure De where
  name:List Nat
  label:Nat
deriving DecidableEq
structure Ar where
  name:List Nat
  len:Nat
  label:Nat
deriving DecidableEq
structure Fn where
  name:List Nat
  level:Nat
  params:List De
  results:List Nat
  vars:List De
  body:List St
deriving DecidableEq
structure So where
  principals:List (List Nat)
  globals:List De
  arrays:List Ar
  channels:List De
  funcs:List Fn
deriving DecidableEq
abbrev R (α:Type):=Except (Nat × Nat) (α × Nat)
def R.on {α β:Type} (r:R α) (f:α→Nat→R β):R β :=
  match r with
  | .error e=>.error e
  | .ok (x,i)=>f x i
def tx (s:String):List Nat:=s.toUTF8.data.toList.map UInt8.toNat
section
variable (T:Nat→Option K) (F:Nat)
def is (i:Nat) (s:List Nat):Bool :=
  match T i with
  | some k=>(k.kind == 2 || k.kind == 4) && k.text == s
  | none=>false
def named (i:Nat):Bool :=
  match T i with
  | some k=>k.kind == 1
  | none=>false
def want (i:Nat) (s:List Nat):R Unit:=if is T i s then .ok ((),i+1) else .error (50,i)
def name (i:Nat):R (List Nat) :=
  match T i with
  | some k=>if k.kind=1 then .ok (k.text,i+1) else .error (50,i)
  | none=>.error (50,i)
def number (i:Nat):R Nat :=
  match T i with
  | some k=>if k.kind=3 then .ok (k.value,i+1) else .error (50,i)
  | none=>.error (50,i)
def labelF (ns:List (List Nat)):Nat→Nat→Nat→R Nat
  | 0,_,i=>.error (99,i)
  | f+1,l,i =>
    match T i with
    | some k =>
      if k.kind=1 then
        if ns.idxOf k.text<ns.length then labelF ns f (l ||| 1 <<< ns.idxOf k.text) (i+1) else .error (10,i)
      else .ok (l,i)
    | none=>.ok (l,i)
def label (ns:List (List Nat)) (i:Nat):R Nat :=
  (want T i [123]).on fun _ i=>(labelF T ns F 0 i).on fun l i=>(want T i [125]).on fun _ i=>.ok (l,i)
def decl (ns:List (List Nat)) (i:Nat):R De :=
  (name T i).on fun s i=>(label T F ns i).on fun l i=>.ok (⟨s,l⟩,i)
def marks:Nat→List (List Nat × Nat)
  | 0=>[([61,61],11),([33,61],12),([60],13),([60,61],14)]
  | 1=>[([124],7),([94],8)]
  | 2=>[([38],6)]
  | 3=>[([60,60],9),([62,62],10)]
  | 4=>[([43],1),([45],2)]
  | _=>[([42],3),([47],4),([37],5)]
def opOf (ms:List (List Nat × Nat)) (i:Nat):Nat :=
  match ms.find? fun m=>is T i m.1 with
  | some m=>m.2
  | none=>0
def loopF (p:Nat→R (List Tm)) (ms:List (List Nat × Nat)):Nat→List Tm→Nat→R (List Tm)
  | 0,_,i=>.error (99,i)
  | f+1,l,i=>if opOf T ms i=0 then .ok (l,i) else (p (i+1)).on fun r j=>loopF p ms f (l++r++[⟨5,opOf T ms i,[]⟩]) j
def tower (u:Nat→R (List Tm)):Nat→Nat→R (List Tm)
  | 0,i=>u i
  | k+1,i=>(tower u k i).on fun l j=>loopF T (tower u k) (marks (5 - k)) F l j
def unOps:Nat→Nat→R (List Nat)
  | 0,i=>.error (99,i)
  | f+1,i=>if opOf T [([45],15),([33],16),([126],17)] i=0 then .ok ([],i) else (unOps f (i+1)).on fun l j=>.ok (opOf T [([45],15),([33],16),([126],17)] i :: l,j)
def unary (e:Option (Nat→R (List Tm))) (i:Nat):R (List Tm) :=
  (unOps T F i).on fun ops i =>
    R.on (β:=List Tm)
      (match T i with
       | none=>.error (50,i)
       | some k =>
         if k.kind=3 then .ok ([⟨1,k.value,[]⟩],i+1)
         else if is T i [40] then
           match e with
           | none=>.error (51,i)
           | some p=>(p (i+1)).on fun l i=>(want T i [41]).on fun _ i=>.ok (l,i)
         else (name T i).on fun s i =>
           if is T i [91] then
             match e with
             | none=>.error (51,i)
             | some p=>(p (i+1)).on fun l i=>(want T i [93]).on fun _ i=>.ok (l++[⟨3,0,s⟩],i)
           else .ok ([⟨2,0,s⟩],i))
      fun l i=>.ok (l++ops.reverse.map fun o=>⟨4,o,[]⟩,i)
def exprD:Nat→Nat→R (List Tm)
  | 0=>tower T F (unary T F none) 6
  | d+1=>tower T F (unary T F (some (exprD d))) 6
def expr:Nat→R (List Tm):=exprD T F 12
def listF (e:Nat→R (List Tm)) (fin:List Nat):Nat→List (List Tm)→Nat→R (List (List Tm))
  | 0,_,i=>.error (99,i)
  | f+1,l,i=>(e i).on fun x i =>
      if is T i fin then .ok (l++[x],i+1) else if is T i [44] then listF e fin f (l++[x]) (i+1) else .error (50,i)
def list (fin:List Nat) (i:Nat):R (List (List Tm)):=if is T i fin then .ok ([],i+1) else listF T (expr T F) fin F [] i
def targetsF:Nat→List (List Nat)→Nat→R (List (List Nat))
  | 0,_,i=>.error (99,i)
  | f+1,l,i=>if is T i [44] then (name T (i+1)).on fun s i=>targetsF f (l++[s]) i else .ok (l,i)
def stmtsF (s:Nat→R (List St)) (fin:List Nat):Nat→List St→Nat→R (List St)
  | 0,_,i=>.error (99,i)
  | f+1,l,i=>if is T i fin then .ok (l,i+1) else (s i).on fun x i=>stmtsF s fin f (l++x) i
def block (s:Option (Nat→R (List St))) (i:Nat):R (List St) :=
  match s with
  | none=>if is T i [123] then .error (51,i) else .error (50,i)
  | some s=>(want T i [123]).on fun _ i=>stmtsF T s [125] F [] i
def call (ts:List (List Nat)) (s:List Nat) (i:Nat):R (List St) :=
  (want T i [40]).on fun _ i=>(list T F [41] i).on fun l i=>(want T i [59]).on fun _ i=>.ok ([⟨4,s,ts,l⟩],i)
def plain (i:Nat):R (List St) :=
  (name T i).on fun s i =>
    if is T i [91] then
      (expr T F (i+1)).on fun a i=>(want T i [93]).on fun _ i=>(want T i [61]).on fun _ i=>(expr T F i).on fun b i=>(want T i [59]).on fun _ i=>.ok ([⟨2,s,[],[a,b]⟩],i)
    else if is T i [40] then call T F [] s i
    else (targetsF T F [s] i).on fun ts i=>(want T i [61]).on fun _ i =>
      if ts.length=1∧¬ (named T i=true∧is T (i+1) [40]=true) then
        (expr T F i).on fun e i=>(want T i [59]).on fun _ i=>.ok ([⟨1,[],ts,[e]⟩],i)
      else (name T i).on fun s i=>call T F ts s i
def stmtOf (s:Option (Nat→R (List St))) (i:Nat):R (List St) :=
  if is T i (tx "if") then
    (expr T F (i+1)).on fun e i=>(block T F s i).on fun a i =>
      if is T i (tx "else") then (block T F s (i + 1)).on fun b i => .ok (⟨5,[],[],[e]⟩ :: a ++ ⟨6,[],[],[]⟩ :: b ++ [⟨8,[],[],[]⟩],i)
      else .ok (⟨5,[],[],[e]⟩ :: a++[⟨8,[],[],[]⟩],i)
  else if is T i (tx "while") then
    (expr T F (i+1)).on fun e i=>(block T F s i).on fun a i=>.ok (⟨7,[],[],[e]⟩ :: a++[⟨8,[],[],[]⟩],i)
  else if is T i (tx "send") then
    (name T (i+1)).on fun c i=>(expr T F i).on fun e i=>(want T i [59]).on fun _ i=>.ok ([⟨3,c,[],[e]⟩],i)
  else plain T F i
def stmtD:Nat→Nat→R (List St)
  | 0=>stmtOf T F none
  | d+1=>stmtOf T F (some (stmtD d))
def rowF {α:Type} (p:Nat→R α):Nat→List α→Nat→R (List α)
  | 0,_,i=>.error (99,i)
  | f+1,l,i=>(p i).on fun x i =>
      if is T i [41] then .ok (l++[x],i+1) else if is T i [44] then rowF p f (l++[x]) (i+1) else .error (50,i)
def row {α:Type} (p:Nat→R α) (i:Nat):R (List α):=(want T i [40]).on fun _ i=>if is T i [41] then .ok ([],i+1) else rowF T p F [] i
def varsF (ns:List (List Nat)):Nat→List De→Nat→R (List De)
  | 0,_,i=>.error (99,i)
  | f + 1,l,i => if is T i (tx "var") then (decl T F ns (i + 1)).on fun d i => (want T i [59]).on fun _ i => varsF ns f (l ++ [d]) i else .ok (l,i)
def func (ns:List (List Nat)) (i:Nat):R Fn :=
  (name T i).on fun s i=>(label T F ns i).on fun l i=>(row T F (decl T F ns) i).on fun ps i=>(row T F (label T F ns) i).on fun rs i =>
    (want T i [123]).on fun _ i => (varsF T F ns F [] i).on fun vs i => (stmtsF T (stmtD T F 12) (tx "return") F [] i).on fun b i =>
      (list T F [59] i).on fun es i=>(want T i [125]).on fun _ i=>.ok (⟨s,l,ps,rs,vs,b++[⟨9,[],[],es⟩]⟩,i)
def namesF:Nat→List (List Nat)→Nat→R (List (List Nat))
  | 0,_,i=>.error (99,i)
  | f+1,l,i=>(name T i).on fun s j =>
      if l.length=64 then .error (74,i) else if named T j then namesF f (l++[s]) j else .ok (l++[s],j)
def principalsF:Nat→List (List Nat)→Nat→R (List (List Nat))
  | 0,_,i=>.error (99,i)
  | f + 1,l,i => if is T i (tx "principal") then (namesF T F l (i + 1)).on fun l i => (want T i [59]).on fun _ i => principalsF f l i else .ok (l,i)
def declsF (ns:List (List Nat)):Nat→So→Nat→R So
  | 0,_,i=>.error (99,i)
  | f+1,s,i =>
    match T i with
    | none=>.ok (s,i)
    | some _ =>
      if is T i (tx "global") then (decl T F ns (i + 1)).on fun d i => (want T i [59]).on fun _ i => declsF ns f { s with globals := s.globals ++ [d] } i
      else if is T i (tx "channel") then (decl T F ns (i + 1)).on fun d i => (want T i [59]).on fun _ i => declsF ns f { s with channels := s.channels ++ [d] } i
      else if is T i (tx "array") then
        (name T (i+1)).on fun n i=>(number T i).on fun v i=>(label T F ns i).on fun l i=>(want T i [59]).on fun _ i=>declsF ns f { s with arrays:=s.arrays++[⟨n,v,l⟩] } i
      else if is T i (tx "func") then (func T F ns (i + 1)).on fun g i => declsF ns f { s with funcs := s.funcs ++ [g] } i
      else .error (50,i)
def source:R So:=(principalsF T F F [] 0).on fun ns i=>declsF T F ns F ⟨ns,[],[],[],[]⟩ i
def whole1:R (List Tm):=(expr T F 0).on fun l i=>if (T i).isSome then .error (50,i) else .ok (l,i)
end
def run:List Tm→Nat→Option Nat
  | [],n=>some n
  | t :: l,n =>
    if t.kind=1 ∨ t.kind=2 then run l (n+1)
    else if t.kind=3 ∨ t.kind=4∧15≤t.value∧t.value≤17 then (if n<1 then none else run l n)
    else if t.kind=5∧1≤t.value∧t.value≤14 then (if n<2 then none else run l (n - 1))
    else none
def Wh (l:List Tm):Prop:=∀ (n:Nat) (r:List Tm),run (l++r) n=run r (n+1)
theorem wh_num (v:Nat):Wh [⟨1,v,[]⟩]:=fun n r=>by simp [Syn.run]
theorem wh_name (s:List Nat):Wh [⟨2,0,s⟩]:=fun n r=>by simp [Syn.run]
theorem Wh.index {l:List Tm} (h:Wh l) (s:List Nat):Wh (l++[⟨3,0,s⟩]):=fun n r=>by
  rw [List.append_assoc,h];simp [Syn.run]
theorem Wh.un {l:List Tm} (h:Wh l) {o:Nat} (h1:15≤o) (h2:o≤17):Wh (l++[⟨4,o,[]⟩]):=fun n r=>by
  rw [List.append_assoc,h];simp [Syn.run,h1,h2]
theorem Wh.bin {l r:List Tm} (h:Wh l) (h':Wh r) {o:Nat} (h1:1≤o) (h2:o≤14):Wh (l++r++[⟨5,o,[]⟩]):=fun n q=>by
  rw [List.append_assoc,List.append_assoc,h,h'];simp [Syn.run,h1,h2];intro;omega
theorem Wh.uns {l:List Tm} (h:Wh l):∀ (ops:List Nat),(∀ o ∈ ops,15≤o∧o≤17)→Wh (l++ops.map fun o=>⟨4,o,[]⟩)
  | [],_=>by rwa [List.map_nil,List.append_nil]
  | o :: ops,ho=>by
    have h1:=ho o (List.mem_cons_self ..)
    have:=Wh.uns (h.un h1.1 h1.2) ops (fun x hx=>ho x (List.mem_cons_of_mem _ hx))
    rwa [List.append_assoc] at this
section
variable {T:Nat→Option K} {F:Nat}
theorem R.on_ok {α β:Type} {r:R α} {f:α→Nat→R β} {y:β} {j:Nat} (h:r.on f=.ok (y,j)):∃ x i,r=.ok (x,i)∧f x i=.ok (y,j):=by
  match r,h with
  | .ok (x,i),h=>exact ⟨x,i,rfl,h⟩
theorem want_ok {i j:Nat} {s:List Nat} {u:Unit} (h:want T i s=.ok (u,j)):is T i s=true∧j=i+1:=by
  unfold want at h
  split at h
  · rename_i hi
    injection h with h;injection h with _ h
    exact ⟨hi,h.symm⟩
  · cases h
theorem name_ok {i j:Nat} {s:List Nat} (h:name T i=.ok (s,j)):named T i=true∧j=i+1∧∃ k,T i=some k∧k.text=s∧k.kind=1:=by
  unfold name at h
  split at h
  · rename_i k hk
    split at h
    · rename_i h1
      injection h with h;injection h with h2 h
      exact ⟨by simp [named,hk,h1],h.symm,k,hk,h2,h1⟩
    · cases h
  · cases h
theorem opOf_mem {ms:List (List Nat × Nat)} {i:Nat} (h:opOf T ms i ≠ 0):∃ m ∈ ms,m.2=opOf T ms i:=by
  unfold opOf at h ⊢
  split
  · rename_i m hm
    exact ⟨m,List.mem_of_find?_eq_some hm,rfl⟩
  · rename_i hm
    rw [hm] at h
    exact absurd rfl h
theorem marks_ok (k:Nat):∀ m ∈ marks k,1≤m.2∧m.2≤14:=by
  have:(marks k).all (fun m=>decide (1≤m.2∧m.2≤14))=true:=by
    unfold marks
    split <;> decide
  intro m hm
  simpa using List.all_eq_true.1 this m hm
def Good (p:Nat→R (List Tm)):Prop:=∀ i l j,p i=.ok (l,j)→Wh l∧i<j
theorem loop_good {p:Nat→R (List Tm)} (hp:Good p) (k:Nat):∀ (f:Nat) (l:List Tm) (i:Nat) (l':List Tm) (j:Nat),Wh l→loopF T p (marks k) f l i=.ok (l',j)→Wh l'∧i≤j
  | 0,_,_,_,_,_,h=>by cases h
  | f+1,l,i,l',j,hl,h=>by
    rw [loopF] at h
    split at h
    · injection h with h;injection h with h1 h2
      subst h1;subst h2
      exact ⟨hl,Nat.le_refl _⟩
    · rename_i ho
      obtain ⟨r,i2,h1,h2⟩:=R.on_ok h
      obtain ⟨hr,hi⟩:=hp _ _ _ h1
      obtain ⟨m,hm,he⟩:=opOf_mem ho
      have hb:=marks_ok k m hm
      rw [he] at hb
      obtain ⟨a,b⟩:=loop_good hp k f _ i2 l' j (hl.bin hr hb.1 hb.2) h2
      exact ⟨a,by omega⟩
theorem tower_good {u:Nat→R (List Tm)} (hu:Good u):∀ k,Good (tower T F u k)
  | 0=>fun i l j h=>hu i l j h
  | k+1=>fun i l j h=>by
    rw [tower] at h
    obtain ⟨l1,i1,h1,h2⟩:=R.on_ok h
    obtain ⟨a,b⟩:=tower_good hu k _ _ _ h1
    obtain ⟨c,d⟩:=loop_good (tower_good hu k) _ _ _ _ _ _ a h2
    exact ⟨c,by omega⟩
theorem unOps_good:∀ (f i:Nat) (l:List Nat) (j:Nat),unOps T f i=.ok (l,j)→(∀ o ∈ l,15≤o∧o≤17)∧i≤j
  | 0,_,_,_,h=>by cases h
  | f+1,i,l,j,h=>by
    rw [unOps] at h
    split at h
    · injection h with h;injection h with h1 h2
      subst h1;subst h2
      exact ⟨fun _ hx=>(by cases hx),Nat.le_refl _⟩
    · rename_i ho
      obtain ⟨l1,i1,h1,h2⟩:=R.on_ok h
      injection h2 with h2;injection h2 with h2 h3
      subst h2;subst h3
      obtain ⟨a,b⟩:=unOps_good f _ _ _ h1
      obtain ⟨m,hm,he⟩:=opOf_mem ho
      have hb:15≤m.2∧m.2≤17:=by
        have:([([45],15),([33],16),([126],17)]:List (List Nat × Nat)).all (fun m=>decide (15≤m.2∧m.2≤17))=true:=by decide
        simpa using List.all_eq_true.1 this m hm
      rw [he] at hb
      refine ⟨fun o hx=>?_,by omega⟩
      rcases List.mem_cons.1 hx with rfl | hx
      · exact hb
      · exact a o hx
theorem unary_good {e:Option (Nat→R (List Tm))} (he:∀ p,e=some p→Good p):Good (unary T F e):=by
  intro i l j h
  unfold unary at h
  obtain ⟨ops,i1,h1,h⟩:=R.on_ok h
  obtain ⟨ho,hi⟩:=unOps_good _ _ _ _ h1
  obtain ⟨l2,i2,h2,h⟩:=R.on_ok h
  injection h with h;injection h with h3 h4
  subst h3;subst h4
  have key:Wh l2∧i1<i2:=by
    split at h2
    · cases h2
    · split at h2
      · injection h2 with h2;injection h2 with h3 h4
        subst h3;subst h4
        exact ⟨wh_num _,by omega⟩
      · split at h2
        · split at h2
          · cases h2
          · obtain ⟨l3,i3,h3,h2⟩:=R.on_ok h2
            obtain ⟨_,i4,h4,h2⟩:=R.on_ok h2
            injection h2 with h2;injection h2 with h5 h6
            subst h5;subst h6
            obtain ⟨a,b⟩:=he _ rfl _ _ _ h3
            have:=(want_ok h4).2
            exact ⟨a,by omega⟩
        · obtain ⟨s,i3,h3,h2⟩:=R.on_ok h2
          have hs:=(name_ok h3).2.1
          split at h2
          · split at h2
            · cases h2
            · obtain ⟨l4,i4,h4,h2⟩:=R.on_ok h2
              obtain ⟨_,i5,h5,h2⟩:=R.on_ok h2
              injection h2 with h2;injection h2 with h6 h7
              subst h6;subst h7
              obtain ⟨a,b⟩:=he _ rfl _ _ _ h4
              have:=(want_ok h5).2
              exact ⟨a.index s,by omega⟩
          · injection h2 with h2;injection h2 with h6 h7
            subst h6;subst h7
            exact ⟨wh_name s,by omega⟩
  exact ⟨key.1.uns _ (fun o hx=>ho o (List.mem_reverse.1 hx)),by omega⟩
theorem expr_good:∀ d,Good (exprD T F d)
  | 0=>tower_good (unary_good (fun p h=>by cases h)) 6
  | d+1=>tower_good (unary_good (fun p h=>by cases h;exact expr_good d)) 6
end
end Go.Proofs.Syn
namespace Go.Proofs.Syn
structure StOk (s:St):Prop where
  low:1≤s.kind
  high:s.kind≤8
  one:s.kind=1 ∨ s.kind=3 ∨ s.kind=5 ∨ s.kind=7→s.exprs.length=1
  two:s.kind=2→s.exprs.length=2
  none:s.kind=6 ∨ s.kind=8→s.exprs.length=0
  target:s.kind=1→s.targets.length=1
  whole:∀ e ∈ s.exprs,Wh e
def nest:List Nat→List Bool→Option (List Bool)
  | [],st=>some st
  | k :: l,st =>
    if k=5 then nest l (true :: st)
    else if k=7 then nest l (false :: st)
    else if k=6 then (match st with
      | true :: st=>nest l (false :: st)
      | _=>none)
    else if k=8 then (match st with
      | _ :: st=>nest l st
      | []=>none)
    else nest l st
theorem nest_5 (l:List Nat) (st:List Bool):nest (5 :: l) st=nest l (true :: st):=by simp [nest]
theorem nest_7 (l:List Nat) (st:List Bool):nest (7 :: l) st=nest l (false :: st):=by simp [nest]
theorem nest_6 (l:List Nat) (st:List Bool):nest (6 :: l) (true :: st)=nest l (false :: st):=by simp [nest]
theorem nest_8 (l:List Nat) (x:Bool) (st:List Bool):nest (8 :: l) (x :: st)=nest l st:=by simp [nest]
def Bal (l:List Nat):Prop:=∀ st r,nest (l++r) st=nest r st
theorem Bal.nil:Bal []:=fun _ _=>rfl
theorem Bal.one {k:Nat} (h5:k ≠ 5) (h6:k ≠ 6) (h7:k ≠ 7) (h8:k ≠ 8):Bal [k]:=fun st r=>by simp [nest,h5,h6,h7,h8]
theorem Bal.app {l m:List Nat} (h:Bal l) (h':Bal m):Bal (l++m):=fun st r=>by rw [List.append_assoc,h,h']
theorem Bal.ifs {a:List Nat} (h:Bal a):Bal (5 :: a++[8]):=fun st r=>by
  rw [List.append_assoc];show nest (5 :: (a++([8]++r))) st=_
  rw [nest_5,h];exact nest_8 _ _ _
theorem Bal.whiles {a:List Nat} (h:Bal a):Bal (7 :: a++[8]):=fun st r=>by
  rw [List.append_assoc];show nest (7 :: (a++([8]++r))) st=_
  rw [nest_7,h];exact nest_8 _ _ _
theorem Bal.elses {a b:List Nat} (h:Bal a) (h':Bal b):Bal (5 :: a++6 :: b++[8]):=fun st r=>by
  rw [List.append_assoc,List.append_assoc];show nest (5 :: (a++(6 :: (b++([8]++r))))) st=_
  rw [nest_5,h,nest_6,h']
  exact nest_8 _ _ _
section
variable {T:Nat→Option K} {F:Nat}
def GoodS (p:Nat→R (List St)):Prop:=∀ i l j,p i=.ok (l,j)→(∀ s ∈ l,StOk s)∧Bal (l.map St.kind)∧i<j
theorem mem_snoc {α:Type} {P:α→Prop} {l:List α} {x:α} (h:∀ y ∈ l,P y) (hx:P x):∀ y ∈ l++[x],P y:=by
  intro y hy
  rcases List.mem_append.1 hy with hy | hy
  · exact h y hy
  · rw [List.mem_singleton.1 hy];exact hx
theorem mem_app {α:Type} {P:α→Prop} {l m:List α} (h:∀ y ∈ l,P y) (h':∀ y ∈ m,P y):∀ y ∈ l++m,P y:=by
  intro y hy
  rcases List.mem_append.1 hy with hy | hy
  · exact h y hy
  · exact h' y hy
theorem list_good {e:Nat→R (List Tm)} (he:Good e) (fin:List Nat):∀ (f:Nat) (l:List (List Tm)) (i:Nat) (l':List (List Tm)) (j:Nat),(∀ x ∈ l,Wh x)→listF T e fin f l i=.ok (l',j)→(∀ x ∈ l',Wh x)∧i<j
  | 0,_,_,_,_,_,h=>by cases h
  | f+1,l,i,l',j,hl,h=>by
    rw [listF] at h
    obtain ⟨x,i1,h1,h⟩:=R.on_ok h
    obtain ⟨hx,hi⟩:=he _ _ _ h1
    split at h
    · injection h with h;injection h with h2 h3
      subst h2;subst h3
      exact ⟨mem_snoc hl hx,by omega⟩
    · split at h
      · obtain ⟨a,b⟩:=list_good he fin f _ _ _ _ (mem_snoc hl hx) h
        exact ⟨a,by omega⟩
      · cases h
theorem listed_good {fin:List Nat} {i j:Nat} {l:List (List Tm)} (h:list T F fin i=.ok (l,j)):(∀ x ∈ l,Wh x)∧i<j:=by
  unfold list at h
  split at h
  · injection h with h;injection h with h2 h3
    subst h2;subst h3
    exact ⟨fun _ hx=>(by cases hx),by omega⟩
  · exact list_good (expr_good 12) _ _ _ _ _ _ (fun _ hx=>(by cases hx)) h
theorem targets_good:∀ (f:Nat) (l:List (List Nat)) (i:Nat) (l':List (List Nat)) (j:Nat),targetsF T f l i=.ok (l',j)→i≤j
  | 0,_,_,_,_,h=>by cases h
  | f+1,l,i,l',j,h=>by
    rw [targetsF] at h
    split at h
    · obtain ⟨s,i1,h1,h⟩:=R.on_ok h
      have:=(name_ok h1).2.1
      have:=targets_good f _ _ _ _ h
      omega
    · injection h with h;injection h with h2 h3
      omega
theorem call_good {ts:List (List Nat)} {s:List Nat} {i j:Nat} {l:List St} (h:call T F ts s i=.ok (l,j)):(∀ s ∈ l,StOk s)∧Bal (l.map St.kind)∧i<j:=by
  unfold call at h
  obtain ⟨_,i1,h1,h⟩:=R.on_ok h
  obtain ⟨es,i2,h2,h⟩:=R.on_ok h
  obtain ⟨_,i3,h3,h⟩:=R.on_ok h
  injection h with h;injection h with h4 h5
  subst h4;subst h5
  have a:=(want_ok h1).2
  have b:=listed_good h2
  have c:=(want_ok h3).2
  refine ⟨fun x hx=>?_,Bal.one (by simp) (by simp) (by simp) (by simp),by omega⟩
  rw [List.mem_singleton.1 hx]
  exact ⟨by simp,by simp,by simp,by simp,by simp,by simp,b.1⟩
theorem plain_good:GoodS (plain T F):=by
  intro i l j h
  unfold plain at h
  obtain ⟨s,i1,h1,h⟩:=R.on_ok h
  have n1:=(name_ok h1).2.1
  split at h
  · obtain ⟨a,i2,h2,h⟩:=R.on_ok h
    obtain ⟨_,i3,h3,h⟩:=R.on_ok h
    obtain ⟨_,i4,h4,h⟩:=R.on_ok h
    obtain ⟨b,i5,h5,h⟩:=R.on_ok h
    obtain ⟨_,i6,h6,h⟩:=R.on_ok h
    injection h with h;injection h with h7 h8
    subst h7;subst h8
    have g2:=expr_good 12 _ _ _ h2
    have g3:=(want_ok h3).2
    have g4:=(want_ok h4).2
    have g5:=expr_good 12 _ _ _ h5
    have g6:=(want_ok h6).2
    refine ⟨fun x hx=>?_,Bal.one (by simp) (by simp) (by simp) (by simp),by omega⟩
    rw [List.mem_singleton.1 hx]
    refine ⟨by simp,by simp,by simp,by simp,by simp,by simp,?_⟩
    intro e he
    rcases (show e=a ∨ e=b by simpa using he) with rfl | rfl
    · exact g2.1
    · exact g5.1
  · split at h
    · have:=call_good h
      exact ⟨this.1,this.2.1,by omega⟩
    · obtain ⟨ts,i2,h2,h⟩:=R.on_ok h
      obtain ⟨_,i3,h3,h⟩:=R.on_ok h
      have g2:=targets_good _ _ _ _ _ h2
      have g3:=(want_ok h3).2
      split at h
      · rename_i ht
        obtain ⟨e,i4,h4,h⟩:=R.on_ok h
        obtain ⟨_,i5,h5,h⟩:=R.on_ok h
        injection h with h;injection h with h7 h8
        subst h7;subst h8
        have g4:=expr_good 12 _ _ _ h4
        have g5:=(want_ok h5).2
        refine ⟨fun x hx=>?_,Bal.one (by simp) (by simp) (by simp) (by simp),by omega⟩
        rw [List.mem_singleton.1 hx]
        refine ⟨by simp,by simp,by simp,by simp,by simp,fun _=>ht.1,?_⟩
        intro y hy
        rw [List.mem_singleton.1 hy]
        exact g4.1
      · obtain ⟨s,i4,h4,h⟩:=R.on_ok h
        have g4:=(name_ok h4).2.1
        have:=call_good h
        exact ⟨this.1,this.2.1,by omega⟩
theorem stmts_good {s:Nat→R (List St)} (hs:GoodS s) (fin:List Nat):∀ (f:Nat) (l:List St) (i:Nat) (l':List St) (j:Nat),(∀ x ∈ l,StOk x)→Bal (l.map St.kind)→stmtsF T s fin f l i=.ok (l',j)→(∀ x ∈ l',StOk x)∧Bal (l'.map St.kind)∧i<j
  | 0,_,_,_,_,_,_,h=>by cases h
  | f+1,l,i,l',j,hl,hb,h=>by
    rw [stmtsF] at h
    split at h
    · injection h with h;injection h with h2 h3
      subst h2;subst h3
      exact ⟨hl,hb,by omega⟩
    · obtain ⟨x,i1,h1,h⟩:=R.on_ok h
      obtain ⟨a,b,c⟩:=hs _ _ _ h1
      obtain ⟨d,e,g⟩:=stmts_good hs fin f _ _ _ _ (mem_app hl a) (by rw [List.map_append];exact hb.app b) h
      exact ⟨d,e,by omega⟩
theorem block_good {s:Option (Nat→R (List St))} (hs:∀ p,s=some p→GoodS p):GoodS (block T F s):=by
  intro i l j h
  unfold block at h
  split at h
  · split at h <;> cases h
  · obtain ⟨_,i1,h1,h⟩:=R.on_ok h
    have g:=(want_ok h1).2
    obtain ⟨a,b,c⟩:=stmts_good (hs _ rfl) _ _ [] _ _ _ (fun _ hx=>(by cases hx)) Bal.nil h
    exact ⟨a,b,by omega⟩
theorem stOk_1 (k:Nat) (hk:k=5 ∨ k=7) {e:List Tm} (h:Wh e):StOk ⟨k,[],[],[e]⟩:=by
  refine ⟨?_,?_,fun _=>rfl,?_,?_,?_,fun x hx=>by rw [List.mem_singleton.1 hx];exact h⟩
  all_goals (try intro h1);simp only at *;omega
theorem stOk_0 (k:Nat) (hk:k=6 ∨ k=8):StOk ⟨k,[],[],[]⟩:=by
  refine ⟨?_,?_,?_,?_,fun _=>rfl,?_,fun x hx=>by cases hx⟩
  all_goals (try intro h1);simp only at *;omega
theorem stmtOf_good {s:Option (Nat→R (List St))} (hs:∀ p,s=some p→GoodS p):GoodS (stmtOf T F s):=by
  intro i l j h
  unfold stmtOf at h
  split at h
  · obtain ⟨e,i1,h1,h⟩:=R.on_ok h
    obtain ⟨a,i2,h2,h⟩:=R.on_ok h
    have g1:=expr_good 12 _ _ _ h1
    have g2:=block_good hs _ _ _ h2
    split at h
    · obtain ⟨b,i3,h3,h⟩:=R.on_ok h
      have g3:=block_good hs _ _ _ h3
      injection h with h;injection h with h4 h5
      subst h4;subst h5
      refine ⟨?_,?_,by omega⟩
      · intro x hx
        simp only [List.cons_append,List.mem_cons,List.mem_append,List.append_assoc,List.not_mem_nil,or_false] at hx
        rcases hx with rfl | hx | rfl | hx | rfl
        · exact stOk_1 5 (.inl rfl) g1.1
        · exact g2.1 x hx
        · exact stOk_0 6 (.inl rfl)
        · exact g3.1 x hx
        · exact stOk_0 8 (.inr rfl)
      · simpa using Bal.elses g2.2.1 g3.2.1
    · injection h with h;injection h with h4 h5
      subst h4;subst h5
      refine ⟨?_,?_,by omega⟩
      · intro x hx
        simp only [List.cons_append,List.mem_cons,List.mem_append,List.not_mem_nil,or_false] at hx
        rcases hx with rfl | hx | rfl
        · exact stOk_1 5 (.inl rfl) g1.1
        · exact g2.1 x hx
        · exact stOk_0 8 (.inr rfl)
      · simpa using Bal.ifs g2.2.1
  · split at h
    · obtain ⟨e,i1,h1,h⟩:=R.on_ok h
      obtain ⟨a,i2,h2,h⟩:=R.on_ok h
      have g1:=expr_good 12 _ _ _ h1
      have g2:=block_good hs _ _ _ h2
      injection h with h;injection h with h4 h5
      subst h4;subst h5
      refine ⟨?_,?_,by omega⟩
      · intro x hx
        simp only [List.cons_append,List.mem_cons,List.mem_append,List.not_mem_nil,or_false] at hx
        rcases hx with rfl | hx | rfl
        · exact stOk_1 7 (.inr rfl) g1.1
        · exact g2.1 x hx
        · exact stOk_0 8 (.inr rfl)
      · simpa using Bal.whiles g2.2.1
    · split at h
      · obtain ⟨c,i1,h1,h⟩:=R.on_ok h
        obtain ⟨e,i2,h2,h⟩:=R.on_ok h
        obtain ⟨_,i3,h3,h⟩:=R.on_ok h
        injection h with h;injection h with h4 h5
        subst h4;subst h5
        have g1:=(name_ok h1).2.1
        have g2:=expr_good 12 _ _ _ h2
        have g3:=(want_ok h3).2
        refine ⟨fun x hx=>?_,Bal.one (by simp) (by simp) (by simp) (by simp),by omega⟩
        rw [List.mem_singleton.1 hx]
        refine ⟨by simp,by simp,by simp,by simp,by simp,by simp,?_⟩
        intro y hy
        rw [List.mem_singleton.1 hy]
        exact g2.1
      · exact plain_good _ _ _ h
theorem stmt_good:∀ d,GoodS (stmtD T F d)
  | 0=>stmtOf_good (fun p h=>by cases h)
  | d+1=>stmtOf_good (fun p h=>by cases h;exact stmt_good d)
def FnOk (g:Fn):Prop:=∃ (b:List St) (es:List (List Tm)),g.body=b++[⟨9,[],[],es⟩]∧(∀ s ∈ b,StOk s)∧Bal (b.map St.kind)∧∀ e ∈ es,Wh e
end
end Go.Proofs.Syn
namespace Go.Proofs.Syn
def fin {α:Type}:R α→Nat
  | .error e=>e.2
  | .ok x=>x.2
def L {α:Type} (m i:Nat) (r r':R α):Prop:=i≤fin r∧(fin r≤m→r'=r)
theorem L.on {α β:Type} {m i:Nat} {r r':R α} {f f':α→Nat→R β} (h:L m i r r') (hf:∀ x j,r=.ok (x,j)→L m j (f x j) (f' x j)):L m i (r.on f) (r'.on f'):=by
  match r,h,hf with
  | .error e,h,_=>exact ⟨h.1,fun hm=>by rw [h.2 hm];rfl⟩
  | .ok (x,j),h,hf =>
    have g:=hf x j rfl
    have h1:i≤j:=h.1
    have h2:j≤fin (f x j):=g.1
    refine ⟨Nat.le_trans h1 h2,fun hm=>?_⟩
    have hm':fin (f x j)≤m:=hm
    rw [h.2 (Nat.le_trans h2 hm')]
    exact g.2 hm'
theorem L.from {α:Type} {m i k:Nat} {r r':R α} (h:L m k r r') (hik:i≤k):L m i r r':=⟨Nat.le_trans hik h.1,h.2⟩
theorem L.ok {α:Type} {m i j:Nat} (x:α) (h:i≤j):L m i (.ok (x,j):R α) (.ok (x,j)):=⟨h,fun _=>rfl⟩
theorem L.err {α:Type} {m i j:Nat} (e:Nat) (h:i≤j):L m i (.error (e,j):R α) (.error (e,j)):=⟨h,fun _=>rfl⟩
theorem L.low {α:Type} {m i:Nat} {r r':R α} (h1:i≤fin r) (h:i≤m→L m i r r'):L m i r r':=⟨h1,fun hm=>(h (Nat.le_trans h1 hm)).2 hm⟩
theorem L.sw {α:Type} {m i:Nat} {c c':Bool} {a a' b b':R α} (hc:i≤m→c'=c) (ha:L m i a a') (hb:L m i b b'):L m i (if c=true then a else b) (if c'=true then a' else b'):=by
  refine L.low ?_ fun h=>?_
  · split
    · exact ha.1
    · exact hb.1
  · rw [hc h]
    split
    · exact ha
    · exact hb
theorem on_fin {α β:Type} {r:R α} {f:α→Nat→R β} (h:∀ x j,r=.ok (x,j)→j≤fin (f x j)):fin r≤fin (r.on f):=by
  match r,h with
  | .error e,_=>exact Nat.le_refl _
  | .ok (x,j),h=>exact h x j rfl
section
variable {T T':Nat→Option K} {F m:Nat} (hT:∀ i,i≤m→T' i=T i)
include hT
theorem is_loc {i:Nat} (s:List Nat) (h:i≤m):is T' i s=is T i s:=by unfold is;rw [hT i h]
theorem named_loc {i:Nat} (h:i≤m):named T' i=named T i:=by unfold named;rw [hT i h]
theorem opOf_loc {i:Nat} (ms:List (List Nat × Nat)) (h:i≤m):opOf T' ms i=opOf T ms i:=by
  unfold opOf
  rw [show (fun m:List Nat × Nat=>is T' i m.1)=fun m=>is T i m.1 from funext fun x=>is_loc hT x.1 h]
theorem want_loc (i:Nat) (s:List Nat):L m i (want T i s) (want T' i s):=by
  unfold want
  exact L.sw (fun h=>is_loc hT s h) (L.ok _ (by omega)) (L.err _ (by omega))
theorem name_loc (i:Nat):L m i (name T i) (name T' i):=by
  refine L.low ?_ fun h=>?_
  · unfold name;split
    · split <;> simp [fin]
    · simp [fin]
  · unfold name;rw [hT i h];split
    · split
      · exact L.ok _ (by omega)
      · exact L.err _ (by omega)
    · exact L.err _ (by omega)
theorem number_loc (i:Nat):L m i (number T i) (number T' i):=by
  refine L.low ?_ fun h=>?_
  · unfold number;split
    · split <;> simp [fin]
    · simp [fin]
  · unfold number;rw [hT i h];split
    · split
      · exact L.ok _ (by omega)
      · exact L.err _ (by omega)
    · exact L.err _ (by omega)
theorem labelF_loc (ns:List (List Nat)):∀ (f l i:Nat),L m i (labelF T ns f l i) (labelF T' ns f l i)
  | 0,_,_=>L.err _ (by omega)
  | f+1,l,i=>by
    refine L.low ?_ fun h=>?_
    · rw [labelF];split
      · split
        · split
          · exact ((labelF_loc ns f _ (i+1)).from (by omega)).1
          · simp [fin]
        · simp [fin]
      · simp [fin]
    · rw [labelF,labelF,hT i h];split
      · split
        · split
          · exact (labelF_loc ns f _ (i+1)).from (by omega)
          · exact L.err _ (by omega)
        · exact L.ok _ (by omega)
      · exact L.ok _ (by omega)
theorem label_loc (ns:List (List Nat)) (i:Nat):L m i (label T F ns i) (label T' F ns i) :=
  (want_loc hT i _).on fun _ j _=>(labelF_loc hT ns F 0 j).on fun _ j _=>(want_loc hT j _).on fun _ _ _=>L.ok _ (Nat.le_refl _)
theorem decl_loc (ns:List (List Nat)) (i:Nat):L m i (decl T F ns i) (decl T' F ns i) :=
  (name_loc hT i).on fun _ j _=>(label_loc hT ns j).on fun _ _ _=>L.ok _ (Nat.le_refl _)
theorem loop_loc {p p':Nat→R (List Tm)} (hp:∀ i,L m i (p i) (p' i)) (ms:List (List Nat × Nat)):∀ (f:Nat) (l:List Tm) (i:Nat),L m i (loopF T p ms f l i) (loopF T' p' ms f l i)
  | 0,_,_=>L.err _ (by omega)
  | f+1,l,i=>by
    have key:∀ o,L m i ((p (i+1)).on fun r j=>loopF T p ms f (l++r++[⟨5,o,[]⟩]) j) ((p' (i+1)).on fun r j=>loopF T' p' ms f (l++r++[⟨5,o,[]⟩]) j):=fun o =>
      ((hp (i+1)).from (by omega)).on fun r j _=>loop_loc hp ms f _ j
    refine L.low ?_ fun h=>?_
    · rw [loopF];split
      · simp [fin]
      · exact (key _).1
    · rw [loopF,loopF,opOf_loc hT ms h];split
      · exact L.ok _ (by omega)
      · exact key _
theorem tower_loc {u u':Nat→R (List Tm)} (hu:∀ i,L m i (u i) (u' i)):∀ k i,L m i (tower T F u k i) (tower T' F u' k i)
  | 0,i=>hu i
  | k+1,i=>by
    rw [tower,tower]
    exact (tower_loc hu k i).on fun l j _=>loop_loc hT (tower_loc hu k) _ _ _ _
theorem unOps_loc:∀ (f i:Nat),L m i (unOps T f i) (unOps T' f i)
  | 0,_=>L.err _ (by omega)
  | f+1,i=>by
    have key:∀ o,L m i ((unOps T f (i+1)).on fun l j=>(.ok (o :: l,j):R (List Nat))) ((unOps T' f (i+1)).on fun l j=>(.ok (o :: l,j):R (List Nat))):=fun o =>
      ((unOps_loc f (i+1)).from (by omega)).on fun _ _ _=>L.ok _ (Nat.le_refl _)
    refine L.low ?_ fun h=>?_
    · rw [unOps];split
      · simp [fin]
      · exact (key _).1
    · rw [unOps,unOps,opOf_loc hT _ h];split
      · exact L.ok _ (by omega)
      · exact key _
def brack (T:Nat→Option K) (e:Option (Nat→R (List Tm))) (g:List Tm→List Tm) (s:List Nat) (i:Nat):R (List Tm) :=
  match e with
  | none=>.error (51,i)
  | some p=>(p (i+1)).on fun l i=>(want T i s).on fun _ i=>.ok (g l,i)
def atomN (T:Nat→Option K) (e:Option (Nat→R (List Tm))) (i:Nat):R (List Tm) :=
  (name T i).on fun s i=>if is T i [91] then brack T e (fun l=>l++[⟨3,0,s⟩]) [93] i else .ok ([⟨2,0,s⟩],i)
def atom (T:Nat→Option K) (e:Option (Nat→R (List Tm))) (i:Nat):R (List Tm) :=
  match T i with
  | none=>.error (50,i)
  | some k =>
    if k.kind=3 then .ok ([⟨1,k.value,[]⟩],i+1)
    else if is T i [40] then brack T e (fun l=>l) [41] i
    else atomN T e i
omit hT in
theorem unary_atom (e:Option (Nat→R (List Tm))) (i:Nat):unary T F e i=(unOps T F i).on fun ops i=>(atom T e i).on fun l i=>.ok (l++ops.reverse.map fun o=>⟨4,o,[]⟩,i):=rfl
def Both (m:Nat):Option (Nat→R (List Tm))→Option (Nat→R (List Tm))→Prop
  | none,none=>True
  | some p,some p'=>∀ i,L m i (p i) (p' i)
  | _,_=>False
theorem brack_loc {e e':Option (Nat→R (List Tm))} (he:Both m e e') (g:List Tm→List Tm) (s:List Nat) (i:Nat) :
    L m i (brack T e g s i) (brack T' e' g s i):=by
  match e,e',he with
  | none,none,_=>exact L.err _ (Nat.le_refl _)
  | some p,some p',he=>exact ((he (i+1)).from (by omega)).on fun l j _=>(want_loc hT j s).on fun _ _ _=>L.ok _ (Nat.le_refl _)
theorem atomN_loc {e e':Option (Nat→R (List Tm))} (he:Both m e e') (i:Nat):L m i (atomN T e i) (atomN T' e' i) :=
  (name_loc hT i).on fun s j _=>L.sw (fun h=>is_loc hT _ h) (brack_loc hT he (fun l=>l++[⟨3,0,s⟩]) _ j) (L.ok _ (Nat.le_refl _))
theorem atom_loc {e e':Option (Nat→R (List Tm))} (he:Both m e e') (i:Nat):L m i (atom T e i) (atom T' e' i):=by
  have key2:=L.sw (fun h=>is_loc hT [40] h) (brack_loc hT he (fun l=>l) [41] i) (atomN_loc hT he i)
  refine L.low ?_ fun h=>?_
  · unfold atom;split
    · simp [fin]
    · split
      · simp [fin]
      · exact key2.1
  · unfold atom;rw [hT i h];split
    · exact L.err _ (by omega)
    · split
      · exact L.ok _ (by omega)
      · exact key2
theorem unary_loc {e e':Option (Nat→R (List Tm))} (he:Both m e e') (i:Nat):L m i (unary T F e i) (unary T' F e' i):=by
  rw [unary_atom,unary_atom]
  exact (unOps_loc hT F i).on fun ops j _=>(atom_loc hT he j).on fun _ _ _=>L.ok _ (Nat.le_refl _)
theorem expr_loc:∀ d i,L m i (exprD T F d i) (exprD T' F d i)
  | 0,i=>tower_loc hT (unary_loc (e:=none) (e':=none) hT trivial) 6 i
  | d+1,i=>tower_loc hT (unary_loc (e:=some _) (e':=some _) hT (expr_loc d)) 6 i
end
section
variable {T:Nat→Option K} {F:Nat}
theorem not_is {i:Nat} (h:named T i=true) (s:List Nat):is T i s=false:=by
  unfold named at h;unfold is
  split
  · rename_i k hk
    rw [hk] at h
    have:k.kind=1:=by simpa using h
    simp [this]
  · rfl
theorem no_op {i:Nat} (h:named T i=true) (ms:List (List Nat × Nat)):opOf T ms i=0:=by
  unfold opOf
  have:ms.find? (fun m=>is T i m.1)=none:=by
    rw [List.find?_eq_none]
    intro x _
    rw [not_is h];simp
  rw [this]
theorem name_is {i:Nat} (h:named T i=true):∃ k,T i=some k∧k.kind=1∧name T i=.ok (k.text,i+1):=by
  unfold named at h
  split at h
  · rename_i k hk
    have:k.kind=1:=by simpa using h
    exact ⟨k,hk,this,by unfold name;rw [hk];simp [this]⟩
  · cases h
theorem expr_on (hF:F ≠ 0) {i:Nat} (h:named T i=true):i+1≤fin (expr T F i):=by
  have ht:∀ j,j≤0→T j=T j:=fun _ _=>rfl
  have hu:i+1≤fin (unary T F (some (exprD T F 11)) i):=by
    rw [unary_atom]
    have h1:unOps T F i=.ok ([],i):=by
      match F,hF with
      | f+1,_=>rw [unOps,if_pos (no_op h _)]
    rw [h1]
    show i+1≤fin ((atom T (some (exprD T F 11)) i).on _)
    refine Nat.le_trans ?_ (on_fin fun x j _=>Nat.le_refl _)
    obtain ⟨k,hk,h1,h2⟩:=name_is h
    unfold atom
    rw [hk]
    show i+1≤fin (if k.kind=3 then _ else if is T i [40] then _ else atomN T _ i)
    rw [if_neg (by omega),not_is h,if_neg (by simp)]
    unfold atomN
    rw [h2]
    exact (L.sw (m:=0) (fun h=>is_loc ht _ h) (brack_loc (T':=T) ht (e:=some (exprD T F 11)) (e':=some (exprD T F 11)) (expr_loc ht 11) (fun l=>l++[⟨3,0,k.text⟩]) [93] (i+1)) (L.ok _ (Nat.le_refl _))).1
  have hl:=fun i=>(unary_loc (T':=T) (F:=F) ht (e:=some (exprD T F 11)) (e':=some (exprD T F 11)) (expr_loc ht 11) i)
  have:∀ k,i+1≤fin (tower T F (unary T F (some (exprD T F 11))) k i):=by
    intro k
    induction k with
    | zero=>exact hu
    | succ k ih =>
      rw [tower]
      exact Nat.le_trans ih (on_fin fun x j _=>(loop_loc (T':=T) ht (tower_loc ht hl k) _ _ _ _).1)
  exact this 6
end
end Go.Proofs.Syn
namespace Go.Proofs.Syn
section
variable {T T':Nat→Option K} {F m:Nat} (hT:∀ i,i≤m→T' i=T i)
include hT
theorem listF_loc {e e':Nat→R (List Tm)} (he:∀ i,L m i (e i) (e' i)) (s:List Nat):∀ (f:Nat) (l:List (List Tm)) (i:Nat),L m i (listF T e s f l i) (listF T' e' s f l i)
  | 0,_,_=>L.err _ (Nat.le_refl _)
  | f+1,l,i=>by
    rw [listF,listF]
    exact (he i).on fun x j _=>L.sw (fun h=>is_loc hT _ h) (L.ok _ (by omega)) (L.sw (fun h=>is_loc hT _ h) ((listF_loc he s f _ (j+1)).from (by omega)) (L.err _ (Nat.le_refl _)))
theorem list_loc (s:List Nat) (i:Nat):L m i (list T F s i) (list T' F s i):=by
  unfold list
  exact L.sw (fun h=>is_loc hT _ h) (L.ok _ (by omega)) (listF_loc hT (expr_loc hT 12) s _ _ _)
theorem targetsF_loc:∀ (f:Nat) (l:List (List Nat)) (i:Nat),L m i (targetsF T f l i) (targetsF T' f l i)
  | 0,_,_=>L.err _ (Nat.le_refl _)
  | f+1,l,i=>by
    rw [targetsF,targetsF]
    exact L.sw (fun h=>is_loc hT _ h) (((name_loc hT (i+1)).from (by omega)).on fun s j _=>targetsF_loc f _ j) (L.ok _ (Nat.le_refl _))
theorem stmtsF_loc {s s':Nat→R (List St)} (hs:∀ i,L m i (s i) (s' i)) (e:List Nat):∀ (f:Nat) (l:List St) (i:Nat),L m i (stmtsF T s e f l i) (stmtsF T' s' e f l i)
  | 0,_,_=>L.err _ (Nat.le_refl _)
  | f+1,l,i=>by
    rw [stmtsF,stmtsF]
    exact L.sw (fun h=>is_loc hT _ h) (L.ok _ (by omega)) ((hs i).on fun x j _=>stmtsF_loc hs e f _ j)
def BothS (m:Nat):Option (Nat→R (List St))→Option (Nat→R (List St))→Prop
  | none,none=>True
  | some p,some p'=>∀ i,L m i (p i) (p' i)
  | _,_=>False
theorem block_loc {s s':Option (Nat→R (List St))} (hs:BothS m s s') (i:Nat):L m i (block T F s i) (block T' F s' i):=by
  match s,s',hs with
  | none,none,_=>exact L.sw (fun h=>is_loc hT _ h) (L.err _ (Nat.le_refl _)) (L.err _ (Nat.le_refl _))
  | some p,some p',hs=>exact (want_loc hT i _).on fun _ j _=>stmtsF_loc hT hs _ _ _ _
theorem call_loc (ts:List (List Nat)) (s:List Nat) (i:Nat):L m i (call T F ts s i) (call T' F ts s i) :=
  (want_loc hT i _).on fun _ j _=>(list_loc hT _ j).on fun _l j _=>(want_loc hT j _).on fun _ _ _=>L.ok _ (Nat.le_refl _)
theorem plain_loc (hF:F ≠ 0) (i:Nat):L m i (plain T F i) (plain T' F i):=by
  refine (name_loc hT i).on fun s j _=>?_
  refine L.sw (fun h=>is_loc hT _ h) ?_ (L.sw (fun h=>is_loc hT _ h) (call_loc hT _ _ j) ?_)
  · exact ((expr_loc hT 12 (j+1)).from (by omega)).on fun a j _=>(want_loc hT j _).on fun _ j _=>(want_loc hT j _).on fun _ j _=>(expr_loc hT 12 j).on fun b j _=>(want_loc hT j _).on fun _ j _=>L.ok _ (Nat.le_refl _)
  · refine (targetsF_loc hT F [s] j).on fun ts j _=>(want_loc hT j _).on fun _ j _=>?_
    have A:L m j ((expr T F j).on fun e i=>(want T i [59]).on fun _ i=>(.ok ([⟨1,[],ts,[e]⟩],i):R (List St))) ((expr T' F j).on fun e i=>(want T' i [59]).on fun _ i=>(.ok ([⟨1,[],ts,[e]⟩],i):R (List St))) :=
      (expr_loc hT 12 j).on fun e j _=>(want_loc hT j _).on fun _ j _=>L.ok _ (Nat.le_refl _)
    have B:L m j ((name T j).on fun s i=>call T F ts s i) ((name T' j).on fun s i=>call T' F ts s i) :=
      (name_loc hT j).on fun s j _=>call_loc hT ts s j
    by_cases hl:ts.length=1
    · by_cases hn:named T j=true
      · -- a name: the token behind it decides,and either way goes on to it
        have hA:j+1≤fin ((expr T F j).on fun e i=>(want T i [59]).on fun _ i=>(.ok ([⟨1,[],ts,[e]⟩],i):R (List St))) :=
          Nat.le_trans (expr_on hF hn) (on_fin fun e k _=>((want_loc (T':=T) (m:=0) (fun _ _=>rfl) k _).on (f':=fun _ i=>(.ok ([⟨1,[],ts,[e]⟩],i):R (List St))) fun _ _ _=>L.ok _ (Nat.le_refl _)).1)
        have hB:j+1≤fin ((name T j).on fun s i=>call T F ts s i):=by
          obtain ⟨k,_,_,h2⟩:=name_is hn
          rw [h2]
          exact (call_loc (T':=T) (m:=0) (fun _ _=>rfl) ts k.text (j+1)).1
        refine ⟨?_,fun hm=>?_⟩
        · split
          · exact A.1
          · exact B.1
        · have hj:j+1≤m:=by
            refine Nat.le_trans ?_ hm
            split
            · exact hA
            · exact hB
          have h1:=named_loc hT (i:=j) (by omega)
          have h2:=is_loc hT [40] hj
          rw [h1,h2]
          split at hm
          · rename_i hc
            rw [if_pos hc,if_pos hc]
            exact A.2 hm
          · rename_i hc
            rw [if_neg hc,if_neg hc]
            exact B.2 hm
      · refine L.low ?_ fun hj=>?_
        · rw [if_pos ⟨hl,fun h=>hn h.1⟩];exact A.1
        · rw [if_pos ⟨hl,fun h=>hn h.1⟩,if_pos ⟨hl,fun h=>hn (by rw [← named_loc hT hj];exact h.1)⟩]
          exact A
    · rw [if_neg (fun h=>hl h.1),if_neg (fun h=>hl h.1)]
      exact B
theorem stmtOf_loc (hF:F ≠ 0) {s s':Option (Nat→R (List St))} (hs:BothS m s s') (i:Nat):L m i (stmtOf T F s i) (stmtOf T' F s' i):=by
  unfold stmtOf
  refine L.sw (fun h=>is_loc hT _ h) ?_ (L.sw (fun h=>is_loc hT _ h) ?_ (L.sw (fun h=>is_loc hT _ h) ?_ (plain_loc hT hF i)))
  · exact ((expr_loc hT 12 (i+1)).from (by omega)).on fun e j _=>(block_loc hT hs j).on fun a j _ =>
      L.sw (fun h=>is_loc hT _ h) (((block_loc hT hs (j+1)).from (by omega)).on fun b j _=>L.ok _ (Nat.le_refl _)) (L.ok _ (Nat.le_refl _))
  · exact ((expr_loc hT 12 (i+1)).from (by omega)).on fun e j _=>(block_loc hT hs j).on fun a j _=>L.ok _ (Nat.le_refl _)
  · exact ((name_loc hT (i+1)).from (by omega)).on fun c j _=>(expr_loc hT 12 j).on fun e j _=>(want_loc hT j _).on fun _ j _=>L.ok _ (Nat.le_refl _)
theorem stmt_loc (hF:F ≠ 0):∀ d i,L m i (stmtD T F d i) (stmtD T' F d i)
  | 0,i=>stmtOf_loc hT hF (s:=none) (s':=none) trivial i
  | d+1,i=>stmtOf_loc hT hF (s:=some _) (s':=some _) (stmt_loc hF d) i
theorem rowF_loc {α:Type} {p p':Nat→R α} (hp:∀ i,L m i (p i) (p' i)):∀ (f:Nat) (l:List α) (i:Nat),L m i (rowF T p f l i) (rowF T' p' f l i)
  | 0,_,_=>L.err _ (Nat.le_refl _)
  | f+1,l,i=>by
    rw [rowF,rowF]
    exact (hp i).on fun x j _=>L.sw (fun h=>is_loc hT _ h) (L.ok _ (by omega)) (L.sw (fun h=>is_loc hT _ h) ((rowF_loc hp f _ (j+1)).from (by omega)) (L.err _ (Nat.le_refl _)))
theorem row_loc {α:Type} {p p':Nat→R α} (hp:∀ i,L m i (p i) (p' i)) (i:Nat):L m i (row T F p i) (row T' F p' i) :=
  (want_loc hT i _).on fun _ j _=>L.sw (fun h=>is_loc hT _ h) (L.ok _ (by omega)) (rowF_loc hT hp _ _ _)
theorem varsF_loc (ns:List (List Nat)):∀ (f:Nat) (l:List De) (i:Nat),L m i (varsF T F ns f l i) (varsF T' F ns f l i)
  | 0,_,_=>L.err _ (Nat.le_refl _)
  | f+1,l,i=>by
    rw [varsF,varsF]
    exact L.sw (fun h=>is_loc hT _ h) (((decl_loc hT ns (i+1)).from (by omega)).on fun d j _=>(want_loc hT j _).on fun _ j _=>varsF_loc ns f _ j) (L.ok _ (Nat.le_refl _))
theorem func_loc (hF:F ≠ 0) (ns:List (List Nat)) (i:Nat):L m i (func T F ns i) (func T' F ns i) :=
  (name_loc hT i).on fun _s j _=>(label_loc hT ns j).on fun _l j _=>(row_loc hT (decl_loc hT ns) j).on fun _ps j _=>(row_loc hT (label_loc hT ns) j).on fun _rs j _ =>
    (want_loc hT j _).on fun _ j _=>(varsF_loc hT ns F [] j).on fun _vs j _=>(stmtsF_loc hT (stmt_loc hT hF 12) _ _ _ j).on fun _b j _ =>
      (list_loc hT _ j).on fun _es j _=>(want_loc hT j _).on fun _ _j _=>L.ok _ (Nat.le_refl _)
theorem namesF_loc:∀ (f:Nat) (l:List (List Nat)) (i:Nat),L m i (namesF T f l i) (namesF T' f l i)
  | 0,_,_=>L.err _ (Nat.le_refl _)
  | f+1,l,i=>by
    rw [namesF,namesF]
    by_cases hn:named T i=true
    · obtain ⟨k,hk,h1,h2⟩:=name_is hn
      have g:L m i (if l.length=64 then .error (74,i) else if named T (i+1) then namesF T f (l++[k.text]) (i+1) else .ok (l++[k.text],i+1))
          (if l.length=64 then .error (74,i) else if named T' (i+1) then namesF T' f (l++[k.text]) (i+1) else .ok (l++[k.text],i+1)):=by
        by_cases hl:l.length=64
        · rw [if_pos hl,if_pos hl];exact L.err _ (Nat.le_refl _)
        · rw [if_neg hl,if_neg hl]
          exact (L.sw (fun h=>named_loc hT h) (namesF_loc f _ (i+1)) (L.ok _ (Nat.le_refl _))).from (by omega)
      refine L.low (by rw [h2];exact g.1) fun hi=>?_
      have hn':named T' i=true:=by rw [named_loc hT hi];exact hn
      obtain ⟨k',hk',_,h2'⟩:=name_is hn'
      rw [hT i hi,hk] at hk'
      obtain rfl:=Option.some.inj hk'
      rw [h2,h2']
      exact g
    · have hE:∀ T0:Nat→Option K,¬ named T0 i=true→name T0 i=.error (50,i):=by
        intro T0 h0
        unfold name;unfold named at h0
        split
        · rename_i k hk
          rw [hk] at h0
          rw [if_neg (by simpa using h0)]
        · rfl
      refine L.low ?_ fun hi=>?_
      · rw [hE T hn];exact Nat.le_refl _
      · rw [hE T hn,hE T' (by rw [named_loc hT hi];exact hn)]
        exact L.err _ (Nat.le_refl _)
end
end Go.Proofs.Syn
namespace Go.Proofs.Syn
def Fit {α:Type} (n:Nat):R α→Prop
  | .error e=>(e.1=50 ∨ e.1=10 ∨ e.1=74 ∨ e.1=51)∧e.2≤n
  | .ok x=>x.2≤n
theorem Fit.on {α β:Type} {n:Nat} {r:R α} {f:α→Nat→R β} (h:Fit n r) (hf:∀ x j,r=.ok (x,j)→j≤n→Fit n (f x j)):Fit n (r.on f):=by
  match r,h,hf with
  | .error e,h,_=>exact h
  | .ok (x,j),h,hf=>exact hf x j rfl h
theorem Fit.ok {α:Type} {n j:Nat} (x:α) (h:j≤n):Fit n (.ok (x,j):R α):=h
theorem Fit.err {α:Type} {n j:Nat} (h:j≤n):Fit n (.error (50,j):R α):=⟨.inl rfl,h⟩
theorem Fit.sw {α:Type} {n:Nat} {c:Prop} [Decidable c] {a b:R α} (ha:c→Fit n a) (hb:¬ c→Fit n b):Fit n (if c then a else b):=by
  split
  · rename_i h;exact ha h
  · rename_i h;exact hb h
section
variable {T:Nat→Option K} {F n:Nat} (hN:∀ i,n≤i→T i=none)
include hN
theorem is_lt {i:Nat} {s:List Nat} (h:is T i s=true):i<n:=by
  by_cases hi:n≤i
  · unfold is at h;rw [hN i hi] at h;cases h
  · omega
theorem named_lt {i:Nat} (h:named T i=true):i<n:=by
  by_cases hi:n≤i
  · unfold named at h;rw [hN i hi] at h;cases h
  · omega
theorem some_lt {i:Nat} {k:K} (h:T i=some k):i<n:=by
  by_cases hi:n≤i
  · rw [hN i hi] at h;cases h
  · omega
theorem opOf_lt {i:Nat} {ms:List (List Nat × Nat)} (h:opOf T ms i ≠ 0):i<n:=by
  unfold opOf at h
  split at h
  · rename_i x hx
    exact is_lt hN (s:=x.1) (by simpa using List.find?_some hx)
  · exact absurd rfl h
theorem want_fit {i:Nat} (s:List Nat) (h:i≤n):Fit n (want T i s):=Fit.sw (fun hc=>Fit.ok _ (is_lt hN hc)) (fun _=>Fit.err h)
theorem name_fit {i:Nat} (h:i≤n):Fit n (name T i):=by
  unfold name;split
  · rename_i k hk
    exact Fit.sw (fun _=>Fit.ok _ (some_lt hN hk)) (fun _=>Fit.err h)
  · exact Fit.err h
theorem number_fit {i:Nat} (h:i≤n):Fit n (number T i):=by
  unfold number;split
  · rename_i k hk
    exact Fit.sw (fun _=>Fit.ok _ (some_lt hN hk)) (fun _=>Fit.err h)
  · exact Fit.err h
theorem labelF_fit (ns:List (List Nat)):∀ (f l i:Nat),i≤n→n<f+i→Fit n (labelF T ns f l i)
  | 0,_,_,h,hf=>by omega
  | f+1,l,i,h,hf=>by
    rw [labelF];split
    · rename_i k hk
      have:=some_lt hN hk
      exact Fit.sw (fun _=>Fit.sw (fun _=>labelF_fit ns f _ _ (by omega) (by omega)) (fun _=>⟨.inr (.inl rfl),h⟩)) (fun _=>Fit.ok _ h)
    · exact Fit.ok _ h
theorem label_fit (hF:n<F) (ns:List (List Nat)) {i:Nat} (h:i≤n):Fit n (label T F ns i) :=
  (want_fit hN _ h).on fun _ _ _ h=>(labelF_fit hN ns F 0 _ h (by omega)).on fun _ _ _ h=>(want_fit hN _ h).on fun _ _ _ h=>Fit.ok _ h
theorem decl_fit (hF:n<F) (ns:List (List Nat)) {i:Nat} (h:i≤n):Fit n (decl T F ns i) :=
  (name_fit hN h).on fun _ _ _ h=>(label_fit hN hF ns h).on fun _ _ _ h=>Fit.ok _ h
def FitP {α:Type} (n:Nat) (p:Nat→R α):Prop:=∀ i,i≤n→Fit n (p i)∧∀ x j,p i=.ok (x,j)→i≤j
theorem loop_fit {p:Nat→R (List Tm)} (hp:FitP n p) (ms:List (List Nat × Nat)):∀ (f:Nat) (l:List Tm) (i:Nat),i≤n→n<f+i→Fit n (loopF T p ms f l i)
  | 0,_,_,h,hf=>by omega
  | f+1,l,i,h,hf=>by
    rw [loopF]
    refine Fit.sw (fun _=>Fit.ok _ h) fun ho=>?_
    have:=opOf_lt hN ho
    exact (hp (i+1) this).1.on fun r j hr hj=>loop_fit hp ms f _ j hj (by have:=(hp (i+1) this).2 _ _ hr;omega)
theorem tower_fit (hF:n<F) {u:Nat→R (List Tm)} (hu:FitP n u):∀ k,FitP n (tower T F u k)
  | 0=>hu
  | k+1=>fun i hi=>by
    have hk:=tower_fit hF hu k
    refine ⟨?_,fun x j hx=>?_⟩
    · rw [tower]
      exact (hk i hi).1.on fun l j _ hj=>loop_fit hN hk _ F l j hj (by omega)
    · rw [tower] at hx
      obtain ⟨l,j1,h1,h2⟩:=R.on_ok hx
      have a:=(hk i hi).2 _ _ h1
      have hj1:j1≤n:=by have:=(hk i hi).1;rw [h1] at this;exact this
      have b:∀ (f:Nat) (l:List Tm) (i:Nat) (l':List Tm) (j:Nat),i≤n→loopF T (tower T F u k) (marks (5 - k)) f l i=.ok (l',j)→i≤j:=by
        intro f
        induction f with
        | zero=>intro l i l' j _ h;cases h
        | succ f ih =>
          intro l i l' j hi h
          rw [loopF] at h
          split at h
          · injection h with h;injection h with _ h;omega
          · rename_i ho
            have hlt:=opOf_lt hN ho
            obtain ⟨r,i2,h3,h4⟩:=R.on_ok h
            have c:=(hk (i+1) hlt).2 _ _ h3
            have hi2:i2≤n:=by have:=(hk (i+1) hlt).1;rw [h3] at this;exact this
            have:=ih _ _ _ _ hi2 h4
            omega
      have:=b _ _ _ _ _ hj1 h2
      omega
theorem unOps_fit:∀ (f i:Nat),i≤n→n<f+i→Fit n (unOps T f i)
  | 0,_,h,hf=>by omega
  | f+1,i,h,hf=>by
    rw [unOps]
    refine Fit.sw (fun _=>Fit.ok _ h) fun ho=>?_
    have:=opOf_lt hN ho
    exact (unOps_fit f (i+1) this (by omega)).on fun _ _ _ hj=>Fit.ok _ hj
theorem brack_fit {e:Option (Nat→R (List Tm))} (he:∀ p,e=some p→FitP n p) (g:List Tm→List Tm) (s:List Nat) {i:Nat} (h:i<n):Fit n (brack T e g s i):=by
  unfold brack;split
  · exact ⟨.inr (.inr (.inr rfl)),by show i≤n;omega⟩
  · exact (he _ rfl (i+1) h).1.on fun _ _ _ hj=>(want_fit hN _ hj).on fun _ _ _ hj=>Fit.ok _ hj
theorem atom_fit {e:Option (Nat→R (List Tm))} (he:∀ p,e=some p→FitP n p) {i:Nat} (h:i≤n):Fit n (atom T e i):=by
  unfold atom;split
  · exact Fit.err h
  · rename_i k hk
    exact Fit.sw (fun _=>Fit.ok _ (some_lt hN hk)) fun _=>Fit.sw (fun hi=>brack_fit hN he _ _ (is_lt hN hi)) fun _ =>
      (name_fit hN h).on fun s j _ hj=>Fit.sw (fun hi=>brack_fit hN he _ _ (is_lt hN hi)) fun _=>Fit.ok _ hj
theorem unary_fit (hF:n<F) {e:Option (Nat→R (List Tm))} (he:∀ p,e=some p→FitP n p) (hg:∀ p,e=some p→Good p):FitP n (unary T F e):=fun i hi=>by
  refine ⟨?_,fun x j hx=>Nat.le_of_lt (unary_good hg _ _ _ hx).2⟩
  rw [unary_atom]
  exact (unOps_fit hN F i hi (by omega)).on fun _ _ _ hj=>(atom_fit hN he hj).on fun _ _ _ hj=>Fit.ok _ hj
theorem expr_fit (hF:n<F):∀ d,FitP n (exprD T F d)
  | 0=>tower_fit hN hF (unary_fit hN hF (fun p h=>by cases h) (fun p h=>by cases h)) 6
  | d+1=>tower_fit hN hF (unary_fit hN hF (fun p h=>by cases h;exact expr_fit hF d) (fun p h=>by cases h;exact expr_good d)) 6
theorem listF_fit {e:Nat→R (List Tm)} (he:FitP n e) (s:List Nat):∀ (f:Nat) (l:List (List Tm)) (i:Nat),i≤n→n<f+i→Fit n (listF T e s f l i)
  | 0,_,_,h,hf=>by omega
  | f+1,l,i,h,hf=>by
    rw [listF]
    refine (he i h).1.on fun x j hx hj=>Fit.sw (fun hi=>Fit.ok _ (is_lt hN hi)) fun _=>Fit.sw (fun hi=>listF_fit he s f _ _ (is_lt hN hi) ?_) fun _=>Fit.err hj
    have:=(he i h).2 _ _ hx
    omega
theorem list_fit (hF:n<F) (s:List Nat) {i:Nat} (h:i≤n):Fit n (list T F s i) :=
  Fit.sw (fun hi=>Fit.ok _ (is_lt hN hi)) fun _=>listF_fit hN (expr_fit hN hF 12) s _ _ _ h (by omega)
theorem targetsF_fit:∀ (f:Nat) (l:List (List Nat)) (i:Nat),i≤n→n<f+i→Fit n (targetsF T f l i)
  | 0,_,_,h,hf=>by omega
  | f+1,l,i,h,hf=>by
    rw [targetsF]
    exact Fit.sw (fun hi=>(name_fit hN (is_lt hN hi)).on fun s j hs hj=>targetsF_fit f _ j hj (by have:=(name_ok hs).2.1;omega)) fun _=>Fit.ok _ h
theorem stmtsF_fit {s:Nat→R (List St)} (hs:∀ i,i≤n→Fit n (s i)) (hg:GoodS s) (e:List Nat):∀ (f:Nat) (l:List St) (i:Nat),i≤n→n<f+i→Fit n (stmtsF T s e f l i)
  | 0,_,_,h,hf=>by omega
  | f+1,l,i,h,hf=>by
    rw [stmtsF]
    exact Fit.sw (fun hi=>Fit.ok _ (is_lt hN hi)) fun _=>(hs i h).on fun x j hx hj=>stmtsF_fit hs hg e f _ j hj (by have:=(hg _ _ _ hx).2.2;omega)
theorem block_fit (hF:n<F) {s:Option (Nat→R (List St))} (hs:∀ p,s=some p→∀ i,i≤n→Fit n (p i)) (hg:∀ p,s=some p→GoodS p) {i:Nat} (h:i≤n):Fit n (block T F s i):=by
  unfold block;split
  · exact Fit.sw (fun _=>⟨.inr (.inr (.inr rfl)),h⟩) fun _=>Fit.err h
  · exact (want_fit hN _ h).on fun _ j _ hj=>stmtsF_fit hN (hs _ rfl) (hg _ rfl) _ F _ j hj (by omega)
theorem call_fit (hF:n<F) (ts:List (List Nat)) (s:List Nat) {i:Nat} (h:i≤n):Fit n (call T F ts s i) :=
  (want_fit hN _ h).on fun _ _ _ h=>(list_fit hN hF _ h).on fun _ _ _ h=>(want_fit hN _ h).on fun _ _ _ h=>Fit.ok _ h
theorem plain_fit (hF:n<F) {i:Nat} (h:i≤n):Fit n (plain T F i) :=
  (name_fit hN h).on fun s j _ h=>Fit.sw
    (fun hi=>(expr_fit hN hF 12 (j+1) (is_lt hN hi)).1.on fun _ _ _ h=>(want_fit hN _ h).on fun _ _ _ h=>(want_fit hN _ h).on fun _ j _ h=>(expr_fit hN hF 12 j h).1.on fun _ _ _ h=>(want_fit hN _ h).on fun _ _ _ h=>Fit.ok _ h)
    fun _=>Fit.sw (fun _=>call_fit hN hF _ _ h) fun _=>(targetsF_fit hN F _ j h (by omega)).on fun ts _ _ h=>(want_fit hN _ h).on fun _ j _ h=>Fit.sw
      (fun _=>(expr_fit hN hF 12 j h).1.on fun _ _ _ h=>(want_fit hN _ h).on fun _ _ _ h=>Fit.ok _ h)
      fun _=>(name_fit hN h).on fun _ _ _ h=>call_fit hN hF _ _ h
theorem stmtOf_fit (hF:n<F) {s:Option (Nat→R (List St))} (hs:∀ p,s=some p→∀ i,i≤n→Fit n (p i)) (hg:∀ p,s=some p→GoodS p) {i:Nat} (h:i≤n):Fit n (stmtOf T F s i) :=
  Fit.sw (fun hi=>(expr_fit hN hF 12 (i+1) (is_lt hN hi)).1.on fun _ _ _ h=>(block_fit hN hF hs hg h).on fun _ _j _ h=>Fit.sw
      (fun hi=>(block_fit hN hF hs hg (is_lt hN hi)).on fun _ _ _ h=>Fit.ok _ h) fun _=>Fit.ok _ h)
    fun _=>Fit.sw (fun hi=>(expr_fit hN hF 12 (i+1) (is_lt hN hi)).1.on fun _ _ _ h=>(block_fit hN hF hs hg h).on fun _ _ _ h=>Fit.ok _ h)
    fun _=>Fit.sw (fun hi=>(name_fit hN (is_lt hN hi)).on fun _ j _ h=>(expr_fit hN hF 12 j h).1.on fun _ _ _ h=>(want_fit hN _ h).on fun _ _ _ h=>Fit.ok _ h)
    fun _=>plain_fit hN hF h
theorem stmt_fit (hF:n<F):∀ d i,i≤n→Fit n (stmtD T F d i)
  | 0,_,h=>stmtOf_fit hN hF (fun p h=>by cases h) (fun p h=>by cases h) h
  | d+1,_,h=>stmtOf_fit hN hF (fun p h=>by cases h;exact stmt_fit hF d) (fun p h=>by cases h;exact stmt_good d) h
theorem rowF_fit {α:Type} {p:Nat→R α} (hp:FitP n p):∀ (f:Nat) (l:List α) (i:Nat),i≤n→n<f+i→Fit n (rowF T p f l i)
  | 0,_,_,h,hf=>by omega
  | f+1,l,i,h,hf=>by
    rw [rowF]
    refine (hp i h).1.on fun x j hx hj=>Fit.sw (fun hi=>Fit.ok _ (is_lt hN hi)) fun _=>Fit.sw (fun hi=>rowF_fit hp f _ _ (is_lt hN hi) ?_) fun _=>Fit.err hj
    have:=(hp i h).2 _ _ hx
    omega
theorem row_fit (hF:n<F) {α:Type} {p:Nat→R α} (hp:FitP n p) {i:Nat} (h:i≤n):Fit n (row T F p i) :=
  (want_fit hN _ h).on fun _ j _ h=>Fit.sw (fun hi=>Fit.ok _ (is_lt hN hi)) fun _=>rowF_fit hN hp F _ j h (by omega)
omit hN in
theorem on_from {α:Type} {p:Nat→R α} (h:∀ i,i≤fin (p i)):∀ i x j,p i=.ok (x,j)→i≤j:=fun i x j hx=>by
  have:=h i
  rwa [hx] at this
theorem label_fitP (hF:n<F) (ns:List (List Nat)):FitP n (label T F ns):=fun i hi=>⟨label_fit hN hF ns hi,on_from (fun i=>(label_loc (T':=T) (m:=0) (fun _ _=>rfl) ns i).1) i⟩
theorem decl_fitP (hF:n<F) (ns:List (List Nat)):FitP n (decl T F ns):=fun i hi=>⟨decl_fit hN hF ns hi,on_from (fun i=>(decl_loc (T':=T) (m:=0) (fun _ _=>rfl) ns i).1) i⟩
theorem varsF_fit (hF:n<F) (ns:List (List Nat)):∀ (f:Nat) (l:List De) (i:Nat),i≤n→n<f+i→Fit n (varsF T F ns f l i)
  | 0,_,_,h,hf=>by omega
  | f+1,l,i,h,hf=>by
    rw [varsF]
    refine Fit.sw (fun hi=>(decl_fit hN hF ns (is_lt hN hi)).on fun d j hd hj=>(want_fit hN _ hj).on fun _ k hk hkn=>varsF_fit hF ns f _ k hkn ?_) fun _=>Fit.ok _ h
    have:=(decl_fitP hN hF ns (i+1) (is_lt hN hi)).2 _ _ hd
    have:=(want_ok hk).2
    omega
theorem func_fit (hF:n<F) (ns:List (List Nat)) {i:Nat} (h:i≤n):Fit n (func T F ns i) :=
  (name_fit hN h).on fun _ _ _ h=>(label_fit hN hF ns h).on fun _ _ _ h=>(row_fit hN hF (decl_fitP hN hF ns) h).on fun _ _ _ h=>(row_fit hN hF (label_fitP hN hF ns) h).on fun _ _ _ h =>
    (want_fit hN _ h).on fun _ j _ h=>(varsF_fit hN hF ns F _ j h (by omega)).on fun _ j _ h=>(stmtsF_fit hN (stmt_fit hN hF 12) (stmt_good 12) _ F _ j h (by omega)).on fun _ _ _ h =>
      (list_fit hN hF _ h).on fun _ _ _ h=>(want_fit hN _ h).on fun _ _ _ h=>Fit.ok _ h
theorem namesF_fit:∀ (f:Nat) (l:List (List Nat)) (i:Nat),i≤n→n<f+i→Fit n (namesF T f l i)
  | 0,_,_,h,hf=>by omega
  | f+1,l,i,h,hf=>by
    rw [namesF]
    exact (name_fit hN h).on fun s j hs hj=>Fit.sw (fun _=>⟨.inr (.inr (.inl rfl)),h⟩) fun _=>Fit.sw (fun _=>namesF_fit f _ j hj (by have:=(name_ok hs).2.1;omega)) fun _=>Fit.ok _ hj
theorem principalsF_fit (hF:n<F):∀ (f:Nat) (l:List (List Nat)) (i:Nat),i≤n→n<f+i→Fit n (principalsF T F f l i)
  | 0,_,_,h,hf=>by omega
  | f+1,l,i,h,hf=>by
    rw [principalsF]
    refine Fit.sw (fun hi=>(namesF_fit hN F l (i+1) (is_lt hN hi) (by omega)).on fun d j hd hj=>(want_fit hN _ hj).on fun _ k hk hkn=>principalsF_fit hF f _ k hkn ?_) fun _=>Fit.ok _ h
    have:=on_from (p:=namesF T F l) (fun i=>(namesF_loc (T':=T) (m:=0) (fun _ _=>rfl) F l i).1) _ _ _ hd
    have:=(want_ok hk).2
    omega
theorem declsF_fit (hF:n<F) (ns:List (List Nat)):∀ (f:Nat) (s:So) (i:Nat),i≤n→n<f+i→Fit n (declsF T F ns f s i)
  | 0,_,_,h,hf=>by omega
  | f+1,s,i,h,hf=>by
    rw [declsF];split
    · exact Fit.ok _ h
    · refine Fit.sw (fun hi=>(decl_fit hN hF ns (is_lt hN hi)).on fun d j hd hj=>(want_fit hN _ hj).on fun _ k hk hkn=>declsF_fit hF ns f _ k hkn ?_) fun _ =>
        Fit.sw (fun hi=>(decl_fit hN hF ns (is_lt hN hi)).on fun d j hd hj=>(want_fit hN _ hj).on fun _ k hk hkn=>declsF_fit hF ns f _ k hkn ?_) fun _ =>
        Fit.sw (fun hi=>(name_fit hN (is_lt hN hi)).on fun nm j hm hj=>(number_fit hN hj).on fun v j2 hv hj2=>(label_fit hN hF ns hj2).on fun l j3 hl hj3=>(want_fit hN _ hj3).on fun _ k hk hkn=>declsF_fit hF ns f _ k hkn ?_) fun _ =>
        Fit.sw (fun hi=>(func_fit hN hF ns (is_lt hN hi)).on fun g j hg hj=>declsF_fit hF ns f _ j hj ?_) fun _=>Fit.err h
      · have:=(decl_fitP hN hF ns (i+1) (is_lt hN hi)).2 _ _ hd
        have:=(want_ok hk).2
        omega
      · have:=(decl_fitP hN hF ns (i+1) (is_lt hN hi)).2 _ _ hd
        have:=(want_ok hk).2
        omega
      · have:=(name_ok hm).2.1
        have:=on_from (p:=number T) (fun i=>(number_loc (T':=T) (m:=0) (fun _ _=>rfl) i).1) _ _ _ hv
        have:=(label_fitP hN hF ns j2 hj2).2 _ _ hl
        have:=(want_ok hk).2
        omega
      · have:=on_from (p:=func T F ns) (fun i=>(func_loc (T':=T) (m:=0) (fun _ _=>rfl) (by omega) ns i).1) _ _ _ hg
        omega
theorem source_fit (hF:n<F):Fit n (source T F) :=
  (principalsF_fit hN hF F [] 0 (by omega) (by omega)).on fun ns j _ hj=>declsF_fit hN hF ns F _ j hj (by omega)
end
end Go.Proofs.Syn
namespace Go.Proofs.Syn
inductive Ex where
  | num (v:Nat)
  | nm (s:List Nat)
  | idx (s:List Nat) (e:Ex)
  | un (o:Nat) (e:Ex)
  | bin (o:Nat) (l r:Ex)
def Ex.flat:Ex→List Tm
  | .num v=>[⟨1,v,[]⟩]
  | .nm s=>[⟨2,0,s⟩]
  | .idx s e=>e.flat++[⟨3,0,s⟩]
  | .un o e=>e.flat++[⟨4,o,[]⟩]
  | .bin o l r=>l.flat++r.flat++[⟨5,o,[]⟩]
def opLv (o:Nat):Nat:=if 11≤o then 0 else if o=7 ∨ o=8 then 1 else if o=6 then 2 else if o=9 ∨ o=10 then 3 else if o=1 ∨ o=2 then 4 else 5
def opMark:Nat→List Nat
  | 1=>[43] | 2=>[45] | 3=>[42] | 4=>[47] | 5=>[37] | 6=>[38] | 7=>[124] | 8=>[94] | 9=>[60,60] | 10=>[62,62] | 11=>[61,61] | 12=>[33,61] | 13=>[60] | _=>[60,61]
def unMark:Nat→List Nat
  | 15=>[45] | 16=>[33] | _=>[126]
def mk4 (s:List Nat):K:=⟨4,s,0⟩
def br (b:Bool) (l:List K):List K:=if b then mk4 [40] :: (l++[mk4 [41]]) else l
section
variable (dg:Nat→List Nat)
def Ex.tk:Ex→Nat→List K
  | .num v,_=>[⟨3,dg v,v⟩]
  | .nm s,_=>[⟨1,s,0⟩]
  | .idx s e,_=>⟨1,s,0⟩ :: mk4 [91] :: (e.tk 0++[mk4 [93]])
  | .un o e,_=>mk4 (unMark o) :: e.tk 6
  | .bin o l r,lv=>br (decide (opLv o<lv)) (l.tk (opLv o)++mk4 (opMark o) :: r.tk (opLv o+1))
end
def Ex.dp:Ex→Nat→Nat
  | .num _,_=>0
  | .nm _,_=>0
  | .idx _ e,_=>e.dp 0+1
  | .un _ e,_=>e.dp 6
  | .bin o l r,lv=>max (l.dp (opLv o)) (r.dp (opLv o+1))+if opLv o<lv then 1 else 0
def Ex.Wf:Ex→Prop
  | .num _=>True
  | .nm _=>True
  | .idx _ e=>e.Wf
  | .un o e=>15≤o∧o≤17∧e.Wf
  | .bin o l r=>1≤o∧o≤14∧l.Wf∧r.Wf
def sub (T:Nat→Option K) (F:Nat):Nat→Option (Nat→R (List Tm))
  | 0=>none
  | d+1=>some (exprD T F d)
theorem exprD_sub (T:Nat→Option K) (F d:Nat):exprD T F d=tower T F (unary T F (sub T F d)) 6:=by cases d <;> rfl
theorem opLv_le (o:Nat):opLv o≤5:=by unfold opLv;split <;> (try split) <;> (try split) <;> (try split) <;> (try split) <;> omega
def At (T:Nat→Option K) (i:Nat) (ts:List K):Prop:=∀ (j:Nat) (x:K),ts[j]?=some x→T (i+j)=some x
section
variable {T:Nat→Option K} {F:Nat} {dg:Nat→List Nat}
theorem At.head {i:Nat} {x:K} {l:List K} (h:At T i (x :: l)):T i=some x:=h 0 x rfl
theorem At.tail {i:Nat} {x:K} {l:List K} (h:At T i (x :: l)):At T (i+1) l:=fun j y hy=>by
  have:=h (j+1) y (by simpa using hy)
  rwa [show i+(j+1)=i+1+j by omega] at this
theorem At.left {i:Nat} {a b:List K} (h:At T i (a++b)):At T i a:=fun j x hx=>h j x (by
  rw [List.getElem?_append_left (List.getElem?_eq_some_iff.1 hx).1];exact hx)
theorem At.right {i:Nat} {a b:List K} (h:At T i (a++b)):At T (i+a.length) b:=fun j x hx=>by
  have:=h (a.length+j) x (by rw [List.getElem?_append_right (by omega),show a.length+j - a.length=j by omega];exact hx)
  rwa [show i+(a.length+j)=i+a.length+j by omega] at this
def opP (ms:List (List Nat × Nat)) (s:List Nat):Nat:=match ms.find? fun m=>s == m.1 with
  | some m=>m.2
  | none=>0
theorem opOf_mk {j:Nat} {s:List Nat} {v:Nat} (h:T j=some ⟨4,s,v⟩) (ms:List (List Nat × Nat)):opOf T ms j=opP ms s:=by
  unfold opOf opP
  have:(fun m:List Nat × Nat=>is T j m.1)=fun m=>s == m.1:=by
    funext m
    unfold is
    rw [h];rfl
  rw [this]
  all_goals cases List.find? (fun m:List Nat × Nat=>s == m.1) ms <;> rfl
theorem opOf_no {j:Nat} (h:∀ s,is T j s=false) (ms:List (List Nat × Nat)):opOf T ms j=0:=by
  unfold opOf
  have:ms.find? (fun m=>is T j m.1)=none:=List.find?_eq_none.2 (fun m _=>by rw [h];simp)
  rw [this]
theorem is_kind {j:Nat} {k:K} (h:T j=some k) (h2:k.kind ≠ 2) (h4:k.kind ≠ 4) (s:List Nat):is T j s=false:=by
  unfold is
  rw [h]
  have e2:(k.kind == 2)=false:=by simpa using h2
  have e4:(k.kind == 4)=false:=by simpa using h4
  simp [e2,e4]
structure Stop (T:Nat→Option K) (j lv:Nat):Prop where
  op:∀ k,lv≤k→k≤5→opOf T (marks k) j=0
  ix:is T j [91]=false
theorem Stop.mono {j lv lv':Nat} (h:Stop T j lv) (hl:lv≤lv'):Stop T j lv':=⟨fun k h1 h2=>h.op k (by omega) h2,h.ix⟩
theorem is_m {j:Nat} {s:List Nat} {v:Nat} (h:T j=some ⟨4,s,v⟩) (t:List Nat):is T j t=(s == t):=by
  unfold is;rw [h];rfl
theorem op_here:∀ o:Fin 15,1≤o.val→opP (marks (opLv o.val)) (opMark o.val)=o.val:=by decide
theorem op_there:∀ (o:Fin 15) (k:Fin 6),1≤o.val→k.val ≠ opLv o.val→opP (marks k.val) (opMark o.val)=0:=by decide
theorem stop_mk {j:Nat} {s:List Nat} {v:Nat} (h:T j=some ⟨4,s,v⟩) (hs:∀ k:Fin 6,opP (marks k.val) s=0) (hx:(s == [91])=false) (lv:Nat):Stop T j lv:=⟨fun k _ h2=>by
  rw [opOf_mk h];exact hs ⟨k,by omega⟩,by rw [is_m h];exact hx⟩
theorem op_ix:∀ o:Fin 15,(opMark o.val == [91])=false:=by decide
theorem stop_op {j o:Nat} {v:Nat} (h:T j=some ⟨4,opMark o,v⟩) (h1:1≤o) (h2:o≤14):Stop T j (opLv o+1):=⟨fun k hk h5=>by
  rw [opOf_mk h];exact op_there ⟨o,by omega⟩ ⟨k,by omega⟩ h1 (by show k ≠ opLv o;omega),by rw [is_m h];exact op_ix ⟨o,by omega⟩⟩
def uns:List (List Nat × Nat):=[([45],15),([33],16),([126],17)]
theorem un_here:∀ o:Fin 18,15≤o.val→opP uns (unMark o.val)=o.val:=by decide
def RdA (T:Nat→Option K) (F:Nat) (dg:Nat→List Nat) (e:Ex) (lv:Nat):Prop:=∀ d i,e.dp lv≤d→At T i (e.tk dg lv)→Stop T (i+(e.tk dg lv).length) lv→(e.tk dg lv).length<F→tower T F (unary T F (sub T F d)) (6 - lv) i=.ok (e.flat,i+(e.tk dg lv).length)
def LpA (T:Nat→Option K) (F:Nat) (dg:Nat→List Nat) (e:Ex) (lv:Nat):Prop:=∀ d i,e.dp lv≤d→At T i (e.tk dg lv)→Stop T (i+(e.tk dg lv).length) (lv+1)→(e.tk dg lv).length<F→∃ f,F≤f+(e.tk dg lv).length∧tower T F (unary T F (sub T F d)) (6 - lv) i=loopF T (tower T F (unary T F (sub T F d)) (5 - lv)) (marks lv) f e.flat (i+(e.tk dg lv).length)
theorem tower_lv (u:Nat→R (List Tm)) {lv:Nat} (h:lv≤5) (i:Nat):tower T F u (6 - lv) i=(tower T F u (5 - lv) i).on fun l j=>loopF T (tower T F u (5 - lv)) (marks lv) F l j:=by
  rw [show 6 - lv=(5 - lv)+1 by omega,tower,show 5 - (5 - lv)=lv by omega]
theorem lp_of {e:Ex} {lv:Nat} (hlv:lv≤5) (htk:e.tk dg lv=e.tk dg (lv+1)) (hdp:e.dp lv=e.dp (lv+1)) (h:RdA T F dg e (lv+1)):LpA T F dg e lv:=by
  intro d i h1 h2 h3 h4
  refine ⟨F,by omega,?_⟩
  rw [htk] at h2 h3 h4 ⊢
  rw [hdp] at h1
  have:=h d i h1 h2 h3 h4
  rw [show 6 - (lv+1)=5 - lv by omega] at this
  rw [tower_lv _ hlv,this]
  rfl
theorem rd_of {e:Ex} {lv:Nat} (hlv:lv≤5) (h:LpA T F dg e lv):RdA T F dg e lv:=by
  intro d i h1 h2 h3 h4
  obtain ⟨f,h5,h6⟩:=h d i h1 h2 (h3.mono (by omega)) h4
  obtain ⟨f,rfl⟩:∃ f',f=f'+1:=⟨f - 1,by omega⟩
  rw [h6,loopF,if_pos (h3.op lv (Nat.le_refl _) hlv)]
theorem down {e:Ex} {b:Nat} (hb:b≤6) (hr:RdA T F dg e b):∀ (n a:Nat),a+n=b→(∀ lv,a≤lv→lv<b→e.tk dg lv=e.tk dg (lv+1)∧e.dp lv=e.dp (lv+1))→RdA T F dg e a∧(a<b→LpA T F dg e a)
  | 0,a,hn,_=>by
    obtain rfl:a=b:=by omega
    exact ⟨hr,fun h=>absurd h (by omega)⟩
  | n+1,a,hn,hs=>by
    have ih:=down hb hr n (a+1) (by omega) (fun lv h1 h2=>hs lv (by omega) h2)
    obtain ⟨s1,s2⟩:=hs a (Nat.le_refl _) (by omega)
    have hl:=lp_of (by omega) s1 s2 ih.1
    exact ⟨rd_of (by omega) hl,fun _=>hl⟩
theorem un_step {e:Option (Nat→R (List Tm))} {f i o:Nat} (h:opOf T uns i=o) (ho:o ≠ 0):((unOps T (f+1) i).on fun ops i=>(atom T e i).on fun l i=>(.ok (l++ops.reverse.map fun o=>⟨4,o,[]⟩,i):R (List Tm))) =
    ((unOps T f (i+1)).on fun ops i=>(atom T e i).on fun l i=>(.ok (l++ops.reverse.map fun o=>⟨4,o,[]⟩,i):R (List Tm))).on fun l j=>.ok (l++[⟨4,o,[]⟩],j):=by
  rw [unOps]
  have h':opOf T [([45],15),([33],16),([126],17)] i=o:=h
  rw [h',if_neg ho]
  cases unOps T f (i+1) with
  | error q=>rfl
  | ok q =>
    obtain ⟨ops,j⟩:=q
    show (atom T e j).on _=((atom T e j).on _).on _
    cases atom T e j with
    | error q=>rfl
    | ok q =>
      obtain ⟨l,k⟩:=q
      show (Except.ok _:R (List Tm))=Except.ok _
      rw [List.reverse_cons,List.map_append,← List.append_assoc]
      rfl
theorem un_none {e:Option (Nat→R (List Tm))} {f i:Nat} (h:opOf T uns i=0):((unOps T (f+1) i).on fun ops i=>(atom T e i).on fun l i=>(.ok (l++ops.reverse.map fun o=>⟨4,o,[]⟩,i):R (List Tm)))=atom T e i:=by
  rw [unOps]
  have h':opOf T [([45],15),([33],16),([126],17)] i=0:=h
  rw [h',if_pos rfl]
  show (atom T e i).on _=_
  cases atom T e i with
  | error q=>rfl
  | ok q =>
    obtain ⟨l,k⟩:=q
    show (Except.ok (l++[],k):R (List Tm))=_
    rw [List.append_nil]
def UnA (T:Nat→Option K) (F:Nat) (dg:Nat→List Nat) (e:Ex):Prop:=∀ d i f,e.dp 6≤d→At T i (e.tk dg 6)→Stop T (i+(e.tk dg 6).length) 6→(e.tk dg 6).length<F→(e.tk dg 6).length<f→((unOps T f i).on fun ops i=>(atom T (sub T F d) i).on fun l i=>(.ok (l++ops.reverse.map fun o=>⟨4,o,[]⟩,i):R (List Tm)))=.ok (e.flat,i+(e.tk dg 6).length)
theorem UnA.rd {e:Ex} (h:UnA T F dg e):RdA T F dg e 6:=fun d i h1 h2 h3 h4=>h d i F h1 h2 h3 h4 h4
theorem stop_41 {j:Nat} (h:T j=some (mk4 [41])) (lv:Nat):Stop T j lv:=stop_mk h (by decide) (by decide) lv
theorem stop_93 {j:Nat} (h:T j=some (mk4 [93])) (lv:Nat):Stop T j lv:=stop_mk h (by decide) (by decide) lv
theorem is_mk {j:Nat} {s:List Nat} (h:T j=some (mk4 s)) (t:List Nat):is T j t=(s == t):=by
  unfold is;rw [h];rfl
theorem want_mk {j:Nat} {s:List Nat} (h:T j=some (mk4 s)):want T j s=.ok ((),j+1):=by
  unfold want;rw [is_mk h];simp
theorem brack_rd {e:Ex} (h:RdA T F dg e 0) (g:List Tm→List Tm) (c:List Nat) (hc:c=[41] ∨ c=[93]) {d i:Nat} (hd:e.dp 0+1≤d) (hi:At T (i+1) (e.tk dg 0++[mk4 c])) (hF:(e.tk dg 0).length<F):brack T (sub T F d) g c i=.ok (g e.flat,i+(e.tk dg 0).length+2):=by
  obtain ⟨d,rfl⟩:∃ d',d=d'+1:=⟨d - 1,by omega⟩
  have hcl:=hi.right.head
  have:=h d (i+1) (by omega) hi.left (by rcases hc with rfl | rfl;exact stop_41 hcl 0;exact stop_93 hcl 0) hF
  show (exprD T F d (i+1)).on _=_
  rw [exprD_sub,this]
  show (want T (i+1+(e.tk dg 0).length) c).on _=_
  rw [want_mk hcl]
  show (Except.ok _:R (List Tm))=Except.ok _
  rw [show i+1+(e.tk dg 0).length+1=i+(e.tk dg 0).length+2 by omega]
theorem no_un {j:Nat} {k:K} (h:T j=some k) (h2:k.kind ≠ 2) (h4:k.kind ≠ 4):opOf T uns j=0:=opOf_no (is_kind h h2 h4) _
theorem atom_name {e:Option (Nat→R (List Tm))} {i:Nat} {s:List Nat} {v:Nat} (hT:T i=some ⟨1,s,v⟩):atom T e i=if is T (i+1) [91] then brack T e (fun l=>l++[⟨3,0,s⟩]) [93] (i+1) else .ok ([⟨2,0,s⟩],i+1):=by
  have hn:name T i=.ok (s,i+1):=by
    unfold name;rw [hT];exact if_pos rfl
  have h40:is T i [40]=false:=is_kind hT (by show (1:Nat) ≠ 2;decide) (by show (1:Nat) ≠ 4;decide) _
  unfold atom
  rw [hT]
  show (if (1:Nat)=3 then _ else if is T i [40]=true then _ else atomN T e i)=_
  rw [if_neg (by decide),if_neg (by rw [h40];simp)]
  unfold atomN
  rw [hn]
  rfl
theorem rd_all:∀ (e:Ex),e.Wf→(∀ lv,lv≤6→RdA T F dg e lv)∧(∀ lv,lv≤5→LpA T F dg e lv)∧UnA T F dg e
  | .num v,_=>by
    have hu:UnA T F dg (.num v):=by
      intro d i f _ h2 _ _ h5
      obtain ⟨f,rfl⟩:∃ f',f=f'+1:=⟨f - 1,by omega⟩
      have hT:=h2.head
      rw [un_none (no_un hT (by show (3:Nat) ≠ 2;decide) (by show (3:Nat) ≠ 4;decide))]
      unfold atom
      rw [hT]
      exact if_pos rfl
    have:=fun a (ha:a≤6)=>down (Nat.le_refl 6) hu.rd (6 - a) a (by omega) (fun _ _ _=>⟨rfl,rfl⟩)
    exact ⟨fun lv h=>(this lv h).1,fun lv h=>(this lv (by omega)).2 (by omega),hu⟩
  | .nm s,_=>by
    have hu:UnA T F dg (.nm s):=by
      intro d i f _ h2 h3 _ h5
      obtain ⟨f,rfl⟩:∃ f',f=f'+1:=⟨f - 1,by omega⟩
      have hT:=h2.head
      rw [un_none (no_un hT (by show (1:Nat) ≠ 2;decide) (by show (1:Nat) ≠ 4;decide)),atom_name hT]
      exact if_neg (by rw [show is T (i+1) [91]=false from h3.ix];simp)
    have:=fun a (ha:a≤6)=>down (Nat.le_refl 6) hu.rd (6 - a) a (by omega) (fun _ _ _=>⟨rfl,rfl⟩)
    exact ⟨fun lv h=>(this lv h).1,fun lv h=>(this lv (by omega)).2 (by omega),hu⟩
  | .idx s e,hw=>by
    obtain ⟨ih,_,_⟩:=rd_all e hw
    have hu:UnA T F dg (.idx s e):=by
      intro d i f h1 h2 h3 h4 h5
      obtain ⟨f,rfl⟩:∃ f',f=f'+1:=⟨f - 1,by omega⟩
      have hT:=h2.head
      have hb:=h2.tail.head
      have hr:=h2.tail.tail
      have hl:((Ex.idx s e).tk dg 6).length=(e.tk dg 0).length+3:=by simp [Ex.tk]
      rw [un_none (no_un hT (by show (1:Nat) ≠ 2;decide) (by show (1:Nat) ≠ 4;decide)),atom_name hT,if_pos (by rw [is_mk hb];rfl)]
      rw [brack_rd (ih 0 (by omega)) _ [93] (.inr rfl) h1 hr (by omega),hl]
      show (Except.ok _:R (List Tm))=Except.ok _
      rw [show i+1+(e.tk dg 0).length+2=i+((e.tk dg 0).length+3) by omega]
      rfl
    have:=fun a (ha:a≤6)=>down (Nat.le_refl 6) hu.rd (6 - a) a (by omega) (fun _ _ _=>⟨rfl,rfl⟩)
    exact ⟨fun lv h=>(this lv h).1,fun lv h=>(this lv (by omega)).2 (by omega),hu⟩
  | .un o e,hw=>by
    obtain ⟨ho1,ho2,hw⟩:=hw
    obtain ⟨_,_,ih⟩:=rd_all e hw
    have hu:UnA T F dg (.un o e):=by
      intro d i f h1 h2 h3 h4 h5
      obtain ⟨f,rfl⟩:∃ f',f=f'+1:=⟨f - 1,by omega⟩
      have hT:=h2.head
      have hl:((Ex.un o e).tk dg 6).length=(e.tk dg 6).length+1:=by simp [Ex.tk]
      rw [hl] at h3 h4 h5
      rw [un_step (o:=o) (by rw [opOf_mk hT];exact un_here ⟨o,by omega⟩ ho1) (by omega),ih d (i+1) f h1 h2.tail (by rwa [show i+1+(e.tk dg 6).length=i+((e.tk dg 6).length+1) by omega]) (by omega) (by omega),hl]
      show (Except.ok _:R (List Tm))=Except.ok _
      rw [show i+1+(e.tk dg 6).length=i+((e.tk dg 6).length+1) by omega]
      rfl
    have:=fun a (ha:a≤6)=>down (Nat.le_refl 6) hu.rd (6 - a) a (by omega) (fun _ _ _=>⟨rfl,rfl⟩)
    exact ⟨fun lv h=>(this lv h).1,fun lv h=>(this lv (by omega)).2 (by omega),hu⟩
  | .bin o l r,hw=>by
    obtain ⟨ho1,ho2,hwl,hwr⟩:=hw
    obtain ⟨_,ihl,_⟩:=rd_all l hwl
    obtain ⟨ihr,_,_⟩:=rd_all r hwr
    have hv:=opLv_le o
    obtain ⟨v,hvv⟩:∃ v,opLv o=v:=⟨_,rfl⟩
    rw [hvv] at hv
    have htk:∀ lv,lv≤v→(Ex.bin o l r).tk dg lv=l.tk dg v++mk4 (opMark o) :: r.tk dg (v+1):=fun lv h=>by
      rw [Ex.tk,hvv];unfold br;rw [if_neg (by simpa using h)]
    have hdp:∀ lv,lv≤v→(Ex.bin o l r).dp lv=max (l.dp v) (r.dp (v+1)):=fun lv h=>by
      rw [Ex.dp,hvv,if_neg (by omega)];rfl
    have hlp:LpA T F dg (.bin o l r) v:=by
      intro d i h1 h2 h3 h4
      rw [htk v (Nat.le_refl _)] at h2 h3 h4 ⊢
      rw [hdp v (Nat.le_refl _)] at h1
      have hlen:(l.tk dg v++mk4 (opMark o) :: r.tk dg (v+1)).length=(l.tk dg v).length+(r.tk dg (v+1)).length+1:=by simp;omega
      rw [hlen] at h3 h4 ⊢
      have hop:=h2.right.head
      have hst:=stop_op hop ho1 ho2
      rw [hvv] at hst
      obtain ⟨f,h5,h6⟩:=ihl v hv d i (by omega) h2.left hst (by omega)
      obtain ⟨f,rfl⟩:∃ f',f=f'+1:=⟨f - 1,by omega⟩
      refine ⟨f,by omega,?_⟩
      have hoo:opOf T (marks v) (i+(l.tk dg v).length)=o:=by
        rw [opOf_mk hop,← hvv];exact op_here ⟨o,by omega⟩ ho1
      have hr:=ihr (v+1) (by omega) d (i+(l.tk dg v).length+1) (by omega) h2.right.tail (by rwa [show i+(l.tk dg v).length+1+(r.tk dg (v+1)).length=i+((l.tk dg v).length+(r.tk dg (v+1)).length+1) by omega]) (by omega)
      rw [show 6 - (v+1)=5 - v by omega] at hr
      rw [h6,loopF,hoo,if_neg (by omega),hr]
      show loopF T _ (marks v) f (l.flat++r.flat++[⟨5,o,[]⟩]) _=_
      rw [show i+(l.tk dg v).length+1+(r.tk dg (v+1)).length=i+((l.tk dg v).length+(r.tk dg (v+1)).length+1) by omega]
      rfl
    have hlow:=fun a (ha:a≤v)=>down (by omega) (rd_of hv hlp) (v - a) a (by omega) (fun lv h1 h2=>⟨by rw [htk lv (by omega),htk (lv+1) (by omega)],by rw [hdp lv (by omega),hdp (lv+1) (by omega)]⟩)
    have htk2:∀ lv,v<lv→(Ex.bin o l r).tk dg lv=mk4 [40] :: ((Ex.bin o l r).tk dg 0++[mk4 [41]]):=fun lv h=>by
      rw [htk 0 (Nat.zero_le _),Ex.tk,hvv];unfold br;rw [if_pos (by simpa using h)]
    have hdp2:∀ lv,v<lv→(Ex.bin o l r).dp lv=(Ex.bin o l r).dp 0+1:=fun lv h=>by
      rw [hdp 0 (Nat.zero_le _),Ex.dp,hvv,if_pos h]
    have hu:UnA T F dg (.bin o l r):=by
      intro d i f h1 h2 h3 h4 h5
      obtain ⟨f,rfl⟩:∃ f',f=f'+1:=⟨f - 1,by omega⟩
      rw [htk2 6 (by omega)] at h2 h4 h5 ⊢
      rw [hdp2 6 (by omega)] at h1
      have hT:=h2.head
      have hl:(mk4 [40] :: ((Ex.bin o l r).tk dg 0++[mk4 [41]])).length=((Ex.bin o l r).tk dg 0).length+2:=by simp
      have hn:opOf T uns i=0:=by rw [opOf_mk hT];decide
      rw [un_none hn,hl]
      unfold atom
      rw [hT]
      show (if (4:Nat)=3 then _ else if is T i [40]=true then brack T (sub T F d) (fun l=>l) [41] i else _)=_
      rw [if_neg (by decide),if_pos (by rw [is_mk hT];rfl),brack_rd (hlow 0 (Nat.zero_le _)).1 _ [41] (.inl rfl) h1 h2.tail (by rw [hl] at h4;omega)]
      show (Except.ok _:R (List Tm))=Except.ok _
      rw [show i+((Ex.bin o l r).tk dg 0).length+2=i+(((Ex.bin o l r).tk dg 0).length+2) by omega]
    have hup:=fun a (ha:v<a) (ha6:a≤6)=>down (Nat.le_refl 6) hu.rd (6 - a) a (by omega) (fun lv h1 h2=>⟨by rw [htk2 lv (by omega),htk2 (lv+1) (by omega)],by rw [hdp2 lv (by omega),hdp2 (lv+1) (by omega)]⟩)
    refine ⟨fun lv h=>?_,fun lv h=>?_,hu⟩
    · by_cases hl:lv≤v
      · exact (hlow lv hl).1
      · exact (hup lv (by omega) h).1
    · by_cases hl:lv<v
      · exact (hlow lv (by omega)).2 hl
      · by_cases he:lv=v
        · rw [he];exact hlp
        · exact (hup lv (by omega) (by omega)).2 (by omega)
end
end Go.Proofs.Syn
namespace Go.Proofs.Syn
section
variable {T:Nat→Option K} {F:Nat}
def LeR {α:Type} (r r':R α):Prop:=r=r' ∨ ∃ j,r=.error (51,j)
theorem LeR.refl {α:Type} (r:R α):LeR r r:=.inl rfl
theorem LeR.on {α β:Type} {r r':R α} {f g:α→Nat→R β} (h:LeR r r') (hf:∀ x i,LeR (f x i) (g x i)):LeR (r.on f) (r'.on g):=by
  rcases h with rfl | ⟨j,rfl⟩
  · cases r with
    | error e=>exact .inl rfl
    | ok p=>obtain ⟨x,i⟩:=p;exact hf x i
  · exact .inr ⟨j,rfl⟩
def LeP (p q:Nat→R (List Tm)):Prop:=∀ i,LeR (p i) (q i)
theorem loop_le {p q:Nat→R (List Tm)} (h:LeP p q) (ms:List (List Nat × Nat)):∀ (f:Nat) (l:List Tm) (i:Nat),LeR (loopF T p ms f l i) (loopF T q ms f l i)
  | 0,_,_=>.inl rfl
  | f+1,l,i=>by
    rw [loopF,loopF]
    split
    · exact .inl rfl
    · exact (h _).on fun r j=>loop_le h ms f _ _
theorem tower_le {u v:Nat→R (List Tm)} (h:LeP u v):∀ k,LeP (tower T F u k) (tower T F v k)
  | 0=>h
  | k+1=>fun i=>by
    rw [tower,tower]
    exact (tower_le h k i).on fun l j=>loop_le (tower_le h k) _ _ _ _
def LeO (e e':Option (Nat→R (List Tm))):Prop:=∀ p,e=some p→∃ q,e'=some q∧LeP p q
theorem unary_le {e e':Option (Nat→R (List Tm))} (h:LeO e e'):LeP (unary T F e) (unary T F e'):=by
  intro i
  unfold unary
  refine (LeR.refl _).on fun ops i=>LeR.on ?_ fun _ _=>LeR.refl _
  split
  · exact .inl rfl
  · rename_i k hk
    split
    · exact .inl rfl
    · split
      · cases e with
        | none=>exact .inr ⟨_,rfl⟩
        | some p =>
          obtain ⟨q,rfl,hq⟩:=h p rfl
          exact (hq _).on fun _ _=>LeR.refl _
      · refine (LeR.refl _).on fun s i=>?_
        split
        · cases e with
          | none=>exact .inr ⟨_,rfl⟩
          | some p =>
            obtain ⟨q,rfl,hq⟩:=h p rfl
            exact (hq _).on fun _ _=>LeR.refl _
        · exact .inl rfl
theorem sub_le (k:Nat):∀ d,LeO (sub T F d) (sub T F (d+k))
  | 0=>fun p hp=>by cases hp
  | d+1=>fun p hp=>by
    injection hp with hp
    refine ⟨exprD T F (d+k),by rw [show d+1+k=d+k+1 by omega];rfl,?_⟩
    rw [← hp]
    intro i
    rw [exprD_sub,exprD_sub]
    exact tower_le (unary_le (sub_le k d)) 6 i
theorem exprD_le (k d:Nat):LeP (exprD T F d) (exprD T F (d+k)):=by
  intro i
  rw [exprD_sub,exprD_sub]
  exact tower_le (unary_le (sub_le k d)) 6 i
variable {dg:Nat→List Nat}
theorem expr_deep {e:Ex} (hw:e.Wf) {i:Nat} (h:At T i (e.tk dg 0)) (hs:Stop T (i+(e.tk dg 0).length) 0) (hF:(e.tk dg 0).length<F):LeR (expr T F i) (.ok (e.flat,i+(e.tk dg 0).length)):=by
  have h1:=exprD_le (T:=T) (F:=F) (e.dp 0) 12 i
  have h2:=((rd_all (T:=T) (F:=F) (dg:=dg) e hw).1 0 (by omega)) (12+e.dp 0) i (by omega) h hs hF
  rw [show 6 - 0=6 from rfl,← exprD_sub] at h2
  rw [h2] at h1
  exact h1
end
end Go.Proofs.Syn
namespace Go.Proofs.YtpcniebkabkikaaGreatDoor
def letterB (c:Nat):Bool:=(97≤c && c≤122) || c == 95
def digitB (c:Nat):Bool:=48≤c && c≤57
def blankB (c:Nat):Bool:=c == 9 || c == 10 || c == 13 || c == 32
def nameB (c:Nat):Bool:=letterB c || digitB c
def keysL:List (List Nat):=[[112,114,105,110,99,105,112,97,108],[103,108,111,98,97,108],[97,114,114,97,121],[99,104,97,110,110,101,108],[102,117,110,99],[118,97,114],[105,102],[101,108,115,101],[119,104,105,108,101],[115,101,110,100],[114,101,116,117,114,110]]
def mark1:List Nat:=[123,125,40,41,91,93,44,59,61,60,43,45,42,47,37,38,124,94,33,126]
def mark2:List (List Nat):=[[61,61],[33,61],[60,61],[60,60],[62,62]]
def wordL:List Nat→Nat × Nat
  | []=>(0,0)
  | c :: l =>
    if letterB c then
      let n:=((c :: l).takeWhile nameB).length
      (n,if (c :: l).take n ∈ keysL then 2 else 1)
    else if digitB c then (((c :: l).takeWhile digitB).length,3)
    else if (c :: l).take 2 ∈ mark2 then (2,4)
    else if c ∈ mark1 then (1,4)
    else (0,0)
theorem wordL_le (l:List Nat):(wordL l).1≤l.length:=by
  cases l with
  | nil=>simp [wordL]
  | cons c l =>
    rw [wordL]
    split
    · exact (List.takeWhile_sublist _).length_le
    · split
      · exact (List.takeWhile_sublist _).length_le
      · split
        · rename_i h
          have:((c :: l).take 2).length=2:=by
            have:∀ m ∈ mark2,m.length=2:=by decide
            exact this _ h
          rw [List.length_take] at this
          show 2≤_
          omega
        · split
          · simp
          · simp
theorem takeWhile_stop {p:Nat→Bool}:∀ (t r:List Nat),(∀ x ∈ t,p x=true)→(∀ c,r.head?=some c→p c=false)→(t++r).takeWhile p=t
  | [],r,_,hr=>by
    cases r with
    | nil=>rfl
    | cons c r=>simp [hr c rfl]
  | x :: t,r,ht,hr=>by
    rw [List.cons_append,List.takeWhile_cons,if_pos (ht x (List.mem_cons_self ..)),takeWhile_stop t r (fun y hy=>ht y (List.mem_cons_of_mem _ hy)) hr]
theorem mem_takeWhile {p:Nat→Bool}:∀ (l:List Nat) (x:Nat),x ∈ l.takeWhile p→p x=true
  | [],x,h=>absurd h (by simp)
  | c :: l,x,h=>by
    rw [List.takeWhile_cons] at h
    split at h
    · rename_i hc
      rcases List.mem_cons.1 h with rfl | h
      · exact hc
      · exact mem_takeWhile l x h
    · simp at h
theorem takeWhile_is_take {p:Nat→Bool}:∀ l:List Nat,l.take (l.takeWhile p).length=l.takeWhile p
  | []=>rfl
  | c :: l=>by
    rw [List.takeWhile_cons]
    split
    · rw [List.length_cons,List.take_succ_cons,takeWhile_is_take l]
    · rfl
theorem wordL_again (s:List Nat) (h:(wordL s).1 ≠ 0) (r:List Nat) (hr:r=[] ∨ ∃ r',r=32 :: r'):wordL (s.take (wordL s).1++r)=wordL s:=by
  cases s with
  | nil=>exact absurd rfl h
  | cons c l =>
    have hb:∀ x,r.head?=some x→nameB x=false∧digitB x=false:=by
      intro x hx
      rcases hr with rfl | ⟨r',rfl⟩
      · simp at hx
      · obtain rfl:32=x:=by simpa using hx
        decide
    by_cases hl:letterB c=true
    · have hw:wordL (c :: l)=(((c :: l).takeWhile nameB).length,if (c :: l).take ((c :: l).takeWhile nameB).length ∈ keysL then 2 else 1):=by
        rw [wordL,if_pos hl]
      rw [hw]
      simp only
      rw [takeWhile_is_take]
      have hn:nameB c=true:=by unfold nameB;rw [hl];rfl
      have hc:(c :: l).takeWhile nameB=c :: l.takeWhile nameB:=by rw [List.takeWhile_cons,if_pos hn]
      have hst:((c :: l).takeWhile nameB++r).takeWhile nameB=(c :: l).takeWhile nameB:=takeWhile_stop _ _ (fun x hx=>mem_takeWhile _ x hx) (fun x hx=>(hb x hx).1)
      rw [hc] at hst ⊢
      rw [List.cons_append] at hst ⊢
      rw [wordL,if_pos hl]
      simp only
      rw [hst,← List.cons_append,List.take_left]
    · by_cases hd:digitB c=true
      · have hw:wordL (c :: l)=(((c :: l).takeWhile digitB).length,3):=by rw [wordL,if_neg hl,if_pos hd]
        rw [hw]
        simp only
        rw [takeWhile_is_take]
        have hc:(c :: l).takeWhile digitB=c :: l.takeWhile digitB:=by rw [List.takeWhile_cons,if_pos hd]
        have hst:((c :: l).takeWhile digitB++r).takeWhile digitB=(c :: l).takeWhile digitB:=takeWhile_stop _ _ (fun x hx=>mem_takeWhile _ x hx) (fun x hx=>(hb x hx).2)
        rw [hc] at hst ⊢
        rw [List.cons_append] at hst ⊢
        rw [wordL,if_neg hl,if_pos hd,hst]
      · by_cases h2:(c :: l).take 2 ∈ mark2
        · have hw:wordL (c :: l)=(2,4):=by rw [wordL,if_neg hl,if_neg hd,if_pos h2]
          rw [hw]
          simp only
          obtain ⟨d,l',rfl⟩:∃ d l',l=d :: l':=by
            cases l with
            | nil=>exact absurd h2 (by simp [mark2])
            | cons d l'=>exact ⟨d,l',rfl⟩
          show wordL (c :: d :: r)=(2,4)
          rw [wordL,if_neg hl,if_neg hd,if_pos (by exact h2)]
        · by_cases h1:c ∈ mark1
          · have hw:wordL (c :: l)=(1,4):=by rw [wordL,if_neg hl,if_neg hd,if_neg h2,if_pos h1]
            rw [hw]
            show wordL (c :: r)=(1,4)
            rw [wordL,if_neg hl,if_neg hd,if_neg ?_,if_pos h1]
            rcases hr with rfl | ⟨r',rfl⟩
            · simp [mark2]
            · simp [mark2]
          · exact absurd (by rw [wordL,if_neg hl,if_neg hd,if_neg h2,if_neg h1]) h
end Go.Proofs.YtpcniebkabkikaaGreatDoor
namespace Go.Proofs.YtpcniebkabkikaaGreatDoor
structure Tok where
  kind:Nat
  text:List Nat
  value:Nat
  at_:Nat
deriving DecidableEq
def valD (l:List Nat):Nat:=l.foldl (fun n d=>10 * n+(d - 48)) 0
abbrev most:Nat:=9223372036854775807
def inC (c:Nat):Bool:=c != 10
theorem drop_lt (c:Nat) (r:List Nat) (n:Nat) (h:n ≠ 0):((c :: r).drop n).length<(c :: r).length:=by
  rw [List.length_drop,List.length_cons];omega
theorem dropWhile_lt (r:List Nat):((35 :: r).dropWhile inC).length<(35 :: r).length:=by
  rw [List.dropWhile_cons,if_pos (by decide)]
  have:=(List.dropWhile_sublist inC (l:=r)).length_le
  rw [List.length_cons];omega
def scanL (l:List Nat) (a:Nat):List Tok × Nat × Nat :=
  match l with
  | []=>([],a,0)
  | c :: r =>
    if blankB c then scanL r (a+1)
    else if _h35:c=35 then scanL ((c :: r).dropWhile inC) (a+((c :: r).takeWhile inC).length)
    else if _h0:(wordL (c :: r)).1=0 then ([],a,40)
    else if (wordL (c :: r)).2=1∧32<(wordL (c :: r)).1 then ([],a,3)
    else if (wordL (c :: r)).2=3∧most<valD ((c :: r).take (wordL (c :: r)).1) then ([],a,3)
    else
      (⟨(wordL (c :: r)).2,(c :: r).take (wordL (c :: r)).1,if (wordL (c :: r)).2=3 then valD ((c :: r).take (wordL (c :: r)).1) else 0,a⟩ :: (scanL ((c :: r).drop (wordL (c :: r)).1) (a+(wordL (c :: r)).1)).1,
        (scanL ((c :: r).drop (wordL (c :: r)).1) (a+(wordL (c :: r)).1)).2)
termination_by l.length
decreasing_by
  · simp
  · subst _h35;exact dropWhile_lt r
  · exact drop_lt c r _ _h0
theorem scanL_blank {c:Nat} (r:List Nat) (a:Nat) (h:blankB c=true):scanL (c :: r) a=scanL r (a+1):=by rw [scanL,if_pos h]
structure Good (k:Nat) (t:List Nat) (v:Nat):Prop where
  word:wordL t=(t.length,k)
  ne:t ≠ []
  head:∀ c,t.head?=some c→blankB c=false∧c ≠ 35
  name:¬ (k=1∧32<t.length)
  num:¬ (k=3∧most<valD t)
  val:v=if k=3 then valD t else 0
theorem good_of {s:List Nat} (hs:(wordL s).1 ≠ 0) (hh:∀ c,s.head?=some c→blankB c=false∧c ≠ 35) (hn:¬ ((wordL s).2=1∧32<(wordL s).1)) (hu:¬ ((wordL s).2=3∧most<valD (s.take (wordL s).1))) :
    Good (wordL s).2 (s.take (wordL s).1) (if (wordL s).2=3 then valD (s.take (wordL s).1) else 0):=by
  have hle:=wordL_le s
  have hlen:(s.take (wordL s).1).length=(wordL s).1:=by rw [List.length_take];omega
  have hag:=wordL_again s hs [] (.inl rfl)
  rw [List.append_nil] at hag
  refine ⟨by rw [hag,hlen],fun e=>hs (by rw [← hlen,e];rfl),fun c hc=>?_,by rw [hlen];exact hn,hu,rfl⟩
  cases s with
  | nil=>simp at hc
  | cons d s =>
    obtain ⟨n,hn'⟩:∃ n,(wordL (d :: s)).1=n+1:=⟨(wordL (d :: s)).1 - 1,by omega⟩
    rw [hn',List.take_succ_cons] at hc
    obtain rfl:d=c:=by simpa using hc
    exact hh d rfl
theorem scanL_all:∀ (N:Nat) (l:List Nat),l.length≤N→∀ a,∀ t ∈ (scanL l a).1,Good t.kind t.text t.value
  | _,[],_,a,t,ht=>by rw [scanL] at ht;exact absurd ht (by simp)
  | 0,c :: r,h,_,_,_=>absurd h (by simp)
  | N+1,c :: r,h,a,t,ht=>by
    have hr:r.length≤N:=by simpa using h
    rw [scanL] at ht
    split at ht
    · exact scanL_all N r hr _ t ht
    · rename_i hb
      split at ht
      · rename_i h35
        subst h35
        exact scanL_all N _ (by have:=dropWhile_lt r;rw [List.length_cons] at this;omega) _ t ht
      · rename_i h35
        split at ht
        · exact absurd ht (by simp)
        · rename_i h0
          split at ht
          · exact absurd ht (by simp)
          · rename_i hn
            split at ht
            · exact absurd ht (by simp)
            · rename_i hu
              rcases List.mem_cons.1 ht with rfl | ht
              · refine good_of h0 (fun d hd=>?_) hn hu
                obtain rfl:c=d:=by simpa using hd
                exact ⟨by simpa using hb,h35⟩
              · exact scanL_all N _ (by have:=drop_lt c r _ h0;rw [List.length_cons] at this;omega) _ t ht
end Go.Proofs.YtpcniebkabkikaaGreatDoor
namespace Go.Proofs.YtpcniebkabkikaaGreatDoor
theorem valD_snoc (l:List Nat) (d:Nat):valD (l++[d])=10 * valD l+(d - 48):=by simp [valD,List.foldl_append]
theorem foldl_ge:∀ (l:List Nat) (n:Nat),n≤l.foldl (fun n d=>10 * n+(d - 48)) n
  | [],n=>Nat.le_refl _
  | d :: l,n=>by
    have:=foldl_ge l (10 * n+(d - 48))
    rw [List.foldl_cons];omega
theorem digit_range {c:Nat} (h:digitB c=true):48≤c∧c≤57:=by
  unfold digitB at h
  simpa using h
end Go.Proofs.YtpcniebkabkikaaGreatDoor
