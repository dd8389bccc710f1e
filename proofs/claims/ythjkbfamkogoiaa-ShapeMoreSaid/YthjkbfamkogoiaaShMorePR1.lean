/- Memory that has been handed out and is not written again; what a call may have turned. Over any program. Rows of a call's own, and lists in them; over any program. (For a seat without the parser's texts.) Sources that are handed in: rows of statements and expressions, of whatever kinds and names, as -/
import Derived.Below
import Derived.Deep.Draws
import Derived.Laws.AppendOwn
import Derived.Test.YthjkbfamkogoiaaProg
import Derived.WalkKit
import Derived.WalkLawsBesides
import Derived.Outline
import Derived.Lib.Hide
import Derived.LoopTactic
import Derived.Lib.Strings
import Derived.Maps.AppendAt
import Derived.Deep.OwnRows
import Derived.Laws.OwnMore
import Derived.Test.YthjkbfamkogoiaaRows
import Derived.Test.YthjkbfamkogoiaaChecked
import Derived.OwnWalk
import Derived.Laws.AppendOwnNone
import Derived.ArgAppend
import Derived.Lib.QuietBelow
import Derived.Deep.RegionHeld3
import Derived.Deep.DeepCutAuto
import Derived.Deep.CutBlock
import Derived.ProofKit
import Derived.OpenShut
import Derived.LaidMore
import Derived.Lay
import Derived.SizedLaws
import Derived.ChangeSlices
import Derived.Lib.LaidU8
import Derived.ChangeArms
import Derived.Deep.Slices
namespace Go.Proofs.Mm
open Go Go.RowKit
structure Chg (S:Nat→Prop) (w w':World):Prop where
  os:w'.os=w.os
  tape:w'.tape=w.tape
  output:w'.output=w.output
  size:w.heap.size≤w'.heap.size
  block:∀ k,k<w.heap.size→¬ S k→w'.heap[k]?=w.heap[k]?
theorem Chg.refl (S:Nat→Prop) (w:World):Chg S w w:=⟨rfl,rfl,rfl,Nat.le_refl _,fun _ _ _=>rfl⟩
theorem Chg.trans {S S':Nat→Prop} {a b c:World} (h:Chg S a b) (k:Chg S' b c) (hs:∀ i,S' i→S i ∨ a.heap.size≤i):Chg S a c :=
  ⟨k.os.trans h.os,k.tape.trans h.tape,k.output.trans h.output,Nat.le_trans h.size k.size,fun i hi hn =>
    (k.block i (Nat.lt_of_lt_of_le hi h.size) (fun e=>by rcases hs i e with q | q <;> first | exact hn q | exact absurd hi (by omega))).trans (h.block i hi hn)⟩
theorem Chg.then {S:Nat→Prop} {a b c:World} (h:Chg S a b) (k:Chg S b c):Chg S a c:=h.trans k fun _ q=>.inl q
theorem Chg.mono {S S':Nat→Prop} {a b:World} (h:Chg S a b) (hs:∀ i,S i→S' i ∨ a.heap.size≤i):Chg S' a b :=
  ⟨h.os,h.tape,h.output,h.size,fun i hi hn=>h.block i hi (fun e=>by rcases hs i e with q | q <;> first | exact hn q | exact absurd hi (by omega))⟩
theorem Chg.drew {S:Nat→Prop} {a w:World} (h:Chg S a w):Chg S a w.drew:=⟨h.os,h.tape,h.output,h.size,h.block⟩
theorem Chg.alloc {S:Nat→Prop} {a w:World} (h:Chg S a w) (o:Obj):Chg S a (w.alloc o) :=
  h.then ⟨rfl,rfl,rfl,by simp,fun k hk _=>Below.heap_alloc _ _ _ hk⟩
theorem Chg.setCell {S:Nat→Prop} {a w:World} (h:Chg S a w) {p:Addr} (hp:S p.block ∨ a.heap.size≤p.block) (u:Value):Chg S a (w.setCell p u) :=
  h.trans (S':=fun i=>i=p.block) ⟨rfl,rfl,rfl,by simp [World.setCell],fun k _ hk=>Below.heap_setCell _ _ _ _ hk⟩ (fun i e=>by subst e;exact hp)
theorem Chg.below {S:Nat→Prop} {a w:World} (h:Chg S a w) {B:Nat} (hB:B≤a.heap.size) (hS:∀ i,S i→B≤i):Below B a w :=
  ⟨h.os,h.tape,h.output,h.size,fun k hk=>h.block k (by omega) (fun e=>by have:=hS k e;omega)⟩
theorem Below.chg {B:Nat} {a w:World} (h:Below B a w) (hB:a.heap.size≤B) (S:Nat→Prop):Chg S a w :=
  ⟨h.os,h.tape,h.output,h.size,fun k hk _=>h.block k (by omega)⟩
theorem grown_chg {a w:World} {row:Option Nat} (h:a.grownBy w row) {S:Nat→Prop} (hr:∀ k,row=some k→S k ∨ a.heap.size≤k):Chg S a w :=
  ⟨h.os,h.tape,h.output,h.size,fun k hk hn=>h.block k hk (fun e=>by rcases hr k e.symm with q | q <;> first | exact hn q | exact absurd hk (by omega))⟩
theorem Chg.cell {S:Nat→Prop} {a w:World} (h:Chg S a w) {p:Addr} {v:Value} (hc:a.cell? p=some v) (hn:¬ S p.block):w.cell? p=some v :=
  (World.cell?_of_block (h.block _ (World.block_lt_of_cell? _ _ hc) hn)).trans hc
theorem heap_lt {w:World} {b:Nat} {o:Obj} (h:w.heap[b]?=some o):b<w.heap.size:=(Array.getElem?_eq_some_iff.1 h).1
theorem Chg.heap {S:Nat→Prop} {a w:World} (h:Chg S a w) {k:Nat} {o:Obj} (hc:a.heap[k]?=some o) (hn:¬ S k):w.heap[k]?=some o :=
  (h.block k (heap_lt hc) hn).trans hc
abbrev Mem:=Nat→Option Obj
def Has (w:World) (m:Mem):Prop:=∀ k o,m k=some o→w.heap[k]?=some o
def Mem.le (m m':Mem):Prop:=∀ k o,m k=some o→m' k=some o
structure Mem.More (w:World) (m m':Mem):Prop where
  le:m.le m'
  new:∀ k,m k=none→k<w.heap.size→m' k=none
theorem Mem.le.refl (m:Mem):m.le m:=fun _ _ h=>h
theorem Mem.le.trans {a b c:Mem} (h:a.le b) (k:b.le c):a.le c:=fun i o e=>k i o (h i o e)
theorem Mem.More.refl (w:World) (m:Mem):m.More w m:=⟨Mem.le.refl m,fun _ h _=>h⟩
theorem Mem.More.trans {w w':World} {a b c:Mem} (h:a.More w b) (k:b.More w' c) (hw:w.heap.size≤w'.heap.size):a.More w c :=
  ⟨h.le.trans k.le,fun i e hi=>k.new i (h.new i e hi) (by omega)⟩
theorem Mem.More.from {w w':World} {a b:Mem} (h:a.More w' b) (hw:w.heap.size≤w'.heap.size):a.More w b:=⟨h.le,fun i e hi=>h.new i e (by omega)⟩
theorem Has.chg {S:Nat→Prop} {w w':World} {m:Mem} (h:Has w m) (hc:Chg S w w') (hs:∀ k,S k→m k=none):Has w' m:=fun k o e =>
  hc.heap (h k o e) (fun q=>by rw [hs k q] at e;cases e)
theorem Has.lt {w:World} {m:Mem} (h:Has w m) {k:Nat} (hk:w.heap.size≤k):m k=none:=by
  cases e:m k with
  | none=>rfl
  | some o=>have:=heap_lt (h k o e);omega
def Mem.put (m:Mem) (g:Nat) (o:Obj):Mem:=fun k=>if k=g then some o else m k
theorem Mem.put_le {m:Mem} {g:Nat} {o:Obj} (h:m g=none):m.le (m.put g o):=fun k o' e=>by
  unfold Mem.put
  split
  · rename_i e';subst e';rw [h] at e;cases e
  · exact e
theorem Mem.put_same (m:Mem) (g:Nat) (o:Obj):m.put g o g=some o:=by unfold Mem.put;rw [if_pos rfl]
theorem Mem.put_other {m:Mem} {g k:Nat} {o:Obj} (h:k ≠ g):m.put g o k=m k:=by unfold Mem.put;rw [if_neg h]
theorem Has.put {w:World} {m:Mem} {g:Nat} {o:Obj} (h:Has w m) (hg:w.heap[g]?=some o):Has w (m.put g o):=fun k o' e=>by
  unfold Mem.put at e
  split at e
  · rename_i e';subst e';injection e with e;subst e;exact hg
  · exact h k o' e
theorem Mem.More.put {w:World} {m:Mem} {g:Nat} {o:Obj} (h:m g=none) (hg:w.heap.size≤g):m.More w (m.put g o) :=
  ⟨Mem.put_le h,fun k e hk=>by rw [Mem.put_other (by omega)];exact e⟩
def RowM (m:Mem) (E:TypeId) (size:Nat) (v:Value) (n:Nat) (xs:List Value):Prop :=
  xs.length=n * size ∧
  ((v=.slice none 0 0∧n=0) ∨
   ∃ g cap cur,v=.slice (some ⟨g,0,none⟩) n cap∧m g=some (.cells cur E (0,0))∧n≤cap∧cap≤maxLen∧cur.size=cap * size∧cur.toList.take (n * size)=xs)
theorem RowM.le {m m':Mem} {E:TypeId} {size n:Nat} {v:Value} {xs:List Value} (h:RowM m E size v n xs) (hm:m.le m'):RowM m' E size v n xs:=by
  obtain ⟨h1,h2 | ⟨g,cap,cur,h2,h3,h4⟩⟩:=h
  · exact ⟨h1,.inl h2⟩
  · exact ⟨h1,.inr ⟨g,cap,cur,h2,hm _ _ h3,h4⟩⟩
theorem RowM.nil (m:Mem) (E:TypeId) (size:Nat):RowM m E size (.slice none 0 0) 0 []:=⟨by simp,.inl ⟨rfl,rfl⟩⟩
theorem RowM.done {w:World} {m:Mem} {B:Nat} {E:TypeId} {size n:Nat} {v:Value} {xs:List Value} (h:w.ownsRow B E size v n xs) (hm:Has w m) (hv:∀ k,v.ownBlock=some k→m k=none) :
    ∃ m',m.le m'∧(∀ k,m' k ≠ none→m k ≠ none ∨ v.ownBlock=some k)∧Has w m'∧RowM m' E size v n xs:=by
  obtain ⟨h1,⟨rfl,rfl⟩ | ⟨g,cap,cur,rfl,hb,hg,h4⟩⟩:=h
  · exact ⟨m,Mem.le.refl m,fun k h=>.inl h,hm,h1,.inl ⟨rfl,rfl⟩⟩
  · refine ⟨m.put g _,Mem.put_le (hv g rfl),fun k hk=>?_,hm.put hg,h1,.inr ⟨g,cap,cur,rfl,Mem.put_same _ _ _,h4⟩⟩
    by_cases e:k=g
    · subst e;exact .inr rfl
    · rw [Mem.put_other e] at hk;exact .inl hk
theorem RowM.cells {w:World} {m:Mem} {E:TypeId} {size n:Nat} {v:Value} {xs:List Value} (h:RowM m E size v n xs) (hm:Has w m) :
    ∀ j u,xs[j]?=some u→∃ g c,v=.slice (some ⟨g,0,none⟩) n c∧w.cell? ⟨g,j,none⟩=some u∧g<w.heap.size:=by
  intro j u hu
  obtain ⟨h1,⟨rfl,rfl⟩ | ⟨g,cap,cur,rfl,hg,h4,h5,h6,h7⟩⟩:=h
  · have:xs=[]:=List.eq_nil_of_length_eq_zero (by simpa using h1)
    subst this;simp at hu
  · refine ⟨g,cap,rfl,?_,heap_lt (hm _ _ hg)⟩
    rw [cell_of_row w g j cur E (0,0) (hm _ _ hg)]
    rw [← h7,List.getElem?_take] at hu
    split at hu
    · simpa using hu
    · cases hu
end Go.Proofs.Mm
namespace Go.Proofs.Ythjkbfamkogoiaa
open Go Go.RowKit Go.Proofs.Mm
theorem cell_of {w:World} {b j:Nat} {arr:Array Value} {T:TypeId} {v:Value} (h:w.heap[b]?=some (.cells arr T (0,0))) (hv:arr[j]?=some v):w.cell? ⟨b,j,none⟩=some v:=by
  rw [cell_of_row w b j arr T (0,0) h];exact hv
theorem free_of {w:World} {b j:Nat} {arr:Array Value} {T:TypeId} (h:w.heap[b]?=some (.cells arr T (0,0))):w.frozen? ⟨b,j,none⟩=false:=by
  simp [World.frozen?,h]
theorem heap_set {w:World} {b:Nat} {arr:Array Value} {T:TypeId} (h:w.heap[b]?=some (.cells arr T (0,0))) (j:Nat) (v:Value):(w.setCell ⟨b,j,none⟩ v).heap[b]?=some (.cells (arr.setIfInBounds j v) T (0,0)):=by
  simp only [World.setCell,Array.getElem?_modify,h,Option.map_some,if_true]
  rfl
theorem heap_other {w:World} {b j k:Nat} {v:Value} {x:Obj} (h:w.heap[k]?=some x) (hn:k ≠ b):(w.setCell ⟨b,j,none⟩ v).heap[k]?=some x:=by
  rw [Below.heap_setCell _ _ _ _ hn];exact h
theorem row_new (W:World) (L:List Value) (T:TypeId):∀ (j:Nat) (u:Value),L[j]?=some u→(W.alloc (.cells L.toArray T)).cell? ((⟨W.heap.size,0,none⟩:Addr).add j)=some u:=by
  intro j u h
  rw [show ((⟨W.heap.size,0,none⟩:Addr).add j)=⟨W.heap.size,j,none⟩ from by unfold Addr.add;split <;> simp_all,World.cell?_alloc_new]
  simpa using h
theorem grown_below {B:Nat} {a w w':World} {row:Option Nat} (h:Below B a w) (hB:B≤w.heap.size) (hg:w.grownBy w' row) (hr:∀ k,row=some k→B≤k):Below B a w' :=
  h.trans ⟨hg.os,hg.tape,hg.output,hg.size,fun k hk=>hg.block k (Nat.lt_of_lt_of_le hk hB) (fun e=>absurd (hr k e.symm) (by omega))⟩
theorem own_chg {w w':World} {B n size:Nat} {E:TypeId} {v:Value} {xs:List Value} (h:w.ownsRow B E size v n xs) {S:Nat→Prop} (hc:Chg S w w') (hn:∀ k,v.ownBlock=some k→¬ S k):w'.ownsRow B E size v n xs:=by
  refine ⟨h.1,?_⟩
  rcases h.2 with h0 | ⟨g,cap,cur,rfl,hb,hg,rest⟩
  · exact .inl h0
  · exact .inr ⟨g,cap,cur,rfl,hb,hc.heap hg (hn g rfl),rest⟩
theorem own_shape {w:World} {B n size:Nat} {E:TypeId} {v:Value} {xs:List Value} (h:w.ownsRow B E size v n xs):∃ q c,v=.slice q n c:=by
  rcases h.2 with ⟨rfl,rfl⟩ | ⟨g,cap,cur,rfl,_⟩
  · exact ⟨_,_,rfl⟩
  · exact ⟨_,_,rfl⟩
def Enc {α:Type} (R:List Value→α→Prop):List Value→List α→Prop
  | cs,[]=>cs=[]
  | cs,x :: xs=>∃ c r,cs=c++r∧R c x∧Enc R r xs
theorem Enc.app {α:Type} {R:List Value→α→Prop}:∀ {xs ys:List α} {cs ds:List Value},Enc R cs xs→Enc R ds ys→Enc R (cs++ds) (xs++ys)
  | [],ys,cs,ds,h,h'=>by
    obtain rfl:cs=[]:=h
    exact h'
  | x :: xs,ys,cs,ds,h,h'=>by
    obtain ⟨c,r,rfl,h1,h2⟩:=h
    exact ⟨c,r++ds,by rw [List.append_assoc],h1,h2.app h'⟩
theorem Enc.one {α:Type} {R:List Value→α→Prop} {c:List Value} {x:α} (h:R c x):Enc R c [x]:=⟨c,[],by simp,h,rfl⟩
theorem Enc.nil {α:Type} {R:List Value→α→Prop}:Enc R [] ([]:List α):=rfl
theorem Enc.mono {α:Type} {R R':List Value→α→Prop} (hR:∀ c x,R c x→R' c x):∀ {xs:List α} {cs:List Value},Enc R cs xs→Enc R' cs xs
  | [],_,h=>h
  | _ :: _,_,⟨c,r,e,h1,h2⟩=>⟨c,r,e,hR _ _ h1,h2.mono hR⟩
end Go.Proofs.Ythjkbfamkogoiaa
namespace Go.Proofs.Ythjkbfamkogoiaa
open Go Go.RowKit Go.Proofs.Mm
structure TmZ where
  kind:Int
  value:Int
  name:ByteArray
structure StZ where
  kind:Int
  name:ByteArray
  targets:List ByteArray
  exprs:List (List TmZ)
instance:Inhabited TmZ:=⟨⟨0,0,⟨#[]⟩⟩⟩
instance:Inhabited StZ:=⟨⟨0,⟨#[]⟩,[],[]⟩⟩
abbrev Cl:=Addr→Option Value
def CLe (C D:Cl):Prop:=∀ a v,C a=some v→D a=some v
theorem CLe.refl (C:Cl):CLe C C:=fun _ _ h=>h
theorem CLe.trans {A B C:Cl} (h:CLe A B) (k:CLe B C):CLe A C:=fun a v e=>k a v (h a v e)
def wC (w:World):Cl:=fun a=>w.cell? a
def mC (m:Mem):Cl:=fun a=>match m a.block with
  | some (.cells cur _ r)=>if a.spot=none∧r=(0,0) then cur[a.off]? else none
  | _=>none
theorem below_cle {w w':World} (h:Below w.heap.size w w'):CLe (wC w) (wC w'):=fun _ _ e=>(h.cell (World.block_lt_of_cell? _ _ e)).trans e
theorem mle_cle {m m':Mem} (h:m.le m'):CLe (mC m) (mC m'):=by
  intro a v e
  unfold mC at e ⊢
  cases hm:m a.block with
  | none=>rw [hm] at e;cases e
  | some o=>rw [hm] at e;rw [h _ _ hm];exact e
theorem has_cle {w:World} {m:Mem} (h:Has w m):CLe (mC m) (wC w):=by
  intro a v e
  obtain ⟨b,o,s⟩:=a
  unfold mC at e
  simp only at e
  cases hm:m b with
  | none=>rw [hm] at e;cases e
  | some ob =>
    rw [hm] at e
    cases ob with
    | cells cur T r =>
      simp only at e
      split at e
      · rename_i hs
        obtain ⟨hs,_⟩:=hs
        subst hs
        unfold wC
        rw [cell_of_row w b o cur T r (h _ _ hm)]
        exact e
      · cases e
    | _=>cases e
theorem has_free {w:World} {m:Mem} (h:Has w m) {a:Addr} {v:Value} (e:mC m a=some v):w.frozen? a=false:=by
  unfold mC at e
  cases hm:m a.block with
  | none=>rw [hm] at e;cases e
  | some ob =>
    rw [hm] at e
    cases ob with
    | cells cur T r =>
      simp only at e
      split at e
      · rename_i hs
        have:=h _ _ hm
        rw [hs.2] at this
        simp [World.frozen?,this]
      · cases e
    | _=>cases e
def RdO (C:Cl) (q:Option Addr) (cs:List Value):Prop:=cs=[] ∨ ∃ g o,q=some ⟨g,o,none⟩∧∀ j u,cs[j]?=some u→C ⟨g,o+j,none⟩=some u
theorem RdO.le {C D:Cl} {q:Option Addr} {cs:List Value} (h:RdO C q cs) (hc:CLe C D):RdO D q cs:=by
  rcases h with h | ⟨g,o,h1,h2⟩
  · exact .inl h
  · exact .inr ⟨g,o,h1,fun j u hu=>hc _ _ (h2 j u hu)⟩
theorem RowM.rdO {m:Mem} {E:TypeId} {size n c:Nat} {q:Option Addr} {xs:List Value} (h:RowM m E size (.slice q n c) n xs):RdO (mC m) q xs:=by
  obtain ⟨h1,⟨h2,rfl⟩ | ⟨g,cap,cur,h2,h3,h4,h5,h6,h7⟩⟩:=h
  · exact .inl (List.eq_nil_of_length_eq_zero (by simpa using h1))
  · injection h2 with h2 _ _
    refine .inr ⟨g,0,h2,fun j u hu=>?_⟩
    rw [← h7,List.getElem?_take] at hu
    split at hu
    · unfold mC
      simp only [h3,Nat.zero_add]
      simpa using hu
    · cases hu
def SlX {α:Type} (mk:List Value) (bs:Nat) (C:Cl) (R:List Value→α→Prop) (v:Value) (l:List α):Prop :=
  ∃ q c cs,v=.slice q l.length c∧(mk=[] ∨ l.length+1≤c)∧RdO C q (cs++mk)∧Enc R cs l∧l.length * bs≤140737488351232∧c≤maxLen∧(q=none→c=0)∧l.length≤c
theorem SlX.mono {α:Type} {mk:List Value} {bs:Nat} {C D:Cl} {R R':List Value→α→Prop} {v:Value} {l:List α} (h:SlX mk bs C R v l) (hc:CLe C D) (hR:∀ c x,R c x→R' c x):SlX mk bs D R' v l:=by
  obtain ⟨q,c,cs,h1,h2,h3,h4,h5,h6⟩:=h
  exact ⟨q,c,cs,h1,h2,h3.le hc,h4.mono hR,h5,h6⟩
def tmZ (t:TmZ):List Value:=[.int .i64 t.kind,.int .i64 t.value,.string t.name]
def mkS (lt:Bool):List Value:=if lt then [.string ⟨#[109,97,114,107]⟩] else []
def mkT (lt:Bool):List Value:=if lt then [.int .i64 (-71),.int .i64 0,.string ⟨#[]⟩] else []
def mkE (lt:Bool):List Value:=if lt then [.slice none 0 0] else []
def mkB (lt:Bool):List Value:=if lt then [.int .i64 (-71),.string ⟨#[]⟩,.slice none 0 0,.slice none 0 0] else []
def StrR (lt:Bool) (C:Cl) (v:Value) (l:List ByteArray):Prop:=SlX (mkS lt) 16 C (fun c s=>c=[Value.string s]) v l
def TmsR (lt:Bool) (C:Cl) (v:Value) (l:List TmZ):Prop:=SlX (mkT lt) 32 C (fun c t=>c=tmZ t) v l
def ExR1 (lt:Bool) (C:Cl) (c:List Value) (t:List TmZ):Prop:=∃ u,c=[u]∧TmsR lt C u t
def ExsR (lt:Bool) (C:Cl) (v:Value) (l:List (List TmZ)):Prop:=SlX (mkE lt) 24 C (ExR1 lt C) v l
def StR1 (lt:Bool) (C:Cl) (c:List Value) (s:StZ):Prop:=∃ vt ve,c=[.int .i64 s.kind,.string s.name,vt,ve]∧StrR lt C vt s.targets∧ExsR lt C ve s.exprs
def BdR (lt:Bool) (C:Cl) (v:Value) (l:List StZ):Prop:=SlX (mkB lt) 72 C (StR1 lt C) v l
section
variable {lt:Bool} {C D:Cl}
theorem StrR.le {v:Value} {l:List ByteArray} (h:StrR lt C v l) (hc:CLe C D):StrR lt D v l:=SlX.mono h hc fun _ _ e=>e
theorem TmsR.le {v:Value} {l:List TmZ} (h:TmsR lt C v l) (hc:CLe C D):TmsR lt D v l:=SlX.mono h hc fun _ _ e=>e
theorem ExR1.le {c:List Value} {l:List TmZ} (h:ExR1 lt C c l) (hc:CLe C D):ExR1 lt D c l:=let ⟨u,e,k⟩:=h;⟨u,e,k.le hc⟩
theorem ExsR.le {v:Value} {l:List (List TmZ)} (h:ExsR lt C v l) (hc:CLe C D):ExsR lt D v l:=SlX.mono h hc fun _ _ e=>e.le hc
theorem StR1.le {c:List Value} {s:StZ} (h:StR1 lt C c s) (hc:CLe C D):StR1 lt D c s:=let ⟨vt,ve,e,a,b⟩:=h;⟨vt,ve,e,a.le hc,b.le hc⟩
theorem BdR.le {v:Value} {l:List StZ} (h:BdR lt C v l) (hc:CLe C D):BdR lt D v l:=SlX.mono h hc fun _ _ e=>e.le hc
end
theorem encZ_at {α:Type} {R:List Value→α→Prop} {size:Nat} (hR:∀ c x,R c x→c.length=size):∀ {l:List α} {cs:List Value},Enc R cs l→cs.length=l.length * size∧∀ j (h:j<l.length),∃ c,R c l[j]∧∀ r,r<size→cs[j * size+r]?=c[r]?
  | [],cs,he=>by obtain rfl:cs=[]:=he;exact ⟨by simp,fun j h=>absurd h (by simp)⟩
  | x :: l,cs,he=>by
    obtain ⟨c,d,rfl,h1,h2⟩:=he
    have hc:=hR _ _ h1
    obtain ⟨h5,h6⟩:=encZ_at hR h2
    refine ⟨by rw [List.length_append,hc,h5,List.length_cons,Nat.succ_mul];omega,fun j h=>?_⟩
    cases j with
    | zero=>exact ⟨c,h1,fun r hr=>by rw [Nat.zero_mul,Nat.zero_add,List.getElem?_append_left (by omega)]⟩
    | succ j =>
      obtain ⟨c',h3,h4⟩:=h6 j (by simpa using h)
      refine ⟨c',h3,fun r hr=>?_⟩
      rw [show (j+1) * size+r=c.length+(j * size+r) by rw [hc,Nat.succ_mul];omega,List.getElem?_append_right (by omega),Nat.add_sub_cancel_left]
      exact h4 r hr
theorem SlX.at {α:Type} {mk:List Value} {bs:Nat} {C:Cl} {R:List Value→α→Prop} {v:Value} {l:List α} {size:Nat} (h:SlX mk (bs+1) C R v l) (hs:0<size) (hR:∀ c x,R c x→c.length=size) :
    ∃ q c,v=.slice q l.length c∧(mk=[] ∨ l.length+1≤c)∧l.length≤140737488351232∧c≤maxLen ∧
      (∀ j (hj:j<l.length),∃ g o e,q=some ⟨g,o,none⟩∧R e l[j]∧∀ r u,r<size→e[r]?=some u→C ⟨g,o+(j * size+r),none⟩=some u) ∧
      (mk=[] ∨ ∃ g o,q=some ⟨g,o,none⟩∧∀ r u,mk[r]?=some u→C ⟨g,o+(l.length * size+r),none⟩=some u):=by
  obtain ⟨q,c,cs,h1,h2,h3,h4,h5,h6,_⟩:=h
  obtain ⟨hl,ha⟩:=encZ_at hR h4
  refine ⟨q,c,h1,h2,Nat.le_trans (Nat.le_mul_of_pos_right _ (Nat.succ_pos _)) h5,h6,fun j hj=>?_,?_⟩
  · obtain ⟨e,e1,e2⟩:=ha j hj
    have hle:j * size+size≤l.length * size:=by rw [← Nat.succ_mul];exact Nat.mul_le_mul_right _ hj
    rcases h3 with h3 | ⟨g,o,h3,h7⟩
    · have:=(List.append_eq_nil_iff.1 h3).1
      rw [this] at hl
      simp only [List.length_nil] at hl
      omega
    · refine ⟨g,o,e,h3,e1,fun r u hr hu=>h7 _ _ ?_⟩
      rw [List.getElem?_append_left (by omega),e2 r hr]
      exact hu
  · by_cases hm:mk=[]
    · exact .inl hm
    · refine .inr ?_
      rcases h3 with h3 | ⟨g,o,h3,h7⟩
      · exact absurd (List.append_eq_nil_iff.1 h3).2 hm
      · refine ⟨g,o,h3,fun r u hu=>h7 _ _ ?_⟩
        rw [List.getElem?_append_right (by omega),hl,Nat.add_sub_cancel_left]
        exact hu
end Go.Proofs.Ythjkbfamkogoiaa
namespace Go.Proofs.Ythjkbfamkogoiaa
open Go Go.ChangeShapes Go.WideShapes Go.ChangeAt Go.RowKit Go.Lib Go.Proofs.Mm
def intOf:Value→Int
  | .int _ n=>n
  | _=>0
theorem below_own {n:Nat} {A B:World} {r:Option Nat} (hg:A.grownBy B r) (hn:n≤A.heap.size) (hr:∀ k,r=some k→n≤k):Below n A B :=
  ⟨hg.os,hg.tape,hg.output,hg.size,fun k hk=>hg.block k (by omega) (fun e=>by have:=hr k e.symm;omega)⟩
theorem row_form {W:World} {b:Nat} {e:TypeId} {size:Nat} {v:Value} {n:Nat} {xs:List Value} (h:W.ownsRow b e size v n xs) (hn:0<n):∃ g cap,v=.slice (some ⟨g,0,none⟩) n cap∧b≤g:=by
  rcases h.2 with ⟨_,h0⟩ | ⟨g,cap,cur,h0,hb,_⟩
  · omega
  · exact ⟨g,cap,h0,hb⟩
theorem own:ownKnob Try.prog.godebug=none:=by kernel_rfl
theorem laidOut:laidOutB Try.prog=true:=by kernel_rfl
theorem trodAll_below {H:Type} {enc:TypeId × Value→H} {P:Program} (hl:laidOutB P=true) {W W':World} (hb:Below W.heap.size W W') (ts:List TypeId):∀ {vs:List Value} {ds:List (DataW H)} {ps:List MemPlace},
    (∀ t ∈ ts,P.readableRec t=true∧t<P.types.size)→DataW.TrodAll enc P W 0 (fun _=>true) true ts vs ds ps→(∀ x ∈ ps,x.block<W.heap.size)→DataW.TrodAll enc P W' 0 (fun b=>decide (b<W.heap.size)) true ts vs ds ps:=by
  induction ts with
  | nil =>
    intro vs ds ps _ h _
    cases vs <;> cases ds <;> exact h
  | cons t ts ih =>
    intro vs ds ps hr h hlt
    cases vs with
    | nil=>cases ds <;> cases h
    | cons v vs=>cases ds with
      | nil=>cases h
      | cons d ds =>
        obtain ⟨p,q,h1,h2,rfl⟩:=h
        have ht:=hr t (List.mem_cons_self ..)
        exact ⟨p,q,Below.trod hl ht.1 ht.2 h1 hb fun x hx=>hlt x (List.mem_append_left _ hx),ih (fun u hu=>hr u (List.mem_cons_of_mem _ hu)) h2 fun x hx=>hlt x (List.mem_append_right _ hx),rfl⟩
theorem post_true {H:Type} {enc:TypeId × Value→H} {fn:Func} {s:ChangeSpec} {W W':World} {args:Array Value} {ds:List (DataW H)} {before:List MemPlace} (hv:s.vars=[]) (hrt:fn.resultTypes=#[4])
    (hr:∀ t ∈ fn.params.toList,Try.prog.readableRec t=true∧t<Try.prog.types.size) (hs:s.fn H ds={ results:=[.lit (.bool true)],args:=ds,vars:=[] })
    (hW:DataW.Whole enc Try.prog fn.params.toList s.vars false W args.toList ds [] before) (hb:Below W.heap.size W W'):s.post enc Try.prog fn false true false false W args (.bool true) W':=by
  have hW':=hW
  obtain ⟨p,q,hA,hV,rfl,hfz,_⟩:=hW
  rw [hv] at hV
  obtain rfl:q=[]:=hV
  refine ⟨ds,[],p++[],[],p,[],hW',?_,?_,?_,hb.frame _,fun h=>by cases h⟩
  · rw [List.append_nil,hs,hrt];exact trodAll_mk1 (shut_bool Try.underlying4 _)
  · rw [List.append_nil,hs]
    exact trodAll_below laidOut hb _ hr hA fun x hx=>by simpa using hW'.lt x (List.mem_append_left _ hx)
  · rw [List.append_nil,hs,hv];rfl
abbrev inV (op a:Int):Value:=.agg #[.int .i64 op,.int .i64 a]
theorem bl_al {W w:World} (h:Below W.heap.size W w) (o:Obj):Below W.heap.size W (w.alloc o):=h.alloc h.size o
theorem bl_tr {W w w':World} (h:Below W.heap.size W w) (k:Below w.heap.size w w'):Below W.heap.size W w':=h.trans (k.mono h.size)
theorem cell_b {w w':World} {a:Addr} {v:Value} (h:w.cell? a=some v) (hb:Below w.heap.size w w'):w'.cell? a=some v:=below_cle hb _ _ h
def InB (w:World) (b:Nat) (cs:Array Value) (T:TypeId):Prop:=w.heap[b]?=some (.cells cs T (0,0))
theorem InB.le {w w':World} {b:Nat} {cs:Array Value} {T:TypeId} (h:InB w b cs T) (hb:Below w.heap.size w w'):InB w' b cs T:=(hb.block b (heap_lt h)).trans h
theorem InB.cell {w:World} {b:Nat} {cs:Array Value} {T:TypeId} (h:InB w b cs T) {j:Nat} {v:Value} (hv:cs[j]?=some v):w.cell? ⟨b,j,none⟩=some v:=cell_of h hv
theorem InB.free {w:World} {b:Nat} {cs:Array Value} {T:TypeId} (h:InB w b cs T) (j:Nat):w.frozen? ⟨b,j,none⟩=false:=free_of h
theorem InB.lt {w:World} {b:Nat} {cs:Array Value} {T:TypeId} (h:InB w b cs T):b<w.heap.size:=heap_lt h
theorem InB.new (w:World) (cs:Array Value) (T:TypeId):InB (w.alloc (.cells cs T)) w.heap.size cs T:=heap_alloc_new _ _
theorem InB.new' {w:World} {b:Nat} (cs:Array Value) (T:TypeId) (h:w.heap.size=b):InB (w.alloc (.cells cs T)) b cs T:=by subst h;exact InB.new _ _ _
structure FnL where
  np:Nat
  nr:Nat
  loc:Int
  nc:Nat
instance:Inhabited FnL:=⟨⟨0,0,0,0⟩⟩
abbrev moV (qg:Option Addr) (ng cg:Nat) (qa:Option Addr) (na ca:Nat) (qh:Option Addr) (nh ch:Nat) (qf:Option Addr) (nf cf:Nat):Value :=
  .agg #[.slice qg ng cg,.slice qa na ca,.slice qh nh ch,.slice qf nf cf]
def FnsAt (C:Cl) (q:Option Addr) (fs:List FnL):Prop:=∀ j (hj:j<fs.length),∃ g o lv qp cp qr cr stk qc cc,q=some ⟨g,o,none⟩∧C ⟨g,o+j * 6,none⟩=some (.int .u64 lv)∧C ⟨g,o+j * 6+1,none⟩=some (.slice qp fs[j].np cp) ∧
  C ⟨g,o+j * 6+2,none⟩=some (.slice qr fs[j].nr cr)∧C ⟨g,o+j * 6+3,none⟩=some (.int .i64 fs[j].loc)∧C ⟨g,o+j * 6+4,none⟩=some (.int .i64 stk)∧C ⟨g,o+j * 6+5,none⟩=some (.slice qc fs[j].nc cc)∧fs[j].np≤maxLen
end Go.Proofs.Ythjkbfamkogoiaa
namespace Go.Proofs.Ythjkbfamkogoiaa
open Go Go.ChangeShapes Go.WideShapes Go.ChangeAt Go.RowKit Go.Lib
theorem wf_le {k:IntKind} {n:Int} (h:(Lit.int k n).wf=true):k.min≤n∧n≤k.max:=by
  unfold Lit.wf at h
  rw [Bool.and_eq_true,decide_eq_true_eq,decide_eq_true_eq] at h
  exact h
set_option maxRecDepth 100000 in
theorem wf_64 {n:Int} (h:(Lit.int .i64 n).wf=true):-9223372036854775808≤n∧n<9223372036854775808:=by
  have h1:=wf_le h
  have h2:IntKind.min .i64=-9223372036854775808:=by decide
  have h3:IntKind.max .i64=9223372036854775807:=by decide
  rw [h2,h3] at h1
  omega
set_option maxRecDepth 100000 in
theorem ins_open {H:Type} {enc:TypeId × Value→H} {w:World} {n:Nat} {cs:List Value} {d:DataW H} {p:List MemPlace} (hl:cs.length=2) (h:DataW.trod enc Try.prog w 0 (fun _=>true) true n 35 cs=some (d,p)) :
    ∃ op a:Int,cs=[.int .i64 op,.int .i64 a]∧(-9223372036854775808≤a∧a<9223372036854775808)∧(-9223372036854775808≤op∧op<9223372036854775808):=by
  obtain ⟨xs,n',rfl,hx,_,hlen,hf⟩:=DataW.trod_struct Try.underlying35 h
  have h0:=hf 0 _ rfl
  have h1:=hf 1 _ rfl
  match cs,hl with
  | [c0,c1],_ =>
    have l2:xs.length=2:=hlen
    rw [List.getElem?_eq_getElem (by omega)] at h0 h1
    obtain ⟨op,ho,_,hw0⟩:=DataW.trod_int (k:=.i64) (by kernel_rfl) h0
    obtain ⟨a,ha,_,hw1⟩:=DataW.trod_int (k:=.i64) (by kernel_rfl) h1
    have ho':[c0]=[.int .i64 op]:=ho
    have ha':[c1]=[.int .i64 a]:=ha
    injection ho' with e0
    injection ha' with e1
    exact ⟨op,a,by rw [e0,e1],wf_64 hw1,wf_64 hw0⟩
end Go.Proofs.Ythjkbfamkogoiaa
namespace Go.Proofs.Ythjkbfamkogoiaa
open Go Go.RowKit Go.Proofs.Mm Go.ChangeShapes Go.WideShapes
def Wt {H:Type} (t:TypeId) (d:DataW H):Prop:=∀ x ∈ d.weights Try.prog t,x≤reachBytes
theorem all_mem {H:Type} {P:Program} {e:TypeId}:∀ {l:List (DataW H)} {d:DataW H},d ∈ l→∀ x ∈ d.weights P e,x ∈ DataW.weightsAll P e l
  | y :: l,d,hd,x,hx=>by
    simp only [DataW.weightsAll,List.mem_append]
    rcases List.mem_cons.1 hd with rfl | hd
    · exact .inl hx
    · exact .inr (all_mem hd x hx)
theorem enc_range {α:Type} {R:List Value→α→Prop} (f:Nat→α) (g:Nat→List Value):∀ n,(∀ i,i<n→R (g i) (f i))→Enc R ((List.range n).flatMap g) ((List.range n).map f)
  | 0,_=>rfl
  | n+1,h=>by
    rw [List.range_succ,List.flatMap_append,List.map_append]
    refine (enc_range f g n fun i hi=>h i (by omega)).app ?_
    simp only [List.flatMap_cons,List.flatMap_nil,List.append_nil,List.map_cons,List.map_nil]
    exact Enc.one (h n (by omega))
theorem open_sl {H:Type} {enc:TypeId × Value→H} {w:World} {α:Type} [Inhabited α] {t e:TypeId} {size bs fuel:Nat} {cs:List Value} {d:DataW H} {p:List MemPlace} (ht:Try.prog.underlying t=some (.slice e)) (hc:Try.prog.cellsOf e=size) (hs:0<size) (hbs:Try.prog.bytesOf e=bs)
    {R:List Value→α→Prop} (hR:∀ c x,R c x→c.length=size)
    (hopen:∀ n cs' d p,cs'.length=size→DataW.trod enc Try.prog w 0 (fun _=>true) true n e cs'=some (d,p)→Wt e d→∃ a,R cs' a)
    (h:DataW.trod enc Try.prog w 0 (fun _=>true) true fuel t cs=some (d,p)) (hw:Wt t d):∃ v l,cs=[v]∧SlX [] bs (wC w) R v l:=by
  rcases Go.Deep.open_slice ht h with ⟨rfl,hx⟩ | ⟨a,len,cap,m,n,D,Pl,rfl,hb,hl,hm,hmm,hx,hel⟩
  · exact ⟨_,[],rfl,none,0,[],rfl,.inl rfl,.inl rfl,Enc.nil,by simp,by unfold maxLen;omega,fun _=>rfl,by simp⟩
  · rw [if_pos rfl] at hmm
    subst hmm
    rw [hc] at hel
    injection hx with hx1 hx2
    subst hx1
    have hwl:m * bs≤reachBytes:=by
      have:=hw (((List.range len).map D).length+((List.range (m - len)).map fun j=>D (len+j)).length |>.mul (Try.prog.bytesOf e)) (by simp only [DataW.weights,ht];exact List.mem_cons_self ..)
      simp only [List.length_map,List.length_range,hbs] at this
      rw [show len+(m - len)=m by omega] at this
      exact this
    have hDm:∀ i,i<len→D i ∈ ((List.range len).map D):=fun i hi=>List.mem_map.2 ⟨i,List.mem_range.2 hi,rfl⟩
    have hch:∀ i,i<len→∃ y:List Value × α,w.cells? 0 (a.add (i * size)) size=some y.1∧R y.1 y.2:=fun i hi=>by
      obtain ⟨cs',h1,h2⟩:=hel i (by omega)
      obtain ⟨_,hlen,_⟩:=World.cells?_some h1
      obtain ⟨x,hx⟩:=hopen n cs' (D i) (Pl i) hlen h2 (fun x hx=>hw x (by
        simp only [DataW.weights,ht]
        exact List.mem_cons_of_mem _ (List.mem_append_left _ (all_mem (hDm i hi) x hx))))
      exact ⟨(cs',x),h1,hx⟩
    obtain ⟨f,hf⟩:=Go.Deep.choose_lt hch
    have hE:Enc R ((List.range len).flatMap fun i=>(f i).1) ((List.range len).map fun i=>(f i).2):=enc_range _ _ len fun i hi=>(hf i hi).2
    refine ⟨_,(List.range len).map fun i=>(f i).2,rfl,some a,m,(List.range len).flatMap fun i=>(f i).1,by simp,.inl rfl,?_,hE,by simp only [List.length_map,List.length_range];have hrb:reachBytes=140737488351232:=rfl;have:=Nat.mul_le_mul_right bs hl;omega,hm,by simp,by simpa using hl⟩
    rw [List.append_nil]
    by_cases h0:len=0
    · subst h0;exact .inl rfl
    · refine .inr ?_
      obtain ⟨b,off,sp⟩:=a
      have hE':Enc (fun c i=>c=(f i).1∧i<len) ((List.range len).flatMap fun i=>(f i).1) ((List.range len).map fun i=>i):=enc_range _ _ len fun i hi=>⟨rfl,hi⟩
      have hlen:∀ c i,(c=(f i).1∧i<len)→c.length=size:=fun c i ⟨e,hi⟩=>by rw [e];exact hR _ _ (hf i hi).2
      obtain ⟨hL,hA⟩:=encZ_at hlen hE'
      have hsp:sp=none:=by
        obtain ⟨_,h2,h3⟩:=World.cells?_some (hf 0 (by omega)).1
        have h4:=h3 0 hs
        rw [List.getElem?_eq_getElem (by omega)] at h4
        rw [Nat.zero_mul] at h4
        have h5:(((⟨b,off,sp⟩:Addr).add 0).add 0)=⟨b,off,sp⟩:=by simp [Addr.add]
        rw [h5] at h4
        exact cell_spot h4
      subst hsp
      refine ⟨b,off,rfl,fun j u hu=>?_⟩
      have hj:j<len * size:=by
        have:=(List.getElem?_eq_some_iff.1 hu).1
        rw [hL] at this
        simpa using this
      have hq:j / size<len:=(Nat.div_lt_iff_lt_mul hs).2 hj
      obtain ⟨c,⟨e1,_⟩,e2⟩:=hA (j / size) (by simpa using hq)
      have hr:j % size<size:=Nat.mod_lt _ hs
      have e3:=e2 (j % size) hr
      have hjj:j / size * size+j % size=j:=by rw [Nat.mul_comm];exact Nat.div_add_mod j size
      rw [hjj,hu] at e3
      simp only [List.getElem_map,List.getElem_range] at e1
      obtain ⟨_,_,h3⟩:=World.cells?_some (hf (j / size) hq).1
      have h4:=h3 (j % size) hr
      rw [← e1,← e3] at h4
      have h5:(((⟨b,off,none⟩:Addr).add (j / size * size)).add (j % size))=⟨b,off+j,none⟩:=by
        rw [Go.Deep.add_add,hjj]
        unfold Addr.add
        split <;> simp_all
      rw [h5] at h4
      exact h4
end Go.Proofs.Ythjkbfamkogoiaa
namespace Go.Proofs.Ythjkbfamkogoiaa
open Go Go.RowKit Go.Proofs.Mm Go.ChangeShapes Go.WideShapes
structure FnM where
  level:Int
  params:List Int
  results:List Int
  locals:Int
  stack:Int
  code:List (Int × Int)
structure MoM where
  globals:List Int
  arrays:List (Int × Int)
  channels:List Int
  funcs:List FnM
instance:Inhabited FnM:=⟨⟨0,[],[],0,0,[]⟩⟩
def FnM.lens (f:FnM):FnL:=⟨f.params.length,f.results.length,f.locals,f.code.length⟩
def mkL (lt:Bool):List Value:=if lt then [.int .u64 7171] else []
def mkI (lt:Bool):List Value:=if lt then [.int .i64 (-71),.int .i64 0] else []
def mkA (lt:Bool):List Value:=if lt then [.int .i64 (-71),.int .u64 0] else []
def mkF (lt:Bool):List Value:=if lt then [.int .u64 0,.slice none 0 0,.slice none 0 0,.int .i64 0,.int .i64 (-71),.slice none 0 0] else []
abbrev laR (c:List Value) (x:Int):Prop:=c=[.int .u64 x]
abbrev inR (c:List Value) (x:Int × Int):Prop:=c=[.int .i64 x.1,.int .i64 x.2]
abbrev arR (c:List Value) (x:Int × Int):Prop:=c=[.int .i64 x.1,.int .u64 x.2]
def LasR (lt:Bool) (C:Cl) (v:Value) (l:List Int):Prop:=SlX (mkL lt) 8 C laR v l
def CdR (lt:Bool) (C:Cl) (v:Value) (l:List (Int × Int)):Prop:=SlX (mkI lt) 16 C inR v l
def ArsR (lt:Bool) (C:Cl) (v:Value) (l:List (Int × Int)):Prop:=SlX (mkA lt) 16 C arR v l
def FnR1 (lt:Bool) (C:Cl) (c:List Value) (f:FnM):Prop :=
  ∃ vp vr vc,c=[.int .u64 f.level,vp,vr,.int .i64 f.locals,.int .i64 f.stack,vc]∧LasR lt C vp f.params∧LasR lt C vr f.results∧CdR lt C vc f.code
def FnsR (lt:Bool) (C:Cl) (v:Value) (l:List FnM):Prop:=SlX (mkF lt) 96 C (FnR1 lt C) v l
def MoR (lt:Bool) (C:Cl) (v:Value) (m:MoM):Prop :=
  ∃ v1 v2 v3 v4,v=.agg #[v1,v2,v3,v4]∧LasR lt C v1 m.globals∧ArsR lt C v2 m.arrays∧LasR lt C v3 m.channels∧FnsR lt C v4 m.funcs
theorem la_len (c:List Value) (x:Int) (h:laR c x):c.length=1:=by rw [h];rfl
theorem in_len (c:List Value) (x:Int × Int) (h:inR c x):c.length=2:=by rw [h];rfl
theorem ar_len (c:List Value) (x:Int × Int) (h:arR c x):c.length=2:=by rw [h];rfl
section
variable {lt:Bool} {C D:Cl}
theorem fn_len (c:List Value) (f:FnM) (h:FnR1 lt C c f):c.length=6:=by obtain ⟨a,b,e,rfl,_⟩:=h;rfl
theorem LasR.le {v:Value} {l:List Int} (h:LasR lt C v l) (hc:CLe C D):LasR lt D v l:=SlX.mono h hc fun _ _ e=>e
theorem CdR.le {v:Value} {l:List (Int × Int)} (h:CdR lt C v l) (hc:CLe C D):CdR lt D v l:=SlX.mono h hc fun _ _ e=>e
theorem ArsR.le {v:Value} {l:List (Int × Int)} (h:ArsR lt C v l) (hc:CLe C D):ArsR lt D v l:=SlX.mono h hc fun _ _ e=>e
theorem FnR1.le {c:List Value} {f:FnM} (h:FnR1 lt C c f) (hc:CLe C D):FnR1 lt D c f:=by
  obtain ⟨vp,vr,vc,e,h1,h2,h3⟩:=h
  exact ⟨vp,vr,vc,e,h1.le hc,h2.le hc,h3.le hc⟩
theorem FnsR.le {v:Value} {l:List FnM} (h:FnsR lt C v l) (hc:CLe C D):FnsR lt D v l:=SlX.mono h hc fun _ _ e=>e.le hc
end
theorem slx_shape {α:Type} {mk:List Value} {bs:Nat} {C:Cl} {R:List Value→α→Prop} {v:Value} {l:List α} (h:SlX mk bs C R v l):∃ q c,v=.slice q l.length c:=let ⟨q,c,_,e,_⟩:=h;⟨q,c,e⟩
theorem slx_max {α:Type} {mk:List Value} {bs:Nat} {C:Cl} {R:List Value→α→Prop} {v:Value} {l:List α} (h:SlX mk bs C R v l):l.length≤maxLen:=by
  obtain ⟨_,_,_,_,_,_,_,_,h1,_,h2⟩:=h;omega
section
variable {lt:Bool} {C:Cl} {q:Option Addr} {n c:Nat}
theorem slx_at {α:Type} {mk:List Value} {bs:Nat} {R:List Value→α→Prop} {l:List α} {size:Nat} (h:SlX mk (bs+1) C R (.slice q n c) l) (hs:0<size) (hR:∀ c x,R c x→c.length=size) :
    ∀ j (hj:j<l.length),∃ g o e,q=some ⟨g,o,none⟩∧R e l[j]∧∀ r u,r<size→e[r]?=some u→C ⟨g,o+j * size+r,none⟩=some u:=by
  intro j hj
  obtain ⟨q',c',e1,_,_,_,ha,_⟩:=h.at hs hR
  obtain ⟨rfl,_,_⟩:q=q'∧n=l.length∧c=c':=by injection e1 with a b c;exact ⟨a,b,c⟩
  obtain ⟨g,o,e,h1,h2,h3⟩:=ha j hj
  exact ⟨g,o,e,h1,h2,fun r u hr hu=>by rw [Nat.add_assoc];exact h3 r u hr hu⟩
def FnC0 (c:List Value) (f:FnL):Prop:=∃ lv qp cp qr cr stk qc cc,c=[.int .u64 lv,.slice qp f.np cp,.slice qr f.nr cr,.int .i64 f.loc,.int .i64 stk,.slice qc f.nc cc]∧f.np≤maxLen
theorem fnc_len (c:List Value) (f:FnL) (h:FnC0 c f):c.length=6:=by obtain ⟨_,_,_,_,_,_,_,_,rfl,_⟩:=h;rfl
theorem FnR1.c0 {c:List Value} {f:FnM} (h:FnR1 lt C c f):FnC0 c f.lens:=by
  obtain ⟨vp,vr,vc,rfl,h1,h2,h3⟩:=h
  have hm:=slx_max h1
  obtain ⟨qp,cp,rfl⟩:=slx_shape h1
  obtain ⟨qr,cr,rfl⟩:=slx_shape h2
  obtain ⟨qc,cc,rfl⟩:=slx_shape h3
  exact ⟨_,qp,cp,qr,cr,_,qc,cc,rfl,hm⟩
theorem enc_map {α β:Type} {R:List Value→α→Prop} {S:List Value→β→Prop} (f:α→β) (h:∀ c x,R c x→S c (f x)):∀ {l:List α} {cs:List Value},Enc R cs l→Enc S cs (l.map f)
  | [],_,e=>e
  | x :: l,cs,⟨c,r,e,h1,h2⟩=>⟨c,r,e,h c x h1,enc_map f h h2⟩
theorem FnsAt_of {fs:List FnL} {cs:List Value} (he:Enc FnC0 cs fs) {g o:Nat} (hc:∀ j u,cs[j]?=some u→C ⟨g,o+j,none⟩=some u):FnsAt C (some ⟨g,o,none⟩) fs:=by
  intro j hj
  obtain ⟨_,ha⟩:=encZ_at fnc_len he
  obtain ⟨c,⟨lv,qp,cp,qr,cr,stk,qc,cc,rfl,hm⟩,h2⟩:=ha j hj
  have hk:∀ r u,([.int .u64 lv,.slice qp fs[j].np cp,.slice qr fs[j].nr cr,.int .i64 fs[j].loc,.int .i64 stk,.slice qc fs[j].nc cc]:List Value)[r]?=some u→C ⟨g,o+j * 6+r,none⟩=some u:=fun r u hu=>by
    have hr:r<6:=(List.getElem?_eq_some_iff.1 hu).1
    have:=hc (j * 6+r) u (by rw [h2 r hr];exact hu)
    rwa [← Nat.add_assoc] at this
  exact ⟨g,o,lv,qp,cp,qr,cr,stk,qc,cc,rfl,hk 0 _ rfl,hk 1 _ rfl,hk 2 _ rfl,hk 3 _ rfl,hk 4 _ rfl,hk 5 _ rfl,hm⟩
theorem FnsR.at {fs:List FnM} (h:FnsR lt C (.slice q n c) fs):FnsAt C q (fs.map FnM.lens):=by
  obtain ⟨q',c',cs,e,_,hr,he,_⟩:=h
  injection e with e1 e2 e3
  subst e1
  rcases hr with hr | ⟨g,o,hq,hr⟩
  · intro j hj
    have hcs:=(List.append_eq_nil_iff.1 hr).1
    subst hcs
    obtain ⟨hl,_⟩:=encZ_at fn_len he
    simp at hl hj
    have:fs.length=0:=by omega
    omega
  · rw [hq]
    exact FnsAt_of (enc_map FnM.lens (fun _ _ h=>h.c0) he) (fun j u hu=>hr j u (by rw [List.getElem?_append_left (List.getElem?_eq_some_iff.1 hu).1];exact hu))
end
section
set_option maxRecDepth 100000
variable {H:Type} {enc:TypeId × Value→H} {w:World} {n:Nat} {cs:List Value} {d:DataW H} {p:List MemPlace}
theorem lab_open (h:DataW.trod enc Try.prog w 0 (fun _=>true) true n 42 cs=some (d,p)):∃ l:Int,laR cs l:=by
  obtain ⟨a,ha,_⟩:=DataW.trod_int (k:=.u64) (by kernel_rfl) h
  exact ⟨a,ha⟩
theorem las_open (h:DataW.trod enc Try.prog w 0 (fun _=>true) true n 22 cs=some (d,p)) (hw:Wt 22 d):∃ v l,cs=[v]∧LasR false (wC w) v l :=
  open_sl (size:=1) (bs:=8) (R:=laR) (e:=42) (by kernel_rfl) (by kernel_rfl) (by decide) (by kernel_rfl) la_len (fun _ _ _ _ _ h _=>lab_open h) h hw
theorem cds_open (h:DataW.trod enc Try.prog w 0 (fun _=>true) true n 43 cs=some (d,p)) (hw:Wt 43 d):∃ v l,cs=[v]∧CdR false (wC w) v l :=
  open_sl (size:=2) (bs:=16) (R:=inR) (e:=35) (by kernel_rfl) (by kernel_rfl) (by decide) (by kernel_rfl) in_len (fun _ _ _ _ hl h _=>by
    obtain ⟨op,a,e,_⟩:=ins_open hl h
    exact ⟨(op,a),e⟩) h hw
theorem ar_open (hl:cs.length=2) (h:DataW.trod enc Try.prog w 0 (fun _=>true) true n 49 cs=some (d,p)):∃ x:Int × Int,arR cs x:=by
  obtain ⟨xs,n',rfl,hx,_,hlen,hf⟩:=DataW.trod_struct Try.underlying49 h
  have h0:=hf 0 _ rfl
  have h1:=hf 1 _ rfl
  match cs,hl with
  | [c0,c1],_ =>
    have l2:xs.length=2:=hlen
    rw [List.getElem?_eq_getElem (by omega)] at h0 h1
    obtain ⟨a,ha,_⟩:=DataW.trod_int (k:=.i64) (by kernel_rfl) h0
    obtain ⟨b,hb⟩:=lab_open h1
    have ha':[c0]=[.int .i64 a]:=ha
    have hb':[c1]=[.int .u64 b]:=hb
    injection ha' with e0
    injection hb' with e1
    exact ⟨(a,b),by rw [e0,e1]⟩
theorem ars_open (h:DataW.trod enc Try.prog w 0 (fun _=>true) true n 23 cs=some (d,p)) (hw:Wt 23 d):∃ v l,cs=[v]∧ArsR false (wC w) v l :=
  open_sl (size:=2) (bs:=16) (R:=arR) (e:=49) (by kernel_rfl) (by kernel_rfl) (by decide) (by kernel_rfl) ar_len (fun _ _ _ _ hl h _=>ar_open hl h) h hw
theorem fn_open (hl:cs.length=6) (h:DataW.trod enc Try.prog w 0 (fun _=>true) true n 45 cs=some (d,p)) (hw:Wt 45 d):∃ f:FnM,FnR1 false (wC w) cs f:=by
  obtain ⟨c0,c1,c2,c3,c4,c5,rfl⟩:∃ c0 c1 c2 c3 c4 c5,cs=[c0,c1,c2,c3,c4,c5]:=by
    match cs,hl with
    | [c0,c1,c2,c3,c4,c5],_=>exact ⟨c0,c1,c2,c3,c4,c5,rfl⟩
  obtain ⟨xs,n',rfl,hx,_,hlen,hf⟩:=DataW.trod_struct Try.underlying45 h
  have h0:=hf 0 _ rfl
  have h1:=hf 1 _ rfl
  have h2:=hf 2 _ rfl
  have h3:=hf 3 _ rfl
  have h4:=hf 4 _ rfl
  have h5:=hf 5 _ rfl
  injection hx with hd _
  subst hd
  have lk:xs.length=6:=hlen
  have hwe:∀ j (hj:j<6) t,([42,22,22,3,3,43]:List TypeId)[j]?=some t→Wt t (xs[j]'(by omega)).1:=fun j hj t ht x hx=>hw x (by
    simp only [DataW.weights,Try.underlying45]
    refine DataW.weights_mem_each (j:=j) (t:=t) ?_ ?_ x hx
    · exact ht
    · rw [List.getElem?_map,List.getElem?_eq_getElem (by omega)];rfl)
  rw [List.getElem?_eq_getElem (by omega)] at h0 h1 h2 h3 h4 h5
  obtain ⟨v0,e0⟩:=lab_open h0
  obtain ⟨w1,v1,e1,r1⟩:=las_open (d:=(xs[1]'(by omega)).1) (p:=(xs[1]'(by omega)).2) h1 (hwe 1 (by omega) _ rfl)
  obtain ⟨w2,v2,e2,r2⟩:=las_open (d:=(xs[2]'(by omega)).1) (p:=(xs[2]'(by omega)).2) h2 (hwe 2 (by omega) _ rfl)
  obtain ⟨v3,e3,_⟩:=DataW.trod_int (k:=.i64) (by kernel_rfl) h3
  obtain ⟨v4,e4,_⟩:=DataW.trod_int (k:=.i64) (by kernel_rfl) h4
  obtain ⟨w5,v5,e5,r5⟩:=cds_open (d:=(xs[5]'(by omega)).1) (p:=(xs[5]'(by omega)).2) h5 (hwe 5 (by omega) _ rfl)
  have z0:[c0]=[.int .u64 v0]:=e0
  injection z0 with y0
  have z1:[c1]=[w1]:=e1
  injection z1 with y1
  have z2:[c2]=[w2]:=e2
  injection z2 with y2
  have z3:[c3]=[.int .i64 v3]:=e3
  injection z3 with y3
  have z4:[c4]=[.int .i64 v4]:=e4
  injection z4 with y4
  have z5:[c5]=[w5]:=e5
  injection z5 with y5
  subst y0 y1 y2 y3 y4 y5
  exact ⟨⟨v0,v1,v2,v3,v4,v5⟩,c1,c2,c5,rfl,r1,r2,r5⟩
theorem fns_open (h:DataW.trod enc Try.prog w 0 (fun _=>true) true n 24 cs=some (d,p)) (hw:Wt 24 d):∃ v l,cs=[v]∧FnsR false (wC w) v l :=
  open_sl (size:=6) (bs:=96) (R:=FnR1 false (wC w)) (e:=45) (by kernel_rfl) (by kernel_rfl) (by decide) (by kernel_rfl) fn_len (fun _ _ _ _ hl h hw=>fn_open hl h hw) h hw
theorem mod_open (hl:cs.length=4) (h:DataW.trod enc Try.prog w 0 (fun _=>true) true n 26 cs=some (d,p)) (hw:Wt 26 d):∃ m:MoM,MoR false (wC w) (.agg cs.toArray) m:=by
  obtain ⟨c0,c1,c2,c3,rfl⟩:∃ c0 c1 c2 c3,cs=[c0,c1,c2,c3]:=by
    match cs,hl with
    | [c0,c1,c2,c3],_=>exact ⟨c0,c1,c2,c3,rfl⟩
  obtain ⟨xs,n',rfl,hx,_,hlen,hf⟩:=DataW.trod_struct Try.underlying26 h
  have h0:=hf 0 _ rfl
  have h1:=hf 1 _ rfl
  have h2:=hf 2 _ rfl
  have h3:=hf 3 _ rfl
  injection hx with hd _
  subst hd
  have lk:xs.length=4:=hlen
  have hwe:∀ j (hj:j<4) t,([22,23,22,24]:List TypeId)[j]?=some t→Wt t (xs[j]'(by omega)).1:=fun j hj t ht x hx=>hw x (by
    simp only [DataW.weights,Try.underlying26]
    refine DataW.weights_mem_each (j:=j) (t:=t) ?_ ?_ x hx
    · exact ht
    · rw [List.getElem?_map,List.getElem?_eq_getElem (by omega)];rfl)
  rw [List.getElem?_eq_getElem (by omega)] at h0 h1 h2 h3
  obtain ⟨w0,v0,e0,r0⟩:=las_open (d:=(xs[0]'(by omega)).1) (p:=(xs[0]'(by omega)).2) h0 (hwe 0 (by omega) _ rfl)
  obtain ⟨w1,v1,e1,r1⟩:=ars_open (d:=(xs[1]'(by omega)).1) (p:=(xs[1]'(by omega)).2) h1 (hwe 1 (by omega) _ rfl)
  obtain ⟨w2,v2,e2,r2⟩:=las_open (d:=(xs[2]'(by omega)).1) (p:=(xs[2]'(by omega)).2) h2 (hwe 2 (by omega) _ rfl)
  obtain ⟨w3,v3,e3,r3⟩:=fns_open (d:=(xs[3]'(by omega)).1) (p:=(xs[3]'(by omega)).2) h3 (hwe 3 (by omega) _ rfl)
  have z0:[c0]=[w0]:=e0
  injection z0 with y0
  have z1:[c1]=[w1]:=e1
  injection z1 with y1
  have z2:[c2]=[w2]:=e2
  injection z2 with y2
  have z3:[c3]=[w3]:=e3
  injection z3 with y3
  subst y0 y1 y2 y3
  exact ⟨⟨v0,v1,v2,v3⟩,c0,c1,c2,c3,rfl,r0,r1,r2,r3⟩
end
end Go.Proofs.Ythjkbfamkogoiaa
namespace Go.Proofs.Ythjkbfamkogoiaa
open Go Go.RowKit Go.Proofs.Mm Go.ChangeShapes Go.WideShapes Go.ChangeAt
set_option maxRecDepth 100000 in
theorem in_mod {H:Type} {enc:TypeId × Value→H} {W:World} {b0:Nat} {v:Value} {d:DataW H} {ps:List MemPlace} (hval:Value.okWide Try.prog W .any b0 26 v) (hd:DataW.Trod enc Try.prog W 0 (fun _=>true) true 26 v d ps) (hw:Wt 26 d) :
    ∃ m:MoM,MoR false (wC W) v m:=by
  obtain ⟨cs0,rfl,hcs⟩:=okWide_struct Try.underlying26 hval
  obtain ⟨fuel,hf⟩:=hd
  have hc4:cs0.toList.length=4:=by rw [Array.length_toList,hcs];kernel_rfl
  obtain ⟨m,hm⟩:=mod_open hc4 hf hw
  exact ⟨m,by rw [Array.toArray_toList] at hm;exact hm⟩
end Go.Proofs.Ythjkbfamkogoiaa
namespace Go.Proofs.Ythjkbfamkogoiaa
open Go Go.RowKit Go.Proofs.Mm Go.Sort
theorem infoOf {P:Program} {t:TypeId} {z:Value} {size bytes:Nat} (h:(P.info? t).map (fun i=>(i.zero,i.size,i.bytes))=some (some z,size,bytes)):∃ i,P.info? t=some i∧i.zero=some z∧i.size=size∧i.bytes=bytes:=by
  cases hi:P.info? t with
  | none=>rw [hi] at h;cases h
  | some i =>
    rw [hi] at h
    simp only [Option.map_some,Option.some.injEq,Prod.mk.injEq] at h
    exact ⟨i,rfl,h.1,h.2.1,h.2.2⟩
theorem infoL:∃ i,Try.prog.info? 42=some i∧i.zero=some (.int .u64 0)∧i.size=1∧i.bytes=8:=infoOf (by kernel_rfl)
theorem infoA:∃ i,Try.prog.info? 49=some i∧i.zero=some (.agg #[.int .i64 0,.int .u64 0])∧i.size=2∧i.bytes=16:=infoOf (by kernel_rfl)
theorem und_L:Try.prog.underlying 22=some (.slice 42):=by kernel_rfl
theorem und_A:Try.prog.underlying 23=some (.slice 49):=by kernel_rfl
def RowIn (w:World) (q:Option Addr) (n c size:Nat) (cs:List Value):Prop:=cs.length=n * size∧(∀ u ∈ cs,u.oneCell'=true)∧((q=none∧n=0∧c=0) ∨ ∃ ad,q=some ad∧∀ j u,cs[j]?=some u→w.cell? (ad.add j)=some u)
theorem RowIn.le {w w':World} {q:Option Addr} {n c size:Nat} {cs:List Value} (h:RowIn w q n c size cs) (hb:Below w.heap.size w w'):RowIn w' q n c size cs :=
  ⟨h.1,h.2.1,h.2.2.imp id fun ⟨ad,e,hc⟩=>⟨ad,e,fun j u hu=>cell_b (hc j u hu) hb⟩⟩
theorem grown_refl (w:World) (r:Option Nat):w.grownBy w r:=⟨rfl,rfl,rfl,Nat.le_refl _,fun _ _ _=>rfl⟩
theorem wpList_app {ops:Array Oper} {rest:List Oper} {o:Oper} {a:Act} {Q:Exit→Act→World→Prop} {w:World} (hgd:o.guard=none) (s x:Operand) (t:TypeId)
    (ho:o.op=.call { callee:=.builtin .append,args:=#[s,x],argTypes:=#[t,t] })
    (base:Nat) (e:TypeId) (z:Value) (size bytes:Nat) (ht:Try.prog.underlying t=some (.slice e)) (hi:∃ i,Try.prog.info? e=some i∧i.zero=some z∧i.size=size∧i.bytes=bytes) (hzs:z.cells.size=size) (hsz:0<size)
    (v:Value) (n:Nat) (xs:List Value) (hs:a.eval s=v) (hown:w.ownsRow base e size v n xs)
    (q:Option Addr) (m c:Nat) (news:List Value) (hx:a.eval x=.slice q m c) (hr:RowIn w q m c size news)
    (h63:n+m≤maxLen) (hbytes:(n+m) * bytes≤140737488355328) (hbase:base≤w.heap.size)
    (h:∀ v' w',w'.ownsRow base e size v' (n+m) (xs++news)→w.grownBy w' v.ownBlock→wpList Try.prog ops Q rest (a.put o.dst v') w'):wpList Try.prog ops Q (o :: rest) a w:=by
  obtain ⟨i,i1,i2,i3,i4⟩:=hi
  obtain ⟨hl,h1,⟨rfl,rfl,rfl⟩ | ⟨ad,rfl,hc⟩⟩:=hr
  · have hn:news=[]:=List.eq_nil_of_length_eq_zero (by rw [hl];omega)
    subst hn
    refine wpList_append_own_none hgd s x t ho base e i size ht i1 v n xs hs hown hx ?_
    exact h v w (by simpa using hown) (grown_refl _ _)
  · exact wpList_append_own w hgd s x t ho base e i z size bytes ht i1 i2 i3 i4 hzs hsz v n xs hs hown ad m c news hx hl hc h1 h63 hbytes hbase fun v' w' a b _=>h v' w' a b
theorem one_enc {α:Type} {R:List Value→α→Prop} (hR:∀ c x,R c x→∀ u ∈ c,u.oneCell'=true):∀ {l:List α} {cs:List Value},Enc R cs l→∀ u ∈ cs,u.oneCell'=true
  | [],cs,e,u,hu=>by
    obtain rfl:cs=[]:=e
    cases hu
  | x :: l,cs,⟨c,r,e,h1,h2⟩,u,hu=>by
    subst e
    rcases List.mem_append.1 hu with hu | hu
    · exact hR c x h1 u hu
    · exact one_enc hR h2 u hu
theorem la_one (c:List Value) (x:Int) (h:laR c x):∀ u ∈ c,u.oneCell'=true:=by rw [h];intro u hu;simp at hu;subst hu;rfl
theorem ar_one (c:List Value) (x:Int × Int) (h:arR c x):∀ u ∈ c,u.oneCell'=true:=by rw [h];intro u hu;simp at hu;rcases hu with rfl | rfl <;> rfl
end Go.Proofs.Ythjkbfamkogoiaa
