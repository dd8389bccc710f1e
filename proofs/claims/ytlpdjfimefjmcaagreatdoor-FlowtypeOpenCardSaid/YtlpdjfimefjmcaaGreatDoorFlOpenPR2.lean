/- Plain: of a row of n tokens every fault's place is one of them, or the end; a reader never runs out of rounds, and stands within the row. Plain: where blocks end (P5.3), statement by statement; it is told just if they nest. Plain: where blocks end, as a row of the open ones alone keeps it (an if sta -/
import Derived.Test.YtlpdjfimefjmcaaGreatDoorFlOpenPR1
import Derived.Test.YtlpdjfimefjmcaaGreatDoorProg
import Derived.WalkKit
import Derived.WalkLawsBesides
import Derived.Outline
import Derived.Lib.Hide
import Derived.LoopTactic
import Derived.Lib.Strings
import Derived.Maps.AppendAt
import Derived.Deep.OwnRows
import Derived.Laws.OwnMore
namespace Go.Proofs.Syn
def Fit {α:Type} (n:Nat):R α→Prop
 | .error e=>(e.1=50∨e.1=10∨e.1=74∨e.1=51)∧e.2≤n
 | .ok x=>x.2≤n
theorem Fit.on {α β:Type} {n:Nat} {r:R α} {f:α→Nat→R β} (h:Fit n r) (hf:∀x j,r=.ok (x,j)→j≤n→Fit n (f x j)):Fit n (r.on f):=by
 match r,h,hf with
 | .error e,h,_=>exact h
 | .ok (x,j),h,hf=>exact hf x j rfl h
theorem Fit.ok {α:Type} {n j:Nat} (x:α) (h:j≤n):Fit n (.ok (x,j):R α):=h
theorem Fit.err {α:Type} {n j:Nat} (h:j≤n):Fit n (.error (50,j):R α):=⟨.inl rfl,h⟩
theorem Fit.sw {α:Type} {n:Nat} {c:Prop} [Decidable c] {a b:R α} (ha:c→Fit n a) (hb:¬c→Fit n b):Fit n (if c then a else b):=by
 split
 ·rename_i h;exact ha h
 ·rename_i h;exact hb h
section
variable {T:Nat→Option K} {F n:Nat} (hN:∀i,n≤i→T i=none)
include hN
theorem is_lt {i:Nat} {s:List Nat} (h:is T i s=true):i<n:=by
 by_cases hi:n≤i
 ·unfold is at h;rw [hN i hi] at h;cases h
 ·omega
theorem named_lt {i:Nat} (h:named T i=true):i<n:=by
 by_cases hi:n≤i
 ·unfold named at h;rw [hN i hi] at h;cases h
 ·omega
theorem some_lt {i:Nat} {k:K} (h:T i=some k):i<n:=by
 by_cases hi:n≤i
 ·rw [hN i hi] at h;cases h
 ·omega
theorem opOf_lt {i:Nat} {ms:List (List Nat × Nat)} (h:opOf T ms i≠0):i<n:=by
 unfold opOf at h
 split at h
 ·rename_i x hx
  exact is_lt hN (s:=x.1) (by simpa using List.find?_some hx)
 ·exact absurd rfl h
theorem want_fit {i:Nat} (s:List Nat) (h:i≤n):Fit n (want T i s):=Fit.sw (fun hc=>Fit.ok _ (is_lt hN hc)) (fun _=>Fit.err h)
theorem name_fit {i:Nat} (h:i≤n):Fit n (name T i):=by
 unfold name;split
 ·rename_i k hk
  exact Fit.sw (fun _=>Fit.ok _ (some_lt hN hk)) (fun _=>Fit.err h)
 ·exact Fit.err h
theorem number_fit {i:Nat} (h:i≤n):Fit n (number T i):=by
 unfold number;split
 ·rename_i k hk
  exact Fit.sw (fun _=>Fit.ok _ (some_lt hN hk)) (fun _=>Fit.err h)
 ·exact Fit.err h
theorem labelF_fit (ns:List (List Nat)):∀(f l i:Nat),i≤n→n<f+i→Fit n (labelF T ns f l i)
 | 0,_,_,h,hf=>by omega
 | f+1,l,i,h,hf=>by
  rw [labelF];split
  ·rename_i k hk
   have:=some_lt hN hk
   exact Fit.sw (fun _=>Fit.sw (fun _=>labelF_fit ns f _ _ (by omega) (by omega)) (fun _=>⟨.inr (.inl rfl),h⟩)) (fun _=>Fit.ok _ h)
  ·exact Fit.ok _ h
theorem label_fit (hF:n<F) (ns:List (List Nat)) {i:Nat} (h:i≤n):Fit n (label T F ns i) :=
 (want_fit hN _ h).on fun _ _ _ h=>(labelF_fit hN ns F 0 _ h (by omega)).on fun _ _ _ h=>(want_fit hN _ h).on fun _ _ _ h=>Fit.ok _ h
theorem decl_fit (hF:n<F) (ns:List (List Nat)) {i:Nat} (h:i≤n):Fit n (decl T F ns i) :=
 (name_fit hN h).on fun _ _ _ h=>(label_fit hN hF ns h).on fun _ _ _ h=>Fit.ok _ h
def FitP {α:Type} (n:Nat) (p:Nat→R α):Prop:=∀i,i≤n→Fit n (p i)∧∀x j,p i=.ok (x,j)→i≤j
theorem loop_fit {p:Nat→R (List Tm)} (hp:FitP n p) (ms:List (List Nat × Nat)):∀(f:Nat) (l:List Tm) (i:Nat),i≤n→n<f+i→Fit n (loopF T p ms f l i)
 | 0,_,_,h,hf=>by omega
 | f+1,l,i,h,hf=>by
  rw [loopF]
  refine Fit.sw (fun _=>Fit.ok _ h) fun ho=>?_
  have:=opOf_lt hN ho
  exact (hp (i+1) this).1.on fun r j hr hj=>loop_fit hp ms f _ j hj (by have:=(hp (i+1) this).2 _ _ hr;omega)
theorem tower_fit (hF:n<F) {u:Nat→R (List Tm)} (hu:FitP n u):∀k,FitP n (tower T F u k)
 | 0=>hu
 | k+1=>fun i hi=>by
  have hk:=tower_fit hF hu k
  refine ⟨?_,fun x j hx=>?_⟩
  ·rw [tower]
   exact (hk i hi).1.on fun l j _ hj=>loop_fit hN hk _ F l j hj (by omega)
  ·rw [tower] at hx
   obtain ⟨l,j1,h1,h2⟩:=R.on_ok hx
   have a:=(hk i hi).2 _ _ h1
   have hj1:j1≤n:=by have:=(hk i hi).1;rw [h1] at this;exact this
   have b:∀(f:Nat) (l:List Tm) (i:Nat) (l':List Tm) (j:Nat),i≤n→loopF T (tower T F u k) (marks (5 - k)) f l i=.ok (l',j)→i≤j:=by
    intro f
    induction f with
    | zero=>intro l i l' j _ h;cases h
    | succ f ih =>
     intro l i l' j hi h
     rw [loopF] at h
     split at h
     ·injection h with h;injection h with _ h;omega
     ·rename_i ho
      have hlt:=opOf_lt hN ho
      obtain ⟨r,i2,h3,h4⟩:=R.on_ok h
      have c:=(hk (i+1) hlt).2 _ _ h3
      have hi2:i2≤n:=by have:=(hk (i+1) hlt).1;rw [h3] at this;exact this
      have:=ih _ _ _ _ hi2 h4
      omega
   have:=b _ _ _ _ _ hj1 h2
   omega
theorem unOps_fit:∀(f i:Nat),i≤n→n<f+i→Fit n (unOps T f i)
 | 0,_,h,hf=>by omega
 | f+1,i,h,hf=>by
  rw [unOps]
  refine Fit.sw (fun _=>Fit.ok _ h) fun ho=>?_
  have:=opOf_lt hN ho
  exact (unOps_fit f (i+1) this (by omega)).on fun _ _ _ hj=>Fit.ok _ hj
theorem brack_fit {e:Option (Nat→R (List Tm))} (he:∀p,e=some p→FitP n p) (g:List Tm→List Tm) (s:List Nat) {i:Nat} (h:i<n):Fit n (brack T e g s i):=by
 unfold brack;split
 ·exact ⟨.inr (.inr (.inr rfl)),by show i≤n;omega⟩
 ·exact (he _ rfl (i+1) h).1.on fun _ _ _ hj=>(want_fit hN _ hj).on fun _ _ _ hj=>Fit.ok _ hj
theorem atom_fit {e:Option (Nat→R (List Tm))} (he:∀p,e=some p→FitP n p) {i:Nat} (h:i≤n):Fit n (atom T e i):=by
 unfold atom;split
 ·exact Fit.err h
 ·rename_i k hk
  exact Fit.sw (fun _=>Fit.ok _ (some_lt hN hk)) fun _=>Fit.sw (fun hi=>brack_fit hN he _ _ (is_lt hN hi)) fun _ =>
   (name_fit hN h).on fun s j _ hj=>Fit.sw (fun hi=>brack_fit hN he _ _ (is_lt hN hi)) fun _=>Fit.ok _ hj
theorem unary_fit (hF:n<F) {e:Option (Nat→R (List Tm))} (he:∀p,e=some p→FitP n p) (hg:∀p,e=some p→Good p):FitP n (unary T F e):=fun i hi=>by
 refine ⟨?_,fun x j hx=>Nat.le_of_lt (unary_good hg _ _ _ hx).2⟩
 rw [unary_atom]
 exact (unOps_fit hN F i hi (by omega)).on fun _ _ _ hj=>(atom_fit hN he hj).on fun _ _ _ hj=>Fit.ok _ hj
theorem expr_fit (hF:n<F):∀d,FitP n (exprD T F d)
 | 0=>tower_fit hN hF (unary_fit hN hF (fun p h=>by cases h) (fun p h=>by cases h)) 6
 | d+1=>tower_fit hN hF (unary_fit hN hF (fun p h=>by cases h;exact expr_fit hF d) (fun p h=>by cases h;exact expr_good d)) 6
theorem listF_fit {e:Nat→R (List Tm)} (he:FitP n e) (s:List Nat):∀(f:Nat) (l:List (List Tm)) (i:Nat),i≤n→n<f+i→Fit n (listF T e s f l i)
 | 0,_,_,h,hf=>by omega
 | f+1,l,i,h,hf=>by
  rw [listF]
  refine (he i h).1.on fun x j hx hj=>Fit.sw (fun hi=>Fit.ok _ (is_lt hN hi)) fun _=>Fit.sw (fun hi=>listF_fit he s f _ _ (is_lt hN hi) ?_) fun _=>Fit.err hj
  have:=(he i h).2 _ _ hx
  omega
theorem list_fit (hF:n<F) (s:List Nat) {i:Nat} (h:i≤n):Fit n (list T F s i) :=
 Fit.sw (fun hi=>Fit.ok _ (is_lt hN hi)) fun _=>listF_fit hN (expr_fit hN hF 12) s _ _ _ h (by omega)
theorem targetsF_fit:∀(f:Nat) (l:List (List Nat)) (i:Nat),i≤n→n<f+i→Fit n (targetsF T f l i)
 | 0,_,_,h,hf=>by omega
 | f+1,l,i,h,hf=>by
  rw [targetsF]
  exact Fit.sw (fun hi=>(name_fit hN (is_lt hN hi)).on fun s j hs hj=>targetsF_fit f _ j hj (by have:=(name_ok hs).2.1;omega)) fun _=>Fit.ok _ h
theorem stmtsF_fit {s:Nat→R (List St)} (hs:∀i,i≤n→Fit n (s i)) (hg:GoodS s) (e:List Nat):∀(f:Nat) (l:List St) (i:Nat),i≤n→n<f+i→Fit n (stmtsF T s e f l i)
 | 0,_,_,h,hf=>by omega
 | f+1,l,i,h,hf=>by
  rw [stmtsF]
  exact Fit.sw (fun hi=>Fit.ok _ (is_lt hN hi)) fun _=>(hs i h).on fun x j hx hj=>stmtsF_fit hs hg e f _ j hj (by have:=(hg _ _ _ hx).2.2;omega)
theorem block_fit (hF:n<F) {s:Option (Nat→R (List St))} (hs:∀p,s=some p→∀i,i≤n→Fit n (p i)) (hg:∀p,s=some p→GoodS p) {i:Nat} (h:i≤n):Fit n (block T F s i):=by
 unfold block;split
 ·exact Fit.sw (fun _=>⟨.inr (.inr (.inr rfl)),h⟩) fun _=>Fit.err h
 ·exact (want_fit hN _ h).on fun _ j _ hj=>stmtsF_fit hN (hs _ rfl) (hg _ rfl) _ F _ j hj (by omega)
theorem call_fit (hF:n<F) (ts:List (List Nat)) (s:List Nat) {i:Nat} (h:i≤n):Fit n (call T F ts s i) :=
 (want_fit hN _ h).on fun _ _ _ h=>(list_fit hN hF _ h).on fun _ _ _ h=>(want_fit hN _ h).on fun _ _ _ h=>Fit.ok _ h
theorem plain_fit (hF:n<F) {i:Nat} (h:i≤n):Fit n (plain T F i) :=
 (name_fit hN h).on fun s j _ h=>Fit.sw
  (fun hi=>(expr_fit hN hF 12 (j+1) (is_lt hN hi)).1.on fun _ _ _ h=>(want_fit hN _ h).on fun _ _ _ h=>(want_fit hN _ h).on fun _ j _ h=>(expr_fit hN hF 12 j h).1.on fun _ _ _ h=>(want_fit hN _ h).on fun _ _ _ h=>Fit.ok _ h)
  fun _=>Fit.sw (fun _=>call_fit hN hF _ _ h) fun _=>(targetsF_fit hN F _ j h (by omega)).on fun ts _ _ h=>(want_fit hN _ h).on fun _ j _ h=>Fit.sw
   (fun _=>(expr_fit hN hF 12 j h).1.on fun _ _ _ h=>(want_fit hN _ h).on fun _ _ _ h=>Fit.ok _ h)
   fun _=>(name_fit hN h).on fun _ _ _ h=>call_fit hN hF _ _ h
theorem stmtOf_fit (hF:n<F) {s:Option (Nat→R (List St))} (hs:∀p,s=some p→∀i,i≤n→Fit n (p i)) (hg:∀p,s=some p→GoodS p) {i:Nat} (h:i≤n):Fit n (stmtOf T F s i) :=
 Fit.sw (fun hi=>(expr_fit hN hF 12 (i+1) (is_lt hN hi)).1.on fun _ _ _ h=>(block_fit hN hF hs hg h).on fun _ _j _ h=>Fit.sw
  (fun hi=>(block_fit hN hF hs hg (is_lt hN hi)).on fun _ _ _ h=>Fit.ok _ h) fun _=>Fit.ok _ h)
  fun _=>Fit.sw (fun hi=>(expr_fit hN hF 12 (i+1) (is_lt hN hi)).1.on fun _ _ _ h=>(block_fit hN hF hs hg h).on fun _ _ _ h=>Fit.ok _ h)
  fun _=>Fit.sw (fun hi=>(name_fit hN (is_lt hN hi)).on fun _ j _ h=>(expr_fit hN hF 12 j h).1.on fun _ _ _ h=>(want_fit hN _ h).on fun _ _ _ h=>Fit.ok _ h)
  fun _=>plain_fit hN hF h
theorem stmt_fit (hF:n<F):∀d i,i≤n→Fit n (stmtD T F d i)
 | 0,_,h=>stmtOf_fit hN hF (fun p h=>by cases h) (fun p h=>by cases h) h
 | d+1,_,h=>stmtOf_fit hN hF (fun p h=>by cases h;exact stmt_fit hF d) (fun p h=>by cases h;exact stmt_good d) h
theorem rowF_fit {α:Type} {p:Nat→R α} (hp:FitP n p):∀(f:Nat) (l:List α) (i:Nat),i≤n→n<f+i→Fit n (rowF T p f l i)
 | 0,_,_,h,hf=>by omega
 | f+1,l,i,h,hf=>by
  rw [rowF]
  refine (hp i h).1.on fun x j hx hj=>Fit.sw (fun hi=>Fit.ok _ (is_lt hN hi)) fun _=>Fit.sw (fun hi=>rowF_fit hp f _ _ (is_lt hN hi) ?_) fun _=>Fit.err hj
  have:=(hp i h).2 _ _ hx
  omega
theorem row_fit (hF:n<F) {α:Type} {p:Nat→R α} (hp:FitP n p) {i:Nat} (h:i≤n):Fit n (row T F p i) :=
 (want_fit hN _ h).on fun _ j _ h=>Fit.sw (fun hi=>Fit.ok _ (is_lt hN hi)) fun _=>rowF_fit hN hp F _ j h (by omega)
omit hN in
theorem on_from {α:Type} {p:Nat→R α} (h:∀i,i≤fin (p i)):∀i x j,p i=.ok (x,j)→i≤j:=fun i x j hx=>by
 have:=h i
 rwa [hx] at this
theorem label_fitP (hF:n<F) (ns:List (List Nat)):FitP n (label T F ns):=fun i hi=>⟨label_fit hN hF ns hi,on_from (fun i=>(label_loc (T':=T) (m:=0) (fun _ _=>rfl) ns i).1) i⟩
theorem decl_fitP (hF:n<F) (ns:List (List Nat)):FitP n (decl T F ns):=fun i hi=>⟨decl_fit hN hF ns hi,on_from (fun i=>(decl_loc (T':=T) (m:=0) (fun _ _=>rfl) ns i).1) i⟩
theorem varsF_fit (hF:n<F) (ns:List (List Nat)):∀(f:Nat) (l:List De) (i:Nat),i≤n→n<f+i→Fit n (varsF T F ns f l i)
 | 0,_,_,h,hf=>by omega
 | f+1,l,i,h,hf=>by
  rw [varsF]
  refine Fit.sw (fun hi=>(decl_fit hN hF ns (is_lt hN hi)).on fun d j hd hj=>(want_fit hN _ hj).on fun _ k hk hkn=>varsF_fit hF ns f _ k hkn ?_) fun _=>Fit.ok _ h
  have:=(decl_fitP hN hF ns (i+1) (is_lt hN hi)).2 _ _ hd
  have:=(want_ok hk).2
  omega
theorem func_fit (hF:n<F) (ns:List (List Nat)) {i:Nat} (h:i≤n):Fit n (func T F ns i) :=
 (name_fit hN h).on fun _ _ _ h=>(label_fit hN hF ns h).on fun _ _ _ h=>(row_fit hN hF (decl_fitP hN hF ns) h).on fun _ _ _ h=>(row_fit hN hF (label_fitP hN hF ns) h).on fun _ _ _ h =>
  (want_fit hN _ h).on fun _ j _ h=>(varsF_fit hN hF ns F _ j h (by omega)).on fun _ j _ h=>(stmtsF_fit hN (stmt_fit hN hF 12) (stmt_good 12) _ F _ j h (by omega)).on fun _ _ _ h =>
   (list_fit hN hF _ h).on fun _ _ _ h=>(want_fit hN _ h).on fun _ _ _ h=>Fit.ok _ h
theorem namesF_fit:∀(f:Nat) (l:List (List Nat)) (i:Nat),i≤n→n<f+i→Fit n (namesF T f l i)
 | 0,_,_,h,hf=>by omega
 | f+1,l,i,h,hf=>by
  rw [namesF]
  exact (name_fit hN h).on fun s j hs hj=>Fit.sw (fun _=>⟨.inr (.inr (.inl rfl)),h⟩) fun _=>Fit.sw (fun _=>namesF_fit f _ j hj (by have:=(name_ok hs).2.1;omega)) fun _=>Fit.ok _ hj
theorem principalsF_fit (hF:n<F):∀(f:Nat) (l:List (List Nat)) (i:Nat),i≤n→n<f+i→Fit n (principalsF T F f l i)
 | 0,_,_,h,hf=>by omega
 | f+1,l,i,h,hf=>by
  rw [principalsF]
  refine Fit.sw (fun hi=>(namesF_fit hN F l (i+1) (is_lt hN hi) (by omega)).on fun d j hd hj=>(want_fit hN _ hj).on fun _ k hk hkn=>principalsF_fit hF f _ k hkn ?_) fun _=>Fit.ok _ h
  have:=on_from (p:=namesF T F l) (fun i=>(namesF_loc (T':=T) (m:=0) (fun _ _=>rfl) F l i).1) _ _ _ hd
  have:=(want_ok hk).2
  omega
theorem declsF_fit (hF:n<F) (ns:List (List Nat)):∀(f:Nat) (s:So) (i:Nat),i≤n→n<f+i→Fit n (declsF T F ns f s i)
 | 0,_,_,h,hf=>by omega
 | f+1,s,i,h,hf=>by
  rw [declsF];split
  ·exact Fit.ok _ h
  ·refine Fit.sw (fun hi=>(decl_fit hN hF ns (is_lt hN hi)).on fun d j hd hj=>(want_fit hN _ hj).on fun _ k hk hkn=>declsF_fit hF ns f _ k hkn ?_) fun _ =>
    Fit.sw (fun hi=>(decl_fit hN hF ns (is_lt hN hi)).on fun d j hd hj=>(want_fit hN _ hj).on fun _ k hk hkn=>declsF_fit hF ns f _ k hkn ?_) fun _ =>
    Fit.sw (fun hi=>(name_fit hN (is_lt hN hi)).on fun nm j hm hj=>(number_fit hN hj).on fun v j2 hv hj2=>(label_fit hN hF ns hj2).on fun l j3 hl hj3=>(want_fit hN _ hj3).on fun _ k hk hkn=>declsF_fit hF ns f _ k hkn ?_) fun _ =>
    Fit.sw (fun hi=>(func_fit hN hF ns (is_lt hN hi)).on fun g j hg hj=>declsF_fit hF ns f _ j hj ?_) fun _=>Fit.err h
   ·have:=(decl_fitP hN hF ns (i+1) (is_lt hN hi)).2 _ _ hd
    have:=(want_ok hk).2
    omega
   ·have:=(decl_fitP hN hF ns (i+1) (is_lt hN hi)).2 _ _ hd
    have:=(want_ok hk).2
    omega
   ·have:=(name_ok hm).2.1
    have:=on_from (p:=number T) (fun i=>(number_loc (T':=T) (m:=0) (fun _ _=>rfl) i).1) _ _ _ hv
    have:=(label_fitP hN hF ns j2 hj2).2 _ _ hl
    have:=(want_ok hk).2
    omega
   ·have:=on_from (p:=func T F ns) (fun i=>(func_loc (T':=T) (m:=0) (fun _ _=>rfl) (by omega) ns i).1) _ _ _ hg
    omega
theorem source_fit (hF:n<F):Fit n (source T F) :=
 (principalsF_fit hN hF F [] 0 (by omega) (by omega)).on fun ns j _ hj=>declsF_fit hN hF ns F _ j hj (by omega)
end
def goE (ks:List Nat):List Nat→Nat→List Nat→List Int→List Int→Option (List Int × List Int)
 | [],_,op,es,ls=>if op=[] then some (es,ls) else none
 | k::r,i,op,es,ls =>
  if k=5∨k=7 then goE ks r (i+1) (i::op) es ls
  else if k=6 then
   match op with
   | t::op=>if ks[t]?=some 5 then goE ks r (i+1) (i::op) es (ls.set t i) else none
   | []=>none
  else if k=8 then
   match op with
   | t::op=>goE ks r (i+1) op (es.set t i) ls
   | []=>none
  else goE ks r (i+1) op es ls
def viaElse (es ls:List Int):List Int:=(es.zip ls).map fun p=>if 0≤p.2 then (es[p.2.toNat]?).getD (-1) else p.1
def endsM (ks:List Nat):Option (List Int × List Int) :=
 (goE ks ks 0 [] (List.replicate ks.length (-1)) (List.replicate ks.length (-1))).map fun p=>(viaElse p.1 p.2,p.2)
theorem goE_nil (ks:List Nat) (i:Nat) (op:List Nat) (es ls:List Int):goE ks [] i op es ls=if op=[] then some (es,ls) else none:=by rw [goE.eq_def]
theorem goE_cons (ks:List Nat) (k:Nat) (r:List Nat) (i:Nat) (op:List Nat) (es ls:List Int):goE ks (k::r) i op es ls =
 if k=5∨k=7 then goE ks r (i+1) (i::op) es ls
 else if k=6 then
  match op with
  | t::op=>if ks[t]?=some 5 then goE ks r (i+1) (i::op) es (ls.set t i) else none
  | []=>none
 else if k=8 then
  match op with
  | t::op=>goE ks r (i+1) op (es.set t i) ls
  | []=>none
 else goE ks r (i+1) op es ls:=by rw [goE.eq_def]
theorem goE_nest (ks:List Nat):∀(r:List Nat) (i:Nat) (op:List Nat) (es ls:List Int),ks.drop i=r →
 ((goE ks r i op es ls).isSome=true↔nest r (op.map fun t=>decide (ks[t]?=some 5))=some [])
 | [],i,op,es,ls,_=>by
  rw [goE_nil,nest]
  cases op with
  | nil=>simp
  | cons t op=>simp
 | k::r,i,op,es,ls,h=>by
  have hk:ks[i]?=some k:=by
   have:=congrArg (fun l=>l[0]?) h
   simpa using this
  have hr:ks.drop (i+1)=r:=by
   rw [←List.drop_drop,h];rfl
  rw [goE_cons]
  by_cases h5:k=5
  ·subst h5
   rw [if_pos (.inl rfl),goE_nest ks r (i+1) _ _ _ hr,List.map_cons,nest_5,hk]
   simp
  by_cases h7:k=7
  ·subst h7
   rw [if_pos (.inr rfl),goE_nest ks r (i+1) _ _ _ hr,List.map_cons,nest_7,hk]
   simp
  rw [if_neg (by omega)]
  by_cases h6:k=6
  ·subst h6
   rw [if_pos rfl]
   cases op with
   | nil=>simp [nest]
   | cons t op =>
    by_cases ht:ks[t]?=some 5
    ·simp only [if_pos ht]
     rw [goE_nest ks r (i+1) _ _ _ hr,List.map_cons,List.map_cons,hk]
     simp only [ht,decide_true]
     rw [nest_6]
     simp
    ·simp only [List.map_cons,ht,decide_false]
     simp [nest]
  rw [if_neg h6]
  by_cases h8:k=8
  ·subst h8
   rw [if_pos rfl]
   cases op with
   | nil=>simp [nest]
   | cons t op =>
    simp only
    rw [goE_nest ks r (i+1) _ _ _ hr,List.map_cons,nest_8]
  ·rw [if_neg h8,goE_nest ks r (i+1) _ _ _ hr,nest.eq_def (k::r)];simp only [if_neg h5,if_neg h7,if_neg h6,if_neg h8]
theorem endsM_nest (ks:List Nat):(endsM ks).isSome=true↔nest ks []=some []:=by
 unfold endsM
 rw [Option.isSome_map]
 exact goE_nest ks ks 0 [] _ _ rfl
def gI (l:List Int) (t:Nat):Int:=(l[t]?).getD (-1)
theorem gI_set (l:List Int) (t:Nat) (v:Int) (s:Nat) (ht:t<l.length):gI (l.set t v) s=if s=t then v else gI l s:=by
 unfold gI
 rw [List.getElem?_set]
 by_cases h:t=s
 ·subst h;simp [ht]
 ·rw [if_neg h,if_neg (Ne.symm h)]
theorem gI_neg (n t:Nat):gI (List.replicate n (-1)) t=-1:=by
 unfold gI
 rw [List.getElem?_replicate]
 split <;> rfl
theorem gI_at {l:List Int} {t:Nat} (h:t<l.length):l[t]?=some (gI l t):=by unfold gI;rw [List.getElem?_eq_getElem h];rfl
theorem gI_via (es ls:List Int) (h:es.length=ls.length) (s:Nat) (hs:s<ls.length):(viaElse es ls)[s]?=some (if 0≤gI ls s then gI es (gI ls s).toNat else gI es s):=by
 unfold viaElse
 rw [List.getElem?_map,(List.getElem?_zip_eq_some (z:=(gI es s,gI ls s))).2 ⟨gI_at (h ▸ hs),gI_at hs⟩]
 rfl
def closeP (E L:List Int) (t i:Nat):List Int:=if 0≤gI L t then (E.set t i).set (gI L t).toNat i else E.set t i
def goP (ks:List Nat):List Nat→Nat→List Nat→List Int→List Int→Option (List Int × List Int)
 | [],_,op,E,L=>if op=[] then some (E,L) else none
 | k::r,i,op,E,L =>
  if k=5∨k=7 then goP ks r (i+1) (i::op) E L
  else if k=6 then
   match op with
   | t::op'=>if ks[t]?=some 5∧gI L t<0 then goP ks r (i+1) (t::op') E (L.set t i) else none
   | []=>none
  else if k=8 then
   match op with
   | t::op'=>goP ks r (i+1) op' (closeP E L t i) L
   | []=>none
  else goP ks r (i+1) op E L
theorem goP_nil (ks:List Nat) (i:Nat) (op:List Nat) (E L:List Int):goP ks [] i op E L=if op=[] then some (E,L) else none:=by rw [goP.eq_def]
theorem goP_cons (ks:List Nat) (k:Nat) (r:List Nat) (i:Nat) (op:List Nat) (E L:List Int):goP ks (k::r) i op E L =
 if k=5∨k=7 then goP ks r (i+1) (i::op) E L
 else if k=6 then
  match op with
  | t::op'=>if ks[t]?=some 5∧gI L t<0 then goP ks r (i+1) (t::op') E (L.set t i) else none
  | []=>none
 else if k=8 then
  match op with
  | t::op'=>goP ks r (i+1) op' (closeP E L t i) L
  | []=>none
 else goP ks r (i+1) op E L:=by rw [goP.eq_def]
structure EI (ks:List Nat) (i:Nat) (op:List Nat) (E L es:List Int):Prop where
 le:E.length=ks.length
 ll:L.length=ks.length
 ls:es.length=ks.length
 hi:i≤ks.length
 via:∀s,gI E s=if 0≤gI L s then gI es (gI L s).toNat else gI es s
 lt:∀t∈op,t<i∧gI es t=-1∧(ks[t]?=some 5∨ks[t]?=some 7)
 ord:op.Pairwise (fun a b=>b<a)
 new:∀j,i≤j→gI es j=-1
 els:∀s,0≤gI L s→(gI L s).toNat<i∧ks[(gI L s).toNat]?=some 6∧ks[s]?=some 5∧s<i
 one:∀s s',0≤gI L s→gI L s=gI L s'→s=s'
def opE (L:List Int) (t:Nat):Nat:=if 0≤gI L t then (gI L t).toNat else t
theorem EI.start (ks:List Nat):EI ks 0 [] (List.replicate ks.length (-1)) (List.replicate ks.length (-1)) (List.replicate ks.length (-1)) :=
 ⟨by simp,by simp,by simp,Nat.zero_le _,fun s=>by simp [gI_neg],by simp,.nil,fun j _=>gI_neg _ _,fun s h=>by rw [gI_neg] at h;omega,fun s s' h=>by rw [gI_neg] at h;omega⟩
theorem EI.skip {ks:List Nat} {i:Nat} {op:List Nat} {E L es:List Int} (h:EI ks i op E L es) (hi:i<ks.length):EI ks (i+1) op E L es :=
 ⟨h.le,h.ll,h.ls,hi,h.via,fun t ht=>⟨by have:=(h.lt t ht).1;omega,(h.lt t ht).2⟩,h.ord,fun j hj=>h.new j (by omega),fun s hs=>by obtain ⟨a,b,c,d⟩:=h.els s hs;exact ⟨by omega,b,c,by omega⟩,h.one⟩
theorem EI.push {ks:List Nat} {i:Nat} {op:List Nat} {E L es:List Int} (h:EI ks i op E L es) (hi:i<ks.length) (hk:ks[i]?=some 5∨ks[i]?=some 7):EI ks (i+1) (i::op) E L es :=
 have h':=h.skip hi
 ⟨h.le,h.ll,h.ls,hi,h.via,fun t ht=>by
  rcases List.mem_cons.1 ht with rfl|ht
  ·exact ⟨by omega,h.new _ (Nat.le_refl _),hk⟩
  ·exact h'.lt t ht,List.pairwise_cons.2 ⟨fun b hb=>(h.lt b hb).1,h.ord⟩,h'.new,h'.els,h.one⟩
theorem EI.put {ks:List Nat} {i t:Nat} {op:List Nat} {E L es:List Int} (h:EI ks i (t::op) E L es) (hi:i<ks.length) (hk:ks[i]?=some 6) (ht:ks[t]?=some 5) (hn:gI L t<0):EI ks (i+1) (t::op) E (L.set t i) es:=by
 obtain ⟨a1,a2,a3⟩:=h.lt t (by simp)
 have hti:t<L.length:=by rw [h.ll];omega
 have hg:∀s,gI (L.set t i) s=if s=t then (i:Int) else gI L s:=fun s=>gI_set L t i s hti
 refine ⟨h.le,by rw [List.length_set];exact h.ll,h.ls,hi,?_,(h.skip hi).lt,h.ord,(h.skip hi).new,?_,?_⟩
 ·intro s
  rw [hg]
  by_cases hs:s=t
  ·subst hs
   rw [if_pos rfl,if_pos (by omega),h.via s,if_neg (by omega),a2]
   rw [show ((i:Int)).toNat=i from by omega,h.new i (Nat.le_refl _)]
  ·rw [if_neg hs];exact h.via s
 ·intro s hs
  rw [hg] at hs ⊢
  by_cases he:s=t
  ·subst he
   rw [if_pos rfl]
   rw [show ((i:Int)).toNat=i from by omega]
   exact ⟨by omega,hk,ht,by omega⟩
  ·rw [if_neg he] at hs ⊢
   exact (h.skip hi).els s hs
 ·intro s s' hs he
  rw [hg] at hs
  rw [hg,hg] at he
  by_cases h1:s=t
  ·by_cases h2:s'=t
   ·omega
   ·rw [if_pos h1,if_neg h2] at he
    have:=(h.els s' (by omega)).1
    omega
  ·rw [if_neg h1] at hs he
   by_cases h2:s'=t
   ·rw [if_pos h2] at he
    have:=(h.els s hs).1
    omega
   ·rw [if_neg h2] at he
    exact h.one s s' hs he
theorem closeP_len (E L:List Int) (t i:Nat):(closeP E L t i).length=E.length:=by unfold closeP;split <;> simp
theorem EI.pop {ks:List Nat} {i t:Nat} {op:List Nat} {E L es:List Int} (h:EI ks i (t::op) E L es) (hi:i<ks.length):EI ks (i+1) op (closeP E L t i) L (es.set (opE L t) i):=by
 obtain ⟨a1,a2,a3⟩:=h.lt t (by simp)
 have hto:opE L t<i:=by
  unfold opE
  split
  ·exact (h.els t (by assumption)).1
  ·exact a1
 have hg:∀s,gI (es.set (opE L t) i) s=if s=opE L t then (i:Int) else gI es s:=fun s=>gI_set es _ i s (by rw [h.ls];omega)
 have h6:∀s,0≤gI L s→∀t',(ks[t']?=some 5∨ks[t']?=some 7)→(gI L s).toNat≠t':=by
  intro s hs t' ht' e
  have:=(h.els s hs).2.1
  rw [e] at this
  rcases ht' with h|h <;> (rw [this] at h;cases h)
 refine ⟨by rw [closeP_len];exact h.le,h.ll,by rw [List.length_set];exact h.ls,hi,?_,?_,(List.pairwise_cons.1 h.ord).2,?_,(h.skip hi).els,h.one⟩
 ·intro s
  rw [hg,hg]
  unfold closeP opE
  by_cases hu:0≤gI L t
  ·simp only [if_pos hu]
   obtain ⟨b1,b2,b3,b4⟩:=h.els t hu
   rw [gI_set _ _ _ _ (by rw [List.length_set,h.le];omega),gI_set _ _ _ _ (by rw [h.le];omega)]
   have hun:gI L (gI L t).toNat<0:=by
    refine Int.not_le.1 fun hc=>?_
    have:=(h.els _ hc).2.2.1
    rw [b2] at this;cases this
   by_cases hs1:s=(gI L t).toNat
   ·subst hs1
    rw [if_pos rfl,if_neg (by omega),if_pos rfl]
   ·rw [if_neg hs1,if_neg hs1]
    by_cases hs2:s=t
    ·subst hs2
     rw [if_pos rfl,if_pos hu,if_pos rfl]
    ·rw [if_neg hs2,h.via s]
     split
     ·rename_i hs
      rw [if_neg]
      intro e
      exact hs2 (h.one s t hs (by omega))
     ·rfl
  ·simp only [if_neg hu]
   rw [gI_set _ _ _ _ (by rw [h.le];omega)]
   by_cases hs2:s=t
   ·subst hs2
    rw [if_pos rfl,if_neg hu,if_pos rfl]
   ·rw [if_neg hs2,if_neg hs2,h.via s]
    split
    ·rename_i hs
     rw [if_neg (h6 s hs t a3)]
    ·rfl
 ·intro t' ht'
  obtain ⟨c1,c2,c3⟩:=h.lt t' (by simp [ht'])
  refine ⟨by omega,?_,c3⟩
  rw [hg,if_neg,c2]
  unfold opE
  split
  ·rename_i hu
   exact fun e=>h6 t hu t' c3 e.symm
  ·have:=(List.pairwise_cons.1 h.ord).1 t' ht'
   omega
 ·intro j hj
  rw [hg,if_neg (by omega)]
  exact h.new j (by omega)
theorem dec_len:∀(op:List Nat) (i:Nat),op.Pairwise (fun a b=>b<a)→(∀t∈op,t<i)→op.length≤i
 | [],_,_,_=>Nat.zero_le _
 | t::op,i,h,hl=>by
  have h1:=dec_len op t (List.pairwise_cons.1 h).2 (List.pairwise_cons.1 h).1
  have h2:=hl t (by simp)
  simp only [List.length_cons]
  omega
theorem EI.len {ks:List Nat} {i:Nat} {op:List Nat} {E L es:List Int} (h:EI ks i op E L es):op.length≤i:=dec_len op i h.ord (fun t ht=>(h.lt t ht).1)
theorem map_opE_put {L:List Int} {t i:Nat} {op:List Nat} (hlt:t<L.length) (ho:∀b∈op,b<t):op.map (opE (L.set t i))=op.map (opE L):=by
 refine List.map_congr_left fun b hb=>?_
 have e:gI (L.set t i) b=gI L b:=by rw [gI_set L t i b hlt,if_neg (by have:=ho b hb;omega)]
 unfold opE
 rw [e]
theorem goP_goE (ks:List Nat):∀(r:List Nat) (i:Nat) (op:List Nat) (E L es:List Int),ks.drop i=r→EI ks i op E L es →
 goP ks r i op E L=(goE ks r i (op.map (opE L)) es L).map fun p=>(viaElse p.1 p.2,p.2)
 | [],i,op,E,L,es,_,h=>by
  rw [goP_nil,goE_nil]
  cases op with
  | nil =>
   simp only [List.map_nil,if_pos,Option.map_some]
   congr 2
   refine List.ext_getElem? fun s=>?_
   by_cases hs:s<ks.length
   ·rw [gI_via es L (by rw [h.ls,h.ll]) s (by rw [h.ll];exact hs),←h.via s]
    exact gI_at (by rw [h.le];exact hs)
   ·rw [List.getElem?_eq_none (by rw [h.le];omega),List.getElem?_eq_none (by unfold viaElse;rw [List.length_map,List.length_zip,h.ls,h.ll];omega)]
  | cons t op=>simp
 | k::r,i,op,E,L,es,hr,h=>by
  have hk:ks[i]?=some k:=by
   have:=congrArg (fun l=>l[0]?) hr
   simpa using this
  have hil:i<ks.length:=(List.getElem?_eq_some_iff.1 hk).1
  have hr':ks.drop (i+1)=r:=by
   rw [←List.drop_drop,hr];rfl
  rw [goP_cons,goE_cons]
  by_cases h57:k=5∨k=7
  ·rw [if_pos h57,if_pos h57]
   have hp:=h.push hil (by rcases h57 with e|e <;> rw [hk,e] <;> simp)
   rw [goP_goE ks r (i+1) (i::op) E L es hr' hp]
   have:opE L i=i:=by
    unfold opE
    rw [if_neg]
    intro hc
    have:=(h.els i hc).2.2.2
    omega
   rw [List.map_cons,this]
  rw [if_neg h57,if_neg h57]
  by_cases h6:k=6
  ·rw [if_pos h6,if_pos h6]
   cases op with
   | nil=>rfl
   | cons t op =>
    obtain ⟨a1,a2,a3⟩:=h.lt t (by simp)
    simp only [List.map_cons]
    by_cases hu:0≤gI L t
    ·have e1:opE L t=(gI L t).toNat:=by unfold opE;rw [if_pos hu]
     rw [if_neg (by omega),e1,if_neg (by rw [(h.els t hu).2.1];simp)]
     rfl
    ·have e1:opE L t=t:=by unfold opE;rw [if_neg hu]
     rw [e1]
     by_cases ht:ks[t]?=some 5
     ·rw [if_pos ⟨ht,by omega⟩,if_pos ht]
      have hp:=h.put hil (by rw [hk,h6]) ht (by omega)
      rw [goP_goE ks r (i+1) (t::op) E (L.set t i) es hr' hp]
      have hti:t<L.length:=by rw [h.ll];omega
      have e2:opE (L.set t i) t=i:=by unfold opE;rw [gI_set L t i t hti,if_pos rfl,if_pos (by omega)];omega
      rw [List.map_cons,e2,map_opE_put hti (List.pairwise_cons.1 h.ord).1]
     ·rw [if_neg (fun c=>ht c.1),if_neg ht]
      rfl
  rw [if_neg h6,if_neg h6]
  by_cases h8:k=8
  ·rw [if_pos h8,if_pos h8]
   cases op with
   | nil=>rfl
   | cons t op =>
    simp only [List.map_cons]
    exact goP_goE ks r (i+1) op _ L _ hr' (h.pop hil)
  ·rw [if_neg h8,if_neg h8]
   exact goP_goE ks r (i+1) op E L es hr' (h.skip hil)
theorem goP_ends (ks:List Nat):goP ks ks 0 [] (List.replicate ks.length (-1)) (List.replicate ks.length (-1))=endsM ks:=by
 rw [goP_goE ks ks 0 [] _ _ _ rfl (EI.start ks)]
 rfl
structure EJ (n i:Nat) (op:List Nat) (E L:List Int):Prop where
 le:E.length=n
 ll:L.length=n
 hi:i≤n
 lt:∀t∈op,t<i
 len:op.length≤i
 els:∀s,s<i→0≤gI L s→(s:Int)<gI L s∧gI L s<i
end Go.Proofs.Syn
namespace Go.Proofs.YtlpdjfimefjmcaaGreatDoor
open Go Go.RowKit Go.Proofs.Mm
theorem cell_of {w:World} {b j:Nat} {arr:Array Value} {T:TypeId} {v:Value} (h:w.heap[b]?=some (.cells arr T (0,0))) (hv:arr[j]?=some v):w.cell? ⟨b,j,none⟩=some v:=by
 rw [cell_of_row w b j arr T (0,0) h];exact hv
theorem free_of {w:World} {b j:Nat} {arr:Array Value} {T:TypeId} (h:w.heap[b]?=some (.cells arr T (0,0))):w.frozen? ⟨b,j,none⟩=false:=by
 simp [World.frozen?,h]
theorem heap_new (w:World) (o:Obj) {k:Nat} {x:Obj} (h:w.heap[k]?=some x):(w.alloc o).heap[k]?=some x:=by
 rw [Below.heap_alloc _ _ _ (heap_lt h)];exact h
theorem heap_set {w:World} {b:Nat} {arr:Array Value} {T:TypeId} (h:w.heap[b]?=some (.cells arr T (0,0))) (j:Nat) (v:Value):(w.setCell ⟨b,j,none⟩ v).heap[b]?=some (.cells (arr.setIfInBounds j v) T (0,0)):=by
 simp only [World.setCell,Array.getElem?_modify,h,Option.map_some,if_true]
 rfl
theorem heap_other {w:World} {b j k:Nat} {v:Value} {x:Obj} (h:w.heap[k]?=some x) (hn:k≠b):(w.setCell ⟨b,j,none⟩ v).heap[k]?=some x:=by
 rw [Below.heap_setCell _ _ _ _ hn];exact h
theorem row_new (W:World) (L:List Value) (T:TypeId):∀(j:Nat) (u:Value),L[j]?=some u→(W.alloc (.cells L.toArray T)).cell? ((⟨W.heap.size,0,none⟩:Addr).add j)=some u:=by
 intro j u h
 rw [show ((⟨W.heap.size,0,none⟩:Addr).add j)=⟨W.heap.size,j,none⟩ from by unfold Addr.add;split <;> simp_all,World.cell?_alloc_new]
 simpa using h
theorem grown_below {B:Nat} {a w w':World} {row:Option Nat} (h:Below B a w) (hB:B≤w.heap.size) (hg:w.grownBy w' row) (hr:∀k,row=some k→B≤k):Below B a w' :=
 h.trans ⟨hg.os,hg.tape,hg.output,hg.size,fun k hk=>hg.block k (Nat.lt_of_lt_of_le hk hB) (fun e=>absurd (hr k e.symm) (by omega))⟩
theorem own_chg {w w':World} {B n size:Nat} {E:TypeId} {v:Value} {xs:List Value} (h:w.ownsRow B E size v n xs) {S:Nat→Prop} (hc:Chg S w w') (hn:∀k,v.ownBlock=some k→¬S k):w'.ownsRow B E size v n xs:=by
 refine ⟨h.1,?_⟩
 rcases h.2 with h0|⟨g,cap,cur,rfl,hb,hg,rest⟩
 ·exact .inl h0
 ·exact .inr ⟨g,cap,cur,rfl,hb,hc.heap hg (hn g rfl),rest⟩
theorem own_shape {w:World} {B n size:Nat} {E:TypeId} {v:Value} {xs:List Value} (h:w.ownsRow B E size v n xs):∃q c,v=.slice q n c:=by
 rcases h.2 with ⟨rfl,rfl⟩|⟨g,cap,cur,rfl,_⟩
 ·exact ⟨_,_,rfl⟩
 ·exact ⟨_,_,rfl⟩
def Enc {α:Type} (R:List Value→α→Prop):List Value→List α→Prop
 | cs,[]=>cs=[]
 | cs,x::xs=>∃c r,cs=c++r∧R c x∧Enc R r xs
theorem Enc.app {α:Type} {R:List Value→α→Prop}:∀{xs ys:List α} {cs ds:List Value},Enc R cs xs→Enc R ds ys→Enc R (cs++ds) (xs++ys)
 | [],ys,cs,ds,h,h'=>by
  obtain rfl:cs=[]:=h
  exact h'
 | x::xs,ys,cs,ds,h,h'=>by
  obtain ⟨c,r,rfl,h1,h2⟩:=h
  exact ⟨c,r++ds,by rw [List.append_assoc],h1,h2.app h'⟩
theorem Enc.one {α:Type} {R:List Value→α→Prop} {c:List Value} {x:α} (h:R c x):Enc R c [x]:=⟨c,[],by simp,h,rfl⟩
theorem Enc.nil {α:Type} {R:List Value→α→Prop}:Enc R [] ([]:List α):=rfl
theorem Enc.mono {α:Type} {R R':List Value→α→Prop} (hR:∀c x,R c x→R' c x):∀{xs:List α} {cs:List Value},Enc R cs xs→Enc R' cs xs
 | [],_,h=>h
 | _::_,_,⟨c,r,e,h1,h2⟩=>⟨c,r,e,hR _ _ h1,h2.mono hR⟩
structure TmZ where
 kind:Int
 value:Int
 name:ByteArray
structure StZ where
 kind:Int
 name:ByteArray
 targets:List ByteArray
 exprs:List (List TmZ)
instance:Inhabited TmZ:=⟨⟨0,0,⟨#[]⟩⟩⟩
instance:Inhabited StZ:=⟨⟨0,⟨#[]⟩,[],[]⟩⟩
abbrev Cl:=Addr→Option Value
def CLe (C D:Cl):Prop:=∀a v,C a=some v→D a=some v
theorem CLe.refl (C:Cl):CLe C C:=fun _ _ h=>h
theorem CLe.trans {A B C:Cl} (h:CLe A B) (k:CLe B C):CLe A C:=fun a v e=>k a v (h a v e)
def wC (w:World):Cl:=fun a=>w.cell? a
def mC (m:Mem):Cl:=fun a=>match m a.block with
 | some (.cells cur _ r)=>if a.spot=none∧r=(0,0) then cur[a.off]? else none
 | _=>none
theorem below_cle {w w':World} (h:Below w.heap.size w w'):CLe (wC w) (wC w'):=fun _ _ e=>(h.cell (World.block_lt_of_cell? _ _ e)).trans e
theorem mle_cle {m m':Mem} (h:m.le m'):CLe (mC m) (mC m'):=by
 intro a v e
 unfold mC at e ⊢
 cases hm:m a.block with
 | none=>rw [hm] at e;cases e
 | some o=>rw [hm] at e;rw [h _ _ hm];exact e
theorem has_cle {w:World} {m:Mem} (h:Has w m):CLe (mC m) (wC w):=by
 intro a v e
 obtain ⟨b,o,s⟩:=a
 unfold mC at e
 simp only at e
 cases hm:m b with
 | none=>rw [hm] at e;cases e
 | some ob =>
  rw [hm] at e
  cases ob with
  | cells cur T r =>
   simp only at e
   split at e
   ·rename_i hs
    obtain ⟨hs,_⟩:=hs
    subst hs
    unfold wC
    rw [cell_of_row w b o cur T r (h _ _ hm)]
    exact e
   ·cases e
  | _=>cases e
def RdO (C:Cl) (q:Option Addr) (cs:List Value):Prop:=cs=[]∨∃g o,q=some ⟨g,o,none⟩∧∀j u,cs[j]?=some u→C ⟨g,o+j,none⟩=some u
theorem RdO.le {C D:Cl} {q:Option Addr} {cs:List Value} (h:RdO C q cs) (hc:CLe C D):RdO D q cs:=by
 rcases h with h|⟨g,o,h1,h2⟩
 ·exact .inl h
 ·exact .inr ⟨g,o,h1,fun j u hu=>hc _ _ (h2 j u hu)⟩
theorem RdO.left {C:Cl} {q:Option Addr} {cs ds:List Value} (h:RdO C q (cs++ds)):RdO C q cs:=by
 rcases h with h|⟨g,o,h1,h2⟩
 ·exact .inl (List.append_eq_nil_iff.1 h).1
 ·exact .inr ⟨g,o,h1,fun j u hu=>h2 j u (by rw [List.getElem?_append_left (by have:=(List.getElem?_eq_some_iff.1 hu).1;exact this)];exact hu)⟩
theorem RowM.rdO {m:Mem} {E:TypeId} {size n c:Nat} {q:Option Addr} {xs:List Value} (h:RowM m E size (.slice q n c) n xs):RdO (mC m) q xs:=by
 obtain ⟨h1,⟨h2,rfl⟩|⟨g,cap,cur,h2,h3,h4,h5,h6,h7⟩⟩:=h
 ·exact .inl (List.eq_nil_of_length_eq_zero (by simpa using h1))
 ·injection h2 with h2 _ _
  refine .inr ⟨g,0,h2,fun j u hu=>?_⟩
  rw [←h7,List.getElem?_take] at hu
  split at hu
  ·unfold mC
   simp only [h3,Nat.zero_add]
   simpa using hu
  ·cases hu
def SlX {α:Type} (mk:List Value) (bs:Nat) (C:Cl) (R:List Value→α→Prop) (v:Value) (l:List α):Prop :=
 ∃q c cs,v=.slice q l.length c∧(mk=[]∨l.length+1≤c)∧RdO C q (cs++mk)∧Enc R cs l∧l.length*bs≤140737488351232∧c≤maxLen∧(q=none→c=0)∧l.length≤c
theorem SlX.mono {α:Type} {mk:List Value} {bs:Nat} {C D:Cl} {R R':List Value→α→Prop} {v:Value} {l:List α} (h:SlX mk bs C R v l) (hc:CLe C D) (hR:∀c x,R c x→R' c x):SlX mk bs D R' v l:=by
 obtain ⟨q,c,cs,h1,h2,h3,h4,h5,h6⟩:=h
 exact ⟨q,c,cs,h1,h2,h3.le hc,h4.mono hR,h5,h6⟩
def tmZ (t:TmZ):List Value:=[.int .i64 t.kind,.int .i64 t.value,.string t.name]
def mkS (lt:Bool):List Value:=if lt then [.string ⟨#[109,97,114,107]⟩] else []
def mkT (lt:Bool):List Value:=if lt then [.int .i64 (-71),.int .i64 0,.string ⟨#[]⟩] else []
def mkE (lt:Bool):List Value:=if lt then [.slice none 0 0] else []
def mkB (lt:Bool):List Value:=if lt then [.int .i64 (-71),.string ⟨#[]⟩,.slice none 0 0,.slice none 0 0] else []
def StrR (lt:Bool) (C:Cl) (v:Value) (l:List ByteArray):Prop:=SlX (mkS lt) 16 C (fun c s=>c=[Value.string s]) v l
def TmsR (lt:Bool) (C:Cl) (v:Value) (l:List TmZ):Prop:=SlX (mkT lt) 32 C (fun c t=>c=tmZ t) v l
def ExR1 (lt:Bool) (C:Cl) (c:List Value) (t:List TmZ):Prop:=∃u,c=[u]∧TmsR lt C u t
def ExsR (lt:Bool) (C:Cl) (v:Value) (l:List (List TmZ)):Prop:=SlX (mkE lt) 24 C (ExR1 lt C) v l
def StR1 (lt:Bool) (C:Cl) (c:List Value) (s:StZ):Prop:=∃vt ve,c=[.int .i64 s.kind,.string s.name,vt,ve]∧StrR lt C vt s.targets∧ExsR lt C ve s.exprs
def BdR (lt:Bool) (C:Cl) (v:Value) (l:List StZ):Prop:=SlX (mkB lt) 72 C (StR1 lt C) v l
section
variable {lt:Bool} {C D:Cl}
theorem StrR.le {v:Value} {l:List ByteArray} (h:StrR lt C v l) (hc:CLe C D):StrR lt D v l:=SlX.mono h hc fun _ _ e=>e
theorem TmsR.le {v:Value} {l:List TmZ} (h:TmsR lt C v l) (hc:CLe C D):TmsR lt D v l:=SlX.mono h hc fun _ _ e=>e
theorem ExR1.le {c:List Value} {l:List TmZ} (h:ExR1 lt C c l) (hc:CLe C D):ExR1 lt D c l:=let ⟨u,e,k⟩:=h;⟨u,e,k.le hc⟩
theorem ExsR.le {v:Value} {l:List (List TmZ)} (h:ExsR lt C v l) (hc:CLe C D):ExsR lt D v l:=SlX.mono h hc fun _ _ e=>e.le hc
theorem StR1.le {c:List Value} {s:StZ} (h:StR1 lt C c s) (hc:CLe C D):StR1 lt D c s:=let ⟨vt,ve,e,a,b⟩:=h;⟨vt,ve,e,a.le hc,b.le hc⟩
theorem BdR.le {v:Value} {l:List StZ} (h:BdR lt C v l) (hc:CLe C D):BdR lt D v l:=SlX.mono h hc fun _ _ e=>e.le hc
end
theorem encZ_at {α:Type} {R:List Value→α→Prop} {size:Nat} (hR:∀c x,R c x→c.length=size):∀{l:List α} {cs:List Value},Enc R cs l→cs.length=l.length*size∧∀j (h:j<l.length),∃c,R c l[j]∧∀r,r<size→cs[j*size+r]?=c[r]?
 | [],cs,he=>by obtain rfl:cs=[]:=he;exact ⟨by simp,fun j h=>absurd h (by simp)⟩
 | x::l,cs,he=>by
  obtain ⟨c,d,rfl,h1,h2⟩:=he
  have hc:=hR _ _ h1
  obtain ⟨h5,h6⟩:=encZ_at hR h2
  refine ⟨by rw [List.length_append,hc,h5,List.length_cons,Nat.succ_mul];omega,fun j h=>?_⟩
  cases j with
  | zero=>exact ⟨c,h1,fun r hr=>by rw [Nat.zero_mul,Nat.zero_add,List.getElem?_append_left (by omega)]⟩
  | succ j =>
   obtain ⟨c',h3,h4⟩:=h6 j (by simpa using h)
   refine ⟨c',h3,fun r hr=>?_⟩
   rw [show (j+1)*size+r=c.length+(j*size+r) by rw [hc,Nat.succ_mul];omega,List.getElem?_append_right (by omega),Nat.add_sub_cancel_left]
   exact h4 r hr
theorem SlX.at {α:Type} {mk:List Value} {bs:Nat} {C:Cl} {R:List Value→α→Prop} {v:Value} {l:List α} {size:Nat} (h:SlX mk (bs+1) C R v l) (hs:0<size) (hR:∀c x,R c x→c.length=size) :
 ∃q c,v=.slice q l.length c∧(mk=[]∨l.length+1≤c)∧l.length≤140737488351232∧c≤maxLen ∧
  (∀j (hj:j<l.length),∃g o e,q=some ⟨g,o,none⟩∧R e l[j]∧∀r u,r<size→e[r]?=some u→C ⟨g,o+(j*size+r),none⟩=some u) ∧
  (mk=[]∨∃g o,q=some ⟨g,o,none⟩∧∀r u,mk[r]?=some u→C ⟨g,o+(l.length*size+r),none⟩=some u):=by
 obtain ⟨q,c,cs,h1,h2,h3,h4,h5,h6,_⟩:=h
 obtain ⟨hl,ha⟩:=encZ_at hR h4
 refine ⟨q,c,h1,h2,Nat.le_trans (Nat.le_mul_of_pos_right _ (Nat.succ_pos _)) h5,h6,fun j hj=>?_,?_⟩
 ·obtain ⟨e,e1,e2⟩:=ha j hj
  have hle:j*size+size≤l.length*size:=by rw [←Nat.succ_mul];exact Nat.mul_le_mul_right _ hj
  rcases h3 with h3|⟨g,o,h3,h7⟩
  ·have:=(List.append_eq_nil_iff.1 h3).1
   rw [this] at hl
   simp only [List.length_nil] at hl
   omega
  ·refine ⟨g,o,e,h3,e1,fun r u hr hu=>h7 _ _ ?_⟩
   rw [List.getElem?_append_left (by omega),e2 r hr]
   exact hu
 ·by_cases hm:mk=[]
  ·exact .inl hm
  ·refine .inr ?_
   rcases h3 with h3|⟨g,o,h3,h7⟩
   ·exact absurd (List.append_eq_nil_iff.1 h3).2 hm
   ·refine ⟨g,o,h3,fun r u hu=>h7 _ _ ?_⟩
    rw [List.getElem?_append_right (by omega),hl,Nat.add_sub_cancel_left]
    exact hu
end Go.Proofs.YtlpdjfimefjmcaaGreatDoor
namespace Go.Proofs.YtlpdjfimefjmcaaGreatDoor
def letterB (c:Nat):Bool:=(97≤c && c≤122) || c == 95
def digitB (c:Nat):Bool:=48≤c && c≤57
def blankB (c:Nat):Bool:=c == 9 || c == 10 || c == 13 || c == 32
def nameB (c:Nat):Bool:=letterB c || digitB c
def keysL:List (List Nat):=[[112,114,105,110,99,105,112,97,108],[103,108,111,98,97,108],[97,114,114,97,121],[99,104,97,110,110,101,108],[102,117,110,99],[118,97,114],[105,102],[101,108,115,101],[119,104,105,108,101],[115,101,110,100],[114,101,116,117,114,110]]
def mark1:List Nat:=[123,125,40,41,91,93,44,59,61,60,43,45,42,47,37,38,124,94,33,126]
def mark2:List (List Nat):=[[61,61],[33,61],[60,61],[60,60],[62,62]]
def wordL:List Nat→Nat × Nat
 | []=>(0,0)
 | c::l =>
  if letterB c then
   let n:=((c::l).takeWhile nameB).length
   (n,if (c::l).take n∈keysL then 2 else 1)
  else if digitB c then (((c::l).takeWhile digitB).length,3)
  else if (c::l).take 2∈mark2 then (2,4)
  else if c∈mark1 then (1,4)
  else (0,0)
theorem wordL_le (l:List Nat):(wordL l).1≤l.length:=by
 cases l with
 | nil=>simp [wordL]
 | cons c l =>
  rw [wordL]
  split
  ·exact (List.takeWhile_sublist _).length_le
  ·split
   ·exact (List.takeWhile_sublist _).length_le
   ·split
    ·rename_i h
     have:((c::l).take 2).length=2:=by
      have:∀m∈mark2,m.length=2:=by decide
      exact this _ h
     rw [List.length_take] at this
     show 2≤_
     omega
    ·split
     ·simp
     ·simp
theorem takeWhile_stop {p:Nat→Bool}:∀(t r:List Nat),(∀x∈t,p x=true)→(∀c,r.head?=some c→p c=false)→(t++r).takeWhile p=t
 | [],r,_,hr=>by
  cases r with
  | nil=>rfl
  | cons c r=>simp [hr c rfl]
 | x::t,r,ht,hr=>by
  rw [List.cons_append,List.takeWhile_cons,if_pos (ht x (List.mem_cons_self ..)),takeWhile_stop t r (fun y hy=>ht y (List.mem_cons_of_mem _ hy)) hr]
theorem mem_takeWhile {p:Nat→Bool}:∀(l:List Nat) (x:Nat),x∈l.takeWhile p→p x=true
 | [],x,h=>absurd h (by simp)
 | c::l,x,h=>by
  rw [List.takeWhile_cons] at h
  split at h
  ·rename_i hc
   rcases List.mem_cons.1 h with rfl|h
   ·exact hc
   ·exact mem_takeWhile l x h
  ·simp at h
theorem takeWhile_is_take {p:Nat→Bool}:∀l:List Nat,l.take (l.takeWhile p).length=l.takeWhile p
 | []=>rfl
 | c::l=>by
  rw [List.takeWhile_cons]
  split
  ·rw [List.length_cons,List.take_succ_cons,takeWhile_is_take l]
  ·rfl
theorem wordL_again (s:List Nat) (h:(wordL s).1≠0) (r:List Nat) (hr:r=[]∨∃r',r=32::r'):wordL (s.take (wordL s).1++r)=wordL s:=by
 cases s with
 | nil=>exact absurd rfl h
 | cons c l =>
  have hb:∀x,r.head?=some x→nameB x=false∧digitB x=false:=by
   intro x hx
   rcases hr with rfl|⟨r',rfl⟩
   ·simp at hx
   ·obtain rfl:32=x:=by simpa using hx
    decide
  by_cases hl:letterB c=true
  ·have hw:wordL (c::l)=(((c::l).takeWhile nameB).length,if (c::l).take ((c::l).takeWhile nameB).length∈keysL then 2 else 1):=by
    rw [wordL,if_pos hl]
   rw [hw]
   simp only
   rw [takeWhile_is_take]
   have hn:nameB c=true:=by unfold nameB;rw [hl];rfl
   have hc:(c::l).takeWhile nameB=c::l.takeWhile nameB:=by rw [List.takeWhile_cons,if_pos hn]
   have hst:((c::l).takeWhile nameB++r).takeWhile nameB=(c::l).takeWhile nameB:=takeWhile_stop _ _ (fun x hx=>mem_takeWhile _ x hx) (fun x hx=>(hb x hx).1)
   rw [hc] at hst ⊢
   rw [List.cons_append] at hst ⊢
   rw [wordL,if_pos hl]
   simp only
   rw [hst,←List.cons_append,List.take_left]
  ·by_cases hd:digitB c=true
   ·have hw:wordL (c::l)=(((c::l).takeWhile digitB).length,3):=by rw [wordL,if_neg hl,if_pos hd]
    rw [hw]
    simp only
    rw [takeWhile_is_take]
    have hc:(c::l).takeWhile digitB=c::l.takeWhile digitB:=by rw [List.takeWhile_cons,if_pos hd]
    have hst:((c::l).takeWhile digitB++r).takeWhile digitB=(c::l).takeWhile digitB:=takeWhile_stop _ _ (fun x hx=>mem_takeWhile _ x hx) (fun x hx=>(hb x hx).2)
    rw [hc] at hst ⊢
    rw [List.cons_append] at hst ⊢
    rw [wordL,if_neg hl,if_pos hd,hst]
   ·by_cases h2:(c::l).take 2∈mark2
    ·have hw:wordL (c::l)=(2,4):=by rw [wordL,if_neg hl,if_neg hd,if_pos h2]
     rw [hw]
     simp only
     obtain ⟨d,l',rfl⟩:∃d l',l=d::l':=by
      cases l with
      | nil=>exact absurd h2 (by simp [mark2])
      | cons d l'=>exact ⟨d,l',rfl⟩
     show wordL (c::d::r)=(2,4)
     rw [wordL,if_neg hl,if_neg hd,if_pos (by exact h2)]
    ·by_cases h1:c∈mark1
     ·have hw:wordL (c::l)=(1,4):=by rw [wordL,if_neg hl,if_neg hd,if_neg h2,if_pos h1]
      rw [hw]
      show wordL (c::r)=(1,4)
      rw [wordL,if_neg hl,if_neg hd,if_neg ?_,if_pos h1]
      rcases hr with rfl|⟨r',rfl⟩
      ·simp [mark2]
      ·simp [mark2]
     ·exact absurd (by rw [wordL,if_neg hl,if_neg hd,if_neg h2,if_neg h1]) h
end Go.Proofs.YtlpdjfimefjmcaaGreatDoor
namespace Go.Proofs.YtlpdjfimefjmcaaGreatDoor
open Go
def bl (s:ByteArray):List Nat:=s.data.toList.map UInt8.toNat
theorem bl_length (s:ByteArray):(bl s).length=s.size:=by simp [bl]
theorem bl_get (s:ByteArray) (i:Nat) (h:i<s.size):(bl s)[i]?=some (s[i]).toNat:=by
 unfold bl
 rw [List.getElem?_map,Array.getElem?_toList,Array.getElem?_eq_getElem (by simpa using h)]
 rfl
theorem bl_inj {s t:ByteArray} (h:bl s=bl t):s=t:=by
 unfold bl at h
 have:=(List.map_inj_right (fun a b e=>UInt8.toNat_inj.1 e)).1 h
 exact ByteArray.ext (Array.toList_inj.1 this)
end Go.Proofs.YtlpdjfimefjmcaaGreatDoor
