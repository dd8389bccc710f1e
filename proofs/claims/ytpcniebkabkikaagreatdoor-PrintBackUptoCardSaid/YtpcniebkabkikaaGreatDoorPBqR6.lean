/- A part of the proof of PrintBack: contracts and plain facts. -/
import Derived.Test.YtpcniebkabkikaaGreatDoorPBqR5
import Derived.Test.YtpcniebkabkikaaGreatDoorPBqR1
import Derived.Test.YtpcniebkabkikaaGreatDoorPBqR2
import Derived.Laws.Bits64b
import Derived.Lib.TrailingZeros
import Derived.Test.YtpcniebkabkikaaGreatDoorProg
import Derived.WalkKit
import Derived.Outline
import Derived.LoopTactic
import Derived.Lib.Hide
import Derived.Shelf.Spec.TrailingZeros
import Derived.RangeFuncNested
import Derived.RangeFuncBound
import Derived.RangeFuncCalls
import Derived.RangeFuncLeaves
import Derived.Shelf.Abstract
import Derived.Shelf.RegionOpen
import Derived.OwnWalkIn
import Derived.TacticsInMore
import Derived.LoopNIn
import Derived.LoopIn
import Derived.WalkSmall
import Derived.Lib.Strings
import Derived.Lib.Small
import Derived.BigQuiet
import Derived.Deep.QuietTactic
import Derived.WalkLawsBesides
import Derived.Laws.NewBlocks
import Derived.Lib.FrozenHead2
import Derived.Lib.OthersKept
import Derived.Test.YtpcniebkabkikaaGreatDoorPBqR4
set_option maxRecDepth 100000
set_option maxHeartbeats 8000000
open Go.Lib (hid)
open Go.Proofs.Tryz
open List renaming length_append → nla, append_assoc → nlb, length_cons → nlk, append_nil → nlf, map_append → nlh
namespace Go.Proofs.Syn
structure Sox where
 principals:List (List Nat)
 globals:List De
 arrays:List Ar
 channels:List De
 funcs:List Fx
def Sox.so (x:Sox):So:=⟨x.principals,x.globals,x.arrays,x.channels,x.funcs.map Fx.fn⟩
structure Sox.Ok (dg:Nat→List Nat) (P:List Nat→Prop) (Q:Nat→Prop) (x:Sox):Prop where
 ps:∀s∈x.principals,P s
 few:x.principals.length≤64
 gs:∀d∈x.globals,P d.name∧LbOk x.principals d.label
 ars:∀a∈x.arrays,P a.name∧Q a.len∧LbOk x.principals a.label
 cs:∀d∈x.channels,P d.name∧LbOk x.principals d.label
 fs:∀f∈x.funcs,f.Ok x.principals dg P Q
def glTk (ns : List (List Nat)) (d : De) : List K := kw2 "global" :: (deTk ns d ++ [mk4 [59]])
def chTk (ns : List (List Nat)) (d : De) : List K := kw2 "channel" :: (deTk ns d ++ [mk4 [59]])
def arTk (ns : List (List Nat)) (dg : Nat → List Nat) (a : Ar) : List K := kw2 "array" :: nm1 a.name :: ⟨3,dg a.len,a.len⟩ :: (lbTk ns a.label ++ [mk4 [59]])
def prTk (ns : List (List Nat)) : List K := if ns = [] then [] else kw2 "principal" :: (ns.map nm1 ++ [mk4 [59]])
def Sox.tk (dg:Nat→List Nat) (x:Sox):List K :=
 prTk x.principals++(x.globals.flatMap (glTk x.principals)++(x.arrays.flatMap (arTk x.principals dg)++(x.channels.flatMap (chTk x.principals)++x.funcs.flatMap (Fx.tk x.principals dg))))
section
variable {T:Nat→Option K} {F:Nat} {dg:Nat→List Nat} {P:List Nat→Prop} {Q:Nat→Prop} {ns:List (List Nat)}
theorem is_none {i:Nat} (h:T i=none) (s:List Nat):is T i s=false:=by unfold is;rw [h]
theorem q4_:∀(f:Nat) (l:List (List Nat)) (s:List Nat) (acc:List (List Nat)) (i:Nat),At T i ((s::l).map nm1++[mk4 [59]])→acc.length+(l.length+1)≤64→l.length<f→namesF T f acc i=.ok (acc++s::l,i+(l.length+1))
 | 0,_,_,_,_,_,_,h=>absurd h (by omega)
 | f+1,l,s,acc,i,hA,h64,hf=>by
  rw [namesF,de_ hA.head]
  show (if acc.length=64 then _ else if named T (i+1)=true then _ else _)=_
  rw [if_neg (by omega)]
  cases l with
  | nil =>
   have hx:T (i+1)=some (mk4 [59]):=hA.tail.head
   rw [if_neg (by unfold named;rw [hx];decide)]
   rfl
  | cons t l =>
   have hx:T (i+1)=some (nm1 t):=hA.tail.head
   rw [if_pos (by unfold named;rw [hx];rfl),q4_ f l t (acc++[s]) (i+1) hA.tail (by simp at h64 ⊢;omega) (by simpa using hf)]
   show (Except.ok _:R (List (List Nat)))=Except.ok _
   rw [nlb,nlk,show i+1+(l.length+1)=i+(l.length+1+1) by omega]
   rfl
theorem zd_ {ns : List (List Nat)} (h64 : ns.length ≤ 64) {i : Nat} (hA : At T i (prTk ns)) (hn : is T (i + (prTk ns).length) (tx "principal") = false) (hF : (prTk ns).length + 1 < F) : principalsF T F F [] i = .ok (ns,i + (prTk ns).length) := by
 obtain ⟨f,rfl⟩:∃f,F=f+1+1:=⟨F - 2,by omega⟩
 cases ns with
 | nil =>
  have hn : is T i (tx "principal") = false := hn
  rw [principalsF,if_neg (by rw [hn];simp)]
  rfl
 | cons s l =>
  have ht : prTk (s :: l) = kw2 "principal" :: ((s :: l).map nm1 ++ [mk4 [59]]) := if_neg (by simp)
  rw [ht] at hA hn hF ⊢
  have hl : (kw2 "principal" :: ((s :: l).map nm1 ++ [mk4 [59]])).length = l.length + 3 := by simp
  rw [hl] at hn hF ⊢
  rw [principalsF,if_pos (by rw [b8_ hA.head];simp),q4_ (f+1+1) l s [] (i+1) hA.tail (by simpa using h64) (by omega)]
  show (want T (i+1+(l.length+1)) [59]).on _=_
  have h2:=hA.tail.right.head
  rw [List.length_map,nlk] at h2
  rw [bn_ h2]
  show principalsF T (f+1+1) (f+1) (s::l) (i+1+(l.length+1)+1)=_
  have e:i+1+(l.length+1)+1=i+(l.length+3):=by omega
  rw [e,principalsF,if_neg (by rw [hn];simp)]
theorem w0_:∀(l:List De) (f:Nat) (s:So) (i:Nat),(∀d∈l,LbOk ns d.label)→At T i (l.flatMap (glTk ns))→(l.flatMap (glTk ns)).length<F →
 declsF T F ns (f+l.length) s i=declsF T F ns f { s with globals:=s.globals++l } (i+(l.flatMap (glTk ns)).length)
 | [],f,s,i,_,_,_=>by simp
 | d::l,f,s,i,hd,hA,hF=>by
  rw [List.flatMap_cons] at hA hF ⊢
  have h1:=hA.left
  unfold glTk at h1
  have hl:(glTk ns d).length=(deTk ns d).length+2:=by simp [glTk]
  rw [nla,hl] at hF ⊢
  have hx:=h1.head
  have h2:=h1.tail.right.head
  have h3:=hA.right
  rw [hl] at h3
  rw [nlk,←Nat.add_assoc,declsF,hx]
  show (if is T i (tx "global") = true then _ else _) = _
  rw [if_pos (by rw [b8_ hx];simp),l7_ (hd d (List.mem_cons_self ..)) h1.tail.left (by omega)]
  show (want T (i+1+(deTk ns d).length) [59]).on _=_
  rw [bn_ h2]
  show declsF T F ns (f+l.length) { s with globals:=s.globals++[d] } (i+1+(deTk ns d).length+1)=_
  have e1:i+1+(deTk ns d).length+1=i+((deTk ns d).length+2):=by omega
  rw [e1,w0_ l f _ _ (fun x h=>hd x (List.mem_cons_of_mem _ h)) h3 (by omega)]
  rw [show i+((deTk ns d).length+2)+(l.flatMap (glTk ns)).length=i+((deTk ns d).length+2+(l.flatMap (glTk ns)).length) by omega]
  simp
theorem w1_:∀(l:List De) (f:Nat) (s:So) (i:Nat),(∀d∈l,LbOk ns d.label)→At T i (l.flatMap (chTk ns))→(l.flatMap (chTk ns)).length<F →
 declsF T F ns (f+l.length) s i=declsF T F ns f { s with channels:=s.channels++l } (i+(l.flatMap (chTk ns)).length)
 | [],f,s,i,_,_,_=>by simp
 | d::l,f,s,i,hd,hA,hF=>by
  rw [List.flatMap_cons] at hA hF ⊢
  have h1:=hA.left
  unfold chTk at h1
  have hl:(chTk ns d).length=(deTk ns d).length+2:=by simp [chTk]
  rw [nla,hl] at hF ⊢
  have hx:=h1.head
  have h2:=h1.tail.right.head
  have h3:=hA.right
  rw [hl] at h3
  rw [nlk,←Nat.add_assoc,declsF,hx]
  show (if is T i (tx "global") = true then _ else if is T i (tx "channel") = true then _ else _) = _
  rw [if_neg (by rw [b8_ hx];decide),if_pos (by rw [b8_ hx];simp),l7_ (hd d (List.mem_cons_self ..)) h1.tail.left (by omega)]
  show (want T (i+1+(deTk ns d).length) [59]).on _=_
  rw [bn_ h2]
  show declsF T F ns (f+l.length) { s with channels:=s.channels++[d] } (i+1+(deTk ns d).length+1)=_
  have e1:i+1+(deTk ns d).length+1=i+((deTk ns d).length+2):=by omega
  rw [e1,w1_ l f _ _ (fun x h=>hd x (List.mem_cons_of_mem _ h)) h3 (by omega)]
  rw [show i+((deTk ns d).length+2)+(l.flatMap (chTk ns)).length=i+((deTk ns d).length+2+(l.flatMap (chTk ns)).length) by omega]
  simp
theorem arr_rd:∀(l:List Ar) (f:Nat) (s:So) (i:Nat),(∀a∈l,LbOk ns a.label)→At T i (l.flatMap (arTk ns dg))→(l.flatMap (arTk ns dg)).length<F →
 declsF T F ns (f+l.length) s i=declsF T F ns f { s with arrays:=s.arrays++l } (i+(l.flatMap (arTk ns dg)).length)
 | [],f,s,i,_,_,_=>by simp
 | a::l,f,s,i,hd,hA,hF=>by
  rw [List.flatMap_cons] at hA hF ⊢
  have h1:=hA.left
  unfold arTk at h1
  have hl:(arTk ns dg a).length=(lbTk ns a.label).length+4:=by simp [arTk]
  rw [nla,hl] at hF ⊢
  have hx:=h1.head
  have hy:=h1.tail.tail.head
  have h2:=h1.tail.tail.tail.right.head
  have h3:=hA.right
  rw [hl] at h3
  have hnum:number T (i+1+1)=.ok (a.len,i+1+1+1):=by unfold number;rw [hy];exact if_pos rfl
  rw [nlk,←Nat.add_assoc,declsF,hx]
  show (if is T i (tx "global") = true then _ else if is T i (tx "channel") = true then _ else if is T i (tx "array") = true then _ else _) = _
  rw [if_neg (by rw [b8_ hx];decide),if_neg (by rw [b8_ hx];decide),if_pos (by rw [b8_ hx];simp),de_ h1.tail.head]
  show (number T (i+1+1)).on _=_
  rw [hnum]
  show (label T F ns (i+1+1+1)).on _=_
  rw [h5_ (hd a (List.mem_cons_self ..)) h1.tail.tail.tail.left (by omega)]
  show (want T (i+1+1+1+(lbTk ns a.label).length) [59]).on _=_
  rw [bn_ h2]
  show declsF T F ns (f+l.length) { s with arrays:=s.arrays++[a] } (i+1+1+1+(lbTk ns a.label).length+1)=_
  have e1:i+1+1+1+(lbTk ns a.label).length+1=i+((lbTk ns a.label).length+4):=by omega
  rw [e1,arr_rd l f _ _ (fun x h=>hd x (List.mem_cons_of_mem _ h)) h3 (by omega)]
  rw [show i+((lbTk ns a.label).length+4)+(l.flatMap (arTk ns dg)).length=i+((lbTk ns a.label).length+4+(l.flatMap (arTk ns dg)).length) by omega]
  simp
theorem q5_:∀(l:List Fx) (f:Nat) (s:So) (i:Nat),(∀x∈l,x.Ok ns dg P Q)→At T i (l.flatMap (Fx.tk ns dg))→(l.flatMap (Fx.tk ns dg)).length<F →
 declsF T F ns (f+l.length) s i=declsF T F ns f { s with funcs:=s.funcs++l.map Fx.fn } (i+(l.flatMap (Fx.tk ns dg)).length)
 | [],f,s,i,_,_,_=>by simp
 | x::l,f,s,i,hd,hA,hF=>by
  rw [List.flatMap_cons] at hA hF ⊢
  have h1:=hA.left
  rw [nla] at hF ⊢
  have hx : T i = some (kw2 "func") := by unfold Fx.tk at h1; exact h1.head
  have h3:=hA.right
  rw [nlk,←Nat.add_assoc,declsF,hx]
  show (if is T i (tx "global") = true then _ else if is T i (tx "channel") = true then _ else if is T i (tx "array") = true then _ else if is T i (tx "func") = true then _ else _) = _
  rw [if_neg (by rw [b8_ hx];decide),if_neg (by rw [b8_ hx];decide),if_neg (by rw [b8_ hx];decide),if_pos (by rw [b8_ hx];simp),func_rd (hd x (List.mem_cons_self ..)) h1 (by omega)]
  show declsF T F ns (f+l.length) { s with funcs:=s.funcs++[x.fn] } (i+(x.tk ns dg).length)=_
  rw [q5_ l f _ _ (fun x h=>hd x (List.mem_cons_of_mem _ h)) h3 (by omega)]
  rw [Nat.add_assoc]
  simp
theorem no_prin {x : Sox} {i : Nat} (hA : At T i (x.globals.flatMap (glTk x.principals) ++ (x.arrays.flatMap (arTk x.principals dg) ++ (x.channels.flatMap (chTk x.principals) ++ x.funcs.flatMap (Fx.tk x.principals dg))))) (he : T (i + (x.globals.flatMap (glTk x.principals) ++ (x.arrays.flatMap (arTk x.principals dg) ++ (x.channels.flatMap (chTk x.principals) ++ x.funcs.flatMap (Fx.tk x.principals dg)))).length) = none) : is T i (tx "principal") = false := by
 obtain ⟨ns,gs,ars,cs,fs⟩:=x
 dsimp only at hA he
 cases gs with
 | cons d gs =>
  have hx : T i = some (kw2 "global") := hA.head
  rw [b8_ hx];decide
 | nil =>
  cases ars with
  | cons d gs =>
   have hx : T i = some (kw2 "array") := hA.head
   rw [b8_ hx];decide
  | nil =>
   cases cs with
   | cons d gs =>
    have hx : T i = some (kw2 "channel") := hA.head
    rw [b8_ hx];decide
   | nil =>
    cases fs with
    | cons d gs =>
     have hx : T i = some (kw2 "func") := hA.head
     rw [b8_ hx];decide
    | nil=>exact is_none he _
theorem ga_ {α:Type} {g:α→List K} (hg:∀x,0<(g x).length):∀(l:List α),l.length≤(l.flatMap g).length
 | []=>by simp
 | x::l=>by
  have ih:=ga_ hg l
  have:=hg x
  rw [List.flatMap_cons,nla,nlk]
  omega
theorem source_rd {x:Sox} (hx:x.Ok dg P Q) (hA:At T 0 (x.tk dg)) (he:T (x.tk dg).length=none) (hF:(x.tk dg).length+1<F):source T F=.ok (x.so,(x.tk dg).length):=by
 have hl:(x.tk dg).length=(prTk x.principals).length+((x.globals.flatMap (glTk x.principals)).length+((x.arrays.flatMap (arTk x.principals dg)).length+((x.channels.flatMap (chTk x.principals)).length+(x.funcs.flatMap (Fx.tk x.principals dg)).length))):=by
  unfold Sox.tk;simp only [nla]
 unfold Sox.tk at hA
 have a1:=hA.right
 have a2:=a1.right
 have a3:=a2.right
 have a4:=a3.right
 have g1:=ga_ (g:=glTk x.principals) (fun d=>by simp [glTk]) x.globals
 have g2:=ga_ (g:=arTk x.principals dg) (fun d=>by simp [arTk]) x.arrays
 have g3:=ga_ (g:=chTk x.principals) (fun d=>by simp [chTk]) x.channels
 have g4:=ga_ (g:=Fx.tk x.principals dg) (fun d=>by simp [Fx.tk]) x.funcs
 have hnp : is T (0 + (prTk x.principals).length) (tx "principal") = false := no_prin a1 (by
  rw [←he];congr 1;rw [hl];simp only [nla];omega)
 unfold source
 rw [zd_ hx.few hA.left hnp (by omega)]
 show declsF T F x.principals F ⟨x.principals,[],[],[],[]⟩ (0+(prTk x.principals).length)=_
 obtain ⟨f,hf⟩:∃f,F=f+1+x.funcs.length+x.channels.length+x.arrays.length+x.globals.length:=⟨F - (1+x.funcs.length+x.channels.length+x.arrays.length+x.globals.length),by omega⟩
 have hd:∀i,declsF T F x.principals F ⟨x.principals,[],[],[],[]⟩ i=declsF T F x.principals (f+1+x.funcs.length+x.channels.length+x.arrays.length+x.globals.length) ⟨x.principals,[],[],[],[]⟩ i:=fun i=>by rw [←hf]
 rw [hd,w0_ x.globals _ _ _ (fun d h=>(hx.gs d h).2) a1.left (by omega),arr_rd x.arrays _ _ _ (fun d h=>(hx.ars d h).2.2) a2.left (by omega),w1_ x.channels _ _ _ (fun d h=>(hx.cs d h).2) a3.left (by omega),q5_ x.funcs _ _ _ hx.fs a4 (by omega)]
 have hend:0+(prTk x.principals).length+(x.globals.flatMap (glTk x.principals)).length+(x.arrays.flatMap (arTk x.principals dg)).length+(x.channels.flatMap (chTk x.principals)).length+(x.funcs.flatMap (Fx.tk x.principals dg)).length=(x.tk dg).length:=by omega
 rw [hend,declsF,he]
 rfl
end
section
variable {T:Nat→Option K} {F:Nat} {dg:Nat→List Nat} {P:List Nat→Prop} {Q:Nat→Prop} {ns:List (List Nat)}
theorem q6_ (hT:TkOk P Q T):∀(f:Nat) (l:List (List Nat)) (i:Nat) (l':List (List Nat)) (j:Nat),(∀s∈l,P s)→l.length≤64→namesF T f l i=.ok (l',j)→(∀s∈l',P s)∧l'.length≤64
 | 0,_,_,_,_,_,_,h=>by cases h
 | f+1,l,i,l',j,hl,h64,h=>by
  rw [namesF] at h
  obtain ⟨s,i1,h1,h⟩:=R.on_ok h
  split at h
  ·cases h
  ·have hl2:∀t∈l++[s],P t:=mem_snoc hl (hk_ hT h1)
   have h642:(l++[s]).length≤64:=by rw [nla,List.length_singleton];omega
   split at h
   ·exact q6_ hT f _ _ _ _ hl2 h642 h
   ·injection h with h;injection h with h _
    rw [←h];exact ⟨hl2,h642⟩
theorem q7_ (hT:TkOk P Q T):∀(f:Nat) (l:List (List Nat)) (i:Nat) (l':List (List Nat)) (j:Nat),(∀s∈l,P s)→l.length≤64→principalsF T F f l i=.ok (l',j)→(∀s∈l',P s)∧l'.length≤64
 | 0,_,_,_,_,_,_,h=>by cases h
 | f+1,l,i,l',j,hl,h64,h=>by
  rw [principalsF] at h
  split at h
  ·obtain ⟨l1,i1,h1,h⟩:=R.on_ok h
   obtain ⟨_,i2,_,h⟩:=R.on_ok h
   obtain ⟨a,b⟩:=q6_ hT F _ _ _ _ hl h64 h1
   exact q7_ hT f _ _ _ _ a b h
  ·injection h with h;injection h with h _
   rw [←h];exact ⟨hl,h64⟩
theorem ze_ (hT:TkOk P Q T) {i j v:Nat} (h:number T i=.ok (v,j)):Q v:=by
 unfold number at h
 split at h
 ·rename_i k hk
  split at h
  ·rename_i h3
   injection h with h;injection h with h _
   rw [←h];exact (hT _ _ hk).2 h3
  ·cases h
 ·cases h
theorem gb_ (hT:TkOk P Q T) {ns:List (List Nat)}:∀(f:Nat) (x:Sox) (i:Nat) (s:So) (j:Nat),x.principals=ns→x.Ok dg P Q→declsF T F ns f x.so i=.ok (s,j)→∃y:Sox,s=y.so∧y.Ok dg P Q
 | 0,_,_,_,_,_,_,h=>by cases h
 | f+1,x,i,s,j,hn,hx,h=>by
  rw [declsF] at h
  split at h
  ·injection h with h;injection h with h _
   exact ⟨x,h.symm,hx⟩
  ·split at h
   ·obtain ⟨d,i1,h1,h⟩:=R.on_ok h
    obtain ⟨_,i2,_,h⟩:=R.on_ok h
    have hd:=l8_ (ns:=ns) hT h1
    exact gb_ hT f { x with globals:=x.globals++[d] } _ _ _ hn ⟨hx.ps,hx.few,mem_snoc hx.gs (by rw [hn];exact hd),hx.ars,hx.cs,hx.fs⟩ h
   ·split at h
    ·obtain ⟨d,i1,h1,h⟩:=R.on_ok h
     obtain ⟨_,i2,_,h⟩:=R.on_ok h
     have hd:=l8_ (ns:=ns) hT h1
     exact gb_ hT f { x with channels:=x.channels++[d] } _ _ _ hn ⟨hx.ps,hx.few,hx.gs,hx.ars,mem_snoc hx.cs (by rw [hn];exact hd),hx.fs⟩ h
    ·split at h
     ·obtain ⟨n,i1,h1,h⟩:=R.on_ok h
      obtain ⟨v,i2,h2,h⟩:=R.on_ok h
      obtain ⟨l,i3,h3,h⟩:=R.on_ok h
      obtain ⟨_,i4,_,h⟩:=R.on_ok h
      have hl:=h6_ (ns:=ns) h3
      exact gb_ hT f { x with arrays:=x.arrays++[⟨n,v,l⟩] } _ _ _ hn ⟨hx.ps,hx.few,hx.gs,mem_snoc hx.ars (by rw [hn];exact ⟨hk_ hT h1,ze_ hT h2,hl⟩),hx.cs,hx.fs⟩ h
     ·split at h
      ·obtain ⟨g,i1,h1,h⟩:=R.on_ok h
       obtain ⟨y,rfl,hy⟩:=func_of (dg:=dg) (ns:=ns) hT h1
       have hm:x.so.funcs++[y.fn]=(x.funcs++[y]).map Fx.fn:=by rw [nlh];rfl
       rw [hm] at h
       exact gb_ hT f { x with funcs:=x.funcs++[y] } _ _ _ hn ⟨hx.ps,hx.few,hx.gs,hx.ars,hx.cs,mem_snoc hx.fs (by rw [hn];exact hy)⟩ h
      ·cases h
theorem source_of (hT:TkOk P Q T) {s:So} {j:Nat} (h:source T F=.ok (s,j)):∃x:Sox,s=x.so∧x.Ok dg P Q:=by
 unfold source at h
 obtain ⟨ns,i1,h1,h⟩:=R.on_ok h
 obtain ⟨a,b⟩:=q7_ hT F [] 0 ns i1 (fun _ h=>by cases h) (by decide) h1
 exact gb_ hT F ⟨ns,[],[],[],[]⟩ i1 s j rfl ⟨a,b,fun _ h=>(by cases h),fun _ h=>(by cases h),fun _ h=>(by cases h),fun _ h=>(by cases h)⟩ h
end
end Go.Proofs.Syn
namespace Go.Proofs.YtpcniebkabkikaaGreatDoor
open Go
open Go.Proofs.Syn (K Ex mk4 nm1 kw2 opLv opMark unMark br)
def Soft (r:List Nat):Prop:=∀x,r.head?=some x→nameB x=false∧∀m∈mark2,m[1]?≠some x
theorem a7_ (t:List Nat) {r:List Nat} (h:Soft r):Sep t r:=by
 cases r with
 | nil=>exact sep_nil t
 | cons x r=>exact qz_ t (h x rfl).1 (h x rfl).2 r
theorem ak_ {x:Nat} (h:nameB x=false∧∀m∈mark2,m[1]?≠some x) (r:List Nat):Soft (x::r):=fun y hy=>by
 obtain rfl:x=y:=by simpa using hy
 exact h
theorem o0_ (s:List Nat) (h:wordL s=(s.length,4)) (hs:s≠[]) (hh:∀c,s.head?=some c→blankB c=false∧c≠35):Good 4 s 0:=⟨h,hs,hh,fun e=>absurd e.1 (by decide),fun e=>absurd e.1 (by decide),rfl⟩
theorem jg_ {k v:Nat} {t:List Nat} (h:Good k t v) (hk:k=1∨k=3):∃x l,t=x::l∧x≠61:=by
 cases t with
 | nil=>exact absurd rfl h.ne
 | cons x l =>
  refine ⟨x,l,rfl,?_⟩
  rintro rfl
  have hw:=h.word
  rw [wordL,if_neg (by decide),if_neg (by decide)] at hw
  split at hw
  ·injection hw with _ h4;omega
  ·split at hw
   ·injection hw with _ h4;omega
   ·injection hw with _ h4;omega
section
variable (dg:Nat→List Nat)
def exIt:Ex→Nat→List Nat→List (List Nat × K)
 | .num v,_,g=>[(g,⟨3,dg v,v⟩)]
 | .nm s,_,g=>[(g,nm1 s)]
 | .idx s e,_,g=>(g,nm1 s)::([],mk4 [91])::(exIt e 0 []++[([],mk4 [93])])
 | .un o e,_,g=>(g,mk4 (unMark o))::exIt e 6 []
 | .bin o l r,lv,g =>
  if opLv o<lv then (g,mk4 [40])::((exIt l (opLv o) []++([32],mk4 (opMark o))::exIt r (opLv o+1) [32])++[([],mk4 [41])])
  else exIt l (opLv o) g++([32],mk4 (opMark o))::exIt r (opLv o+1) [32]
def exText:Ex→Nat→List Nat
 | .num v,_=>dg v
 | .nm s,_=>s
 | .idx s e,_=>s++91::(exText e 0++[93])
 | .un o e,_=>unMark o++exText e 6
 | .bin o l r,lv =>
  if opLv o<lv then 40::(exText l (opLv o)++32::(opMark o++32::exText r (opLv o+1))++[41])
  else exText l (opLv o)++32::(opMark o++32::exText r (opLv o+1))
theorem cp_:∀(e:Ex) (lv:Nat) (g:List Nat),(exIt dg e lv g).map Prod.snd=e.tk dg lv
 | .num v,_,g=>rfl
 | .nm s,_,g=>rfl
 | .idx s e,_,g=>by
  rw [exIt,Ex.tk,List.map_cons,List.map_cons,nlh,cp_ e];rfl
 | .un o e,_,g=>by rw [exIt,Ex.tk,List.map_cons,cp_ e]
 | .bin o l r,lv,g=>by
  rw [exIt,Ex.tk]
  unfold br
  by_cases h:opLv o<lv
  ·rw [if_pos h,if_pos (by simpa using h),List.map_cons,nlh,nlh,List.map_cons,cp_ l,cp_ r];rfl
  ·rw [if_neg h,if_neg (by simpa using h),nlh,List.map_cons,cp_ l,cp_ r]
theorem a8_:∀(e:Ex) (lv:Nat) (g:List Nat),lay (exIt dg e lv g)=g++exText dg e lv
 | .num v,_,g=>by simp [exIt,exText,lay]
 | .nm s,_,g=>by simp [exIt,exText,lay,nm1]
 | .idx s e,_,g=>by
  rw [exIt,exText,lay,lay,aq_,a8_ e];simp [lay,nm1,mk4]
 | .un o e,_,g=>by rw [exIt,exText,lay,a8_ e];simp [mk4]
 | .bin o l r,lv,g=>by
  rw [exIt,exText]
  by_cases h:opLv o<lv
  ·rw [if_pos h,if_pos h,lay,aq_,aq_,lay,a8_ l,a8_ r];simp [lay,mk4]
  ·rw [if_neg h,if_neg h,aq_,lay,a8_ l,a8_ r];simp [mk4]
end
section
variable {dg:Nat→List Nat}
def PN (s:List Nat):Prop:=Good 1 s 0
def QN (dg:Nat→List Nat) (v:Nat):Prop:=Good 3 (dg v) v
theorem un_head:∀o:Fin 18,15≤o.val→(unMark o.val).head?≠some 61∧unMark o.val≠[]:=by decide
theorem jh_:∀(e:Ex) (lv:Nat),e.Wf→e.All PN (QN dg)→∃x l,exText dg e lv=x::l∧x≠61
 | .num v,_,_,h=>jg_ h (.inr rfl)
 | .nm s,_,_,h=>jg_ h (.inl rfl)
 | .idx s e,_,_,h=>by
  obtain ⟨x,l,h1,h2⟩:=jg_ h.1 (.inl rfl)
  exact ⟨x,l++91::(exText dg e 0++[93]),by rw [exText,h1];rfl,h2⟩
 | .un o e,_,hw,h=>by
  obtain ⟨h1,h2⟩:=un_head ⟨o,by have:=hw.2.1;omega⟩ hw.1
  cases hu:unMark o with
  | nil=>exact absurd hu h2
  | cons x l =>
   refine ⟨x,l++exText dg e 6,by rw [exText,hu];rfl,fun hx=>h1 ?_⟩
   show (unMark o).head?=some 61
   rw [hu,hx];rfl
 | .bin o l r,lv,hw,h=>by
  rw [exText]
  split
  ·exact ⟨40,_,rfl,by decide⟩
  ·obtain ⟨x,m,h1,h2⟩:=jh_ l (opLv o) hw.2.2.1 h.1
   exact ⟨x,_,by rw [h1];rfl,h2⟩
theorem w2_:∀o:Fin 15,1≤o.val→wordL (opMark o.val)=((opMark o.val).length,4)∧opMark o.val≠[]∧∀c,(opMark o.val).head?=some c→blankB c=false∧c≠35:=by
 intro o h
 have:∀o:Fin 15,1≤o.val→wordL (opMark o.val)=((opMark o.val).length,4)∧opMark o.val≠[]∧((opMark o.val).head?.map fun c=>(blankB c,decide (c=35)))=some (false,false):=by decide
 obtain ⟨h1,h2,h3⟩:=this o h
 exact ⟨h1,h2,fun c hc=>by rw [hc] at h3;simpa using h3⟩
theorem w3_:∀o:Fin 18,15≤o.val→wordL (unMark o.val)=((unMark o.val).length,4)∧unMark o.val≠[]∧∀c,(unMark o.val).head?=some c→blankB c=false∧c≠35:=by
 intro o h
 have:∀o:Fin 18,15≤o.val→wordL (unMark o.val)=((unMark o.val).length,4)∧unMark o.val≠[]∧((unMark o.val).head?.map fun c=>(blankB c,decide (c=35)))=some (false,false):=by decide
 obtain ⟨h1,h2,h3⟩:=this o h
 exact ⟨h1,h2,fun c hc=>by rw [hc] at h3;simpa using h3⟩
theorem a9_ (c:Nat) (h:wordL [c]=(1,4)∧blankB c=false∧c≠35):Good 4 [c] 0:=o0_ [c] h.1 (by simp) (fun d hd=>by
 obtain rfl:c=d:=by simpa using hd
 exact h.2)
theorem un_sep {o:Nat} (h1:15≤o) (h2:o≤17) {x:Nat} {r:List Nat} (hx:x≠61):Sep (unMark o) (x::r):=by
 have:o=15∨o=16∨o=17:=by omega
 rcases this with rfl|rfl|rfl
 ·exact bq_ (by decide) (by decide) (by decide) _
 ·intro c y hc hy
  obtain rfl:33=c:=by
   have:(some 33:Option Nat)=some c:=hc
   simpa using this
  obtain rfl:x=y:=by simpa using hy
  refine ⟨fun e=>absurd e (by decide),fun e=>absurd e (by decide),fun _ hm=>hx ?_⟩
  have:[33,x]∈([[61,61],[33,61],[60,61],[60,60],[62,62]]:List (List Nat)):=hm
  simpa using this
 ·exact bq_ (by decide) (by decide) (by decide) _
theorem c4_:∀(e:Ex) (lv:Nat) (g r:List Nat),e.Wf→e.All PN (QN dg)→(∀b∈g,blankB b=true)→Soft r→Lays (exIt dg e lv g) r
 | .num v,_,g,r,_,h,hg,hr=>⟨hg,h,a7_ _ hr,trivial⟩
 | .nm s,_,g,r,_,h,hg,hr=>⟨hg,h,a7_ _ hr,trivial⟩
 | .idx s e,_,g,r,hw,h,hg,hr=>by
  refine ⟨hg,h.1,qz_ _ (by decide) (by decide) _,fun _ h=>(by cases h),a9_ 91 (by decide),bq_ (by decide) (by decide) (by decide) _,?_⟩
  exact (a2_ _ _ _).2 ⟨c4_ e 0 [] _ hw h.2 (fun _ h=>by cases h) (ak_ (by decide) _),fun _ h=>(by cases h),a9_ 93 (by decide),a7_ _ hr,trivial⟩
 | .un o e,_,g,r,hw,h,hg,hr=>by
  obtain ⟨x,l,h1,h2⟩:=jh_ (dg:=dg) e 6 hw.2.2 h
  obtain ⟨u1,u2,u3⟩:=w3_ ⟨o,by have:=hw.2.1;omega⟩ hw.1
  refine ⟨hg,o0_ _ u1 u2 u3,?_,c4_ e 6 [] r hw.2.2 h (fun _ h=>by cases h) hr⟩
  rw [a8_,h1]
  exact un_sep hw.1 hw.2.1 h2
 | .bin o l r,lv,g,q,hw,h,hg,hq=>by
  obtain ⟨u1,u2,u3⟩:=w2_ ⟨o,by have:=hw.2.1;omega⟩ hw.1
  have hb:∀b∈([32]:List Nat),blankB b=true:=by decide
  have hbody:∀(g q:List Nat),(∀b∈g,blankB b=true)→Soft q→Lays (exIt dg l (opLv o) g++([32],mk4 (opMark o))::exIt dg r (opLv o+1) [32]) q:=fun g q hg hq =>
   (a2_ _ _ _).2 ⟨c4_ l (opLv o) g _ hw.2.2.1 h.1 hg (ak_ (by decide) _),hb,o0_ _ u1 u2 u3,by rw [a8_];exact ca_ _ (by decide) _,c4_ r (opLv o+1) [32] q hw.2.2.2 h.2 hb hq⟩
  rw [exIt]
  split
  ·exact ⟨hg,a9_ 40 (by decide),bq_ (by decide) (by decide) (by decide) _,(a2_ _ _ _).2 ⟨hbody [] _ (fun _ h=>by cases h) (ak_ (by decide) _),fun _ h=>(by cases h),a9_ 41 (by decide),a7_ _ hq,trivial⟩⟩
  ·exact hbody g q hg hq
end
end Go.Proofs.YtpcniebkabkikaaGreatDoor
namespace Go.Proofs.YtpcniebkabkikaaGreatDoor
open Go
open Go.Proofs.Syn (K Ex Tm opLv opMark unMark b1_)
def lvOf:Ex→Nat
 | .bin o _ _=>opLv o
 | .un _ _=>6
 | _=>7
def opX (a:List Nat × Nat) (lv:Nat):List Nat:=if a.2<lv then 40::(a.1++[41]) else a.1
section
variable (dg:Nat→List Nat)
def stepX (t:Tm) (st:List (List Nat × Nat)):Option (List (List Nat × Nat)) :=
 if t.kind=1 then some ((dg t.value,7)::st)
 else if t.kind=2 then some ((t.name,7)::st)
 else if t.kind=3 then
  match st with
  | a::st=>some ((t.name++91::(a.1++[93]),7)::st)
  | []=>none
 else if t.kind=4 then
  match st with
  | a::st=>some ((unMark t.value++opX a 6,6)::st)
  | []=>none
 else if t.kind=5 then
  match st with
  | b::a::st=>some ((opX a (opLv t.value)++32::(opMark t.value++32::opX b (opLv t.value+1)),opLv t.value)::st)
  | _=>none
 else none
def goX:List Tm→List (List Nat × Nat)→Option (List (List Nat × Nat))
 | [],st=>some st
 | t::l,st=>match stepX dg t st with
  | some st=>goX l st
  | none=>none
def txX (e:Ex):List Nat × Nat:=(exText dg e 0,lvOf e)
theorem kj_ (e:Ex) {lv:Nat} (h:lv≤6):opX (txX dg e) lv=exText dg e lv:=by
 unfold opX txX
 cases e with
 | num v=>rw [if_neg (by show ¬7<lv;omega)];rfl
 | nm s=>rw [if_neg (by show ¬7<lv;omega)];rfl
 | idx s e=>rw [if_neg (by show ¬7<lv;omega)];rfl
 | un o e=>rw [if_neg (by show ¬6<lv;omega)];rfl
 | bin o l r =>
  show (if opLv o<lv then _ else _)=_
  rw [exText,exText,if_neg (by omega:¬opLv o<0)]
structure TmOk (P:List Nat→Prop) (Q:Nat→Prop) (t:Tm):Prop where
 one:t.kind=1→Q t.value∧t.name=[]
 two:t.kind=2→P t.name∧t.value=0
 three:t.kind=3→P t.name∧t.value=0
 four:t.kind=4→15≤t.value∧t.value≤17∧t.name=[]
 five:t.kind=5→1≤t.value∧t.value≤14∧t.name=[]
variable {P:List Nat→Prop} {Q:Nat→Prop}
theorem gc_:∀(e:Ex) (r:List Tm) (st:List (List Nat × Nat)),goX dg (e.flat++r) st=goX dg r (txX dg e::st)
 | .num v,r,st=>rfl
 | .nm s,r,st=>rfl
 | .idx s e,r,st=>by
  rw [Ex.flat,nlb,gc_ e];rfl
 | .un o e,r,st=>by
  rw [Ex.flat,nlb,gc_ e]
  show goX dg r ((unMark o++opX (txX dg e) 6,6)::st)=_
  rw [kj_ dg e (by omega)];rfl
 | .bin o a b,r,st=>by
  have h5:=b1_ o
  rw [Ex.flat,nlb,nlb,gc_ a,gc_ b]
  show goX dg r ((opX (txX dg a) (opLv o)++32::(opMark o++32::opX (txX dg b) (opLv o+1)),opLv o)::st)=_
  rw [kj_ dg a (by omega),kj_ dg b (by omega)]
  unfold txX
  rw [exText,if_neg (by omega)];rfl
theorem e2_:∀(l:List Tm) (es:List Ex) (st:List (List Nat × Nat)),(∀t∈l,TmOk P Q t)→(∀e∈es,e.Wf∧e.All P Q)→goX dg l (es.map (txX dg))=some st →
 ∃es':List Ex,(∀e∈es',e.Wf∧e.All P Q)∧st=es'.map (txX dg)∧es.reverse.flatMap Ex.flat++l=es'.reverse.flatMap Ex.flat
 | [],es,st,_,he,h=>by
  injection h with h
  exact ⟨es,he,h.symm,by simp⟩
 | t::l,es,st,ht,he,h=>by
  obtain ⟨k,v,n⟩:=t
  obtain ⟨h1,h2,h3,h4,h5⟩:=ht _ (List.mem_cons_self ..)
  simp only at h1 h2 h3 h4 h5
  have hl:∀t∈l,TmOk P Q t:=fun t h=>ht t (List.mem_cons_of_mem _ h)
  rw [goX] at h
  by_cases c1:k=1
  ·subst c1
   obtain ⟨q,rfl⟩:=h1 rfl
   have h:goX dg l ((Ex.num v::es).map (txX dg))=some st:=h
   obtain ⟨es',a,b,c⟩:=e2_ l (.num v::es) st hl (fun e hm=>by
    rcases List.mem_cons.1 hm with rfl|hm
    ·exact ⟨trivial,q⟩
    ·exact he e hm) h
   exact ⟨es',a,b,by rw [←c];simp [Ex.flat]⟩
  by_cases c2:k=2
  ·subst c2
   obtain ⟨q,rfl⟩:=h2 rfl
   have h:goX dg l ((Ex.nm n::es).map (txX dg))=some st:=h
   obtain ⟨es',a,b,c⟩:=e2_ l (.nm n::es) st hl (fun e hm=>by
    rcases List.mem_cons.1 hm with rfl|hm
    ·exact ⟨trivial,q⟩
    ·exact he e hm) h
   exact ⟨es',a,b,by rw [←c];simp [Ex.flat]⟩
  by_cases c3:k=3
  ·subst c3
   obtain ⟨q,rfl⟩:=h3 rfl
   cases es with
   | nil=>cases h
   | cons x es =>
    have h:goX dg l ((Ex.idx n x::es).map (txX dg))=some st:=h
    obtain ⟨es',a,b,c⟩:=e2_ l (.idx n x::es) st hl (fun e hm=>by
     rcases List.mem_cons.1 hm with rfl|hm
     ·exact ⟨(he x (List.mem_cons_self ..)).1,q,(he x (List.mem_cons_self ..)).2⟩
     ·exact he e (List.mem_cons_of_mem _ hm)) h
    exact ⟨es',a,b,by rw [←c];simp [Ex.flat]⟩
  by_cases c4:k=4
  ·subst c4
   obtain ⟨q1,q2,rfl⟩:=h4 rfl
   cases es with
   | nil=>cases h
   | cons x es =>
    have h:goX dg l ((unMark v++opX (txX dg x) 6,6)::es.map (txX dg))=some st:=h
    rw [kj_ dg x (by omega)] at h
    have h:goX dg l ((Ex.un v x::es).map (txX dg))=some st:=h
    obtain ⟨es',a,b,c⟩:=e2_ l (.un v x::es) st hl (fun e hm=>by
     rcases List.mem_cons.1 hm with rfl|hm
     ·exact ⟨⟨q1,q2,(he x (List.mem_cons_self ..)).1⟩,(he x (List.mem_cons_self ..)).2⟩
     ·exact he e (List.mem_cons_of_mem _ hm)) h
    exact ⟨es',a,b,by rw [←c];simp [Ex.flat]⟩
  by_cases c5:k=5
  ·subst c5
   obtain ⟨q1,q2,rfl⟩:=h5 rfl
   have hv:=b1_ v
   cases es with
   | nil=>cases h
   | cons y es =>
    cases es with
    | nil=>cases h
    | cons x es =>
     have h:goX dg l ((opX (txX dg x) (opLv v)++32::(opMark v++32::opX (txX dg y) (opLv v+1)),opLv v)::es.map (txX dg))=some st:=h
     rw [kj_ dg x (by omega),kj_ dg y (by omega)] at h
     have ht:txX dg (.bin v x y)=(exText dg x (opLv v)++32::(opMark v++32::exText dg y (opLv v+1)),opLv v):=by
      unfold txX;rw [exText,if_neg (by omega)];rfl
     rw [←ht] at h
     have h:goX dg l ((Ex.bin v x y::es).map (txX dg))=some st:=h
     obtain ⟨es',a,b,c⟩:=e2_ l (.bin v x y::es) st hl (fun e hm=>by
      rcases List.mem_cons.1 hm with rfl|hm
      ·have hx:=he x (by simp)
       have hy:=he y (by simp)
       exact ⟨⟨q1,q2,hx.1,hy.1⟩,hx.2,hy.2⟩
      ·exact he e (by simp [hm])) h
     exact ⟨es',a,b,by rw [←c];simp [Ex.flat]⟩
  ·have hn:stepX dg ⟨k,v,n⟩ (es.map (txX dg))=none:=by
    unfold stepX
    rw [if_neg c1,if_neg c2,if_neg c3,if_neg c4,if_neg c5]
   rw [hn] at h
   cases h
theorem goX_one {l:List Tm} {x:List Nat × Nat} (ht:∀t∈l,TmOk P Q t) (h:goX dg l []=some [x]):∃e:Ex,(e.Wf∧e.All P Q)∧l=e.flat∧x=(exText dg e 0,lvOf e):=by
 obtain ⟨es,h1,h2,h3⟩:=e2_ dg l [] [x] ht (fun _ h=>by cases h) h
 match es,h2 with
 | [e],h2 =>
  injection h2 with h2
  exact ⟨e,h1 e (List.mem_cons_self ..),by simpa using h3,h2⟩
end
abbrev Pt:=List Nat × Nat
section
variable (dg:Nat→List Nat)
def ptsOf (t:Tm):List Pt :=
 if t.kind=1 then [(dg t.value,7)]
 else if t.kind=2 then [(t.name,7)]
 else if t.kind=3 then [(t.name,7),([91],7),([],0),([93],7)]
 else if t.kind=4 then [(unMark t.value,7),([],6)]
 else [([],opLv t.value),([32],7),(opMark t.value,7),([32],7),([],opLv t.value+1)]
def lvT (t:Tm):Nat:=if t.kind=5 then opLv t.value else if t.kind=4 then 6 else 7
def brT (lv:Nat) (t:Tm):List Pt:=if lv≤lvT t then ptsOf dg t else ([40],7)::(ptsOf dg t++[([41],7)])
def runB:Nat→List Pt→List Tm→List (List Nat)→Option (List (List Nat))
 | 0,_,_,_=>none
 | _+1,[],_,out=>some out
 | f+1,p::row,rl,out =>
  if p.1≠[] then runB f row rl (out++[p.1])
  else match rl with
   | []=>none
   | t::rl=>runB f ((brT dg p.2 t).reverse++row) rl out
def Does (ps:List Pt) (ts:List Tm) (pcs:List (List Nat)):Prop:=∃n,∀f row rl out,runB dg (n+f) (ps++row) (ts++rl) out=runB dg f row rl (out++pcs)
variable {dg}
theorem cf_ {s:List Nat} (hs:s≠[]) (lv:Nat):Does dg [(s,lv)] [] [s]:=⟨1,fun f row rl out=>by
 rw [Nat.add_comm]
 show (if s≠[] then _ else _)=_
 rw [if_pos hs];rfl⟩
theorem cg_ {ps ps':List Pt} {ts ts':List Tm} {q q':List (List Nat)} (h:Does dg ps ts q) (h':Does dg ps' ts' q'):Does dg (ps++ps') (ts++ts') (q++q'):=by
 obtain ⟨n,h⟩:=h
 obtain ⟨n',h'⟩:=h'
 exact ⟨n+n',fun f row rl out=>by rw [Nat.add_assoc,nlb,nlb,h,h',nlb]⟩
theorem zf_ {lv:Nat} {t:Tm} {ts:List Tm} {q:List (List Nat)} (h:Does dg (brT dg lv t).reverse ts q):Does dg [([],lv)] (t::ts) q:=by
 obtain ⟨n,h⟩:=h
 refine ⟨n+1,fun f row rl out=>?_⟩
 rw [show n+1+f=(n+f)+1 by omega]
 show (if ([]:List Nat)≠[] then _ else runB dg (n+f) ((brT dg lv t).reverse++row) (ts++rl) out)=_
 rw [if_neg (by simp),h]
theorem ji_ {lv:Nat} {t:Tm} {ts:List Tm} {q:List (List Nat)} (h:Does dg (ptsOf dg t).reverse ts q):Does dg [([],lv)] (t::ts) (if lv≤lvT t then q else [[41]]++q++[[40]]):=by
 apply zf_
 unfold brT
 split
 ·exact h
 ·have h1:Does dg [([41],7)] [] [[41]]:=cf_ (by simp) 7
  have h2:Does dg [([40],7)] [] [[40]]:=cf_ (by simp) 7
  have:=cg_ (cg_ h1 h) h2
  rw [List.nil_append,nlf] at this
  simpa using this
theorem pcs_br (q:List (List Nat)):([[41]]++q++[[40]]).reverse.flatten=40::(q.reverse.flatten++[41]):=by simp
theorem un_ne {o:Nat} (h1:15≤o) (h2:o≤17):unMark o≠[]:=(w3_ ⟨o,by omega⟩ h1).2.1
theorem op_ne {o:Nat} (h1:1≤o) (h2:o≤14):opMark o≠[]:=(w2_ ⟨o,by omega⟩ h1).2.1
theorem jj_:∀(e:Ex),e.Wf→e.All PN (QN dg)→∀lv,lv≤6→∃q,Does dg [([],lv)] e.flat.reverse q∧q.reverse.flatten=exText dg e lv
 | .num v,_,h,lv,hlv=>by
  have h1:=ji_ (dg:=dg) (lv:=lv) (t:=⟨1,v,[]⟩) (ts:=[]) (q:=[dg v]) (cf_ h.ne 7)
  rw [if_pos (show lv≤lvT _ from Nat.le_trans hlv (by show 6≤7;omega))] at h1
  exact ⟨_,h1,by simp [exText]⟩
 | .nm s,_,h,lv,hlv=>by
  have h1:=ji_ (dg:=dg) (lv:=lv) (t:=⟨2,0,s⟩) (ts:=[]) (q:=[s]) (cf_ h.ne 7)
  rw [if_pos (show lv≤lvT _ from Nat.le_trans hlv (by show 6≤7;omega))] at h1
  exact ⟨_,h1,by simp [exText]⟩
 | .idx s e,hw,h,lv,hlv=>by
  obtain ⟨q,k1,k2⟩:=jj_ e hw h.2 0 (by omega)
  have hb:Does dg (ptsOf dg ⟨3,0,s⟩).reverse e.flat.reverse ([[93]]++q++[[91]]++[s]):=by
   have:=cg_ (cg_ (cg_ (cf_ (dg:=dg) (s:=[93]) (by simp) 7) k1) (cf_ (s:=[91]) (by simp) 7)) (cf_ h.1.ne 7)
   rw [List.nil_append,nlf,nlf] at this
   exact this
  have h1:=ji_ (lv:=lv) hb
  rw [if_pos (show lv≤lvT _ from Nat.le_trans hlv (by show 6≤7;omega))] at h1
  have hf:(Ex.idx s e).flat.reverse=⟨3,0,s⟩::e.flat.reverse:=by rw [Ex.flat,List.reverse_append];rfl
  rw [hf]
  exact ⟨_,h1,by rw [exText,←k2];simp⟩
 | .un o e,hw,h,lv,hlv=>by
  obtain ⟨q,k1,k2⟩:=jj_ e hw.2.2 h 6 (by omega)
  have hb:Does dg (ptsOf dg ⟨4,o,[]⟩).reverse e.flat.reverse (q++[unMark o]):=by
   have:=cg_ k1 (cf_ (un_ne hw.1 hw.2.1) 7)
   rw [nlf] at this
   exact this
  have h1:=ji_ (lv:=lv) hb
  rw [if_pos (show lv≤lvT ⟨4,o,[]⟩ from hlv)] at h1
  have hf:(Ex.un o e).flat.reverse=⟨4,o,[]⟩::e.flat.reverse:=by rw [Ex.flat,List.reverse_append];rfl
  rw [hf]
  exact ⟨_,h1,by rw [exText,←k2];simp⟩
 | .bin o l r,hw,h,lv,hlv=>by
  have h5:=b1_ o
  obtain ⟨ql,a1,a2⟩:=jj_ l hw.2.2.1 h.1 (opLv o) (by omega)
  obtain ⟨qr,b1,b2⟩:=jj_ r hw.2.2.2 h.2 (opLv o+1) (by omega)
  have hb:Does dg (ptsOf dg ⟨5,o,[]⟩).reverse (r.flat.reverse++l.flat.reverse) (qr++[[32]]++[opMark o]++[[32]]++ql):=by
   have h32:Does dg [([32],7)] [] [[32]]:=cf_ (by simp) 7
   have:=cg_ (cg_ (cg_ (cg_ b1 h32) (cf_ (op_ne hw.1 hw.2.1) 7)) h32) a1
   rw [nlf,nlf,nlf] at this
   exact this
  have h1:=ji_ (lv:=lv) hb
  have hf:(Ex.bin o l r).flat.reverse=⟨5,o,[]⟩::(r.flat.reverse++l.flat.reverse):=by rw [Ex.flat,List.reverse_append,List.reverse_append];rfl
  rw [hf]
  refine ⟨_,h1,?_⟩
  have hl:lvT ⟨5,o,[]⟩=opLv o:=rfl
  rw [exText,←a2,←b2,hl]
  by_cases hc:opLv o<lv
  ·rw [if_neg (by omega),if_pos hc,pcs_br];simp
  ·rw [if_pos (by omega),if_neg hc];simp
theorem runB_ex {e:Ex} (hw:e.Wf) (ha:e.All PN (QN dg)):∃n q,(∀f,runB dg (n+f+1) [([],0)] e.flat.reverse []=some q)∧q.reverse.flatten=exText dg e 0:=by
 obtain ⟨q,⟨n,h1⟩,h2⟩:=jj_ e hw ha 0 (by omega)
 refine ⟨n,q,fun f=>?_,h2⟩
 have:=h1 (f+1) [] [] []
 rw [nlf,nlf,List.nil_append] at this
 rw [Nat.add_assoc,this];rfl
end
end Go.Proofs.YtpcniebkabkikaaGreatDoor
namespace Go.Proofs.YtpcniebkabkikaaGreatDoor
end Go.Proofs.YtpcniebkabkikaaGreatDoor
namespace Go.Proofs.YtpcniebkabkikaaGreatDoor
open Go Go.RowKit
def isL (l:List Nat):Nat:=if l≠[]∧errL l=0∧(wordL l).1=l.length then (wordL l).2 else 0
theorem zg_ (s:ByteArray):(s.toList == s.toList)=true:=by simp
theorem beq_ne {s t:ByteArray} (h:s≠t):(s.toList == t.toList)=false:=by
 rw [beq_eq_false_iff_ne]
 intro e
 rw [Lib.toList_data,Lib.toList_data] at e
 exact h (ByteArray.ext (Array.ext' e))
theorem is_any (s:ByteArray) (hs:s.size≤281474976710656) (w:World) (hE:Env w):Calls prog 135 #[.string s] w fun e w'=>e=.returned (.int .i64 ((isL (bl s):Nat):Int))∧Below w.heap.size w w':=by
 by_cases h0:s.size=0
 ·obtain rfl:s=⟨#[]⟩:=by
   apply ByteArray.ext
   exact Array.eq_empty_of_size_eq_zero h0
  go_enter func135,ntmps135
  go_wp2
  go_ret
  exact ⟨rfl,Below.refl _ _⟩
 ·have hne:bl s≠[]:=by
   intro e
   have:=congrArg List.length e
   rw [ae_] at this
   exact h0 this
  have he0:(s.toList == ([]:List UInt8))=false:=by
   rw [beq_eq_false_iff_ne]
   intro e
   rw [Lib.toList_data] at e
   exact hne (by unfold bl;rw [e];rfl)
  have he1:s.toList=[]→False:=by intro e;rw [e] at he0;simp at he0
  by_cases he:errL (bl s)=0
  ·have hf:=hid (k7_ s (by omega) hs he w hE)
   have hle:=fn_ (bl s)
   rw [ae_] at hle
   by_cases hw:(wordL (bl s)).1=s.size
   ·have hv:isL (bl s)=(wordL (bl s)).2:=by unfold isL;rw [if_pos ⟨hne,he,by rw [ae_];exact hw⟩]
    have hx:s.extract 0 (wordL (bl s)).1=s:=by
     apply a3_
     rw [dx_,hw,←ae_,List.take_length]
    rw [hx] at hf
    have hbs:=zg_ s
    rw [hv]
    generalize (wordL (bl s)).2=kk at *
    generalize valL (bl s)=vv at *
    clear hw hv hx hle hne
    have HE1:=hid he1
    clear he1
    go_enter func135,ntmps135
    go_wp2_with (go_at_call 175;refine hf.out.mono ?_)
    rintro e w1 ⟨rfl,hb1⟩
    have hB:=hb1.alloc hb1.size (.cells #[.int .i64 (kk:Nat),.string s,.int .i64 (vv:Nat),.int .i64 0] 151)
    have HB:=hid hB
    clear hB hb1
    go_wp2
    go_ret
    exact ⟨rfl,HB.out⟩
   ·have hv:isL (bl s)=0:=by unfold isL;rw [if_neg (by rw [ae_];exact fun h=>hw h.2.2)]
    have hx:((s.extract 0 (wordL (bl s)).1).toList == s.toList)=false:=beq_ne (fun h=>hw (by
     have:=fv_ s (wordL (bl s)).1 hle
     rw [h] at this;exact this.symm))
    rw [hv]
    generalize (wordL (bl s)).2=kk at *
    generalize valL (bl s)=vv at *
    generalize s.extract 0 (wordL (bl s)).1=tt at *
    clear hw hv hle hne
    have HE1:=hid he1
    clear he1
    go_enter func135,ntmps135
    go_wp2_with (go_at_call 175;refine hf.out.mono ?_)
    rintro e w1 ⟨rfl,hb1⟩
    have hB:=hb1.alloc hb1.size (.cells #[.int .i64 (kk:Nat),.string tt,.int .i64 (vv:Nat),.int .i64 0] 151)
    have HB:=hid hB
    clear hB hb1
    go_wp2
    go_ret
    exact ⟨rfl,HB.out⟩
  ·have hf:=hid (im_ s (by omega) hs he w hE)
   have hv:isL (bl s)=0:=by unfold isL;rw [if_neg (fun h=>he h.2.1)]
   rw [hv]
   have heb:((errL (bl s):Nat):Int)≠0:=by omega
   generalize errL (bl s)=er at *
   have heb1:(((er:Nat):Int) != 0)=true:=by simpa using heb
   have HE1:=hid he1
   clear he1 he hne hv heb
   go_enter func135,ntmps135
   go_wp2_with (go_at_call 175;refine hf.out.mono ?_)
   rintro e w1 ⟨rfl,hb1⟩
   have hB:=hb1.alloc hb1.size (.cells #[.int .i64 0,.string ⟨#[]⟩,.int .i64 0,.int .i64 0] 151)
   have HB:=hid hB
   clear hB hb1
   go_wp2
   go_ret
   exact ⟨rfl,HB.out⟩
end Go.Proofs.YtpcniebkabkikaaGreatDoor
namespace Go.Proofs.YtpcniebkabkikaaGreatDoor.Bt
open Go
def popN:Nat→Nat→Nat
 | 0,_=>0
 | n+1,a=>a % 2+popN n (a / 2)
theorem l9_:∀(n a:Nat),popN n a≤n
 | 0,_=>Nat.le_refl 0
 | n+1,a=>by
  have:=l9_ n (a / 2)
  simp only [popN];omega
def maskN (p:Nat):Nat→Nat
 | 0=>0
 | n+1=>p+256*maskN p n
def s1 (n a:Nat):Nat:=((a / 2) &&& maskN 85 n)+(a &&& maskN 85 n)
def s2 (n a:Nat):Nat:=((a / 4) &&& maskN 51 n)+(a &&& maskN 51 n)
def s3 (n a:Nat):Nat:=(a / 16+a) &&& maskN 15 n
def p1 (c:Nat):Nat:=((c / 2) &&& 85)+(c &&& 85)
def p2 (c:Nat):Nat:=((c / 4) &&& 51)+(c &&& 51)
def p3 (c:Nat):Nat:=(c / 16+c) &&& 15
end Go.Proofs.YtpcniebkabkikaaGreatDoor.Bt
namespace Go.Proofs.YtpcniebkabkikaaGreatDoor.Bt
open Go Go.RowKit
theorem cast_wrap (x:Nat) (h:x<18446744073709551616):IntKind.u64.wrap (x:Int)=(x:Int):=by
 rw [IntKind.wrap_u64];omega
end Go.Proofs.YtpcniebkabkikaaGreatDoor.Bt
namespace Go.Proofs.YtpcniebkabkikaaGreatDoor.Bt
open Go
def bitsFrom (i n x:Nat):List Nat:=(List.range' i n).filter x.testBit
def bitsOf (x:Nat):List Nat:=bitsFrom 0 64 x
theorem gd_ (x y p:Nat) (hp:x.testBit p=true) (hlow:∀j,j<p→x.testBit j=false) (hy:∀j,y.testBit j=(x.testBit j && decide (j≠p))) :
 ∀n i,i≤p→p<i+n→bitsFrom i n x=p::bitsFrom i n y
 | 0,i,h1,h2=>by omega
 | n+1,i,h1,h2=>by
  unfold bitsFrom
  rw [List.range'_succ,List.filter_cons,List.filter_cons]
  by_cases e:i=p
  ·subst e
   rw [if_pos hp,hy i]
   simp only [ne_eq,not_true_eq_false,decide_false,Bool.and_false,Bool.false_eq_true,if_false]
   congr 1
   apply List.filter_congr
   intro j hj
   have hij:i<j:=by
    have:=List.mem_range'_1.1 hj
    omega
   rw [hy j]
   simp;intro _;omega
  ·have hi:x.testBit i=false:=hlow i (by omega)
   rw [hi,hy i,hi]
   simp only [Bool.false_eq_true,if_false,Bool.false_and]
   exact gd_ x y p hp hlow hy n (i+1) (by omega) (by omega)
theorem o1_:bitsOf 0=[]:=by
 unfold bitsOf bitsFrom
 simp
theorem o2_ (k m:Nat):(2 ^ k*(2*m+1)) &&& (2 ^ k*(2*m+1) - 1)=2 ^ k*(2*m):=by
 have hpos:0<2 ^ k:=Nat.two_pow_pos k
 have e:2 ^ k*(2*m+1) - 1=2 ^ k*(2*m)+(2 ^ k - 1):=by
  rw [Nat.mul_add,Nat.mul_one];omega
 rw [e]
 apply Nat.eq_of_testBit_eq
 intro i
 rw [Nat.testBit_and,Nat.testBit_two_pow_mul,Nat.testBit_two_pow_mul_add _ (by omega),Nat.testBit_two_pow_mul]
 by_cases h:i<k
 ·simp [h,show ¬k≤i from by omega]
 ·have h':k≤i:=by omega
  simp only [h,h',decide_true,Bool.true_and,if_false]
  obtain ⟨j,rfl⟩:=Nat.exists_eq_add_of_le h'
  rw [Nat.add_sub_cancel_left]
  cases j with
  | zero=>simp [Nat.testBit_zero]
  | succ j =>
   rw [Nat.testBit_succ,Nat.testBit_succ]
   have e1:(2*m+1) / 2=m:=by omega
   have e2:2*m / 2=m:=by omega
   rw [e1,e2,Bool.and_self]
theorem o3_ (x:Nat) (h0:x≠0) (hx:x<18446744073709551616):bitsOf x=Lib.ctz 64 x::bitsOf (x &&& (x - 1))∧Lib.ctz 64 x<64∧x &&& (x - 1)<x:=by
 obtain ⟨m,hm,hk⟩:=Lib.ctzFrom_spec 64 x (by omega) hx
 have ek:Lib.ctz 64 x=Lib.ctzFrom 64 x:=by unfold Lib.ctz;rw [if_neg h0]
 rw [ek]
 generalize Lib.ctzFrom 64 x=k at hm hk
 have hpos:0<2 ^ k:=Nat.two_pow_pos k
 have hc:=o2_ k m
 rw [←hm] at hc
 have htx:∀j,x.testBit j=(decide (k≤j) && (2*m+1).testBit (j - k)):=fun j=>by rw [hm,Nat.testBit_two_pow_mul]
 have hp:x.testBit k=true:=by rw [htx];simp [Nat.testBit_zero]
 have hlow:∀j,j<k→x.testBit j=false:=fun j hj=>by rw [htx];simp [show ¬k≤j from by omega]
 have hy:∀j,(x &&& (x - 1)).testBit j=(x.testBit j && decide (j≠k)):=fun j=>by
  rw [hc,htx,Nat.testBit_two_pow_mul]
  by_cases h:k≤j
  ·obtain ⟨d,rfl⟩:=Nat.exists_eq_add_of_le h
   rw [Nat.add_sub_cancel_left]
   cases d with
   | zero=>simp [Nat.testBit_zero]
   | succ d =>
    rw [Nat.testBit_succ,Nat.testBit_succ]
    have e1:(2*m+1) / 2=m:=by omega
    have e2:2*m / 2=m:=by omega
    rw [e1,e2];simp
  ·simp [h]
 refine ⟨gd_ x _ k hp hlow hy 64 0 (Nat.zero_le _) (by omega),hk,?_⟩
 rw [hc,hm,Nat.mul_add]
 omega
theorem er_:∀n i x,(bitsFrom i n x).length=popN n (x / 2 ^ i)
 | 0,i,x=>by simp [bitsFrom,popN]
 | n+1,i,x=>by
  have ih:=er_ n (i+1) x
  unfold bitsFrom at ih ⊢
  rw [List.range'_succ,List.filter_cons]
  have e:x / 2 ^ (i+1)=x / 2 ^ i / 2:=by rw [Nat.pow_succ,Nat.div_div_eq_div_mul]
  have ht:x.testBit i=decide (x / 2 ^ i % 2=1):=Nat.testBit_eq_decide_div_mod_eq
  rw [e] at ih
  simp only [popN]
  rw [←ih,ht]
  rcases Nat.mod_two_eq_zero_or_one (x / 2 ^ i) with h|h <;> simp [h]
  omega
theorem d4_ (x:Nat):(bitsOf x).length=popN 64 x:=by
 have:=er_ 64 0 x
 simpa [bitsOf] using this
theorem nz_ (x:Nat):∀k∈bitsOf x,k<64:=by
 intro k hk
 unfold bitsOf bitsFrom at hk
 have:=List.mem_range'_1.1 (List.mem_filter.1 hk).1
 omega
end Go.Proofs.YtpcniebkabkikaaGreatDoor.Bt
namespace Go.Proofs
open Go.Shelf
def Tryz.lays7n29_ren:Go.Shelf.Ren:=⟨fun | 29=>237 | n=>n,fun | 22=>49 | 3=>3 | 4=>4 | 25=>208 | 54=>277 | 0=>0 | 5=>5 | n=>n,fun | 1=>2 | n=>n⟩
theorem Tryz.lays7n29:Go.Proofs.Lays7.n29 prog Tryz.lays7n29_ren:={
 mixed:=by kernel_rfl
 f29:=func237.trans (congrArg some (by kernel_rfl))
 t0:=Tryz.underlying0
 a0:=Tryz.isAgg0
 z0:=Tryz.sizeOf0
 v0:=Tryz.zeroValue0
 i0:=by kernel_rfl
 t3:=Tryz.underlying3
 a3:=Tryz.isAgg3
 z3:=Tryz.sizeOf3
 v3:=Tryz.zeroValue3
 i3:=by kernel_rfl
 t4:=Tryz.underlying4
 a4:=Tryz.isAgg4
 z4:=Tryz.sizeOf4
 v4:=Tryz.zeroValue4
 i4:=by kernel_rfl
 t5:=Tryz.underlying5
 a5:=Tryz.isAgg5
 z5:=Tryz.sizeOf5
 v5:=Tryz.zeroValue5
 i5:=by kernel_rfl
 t22:=Tryz.underlying49
 a22:=Tryz.isAgg49
 z22:=Tryz.sizeOf49
 v22:=Tryz.zeroValue49
 i22:=by kernel_rfl
 t25:=Tryz.underlying208
 a25:=Tryz.isAgg208
 z25:=Tryz.sizeOf208
 v25:=Tryz.zeroValue208
 i25:=by kernel_rfl
 t54:=Tryz.underlying277
 a54:=Tryz.isAgg277
 z54:=Tryz.sizeOf277
 g1:=by kernel_rfl }
theorem Tryz.bits_TrailingZeros64 (x:Nat) (hx:x<18446744073709551616) (w:World) (hT:x≠0→TabAt 2 Lib.deBruijn64tab w) :
 Calls prog 237 #[.int .u64 x] w fun e w'=>e=.returned (.int .i64 (Lib.ctz 64 x))∧w'=w:=Any7.bits_TrailingZeros64 Tryz.lays7n29 x hx w hT
end Go.Proofs
namespace Go.Proofs.YtpcniebkabkikaaGreatDoor.Bt
open Go Go.RowKit Go.Shelf
attribute [local go_sem] Oper.semAt_some
abbrev Pr:={ k:Nat // k<64 }
theorem jk_ {P:Program} {f:Nat} {args:Array Value} {w:World} {Q:Ending→Prop} (h:Calls P f args w fun e w'=>Q e∧w'=w):Calls P f args w fun e w'=>Q e∧w=w' :=
 h.mono fun _ _ ⟨a,b⟩=>⟨a,b.symm⟩
theorem tab_below {n₀:Nat} {A B:World} (hn:2<n₀) (h:Below n₀ A B) (hT:TabAt 2 Lib.deBruijn64tab A):TabAt 2 Lib.deBruijn64tab B :=
 fun j hj=>(h.cell (p:=⟨2,j,none⟩) hn).trans (hT j hj)
theorem zh_ (n l Bx n₀ x:Nat) (hn₀:2<n₀) (hx:x<18446744073709551616) (J Jx:List Pr→World→Prop)
 (hY:∀pre k W,J pre W→pre.length<64→YieldAt Fence.wide (n - 1) prog l #[.int .i64 (k.val:Int)] W fun e W' =>
  (e=.returned (.bool true)∧J (pre++[k]) W'∧Below n₀ W W')∨(e=.returned (.bool false)∧Jx (pre++[k]) W'))
 (W:World) (hT:TabAt 2 Lib.deBruijn64tab W) (hB:W.cell? ⟨Bx,0,none⟩=some (.int .u64 (x:Int))) (h0:J [] W) :
 CallsIn Fence.wide n prog 236 #[.func (.yield l) #[] #[],.pointer (some ⟨Bx,0,none⟩)] W fun e W'=>(∃v,e=.returned v) ∧
  ((∃ys:List Pr,ys.map (·.val)=bitsOf x∧J ys W')∨(∃pre:List Pr,pre.map (·.val) <+: bitsOf x∧Jx pre W')):=by
 refine callsIn_of_wp func236 rfl trivial ?_ rfl
 simp only [ntmps236,List.size_toArray,nlk,List.length_nil,Nat.reduceAdd,Nat.reduceSub,Array.replicate_succ,Array.replicate_zero,List.push_toArray,List.append_toArray,List.nil_append,List.cons_append]
 gi_wp2
 gi_loopw [3] (fun t wr=>∃(pre:List Pr) (y:Nat),y<18446744073709551616∧t=.int .u64 (y:Int)∧pre.map (·.val)++bitsOf y=bitsOf x∧TabAt 2 Lib.deBruijn64tab wr∧J pre wr)
  (fun t _=>(intOf t).toNat)
 case atStart =>
  exact ⟨[],x,hx,rfl,rfl,hT,h0⟩
 case round =>
  obtain ⟨pre,y,hy,rfl,hp,hTr,hJs⟩:=hrel
  by_cases hy0:y=0
  ·subst hy0
   gi_wp2
   go_end0
   exact ⟨⟨_,rfl⟩,.inl ⟨pre,by simpa [o1_] using hp,hJs⟩⟩
  ·obtain ⟨hst,hk,hlt⟩:=o3_ y hy0 hy
   have hpl:pre.length<64:=by
    have h1:=congrArg List.length hp
    rw [hst] at h1
    simp only [nla,List.length_map,nlk] at h1
    have h2:=d4_ x
    have h3:=l9_ 64 x
    omega
   have hcall:=jk_ (Tryz.bits_TrailingZeros64 y hy wr (fun _=>hTr))
   generalize Lib.ctz 64 y=c at hst hk hcall
   obtain ⟨fn,tmps,assign,body,hy1,hR⟩:=hY pre ⟨c,hk⟩ wr hJs hpl
   have hy0':((y:Int) != 0)=true:=by simp;omega
   have hlt':y &&& (y - 1)<18446744073709551616:=by omega
   have HST:=hid hst
   have HP:=hid hp
   have HLT:=hid hlt
   have HL2:=hid hlt'
   have HA:=hid (bits_and_u64_nat y (y - 1) hy (by omega))
   have HW:=hid (show IntKind.u64.wrap ((y:Int) - 1)=((y - 1:Nat):Int) from by rw [show ((y:Int) - 1)=((y - 1:Nat):Int) from by omega,cast_wrap _ (by omega)])
   clear hy0 hst hp hlt hpl hlt'
   gi_wp2_with (refine ⟨trivial,(fun h=>by cases h),?_⟩;gi_at_call 237;refine (callsIn_wide.2 hcall).mono ?_;rintro e w' ⟨rfl,rfl⟩)
   refine ⟨(fun h=>by cases h),hR.mono ?_⟩
   rintro e W3 (⟨rfl,hJ3,hk3⟩|⟨rfl,hJx3⟩)
   ·gi_wp2
    rw [HW.out,HA.out]
    exact ⟨⟨pre++[⟨c,hk⟩],y &&& (y - 1),HL2.out,rfl,by rw [←HP.out,HST.out];simp,tab_below hn₀ hk3 hTr,hJ3⟩,by have:=HLT.out;simp [intOf];omega⟩
   ·gi_wp2
    refine bodyPost_ret (results_none rfl _ _ _) rfl ?_
    exact ⟨⟨_,rfl⟩,.inr ⟨pre++[⟨c,hk⟩],⟨bitsOf (y &&& (y - 1)),by rw [←HP.out,HST.out];simp⟩,hJx3⟩⟩
theorem zi_ (x:Int) (w:World) :
 Calls prog 201 #[.int .u64 x] w fun e w'=>e=.returned (.func (.func 236) #[] #[.pointer (some ⟨w.heap.size,0,none⟩)])∧w'=w.alloc (.cells #[.int .u64 x] 50):=by
 go_enter func201,ntmps201
 go_wp2
 go_ret
 exact ⟨rfl,rfl⟩
theorem sc_ (n Bx n₀ x:Nat) (hn₀:2<n₀) (hx:x<18446744073709551616) (w:World) (hw:n₀≤w.heap.size) (hBx:Bx<w.heap.size) (hT:TabAt 2 Lib.deBruijn64tab w)
 (hB:w.cell? ⟨Bx,0,none⟩=some (.int .u64 (x:Int))) :
 SeqStopsK Fence.wide n prog 236 #[.pointer (some ⟨Bx,0,none⟩)] (fun k:Pr=>#[Value.int .i64 (k.val:Int)]) (Below n₀) (fun ys=>ys.map (·.val)=bitsOf x) (fun pre=>pre.map (·.val) <+: bitsOf x) 64 w :=
 fun l J Jx W hW _ _ hY h0 =>
  zh_ n l Bx n₀ x hn₀ hx J Jx hY W (tab_below hn₀ (hW.mono hw) hT) ((hW.cell (p:=⟨Bx,0,none⟩) hBx).trans hB) h0
end Go.Proofs.YtpcniebkabkikaaGreatDoor.Bt
namespace Go.Proofs.YtpcniebkabkikaaGreatDoor.Bt
open Go
def digB (c:UInt8):Bool:=decide (48≤c.toNat) && decide (c.toNat≤57)
def letB (c:UInt8):Bool:=(decide (97≤c.toNat) && decide (c.toNat≤122)) || decide (c.toNat=95)
def okB (c:UInt8):Bool:=letB c || digB c
def wfB:List UInt8→Bool
 | []=>false
 | c::l=>decide ((c::l).length≤32) && (!digB c && (c::l).all okB)
theorem wfB_nil {l:List UInt8} (h:l.length<1):wfB l=false:=by
 cases l with
 | nil=>rfl
 | cons _ _=>simp at h
theorem zj_ {l:List UInt8} (h:32<l.length):wfB l=false:=by
 cases l with
 | nil=>rfl
 | cons c l =>
  have:¬(c::l).length≤32:=by omega
  simp only [wfB,this,decide_false,Bool.false_and]
theorem wfB_dig {l:List UInt8} (h0:0<l.length) (h:digB l[0]=true):wfB l=false:=by
 cases l with
 | nil=>rfl
 | cons c l =>
  simp only [List.getElem_cons_zero] at h
  simp [wfB,h]
theorem wfB_bad {l:List UInt8} {k:Nat} (hk:k<l.length) (h:okB l[k]=false):wfB l=false:=by
 cases l with
 | nil=>rfl
 | cons c l =>
  have:(c::l).all okB=false:=by
   rw [List.all_eq_false]
   exact ⟨_,List.getElem_mem hk,by rw [h];simp⟩
  simp only [wfB,this,Bool.and_false]
theorem zk_ {l:List UInt8} (h0:0<l.length) (h1:l.length≤32) (h2:digB l[0]=false) (h3:l.all okB=true):wfB l=true:=by
 cases l with
 | nil=>simp at h0
 | cons c l =>
  simp only [List.getElem_cons_zero] at h2
  simp only [wfB,h2,h3,h1,decide_true,Bool.not_false,Bool.and_self]
theorem ge_ {l:List UInt8} {k:Nat} (hk:k<l.length) (h:(l.take k).all okB=true) (h2:okB l[k]=true):(l.take (k+1)).all okB=true:=by
 rw [List.take_succ_eq_append_getElem hk]
 simp only [List.all_append,h,List.all_cons,h2,List.all_nil,Bool.and_self]
end Go.Proofs.YtpcniebkabkikaaGreatDoor.Bt
namespace Go.Proofs.YtpcniebkabkikaaGreatDoor.Bt
open Go Go.RowKit
theorem ret_bool {a b:Bool} (h:a=b):Ending.returned (.bool a)=.returned (.bool b):=by rw [h]
theorem o4_ {a b:ByteArray} (h:a=b):Ending.returned (.string a)=.returned (.string b):=by rw [h]
theorem w4_ (c:UInt8) (w:World) :
 Calls prog 261 #[.int .u8 (c.toNat:Int)] w fun e w'=>e=.returned (.bool (digB c))∧w=w':=by
 by_cases h1:48≤c.toNat
 ·go_enter func261,ntmps261
  go_wp2
  go_ret
  exact ⟨ret_bool (by simp [digB,h1];omega),rfl⟩
 ·go_enter func261,ntmps261
  go_wp2
  go_ret
  exact ⟨ret_bool (by simp [digB,h1]),rfl⟩
theorem let_any (c:UInt8) (w:World) :
 Calls prog 262 #[.int .u8 (c.toNat:Int)] w fun e w'=>e=.returned (.bool (letB c))∧w=w':=by
 by_cases h1:97≤c.toNat
 ·by_cases h2:c.toNat≤122
  ·have h2':decide ((c.toNat:Int)≤122)=true:=by simp;omega
   go_enter func262,ntmps262
   go_wp2
   go_ret
   exact ⟨ret_bool (by simp [letB,h1,h2]),rfl⟩
  ·have h2':decide ((c.toNat:Int)≤122)=false:=by simp;omega
   go_enter func262,ntmps262
   go_wp2
   go_ret
   exact ⟨ret_bool (by rw [Bool.eq_iff_iff];simp [letB,h2];omega),rfl⟩
 ·go_enter func262,ntmps262
  go_wp2
  go_ret
  exact ⟨ret_bool (by rw [Bool.eq_iff_iff];simp [letB,h1];omega),rfl⟩
theorem wf_any (s:ByteArray) (hs:s.size≤maxLen) (w:World) :
 Calls prog 234 #[.string s] w fun e w'=>e=.returned (.bool (wfB s.data.toList))∧w=w':=by
 unfold maxLen at hs
 have hsz:s.data.toList.length=s.size:=(Lib.size_eq s).symm
 by_cases h0:s.size<1
 ·have hw:=hid (wfB_nil (l:=s.data.toList) (by omega))
  go_enter func234,ntmps234
  go_wp2
  go_ret
  exact ⟨ret_bool hw.out.symm,rfl⟩
 by_cases h1:32<s.size
 ·have hw:=hid (zj_ (l:=s.data.toList) (by omega))
  go_enter func234,ntmps234
  go_wp2
  go_ret
  exact ⟨ret_bool hw.out.symm,rfl⟩
 have h00:0<s.size:=by omega
 have hd:=w4_ (s[0]) w
 by_cases h2:digB (s[0])=true
 ·have hw:=hid (wfB_dig (l:=s.data.toList) (by omega) h2)
  rw [h2] at hd
  go_enter func234,ntmps234
  go_wp2_with (go_at_call 261;refine hd.mono ?_;rintro e w' ⟨rfl,rfl⟩)
  go_ret
  exact ⟨ret_bool hw.out.symm,rfl⟩
 ·have h2':digB (s[0])=false:=by simpa using h2
  rw [h2'] at hd
  have H2:=hid h2'
  have HSZ:=hid hsz
  clear h2 h2' hsz
  go_enter func234,ntmps234
  go_wp2_with (go_at_call 261;refine hd.mono ?_;rintro e w' ⟨rfl,rfl⟩)
  clear hd
  go_loop [19] (fun i=>∃k:Nat,k≤s.size∧i=.int .i64 k∧Hid ((s.data.toList.take k).all okB=true)) (fun i=>s.size - (intOf i).toNat)
  case atStart=>exact ⟨0,Nat.zero_le _,rfl,hid (by simp)⟩
  case round =>
   obtain ⟨k,hk,rfl,HA⟩:=hrel
   by_cases hlt:k<s.size
   ·have hl:=let_any (s[k]) w
    have hd:=w4_ (s[k]) w
    have hlen:k<s.data.toList.length:=by rw [HSZ.out];exact hlt
    cases hl1:letB (s[k]) with
    | true =>
     rw [hl1] at hl
     have HN:=hid (ge_ hlen HA.out (show okB (s[k])=true by simp [okB,hl1]))
     clear hl1 hlen
     go_wp2_with (first|(go_at_call 262;refine hl.mono ?_;rintro e w' ⟨rfl,rfl⟩)|(go_at_call 261;refine hd.mono ?_;rintro e w' ⟨rfl,rfl⟩))
     go_round
     case rel=>exact ⟨k+1,by omega,by go_num,HN⟩
     case measure=>simp [intOf];omega
    | false =>
     rw [hl1] at hl
     cases hd1:digB (s[k]) with
     | true =>
      rw [hd1] at hd
      have HN:=hid (ge_ hlen HA.out (show okB (s[k])=true by simp [okB,hd1]))
      clear hl1 hd1 hlen
      go_wp2_with (first|(go_at_call 262;refine hl.mono ?_;rintro e w' ⟨rfl,rfl⟩)|(go_at_call 261;refine hd.mono ?_;rintro e w' ⟨rfl,rfl⟩))
      go_round
      case rel=>exact ⟨k+1,by omega,by go_num,HN⟩
      case measure=>simp [intOf];omega
     | false =>
      rw [hd1] at hd
      have HN:=hid (wfB_bad (l:=s.data.toList) hlen (show okB (s[k])=false by simp [okB,hl1,hd1]))
      clear hl1 hd1 hlen
      go_wp2_with (first|(go_at_call 262;refine hl.mono ?_;rintro e w' ⟨rfl,rfl⟩)|(go_at_call 261;refine hd.mono ?_;rintro e w' ⟨rfl,rfl⟩))
      go_ret
      exact ⟨ret_bool HN.out.symm,rfl⟩
   ·have HN:=hid (zk_ (l:=s.data.toList) (by rw [HSZ.out];omega) (by rw [HSZ.out];omega) H2.out (by have:=HA.out;rwa [List.take_of_length_le (by rw [HSZ.out];omega)] at this))
    go_wp2
    go_ret
    exact ⟨ret_bool HN.out.symm,rfl⟩
def blank64:Array Value:=Array.replicate 64 (.string ByteArray.empty)
theorem mk64 (w:World):(Instr.makeSlice 22 (.int .i64 64) (.int .i64 64)).run prog w=.ok (.slice (some ⟨w.heap.size,0,none⟩) 64 64) (w.alloc (.cells blank64 9)):=by kernel_rfl
def StrIn (B:Nat) (w:World) (p:Option Addr) (ns:List ByteArray):Prop :=
 ∀i,i<ns.length→∃b off,p=some ⟨b,off,none⟩∧b<B∧w.cell? ⟨b,off+i,none⟩=some (.string (ns.getD i ByteArray.empty))
def gl (ns:List ByteArray):Nat→List ByteArray
 | 0=>List.replicate 64 ByteArray.empty
 | k+1=>if wfB (ns.getD k ByteArray.empty).data.toList && !(Lib.containsS ((gl ns k).take k) (ns.getD k ByteArray.empty)) then (gl ns k).set k (ns.getD k ByteArray.empty) else gl ns k
theorem gl_length (ns:List ByteArray):∀k,(gl ns k).length=64
 | 0=>by simp [gl]
 | k+1=>by
  have:=gl_length ns k
  unfold gl
  split
  ·simpa using this
  ·exact this
theorem gl_keep {ns:List ByteArray} {k:Nat} (h:wfB (ns.getD k ByteArray.empty).data.toList=false):gl ns (k+1)=gl ns k:=by
 simp only [gl,h,Bool.false_and,Bool.false_eq_true,if_false]
theorem gl_dup {ns:List ByteArray} {k:Nat} (h:Lib.containsS ((gl ns k).take k) (ns.getD k ByteArray.empty)=true):gl ns (k+1)=gl ns k:=by
 simp only [gl,h,Bool.not_true,Bool.and_false,Bool.false_eq_true,if_false]
theorem gl_set {ns:List ByteArray} {k:Nat} (h:wfB (ns.getD k ByteArray.empty).data.toList=true) (h2:Lib.containsS ((gl ns k).take k) (ns.getD k ByteArray.empty)=false):gl ns (k+1)=(gl ns k).set k (ns.getD k ByteArray.empty):=by
 rw [gl,h,h2];rfl
def GoodAt (W:World) (B:Nat) (zs:List ByteArray):Prop :=
 ∀j,j<64→W.cell? ⟨B,j,none⟩=some (.string (zs.getD j ByteArray.empty))∧W.frozen? ⟨B,j,none⟩=false
theorem sd_ (w:World):GoodAt (w.alloc (.cells blank64 9)) w.heap.size (List.replicate 64 ByteArray.empty):=by
 intro j hj
 constructor
 ·rw [World.cell?_alloc_new]
  unfold blank64
  rw [Array.getElem?_replicate,if_pos hj,List.getD_eq_getElem?_getD,List.getElem?_replicate,if_pos hj]
  rfl
 ·rw [World.frozen?_alloc_new]
theorem se_ {W:World} {B:Nat} {zs:List ByteArray} (h:GoodAt W B zs) (hl:zs.length=64) {k:Nat} (hk:k<64) (x:ByteArray) :
 GoodAt (W.setCell ⟨B,k,none⟩ (.string x)) B (zs.set k x):=by
 intro j hj
 rw [World.frozen?_setCell]
 refine ⟨?_,(h j hj).2⟩
 by_cases e:k=j
 ·subst e
  rw [World.cell?_setCell_same _ _ _ (h k hk).1]
  simp [List.getD,hl,hk]
 ·rw [World.cell?_setCell_other _ _ _ _ (by intro h;exact e (by injection h)),(h j hj).1]
  simp [List.getD,List.getElem?_set_ne e]
theorem GoodAt.below {W W':World} {B:Nat} {zs:List ByteArray} (h:GoodAt W B zs) {n:Nat} (hb:Below n W W') (hB:B<n):GoodAt W' B zs:=fun j hj =>
 ⟨(hb.cell (p:=⟨B,j,none⟩) hB).trans (h j hj).1,(hb.frozen (p:=⟨B,j,none⟩) hB).trans (h j hj).2⟩
theorem zl_ (p:Option Addr) (c:Nat) (ns:List ByteArray) (w:World) (hn:ns.length≤maxLen) (hz:∀i,(ns.getD i ByteArray.empty).size≤maxLen) (hs:StrIn w.heap.size w p ns) :
 Calls prog 199 #[.slice p ns.length c] w fun e w'=>e=.returned (.slice (some ⟨w.heap.size,0,none⟩) 64 64)∧GoodAt w' w.heap.size (gl ns (min ns.length 64))∧Below w.heap.size w w'∧w.heap.size<w'.heap.size:=by
 unfold maxLen at hn
 have hmk:=mk64
 obtain ⟨m,hm⟩:∃m,min ns.length 64=m:=⟨_,rfl⟩
 have hm1:m≤ns.length:=by omega
 have hm2:m≤64:=by omega
 have hmin:min (ns.length:Int) 64=(m:Int):=by omega
 rw [hm]
 clear hm
 go_enter func199,ntmps199
 go_wp2
 go_loopw [11] (fun i wr=>∃k:Nat,k≤m∧i=.int .i64 k∧Hid (GoodAt wr w.heap.size (gl ns k))∧Below w.heap.size w wr∧w.heap.size<wr.heap.size)
  (fun i _=>m - (intOf i).toNat)
 case atStart=>exact ⟨0,Nat.zero_le _,rfl,hid (sd_ w),(Below.refl _ _).alloc (Nat.le_refl _) _,by simp⟩
 case round =>
  obtain ⟨k,hk,rfl,HG,hB,hsz⟩:=hrel
  by_cases hlt:k<m
  ·obtain ⟨b,off,rfl,hb,hc⟩:=hs k (by omega)
   have hc':=(hB.cell (p:=⟨b,off+k,none⟩) hb).trans hc
   obtain ⟨x,hx⟩:∃x,ns.getD k ByteArray.empty=x:=⟨_,rfl⟩
   have hxs:=hz k
   rw [hx] at hc' hxs
   have HX:=hid hx
   clear hx hc hs hz hmk
   have hki:(k:Int)<ns.length:=by omega
   have hwf:∀q,Calls prog 234 #[.string x] (wr.drewN q) fun e w'=>e=.returned (.bool (wfB x.data.toList))∧w'=wr.drewN q:=fun q=>(wf_any x hxs _).mono fun _ _ ⟨a,b⟩=>⟨a,b.symm⟩
   cases hw:wfB x.data.toList with
   | false =>
    rw [hw] at hwf
    have HN:=hid (gl_keep (ns:=ns) (k:=k) (by rw [HX.out];exact hw))
    have HWF:=hid hwf
    clear hw hwf
    go_wp2
    go_quiet ((go_at_call 234;exact Calls.quiet_of_same (HWF.out _)))
    go_wp2
    exact ⟨⟨k+1,by omega,by go_num,hid (by rw [HN.out];exact HG.out),below_drewN hB _,hsz⟩,by simp [intOf];omega⟩
   | true =>
    rw [hw] at hwf
    have hct:∀q,Calls prog 235 #[.slice (some ⟨w.heap.size,0,none⟩) k 64,.string x] (wr.drewN q) fun e w'=>e=.returned (.bool (Lib.containsS ((gl ns k).take k) x))∧w'=wr.drewN q:=fun q =>
     Tryz.slices_Contains_string w.heap.size 0 k 64 (gl ns k) x _ (by rw [gl_length];omega) (by omega) (fun j hj=>by rw [Nat.zero_add];exact (HG.out j (by rw [gl_length] at hj;exact hj)).1)
    cases hct1:Lib.containsS ((gl ns k).take k) x with
    | true =>
     rw [hct1] at hct
     have HN:=hid (gl_dup (ns:=ns) (k:=k) (by rw [HX.out];exact hct1))
     have HWF:=hid hwf
     have HCT:=hid hct
     clear hw hwf hct hct1
     go_wp2
     go_quiet ((first|(go_at_call 234;exact Calls.quiet_of_same (HWF.out _))|(go_at_call 235;exact Calls.quiet_of_same (HCT.out _))))
     go_wp2
     exact ⟨⟨k+1,by omega,by go_num,hid (by rw [HN.out];exact HG.out),below_drewN hB _,hsz⟩,by simp [intOf];omega⟩
    | false =>
     rw [hct1] at hct
     have HN:=hid (gl_set (ns:=ns) (k:=k) (by rw [HX.out];exact hw) (by rw [HX.out];exact hct1))
     have HWF:=hid hwf
     have HCT:=hid hct
     obtain ⟨hold,hfz⟩:=HG.out k (by omega)
     clear hw hwf hct hct1
     go_wp2
     go_quiet ((first|(go_at_call 234;exact Calls.quiet_of_same (HWF.out _))|(go_at_call 235;exact Calls.quiet_of_same (HCT.out _))))
     go_wp2
     exact ⟨⟨k+1,by omega,by go_num,hid (by rw [HN.out,HX.out];exact se_ (W:=wr.drewN nq) HG.out (gl_length ns k) (by omega) x),(below_drewN hB _).setCell (Nat.le_refl _) _,by rw [World.size_setCell];exact hsz⟩,by simp [intOf];omega⟩
  ·have hkm:k=m:=by omega
   have HK:=hid hkm
   clear hkm
   go_wp2
   go_ret
   refine ⟨rfl,?_,hB,hsz⟩
   rw [←HK.out]
   exact HG.out
def numB (k:Nat):List UInt8:=35::Lib.decDigits k
theorem cat_mk (a b:List UInt8):(⟨a.toArray⟩:ByteArray)++⟨b.toArray⟩=⟨(a++b).toArray⟩:=by
 apply ByteArray.ext
 rw [ByteArray.data_append]
 simp
theorem n0_:∀k:Fin 64,(Lib.decDigits k.val).length≤2:=by
 intro k
 have h:=k.isLt
 unfold Lib.decDigits
 split
 ·simp
 ·rename_i h1
  unfold Lib.decDigits
  rw [dif_pos (by omega)]
  simp
theorem n1_ (k:Nat) (hk:k<64) (w:World) :
 Calls prog 238 #[.int .i64 (k:Int)] w fun e w'=>e=.returned (.string ⟨(numB k).toArray⟩)∧w=w':=by
 have hc:=jk_ (Tryz.strconv_Itoa_small k (by omega) w)
 have hlen:=n0_ ⟨k,hk⟩
 simp only at hlen
 go_enter func238,ntmps238
 go_wp2_with (go_at_call 112;refine hc.mono ?_;rintro e w' ⟨rfl,rfl⟩)
 go_ret
 exact ⟨o4_ (cat_mk [35] (Lib.decDigits k)),rfl⟩
def itemB (zs:List ByteArray) (k:Nat):List UInt8:=if (zs.getD k ByteArray.empty).data.toList=[] then numB k else (zs.getD k ByteArray.empty).data.toList
theorem q8_ (k B:Nat) (hk:k<64) (zs:List ByteArray) (w:World) (hG:GoodAt w B zs) :
 Calls prog 202 #[.int .i64 (k:Int),.slice (some ⟨B,0,none⟩) 64 64] w fun e w'=>e=.returned (.string ⟨(itemB zs k).toArray⟩)∧w=w':=by
 have hc:=(hG k hk).1
 obtain ⟨x,hx⟩:∃x,zs.getD k ByteArray.empty=x:=⟨_,rfl⟩
 have hn:=n1_ k hk w
 unfold itemB
 rw [hx] at hc ⊢
 clear hx hG
 by_cases h0:x.data.toList=[]
 ·rw [if_pos h0]
  have hx0:x=⟨#[]⟩:=by
   cases x with
   | mk d=>simp at h0;subst h0;rfl
  subst hx0
  clear h0
  go_enter func202,ntmps202
  go_wp2_with (go_at_call 238;refine hn.mono ?_;rintro e w' ⟨rfl,rfl⟩)
  go_ret
  exact ⟨rfl,rfl⟩
 ·rw [if_neg h0]
  have hne:x.toList.isEmpty=false:=by
   rw [Lib.toList_data]
   cases h:x.data.toList with
   | nil=>exact absurd h h0
   | cons _ _=>rfl
  go_enter func202,ntmps202
  go_wp2_with (go_at_call 238;refine hn.mono ?_;rintro e w' ⟨rfl,rfl⟩)
  go_ret
  exact ⟨o4_ (by simp),rfl⟩
theorem sizeB:(prog.info? 79).map (·.size)=some 2:=by kernel_rfl
theorem liesB:liesAt prog prog.depth 79 (2 / prog.cellsOf 79) 0 79 1=true:=by kernel_rfl
theorem infoByte:(prog.info? 5).map (fun i=>(i.zero,i.size,i.bytes))=some (some (.int .u8 0),1,1):=by kernel_rfl
theorem sf_ (b:Nat) (w:World) (h0:w.cell? ⟨b,0,none⟩=some (.pointer (some ⟨b,0,none⟩))) :
 Calls prog 141 #[.pointer (some ⟨b,0,none⟩)] w fun e w'=>e=.returned (.tuple #[])∧w=w':=by
 obtain ⟨j,hj,_⟩:=Option.map_eq_some_iff.1 sizeB
 go_enter func141,ntmps141
 go_wp2
 rw [Lib.run_neq_ptr_same w _ Tryz.underlying76 hj]
 go_wp2
 go_end0
 exact ⟨rfl,rfl⟩
theorem o5_ (b:Nat) (w:World) (h0:w.cell? ⟨b,0,none⟩=some (.pointer none)) (hsh:w.shape? b=some (79,2)) (hfz:w.frozen? ⟨b,0,none⟩=false) :
 Calls prog 141 #[.pointer (some ⟨b,0,none⟩)] w fun e w'=>e=.returned (.tuple #[])∧w.setCell ⟨b,0,none⟩ (.pointer (some ⟨b,0,none⟩))=w':=by
 obtain ⟨j,hj,hjs⟩:=Option.map_eq_some_iff.1 sizeB
 go_enter func141,ntmps141
 go_wp2
 rw [Lib.run_to_unsafe w ⟨b,0,none⟩ Tryz.underlying76 Tryz.underlying219 hj (by rw [hjs];decide) hsh (Nat.zero_lt_succ 1)]
 simp only [Result.andThen]
 rw [Oper.upon_value]
 go_wp2
 rw [run_callFunc_extern func179 (by kernel_rfl) (by kernel_rfl) (by kernel_rfl) (e:=Extern.AbiNoEscape.same) (by kernel_rfl)]
 rw [Lib.run_noEscape]
 simp only [Result.andThen]
 rw [Oper.upon_value]
 go_wp2
 rw [Lib.run_from_unsafe w ⟨b,0,none⟩ Tryz.underlying219 Tryz.underlying76 hj hsh liesB]
 simp only [Result.andThen]
 rw [Oper.upon_value]
 go_wp2
 go_end0
 exact ⟨rfl,rfl⟩
theorem n2_ (B b:Nat) (bs:List Value) (w:World) (h:Lib.IsBuilderF 79 5 B b bs w) :
 Calls prog 141 #[.pointer (some ⟨b,0,none⟩)] w fun e w'=>e=.returned (.tuple #[])∧(Lib.BuilderAtF 79 5 B b (.pointer (some ⟨b,0,none⟩)) bs w'∧Below B w w'∧Lib.OthersKept 5 (some b) w w'):=by
 rcases h with h|h
 ·exact (o5_ b w h.cell0 h.shape h.frozen0).mono fun e w' ⟨he,hw⟩=>by
   subst hw
   exact ⟨he,h.used _,(Below.refl B w).setCell (p:=⟨b,0,none⟩) h.1 _,(Lib.OthersKept.refl _ _ w).setCell ⟨b,0,none⟩ rfl _⟩
 ·exact (sf_ b w h.cell0).mono fun e w' ⟨he,hw⟩=>by
   subst hw
   exact ⟨he,h,Below.refl B _,Lib.OthersKept.refl _ _ _⟩
theorem heap_lt {w:World} {b:Nat} {o:Obj} (h:w.heap[b]?=some o):b<w.heap.size:=(Array.getElem?_eq_some_iff.1 h).1
theorem d5_ (B b:Nat) (bs:List Value) (c:Int) (w:World) (h:Lib.IsBuilderF 79 5 B b bs w) (hlen:bs.length+1≤140737488355328) (hBw:B≤w.heap.size) :
 Calls prog 200 #[.pointer (some ⟨b,0,none⟩),.int .u8 c] w fun e w'=>e=.returned .nilIface∧(Lib.BuilderAtF 79 5 B b (.pointer (some ⟨b,0,none⟩)) (bs++[.int .u8 c]) w'∧Below B w w'∧Lib.OthersKept 5 (some b) w w'):=by
 obtain ⟨i0,hi,hz0,hz1,hz2⟩:=info_parts infoByte
 go_enter func200,ntmps200
 go_wp2_with (go_at_call 141;refine (n2_ B b bs _ h).mono ?_)
 rintro e w1 ⟨rfl,h1,hb1,hk1⟩
 obtain ⟨hB,v,hbk,hown,hne⟩:=h1
 have hlt:=heap_lt hbk
 have c0:w1.cell? ⟨b,0,none⟩=some (.pointer (some ⟨b,0,none⟩)):=by rw [Lib.cell_of_heap hbk];rfl
 have c1:w1.cell? ⟨b,1,none⟩=some v:=by rw [Lib.cell_of_heap hbk];rfl
 go_wp2_with (at_builtin;refine wpList_append_ownF _ rfl _ _ 77 rfl B 5 i0 (.int .u8 0) 1 1 Tryz.underlying77 hi hz0 hz1 hz2 rfl (by decide) _ _ _ rfl (hown.alloc _) ⟨w1.heap.size,0,none⟩ 1 1 [.int .u8 c] rfl rfl ?c1 ?c2 ?c3 ?c4 ?c5 ?_)
 case c1 =>
  intro j u hj
  match j,hj with
  | 0,hj=>simp at hj;subst hj;simp [Addr.add]
 case c2=>intro u hu;simp at hu;subst hu;rfl
 case c3=>unfold maxLen;omega
 case c4=>omega
 case c5=>have:=hb1.size;simp;omega
 intro v' w2 hown' hgrow _
 have hb2:w2.heap[b]?=some (.cells #[.pointer (some ⟨b,0,none⟩),v] 79 (0,0)):=by
  rw [hgrow.block b (by simp;omega) (fun e=>hne e.symm),Lib.alloc_old w1 _ b hlt]
  exact hbk
 have d0:w2.cell? ⟨b,0,none⟩=some (.pointer (some ⟨b,0,none⟩)):=by rw [Lib.cell_of_heap hb2];rfl
 have d1:w2.cell? ⟨b,1,none⟩=some v:=by rw [Lib.cell_of_heap hb2];rfl
 have f1:w2.frozen? ⟨b,1,none⟩=false:=Lib.frozen_of_heap hb2 1
 obtain ⟨g,cap,rfl⟩:∃g cap,v'=.slice (some ⟨g,0,none⟩) (bs.length+1) cap:=by
  rcases hown'.2 with ⟨_,h0⟩|⟨g,cap,cur,fz,hv,_⟩
  ·omega
  ·exact ⟨g,cap,hv⟩
 go_wp2
 go_ret
 refine ⟨rfl,?_,?_,((hk1.alloc _).grown hgrow (Lib.ownsRowF_kind (hown.alloc _))).setCell ⟨b,1,none⟩ rfl _⟩
 ·exact Lib.BuilderAtF.put (T:=79) (e:=5) hB hb2 (bs':=bs++[.int .u8 c]) (by simpa using hown') (by decide)
 ·exact ((hb1.alloc (by have:=hb1.size;omega) _).grown hgrow (by have:=hb1.size;simp;omega) (fun k hk=>(hown.lt k hk).1)).setCell (p:=⟨b,1,none⟩) hB _
theorem writeString_any (B b:Nat) (bs:List Value) (s:ByteArray) (w:World) (h:Lib.IsBuilderF 79 5 B b bs w) (hlen:bs.length+s.size≤140737488355328) (hBw:B≤w.heap.size) :
 Calls prog 83 #[.pointer (some ⟨b,0,none⟩),.string s] w fun e w'=>e=.returned (.tuple #[.int .i64 s.size,.nilIface])∧(Lib.BuilderAtF 79 5 B b (.pointer (some ⟨b,0,none⟩)) (bs++Lib.strCells s) w'∧Below B w w'∧Lib.OthersKept 5 (some b) w w'):=by
 obtain ⟨i0,hi,hz0,hz1,hz2⟩:=info_parts infoByte
 go_enter func83,ntmps83
 go_wp2_with (go_at_call 141;refine (n2_ B b bs _ h).mono ?_)
 rintro e w1 ⟨rfl,h1,hb1,hk1⟩
 obtain ⟨hB,v,hbk,hown,hne⟩:=h1
 have hlt:=heap_lt hbk
 have c0:w1.cell? ⟨b,0,none⟩=some (.pointer (some ⟨b,0,none⟩)):=by rw [Lib.cell_of_heap hbk];rfl
 have c1:w1.cell? ⟨b,1,none⟩=some v:=by rw [Lib.cell_of_heap hbk];rfl
 go_wp2_with (at_builtin;refine Lib.wpList_append_own_stringF _ rfl _ _ 77 9 rfl B 5 i0 Tryz.underlying77 Tryz.underlying9 hi hz0 hz1 hz2 _ _ _ rfl hown s rfl ?c3 ?c4 ?c5 ?_)
 case c3=>unfold maxLen;omega
 case c4=>omega
 case c5=>have:=hb1.size;omega
 intro v' w2 hown' hgrow _
 have hb2:w2.heap[b]?=some (.cells #[.pointer (some ⟨b,0,none⟩),v] 79 (0,0)):=by
  rw [hgrow.block b hlt (fun e=>hne e.symm)]
  exact hbk
 have d0:w2.cell? ⟨b,0,none⟩=some (.pointer (some ⟨b,0,none⟩)):=by rw [Lib.cell_of_heap hb2];rfl
 have d1:w2.cell? ⟨b,1,none⟩=some v:=by rw [Lib.cell_of_heap hb2];rfl
 have f1:w2.frozen? ⟨b,1,none⟩=false:=Lib.frozen_of_heap hb2 1
 obtain ⟨ao,n',cap,rfl⟩:∃ao n' cap,v'=.slice ao n' cap:=by
  rcases hown'.2 with ⟨hv,_⟩|⟨g,cap,cur,fz,hv,_⟩
  ·exact ⟨_,_,_,hv⟩
  ·exact ⟨_,_,_,hv⟩
 go_wp2
 go_ret2
 refine ⟨rfl,?_,?_,(hk1.grown hgrow (Lib.ownsRowF_kind hown)).setCell ⟨b,1,none⟩ rfl _⟩
 ·exact Lib.BuilderAtF.put (T:=79) (e:=5) hB hb2 (bs':=bs++Lib.strCells s) (by simpa [Lib.strCells_length] using hown') (by decide)
 ·exact (hb1.grown hgrow (by have:=hb1.size;omega) (fun k hk=>(hown.lt k hk).1)).setCell (p:=⟨b,1,none⟩) hB _
end Go.Proofs.YtpcniebkabkikaaGreatDoor.Bt
namespace Go.Proofs.YtpcniebkabkikaaGreatDoor.Bt
open Go Go.RowKit Go.Shelf
attribute [local go_sem] Oper.semAt_some
def textStep (zs:List ByteArray) (acc:List UInt8) (k:Nat):List UInt8:=acc++((if 1<acc.length then [32] else [])++itemB zs k)
def textAcc (zs:List ByteArray) (l:List Nat):List UInt8:=l.foldl (textStep zs) [123]
def textB (zs:List ByteArray) (x:Nat):List UInt8:=textAcc zs (bitsOf x)++[125]
theorem n3_ (zs:List ByteArray) (l:List Nat) (k:Nat):textAcc zs (l++[k])=textAcc zs l++((if 1<(textAcc zs l).length then [32] else [])++itemB zs k):=by
 simp only [textAcc,List.foldl_append,List.foldl_cons,List.foldl_nil]
 rfl
theorem jl_ (zs:List ByteArray) (hz:∀k,(zs.getD k ByteArray.empty).size≤32) (k:Nat) (hk:k<64):(itemB zs k).length≤32:=by
 unfold itemB
 split
 ·have:=n0_ ⟨k,hk⟩
  simp only at this
  simp only [numB,nlk];omega
 ·rw [←Lib.size_eq];exact hz k
theorem d6_ (zs:List ByteArray) (hz:∀k,(zs.getD k ByteArray.empty).size≤32) (l:List Nat) (hl:∀k∈l,k<64):(textAcc zs l).length≤1+33*l.length:=by
 have key:∀(l:List Nat) (acc:List UInt8),(∀k∈l,k<64)→(l.foldl (textStep zs) acc).length≤acc.length+33*l.length:=by
  intro l
  induction l with
  | nil=>intro acc _;simp
  | cons k l ih =>
   intro acc h
   have h1:=ih (textStep zs acc k) (fun j hj=>h j (by simp [hj]))
   have h2:=jl_ zs hz k (h k (by simp))
   have h3:(textStep zs acc k).length≤acc.length+33:=by
    unfold textStep
    simp only [nla]
    split <;> simp <;> omega
   simp only [List.foldl_cons,nlk]
   omega
 have:=key l [123] hl
 simpa [textAcc] using this
theorem IsBuilderF.turned {T e:TypeId} {B b:Nat} {bs:List Value} {W W':World} {row:Option Nat} (h:Lib.IsBuilderF T e B b bs W) (hg:W.grownBy W' row)
 (hr:∀r,row=some r→∃o:Obj,W.heap[r]?=some o∧o.isCells=false):Lib.IsBuilderF T e B b bs W':=by
 have key:∀p,Lib.BuilderAtF T e B b p bs W→Lib.BuilderAtF T e B b p bs W':=by
  intro p hp
  have hlt:=hp.lt
  obtain ⟨hB,v,hb,hown,hne⟩:=hp
  refine ⟨hB,v,?_,hown.kept hg ?_,hne⟩
  ·refine (hg.block b hlt ?_).trans hb
   intro e'
   obtain ⟨o,ho,hc⟩:=hr b e'.symm
   rw [hb] at ho;cases ho;cases hc
  ·rcases hown.2 with ⟨rfl,_⟩|⟨g,cap,cur,fz,rfl,_,hgb,_⟩
   ·exact .inl rfl
   ·refine .inr fun e'=>?_
    obtain ⟨o,ho,hc⟩:=hr g (by simpa [Value.ownBlock] using e'.symm)
    rw [hgb] at ho;cases ho;cases hc
 exact h.elim (fun x=>.inl (key _ x)) (fun x=>.inr (key _ x))
theorem b6_ {b:Nat} {W W':World} (hs:W.heap.size≤W'.heap.size) (hb:∃cs T fz,W.heap[b]?=some (.cells cs T fz)) (h:Lib.OthersKept 5 (some b) W W'):KeepsOthers W W' where
 size:=hs
 same:=fun k o hk ho=>by
  refine h k o hk ?_ ?_
  ·intro e
   obtain ⟨cs,T,fz,hc⟩:=hb
   obtain rfl:k=b:=by injection e
   rw [hc] at hk;cases hk;cases ho
  ·intro c fz e
   subst e
   cases ho
theorem IsBuilderF.is_cells {T e:TypeId} {B b:Nat} {bs:List Value} {W:World} (h:Lib.IsBuilderF T e B b bs W):∃cs T' fz,W.heap[b]?=some (.cells cs T' fz):=by
 rcases h with ⟨_,v,hb,_⟩|⟨_,v,hb,_⟩
 ·exact ⟨_,_,_,hb⟩
 ·exact ⟨_,_,_,hb⟩
theorem text_any (x:Nat) (hx:x<18446744073709551616) (p:Option Addr) (c:Nat) (ns:List ByteArray) (w:World) (hn:ns.length≤maxLen) (hz:∀i,(ns.getD i ByteArray.empty).size≤maxLen) (hs:StrIn w.heap.size w p ns)
 (hT:TabAt 2 Lib.deBruijn64tab w) (h8:7≤w.heap.size) (hshort:∀k,((gl ns (min ns.length 64)).getD k ByteArray.empty).size≤32) :
 Calls prog 162 #[.int .u64 (x:Int),.slice p ns.length c] w fun e w'=>e=.returned (.string ⟨(textB (gl ns (min ns.length 64)) x).toArray⟩)∧Below w.heap.size w w':=by
 have hgood:=zl_ p c ns w hn hz hs
 generalize gl ns (min ns.length 64)=zs at hgood hshort ⊢
 refine (callsIn_wide (n:=3)).1 ?_
 refine callsIn_of_wp_marks func162 rfl trivial ?_ rfl
 simp only [ntmps162,List.size_toArray,nlk,List.length_nil,Nat.reduceAdd,Nat.reduceSub,Array.replicate_succ,Array.replicate_zero,List.push_toArray,List.append_toArray,List.nil_append,List.cons_append]
 gi_wp2_with (refine ⟨trivial,?_⟩;gi_at_call 199;refine (callsIn_wide.2 hgood).mono ?_;rintro e w1 ⟨rfl,hG,hB1,hs1⟩)
 have hI0:Lib.IsBuilderF 79 5 (w1.heap.size+1) (w1.heap.size+1) [] ((w1.alloc (.cells #[.slice (some ⟨w.heap.size,0,none⟩) 64 64] 22)).alloc (.cells #[.pointer none,.slice none 0 0] 79)):=by
  have:=Lib.IsBuilderF.of (Lib.fresh_isBuilder 79 5 (w1.alloc (.cells #[.slice (some ⟨w.heap.size,0,none⟩) 64 64] 22)))
  rwa [World.size_alloc] at this
 refine ⟨trivial,?_⟩
 gi_at_call 200
 refine (callsIn_wide.2 (d5_ (w1.heap.size+1) (w1.heap.size+1) [] 123 _ hI0 (by simp) (by simp))).mono ?_
 rintro e w3 ⟨rfl,hI1,hB3,hO3⟩
 have hBox:((w1.alloc (.cells #[.slice (some ⟨w.heap.size,0,none⟩) 64 64] 22)).alloc (.cells #[.pointer none,.slice none 0 0] 79)).cell? ⟨w1.heap.size,0,none⟩=some (.slice (some ⟨w.heap.size,0,none⟩) 64 64):=by
  rw [World.cell?_alloc_lt _ _ _ (by simp),World.cell?_alloc_new];rfl
 have hG2:GoodAt ((w1.alloc (.cells #[.slice (some ⟨w.heap.size,0,none⟩) 64 64] 22)).alloc (.cells #[.pointer none,.slice none 0 0] 79)) w.heap.size zs :=
  hG.below (((Below.refl w1.heap.size w1).alloc (Nat.le_refl _) _).alloc (by simp) _) hs1
 have hB2:Below w.heap.size w ((w1.alloc (.cells #[.slice (some ⟨w.heap.size,0,none⟩) 64 64] 22)).alloc (.cells #[.pointer none,.slice none 0 0] 79)) :=
  (hB1.alloc (by omega) _).alloc (by simp;omega) _
 have hsz2:((w1.alloc (.cells #[.slice (some ⟨w.heap.size,0,none⟩) 64 64] 22)).alloc (.cells #[.pointer none,.slice none 0 0] 79)).heap.size=w1.heap.size+1+1:=by simp
 generalize ((w1.alloc (.cells #[.slice (some ⟨w.heap.size,0,none⟩) 64 64] 22)).alloc (.cells #[.pointer none,.slice none 0 0] 79))=w2 at hBox hG2 hB2 hsz2 hB3 hO3
 have hs3:=hB3.size
 rw [hsz2] at hs3
 have hBoxB:=(hB3.cell (p:=⟨w1.heap.size,0,none⟩) (by simp)).trans hBox
 have hG3:=hG2.below hB3 (by omega)
 have hB13:=hB2.trans (hB3.mono (by omega))
 have hT3:=tab_below (by omega) hB13 hT
 clear hBox hG2 hB2 hB3 hO3 hG hB1 hgood hT hs hz hI0 hsz2
 generalize hbb:w1.heap.size=b at *
 gi_wp2_with (refine ⟨trivial,?_⟩;gi_at_call 201;refine (callsIn_wide.2 (zi_ x w3)).mono ?_;rintro e w' ⟨rfl,rfl⟩)
 have hBuild:Lib.IsBuilderF 79 5 (b+1) (b+1) (Lib.byteCells (textAcc zs [])) w3:=Or.inr hI1
 refine wpIn_rangeFunc_ownF rfl (by omega) (gf:=236) (lb:=#[.pointer (some ⟨w3.heap.size,0,none⟩)]) rfl trivial (enters_of func236 (by kernel_rfl) rfl)
  (sc_ (3 - 1) w3.heap.size (b+1) x (by omega) hx _ (by simp;omega) (by simp) (tab_below (n₀:=w3.heap.size) (by omega) ((Below.refl _ _).alloc (Nat.le_refl _) _) hT3) (by rw [World.cell?_alloc_new];rfl)) belowK_t (belowK_b (by simp;omega)) (Below.refl _ _) (fun _=>rfl)
  (fun pre W=>Lib.IsBuilderF 79 5 (b+1) (b+1) (Lib.byteCells (textAcc zs (pre.map (·.val)))) W∧Below (b+1) w3 W)
  (fun _ _ _=>False)
  (OwnFrom.and (fun s A B row hs hg hr=>IsBuilderF.turned hs hg (fun r e=>(hr r e).2)) (ownFrom_below (by omega) (by simp;omega)))
  (fun _ _ _ _ _ hs _ _=>hs)
  ⟨hBuild.alloc _,(Below.refl _ _).alloc (by omega) _⟩
  (fun k=>{ tmps:=#[.int .u64 (x:Int),.slice p ns.length c,undef,undef,.string ⟨#[]⟩,.pointer (some ⟨b,0,none⟩),.pointer (some ⟨b+1,0,none⟩),.int .i64 (k.val:Int),.slice p ns.length c,.slice (some ⟨w.heap.size,0,none⟩) 64 64,.nilIface,.int .u64 (x:Int),.func (.func 236) #[] #[.pointer (some ⟨w3.heap.size,0,none⟩)],.int .i64 (k.val:Int),undef,undef,undef,undef,undef,undef,undef,undef,undef],defers:=[] }) ?assign ?body ?done ?stop
 case assign =>
  intro l k W K hK
  gi_wp2
  exact hK
 case body =>
  rintro l pre k W ⟨hIb,hBW⟩ hlt
  have hlen:=jk_ (Tryz.Builder_Len_f (b+1) (b+1) _ W hIb)
  have hacc:=d6_ zs hshort (pre.map (·.val)) (fun j hj=>by obtain ⟨q,_,rfl⟩:=List.mem_map.1 hj;exact q.2)
  rw [List.length_map] at hacc
  rw [Lib.byteCells_length] at hlen
  have hstep:=n3_ zs (pre.map (·.val)) k.val
  have hbW:b+1≤W.heap.size:=by have:=hBW.size;omega
  have hits:=jl_ zs hshort k.val k.2
  generalize textAcc zs (pre.map (·.val))=acc at hIb hlen hacc hstep
  by_cases hgt:1<acc.length
  ·have hw1:=d5_ (b+1) (b+1) (Lib.byteCells acc) 32 W hIb (by rw [Lib.byteCells_length];omega) hbW
   rw [if_pos hgt] at hstep
   have HSTEP:=hid hstep
   clear hstep
   gi_wp2_with (refine ⟨trivial,?_⟩;gi_at_call 103;refine (CallsIn.inRound l (callsIn_wide.2 hlen)).mono ?_;rintro e w' ⟨rfl,rfl⟩)
   refine ⟨trivial,?_⟩
   gi_at_call 200
   refine (CallsIn.inRound l (callsIn_wide.2 hw1)).mono ?_
   rintro e W1 ⟨rfl,hI1',hb1,ho1⟩
   have hBW1:=hBW.trans hb1
   have hbox:=(hBW1.cell (p:=⟨b,0,none⟩) (by simp)).trans hBoxB
   have hitem:=q8_ k.val w.heap.size k.2 zs W1 (hG3.below hBW1 (by omega))
   have hI2':Lib.IsBuilderF 79 5 (b+1) (b+1) (Lib.byteCells acc++[.int .u8 32]) W1:=Or.inr hI1'
   have hw2:=writeString_any (b+1) (b+1) (Lib.byteCells acc++[.int .u8 32]) ⟨(itemB zs k.val).toArray⟩ W1 hI2' (by rw [nla,Lib.byteCells_length];simp [ByteArray.size];omega) (by have:=hb1.size;omega)
   gi_wp2_with (refine ⟨trivial,?_⟩;gi_at_call 202;refine (CallsIn.inRound l (callsIn_wide.2 hitem)).mono ?_;rintro e w' ⟨rfl,rfl⟩)
   refine ⟨trivial,?_⟩
   gi_at_call 83
   refine (CallsIn.inRound l (callsIn_wide.2 hw2)).mono ?_
   rintro e W2 ⟨rfl,hI3',hb2,ho2⟩
   gi_wp2
   have hcells:Lib.byteCells (textAcc zs ((pre++[k]).map (·.val)))=Lib.byteCells acc++[.int .u8 32]++Lib.strCells ⟨(itemB zs k.val).toArray⟩:=by
    rw [nlh]
    show Lib.byteCells (textAcc zs (pre.map (·.val)++[k.val]))=_
    rw [HSTEP.out]
    simp [Lib.byteCells,Lib.strCells]
   exact ⟨(b6_ hb1.size (IsBuilderF.is_cells hIb) ho1).trans (b6_ hb2.size (IsBuilderF.is_cells hI2') ho2),hb1.trans hb2,by rw [hcells];exact Or.inr hI3',hBW1.trans hb2⟩
  ·rw [if_neg hgt] at hstep
   have HSTEP:=hid hstep
   clear hstep
   have hbox:=(hBW.cell (p:=⟨b,0,none⟩) (by simp)).trans hBoxB
   have hitem:=q8_ k.val w.heap.size k.2 zs W (hG3.below hBW (by omega))
   have hw2:=writeString_any (b+1) (b+1) (Lib.byteCells acc) ⟨(itemB zs k.val).toArray⟩ W hIb (by rw [Lib.byteCells_length];simp [ByteArray.size];omega) hbW
   gi_wp2_with (first|(refine ⟨trivial,?_⟩;gi_at_call 103;refine (CallsIn.inRound l (callsIn_wide.2 hlen)).mono ?_;rintro e w' ⟨rfl,rfl⟩)|(refine ⟨trivial,?_⟩;gi_at_call 202;refine (CallsIn.inRound l (callsIn_wide.2 hitem)).mono ?_;rintro e w' ⟨rfl,rfl⟩))
   refine ⟨trivial,?_⟩
   gi_at_call 83
   refine (CallsIn.inRound l (callsIn_wide.2 hw2)).mono ?_
   rintro e W2 ⟨rfl,hI3',hb2,ho2⟩
   gi_wp2
   have hcells:Lib.byteCells (textAcc zs ((pre++[k]).map (·.val)))=Lib.byteCells acc++Lib.strCells ⟨(itemB zs k.val).toArray⟩:=by
    rw [nlh]
    show Lib.byteCells (textAcc zs (pre.map (·.val)++[k.val]))=_
    rw [HSTEP.out]
    simp [Lib.byteCells,Lib.strCells]
   exact ⟨b6_ hb2.size (IsBuilderF.is_cells hIb) ho2,hb2,by rw [hcells];exact Or.inr hI3',hBW.trans hb2⟩
 case done =>
  rintro D ys W hD hS ⟨hIb,hBW⟩ hK
  rw [hS] at hIb
  have hbW:b+1≤W.heap.size:=by have:=hBW.size;omega
  have hacc:=d6_ zs hshort (bitsOf x) (nz_ x)
  have hl64:=d4_ x
  have hle:=l9_ 64 x
  have hD':b+1<D:=by simp at hD;omega
  have HT:=hid (show textB zs x=textAcc zs (bitsOf x)++[125] from rfl)
  generalize textAcc zs (bitsOf x)=acc at hIb hacc HT
  have hw1:=d5_ (b+1) (b+1) (Lib.byteCells acc) 125 W hIb (by rw [Lib.byteCells_length];omega) hbW
  gi_wp2_with fail
  refine ⟨trivial,?_⟩
  gi_at_call 200
  refine (callsIn_wide.2 hw1).mono ?_
  rintro e W1 ⟨rfl,hI1',hb1,ho1⟩
  have hk1:=b6_ hb1.size (IsBuilderF.is_cells hIb) ho1
  have hI2':Lib.IsBuilderF 79 5 (b+1) (b+1) (Lib.byteCells (acc++[125])) W1:=by
   have:Lib.byteCells (acc++[125])=Lib.byteCells acc++[.int .u8 125]:=by simp [Lib.byteCells]
   rw [this];exact Or.inr hI1'
  have hst:=Tryz.Builder_String_any_k (b+1) (b+1) (acc++[125]) W1 hI2' (by have:=hb1.size;omega)
  gi_wp2_with fail
  refine ⟨trivial,?_⟩
  gi_at_call 34
  refine (callsIn_wide.2 hst).mono ?_
  rintro e W2 ⟨rfl,hI3',hb2,ho2⟩
  have hk2:=b6_ hb2.size (IsBuilderF.is_cells hI2') ho2
  have hK2:=hk2.same D _ (hk1.same D _ hK rfl) rfl
  gi_wp2
  refine ⟨by simp,.inl ⟨_,_,rfl,run_takeDeferred hK2,?_⟩⟩
  refine ⟨_,results_tmp rfl _ _ _,?_,?_⟩
  ·exact o4_ (by rw [HT.out])
  ·exact (hB13.trans ((hBW.trans (hb1.trans hb2)).mono (by omega))).trans (belowK_b (w:=w) (Nat.le_refl _) W2 D _ _ (by omega) hK2 rfl rfl)
 case stop =>
  rintro D cc pre W _ _ h _
  exact h.elim
end Go.Proofs.YtpcniebkabkikaaGreatDoor.Bt
namespace Go.Proofs.YtpcniebkabkikaaGreatDoor
open Go
open Go.Proofs.Syn (Tm opLv opMark unMark b1_)
structure DeZ where
 name:ByteArray
 label:Nat
deriving DecidableEq
structure ArZ where
 name:ByteArray
 len:Int
 label:Nat
deriving DecidableEq
deriving instance DecidableEq for TmZ
deriving instance DecidableEq for StZ
structure FnZ where
 name:ByteArray
 level:Nat
 params:List DeZ
 results:List Nat
 vars:List DeZ
 body:List StZ
deriving DecidableEq
structure SoZ where
 principals:List ByteArray
 globals:List DeZ
 arrays:List ArZ
 channels:List DeZ
 funcs:List FnZ
deriving DecidableEq
def dgN (n:Nat):List Nat:=(Lib.decDigits n).map UInt8.toNat
def itN (n:Int):List Nat:=if n<0 then 45::dgN n.natAbs else dgN n.natAbs
def wantZ (t:TmZ):Nat:=if t.kind=5 then 2 else if t.kind=3∨t.kind=4 then 1 else 0
def rightZ (t:TmZ):Bool :=
 if t.kind=1 then decide (0≤t.value) && t.name.toList.isEmpty
 else if t.kind=2∨t.kind=3 then decide (t.value=0) && isL (bl t.name) == 1
 else if t.kind=4 then decide (15≤t.value∧t.value≤17) && t.name.toList.isEmpty
 else if t.kind=5 then decide (1≤t.value∧t.value≤14) && t.name.toList.isEmpty
 else false
def wholeF:List TmZ→Nat→Option Nat
 | [],n=>some n
 | t::l,n=>if rightZ t && decide (wantZ t≤n) then wholeF l (n - wantZ t+1) else none
def wholeZ (l:List TmZ):Bool:=wholeF l 0 == some 1
def tmN (t:TmZ):Tm:=⟨t.kind.toNat,t.value.toNat,bl t.name⟩
def textZ (l:List TmZ):List Nat:=match goX dgN (l.map tmN) [] with
 | some [x]=>x.1
 | _=>[]
def exZ (l:List TmZ):List Nat:=if wholeZ l then textZ l else []
def lvZ (l:List TmZ):Int:=if wholeZ l then (match l.getLast? with | some t=>(lvT (tmN t):Int) | none=>-1) else -1
def sepZ {α:Type} (s:List Nat) (f:α→List Nat):List α→List Nat
 | []=>[]
 | x::l=>f x++l.flatMap fun y=>s++f y
theorem w5_ {α:Type} (s:List Nat) (f:α→List Nat) (l:List α) (x:α):sepZ s f (l++[x])=sepZ s f l++((if l.length=0 then [] else s)++f x):=by
 cases l with
 | nil=>simp [sepZ]
 | cons y l=>simp [sepZ]
def lbZ (ns:List ByteArray) (l:Nat):List Nat:=(Bt.textB (Bt.gl ns (min ns.length 64)) l).map UInt8.toNat
def declZ (ns:List ByteArray) (d:DeZ):List Nat:=bl d.name++32::lbZ ns d.label
def exAt (x:StZ) (k:Nat):List Nat:=match x.exprs[k]? with
 | some e=>exZ e
 | none=>[]
def tgZ (x:StZ):List Nat:=sepZ [44,32] bl x.targets
def exsZ (x:StZ):List Nat:=sepZ [44,32] exZ x.exprs
def lineZ (x:StZ):List Nat :=
 if x.kind=1 then tgZ x++([32,61,32]++(exAt x 0++[59]))
 else if x.kind=2 then bl x.name++([91]++(exAt x 0++([93,32,61,32]++(exAt x 1++[59]))))
 else if x.kind=3 then [115,101,110,100,32]++(bl x.name++([32]++(exAt x 0++[59])))
 else if x.kind=4 then (if x.targets.length=0 then [] else tgZ x++[32,61,32])++(bl x.name++([40]++(exsZ x++[41,59])))
 else if x.kind=5 then [105,102,32]++(exAt x 0++[32,123])
 else if x.kind=6 then [125,32,101,108,115,101,32,123]
 else if x.kind=7 then [119,104,105,108,101,32]++(exAt x 0++[32,123])
 else if x.kind=8 then [125]
 else [114,101,116,117,114,110]++((if x.exprs.length=0 then [] else [32]++exsZ x)++[59])
def stZ (d:Int) (x:StZ):List Nat:=if x.kind<1∨9<x.kind then [] else List.replicate (2*d.toNat) 32++(lineZ x++[10])
def dpZ (d:Int) (x:StZ):Int:=if x.kind=6∨x.kind=8 then d - 1 else d
def nxZ (d:Int) (x:StZ):Int:=if x.kind=5∨x.kind=7 then d+1 else if x.kind=8 then d - 1 else d
def bodyZ:Int→List StZ→List Nat
 | _,[]=>[]
 | d,x::l=>stZ (dpZ d x) x++bodyZ (nxZ d x) l
def depZ:Int→List StZ→Int
 | d,[]=>d
 | d,x::l=>depZ (nxZ d x) l
theorem n4_ (x:StZ):∀(l:List StZ) (d:Int),depZ d (l++[x])=nxZ (depZ d l) x
 | [],_=>rfl
 | _::l,_d=>n4_ x l _
theorem kk_ (x:StZ):∀(l:List StZ) (d:Int),bodyZ d (l++[x])=bodyZ d l++stZ (dpZ (depZ d l) x) x
 | [],d=>by simp [bodyZ,depZ]
 | y::l,d=>by rw [List.cons_append,bodyZ,bodyZ,kk_ x l,depZ,nlb]
theorem w6_:∀(l:List StZ) (d:Int),depZ d l≤d+l.length∧d - l.length≤depZ d l
 | [],d=>by simp [depZ]
 | x::l,d=>by
  have:=w6_ l (nxZ d x)
  have h:nxZ d x≤d+1∧d - 1≤nxZ d x:=by unfold nxZ;split <;> (try split) <;> omega
  rw [depZ,nlk];omega
def kdZ (s:List Nat) (ns:List ByteArray) (d:DeZ):List Nat:=s++(declZ ns d++[59,10])
def fnZ (ns:List ByteArray) (f:FnZ):List Nat :=
 [102,117,110,99,32]++(declZ ns ⟨f.name,f.level⟩++([32,40]++(sepZ [44,32] (declZ ns) f.params++([41,32,40]++(sepZ [44,32] (lbZ ns) f.results++([41,32,123,10]++(f.vars.flatMap (kdZ [32,32,118,97,114,32] ns)++(bodyZ 1 f.body++[125,10]))))))))
def arZ (ns:List ByteArray) (a:ArZ):List Nat:=[97,114,114,97,121,32]++(bl a.name++([32]++(itN a.len++([32]++(lbZ ns a.label++[59,10])))))
def soZ (s:SoZ):List Nat :=
 (if s.principals.length=0 then [] else [112,114,105,110,99,105,112,97,108,32]++(sepZ [32] bl s.principals++[59,10])) ++
  (s.globals.flatMap (kdZ [103,108,111,98,97,108,32] s.principals)++(s.arrays.flatMap (arZ s.principals)++(s.channels.flatMap (kdZ [99,104,97,110,110,101,108,32] s.principals)++s.funcs.flatMap (fnZ s.principals))))
end Go.Proofs.YtpcniebkabkikaaGreatDoor
