/- A source whose one body is another row: how it lies. A source with a more secret channel, as it lies. Plain facts on a text's words: all of them, ahead of the first fault; each is good by itself; their texts with blanks between have the same words. (No seat's own names: to be renamed to the seat tha -/
import Derived.Test.YtlpdjfimefjmcaaGreatDoorFlOpenPR19
import Derived.Test.YtlpdjfimefjmcaaGreatDoorFlOpenPR20
import Derived.Test.YtlpdjfimefjmcaaGreatDoorFlOpenPR2
import Derived.Test.YtlpdjfimefjmcaaGreatDoorProg
import Derived.WalkKit
import Derived.Outline
import Derived.Lib.Hide
import Derived.LoopTactic
import Derived.Lib.Strings
import Derived.Lib.ParseIntBCases
open Go.Lib (hid)
namespace Go.Proofs.YtlpdjfimefjmcaaGreatDoor
open Go Go.RowKit Go.Proofs.Mm
section
variable {C D:Cl}
theorem slx_wk {α:Type} {mk:List Value} {bs:Nat} {C:Cl} {R:List Value→α→Prop} {v:Value} {l:List α} (h:SlX mk bs C R v l):SlX [] bs C R v l:=by
 obtain ⟨q,c,cs,h1,_,h3,h4⟩:=h
 exact ⟨q,c,cs,h1,.inl rfl,by rw [List.append_nil];exact h3.left,h4⟩
theorem cle_refl:CLe C C:=fun _ _ e=>e
theorem str_weak {v:Value} {l:List ByteArray} (h:StrR true C v l):StrR false C v l:=slx_wk h
theorem tms_weak {v:Value} {l:List TmZ} (h:TmsR true C v l):TmsR false C v l:=slx_wk h
theorem exs_weak {v:Value} {l:List (List TmZ)} (h:ExsR true C v l):ExsR false C v l:=slx_wk (SlX.mono h cle_refl fun _ _ ⟨u,e,hu⟩=>⟨u,e,tms_weak hu⟩)
theorem st_weak {c:List Value} {x:StZ} (h:StR1 true C c x):StR1 false C c x:=by
 obtain ⟨vt,ve,e,h1,h2⟩:=h
 exact ⟨vt,ve,e,str_weak h1,exs_weak h2⟩
theorem bd_weak {v:Value} {l:List StZ} (h:BdR true C v l):BdR false C v l:=slx_wk (SlX.mono h cle_refl fun _ _ e=>st_weak e)
theorem des_weak {v:Value} {l:List DeZ} (h:DesR true C v l):DesR false C v l:=slx_wk h
theorem las_weak {v:Value} {l:List Nat} (h:LasR true C v l):LasR false C v l:=slx_wk h
theorem ars_weak {v:Value} {l:List ArZ} (h:ArsR true C v l):ArsR false C v l:=slx_wk h
theorem fn_weak {c:List Value} {x:FnZ} (h:FnR1 true C c x):FnR1 false C c x:=by
 obtain ⟨a,b,d,e,h0,h1,h2,h3,h4,h5⟩:=h
 exact ⟨a,b,d,e,h0,h1,des_weak h2,las_weak h3,des_weak h4,bd_weak h5⟩
theorem enc_new {α:Type} {R:List Value→α→Prop} {size g:Nat}:∀(l:List α) (o:Nat),(∀j (hj:j<l.length),∃e:List Value,R e l[j]∧e.length=size∧∀(r:Nat) (u:Value),e[r]?=some u→D ⟨g,o+j*size+r,none⟩=some u)→∃cs,Enc R cs l∧∀(i:Nat) (u:Value),cs[i]?=some u→D ⟨g,o+i,none⟩=some u
 | [],o,_=>⟨[],rfl,fun i u hu=>by simp at hu⟩
 | x::l,o,h=>by
  obtain ⟨e,h1,h2,h3⟩:=h 0 (by simp)
  obtain ⟨cs,k1,k2⟩:=enc_new (R:=R) (size:=size) (g:=g) l (o+size) (fun j hj=>by
   obtain ⟨e,p1,p2,p3⟩:=h (j+1) (by simpa using hj)
   exact ⟨e,by simpa using p1,p2,fun r u hu=>by
    have:=p3 r u hu
    rw [show o+(j+1)*size+r=o+size+j*size+r by rw [Nat.add_mul];omega] at this
    exact this⟩)
  refine ⟨e++cs,⟨e,cs,rfl,by simpa using h1,k1⟩,fun i u hu=>?_⟩
  by_cases hi:i<e.length
  ·rw [List.getElem?_append_left hi] at hu
   have:=h3 i u hu
   rwa [Nat.zero_mul,Nat.add_zero] at this
  ·rw [List.getElem?_append_right (by omega)] at hu
   have:=k2 (i - e.length) u hu
   rwa [show o+size+(i - e.length)=o+i by omega] at this
theorem slx_new {α:Type} {R:List Value→α→Prop} {size bs g o c:Nat} {l:List α} (hb:l.length*bs≤140737488351232) (hc:c≤maxLen) (hl:l.length≤c)
 (h:∀j (hj:j<l.length),∃e:List Value,R e l[j]∧e.length=size∧∀(r:Nat) (u:Value),e[r]?=some u→D ⟨g,o+j*size+r,none⟩=some u):SlX [] bs D R (.slice (some ⟨g,o,none⟩) l.length c) l:=by
 obtain ⟨cs,h1,h2⟩:=enc_new l o h
 exact ⟨_,_,cs,rfl,.inl rfl,.inr ⟨g,o,rfl,by rw [List.append_nil];exact h2⟩,h1,hb,hc,(fun h=>nomatch h),hl⟩
end
theorem src_chan {w w' V:World} {s:SoZ} {p1 p2 p3 p4 p5:Option Addr} {d1 d2 d3 d4 d5 g o:Nat} {mP mG mH mA mF:Mem} (sp:Sep w w' mP mG mH mA mF)
 (h1:StrR true (mC mP) (.slice p1 s.principals.length d1) s.principals) (h2:DesR true (mC mG) (.slice p2 s.globals.length d2) s.globals) (h3:ArsR true (mC mA) (.slice p3 s.arrays.length d3) s.arrays) (h4:DesR true (mC mH) (.slice p4 s.channels.length d4) s.channels) (h5:FnsR true (mC mF) (.slice p5 s.funcs.length d5) s.funcs)
 (c:Nat) (hc:c<s.channels.length) (mr:Nat) (hmr:mr<u64B) (hq:p4=some ⟨g,o,none⟩) (hcell:V.cell? ⟨g,o+c*2+1,none⟩=some (.int .u64 ((s.channels[c].label ||| mr:Nat):Int)))
 (hoth:∀a v,a≠⟨g,o+c*2+1,none⟩→w'.cell? a=some v→V.cell? a=some v):SrcO false (wC V) (upC s c hc mr) p1 d1 p2 d2 p3 d3 p4 d4 p5 d5:=by
 obtain ⟨f,hf⟩:=sp.own
 have hgH:∃ob,mH g=some ob:=by
  obtain ⟨g',o',e,a0,_⟩:=h4.cells c hc
  rw [hq] at e
  injection e with e
  injection e with e1 e2
  subst e1
  cases hm:mH g with
  | some ob=>exact ⟨ob,rfl⟩
  | none =>
   unfold mC at a0
   simp only [hm] at a0
   cases a0
 obtain ⟨ob,hob⟩:=hgH
 have f3:=((hf g ob).2.2.1 hob).1
 have cl:∀(m:Mem) (i:Nat),i≠3→Has w' m→(∀k o,m k=some o→f k=i)→CLe (mC m) (wC V):=fun m i hi hH hm a v e=>by
  have hw:=has_cle hH a v e
  refine hoth a v (fun ea=>?_) hw
  have hne:∃o2,m a.block=some o2:=by
   cases hx:m a.block with
   | some o2=>exact ⟨o2,rfl⟩
   | none =>
    unfold mC at e
    simp only [hx] at e
    cases e
  obtain ⟨o2,ho2⟩:=hne
  have:=hm _ _ ho2
  rw [ea] at this
  exact hi (this.symm.trans f3)
 refine ⟨(str_weak h1).le (cl mP 1 (by decide) sp.hP fun k o e=>((hf k o).1 e).1),(des_weak h2).le (cl mG 2 (by decide) sp.hG fun k o e=>((hf k o).2.1 e).1),(ars_weak h3).le (cl mA 4 (by decide) sp.hA fun k o e=>((hf k o).2.2.2.1 e).1),?_,FnsR.le (slx_wk (SlX.mono h5 cle_refl fun _ _ e=>fn_weak e)) (cl mF 5 (by decide) sp.hF fun k o e=>((hf k o).2.2.2.2 e).1)⟩
 obtain ⟨q,cc,cs,e0,_,_,_,hb,hcm,_,hle⟩:=id h4
 injection e0 with e1 e2 e3
 subst e3
 have hlen:(upC s c hc mr).channels.length=s.channels.length:=by simp [upC]
 subst hq
 rw [←hlen] at hb hle
 refine slx_new (size:=2) hb hcm hle fun j hj=>?_
 have hj':j<s.channels.length:=by omega
 obtain ⟨g',o',e,a0,a1,hl⟩:=h4.cells j hj'
 injection e with e
 injection e with e1 e2
 subst e1 e2
 have b0:=has_cle sp.hH _ _ a0
 have b1:=has_cle sp.hH _ _ a1
 by_cases hjc:j=c
 ·subst hjc
  have ec:(upC s j hc mr).channels[j]=⟨s.channels[j].name,s.channels[j].label ||| mr⟩:=by simp [upC]
  refine ⟨deZ ⟨s.channels[j].name,s.channels[j].label ||| mr⟩,?_,rfl,fun r u hu=>?_⟩
  ·rw [ec]
   exact ⟨rfl,Nat.or_lt_two_pow (n:=64) hl hmr⟩
  ·rcases r with _|_|r
   ·injection hu with hu
    subst hu
    exact hoth _ _ (fun ea=>by simp at ea <;> omega) b0
   ·injection hu with hu
    subst hu
    exact hcell
   ·simp [deZ] at hu
 ·have ec:(upC s c hc mr).channels[j]=s.channels[j]:=by simp [upC,Ne.symm hjc]
  refine ⟨deZ s.channels[j],?_,rfl,fun r u hu=>?_⟩
  ·rw [ec]
   exact ⟨rfl,hl⟩
  ·rcases r with _|_|r
   ·injection hu with hu
    subst hu
    exact hoth _ _ (fun ea=>by simp at ea <;> omega) b0
   ·injection hu with hu
    subst hu
    exact hoth _ _ (fun ea=>by simp at ea <;> omega) b1
   ·simp [deZ] at hu
theorem bits_or_nat (a b:Nat) (ha:a<u64B) (hb:b<u64B):bits .or .u64 (a:Int) (b:Int)=((a ||| b:Nat):Int):=by
 have h1:(BitVec.ofInt 64 (a:Int)).toNat=a:=by
  rw [BitVec.ofInt_natCast,BitVec.toNat_ofNat];exact Nat.mod_eq_of_lt ha
 have h2:(BitVec.ofInt 64 (b:Int)).toNat=b:=by
  rw [BitVec.ofInt_natCast,BitVec.toNat_ofNat];exact Nat.mod_eq_of_lt hb
 have hx:a ||| b<18446744073709551616:=Nat.or_lt_two_pow (n:=64) ha hb
 show IntKind.u64.wrap ((BitVec.ofInt 64 (a:Int) ||| BitVec.ofInt 64 (b:Int)).toNat:Int)=_
 rw [BitVec.toNat_or,h1,h2]
 exact cast_wrap _ hx
theorem bits_and_one (a:Nat) (ha:a<u64B):bits .and .u64 (a:Int) 1=((a &&& 1:Nat):Int):=by
 have h1:(BitVec.ofInt 64 (a:Int)).toNat=a:=by
  rw [BitVec.ofInt_natCast,BitVec.toNat_ofNat];exact Nat.mod_eq_of_lt ha
 have h2:(BitVec.ofInt 64 (1:Int)).toNat=1:=by decide
 have hx:a &&& 1<18446744073709551616:=by have:=@Nat.and_le_right a 1;omega
 show IntKind.u64.wrap ((BitVec.ofInt 64 (a:Int) &&& BitVec.ofInt 64 (1:Int)).toNat:Int)=_
 rw [BitVec.toNat_and,h1,h2]
 exact cast_wrap _ hx
theorem mC_free {w:World} {m:Mem} (hH:Has w m) {g o:Nat} {v:Value} (h:mC m ⟨g,o,none⟩=some v):w.frozen? ⟨g,o,none⟩=false:=by
 unfold mC at h
 cases hm:m g with
 | none=>simp only [hm] at h;cases h
 | some ob =>
  simp only [hm] at h
  have hh:=hH _ _ hm
  cases ob with
  | cells cur T r =>
   simp only at h
   split at h
   ·rename_i hr
    obtain ⟨-,rfl⟩:=hr
    exact free_of hh
   ·cases h
  | _=>cases h
theorem flows_chan {V:World} {s:SoZ} {p1 p2 p3 p4 p5:Option Addr} {d1 d2 d3 d4 d5:Nat} {c:Nat} {hc:c<s.channels.length} {mr:Nat} (h:SrcO false (wC V) (upC s c hc mr) p1 d1 p2 d2 p3 d3 p4 d4 p5 d5) {R:Int × Int × Int} (hR:flowZ (upC s c hc mr)=R) :
 Calls Tryz.prog 10 #[.agg #[.slice p1 s.principals.length d1,.slice p2 s.globals.length d2,.slice p3 s.arrays.length d3,.slice p4 s.channels.length d4,.slice p5 s.funcs.length d5]] V (RetB (.agg (flA R)) V):=by
 have h1:=flows_p h cle_refl
 rw [hR] at h1
 unfold srV at h1
 have e1:(upC s c hc mr).principals=s.principals:=rfl
 have e2:(upC s c hc mr).globals=s.globals:=rfl
 have e3:(upC s c hc mr).arrays=s.arrays:=rfl
 have e4:(upC s c hc mr).channels.length=s.channels.length:=by simp [upC]
 have e5:(upC s c hc mr).funcs=s.funcs:=rfl
 rw [e1,e2,e3,e4,e5] at h1
 exact h1
theorem flows_one {V:World} {s:SoZ} {one:Nat} {p1 p2 p3 p4 p5:Option Addr} {d1 d2 d3 d4 d5:Nat} (h:SrcO false (wC V) (oS one s) p1 d1 p2 d2 p3 d3 p4 d4 p5 d5) (hR:flowZ (oS one s)=(0,0,0)) :
 Calls Tryz.prog 10 #[.agg #[.slice p1 s.principals.length d1,.slice p2 s.globals.length d2,.slice p3 s.arrays.length d3,.slice p4 s.channels.length d4,.slice p5 s.funcs.length d5]] V (RetB (.agg (flA (0,0,0))) V):=by
 have h1:=flows_p h cle_refl
 rw [hR] at h1
 unfold srV at h1
 have e1:(oS one s).principals=s.principals:=rfl
 have e2:(oS one s).globals.length=s.globals.length:=by simp [oS]
 have e3:(oS one s).arrays.length=s.arrays.length:=by simp [oS]
 have e4:(oS one s).channels.length=s.channels.length:=by simp [oS]
 have e5:(oS one s).funcs.length=s.funcs.length:=by simp [oS]
 rw [e1,e2,e3,e4,e5] at h1
 exact h1
structure XI (one:Nat) (m:Mem) (W:World) (bt:Nat) (S:Array Value) (D:Addr→Prop) (V:World):Prop where
 tl:TL one (mC m) D V
 free:∀a v,mC m a=some v→V.frozen? a=false
 new:∀a v,mC m a=some v→W.heap.size≤a.block∧a.block≠bt∧a.spot=none
 box:InB V bt S 27
 low:Below W.heap.size W V
theorem XI.turn {one:Nat} {m:Mem} {W:World} {bt:Nat} {S:Array Value} {D:Addr→Prop} {V:World} (h:XI one m W bt S D V) {g o:Nat} {x:Int} (hL:mC m ⟨g,o,none⟩=some (.int .u64 x)):XI one m W bt S (fun b=>D b∨b=⟨g,o,none⟩) (V.setCell ⟨g,o,none⟩ (.int .u64 (one:Nat))):=by
 obtain ⟨y,hy⟩:=h.tl.cur hL
 obtain ⟨n1,n2,-⟩:=h.new _ _ hL
 have hself:(V.setCell ⟨g,o,none⟩ (.int .u64 (one:Nat))).cell? ⟨g,o,none⟩=some (.int .u64 (one:Nat)):=by
  apply World.cell?_setCell_same
  exact hy
 refine ⟨h.tl.step hL hself fun b v hb hv=>?_,fun a v hv=>(World.frozen?_setCell ..).trans (h.free a v hv),h.new,?_,h.low.setCell n1 _⟩
 ·obtain ⟨pb,po,ps⟩:=b
  obtain rfl:ps=none:=(h.new _ _ hv).2.2
  apply World.cell?_setCell_other
  exact fun e=>hb e.symm
 ·exact heap_other h.box (fun e=>n2 e.symm)
theorem Pos.up {D D':Addr→Prop} {q:Option Addr} {n st a:Nat} (h:Pos D q n st a) (hD:∀a,D a→D' a):Pos D' q n st a:=fun j hj g o e=>hD _ (h j hj g o e)
theorem PosN.up {D D':Addr→Prop} {L:Cl} {g o:Nat} {f:FnZ} (h:PosN D L g o f) (hD:∀a,D a→D' a):PosN D' L g o f :=
 ⟨hD _ h.1,fun q c e=>(h.2.1 q c e).up hD,fun q c e=>(h.2.2.1 q c e).up hD,fun q c e=>(h.2.2.2 q c e).up hD⟩
theorem PosFl.up {D D':Addr→Prop} {L:Cl} {q:Option Addr} {l:List FnZ} {k:Nat} (h:PosFl D L q l k) (hD:∀a,D a→D' a):PosFl D' L q l k:=fun j hj hk g o e=>(h j hj hk g o e).up hD
theorem Pos.one_more {D:Addr→Prop} {n st a g o:Nat} (h:Pos D (some ⟨g,o,none⟩) n st a):Pos (fun b=>D b∨b=⟨g,o+n*st+a,none⟩) (some ⟨g,o,none⟩) (n+1) st a:=fun j hj g' o' e=>by
 injection e with e
 injection e with e1 e2
 subst e1 e2
 by_cases hn:j=n
 ·subst hn;exact .inr rfl
 ·exact .inl (h j (by omega) _ _ rfl)
theorem Pos.none_yet {D:Addr→Prop} {q:Option Addr} {st a:Nat}:Pos D q 0 st a:=fun j hj=>absurd hj (by omega)
theorem PosFl.one_more {D:Addr→Prop} {L:Cl} {g o:Nat} {l:List FnZ} {k:Nat} (h:PosFl D L (some ⟨g,o,none⟩) l k) (hk:k<l.length) (hn:PosN D L g (o+k*6) l[k]):PosFl D L (some ⟨g,o,none⟩) l (k+1):=fun j hj hj2 g' o' e=>by
 injection e with e
 injection e with e1 e2
 subst e1 e2
 by_cases hn2:j=k
 ·subst hn2;exact hn
 ·exact h j hj (by omega) _ _ rfl
theorem PosFl.none_yet {D:Addr→Prop} {L:Cl} {q:Option Addr} {l:List FnZ}:PosFl D L q l 0:=fun j _ hk=>absurd hk (by omega)
theorem mC_known {m:Mem} {a:Addr} {v:Value} (h:mC m a=some v):(∃ob,m a.block=some ob)∧a.spot=none:=by
 unfold mC at h
 cases hm:m a.block with
 | none=>simp only [hm] at h;cases h
 | some ob =>
  refine ⟨⟨ob,rfl⟩,?_⟩
  simp only [hm] at h
  cases ob with
  | cells cur T r =>
   simp only at h
   split at h
   ·rename_i hr
    exact hr.1
   ·cases h
  | _=>cases h
theorem XI.start {one:Nat} {m:Mem} {W w:World} {S:Array Value} (hH:Has w m) (hn:∀k o,m k=some o→W.heap.size≤k) (hb:Below W.heap.size W w):XI one m W w.heap.size S (fun _=>False) (w.alloc (.cells S 27)):=by
 have hal:=bl_al (Below.refl w.heap.size w) (.cells S 27)
 refine ⟨⟨fun a v hv=>.inl (below_cle hal _ _ (has_cle hH _ _ hv)),fun _ _ e=>e.elim⟩,fun a v hv=>?_,fun a v hv=>?_,InB.new w _ _,bl_tr hb hal⟩
 ·obtain ⟨-,hs⟩:=mC_known hv
  obtain ⟨ab,ao,asp⟩:=a
  obtain rfl:asp=none:=hs
  rw [←mC_free hH hv]
  exact World.frozen?_of_block (hal.block _ (World.block_lt_of_cell? _ _ (has_cle hH _ _ hv)))
 ·obtain ⟨⟨ob,ho⟩,hs⟩:=mC_known hv
  have:=World.block_lt_of_cell? _ _ (has_cle hH _ _ hv)
  exact ⟨hn _ _ ho,by omega,hs⟩
theorem lbl_one {s:SoZ} {mr:Nat}:lblE s (if s.principals.length=0 then 0 else mr &&& 1)=0:=by
 unfold lblE
 apply unl_true
 rw [beq_iff_eq]
 split
 ·exact Nat.zero_shiftRight _
 ·rw [Nat.shiftRight_eq_div_pow]
  apply Nat.div_eq_of_lt
  have h1:mr &&& 1≤1:=Nat.and_le_right
  have h2:2 ^ 1≤2 ^ s.principals.length:=Nat.pow_le_pow_right (by decide) (by omega)
  omega
end Go.Proofs.YtlpdjfimefjmcaaGreatDoor
namespace Go.Proofs.YtlpdjfimefjmcaaGreatDoor.Q
structure Tok where
 kind:Nat
 text:List Nat
 value:Nat
 at_:Nat
deriving DecidableEq
def valD (l:List Nat):Nat:=l.foldl (fun n d=>10*n+(d - 48)) 0
abbrev most:Nat:=9223372036854775807
def inC (c:Nat):Bool:=c != 10
theorem drop_lt (c:Nat) (r:List Nat) (n:Nat) (h:n≠0):((c::r).drop n).length<(c::r).length:=by
 rw [List.length_drop,List.length_cons];omega
theorem dropWhile_lt (r:List Nat):((35::r).dropWhile inC).length<(35::r).length:=by
 rw [List.dropWhile_cons,if_pos (by decide)]
 have:=(List.dropWhile_sublist inC (l:=r)).length_le
 rw [List.length_cons];omega
def scanL (l:List Nat) (a:Nat):List Tok × Nat × Nat :=
 match l with
 | []=>([],a,0)
 | c::r =>
  if blankB c then scanL r (a+1)
  else if _h35:c=35 then scanL ((c::r).dropWhile inC) (a+((c::r).takeWhile inC).length)
  else if _h0:(wordL (c::r)).1=0 then ([],a,40)
  else if (wordL (c::r)).2=1∧32<(wordL (c::r)).1 then ([],a,3)
  else if (wordL (c::r)).2=3∧most<valD ((c::r).take (wordL (c::r)).1) then ([],a,3)
  else
   (⟨(wordL (c :: r)).2,(c :: r).take (wordL (c :: r)).1,if (wordL (c :: r)).2=3 then valD ((c :: r).take (wordL (c :: r)).1) else 0,a⟩ :: (scanL ((c :: r).drop (wordL (c :: r)).1) (a+(wordL (c :: r)).1)).1,
     (scanL ((c::r).drop (wordL (c::r)).1) (a+(wordL (c::r)).1)).2)
termination_by l.length
decreasing_by
 ·simp
 ·subst _h35;exact dropWhile_lt r
 ·exact drop_lt c r _ _h0
theorem scanL_blank {c:Nat} (r:List Nat) (a:Nat) (h:blankB c=true):scanL (c::r) a=scanL r (a+1):=by rw [scanL,if_pos h]
structure Good (k:Nat) (t:List Nat) (v:Nat):Prop where
 word:wordL t=(t.length,k)
 ne:t≠[]
 head:∀c,t.head?=some c→blankB c=false∧c≠35
 name:¬(k=1∧32<t.length)
 num:¬(k=3∧most<valD t)
 val:v=if k=3 then valD t else 0
theorem good_of {s:List Nat} (hs:(wordL s).1≠0) (hh:∀c,s.head?=some c→blankB c=false∧c≠35) (hn:¬((wordL s).2=1∧32<(wordL s).1)) (hu:¬((wordL s).2=3∧most<valD (s.take (wordL s).1))) :
 Good (wordL s).2 (s.take (wordL s).1) (if (wordL s).2=3 then valD (s.take (wordL s).1) else 0):=by
 have hle:=wordL_le s
 have hlen:(s.take (wordL s).1).length=(wordL s).1:=by rw [List.length_take];omega
 have hag:=wordL_again s hs [] (.inl rfl)
 rw [List.append_nil] at hag
 refine ⟨by rw [hag,hlen],fun e=>hs (by rw [←hlen,e];rfl),fun c hc=>?_,by rw [hlen];exact hn,hu,rfl⟩
 cases s with
 | nil=>simp at hc
 | cons d s =>
  obtain ⟨n,hn'⟩:∃n,(wordL (d::s)).1=n+1:=⟨(wordL (d::s)).1 - 1,by omega⟩
  rw [hn',List.take_succ_cons] at hc
  obtain rfl:d=c:=by simpa using hc
  exact hh d rfl
theorem scanL_all:∀(N:Nat) (l:List Nat),l.length≤N→∀a,∀t∈(scanL l a).1,Good t.kind t.text t.value
 | _,[],_,a,t,ht=>by rw [scanL] at ht;exact absurd ht (by simp)
 | 0,c::r,h,_,_,_=>absurd h (by simp)
 | N+1,c::r,h,a,t,ht=>by
  have hr:r.length≤N:=by simpa using h
  rw [scanL] at ht
  split at ht
  ·exact scanL_all N r hr _ t ht
  ·rename_i hb
   split at ht
   ·rename_i h35
    subst h35
    exact scanL_all N _ (by have:=dropWhile_lt r;rw [List.length_cons] at this;omega) _ t ht
   ·rename_i h35
    split at ht
    ·exact absurd ht (by simp)
    ·rename_i h0
     split at ht
     ·exact absurd ht (by simp)
     ·rename_i hn
      split at ht
      ·exact absurd ht (by simp)
      ·rename_i hu
       rcases List.mem_cons.1 ht with rfl|ht
       ·refine good_of h0 (fun d hd=>?_) hn hu
        obtain rfl:c=d:=by simpa using hd
        exact ⟨by simpa using hb,h35⟩
       ·exact scanL_all N _ (by have:=drop_lt c r _ h0;rw [List.length_cons] at this;omega) _ t ht
end Go.Proofs.YtlpdjfimefjmcaaGreatDoor.Q
namespace Go.Proofs.YtlpdjfimefjmcaaGreatDoor.Q
open Go Go.RowKit
theorem ret_bool {a b:Bool} (h:a=b):Ending.returned (.bool a)=.returned (.bool b):=by rw [h]
theorem ret_int {k:IntKind} {a b:Int} (h:a=b):Ending.returned (.int k a)=.returned (.int k b):=by rw [h]
theorem letterB_iff (c:Nat):letterB c=true↔(97≤c∧c≤122)∨c=95:=by simp [letterB]
theorem digitB_iff (c:Nat):digitB c=true↔48≤c∧c≤57:=by simp [digitB]
theorem blankB_iff (c:Nat):blankB c=true↔c=9∨c=10∨c=13∨c=32:=by simp [blankB,or_assoc]
theorem isLetter_any (c:Nat) (w:World):Calls Tryz.prog 188 #[.int .u8 (c:Int)] w fun e w'=>e=.returned (.bool (letterB c))∧w=w':=by
 have hc:(97≤c∧c≤122)∨c<97∨122<c:=by omega
 rcases hc with ⟨h1,h2⟩|h1|h1
 all_goals
  go_enter Tryz.func188,Tryz.ntmps188
  go_wp2
  all_goals
   go_ret
   exact ⟨ret_bool (by rw [Bool.eq_iff_iff,letterB_iff];simp;omega),rfl⟩
theorem isDigit_any (c:Nat) (w:World):Calls Tryz.prog 191 #[.int .u8 (c:Int)] w fun e w'=>e=.returned (.bool (digitB c))∧w=w':=by
 have hc:(48≤c∧c≤57)∨c<48∨57<c:=by omega
 rcases hc with ⟨h1,h2⟩|h1|h1
 all_goals
  go_enter Tryz.func191,Tryz.ntmps191
  go_wp2
  all_goals
   go_ret
   exact ⟨ret_bool (by rw [Bool.eq_iff_iff,digitB_iff];simp;omega),rfl⟩
theorem isBlank_any (c:Nat) (w:World):Calls Tryz.prog 187 #[.int .u8 (c:Int)] w fun e w'=>e=.returned (.bool (blankB c))∧w=w':=by
 go_enter Tryz.func187,Tryz.ntmps187
 go_wp2
 all_goals
  go_ret
  exact ⟨ret_bool (by rw [Bool.eq_iff_iff,blankB_iff];simp;omega),rfl⟩
theorem isInLine_any (c:Nat) (w:World):Calls Tryz.prog 186 #[.int .u8 (c:Int)] w fun e w'=>e=.returned (.bool (inC c))∧w=w':=by
 go_enter Tryz.func186,Tryz.ntmps186
 go_wp2
 go_ret
 exact ⟨ret_bool (by rw [Bool.eq_iff_iff];simp [inC];omega),rfl⟩
theorem isOfName_any (c:Nat) (w:World):Calls Tryz.prog 190 #[.int .u8 (c:Int)] w fun e w'=>e=.returned (.bool (nameB c))∧w=w':=by
 cases h:letterB c
 ·have h1:=h ▸ isLetter_any c w
  go_enter Tryz.func190,Tryz.ntmps190
  go_wp2_with (first|(go_at_call 188;refine h1.mono ?_;rintro e w' ⟨rfl,rfl⟩)|(go_at_call 191;refine (isDigit_any c _).mono ?_;rintro e w' ⟨rfl,rfl⟩))
  go_ret
  exact ⟨ret_bool (by simp [nameB,h]),rfl⟩
 ·have h1:=h ▸ isLetter_any c w
  go_enter Tryz.func190,Tryz.ntmps190
  go_wp2_with (first|(go_at_call 188;refine h1.mono ?_;rintro e w' ⟨rfl,rfl⟩)|(go_at_call 191;refine (isDigit_any c _).mono ?_;rintro e w' ⟨rfl,rfl⟩))
  go_ret
  exact ⟨ret_bool (by simp [nameB,h]),rfl⟩
end Go.Proofs.YtlpdjfimefjmcaaGreatDoor.Q
namespace Go.Proofs.YtlpdjfimefjmcaaGreatDoor.Q
theorem foldl_ge:∀(l:List Nat) (n:Nat),n≤l.foldl (fun n d=>10*n+(d - 48)) n
 | [],n=>Nat.le_refl _
 | d::l,n=>by
  have:=foldl_ge l (10*n+(d - 48))
  rw [List.foldl_cons];omega
theorem digit_range {c:Nat} (h:digitB c=true):48≤c∧c≤57:=by
 unfold digitB at h
 simpa using h
end Go.Proofs.YtlpdjfimefjmcaaGreatDoor.Q
namespace Go.Proofs.YtlpdjfimefjmcaaGreatDoor.Q
open Go
def errL (l:List Nat):Nat :=
 if (wordL l).1=0 then 40 else if (wordL l).2=1∧32<(wordL l).1 then 3 else if (wordL l).2=3∧most<valD (l.take (wordL l).1) then 3 else 0
def valL (l:List Nat):Nat:=if (wordL l).2=3 then valD (l.take (wordL l).1) else 0
def gapL (l:List Nat):Nat:=if l.head?=some 35 then (l.takeWhile inC).length else (l.takeWhile blankB).length
theorem drop_takeWhile {p:Nat→Bool}:∀l:List Nat,l.drop (l.takeWhile p).length=l.dropWhile p
 | []=>rfl
 | c::r=>by
  rw [List.takeWhile_cons,List.dropWhile_cons]
  split
  ·rw [List.length_cons,List.drop_succ_cons,drop_takeWhile r]
  ·rfl
theorem scan_blanks:∀(l:List Nat) (a:Nat),scanL l a=scanL (l.dropWhile blankB) (a+(l.takeWhile blankB).length)
 | [],a=>by simp
 | c::r,a=>by
  by_cases h:blankB c=true
  ·rw [scanL_blank r a h,scan_blanks r (a+1),List.dropWhile_cons,if_pos h,List.takeWhile_cons,if_pos h,List.length_cons]
   congr 1;omega
  ·rw [List.dropWhile_cons,if_neg h,List.takeWhile_cons,if_neg h];rfl
theorem scan_comment (r:List Nat) (a:Nat):scanL (35::r) a=scanL ((35::r).dropWhile inC) (a+((35::r).takeWhile inC).length):=by
 rw [scanL,if_neg (by decide),dif_pos rfl]
theorem scan_gap (l:List Nat) (a:Nat):scanL l a=scanL (l.drop (gapL l)) (a+gapL l):=by
 unfold gapL
 split
 ·rename_i h
  cases l with
  | nil=>simp at h
  | cons c r =>
   obtain rfl:c=35:=by simpa using h
   rw [drop_takeWhile]
   exact scan_comment r a
 ·rw [drop_takeWhile]
  exact scan_blanks l a
theorem no_gap {c:Nat} {r:List Nat} (h:gapL (c::r)=0):blankB c=false∧c≠35:=by
 unfold gapL at h
 split at h
 ·rename_i h35
  obtain rfl:c=35:=by simpa using h35
  rw [List.takeWhile_cons,if_pos (by decide)] at h
  simp at h
 ·rename_i h35
  refine ⟨?_,by simpa using h35⟩
  rw [List.takeWhile_cons] at h
  split at h
  ·simp at h
  ·rename_i hb;simpa using hb
theorem scan_err {c:Nat} {r:List Nat} (a:Nat) (h:blankB c=false) (h35:c≠35) (he:errL (c::r)≠0):scanL (c::r) a=([],a,errL (c::r)):=by
 unfold errL at he ⊢
 rw [scanL,if_neg (by rw [h];simp),dif_neg h35]
 split
 ·rfl
 ·rename_i h0
  rw [if_neg h0] at he
  split
  ·rfl
  ·rename_i h1
   rw [if_neg h1] at he
   split
   ·rfl
   ·rename_i h2;rw [if_neg h2] at he;exact absurd rfl he
theorem scan_word {c:Nat} {r:List Nat} (a:Nat) (h:blankB c=false) (h35:c≠35) (he:errL (c::r)=0) :
 scanL (c::r) a=(⟨(wordL (c::r)).2,(c::r).take (wordL (c::r)).1,valL (c::r),a⟩::(scanL ((c::r).drop (wordL (c::r)).1) (a+(wordL (c::r)).1)).1,(scanL ((c::r).drop (wordL (c::r)).1) (a+(wordL (c::r)).1)).2):=by
 unfold errL at he
 rw [scanL,if_neg (by rw [h];simp),dif_neg h35]
 split
 ·rename_i h0;rw [if_pos h0] at he;exact absurd he (by decide)
 ·rename_i h0
  rw [if_neg h0] at he
  split
  ·rename_i h1;rw [if_pos h1] at he;exact absurd he (by decide)
  ·rename_i h1
   rw [if_neg h1] at he
   split
   ·rename_i h2;rw [if_pos h2] at he;exact absurd he (by decide)
   ·rfl
theorem errL_word {l:List Nat} (he:errL l=0):(wordL l).1≠0:=by
 intro h
 rw [errL,if_pos h] at he
 exact absurd he (by decide)
def itemsOf (r:List Tok × Nat × Nat):List (Tok × Nat):=r.1.map (fun t=>(t,0))++if r.2.2=0 then [] else [(⟨0,[],0,r.2.1⟩,r.2.2)]
theorem items_word {c:Nat} {r:List Nat} (a:Nat) (h:blankB c=false) (h35:c≠35) (he:errL (c::r)=0) :
 itemsOf (scanL (c::r) a)=(⟨(wordL (c::r)).2,(c::r).take (wordL (c::r)).1,valL (c::r),a⟩,0)::itemsOf (scanL ((c::r).drop (wordL (c::r)).1) (a+(wordL (c::r)).1)):=by
 rw [scan_word a h h35 he];rfl
theorem items_err {c:Nat} {r:List Nat} (a:Nat) (h:blankB c=false) (h35:c≠35) (he:errL (c::r)≠0) :
 itemsOf (scanL (c::r) a)=[(⟨0,[],0,a⟩,errL (c::r))]:=by
 rw [scan_err a h h35 he,itemsOf];simp [he]
theorem items_nil (a:Nat):itemsOf (scanL [] a)=[]:=by rw [scanL];rfl
theorem items_gap (l:List Nat) (a:Nat):itemsOf (scanL l a)=itemsOf (scanL (l.drop (gapL l)) (a+gapL l)):=by rw [←scan_gap]
theorem scan_count:∀(N:Nat) (l:List Nat),l.length≤N→∀a,(scanL l a).1.length≤l.length
 | N,l,h,a=>by
  cases l with
  | nil=>rw [scanL];exact Nat.le_refl _
  | cons c r =>
   by_cases hb:blankB c=true
   ·cases N with
    | zero=>simp at h
    | succ N =>
     rw [scanL_blank r a hb]
     have:=scan_count N r (by simpa using h) (a+1)
     rw [List.length_cons];omega
   ·have hb:blankB c=false:=by simpa using hb
    by_cases h35:c=35
    ·cases N with
     | zero=>simp at h
     | succ N =>
      subst h35
      rw [scan_comment]
      have hl:=dropWhile_lt r
      have:=scan_count N ((35::r).dropWhile inC) (by rw [List.length_cons] at h hl;omega) (a+((35::r).takeWhile inC).length)
      omega
    ·by_cases he:errL (c::r)=0
     ·cases N with
      | zero=>simp at h
      | succ N =>
       rw [scan_word a hb h35 he]
       have hl:=drop_lt c r _ (errL_word he)
       have:=scan_count N ((c::r).drop (wordL (c::r)).1) (by rw [List.length_cons] at h hl;omega) (a+(wordL (c::r)).1)
       show _+1≤_
       omega
     ·rw [scan_err a hb h35 he];simp
end Go.Proofs.YtlpdjfimefjmcaaGreatDoor.Q
namespace Go.Proofs.YtlpdjfimefjmcaaGreatDoor.Q
open Go Go.RowKit
def bl (s:ByteArray):List Nat:=s.data.toList.map UInt8.toNat
theorem bl_length (s:ByteArray):(bl s).length=s.size:=by simp [bl]
theorem bl_get (s:ByteArray) (i:Nat) (h:i<s.size):(bl s)[i]?=some (s[i]).toNat:=by
 have h':i<s.data.toList.length:=by simpa using h
 rw [bl,List.getElem?_map,List.getElem?_eq_getElem h'];rfl
theorem bl_extract (s:ByteArray) (a b:Nat):bl (s.extract a b)=((bl s).take b).drop a:=by
 unfold bl
 rw [ByteArray.data_extract,Array.toList_extract,List.extract_eq_take_drop,List.map_take,List.map_drop,List.drop_take]
theorem bl_inj {s t:ByteArray} (h:bl s=bl t):s=t:=by
 unfold bl at h
 have:s.data.toList=t.data.toList:=(List.map_inj_right (fun a b h=>UInt8.toNat_inj.1 h)).1 h
 apply ByteArray.ext
 exact Array.ext' this
theorem run_step {p:Nat→Bool} (l:List Nat) (k:Nat) (h:∀x∈l.take k,p x=true) (c:Nat) (hc:l[k]?=some c) (hp:p c=true):∀x∈l.take (k+1),p x=true:=by
 rw [List.take_add_one,hc]
 intro x hx
 rcases List.mem_append.1 hx with h1|h1
 ·exact h x h1
 ·obtain rfl:x=c:=by simpa using h1
  exact hp
theorem run_stop {p:Nat→Bool} (l:List Nat) (k:Nat) (h:∀x∈l.take k,p x=true) (c:Nat) (hc:l[k]?=some c) (hp:p c=false):(l.takeWhile p).length=k:=by
 have hk:k<l.length:=(List.getElem?_eq_some_iff.1 hc).1
 have h2:l=l.take k++l.drop k:=(List.take_append_drop k l).symm
 have hd:(l.drop k).head?=some c:=by rw [List.head?_drop];exact hc
 rw [h2, takeWhile_stop _ _ h (fun d hd' => by rw [hd] at hd'; obtain rfl : c = d := by simpa using hd'
                                               exact hp),List.length_take]
 omega
theorem run_end {p:Nat→Bool} (l:List Nat) (h:∀x∈l.take l.length,p x=true):(l.takeWhile p).length=l.length:=by
 rw [List.take_length] at h
 have:=takeWhile_stop l [] h (by simp)
 rw [List.append_nil] at this
 rw [this]
set_option maxHeartbeats 400000 in
theorem run_name (s:ByteArray) (hs:s.size≤9223372036854775806) (w:World) :
 Calls Tryz.prog 185 #[.string s,.func (.func 190) #[] #[]] w fun e w'=>e=.returned (.int .i64 ((((bl s).takeWhile nameB).length:Nat):Int))∧w=w':=by
 go_enter Tryz.func185,Tryz.ntmps185
 go_wp2
 go_loop [8] (fun i=>∃k:Nat,k≤s.size∧i=.int .i64 k∧Hid (∀x∈(bl s).take k,nameB x=true)) (fun i=>s.size - (intOf i).toNat)
 case atStart=>exact ⟨0,Nat.zero_le _,rfl,hid (by simp)⟩
 case round =>
  obtain ⟨k,hk,rfl,H⟩:=hrel
  by_cases hlt:k<s.size
  ·have hb:=hid (bl_get s k hlt)
   cases hp:nameB (s[k]).toNat
   ·have hcall:=hp ▸ isOfName_any (s[k]).toNat w
    have HP:=hid hp
    clear hp
    go_wp2_with (go_at_call 190;refine hcall.mono ?_;rintro e w' ⟨rfl,rfl⟩)
    go_ret
    exact ⟨ret_int (by rw [run_stop _ k H.out _ hb.out HP.out]),rfl⟩
   ·have hcall:=hp ▸ isOfName_any (s[k]).toNat w
    have HP:=hid hp
    clear hp
    go_wp2_with (go_at_call 190;refine hcall.mono ?_;rintro e w' ⟨rfl,rfl⟩)
    go_round
    case rel=>exact ⟨k+1,by omega,by go_num,hid (run_step _ k H.out _ hb.out HP.out)⟩
    case measure=>simp [intOf];omega
  ·have hk':k=(bl s).length:=by rw [bl_length];omega
   have HK:=hid hk'
   clear hk'
   go_wp2
   go_ret
   exact ⟨ret_int (by rw [run_end _ (HK.out ▸ H.out),bl_length]),rfl⟩
set_option maxHeartbeats 400000 in
theorem run_digit (s:ByteArray) (hs:s.size≤9223372036854775806) (w:World) :
 Calls Tryz.prog 185 #[.string s,.func (.func 191) #[] #[]] w fun e w'=>e=.returned (.int .i64 ((((bl s).takeWhile digitB).length:Nat):Int))∧w=w':=by
 go_enter Tryz.func185,Tryz.ntmps185
 go_wp2
 go_loop [8] (fun i=>∃k:Nat,k≤s.size∧i=.int .i64 k∧Hid (∀x∈(bl s).take k,digitB x=true)) (fun i=>s.size - (intOf i).toNat)
 case atStart=>exact ⟨0,Nat.zero_le _,rfl,hid (by simp)⟩
 case round =>
  obtain ⟨k,hk,rfl,H⟩:=hrel
  by_cases hlt:k<s.size
  ·have hb:=hid (bl_get s k hlt)
   cases hp:digitB (s[k]).toNat
   ·have hcall:=hp ▸ isDigit_any (s[k]).toNat w
    have HP:=hid hp
    clear hp
    go_wp2_with (go_at_call 191;refine hcall.mono ?_;rintro e w' ⟨rfl,rfl⟩)
    go_ret
    exact ⟨ret_int (by rw [run_stop _ k H.out _ hb.out HP.out]),rfl⟩
   ·have hcall:=hp ▸ isDigit_any (s[k]).toNat w
    have HP:=hid hp
    clear hp
    go_wp2_with (go_at_call 191;refine hcall.mono ?_;rintro e w' ⟨rfl,rfl⟩)
    go_round
    case rel=>exact ⟨k+1,by omega,by go_num,hid (run_step _ k H.out _ hb.out HP.out)⟩
    case measure=>simp [intOf];omega
  ·have hk':k=(bl s).length:=by rw [bl_length];omega
   have HK:=hid hk'
   clear hk'
   go_wp2
   go_ret
   exact ⟨ret_int (by rw [run_end _ (HK.out ▸ H.out),bl_length]),rfl⟩
set_option maxHeartbeats 400000 in
theorem run_line (s:ByteArray) (hs:s.size≤9223372036854775806) (w:World) :
 Calls Tryz.prog 185 #[.string s,.func (.func 186) #[] #[]] w fun e w'=>e=.returned (.int .i64 ((((bl s).takeWhile inC).length:Nat):Int))∧w=w':=by
 go_enter Tryz.func185,Tryz.ntmps185
 go_wp2
 go_loop [8] (fun i=>∃k:Nat,k≤s.size∧i=.int .i64 k∧Hid (∀x∈(bl s).take k,inC x=true)) (fun i=>s.size - (intOf i).toNat)
 case atStart=>exact ⟨0,Nat.zero_le _,rfl,hid (by simp)⟩
 case round =>
  obtain ⟨k,hk,rfl,H⟩:=hrel
  by_cases hlt:k<s.size
  ·have hb:=hid (bl_get s k hlt)
   cases hp:inC (s[k]).toNat
   ·have hcall:=hp ▸ isInLine_any (s[k]).toNat w
    have HP:=hid hp
    clear hp
    go_wp2_with (go_at_call 186;refine hcall.mono ?_;rintro e w' ⟨rfl,rfl⟩)
    go_ret
    exact ⟨ret_int (by rw [run_stop _ k H.out _ hb.out HP.out]),rfl⟩
   ·have hcall:=hp ▸ isInLine_any (s[k]).toNat w
    have HP:=hid hp
    clear hp
    go_wp2_with (go_at_call 186;refine hcall.mono ?_;rintro e w' ⟨rfl,rfl⟩)
    go_round
    case rel=>exact ⟨k+1,by omega,by go_num,hid (run_step _ k H.out _ hb.out HP.out)⟩
    case measure=>simp [intOf];omega
  ·have hk':k=(bl s).length:=by rw [bl_length];omega
   have HK:=hid hk'
   clear hk'
   go_wp2
   go_ret
   exact ⟨ret_int (by rw [run_end _ (HK.out ▸ H.out),bl_length]),rfl⟩
set_option maxHeartbeats 400000 in
theorem run_blank (s:ByteArray) (hs:s.size≤9223372036854775806) (w:World) :
 Calls Tryz.prog 185 #[.string s,.func (.func 187) #[] #[]] w fun e w'=>e=.returned (.int .i64 ((((bl s).takeWhile blankB).length:Nat):Int))∧w=w':=by
 go_enter Tryz.func185,Tryz.ntmps185
 go_wp2
 go_loop [8] (fun i=>∃k:Nat,k≤s.size∧i=.int .i64 k∧Hid (∀x∈(bl s).take k,blankB x=true)) (fun i=>s.size - (intOf i).toNat)
 case atStart=>exact ⟨0,Nat.zero_le _,rfl,hid (by simp)⟩
 case round =>
  obtain ⟨k,hk,rfl,H⟩:=hrel
  by_cases hlt:k<s.size
  ·have hb:=hid (bl_get s k hlt)
   cases hp:blankB (s[k]).toNat
   ·have hcall:=hp ▸ isBlank_any (s[k]).toNat w
    have HP:=hid hp
    clear hp
    go_wp2_with (go_at_call 187;refine hcall.mono ?_;rintro e w' ⟨rfl,rfl⟩)
    go_ret
    exact ⟨ret_int (by rw [run_stop _ k H.out _ hb.out HP.out]),rfl⟩
   ·have hcall:=hp ▸ isBlank_any (s[k]).toNat w
    have HP:=hid hp
    clear hp
    go_wp2_with (go_at_call 187;refine hcall.mono ?_;rintro e w' ⟨rfl,rfl⟩)
    go_round
    case rel=>exact ⟨k+1,by omega,by go_num,hid (run_step _ k H.out _ hb.out HP.out)⟩
    case measure=>simp [intOf];omega
  ·have hk':k=(bl s).length:=by rw [bl_length];omega
   have HK:=hid hk'
   clear hk'
   go_wp2
   go_ret
   exact ⟨ret_int (by rw [run_end _ (HK.out ▸ H.out),bl_length]),rfl⟩
theorem gap_any (s:ByteArray) (h0:0<s.size) (hs:s.size≤9223372036854775806) (w:World) :
 Calls Tryz.prog 179 #[.string s] w fun e w'=>e=.returned (.int .i64 ((gapL (bl s):Nat):Int))∧w=w':=by
 have hg:=bl_get s 0 h0
 rw [←List.head?_eq_getElem?] at hg
 have h1:=run_line s hs w
 have h2:=run_blank s hs w
 by_cases hc:(s[0]).toNat=35
 ·have hn:(((s[0]).toNat:Int) == 35)=true:=by simp;omega
  have hgl:gapL (bl s)=((bl s).takeWhile inC).length:=by rw [gapL,hg,if_pos (by rw [hc])]
  have HG:=hid hgl
  clear hgl hg hc
  go_enter Tryz.func179,Tryz.ntmps179
  go_wp2_with (go_at_call 185;refine h1.mono ?_;rintro e w' ⟨rfl,rfl⟩)
  go_ret
  exact ⟨ret_int (by rw [HG.out]),rfl⟩
 ·have hn:(((s[0]).toNat:Int) == 35)=false:=by simp;omega
  have hgl:gapL (bl s)=((bl s).takeWhile blankB).length:=by rw [gapL,hg,if_neg (by simpa using hc)]
  have HG:=hid hgl
  clear hgl hg hc
  go_enter Tryz.func179,Tryz.ntmps179
  go_wp2_with (go_at_call 185;refine h2.mono ?_;rintro e w' ⟨rfl,rfl⟩)
  go_ret
  exact ⟨ret_int (by rw [HG.out]),rfl⟩
def marksL:List (List Nat):=mark1.map (fun c=>[c])++mark2
theorem ne_lit {s:ByteArray} {L:List (List Nat)} {u:List UInt8} (h:bl s ∉ L) (hu:u.map UInt8.toNat∈L):(s.toList == u)=false:=by
 rw [beq_eq_false_iff_ne]
 intro e
 rw [Lib.toList_data] at e
 exact h (by unfold bl;rw [e];exact hu)
set_option maxRecDepth 100000 in
set_option maxHeartbeats 1000000 in
theorem isKeyword_no (s:ByteArray) (h:bl s ∉ keysL) (w:World):Calls Tryz.prog 197 #[.string s] w fun e w'=>e=.returned (.bool false)∧w=w':=by
 have e0:(s.toList == [112,114,105,110,99,105,112,97,108])=false:=ne_lit h (by decide)
 have e1:(s.toList == [103,108,111,98,97,108])=false:=ne_lit h (by decide)
 have e2:(s.toList == [97,114,114,97,121])=false:=ne_lit h (by decide)
 have e3:(s.toList == [99,104,97,110,110,101,108])=false:=ne_lit h (by decide)
 have e4:(s.toList == [102,117,110,99])=false:=ne_lit h (by decide)
 have e5:(s.toList == [118,97,114])=false:=ne_lit h (by decide)
 have e6:(s.toList == [105,102])=false:=ne_lit h (by decide)
 have e7:(s.toList == [101,108,115,101])=false:=ne_lit h (by decide)
 have e8:(s.toList == [119,104,105,108,101])=false:=ne_lit h (by decide)
 have e9:(s.toList == [115,101,110,100])=false:=ne_lit h (by decide)
 have e10:(s.toList == [114,101,116,117,114,110])=false:=ne_lit h (by decide)
 clear h
 go_enter Tryz.func197,Tryz.ntmps197
 go_wp2
 go_ret
 exact ⟨rfl,rfl⟩
set_option maxRecDepth 100000 in
set_option maxHeartbeats 1000000 in
theorem isKeyword_yes (s:ByteArray) (h:bl s∈keysL) (w:World):Calls Tryz.prog 197 #[.string s] w fun e w'=>e=.returned (.bool true)∧w=w':=by
 simp only [keysL,List.mem_cons,List.not_mem_nil,or_false] at h
 rcases h with h|h|h|h|h|h|h|h|h|h|h
 ·obtain rfl:s=⟨#[112,114,105,110,99,105,112,97,108]⟩:=bl_inj (h.trans (by decide))
  clear h
  go_enter Tryz.func197,Tryz.ntmps197
  go_wp2
  go_ret
  exact ⟨rfl,rfl⟩
 ·obtain rfl:s=⟨#[103,108,111,98,97,108]⟩:=bl_inj (h.trans (by decide))
  clear h
  go_enter Tryz.func197,Tryz.ntmps197
  go_wp2
  go_ret
  exact ⟨rfl,rfl⟩
 ·obtain rfl:s=⟨#[97,114,114,97,121]⟩:=bl_inj (h.trans (by decide))
  clear h
  go_enter Tryz.func197,Tryz.ntmps197
  go_wp2
  go_ret
  exact ⟨rfl,rfl⟩
 ·obtain rfl:s=⟨#[99,104,97,110,110,101,108]⟩:=bl_inj (h.trans (by decide))
  clear h
  go_enter Tryz.func197,Tryz.ntmps197
  go_wp2
  go_ret
  exact ⟨rfl,rfl⟩
 ·obtain rfl:s=⟨#[102,117,110,99]⟩:=bl_inj (h.trans (by decide))
  clear h
  go_enter Tryz.func197,Tryz.ntmps197
  go_wp2
  go_ret
  exact ⟨rfl,rfl⟩
 ·obtain rfl:s=⟨#[118,97,114]⟩:=bl_inj (h.trans (by decide))
  clear h
  go_enter Tryz.func197,Tryz.ntmps197
  go_wp2
  go_ret
  exact ⟨rfl,rfl⟩
 ·obtain rfl:s=⟨#[105,102]⟩:=bl_inj (h.trans (by decide))
  clear h
  go_enter Tryz.func197,Tryz.ntmps197
  go_wp2
  go_ret
  exact ⟨rfl,rfl⟩
 ·obtain rfl:s=⟨#[101,108,115,101]⟩:=bl_inj (h.trans (by decide))
  clear h
  go_enter Tryz.func197,Tryz.ntmps197
  go_wp2
  go_ret
  exact ⟨rfl,rfl⟩
 ·obtain rfl:s=⟨#[119,104,105,108,101]⟩:=bl_inj (h.trans (by decide))
  clear h
  go_enter Tryz.func197,Tryz.ntmps197
  go_wp2
  go_ret
  exact ⟨rfl,rfl⟩
 ·obtain rfl:s=⟨#[115,101,110,100]⟩:=bl_inj (h.trans (by decide))
  clear h
  go_enter Tryz.func197,Tryz.ntmps197
  go_wp2
  go_ret
  exact ⟨rfl,rfl⟩
 ·obtain rfl:s=⟨#[114,101,116,117,114,110]⟩:=bl_inj (h.trans (by decide))
  clear h
  go_enter Tryz.func197,Tryz.ntmps197
  go_wp2
  go_ret
  exact ⟨rfl,rfl⟩
set_option maxRecDepth 100000 in
set_option maxHeartbeats 1000000 in
theorem isMark_no (s:ByteArray) (h:bl s ∉ marksL) (w:World):Calls Tryz.prog 199 #[.string s] w fun e w'=>e=.returned (.bool false)∧w=w':=by
 have e0:(s.toList == [123])=false:=ne_lit h (by decide)
 have e1:(s.toList == [125])=false:=ne_lit h (by decide)
 have e2:(s.toList == [40])=false:=ne_lit h (by decide)
 have e3:(s.toList == [41])=false:=ne_lit h (by decide)
 have e4:(s.toList == [91])=false:=ne_lit h (by decide)
 have e5:(s.toList == [93])=false:=ne_lit h (by decide)
 have e6:(s.toList == [44])=false:=ne_lit h (by decide)
 have e7:(s.toList == [59])=false:=ne_lit h (by decide)
 have e8:(s.toList == [61])=false:=ne_lit h (by decide)
 have e9:(s.toList == [61,61])=false:=ne_lit h (by decide)
 have e10:(s.toList == [33,61])=false:=ne_lit h (by decide)
 have e11:(s.toList == [60])=false:=ne_lit h (by decide)
 have e12:(s.toList == [60,61])=false:=ne_lit h (by decide)
 have e13:(s.toList == [43])=false:=ne_lit h (by decide)
 have e14:(s.toList == [45])=false:=ne_lit h (by decide)
 have e15:(s.toList == [42])=false:=ne_lit h (by decide)
 have e16:(s.toList == [47])=false:=ne_lit h (by decide)
 have e17:(s.toList == [37])=false:=ne_lit h (by decide)
 have e18:(s.toList == [38])=false:=ne_lit h (by decide)
 have e19:(s.toList == [124])=false:=ne_lit h (by decide)
 have e20:(s.toList == [94])=false:=ne_lit h (by decide)
 have e21:(s.toList == [60,60])=false:=ne_lit h (by decide)
 have e22:(s.toList == [62,62])=false:=ne_lit h (by decide)
 have e23:(s.toList == [33])=false:=ne_lit h (by decide)
 have e24:(s.toList == [126])=false:=ne_lit h (by decide)
 clear h
 go_enter Tryz.func199,Tryz.ntmps199
 go_wp2
 go_ret
 exact ⟨rfl,rfl⟩
set_option maxRecDepth 100000 in
set_option maxHeartbeats 1000000 in
theorem isMark_yes (s:ByteArray) (h:bl s∈marksL) (w:World):Calls Tryz.prog 199 #[.string s] w fun e w'=>e=.returned (.bool true)∧w=w':=by
 simp only [marksL,mark1,mark2,List.map_cons,List.map_nil,List.cons_append,List.nil_append,List.mem_cons,List.not_mem_nil,or_false] at h
 rcases h with h|h|h|h|h|h|h|h|h|h|h|h|h|h|h|h|h|h|h|h|h|h|h|h|h
 ·obtain rfl:s=⟨#[123]⟩:=bl_inj (h.trans (by decide))
  clear h
  go_enter Tryz.func199,Tryz.ntmps199
  go_wp2
  go_ret
  exact ⟨rfl,rfl⟩
 ·obtain rfl:s=⟨#[125]⟩:=bl_inj (h.trans (by decide))
  clear h
  go_enter Tryz.func199,Tryz.ntmps199
  go_wp2
  go_ret
  exact ⟨rfl,rfl⟩
 ·obtain rfl:s=⟨#[40]⟩:=bl_inj (h.trans (by decide))
  clear h
  go_enter Tryz.func199,Tryz.ntmps199
  go_wp2
  go_ret
  exact ⟨rfl,rfl⟩
 ·obtain rfl:s=⟨#[41]⟩:=bl_inj (h.trans (by decide))
  clear h
  go_enter Tryz.func199,Tryz.ntmps199
  go_wp2
  go_ret
  exact ⟨rfl,rfl⟩
 ·obtain rfl:s=⟨#[91]⟩:=bl_inj (h.trans (by decide))
  clear h
  go_enter Tryz.func199,Tryz.ntmps199
  go_wp2
  go_ret
  exact ⟨rfl,rfl⟩
 ·obtain rfl:s=⟨#[93]⟩:=bl_inj (h.trans (by decide))
  clear h
  go_enter Tryz.func199,Tryz.ntmps199
  go_wp2
  go_ret
  exact ⟨rfl,rfl⟩
 ·obtain rfl:s=⟨#[44]⟩:=bl_inj (h.trans (by decide))
  clear h
  go_enter Tryz.func199,Tryz.ntmps199
  go_wp2
  go_ret
  exact ⟨rfl,rfl⟩
 ·obtain rfl:s=⟨#[59]⟩:=bl_inj (h.trans (by decide))
  clear h
  go_enter Tryz.func199,Tryz.ntmps199
  go_wp2
  go_ret
  exact ⟨rfl,rfl⟩
 ·obtain rfl:s=⟨#[61]⟩:=bl_inj (h.trans (by decide))
  clear h
  go_enter Tryz.func199,Tryz.ntmps199
  go_wp2
  go_ret
  exact ⟨rfl,rfl⟩
 ·obtain rfl:s=⟨#[60]⟩:=bl_inj (h.trans (by decide))
  clear h
  go_enter Tryz.func199,Tryz.ntmps199
  go_wp2
  go_ret
  exact ⟨rfl,rfl⟩
 ·obtain rfl:s=⟨#[43]⟩:=bl_inj (h.trans (by decide))
  clear h
  go_enter Tryz.func199,Tryz.ntmps199
  go_wp2
  go_ret
  exact ⟨rfl,rfl⟩
 ·obtain rfl:s=⟨#[45]⟩:=bl_inj (h.trans (by decide))
  clear h
  go_enter Tryz.func199,Tryz.ntmps199
  go_wp2
  go_ret
  exact ⟨rfl,rfl⟩
 ·obtain rfl:s=⟨#[42]⟩:=bl_inj (h.trans (by decide))
  clear h
  go_enter Tryz.func199,Tryz.ntmps199
  go_wp2
  go_ret
  exact ⟨rfl,rfl⟩
 ·obtain rfl:s=⟨#[47]⟩:=bl_inj (h.trans (by decide))
  clear h
  go_enter Tryz.func199,Tryz.ntmps199
  go_wp2
  go_ret
  exact ⟨rfl,rfl⟩
 ·obtain rfl:s=⟨#[37]⟩:=bl_inj (h.trans (by decide))
  clear h
  go_enter Tryz.func199,Tryz.ntmps199
  go_wp2
  go_ret
  exact ⟨rfl,rfl⟩
 ·obtain rfl:s=⟨#[38]⟩:=bl_inj (h.trans (by decide))
  clear h
  go_enter Tryz.func199,Tryz.ntmps199
  go_wp2
  go_ret
  exact ⟨rfl,rfl⟩
 ·obtain rfl:s=⟨#[124]⟩:=bl_inj (h.trans (by decide))
  clear h
  go_enter Tryz.func199,Tryz.ntmps199
  go_wp2
  go_ret
  exact ⟨rfl,rfl⟩
 ·obtain rfl:s=⟨#[94]⟩:=bl_inj (h.trans (by decide))
  clear h
  go_enter Tryz.func199,Tryz.ntmps199
  go_wp2
  go_ret
  exact ⟨rfl,rfl⟩
 ·obtain rfl:s=⟨#[33]⟩:=bl_inj (h.trans (by decide))
  clear h
  go_enter Tryz.func199,Tryz.ntmps199
  go_wp2
  go_ret
  exact ⟨rfl,rfl⟩
 ·obtain rfl:s=⟨#[126]⟩:=bl_inj (h.trans (by decide))
  clear h
  go_enter Tryz.func199,Tryz.ntmps199
  go_wp2
  go_ret
  exact ⟨rfl,rfl⟩
 ·obtain rfl:s=⟨#[61,61]⟩:=bl_inj (h.trans (by decide))
  clear h
  go_enter Tryz.func199,Tryz.ntmps199
  go_wp2
  go_ret
  exact ⟨rfl,rfl⟩
 ·obtain rfl:s=⟨#[33,61]⟩:=bl_inj (h.trans (by decide))
  clear h
  go_enter Tryz.func199,Tryz.ntmps199
  go_wp2
  go_ret
  exact ⟨rfl,rfl⟩
 ·obtain rfl:s=⟨#[60,61]⟩:=bl_inj (h.trans (by decide))
  clear h
  go_enter Tryz.func199,Tryz.ntmps199
  go_wp2
  go_ret
  exact ⟨rfl,rfl⟩
 ·obtain rfl:s=⟨#[60,60]⟩:=bl_inj (h.trans (by decide))
  clear h
  go_enter Tryz.func199,Tryz.ntmps199
  go_wp2
  go_ret
  exact ⟨rfl,rfl⟩
 ·obtain rfl:s=⟨#[62,62]⟩:=bl_inj (h.trans (by decide))
  clear h
  go_enter Tryz.func199,Tryz.ntmps199
  go_wp2
  go_ret
  exact ⟨rfl,rfl⟩
end Go.Proofs.YtlpdjfimefjmcaaGreatDoor.Q
namespace Go.Proofs.YtlpdjfimefjmcaaGreatDoor.Q
open Go
theorem foldl_bl (l:List UInt8) (acc:Nat):(l.map UInt8.toNat).foldl (fun n d=>10*n+(d - 48)) acc=l.foldl (fun n c=>10*n+(c.toNat - 48)) acc:=by
 rw [List.foldl_map]
theorem foldl_ge8 (l:List UInt8) (n:Nat):n≤l.foldl (fun n c=>10*n+(c.toNat - 48)) n:=by
 rw [←foldl_bl];exact foldl_ge _ _
theorem parseM_digits:∀(l:List UInt8) (acc:Nat),(∀c∈l,48≤c.toNat∧c.toNat≤57)→acc≤18446744073709551615 →
 Lib.parseUintM 18446744073709551615 acc l=if l.foldl (fun n c=>10*n+(c.toNat - 48)) acc≤18446744073709551615 then .ok (l.foldl (fun n c=>10*n+(c.toNat - 48)) acc) else .range
 | [],acc,_,h=>by rw [Lib.parseUintM,List.foldl_nil,if_pos h]
 | c::r,acc,hd,h=>by
  have hc:=hd c (List.mem_cons_self ..)
  have hg:=foldl_ge8 r (10*acc+(c.toNat - 48))
  rw [Lib.parseUintM,if_pos hc,List.foldl_cons]
  by_cases h1:1844674407370955162≤acc
  ·rw [if_pos h1,if_neg (by omega)]
  ·rw [if_neg h1]
   by_cases h2:18446744073709551615<acc*10+(c.toNat - 48)
   ·rw [if_pos h2,if_neg (by omega)]
   ·rw [if_neg h2,Nat.mul_comm acc 10,parseM_digits r _ (fun x hx=>hd x (List.mem_cons_of_mem _ hx)) (by omega)]
theorem parse_digits (l:List UInt8) (h0:l≠[]) (hd:∀x∈l.map UInt8.toNat,digitB x=true) :
 Lib.parseIntB 64 l=if valD (l.map UInt8.toNat)≤most then .ok (valD (l.map UInt8.toNat):Nat) else .range:=by
 have hd':∀c∈l,48≤c.toNat∧c.toNat≤57:=fun c hc=>digit_range (hd _ (List.mem_map_of_mem hc))
 have hm:=parseM_digits l 0 hd' (by omega)
 rw [←foldl_bl] at hm
 change _=if valD (l.map UInt8.toNat)≤_ then Lib.NumEnd.ok (valD (l.map UInt8.toNat)) else _ at hm
 cases l with
 | nil=>exact absurd rfl h0
 | cons c r =>
  have hc:=hd' c (List.mem_cons_self ..)
  rw [Lib.parseIntB]
  simp only [show ¬c.toNat=43 by omega,show ¬c.toNat=45 by omega,or_false,if_false,not_false_eq_true,true_and,false_and]
  rw [Lib.parseUintB,if_neg (by simp),show (2 ^ 64 - 1:Nat)=18446744073709551615 by decide,hm]
  generalize valD ((c::r).map UInt8.toNat)=V
  by_cases h1:V≤18446744073709551615
  ·rw [if_pos h1]
   by_cases h2:V≤most
   ·simp only [if_pos h2,show ¬2 ^ (64 - 1)≤V by simp only [most] at h2;omega,if_false]
   ·simp only [if_neg h2,show 2 ^ (64 - 1)≤V by simp only [most] at h2;omega,if_true]
  ·rw [if_neg h1,if_neg (by simp only [most];omega)]
end Go.Proofs.YtlpdjfimefjmcaaGreatDoor.Q
