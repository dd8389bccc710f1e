/- Package flowtype, plain: what the three laws say of sources. Package flowtype, plain: a more secret channel; all labels one. Labels that are turned in memory, one after another; where all are turned, it reads as the source with one label. The kit's lent source, the row of its functions apart from al -/
import Derived.Test.YtlpdjfimefjmcaaGreatDoorFlOpenPR17
import Derived.Test.YtlpdjfimefjmcaaGreatDoorFlOpenPR18
import Derived.Test.YtlpdjfimefjmcaaGreatDoorFlOpenPR4
import Derived.Test.YtlpdjfimefjmcaaGreatDoorFlOpenPR14
namespace Go.Proofs.YtlpdjfimefjmcaaGreatDoor
open Go
theorem getD_mem {l:List Nat} {i:Nat} (h:i<l.length):l.getD i 0∈l:=by
 rw [List.getD_eq_getElem?_getD,List.getElem?_eq_getElem h]
 exact List.getElem_mem h
section
variable {s s':SoZ}
theorem fn_good (h:chkZ nstZ s=(0,0,0)) {f:Nat} (hf:f<s.funcs.length):FnGood nstZ s f s.funcs[f]:=by
 have:=fns_none (chk_zero h).2 f hf
 rw [Nat.zero_add] at this
 exact fnE_good this
theorem st_uses {f:Nat} {x:StZ} (h:stE s f x=0):usesE s f x=0:=fst0_zero h _ (by simp)
theorem lvF_lt {f:Nat} (hb:∀l,exsL s f l<u64B):∀(l:List StZ) (row:List Nat),(∀x∈row,x<u64B)→∀x∈lvF s f l row,x<u64B
 | [],_,_,x,hx=>by cases hx
 | y::l,row,hr,x,hx=>by
  have hd:∀j,row.getD j 0<u64B:=fun j=>by
   by_cases hj:j<row.length
   ·exact hr _ (getD_mem hj)
   ·rw [List.getD_eq_getElem?_getD,List.getElem?_eq_none (by omega)];show (0:Nat)<u64B;decide
  rw [lvF] at hx
  rcases List.mem_cons.1 hx with rfl|hx
  ·exact hd _
  ·refine lvF_lt hb l _ (fun z hz=>?_) x hx
   unfold rowZ at hz
   split at hz
   ·rcases List.mem_append.1 hz with hz|hz
    ·exact hr z hz
    ·rw [List.mem_singleton.1 hz]
     exact Nat.or_lt_two_pow (n:=64) (hd _) (hb _)
   ·split at hz
    ·exact hr z (List.mem_of_mem_take hz)
    ·exact hr z hz
theorem levels_lt {f:Nat} (hb:∀l,exsL s f l<u64B) (hv:∀hf:f<s.funcs.length,s.funcs[f].level<u64B):∀x∈levelsZ s f,x<u64B:=by
 intro x hx
 unfold levelsZ at hx
 cases hd:s.funcs[f]? with
 | none=>rw [hd] at hx;cases hx
 | some d =>
  obtain ⟨hf,rfl⟩:=List.getElem?_eq_some_iff.1 hd
  rw [hd] at hx
  simp only at hx
  split at hx
  ·exact lvF_lt hb _ _ (fun z hz=>by rw [List.mem_singleton.1 hz];exact hv hf) x hx
  ·cases hx
theorem chk_ne {nest:List Int→Bool} (h:(chkZ nest s).1=0):chkZ nest s=(0,0,0):=by
 unfold chkZ at h ⊢
 cases hd:declsZE s with
 | some p =>
  obtain ⟨a,e⟩:=p
  rw [hd] at h
  have:=decls_err hd
  simp only at h
  omega
 | none =>
  rw [hd] at h
  cases hf:fnsF nest s s.funcs 0 with
  | none=>rfl
  | some p =>
   obtain ⟨f,a,e⟩:=p
   rw [hf] at h
   have:=fns_err hf
   simp only at h
   omega
theorem flow_ne (h:(flowZ s).1=0):flowZ s=(0,0,0):=by
 unfold flowZ at h ⊢
 split at h
 ·rename_i hc
  rw [if_pos hc]
  cases hf:flowsF s s.funcs 0 with
  | none=>rfl
  | some p=>rw [hf] at h;simp at h
 ·rename_i hc
  exact absurd (chk_ne h) hc
theorem map_set_self {α β:Type} {g:α→β} {l:List α} {i:Nat} (hi:i<l.length) {x:α} (hx:g x=g l[i]):(l.set i x).map g=l.map g:=by
 apply List.ext_getElem (by simp)
 intro j h1 h2
 rw [List.getElem_map,List.getElem_map,List.getElem_set]
 split
 ·rename_i e;subst e;exact hx
 ·rfl
end
section
variable {s s':SoZ}
def upC (s:SoZ) (c:Nat) (hc:c<s.channels.length) (m:Nat):SoZ :=
 ⟨s.principals,s.globals,s.arrays,s.channels.set c ⟨s.channels[c].name,s.channels[c].label ||| m⟩,s.funcs⟩
theorem upC_lb (c:Nat) (hc:c<s.channels.length) (m:Nat):Lb s (upC s c hc m) :=
 ⟨⟨rfl,rfl,rfl,map_set_self hc rfl,rfl⟩,fun g kd k hk=>by
   unfold lblZ upC
   simp only
   rw [if_neg hk,if_neg hk]⟩
theorem upC_to (c:Nat) (hc:c<s.channels.length) (m:Nat) (g:Nat) (n:ByteArray):toZ (upC s c hc m) g n=toZ s g n∨toZ (upC s c hc m) g n=toZ s g n ||| m:=by
 unfold toZ
 rw [(upC_lb c hc m).toNm.fnd]
 cases fndZ s (g:Int) n with
 | none=>exact .inl rfl
 | some z =>
  obtain ⟨kd,k⟩:=z
  by_cases h4:kd=4
  ·subst h4
   simp only
   unfold lblZ upC
   simp only [List.getElem?_set]
   by_cases hk:c=k
   ·subst hk
    simp [hc]
   ·simp [hk]
  ·exact .inl ((upC_lb c hc m).lb g kd k h4)
theorem within_to {a b b' m:Nat} (ha:a<u64B) (hb:b'=b∨b'=b ||| m) (h:within a b=true):within a b'=true:=by
 rcases hb with rfl|rfl
 ·exact h
 ·exact within_up ha h
theorem flow_up {lv m:Nat} (hlv:lv<u64B) {g g':ByteArray→Nat} (hg:∀n,g' n=g n∨g' n=g n ||| m):∀(xs:List Nat) (ts:List ByteArray) (a a':Bool),(∀x∈xs,x<u64B)→(a=true→a'=true)→flowF lv xs (ts.map g) a=true→flowF lv xs (ts.map g') a'=true
 | [],ts,a,a',_,ha,h=>by
  cases ts <;> (unfold flowF at h ⊢;exact ha h)
 | x::xs,[],a,a',_,ha,h=>by
  unfold flowF at h ⊢
  exact ha h
 | x::xs,t::ts,a,a',hx,ha,h=>by
  rw [List.map_cons,flowF] at h ⊢
  refine flow_up hlv hg xs ts _ _ (fun y hy=>hx y (.tail _ hy)) (fun h1=>?_) h
  rw [Bool.and_eq_true] at h1 ⊢
  exact ⟨ha h1.1,within_to (Nat.or_lt_two_pow (n:=64) (hx x (.head _)) hlv) (hg t) h1.2⟩
theorem keeps_up (c:Nat) (hc:c<s.channels.length) (m:Nat) {f:Nat} {x:StZ} {lv:Nat} (hlv:lv<u64B) (hb:∀l,exsL s f l<u64B) (hres:∀d∈s.funcs,∀r∈d.results,r<u64B) (h:keepsZ s f x lv=true):keepsZ (upC s c hc m) f x lv=true:=by
 have hL:=upC_lb c hc m
 have hor:exsL s f x.exprs ||| lv<u64B:=Nat.or_lt_two_pow (n:=64) (hb _) hlv
 have ho:oneL (upC s c hc m) f x.exprs=oneL s f x.exprs:=by
  unfold oneL
  apply List.map_congr_left
  intro e _
  exact hL.exs f [e]
 unfold keepsZ at h ⊢
 rw [hL.exs,hL.toNm.fnd,ho]
 show (if x.kind=1 then _ else _)=true
 split at h
 ·rename_i hk
  rw [if_pos hk]
  exact within_to hor (upC_to c hc m f _) h
 ·rename_i hk
  rw [if_neg hk]
  split at h
  ·rename_i hk2
   rw [if_pos hk2]
   exact within_to hor (upC_to c hc m f _) h
  ·rename_i hk2
   rw [if_neg hk2]
   split at h
   ·rename_i hk4
    rw [if_pos hk4]
    cases hz:fndZ s (f:Int) x.name with
    | none=>rfl
    | some z =>
     rw [hz] at h
     simp only at h ⊢
     show (match s.funcs[z.2]? with | none=>true | some d=>_)=true
     cases hd:s.funcs[z.2]? with
     | none=>rfl
     | some d =>
      rw [hd] at h
      simp only at h ⊢
      exact flow_up hlv (upC_to c hc m f) d.results x.targets _ _ (hres d (List.mem_of_getElem? hd)) (fun e=>e) h
   ·rename_i hk4
    rw [if_neg hk4]
    exact h
theorem decl_lbls (h:declsZE s=none):(∀d∈s.globals,lblE s d.label=0)∧(∀d∈s.arrays,lblE s d.label=0)∧∀d∈s.channels,lblE s d.label=0:=by
 unfold declsZE at h
 simp only at h
 obtain ⟨g1,h⟩:=orO_nn h
 obtain ⟨g2,h⟩:=orO_nn h
 obtain ⟨g3,h⟩:=orO_nn h
 obtain ⟨g4,g5⟩:=orO_nn h
 obtain ⟨e2,_⟩:=grp_none (by decide) g2
 obtain ⟨e3,_⟩:=grp_none (by decide) g3
 obtain ⟨e4,_⟩:=grp_none (by decide) g4
 have key:∀(kd:Nat) (l:List DeZ),(∀j,0≤j→j<0+l.length→glE s kd l j=0)→∀d∈l,lblE s d.label=0:=fun kd l hh d hd=>by
  obtain ⟨j,hj,rfl⟩:=List.getElem_of_mem hd
  have:=hh j (Nat.zero_le _) (by omega)
  unfold glE at this
  rw [List.getElem?_eq_getElem hj] at this
  exact fst0_zero this _ (.tail _ (.head _))
 refine ⟨key _ _ e2,fun d hd=>?_,key _ _ e4⟩
 obtain ⟨j,hj,rfl⟩:=List.getElem_of_mem hd
 have:=e3 j (Nat.zero_le _) (by omega)
 unfold arE at this
 rw [List.getElem?_eq_getElem hj] at this
 exact fst0_zero this _ (.tail _ (.tail _ (.head _)))
theorem open_more (h:flowZ s=(0,0,0)) (c:Nat) (hc:c<s.channels.length) (m:Nat) (hb:∀f l,exsL s f l<u64B) (hres:∀d∈s.funcs,∀r∈d.results,r<u64B) (hlb:∀f,∀x∈levelsZ s f,x<u64B) :
 flowZ (upC s c hc m)=(0,0,0)∨(flowZ (upC s c hc m)).1=10:=by
 obtain ⟨hchk,hkp⟩:=flow_zero.1 h
 have hL:=upC_lb c hc m
 have hz:=chk_zero hchk
 have hl:=hL.toNm.lbl
 obtain ⟨dg,da,dc⟩:=decl_lbls hz.1
 rcases decls_ok (bad:=True) hL.toNm hz.1 (fun d hd=>.inl (by rw [hl];exact dg d hd)) (fun d hd=>.inl (by rw [hl];exact da d hd)) (fun d _=>.inr trivial) with h1|⟨_,a,h1⟩
 ·left
  refine flow_zero.2 ⟨chk_ok h1 fun g hg=>good_fnE ?_,fun g hg j h1 h2=>?_⟩
  ·have hgo:=fn_good hchk (f:=g) hg
   exact fn_ok hL.toNm hgo rfl (by rw [hl];exact hgo.lvl) (fun x hx=>by rw [hl];exact loc_lbl hgo.loc x hx) (fun x hx=>by rw [hl];exact lbs_lbl hgo.res x hx) (by have h1:=hgo.len;simp only [Bool.and_eq_true,decide_eq_true_eq] at h1;exact h1.2) hgo.bdy hgo.sts
  ·have hg0:g<s.funcs.length:=hg
   have e2:levelsZ (upC s c hc m) g=levelsZ s g:=by
    show (match s.funcs[g]? with | none=>[] | some d=>_)=_
    unfold levelsZ
    cases s.funcs[g]? with
    | none=>rfl
    | some d =>
     simp only
     rw [hL.lvs]
   simp only [e2] at h2 ⊢
   exact keeps_up c hc m (hlb g _ (List.getElem_mem h2)) (hb g) hres (hkp g hg0 j h1 h2)
 ·right
  have hc1:chkZ nstZ (upC s c hc m)=(10,-1,(a:Int)):=by
   unfold chkZ
   rw [h1]
   rfl
  unfold flowZ
  rw [hc1,if_neg (by simp)]
def oD (one:Nat) (d:DeZ):DeZ:=⟨d.name,one⟩
def oA (one:Nat) (d:ArZ):ArZ:=⟨d.name,d.len,one⟩
def oF (one:Nat) (d:FnZ):FnZ:=⟨d.name,one,d.params.map (oD one),d.results.map (fun _=>one),d.vars.map (oD one),d.body⟩
def oS (one:Nat) (s:SoZ):SoZ:=⟨s.principals,s.globals.map (oD one),s.arrays.map (oA one),s.channels.map (oD one),s.funcs.map (oF one)⟩
def Z1 (one x:Nat):Prop:=x=0∨x=one
section
variable {one:Nat}
theorem oS_nm:Nm s (oS one s):=by
 refine ⟨rfl,?_,?_,?_,?_⟩
 ·simp [oS,List.map_map,Function.comp_def,oD]
 ·simp [oS,List.map_map,Function.comp_def,oA]
 ·simp [oS,List.map_map,Function.comp_def,oD]
 ·simp [oS,List.map_map,Function.comp_def,oF,sgF,oD]
theorem Z1.or {a b:Nat} (ha:Z1 one a) (hb:Z1 one b):Z1 one (a ||| b):=by
 rcases ha with rfl|rfl <;> rcases hb with rfl|rfl
 ·exact .inl rfl
 ·right;simp
 ·right;simp
 ·right;simp
theorem Z1.within (h1:one<u64B) {a:Nat} (ha:Z1 one a):within a one=true:=by
 rcases ha with rfl|rfl
 ·exact within_zero _
 ·exact within_self h1
theorem oD_at (l:List DeZ) (k:Nat):Z1 one ((((l.map (oD one))[k]?).map DeZ.label).getD 0):=by
 rw [List.getElem?_map]
 cases l[k]? with
 | none=>exact .inl rfl
 | some d=>exact .inr rfl
theorem oS_lbl (f kd k:Nat):Z1 one (lblZ (oS one s) f kd k):=by
 unfold lblZ oS
 simp only
 split
 ·rw [List.getElem?_map]
  cases s.funcs[f]? with
  | none=>exact .inl rfl
  | some d =>
   simp only [Option.map_some,oF]
   rw [←List.map_append]
   exact oD_at _ _
 ·split
  ·exact oD_at _ _
  ·split
   ·rw [List.getElem?_map]
    cases s.arrays[k]? with
    | none=>exact .inl rfl
    | some d=>exact .inr rfl
   ·split
    ·exact oD_at _ _
    ·exact .inl rfl
theorem oS_ref {f kd k:Nat} (hr:RefOk (oS one s) f kd k) (h5:kd≠5):lblZ (oS one s) f kd k=one:=by
 have hD:∀(l:List DeZ) (k:Nat),k<l.length→(((l.map (oD one))[k]?).map DeZ.label).getD 0=one:=fun l k hk=>by
  rw [List.getElem?_map,List.getElem?_eq_getElem hk]
  rfl
 unfold RefOk oS at hr
 simp only [List.length_map] at hr
 unfold lblZ oS
 simp only
 rcases hr with ⟨rfl,hf,hk⟩|⟨rfl,hk⟩|⟨rfl,hk⟩|⟨rfl,hk⟩|⟨rfl,hk⟩
 ·rw [if_pos rfl,List.getElem?_map,List.getElem?_eq_getElem hf]
  simp only [Option.map_some,oF]
  rw [←List.map_append]
  apply hD
  simpa [oF] using hk
 ·rw [if_neg (by decide),if_pos rfl];exact hD _ _ hk
 ·rw [if_neg (by decide),if_neg (by decide),if_pos rfl,List.getElem?_map,List.getElem?_eq_getElem hk];rfl
 ·rw [if_neg (by decide),if_neg (by decide),if_neg (by decide),if_pos rfl];exact hD _ _ hk
 ·exact absurd rfl h5
theorem oS_tm {f:Nat} {t:TmZ} {x:Nat} (h:tmL (oS one s) f t=some x):Z1 one x:=by
 have hn:∀n ks y,nmdZ (oS one s) f n ks=some y→Z1 one y:=fun n ks y h=>by
  unfold nmdZ at h
  cases hz:fndZ (oS one s) (f:Int) n with
  | none=>rw [hz] at h;cases h
  | some z =>
   rw [hz] at h
   simp only at h
   split at h
   ·injection h with h
    subst h
    exact oS_lbl _ _ _
   ·cases h
 unfold tmL at h
 split at h
 ·exact hn _ _ _ h
 ·split at h
  ·exact hn _ _ _ h
  ·injection h with h
   exact .inl h.symm
theorem oS_ex {f:Nat}:∀(l:List TmZ) (a x:Nat),Z1 one a→exL (oS one s) f l a=some x→Z1 one x
 | [],a,x,ha,h=>by
  unfold exL at h
  injection h with h
  exact h ▸ ha
 | t::l,a,x,ha,h=>by
  unfold exL at h
  cases ht:tmL (oS one s) f t with
  | none=>rw [ht] at h;cases h
  | some y =>
   rw [ht] at h
   exact oS_ex l _ _ (ha.or (oS_tm ht)) h
theorem oS_exF {f:Nat}:∀(l:List (List TmZ)) (a:Nat),Z1 one a→Z1 one (exsF (oS one s) f l a)
 | [],_,ha=>ha
 | e::l,a,ha=>by
  unfold exsF
  refine oS_exF l _ (ha.or ?_)
  unfold exprL
  split
  ·cases hx:exL (oS one s) f e 0 with
   | none=>exact .inl rfl
   | some x=>exact oS_ex e 0 x (.inl rfl) hx
  ·exact .inl rfl
theorem oS_exs (f:Nat) (l:List (List TmZ)):Z1 one (exsL (oS one s) f l):=oS_exF l 0 (.inl rfl)
theorem oS_lvF {f:Nat}:∀(l:List StZ) (row:List Nat),(∀x∈row,Z1 one x)→∀x∈lvF (oS one s) f l row,Z1 one x
 | [],_,_,x,hx=>by cases hx
 | y::l,row,hr,x,hx=>by
  have hd:∀j,Z1 one (row.getD j 0):=fun j=>by
   by_cases hj:j<row.length
   ·exact hr _ (getD_mem hj)
   ·rw [List.getD_eq_getElem?_getD,List.getElem?_eq_none (by omega)];exact .inl rfl
  rw [lvF] at hx
  rcases List.mem_cons.1 hx with rfl|hx
  ·exact hd _
  ·refine oS_lvF l _ (fun z hz=>?_) x hx
   unfold rowZ at hz
   split at hz
   ·rcases List.mem_append.1 hz with hz|hz
    ·exact hr z hz
    ·rw [List.mem_singleton.1 hz]
     exact (hd _).or (oS_exs _ _)
   ·split at hz
    ·exact hr z (List.mem_of_mem_take hz)
    ·exact hr z hz
theorem oS_lv {f:Nat}:∀x∈levelsZ (oS one s) f,Z1 one x:=by
 intro x hx
 unfold levelsZ at hx
 cases hd:(oS one s).funcs[f]? with
 | none=>rw [hd] at hx;cases hx
 | some d =>
  have hv:d.level=one:=by
   unfold oS at hd
   simp only [List.getElem?_map] at hd
   cases hs:s.funcs[f]? with
   | none=>rw [hs] at hd;cases hd
   | some d0 =>
    rw [hs] at hd
    injection hd with hd
    rw [←hd]
    rfl
  rw [hd] at hx
  simp only at hx
  split at hx
  ·exact oS_lvF _ _ (fun z hz=>by rw [List.mem_singleton.1 hz];exact .inr hv) x hx
  ·cases hx
theorem flow_one (h1:one<u64B) {lv:Nat} (hlv:Z1 one lv):∀(xs ys:List Nat) (a:Bool),(∀x∈xs,Z1 one x)→(∀y∈ys,y=one)→a=true→flowF lv xs ys a=true
 | [],ys,a,_,_,ha=>by cases ys <;> (unfold flowF;exact ha)
 | x::xs,[],a,_,_,ha=>by unfold flowF;exact ha
 | x::xs,y::ys,a,hx,hy,ha=>by
  rw [flowF]
  refine flow_one h1 hlv xs ys _ (fun z hz=>hx z (.tail _ hz)) (fun z hz=>hy z (.tail _ hz)) ?_
  rw [ha,Bool.true_and,hy y (.head _)]
  exact ((hx x (.head _)).or hlv).within h1
theorem oS_keeps (h1:one<u64B) {f:Nat} {x:StZ} {lv:Nat} (hlv:Z1 one lv) (hst:stE (oS one s) f x=0):keepsZ (oS one s) f x lv=true:=by
 have huse:=st_uses hst
 have ok:∀n kd,(n,kd)∈usesZ x→kd≠5→toZ (oS one s) f n=one:=fun n kd hm h5=>by
  obtain ⟨k,j,hz,hkk⟩:=use_found huse hm
  unfold toZ
  rw [show fndZ (oS one s) (f:Int) n=some (k,j) from hz]
  refine oS_ref (fnd_ref hz) ?_
  simp only at hkk
  omega
 have hE:=oS_exs (one:=one) (s:=s) f
 have hO:∀y∈oneL (oS one s) f x.exprs,Z1 one y:=fun y hy=>by
  unfold oneL at hy
  obtain ⟨e,_,rfl⟩:=List.mem_map.1 hy
  exact hE _
 have hfn:∀{k:Nat} {d:FnZ},(oS one s).funcs[k]?=some d→d.level=one∧(∀y∈d.results,y=one)∧∀y∈d.params.map DeZ.label,y=one:=fun {k d} hd=>by
  unfold oS at hd
  simp only [List.getElem?_map] at hd
  cases hs:s.funcs[k]? with
  | none=>rw [hs] at hd;cases hd
  | some d0 =>
   rw [hs] at hd
   injection hd with hd
   rw [←hd]
   refine ⟨rfl,fun y hy=>?_,fun y hy=>?_⟩
   ·simp only [oF] at hy
    obtain ⟨_,_,rfl⟩:=List.mem_map.1 hy
    rfl
   ·simp only [oF,List.map_map] at hy
    obtain ⟨_,_,rfl⟩:=List.mem_map.1 hy
    rfl
 unfold keepsZ
 split
 ·rename_i hk
  have hfit:=unl_zero (by decide) (fst0_zero hst _ (.head _))
  unfold fitZ formZ at hfit
  rw [hk] at hfit
  simp [isC] at hfit
  obtain ⟨t,l,e⟩:=List.exists_cons_of_length_pos (l:=x.targets) (by omega)
  rw [e,List.headD_cons,ok t 2 (by unfold usesZ;rw [e];simp) (by decide)]
  exact ((hE _).or hlv).within h1
 ·split
  ·rename_i hk
   have:toZ (oS one s) f x.name=one:=by
    rcases hk with hk|hk
    ·exact ok x.name 3 (by unfold usesZ;simp [hk]) (by decide)
    ·exact ok x.name 4 (by unfold usesZ;simp [hk]) (by decide)
   rw [this]
   exact ((hE _).or hlv).within h1
  ·split
   ·cases hz:fndZ (oS one s) (f:Int) x.name with
    | none=>rfl
    | some z =>
     simp only
     cases hd:(oS one s).funcs[z.2]? with
     | none=>rfl
     | some d =>
      obtain ⟨d1,d2,d3⟩:=hfn hd
      simp only
      refine flow_one h1 hlv _ _ _ (fun y hy=>.inr (d2 y hy)) (fun y hy=>?_) ?_
      ·obtain ⟨t,ht,rfl⟩:=List.mem_map.1 hy
       exact ok t 2 (by unfold usesZ;simp [ht]) (by decide)
      ·rw [Bool.and_eq_true]
       refine ⟨flow_one h1 hlv _ _ _ hO d3 rfl,?_⟩
       rw [d1,Nat.zero_or]
       exact hlv.within h1
   ·split
    ·cases hd:(oS one s).funcs[f]? with
     | none=>rfl
     | some d =>
      obtain ⟨d1,d2,d3⟩:=hfn hd
      simp only
      exact flow_one h1 hlv _ _ _ hO d2 rfl
    ·rfl
theorem open_one (h:chkZ nstZ s=(0,0,0)) (h1:one<u64B) (ho:lblE s one=0):flowZ (oS one s)=(0,0,0):=by
 have hN:=oS_nm (s:=s) (one:=one)
 have hz:=chk_zero h
 have hl:lblE (oS one s) one=0:=by rw [hN.lbl];exact ho
 have hD:∀(l:List DeZ),∀d∈l.map (oD one),lblE (oS one s) d.label=0:=fun l d hd=>by
  obtain ⟨_,_,rfl⟩:=List.mem_map.1 hd
  exact hl
 have hd:declsZE (oS one s)=none:=by
  rcases decls_ok (bad:=False) hN hz.1 (fun d hd=>.inl (hD _ d hd)) (fun d hd=>.inl (by obtain ⟨_,_,rfl⟩:=List.mem_map.1 hd;exact hl)) (fun d hd=>.inl (hD _ d hd)) with h1|h1
  ·exact h1
  ·exact h1.1.elim
 have hgo:∀g (hg:g<(oS one s).funcs.length),FnGood nstZ (oS one s) g (oS one s).funcs[g]:=fun g hg=>by
  have hg0:g<s.funcs.length:=by simpa [oS] using hg
  have hgo:=fn_good h hg0
  have e:(oS one s).funcs[g]=oF one s.funcs[g]:=by simp [oS]
  rw [e]
  refine fn_ok hN hgo ?_ hl (fun x hx=>?_) (fun x hx=>?_) ?_ ?_ hgo.sts
  ·simp [oF,sgF,List.map_map,Function.comp_def,oD]
  ·simp only [oF] at hx
   rw [←List.map_append] at hx
   exact hD _ x hx
  ·simp only [oF] at hx
   obtain ⟨_,_,rfl⟩:=List.mem_map.1 hx
   exact hl
  ·have h1:=hgo.len
   simp only [Bool.and_eq_true,decide_eq_true_eq] at h1
   exact h1.2
  ·exact hgo.bdy
 refine flow_zero.2 ⟨chk_ok hd fun g hg=>good_fnE (hgo g hg),fun g hg j h1' h2=>?_⟩
 exact oS_keeps h1 (oS_lv _ (List.getElem_mem h2)) ((hgo g hg).sts _ (List.getElem_mem h1'))
end
end
end Go.Proofs.YtlpdjfimefjmcaaGreatDoor
namespace Go.Proofs.YtlpdjfimefjmcaaGreatDoor
open Go Go.RowKit Go.Proofs.Mm
structure TL (one:Nat) (L:Cl) (D:Addr→Prop) (V:World):Prop where
 all:∀a v,L a=some v→V.cell? a=some v∨∃x,v=.int .u64 x∧V.cell? a=some (.int .u64 (one:Nat))
 done:∀a x,D a→L a=some (.int .u64 x)→V.cell? a=some (.int .u64 (one:Nat))
section
variable {one:Nat} {L:Cl} {D D':Addr→Prop} {V V':World}
theorem TL.other (h:TL one L D V) {a:Addr} {v:Value} (hL:L a=some v) (hv:∀x,v≠.int .u64 x):V.cell? a=some v:=by
 rcases h.all a _ hL with e|⟨n',e1,_⟩
 ·exact e
 ·exact absurd e1 (hv n')
theorem TL.cur (h:TL one L D V) {a:Addr} {x:Int} (hL:L a=some (.int .u64 x)):∃y,V.cell? a=some (.int .u64 y):=by
 rcases h.all a _ hL with e|⟨n',e1,e2⟩
 ·exact ⟨x,e⟩
 ·exact ⟨_,e2⟩
theorem TL.step (h:TL one L D V) {a:Addr} {x:Int} (hL:L a=some (.int .u64 x)) (ha:V'.cell? a=some (.int .u64 (one:Nat))) (ho:∀b v,b≠a→L b=some v→V'.cell? b=V.cell? b):TL one L (fun b=>D b∨b=a) V':=by
 constructor
 ·intro b v hb
  by_cases e:b=a
  ·subst e
   rw [hL] at hb
   injection hb with hb
   subst hb
   exact .inr ⟨x,rfl,ha⟩
  ·rw [ho b v e hb]
   exact h.all b v hb
 ·intro b m hD hb
  by_cases e:b=a
  ·subst e
   exact ha
  ·rcases hD with hD|hD
   ·rw [ho b _ e hb]
    exact h.done b m hD hb
   ·exact absurd hD e
end
section
variable {one:Nat} {lt:Bool} {L:Cl} {D:Addr→Prop} {V:World} {q:Option Addr} {n c:Nat}
theorem str_tl (T:TL one L D V) {l:List ByteArray} (h:StrR lt L (.slice q n c) l):StrR false (wC V) (.slice q n c) l:=by
 have:=slx_build (size:=1) (D:=wC V) (R':=fun c s=>c=[Value.string s]) id h (by decide) fun j hj=>by
  obtain ⟨g,o,e,h0⟩:=h.cells j hj
  rw [show o+j=o+j*1+0 by omega] at h0
  exact ⟨g,o,e,[.string l[j]],rfl,rfl,row1 (P:=fun r u=>wC V ⟨g,o+j*1+r,none⟩=some u) (T.other h0 (fun _ e=>by cases e))⟩
 rwa [List.map_id] at this
theorem des_tl (h1:one<u64B) (T:TL one L D V) {l:List DeZ} (h:DesR lt L (.slice q n c) l) (hp:Pos D q l.length 2 1):DesR false (wC V) (.slice q n c) (l.map (oD one)):=by
 refine slx_build (size:=2) (oD one) h (by decide) fun j hj=>?_
 obtain ⟨g,o,e,h0,h1',h2⟩:=h.cells j hj
 exact ⟨g,o,e,deZ (oD one l[j]),⟨rfl,h1⟩,rfl,row2 (P:=fun r u=>wC V ⟨g,o+j*2+r,none⟩=some u) (T.other h0 (fun _ e=>by cases e)) (T.done _ _ (hp j hj g o e) h1')⟩
theorem ars_tl (h1:one<u64B) (T:TL one L D V) {l:List ArZ} (h:ArsR lt L (.slice q n c) l) (hp:Pos D q l.length 3 2):ArsR false (wC V) (.slice q n c) (l.map (oA one)):=by
 refine slx_build (size:=3) (oA one) h (by decide) fun j hj=>?_
 obtain ⟨g,o,e,h0,h1',h2,h3⟩:=h.cells j hj
 exact ⟨g,o,e,arZv (oA one l[j]),⟨rfl,h1⟩,rfl,row3 (P:=fun r u=>wC V ⟨g,o+j*3+r,none⟩=some u) (T.other h0 (fun _ e=>by cases e)) (T.other h1' (fun _ e=>by cases e)) (T.done _ _ (hp j hj g o e) h2)⟩
theorem las_tl (h1:one<u64B) (T:TL one L D V) {l:List Nat} (h:LasR lt L (.slice q n c) l) (hp:Pos D q l.length 1 0):LasR false (wC V) (.slice q n c) (l.map fun _=>one):=by
 refine slx_build (size:=1) (fun _=>one) h (by decide) fun j hj=>?_
 obtain ⟨g,o,e,h0,h2⟩:=h.cells j hj
 rw [show o+j=o+j*1+0 by omega] at h0
 exact ⟨g,o,e,laZ one,⟨rfl,h1⟩,rfl,row1 (P:=fun r u=>wC V ⟨g,o+j*1+r,none⟩=some u) (T.done _ _ (hp j hj g o e) h0)⟩
theorem tms_tl (T:TL one L D V) {l:List TmZ} (h:TmsR lt L (.slice q n c) l):TmsR false (wC V) (.slice q n c) l:=by
 have:=slx_build (size:=3) (D:=wC V) (R':=fun c t=>c=tmZ t) id h (by decide) fun j hj=>by
  obtain ⟨g,o,e,h0,h1,h2⟩:=h.cells j hj
  exact ⟨g,o,e,tmZ l[j],rfl,rfl,row3 (P:=fun r u=>wC V ⟨g,o+j*3+r,none⟩=some u) (T.other h0 (fun _ e=>by cases e)) (T.other h1 (fun _ e=>by cases e)) (T.other h2 (fun _ e=>by cases e))⟩
 rwa [List.map_id] at this
theorem exs_tl (T:TL one L D V) {l:List (List TmZ)} (h:ExsR lt L (.slice q n c) l):ExsR false (wC V) (.slice q n c) l:=by
 have:=slx_build (size:=1) (D:=wC V) (R':=ExR1 false (wC V)) id h (by decide) fun j hj=>by
  obtain ⟨g,o,qe,ce,e,h0,h1⟩:=h.cells j hj
  refine ⟨g,o,e,[.slice qe l[j].length ce],⟨_,rfl,tms_tl T h1⟩,rfl,row1 (P:=fun r u=>wC V ⟨g,o+j*1+r,none⟩=some u) ?_⟩
  rw [show o+j*1+0=o+j by omega]
  exact T.other h0 (fun _ e=>by cases e)
 rwa [List.map_id] at this
theorem bd_tl (T:TL one L D V) {l:List StZ} (h:BdR lt L (.slice q n c) l):BdR false (wC V) (.slice q n c) l:=by
 have:=slx_build (size:=4) (D:=wC V) (R':=StR1 false (wC V)) id h (by decide) fun j hj=>by
  obtain ⟨g,o,qt,ct,qe,ce,e,h0,h1,h2,h3,ht,he⟩:=h.cells j hj
  exact ⟨g,o,e,[.int .i64 l[j].kind,.string l[j].name,.slice qt l[j].targets.length ct,.slice qe l[j].exprs.length ce],⟨_,_,rfl,str_tl T ht,exs_tl T he⟩,rfl,
   row4 (P:=fun r u=>wC V ⟨g,o+j*4+r,none⟩=some u) (T.other h0 (fun _ e=>by cases e)) (T.other h1 (fun _ e=>by cases e)) (T.other h2 (fun _ e=>by cases e)) (T.other h3 (fun _ e=>by cases e))⟩
 rwa [List.map_id] at this
def PosN (D:Addr→Prop) (L:Cl) (g o:Nat) (f:FnZ):Prop:=D ⟨g,o+1,none⟩∧(∀qt ct,L ⟨g,o+2,none⟩=some (.slice qt f.params.length ct)→Pos D qt f.params.length 2 1)∧(∀qt ct,L ⟨g,o+3,none⟩=some (.slice qt f.results.length ct)→Pos D qt f.results.length 1 0)∧∀qt ct,L ⟨g,o+4,none⟩=some (.slice qt f.vars.length ct)→Pos D qt f.vars.length 2 1
def PosFl (D:Addr→Prop) (L:Cl) (q:Option Addr) (l:List FnZ) (k:Nat):Prop:=∀j (hj:j<l.length),j<k→∀g o,q=some ⟨g,o,none⟩→PosN D L g (o+j*6) l[j]
theorem fns_tl (h1:one<u64B) (T:TL one L D V) {l:List FnZ} (h:FnsR lt L (.slice q n c) l) (hp:PosFl D L q l l.length):FnsR false (wC V) (.slice q n c) (l.map (oF one)):=by
 refine slx_build (size:=6) (oF one) h (by decide) fun j hj=>?_
 obtain ⟨g,o,qp,cp,qr,cr,qv,cv,qb,cb,e,h0,h1',h2,h3,h4,h5,hl,hP,hR,hV,hB⟩:=h.cells j hj
 obtain ⟨k1,k2,k3,k4⟩:=hp j hj hj g o e
 refine ⟨g,o,e,[.string l[j].name,.int .u64 (one:Nat),.slice qp l[j].params.length cp,.slice qr l[j].results.length cr,.slice qv l[j].vars.length cv,.slice qb l[j].body.length cb],⟨_,_,_,_,rfl,h1,?_,?_,?_,bd_tl T hB⟩,rfl,
  row6 (P:=fun r u=>wC V ⟨g,o+j*6+r,none⟩=some u) (T.other h0 (fun _ e=>by cases e)) (T.done _ _ k1 h1') (T.other h2 (fun _ e=>by cases e)) (T.other h3 (fun _ e=>by cases e)) (T.other h4 (fun _ e=>by cases e)) (T.other h5 (fun _ e=>by cases e))⟩
 ·exact des_tl h1 T hP (k2 _ _ h2)
 ·exact las_tl h1 T hR (k3 _ _ h3)
 ·exact des_tl h1 T hV (k4 _ _ h4)
end
theorem src_tl {one:Nat} {lt:Bool} {L:Cl} {D:Addr→Prop} {V:World} {s:SoZ} {q1:Option Addr} {c1:Nat} {q2:Option Addr} {c2:Nat} {q3:Option Addr} {c3:Nat} {q4:Option Addr} {c4:Nat} {q5:Option Addr} {c5:Nat} (h1:one<u64B) (T:TL one L D V) (h:SrcO lt L s q1 c1 q2 c2 q3 c3 q4 c4 q5 c5)
 (p2:Pos D q2 s.globals.length 2 1) (p3:Pos D q3 s.arrays.length 3 2) (p4:Pos D q4 s.channels.length 2 1) (p5:PosFl D L q5 s.funcs s.funcs.length):SrcO false (wC V) (oS one s) q1 c1 q2 c2 q3 c3 q4 c4 q5 c5:=by
 have hm:∀{α β:Type} (f:α→β) (l:List α),(l.map f).length=l.length:=fun f l=>List.length_map ..
 refine ⟨str_tl T h.pr,?_,?_,?_,?_⟩
 ·show DesR false (wC V) (.slice q2 (s.globals.map (oD one)).length c2) _
  rw [hm];exact des_tl h1 T h.gl p2
 ·show ArsR false (wC V) (.slice q3 (s.arrays.map (oA one)).length c3) _
  rw [hm];exact ars_tl h1 T h.ar p3
 ·show DesR false (wC V) (.slice q4 (s.channels.map (oD one)).length c4) _
  rw [hm];exact des_tl h1 T h.ch p4
 ·show FnsR false (wC V) (.slice q5 (s.funcs.map (oF one)).length c5) _
  rw [hm];exact fns_tl h1 T h.fn p5
set_option maxRecDepth 100000
theorem slx_mk {α:Type} {bs:Nat} {C:Cl} {R:List Value→α→Prop} {l:List α} {g c:Nat} {cs:List Value} (hr:∀j u,cs[j]?=some u→C ⟨g,0+j,none⟩=some u) (he:Enc R cs l) (hb:l.length*bs≤140737488351232) (hc:c≤maxLen) (hl:l.length≤c) :
 SlX [] bs C R (.slice (some ⟨g,0,none⟩) l.length c) l :=
 ⟨_,_,cs,rfl,.inl rfl,.inr ⟨g,0,rfl,by rw [List.append_nil];exact hr⟩,he,hb,hc,(fun h=>nomatch h),hl⟩
theorem slx_nil {α:Type} {bs:Nat} {C:Cl} {R:List Value→α→Prop}:SlX [] bs C R (.slice none 0 0) ([]:List α) :=
 ⟨none,0,[],rfl,.inl rfl,.inl rfl,Enc.nil,by simp,by decide,fun _=>rfl,by simp⟩
end Go.Proofs.YtlpdjfimefjmcaaGreatDoor
