/- Package flowtype: keeps, whatever the statement. Plain: in a source without a fault every use is found, as what it must be, and no two names are one. Package flowtype, plain: names in order give StOk; which statement first does not keep the labels. Package flowtype, plain: labels as sets; when a sou -/
import Derived.Test.YtlpdjfimefjmcaaGreatDoorFlOpenPR16
import Derived.Test.YtlpdjfimefjmcaaGreatDoorFlOpenPR4
namespace Go.Proofs.YtlpdjfimefjmcaaGreatDoor
open Go Go.RowKit Go.Proofs.Mm
structure StOk (s:SoZ) (f:Nat) (x:StZ):Prop where
 asn:x.kind=1→∃t l z,x.targets=t::l∧fndZ s (f:Int) t=some z
 nam:x.kind=2∨x.kind=3→∃z,fndZ s (f:Int) x.name=some z
 cal:x.kind=4→∃z,fndZ s (f:Int) x.name=some z∧∃hf:z.2<s.funcs.length,x.exprs.length≤s.funcs[z.2].params.length∧x.targets.length≤s.funcs[z.2].results.length∧∀t∈x.targets,∃z,fndZ s (f:Int) t=some z
 ret:x.kind=9→∃hf:f<s.funcs.length,x.exprs.length≤s.funcs[f].results.length
section
variable {W:World} {lt:Bool} {C:Cl} {s:SoZ} {q1:Option Addr} {c1:Nat} {q2:Option Addr} {c2:Nat} {q3:Option Addr} {c3:Nat} {q4:Option Addr} {c4:Nat} {q5:Option Addr} {c5:Nat}
theorem keeps_p (h:SrcO lt C s q1 c1 q2 c2 q3 c3 q4 c4 q5 c5) (hC:CLe C (wC W)) (f lv:Nat) (hlv:lv<u64B) (x:StZ) (qt qe:Option Addr) (ct ce:Nat) (he:ExW lt C W qe x.exprs) (hln:x.exprs.length<9223372036854775807) (htg:StrR lt C (.slice qt x.targets.length ct) x.targets) (ok:StOk s f x) :
 Calls Tryz.prog 23 #[.agg (srV s q1 c1 q2 c2 q3 c3 q4 c4 q5 c5),.int .i64 (f:Int),.agg #[.int .i64 x.kind,.string x.name,.slice qt x.targets.length ct,.slice qe x.exprs.length ce],.int .u64 (lv:Nat)] W (RetB (.bool (keepsZ s f x lv)) W):=by
 obtain ⟨kd,xn,ts,xs⟩:=x
 obtain ⟨o1,o2,o4,o9⟩:=ok
 simp only at he hln htg o1 o2 o4 o9 ⊢
 by_cases h1:kd=1
 ·subst h1
  obtain ⟨t,l,z,rfl,hz⟩:=o1 rfl
  obtain ⟨g,o,hq,hc⟩:=htg.cells 0 (by simp)
  have e:keepsZ s f ⟨1,xn,t::l,xs⟩ lv=within (exsL s f xs ||| lv) (toZ s f t):=rfl
  rw [e]
  exact keeps_1 h hC f lv hlv xn xs qt qe _ ct ce he t g o hq (by simp) (hC _ _ (by simpa using hc)) hln z hz
 by_cases h2:kd=2
 ·subst h2
  obtain ⟨z,hz⟩:=o2 (.inl rfl)
  exact keeps_2 h hC f lv hlv xn xs qt qe _ ct ce he hln z hz
 by_cases h3:kd=3
 ·subst h3
  obtain ⟨z,hz⟩:=o2 (.inr rfl)
  exact keeps_3 h hC f lv hlv xn xs qt qe _ ct ce he hln z hz
 by_cases h4:kd=4
 ·subst h4
  obtain ⟨z,hz,hf,l1,l2,l3⟩:=o4 rfl
  have e:keepsZ s f ⟨4,xn,ts,xs⟩ lv=flowF lv s.funcs[z.2].results (ts.map (toZ s f)) (flowF lv (oneL s f xs) (s.funcs[z.2].params.map DeZ.label) true && within (0 ||| lv) s.funcs[z.2].level):=by
   unfold keepsZ
   simp [hz,List.getElem?_eq_getElem hf]
  rw [e]
  exact keeps_4 h hC f lv hlv xn xs ts qt qe ct ce he hln htg z hz hf l1 l2 l3
 by_cases h9:kd=9
 ·subst h9
  obtain ⟨hf,l1⟩:=o9 rfl
  have e:keepsZ s f ⟨9,xn,ts,xs⟩ lv=flowF lv (oneL s f xs) s.funcs[f].results true:=by
   unfold keepsZ
   simp [List.getElem?_eq_getElem hf]
  rw [e]
  exact keeps_9 h hC f lv hf hlv xn xs qt qe _ ct ce he hln l1
 have e:keepsZ s f ⟨kd,xn,ts,xs⟩ lv=true:=by unfold keepsZ;simp [h1,h2,h3,h4,h9]
 rw [e]
 exact keeps_other f kd lv xn qt qe _ ct _ ce h1 h2 h3 h4 h9
end
end Go.Proofs.YtlpdjfimefjmcaaGreatDoor
namespace Go.Proofs.YtlpdjfimefjmcaaGreatDoor
open Go
theorem grp_none {most:Nat} {e:Nat→Nat} {base:Nat}:∀{n k:Nat},k≤most→grpF most e base n k=none→(∀j,k≤j→j<k+n→e j=0)∧k+n≤most
 | 0,k,hk,_=>⟨fun j h1 h2=>by omega,hk⟩
 | n+1,k,hk,h=>by
  rw [grpF] at h
  split at h
  ·cases h
  ·rename_i hne
   split at h
   ·rename_i he
    obtain ⟨h1,h2⟩:=grp_none (n:=n) (k:=k+1) (by omega) h
    refine ⟨fun j h3 h4=>?_,by omega⟩
    by_cases hj:j=k
    ·rw [hj];exact he
    ·exact h1 j (by omega) (by omega)
   ·cases h
theorem orO_nn {α:Type} {a b:Option α} (h:orO a b=none):a=none∧b=none:=by
 cases a with
 | none=>exact ⟨rfl,h⟩
 | some x=>cases h
theorem grp_err {most:Nat} {e:Nat→Nat} {base:Nat}:∀{n k a er:Nat},grpF most e base n k=some (a,er)→er≠0
 | 0,_,_,_,h=>by cases h
 | n+1,k,a,er,h=>by
  rw [grpF] at h
  split at h
  ·injection h with h;injection h with _ h;omega
  ·split at h
   ·exact grp_err h
   ·rename_i hne
    injection h with h;injection h with _ h;omega
theorem orO_err {a b:Option (Nat × Nat)} {x y:Nat} (h:orO a b=some (x,y)) (ha:∀u v,a=some (u,v)→v≠0) (hb:∀u v,b=some (u,v)→v≠0):y≠0:=by
 cases a with
 | none=>exact hb _ _ h
 | some p=>exact ha _ _ h
theorem decls_err {s:SoZ} {a e:Nat} (h:declsZE s=some (a,e)):e≠0:=by
 unfold declsZE at h
 refine orO_err h (fun _ _=>grp_err) fun _ _ h=>orO_err h (fun _ _=>grp_err) fun _ _ h=>orO_err h (fun _ _=>grp_err) fun _ _ h=>orO_err h (fun _ _=>grp_err) fun _ _=>grp_err
theorem fst0_zero:∀{l:List Nat},fst0 l=0→∀e∈l,e=0
 | [],_,e,he=>by cases he
 | x::l,h,e,he=>by
  rw [fst0] at h
  split at h
  ·rename_i hx
   rcases List.mem_cons.1 he with rfl|he
   ·exact hx
   ·exact fst0_zero h e he
  ·rename_i hx
   exact absurd h hx
theorem body_err {s:SoZ} {f:Nat}:∀{l:List StZ} {i:Nat} {a:Int} {e:Nat},bodyF s f l i=some (a,e)→e≠0
 | [],_,_,_,h=>by cases h
 | x::l,i,a,e,h=>by
  rw [bodyF] at h
  split at h
  ·exact body_err h
  ·rename_i hx
   injection h with h;injection h with _ h;omega
theorem body_none {s:SoZ} {f:Nat}:∀{l:List StZ} {i:Nat},bodyF s f l i=none→∀x∈l,stE s f x=0
 | [],_,_,x,hx=>by cases hx
 | y::l,i,h,x,hx=>by
  rw [bodyF] at h
  split at h
  ·rename_i he
   rcases List.mem_cons.1 hx with rfl|hx
   ·exact he
   ·exact body_none h x hx
  ·cases h
section
variable {nest:List Int→Bool}
theorem fnE_err {s:SoZ} {f:Nat} {d:FnZ} {a:Int} {e:Nat} (h:fnE nest s f d=some (a,e)):e≠0:=by
 unfold fnE at h
 simp only at h
 split at h
 ·exact body_err h
 ·rename_i hne
  injection h with h;injection h with _ h
  rw [←h];exact hne
theorem fns_err {s:SoZ}:∀{l:List FnZ} {f g:Nat} {a:Int} {e:Nat},fnsF nest s l f=some (g,a,e)→e≠0
 | [],_,_,_,_,h=>by cases h
 | d::l,f,g,a,e,h=>by
  rw [fnsF] at h
  split at h
  ·rename_i a' e' he
   injection h with h;injection h with _ h;injection h with _ h
   rw [←h];exact fnE_err he
  ·exact fns_err h
theorem fns_none {s:SoZ}:∀{l:List FnZ} {f:Nat},fnsF nest s l f=none→∀j (hj:j<l.length),fnE nest s (f+j) l[j]=none
 | [],_,_,j,hj=>absurd hj (by simp)
 | d::l,f,h,j,hj=>by
  rw [fnsF] at h
  split at h
  ·cases h
  ·rename_i he
   cases j with
   | zero=>exact he
   | succ j =>
    have:=fns_none h j (by simpa using hj)
    rw [show f+(j+1)=f+1+j by omega]
    exact this
theorem chk_zero {s:SoZ} (h:chkZ nest s=(0,0,0)):declsZE s=none∧fnsF nest s s.funcs 0=none:=by
 unfold chkZ at h
 cases hd:declsZE s with
 | some p =>
  obtain ⟨a,e⟩:=p
  rw [hd] at h
  have:=decls_err hd
  simp only [Prod.mk.injEq] at h
  omega
 | none =>
  rw [hd] at h
  cases hf:fnsF nest s s.funcs 0 with
  | none=>exact ⟨rfl,rfl⟩
  | some p =>
   obtain ⟨f,a,e⟩:=p
   rw [hf] at h
   have:=fns_err hf
   simp only [Prod.mk.injEq] at h
   omega
theorem unl_zero {b:Bool} {e:Nat} (he:e≠0) (h:unl b e=0):b=true:=by
 unfold unl at h
 split at h
 ·assumption
 ·exact absurd h he
end
theorem use_found {s:SoZ} {f:Nat} {x:StZ} (h:usesE s f x=0) {u:ByteArray × Nat} (hu:u∈usesZ x):∃k j,fndZ s (f:Int) u.1=some (k,j)∧(k=u.2∨u.2=2∧k=1):=by
 have h0:=fst0_zero h (useE s f u) (List.mem_map_of_mem hu)
 unfold useE at h0
 cases hz:fndZ s (f:Int) u.1 with
 | none=>rw [hz] at h0;cases h0
 | some z =>
  obtain ⟨k,j⟩:=z
  rw [hz] at h0
  have:=unl_zero (by decide) h0
  refine ⟨k,j,rfl,?_⟩
  simpa using this
theorem st_ok {s:SoZ} {f:Nat} (hf:f<s.funcs.length) {x:StZ} (h:stE s f x=0):StOk s f x:=by
 have hz:=fst0_zero h
 have hfit:=unl_zero (by decide) (hz _ (.head _))
 have huse:=hz (usesE s f x) (by simp)
 have hcnt:=hz (cntE s f x) (by simp)
 clear hz h
 refine ⟨fun hk=>?_,fun hk=>?_,fun hk=>?_,fun hk=>?_⟩
 ·unfold fitZ formZ at hfit
  rw [hk] at hfit
  simp [isC] at hfit
  obtain ⟨t,l,e⟩:=List.exists_cons_of_length_pos (l:=x.targets) (by omega)
  obtain ⟨k,j,hz,-⟩:=use_found huse (u:=(t,2)) (by unfold usesZ;rw [e];simp)
  exact ⟨t,l,(k,j),e,hz⟩
 ·rcases hk with hk|hk
  ·obtain ⟨k,j,hz,-⟩:=use_found huse (u:=(x.name,3)) (by unfold usesZ;simp [hk])
   exact ⟨(k,j),hz⟩
  ·obtain ⟨k,j,hz,-⟩:=use_found huse (u:=(x.name,4)) (by unfold usesZ;simp [hk])
   exact ⟨(k,j),hz⟩
 ·obtain ⟨k,j,hz,hkk⟩:=use_found huse (u:=(x.name,5)) (by unfold usesZ;simp [hk])
  obtain rfl:k=5:=by simpa using hkk
  have hr:=fnd_ref hz
  unfold RefOk at hr
  have hj:j<s.funcs.length:=by simpa using hr
  unfold cntE at hcnt
  rw [if_pos hk,show fndZ s (f:Int) x.name=some (5,j) from hz] at hcnt
  simp only [Option.getD_some,List.getElem?_eq_getElem hj] at hcnt
  have hc:=unl_zero (by decide) hcnt
  simp at hc
  refine ⟨(5,j),hz,hj,?_,?_,fun t ht=>?_⟩
  ·exact Nat.le_of_eq hc.1
  ·show x.targets.length≤s.funcs[j].results.length
   rcases hc.2 with h0|h0
   ·rw [h0];simp
   ·exact Nat.le_of_eq h0
  ·obtain ⟨k,i,hz,-⟩:=use_found huse (u:=(t,2)) (by unfold usesZ;simp [ht])
   exact ⟨(k,i),hz⟩
 ·unfold cntE at hcnt
  rw [if_neg (by omega),if_pos hk,List.getElem?_eq_getElem hf] at hcnt
  have hc:=unl_zero (by decide) hcnt
  simp at hc
  exact ⟨hf,Nat.le_of_eq hc⟩
theorem all_ok {nest:List Int→Bool} {s:SoZ} (h:chkZ nest s=(0,0,0)) {f:Nat} (hf:f<s.funcs.length):nest (s.funcs[f].body.map StZ.kind)=true∧∀x∈s.funcs[f].body,StOk s f x:=by
 have h1:=fns_none (chk_zero h).2 f hf
 rw [Nat.zero_add] at h1
 unfold fnE at h1
 simp only at h1
 split at h1
 ·rename_i he
  have hz:=fst0_zero he
  refine ⟨?_,fun x hx=>st_ok hf (body_none h1 x hx)⟩
  have h2:=hz (unl (nest (s.funcs[f].body.map StZ.kind) && decide (deepZ s.funcs[f].body 0 0≤12) && onceZ s.funcs[f].body) 50) (by simp)
  have h3:=unl_zero (by decide) h2
  simp only [Bool.and_eq_true] at h3
  exact h3.1.1
 ·cases h1
def badF (s:SoZ) (f:Nat):List StZ→List Nat→Nat→Option Nat
 | x::l,lv::ls,i=>if keepsZ s f x lv then badF s f l ls (i+1) else some i
 | _,_,_=>none
def flowsF (s:SoZ):List FnZ→Nat→Option (Nat × Nat)
 | [],_=>none
 | d::l,f=>match badF s f d.body (levelsZ s f) 0 with
  | some i=>some (f,i)
  | none=>flowsF s l (f+1)
def flowZ (s:SoZ):Int × Int × Int:=if chkZ nstZ s=(0,0,0) then (match flowsF s s.funcs 0 with | none=>(0,0,0) | some p=>(80,p.1,p.2)) else chkZ nstZ s
theorem lvF_length (s:SoZ) (f:Nat):∀(l:List StZ) (row:List Nat),(lvF s f l row).length=l.length
 | [],_=>rfl
 | x::l,row=>by rw [lvF,List.length_cons,List.length_cons,lvF_length s f l _]
theorem levels_length {s:SoZ} (h:chkZ nstZ s=(0,0,0)) {f:Nat} (hf:f<s.funcs.length):(levelsZ s f).length=s.funcs[f].body.length:=by
 unfold levelsZ
 rw [List.getElem?_eq_getElem hf]
 simp only [(all_ok h hf).1,if_true]
 exact lvF_length _ _ _ _
theorem minus_zero {a b:Nat}:minusN a b=0↔∀i,a.testBit i=true→(b ^^^ 18446744073709551615).testBit i=false:=by
 constructor
 ·intro h i hi
  have:=congrArg (fun x=>x.testBit i) h
  simp only [minusN,Nat.testBit_and,Nat.zero_testBit,hi,Bool.true_and] at this
  exact this
 ·intro h
  apply Nat.eq_of_testBit_eq
  intro i
  rw [Nat.zero_testBit]
  unfold minusN
  rw [Nat.testBit_and]
  cases ha:a.testBit i with
  | false=>rfl
  | true=>rw [h i ha];rfl
theorem mask_bit (i:Nat):(18446744073709551615:Nat).testBit i=decide (i<64):=Nat.testBit_two_pow_sub_one 64 i
theorem bit_lt {a i:Nat} (ha:a<u64B) (h:a.testBit i=true):i<64:=by
 apply Classical.byContradiction
 intro hi
 have h2:2 ^ 64≤2 ^ i:=Nat.pow_le_pow_right (by decide) (by omega)
 have:=Nat.testBit_lt_two_pow (x:=a) (i:=i) (Nat.lt_of_lt_of_le ha h2)
 rw [h] at this
 cases this
theorem sub_iff {a b:Nat} (ha:a<u64B):minusN a b=0↔∀i,a.testBit i=true→b.testBit i=true:=by
 rw [minus_zero]
 constructor
 ·intro h i hi
  have h1:=h i hi
  rw [Nat.testBit_xor,mask_bit,decide_eq_true (bit_lt ha hi)] at h1
  simpa using h1
 ·intro h i hi
  rw [Nat.testBit_xor,mask_bit,decide_eq_true (bit_lt ha hi),h i hi]
  rfl
theorem within_iff {a b:Nat} (ha:a<u64B):within a b=true↔∀i,a.testBit i=true→b.testBit i=true:=by
 unfold within
 rw [beq_iff_eq,sub_iff ha]
theorem within_up {a b m:Nat} (ha:a<u64B) (h:within a b=true):within a (b ||| m)=true:=by
 rw [within_iff ha] at h ⊢
 intro i hi
 rw [Nat.testBit_or,h i hi]
 rfl
theorem within_self {a:Nat} (ha:a<u64B):within a a=true:=(within_iff ha).2 fun _ h=>h
theorem within_zero (b:Nat):within 0 b=true:=by unfold within minusN;simp
theorem fst0_none:∀{l:List Nat},(∀e∈l,e=0)→fst0 l=0
 | [],_=>rfl
 | e::l,h=>by
  rw [fst0,if_pos (h e (.head _))]
  exact fst0_none fun x hx=>h x (.tail _ hx)
theorem unl_true {b:Bool} {e:Nat} (h:b=true):unl b e=0:=by unfold unl;rw [h];rfl
section
variable {s s':SoZ} {nest:List Int→Bool}
theorem body_ok {f:Nat}:∀{l:List StZ} {i:Nat},(∀x∈l,stE s f x=0)→bodyF s f l i=none
 | [],_,_=>rfl
 | x::l,i,h=>by
  rw [bodyF,if_pos (h x (.head _))]
  exact body_ok fun y hy=>h y (.tail _ hy)
theorem fns_ok:∀{l:List FnZ} {f:Nat},(∀j (hj:j<l.length),fnE nest s (f+j) l[j]=none)→fnsF nest s l f=none
 | [],_,_=>rfl
 | d::l,f,h=>by
  rw [fnsF,show fnE nest s f d=none from h 0 (by simp)]
  apply fns_ok
  intro j hj
  have:=h (j+1) (by simpa using hj)
  rwa [show f+(j+1)=f+1+j by omega] at this
theorem chk_ok (h1:declsZE s=none) (h2:∀j (hj:j<s.funcs.length),fnE nest s j s.funcs[j]=none):chkZ nest s=(0,0,0):=by
 have h3:fnsF nest s s.funcs 0=none:=fns_ok fun j hj=>by rw [Nat.zero_add];exact h2 j hj
 unfold chkZ
 rw [h1,h3]
structure FnGood (nest:List Int→Bool) (s:SoZ) (f:Nat) (d:FnZ):Prop where
 len:(decide (d.params.length≤8) && decide (d.results.length≤4) && decide (d.vars.length≤32) && decide (d.body.length≤256))=true
 lvl:lblE s d.level=0
 loc:locE s f (d.params++d.vars) 0=0
 res:lbsE s d.results=0
 bdy:(nest (d.body.map StZ.kind) && decide (deepZ d.body 0 0≤12) && onceZ d.body)=true
 sts:∀x∈d.body,stE s f x=0
theorem fnE_good {f:Nat} {d:FnZ} (h:fnE nest s f d=none):FnGood nest s f d:=by
 unfold fnE at h
 simp only at h
 split at h
 ·rename_i he
  have hz:=fst0_zero he
  exact ⟨unl_zero (by decide) (hz _ (.head _)),hz _ (.tail _ (.head _)),hz _ (.tail _ (.tail _ (.head _))),hz _ (.tail _ (.tail _ (.tail _ (.head _)))),unl_zero (by decide) (hz _ (.tail _ (.tail _ (.tail _ (.tail _ (.head _)))))),body_none h⟩
 ·cases h
theorem good_fnE {f:Nat} {d:FnZ} (h:FnGood nest s f d):fnE nest s f d=none:=by
 unfold fnE
 simp only
 rw [if_pos (fst0_none fun e he=>?_)]
 ·exact body_ok h.sts
 ·simp only [List.mem_cons,List.not_mem_nil,or_false] at he
  rcases he with rfl|rfl|rfl|rfl|rfl
  ·exact unl_true h.len
  ·exact h.lvl
  ·exact h.loc
  ·exact h.res
  ·exact unl_true h.bdy
theorem badF_none {f:Nat}:∀{l:List StZ} {ls:List Nat} {i:Nat},badF s f l ls i=none↔∀j (h1:j<l.length) (h2:j<ls.length),keepsZ s f l[j] ls[j]=true
 | [],ls,i=>by simp [badF]
 | x::l,[],i=>by simp [badF]
 | x::l,lv::ls,i=>by
  rw [badF]
  constructor
  ·intro h j h1 h2
   split at h
   ·rename_i hk
    cases j with
    | zero=>exact hk
    | succ j=>exact badF_none.1 h j (by simpa using h1) (by simpa using h2)
   ·cases h
  ·intro h
   have h0:keepsZ s f x lv=true:=h 0 (by simp) (by simp)
   rw [if_pos h0]
   exact badF_none.2 fun j h1 h2=>h (j+1) (by simpa using h1) (by simpa using h2)
theorem flowsF_none:∀{l:List FnZ} {f:Nat},flowsF s l f=none↔∀j (hj:j<l.length),badF s (f+j) l[j].body (levelsZ s (f+j)) 0=none
 | [],f=>by simp [flowsF]
 | d::l,f=>by
  rw [flowsF]
  constructor
  ·intro h j hj
   cases hb:badF s f d.body (levelsZ s f) 0 with
   | some i=>rw [hb] at h;cases h
   | none =>
    rw [hb] at h
    cases j with
    | zero=>exact hb
    | succ j =>
     have:=flowsF_none.1 h j (by simpa using hj)
     rw [show f+(j+1)=f+1+j by omega]
     exact this
  ·intro h
   rw [show badF s f d.body (levelsZ s f) 0=none from h 0 (by simp)]
   apply flowsF_none.2
   intro j hj
   have:=h (j+1) (by simpa using hj)
   rwa [show f+(j+1)=f+1+j by omega] at this
theorem flow_zero:flowZ s=(0,0,0)↔chkZ nstZ s=(0,0,0)∧∀f (hf:f<s.funcs.length) j (h1:j<s.funcs[f].body.length) (h2:j<(levelsZ s f).length),keepsZ s f s.funcs[f].body[j] (levelsZ s f)[j]=true:=by
 unfold flowZ
 constructor
 ·intro h
  split at h
  ·rename_i hc
   refine ⟨hc,fun f hf=>?_⟩
   cases hfl:flowsF s s.funcs 0 with
   | some p=>rw [hfl] at h;simp at h
   | none =>
    have:=flowsF_none.1 hfl f hf
    rw [Nat.zero_add] at this
    exact badF_none.1 this
  ·rename_i hc
   exact absurd h hc
 ·rintro ⟨hc,h⟩
  rw [if_pos hc]
  have:flowsF s s.funcs 0=none:=flowsF_none.2 fun j hj=>by
   rw [Nat.zero_add]
   exact badF_none.2 (h j hj)
  rw [this]
def sgF (d:FnZ):ByteArray × List ByteArray × List ByteArray × Nat:=(d.name,d.params.map DeZ.name,d.vars.map DeZ.name,d.results.length)
structure Nm (s s':SoZ):Prop where
 p:s'.principals=s.principals
 g:s'.globals.map DeZ.name=s.globals.map DeZ.name
 a:s'.arrays.map (fun d=>(d.name,d.len))=s.arrays.map (fun d=>(d.name,d.len))
 c:s'.channels.map DeZ.name=s.channels.map DeZ.name
 f:s'.funcs.map sgF=s.funcs.map sgF
theorem Nm.fns (h:Nm s s') (k:Nat):(s'.funcs[k]?).map sgF=(s.funcs[k]?).map sgF:=by
 rw [←List.getElem?_map,←List.getElem?_map,h.f]
theorem Nm.fn (h:Nm s s') {k:Nat} {d:FnZ} (hd:s.funcs[k]?=some d):∃d',s'.funcs[k]?=some d'∧sgF d'=sgF d:=by
 have:=h.fns k
 rw [hd] at this
 cases hd':s'.funcs[k]? with
 | none=>rw [hd'] at this;cases this
 | some d'=>rw [hd'] at this;exact ⟨d',rfl,Option.some.inj this⟩
theorem Nm.fno (h:Nm s s') {k:Nat} (hd:s.funcs[k]?=none):s'.funcs[k]?=none:=by
 have:=h.fns k
 rw [hd] at this
 cases hd':s'.funcs[k]? with
 | none=>rfl
 | some d'=>rw [hd'] at this;cases this
theorem sgF_of {d d':FnZ} (h:sgF d'=sgF d):d'.name=d.name∧d'.params.map DeZ.name=d.params.map DeZ.name∧d'.vars.map DeZ.name=d.vars.map DeZ.name∧d'.results.length=d.results.length∧d'.params.length=d.params.length∧d'.vars.length=d.vars.length:=by
 unfold sgF at h
 simp only [Prod.mk.injEq] at h
 obtain ⟨a,b,c,e⟩:=h
 exact ⟨a,b,c,e,by simpa using congrArg List.length b,by simpa using congrArg List.length c⟩
theorem Nm.loc (h:Nm s s') (f:Int) (n:ByteArray):locZ s' f n=locZ s f n:=by
 unfold locZ
 split
 ·rfl
 ·cases hd:s.funcs[f.toNat]? with
  | none=>rw [h.fno hd]
  | some d =>
   obtain ⟨d',e,hs⟩:=h.fn hd
   obtain ⟨_,h1,h2,_,h3,_⟩:=sgF_of hs
   rw [e]
   simp only [h1,h2,h3]
theorem Nm.fnd (h:Nm s s') (f:Int) (n:ByteArray):fndZ s' f n=fndZ s f n:=by
 have ha:s'.arrays.map ArZ.name=s.arrays.map ArZ.name:=by
  have:=congrArg (List.map Prod.fst) h.a
  simpa [List.map_map,Function.comp_def] using this
 have hf:s'.funcs.map FnZ.name=s.funcs.map FnZ.name:=by
  have:=congrArg (List.map Prod.fst) h.f
  simpa [List.map_map,Function.comp_def,sgF] using this
 unfold fndZ
 rw [h.loc,h.g,h.c,ha,hf]
theorem Nm.len (h:Nm s s'):s'.funcs.length=s.funcs.length:=by simpa using congrArg List.length h.f
theorem Nm.lbl (h:Nm s s') (l:Nat):lblE s' l=lblE s l:=by unfold lblE;rw [h.p]
theorem Nm.dec (h:Nm s s') (n:ByteArray) (p:Nat × Nat):decE s' n p=decE s n p:=by unfold decE;rw [h.fnd]
theorem Nm.cnt (h:Nm s s') (f:Nat) (x:StZ):cntE s' f x=cntE s f x:=by
 unfold cntE
 rw [h.fnd]
 split
 ·cases hd:s.funcs[((fndZ s (f:Int) x.name).getD (0,0)).2]? with
  | none=>rw [h.fno hd]
  | some d =>
   obtain ⟨d',e,hs⟩:=h.fn hd
   obtain ⟨_,_,_,h4,h3,_⟩:=sgF_of hs
   rw [e]
   simp only [h3,h4]
 ·split
  ·cases hd:s.funcs[f]? with
   | none=>rw [h.fno hd]
   | some d =>
    obtain ⟨d',e,hs⟩:=h.fn hd
    obtain ⟨_,_,_,h4,_⟩:=sgF_of hs
    rw [e]
    simp only [h4]
  ·rfl
theorem Nm.st (h:Nm s s') (f:Nat) (x:StZ):stE s' f x=stE s f x:=by
 have hu:useE s' f=useE s f:=by
  funext u
  unfold useE
  rw [h.fnd]
 unfold stE usesE
 rw [hu,h.cnt]
theorem lbl_ten (s:SoZ) (l:Nat):lblE s l=0∨lblE s l=10:=by
 unfold lblE unl
 split
 ·exact .inl rfl
 ·exact .inr rfl
theorem fst0_two (x:Nat):fst0 [0,x]=x:=by by_cases h:x=0 <;> simp [fst0,h]
theorem fst0_three (x:Nat):fst0 [0,0,x]=x:=by by_cases h:x=0 <;> simp [fst0,h]
section
variable {bad:Prop}
theorem grp_ok {most:Nat} {e:Nat→Nat} {base:Nat}:∀{n k:Nat},k+n≤most→(∀j,k≤j→j<k+n→e j=0∨(bad∧e j=10))→grpF most e base n k=none∨(bad∧∃a,grpF most e base n k=some (a,10))
 | 0,_,_,_=>.inl rfl
 | n+1,k,hk,h=>by
  rw [grpF,if_neg (by omega)]
  rcases h k (Nat.le_refl _) (by omega) with h0|⟨hb,h0⟩
  ·rw [if_pos h0]
   exact grp_ok (by omega) fun j h1 h2=>h j (by omega) (by omega)
  ·rw [if_neg (by omega),h0]
   exact .inr ⟨hb,_,rfl⟩
theorem orO_ok {a b:Option (Nat × Nat)} (ha:a=none∨(bad∧∃x,a=some (x,10))) (hb:b=none∨(bad∧∃x,b=some (x,10))):orO a b=none∨(bad∧∃x,orO a b=some (x,10)):=by
 rcases ha with rfl|⟨h,x,rfl⟩
 ·exact hb
 ·exact .inr ⟨h,x,rfl⟩
theorem at_map {α β:Type} {f:α→β} {l l':List α} (h:l'.map f=l.map f) {k:Nat} {d':α} (hd:l'[k]?=some d'):∃d,l[k]?=some d∧f d'=f d:=by
 have h1:(l[k]?).map f=(l'[k]?).map f:=by rw [←List.getElem?_map,←List.getElem?_map,h]
 rw [hd] at h1
 cases hl:l[k]? with
 | none=>rw [hl] at h1;cases h1
 | some d=>rw [hl] at h1;exact ⟨d,rfl,(Option.some.inj h1).symm⟩
theorem gl_ok (h:Nm s s') {kd:Nat} {l l':List DeZ} (hn:l'.map DeZ.name=l.map DeZ.name) {k:Nat} (h0:glE s kd l k=0) (hl:∀d∈l',lblE s' d.label=0∨bad):glE s' kd l' k=0∨(bad∧glE s' kd l' k=10):=by
 cases hd:l'[k]? with
 | none=>left;unfold glE;rw [hd]
 | some d' =>
  obtain ⟨d,hd2,e⟩:=at_map hn hd
  unfold glE at h0 ⊢
  rw [hd2] at h0
  rw [hd]
  simp only at h0 ⊢
  rw [h.dec,e,fst0_zero h0 _ (.head _),fst0_two]
  rcases hl d' (List.mem_of_getElem? hd) with h1|h1
  ·exact .inl h1
  ·rcases lbl_ten s' d'.label with h2|h2
   ·exact .inl h2
   ·exact .inr ⟨h1,h2⟩
theorem ar_ok (h:Nm s s') {k:Nat} (h0:arE s k=0) (hl:∀d∈s'.arrays,lblE s' d.label=0∨bad):arE s' k=0∨(bad∧arE s' k=10):=by
 cases hd:s'.arrays[k]? with
 | none=>left;unfold arE;rw [hd]
 | some d' =>
  obtain ⟨d,hd2,e⟩:=at_map h.a hd
  simp only [Prod.mk.injEq] at e
  unfold arE at h0 ⊢
  rw [hd2] at h0
  rw [hd]
  simp only at h0 ⊢
  rw [h.dec,e.1,e.2,fst0_zero h0 _ (.head _),fst0_zero h0 _ (.tail _ (.head _)),fst0_three]
  rcases hl d' (List.mem_of_getElem? hd) with h1|h1
  ·exact .inl h1
  ·rcases lbl_ten s' d'.label with h2|h2
   ·exact .inl h2
   ·exact .inr ⟨h1,h2⟩
theorem decls_ok (h:Nm s s') (h0:declsZE s=none) (hg:∀d∈s'.globals,lblE s' d.label=0∨bad) (ha:∀d∈s'.arrays,lblE s' d.label=0∨bad) (hc:∀d∈s'.channels,lblE s' d.label=0∨bad):declsZE s'=none∨(bad∧∃a,declsZE s'=some (a,10)):=by
 unfold declsZE at h0
 simp only at h0
 obtain ⟨g1,h0⟩:=orO_nn h0
 obtain ⟨g2,h0⟩:=orO_nn h0
 obtain ⟨g3,h0⟩:=orO_nn h0
 obtain ⟨g4,g5⟩:=orO_nn h0
 obtain ⟨e1,m1⟩:=grp_none (by decide) g1
 obtain ⟨e2,m2⟩:=grp_none (by decide) g2
 obtain ⟨e3,m3⟩:=grp_none (by decide) g3
 obtain ⟨e4,m4⟩:=grp_none (by decide) g4
 obtain ⟨e5,m5⟩:=grp_none (by decide) g5
 have l2:s'.globals.length=s.globals.length:=by simpa using congrArg List.length h.g
 have l3:s'.arrays.length=s.arrays.length:=by simpa using congrArg List.length h.a
 have l4:s'.channels.length=s.channels.length:=by simpa using congrArg List.length h.c
 have l5:=h.len
 have hp:prE s'=prE s:=by funext k;unfold prE;rw [h.p]
 have hf:∀k,fuE s k=0→fuE s' k=0:=fun k hk=>by
  cases hd:s'.funcs[k]? with
  | none=>unfold fuE;rw [hd]
  | some d' =>
   obtain ⟨d,hd2,e⟩:=at_map h.f hd
   unfold fuE at hk ⊢
   rw [hd2] at hk
   rw [hd]
   simp only at hk ⊢
   rw [h.dec,(sgF_of e).1]
   exact hk
 unfold declsZE
 simp only
 rw [hp,h.p,l2,l3,l4,l5]
 refine orO_ok (.inl g1) (orO_ok ?_ (orO_ok ?_ (orO_ok ?_ ?_)))
 ·exact grp_ok m2 fun j h1 h2=>gl_ok h h.g (e2 j h1 h2) hg
 ·exact grp_ok m3 fun j h1 h2=>ar_ok h (e3 j h1 h2) ha
 ·exact grp_ok m4 fun j h1 h2=>gl_ok h h.c (e4 j h1 h2) hc
 ·exact grp_ok m5 fun j h1 h2=>.inl (hf j (e5 j h1 h2))
end
theorem loc_ok (h:Nm s s') {f:Nat}:∀{l l':List DeZ} {k:Nat},l'.map DeZ.name=l.map DeZ.name→(∀d∈l',lblE s' d.label=0)→locE s f l k=0→locE s' f l' k=0
 | [],[],_,_,_,_=>rfl
 | [],d'::l',_,hn,_,_=>by simp at hn
 | d::l,[],_,hn,_,_=>by simp at hn
 | d::l,d'::l',k,hn,hl,h0=>by
  simp only [List.map_cons,List.cons.injEq] at hn
  unfold locE at h0 ⊢
  have hz:=fst0_zero h0
  apply fst0_none
  intro e he
  simp only [List.mem_cons,List.not_mem_nil,or_false] at he
  rcases he with rfl|rfl|rfl
  ·rw [hn.1,h.fnd,h.loc];exact hz _ (.head _)
  ·exact hl _ (.head _)
  ·exact loc_ok h hn.2 (fun x hx=>hl x (.tail _ hx)) (hz _ (.tail _ (.tail _ (.head _))))
theorem loc_lbl {f:Nat}:∀{l:List DeZ} {k:Nat},locE s f l k=0→∀d∈l,lblE s d.label=0
 | [],_,_,d,hd=>by cases hd
 | d::l,k,h0,x,hx=>by
  unfold locE at h0
  have hz:=fst0_zero h0
  rcases List.mem_cons.1 hx with rfl|hx
  ·exact hz _ (.tail _ (.head _))
  ·exact loc_lbl (hz _ (.tail _ (.tail _ (.head _)))) x hx
theorem lbs_lbl:∀{l:List Nat},lbsE s l=0→∀x∈l,lblE s x=0
 | [],_,x,hx=>by cases hx
 | y::l,h0,x,hx=>by
  unfold lbsE at h0
  have hz:=fst0_zero h0
  rcases List.mem_cons.1 hx with rfl|hx
  ·exact hz _ (.head _)
  ·exact lbs_lbl (hz _ (.tail _ (.head _))) x hx
theorem lbs_ok:∀{l:List Nat},(∀x∈l,lblE s x=0)→lbsE s l=0
 | [],_=>rfl
 | y::l,h=>by
  unfold lbsE
  apply fst0_none
  intro e he
  simp only [List.mem_cons,List.not_mem_nil,or_false] at he
  rcases he with rfl|rfl
  ·exact h _ (.head _)
  ·exact lbs_ok fun x hx=>h x (.tail _ hx)
theorem fn_ok (h:Nm s s') {f:Nat} {d d':FnZ} (h0:FnGood nest s f d) (hs:sgF d'=sgF d) (hv:lblE s' d'.level=0) (hl:∀x∈d'.params++d'.vars,lblE s' x.label=0) (hr:∀x∈d'.results,lblE s' x=0) (hb:d'.body.length≤256)
 (hn:(nest (d'.body.map StZ.kind) && decide (deepZ d'.body 0 0≤12) && onceZ d'.body)=true) (hst:∀x∈d'.body,stE s f x=0):FnGood nest s' f d':=by
 obtain ⟨_,e1,e2,e3,e4,e5⟩:=sgF_of hs
 refine ⟨?_,hv,?_,lbs_ok hr,hn,fun x hx=>by rw [h.st];exact hst x hx⟩
 ·have:=h0.len
  rw [e3,e4,e5]
  simp only [Bool.and_eq_true,decide_eq_true_eq] at this ⊢
  exact ⟨this.1,hb⟩
 ·exact loc_ok h (by rw [List.map_append,List.map_append,e1,e2]) hl h0.loc
structure Lb (s s':SoZ):Prop extends Nm s s' where
 lb:∀f kd k,kd≠4→lblZ s' f kd k=lblZ s f kd k
theorem Lb.nmd (h:Lb s s') (f:Nat) (n:ByteArray) {ks:List Nat} (hk:4 ∉ ks):nmdZ s' f n ks=nmdZ s f n ks:=by
 unfold nmdZ
 rw [h.toNm.fnd]
 cases fndZ s (f:Int) n with
 | none=>rfl
 | some z =>
  obtain ⟨kd,k⟩:=z
  simp only
  split
  ·rename_i hm
   rw [h.lb f kd k (fun e=>hk (e ▸ hm))]
  ·rfl
theorem Lb.tm (h:Lb s s') (f:Nat) (t:TmZ):tmL s' f t=tmL s f t:=by
 unfold tmL
 rw [h.nmd f t.name (by decide),h.nmd f t.name (by decide)]
theorem Lb.ex (h:Lb s s') (f:Nat):∀(l:List TmZ) (a:Nat),exL s' f l a=exL s f l a
 | [],_=>rfl
 | t::l,a=>by
  unfold exL
  rw [h.tm]
  cases tmL s f t with
  | none=>rfl
  | some x=>exact h.ex f l _
theorem Lb.exF (h:Lb s s') (f:Nat):∀(l:List (List TmZ)) (a:Nat),exsF s' f l a=exsF s f l a
 | [],_=>rfl
 | e::l,a=>by
  unfold exsF
  rw [show exprL s' f e=exprL s f e by unfold exprL;rw [h.toNm.len,h.ex]]
  exact h.exF f l _
theorem Lb.exs (h:Lb s s') (f:Nat) (l:List (List TmZ)):exsL s' f l=exsL s f l:=h.exF f l 0
theorem Lb.lvs (h:Lb s s') (f:Nat):∀(l:List StZ) (row:List Nat),lvF s' f l row=lvF s f l row
 | [],_=>rfl
 | x::l,row=>by
  unfold lvF
  rw [show rowZ s' f x row=rowZ s f x row by unfold rowZ;rw [h.exs],h.lvs f l _]
end
end Go.Proofs.YtlpdjfimefjmcaaGreatDoor
