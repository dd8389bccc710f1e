/- Package flowtype, plain: what the three laws say of sources. The statements' sources that they know the faults of. -/
import Derived.Test.YtlpdjfimefjmcaaGreatDoorFlFewerPR17
import Derived.Test.YtlpdjfimefjmcaaGreatDoorFlFewerPR18
import Derived.Test.YtlpdjfimefjmcaaGreatDoorFlFewerPR14
namespace Go.Proofs.YtlpdjfimefjmcaaGreatDoor
open Go
section
variable {s s':SoZ}
theorem nst_nest {ks:List Int} (h:nstZ ks=true):Syn.nest (ks.map Int.toNat) []=some []:=(Syn.endsM_nest _).1 h
theorem nest_nst {ks:List Int} (h:Syn.nest (ks.map Int.toNat) []=some []):nstZ ks=true:=(Syn.endsM_nest _).2 h
theorem levels_at {f:Nat} (hf:f<s.funcs.length) (hn:nstZ (s.funcs[f].body.map StZ.kind)=true):levelsZ s f=lvF s f s.funcs[f].body [s.funcs[f].level]:=by
  unfold levelsZ
  rw [List.getElem?_eq_getElem hf]
  simp only [hn,if_true]
theorem fn_good (h:chkZ nstZ s=(0,0,0)) {f:Nat} (hf:f<s.funcs.length):FnGood nstZ s f s.funcs[f]:=by
  have:=fns_none (chk_zero h).2 f hf
  rw [Nat.zero_add] at this
  exact fnE_good this
theorem chk_ne {nest:List Int→Bool} (h:(chkZ nest s).1=0):chkZ nest s=(0,0,0):=by
  unfold chkZ at h ⊢
  cases hd:declsZE s with
  | some p =>
    obtain ⟨a,e⟩:=p
    rw [hd] at h
    have:=decls_err hd
    simp only at h
    omega
  | none =>
    rw [hd] at h
    cases hf:fnsF nest s s.funcs 0 with
    | none=>rfl
    | some p =>
      obtain ⟨f,a,e⟩:=p
      rw [hf] at h
      have:=fns_err hf
      simp only at h
      omega
theorem flow_ne (h:(flowZ s).1=0):flowZ s=(0,0,0):=by
  unfold flowZ at h ⊢
  split at h
  · rename_i hc
    rw [if_pos hc]
    cases hf:flowsF s s.funcs 0 with
    | none=>rfl
    | some p=>rw [hf] at h;simp at h
  · rename_i hc
    exact absurd (chk_ne h) hc
def setB (s:SoZ) (f:Nat) (hf:f<s.funcs.length) (b:List StZ):SoZ :=
  ⟨s.principals,s.globals,s.arrays,s.channels,s.funcs.set f ⟨s.funcs[f].name,s.funcs[f].level,s.funcs[f].params,s.funcs[f].results,s.funcs[f].vars,b⟩⟩
theorem map_set_self {α β:Type} {g:α→β} {l:List α} {i:Nat} (hi:i<l.length) {x:α} (hx:g x=g l[i]):(l.set i x).map g=l.map g:=by
  apply List.ext_getElem (by simp)
  intro j h1 h2
  rw [List.getElem_map,List.getElem_map,List.getElem_set]
  split
  · rename_i e;subst e;exact hx
  · rfl
theorem setB_lb (f:Nat) (hf:f<s.funcs.length) (b:List StZ):Lb s (setB s f hf b)∧∀ g kd k,lblZ (setB s f hf b) g kd k=lblZ s g kd k:=by
  have hl:∀ g kd k,lblZ (setB s f hf b) g kd k=lblZ s g kd k:=fun g kd k=>by
    unfold lblZ setB
    simp only
    rw [List.getElem?_set]
    by_cases hg:f=g
    · subst hg
      simp [hf]
    · simp [hg]
  exact ⟨⟨⟨rfl,rfl,rfl,rfl,map_set_self hf rfl⟩,fun g kd k _=>hl g kd k⟩,hl⟩
theorem plain_nest {k:Nat} (h5:k≤4):∀ (a b:List Nat) (st:List Bool),Syn.nest (a++k :: b) st=Syn.nest (a++b) st
  | [],b,st=>by
    show Syn.nest (k :: b) st=Syn.nest b st
    rw [Syn.nest.eq_def (k :: b)]
    simp only [if_neg (show ¬ k=5 by omega),if_neg (show ¬ k=7 by omega),if_neg (show ¬ k=6 by omega),if_neg (show ¬ k=8 by omega)]
  | y :: a,b,st=>by
    have ih:=fun st=>plain_nest h5 a b st
    rw [List.cons_append,List.cons_append,Syn.nest.eq_def (y :: (a++k :: b)),Syn.nest.eq_def (y :: (a++b))]
    simp only [ih]
theorem plain_deep {x:StZ} (hx:x.kind≤4):∀ (a b:List StZ) (d m:Int),deepZ (a++x :: b) d m=deepZ (a++b) d m
  | [],b,d,m=>by
    show deepZ (x :: b) d m=deepZ b d m
    rw [deepZ,if_neg (by omega),if_neg (by omega)]
  | y :: a,b,d,m=>by
    rw [List.cons_append,List.cons_append,deepZ,deepZ,plain_deep hx a b,plain_deep hx a b,plain_deep hx a b]
theorem once_cons (x:StZ) (l:List StZ):onceZ (x :: l)=if x.kind=9 then l.isEmpty else onceZ l:=by
  unfold onceZ
  rw [List.findIdx?_cons]
  by_cases h:x.kind=9
  · simp [h]
    cases l <;> rfl
  · rw [if_neg h]
    simp only [beq_iff_eq,h,if_false]
    cases l.findIdx? fun x=>x.kind == 9 <;> simp
theorem plain_once {x:StZ} (hx:x.kind≤4):∀ (a b:List StZ),onceZ (a++x :: b)=true→onceZ (a++b)=true
  | [],b,h=>by
    rw [List.nil_append,once_cons,if_neg (by omega)] at h
    exact h
  | y :: a,b,h=>by
    rw [List.cons_append,once_cons] at h ⊢
    split
    · rename_i h9
      rw [if_pos h9] at h
      simp at h
    · rename_i h9
      rw [if_neg h9] at h
      exact plain_once hx a b h
theorem plain_lvs {f:Nat} {x:StZ} (hx:x.kind≤4):∀ (a b:List StZ) (row:List Nat),lvF s f (a++b) row=(lvF s f (a++x :: b) row).eraseIdx a.length
  | [],b,row=>by
    show lvF s f b row=(lvF s f (x :: b) row).eraseIdx 0
    rw [lvF,List.eraseIdx_cons_zero]
    unfold rowZ
    rw [if_neg (by omega),if_neg (by omega)]
  | y :: a,b,row=>by
    rw [List.cons_append,List.cons_append,lvF,lvF,List.length_cons,List.eraseIdx_cons_succ,plain_lvs hx a b]
theorem few_good (h:flowZ s=(0,0,0)) {f:Nat} (hf:f<s.funcs.length) {i:Nat} (hi:i<s.funcs[f].body.length) (hk:s.funcs[f].body[i].kind≤4):flowZ (setB s f hf (s.funcs[f].body.take i++s.funcs[f].body.drop (i+1)))=(0,0,0):=by
  obtain ⟨hc,hkp⟩:=flow_zero.1 h
  obtain ⟨hL,hAll⟩:=setB_lb f hf (s.funcs[f].body.take i++s.funcs[f].body.drop (i+1))
  have hG:=fun g (hg:g<s.funcs.length)=>fn_good hc hg
  have hbody:s.funcs[f].body=s.funcs[f].body.take i++s.funcs[f].body[i] :: s.funcs[f].body.drop (i+1):=by
    rw [List.getElem_cons_drop,List.take_append_drop]
  have hla:(s.funcs[f].body.take i).length=i:=by rw [List.length_take];omega
  generalize hA:s.funcs[f].body.take i=A at *
  generalize hB:s.funcs[f].body.drop (i+1)=B at *
  generalize hX:s.funcs[f].body[i]=X at *
  have hfn:∀ g (hg:g<s.funcs.length) (hg':g<(setB s f hf (A++B)).funcs.length),(g ≠ f→(setB s f hf (A++B)).funcs[g]=s.funcs[g])∧(g=f→(setB s f hf (A++B)).funcs[g]=⟨s.funcs[f].name,s.funcs[f].level,s.funcs[f].params,s.funcs[f].results,s.funcs[f].vars,A++B⟩):=fun g hg hg'=>by
    have e:(setB s f hf (A++B)).funcs[g]=(s.funcs.set f ⟨s.funcs[f].name,s.funcs[f].level,s.funcs[f].params,s.funcs[f].results,s.funcs[f].vars,A++B⟩)[g]'(by rw [List.length_set];exact hg):=rfl
    rw [e,List.getElem_set]
    exact ⟨fun e=>by rw [if_neg (fun e2=>e e2.symm)],fun e=>by rw [if_pos e.symm]⟩
  have hlen:(setB s f hf (A++B)).funcs.length=s.funcs.length:=by simp [setB]
  have hz:=chk_zero hc
  have hlb:∀ l,lblE (setB s f hf (A++B)) l=lblE s l:=hL.toNm.lbl
  have hnB:nstZ ((A++B).map StZ.kind)=true:=by
    have h1:=(hG f hf).bdy
    simp only [Bool.and_eq_true] at h1
    have h2:=nst_nest h1.1.1
    rw [hbody] at h2
    apply nest_nst
    simp only [List.map_append,List.map_cons] at h2 ⊢
    rwa [plain_nest (by omega)] at h2
  have hchk:chkZ nstZ (setB s f hf (A++B))=(0,0,0):=by
    have hd:declsZE (setB s f hf (A++B))=none:=by
      have hdl:=hz.1
      unfold declsZE at hdl
      simp only at hdl
      obtain ⟨g1,hdl⟩:=orO_nn hdl
      obtain ⟨g2,hdl⟩:=orO_nn hdl
      obtain ⟨g3,hdl⟩:=orO_nn hdl
      obtain ⟨g4,g5⟩:=orO_nn hdl
      obtain ⟨e2,_⟩:=grp_none (by decide) g2
      obtain ⟨e3,_⟩:=grp_none (by decide) g3
      obtain ⟨e4,_⟩:=grp_none (by decide) g4
      have key:∀ (kd:Nat) (l:List DeZ),(∀ j,0≤j→j<0+l.length→glE s kd l j=0)→∀ d ∈ l,lblE s d.label=0:=fun kd l hh d hd=>by
        obtain ⟨j,hj,rfl⟩:=List.getElem_of_mem hd
        have:=hh j (Nat.zero_le _) (by omega)
        unfold glE at this
        rw [List.getElem?_eq_getElem hj] at this
        exact fst0_zero this _ (.tail _ (.head _))
      have keyA:∀ d ∈ s.arrays,lblE s d.label=0:=fun d hd=>by
        obtain ⟨j,hj,rfl⟩:=List.getElem_of_mem hd
        have:=e3 j (Nat.zero_le _) (by omega)
        unfold arE at this
        rw [List.getElem?_eq_getElem hj] at this
        exact fst0_zero this _ (.tail _ (.tail _ (.head _)))
      rcases decls_ok (bad:=False) hL.toNm hz.1 (fun d hd=>.inl (by rw [hlb];exact key _ _ e2 d hd)) (fun d hd=>.inl (by rw [hlb];exact keyA d hd)) (fun d hd=>.inl (by rw [hlb];exact key _ _ e4 d hd)) with h1 | h1
      · exact h1
      · exact h1.1.elim
    refine chk_ok hd fun g hg'=>good_fnE ?_
    have hg:g<s.funcs.length:=by omega
    have hgo:=hG g hg
    by_cases hgf:g=f
    · rw [(hfn g hg hg').2 hgf]
      subst hgf
      refine fn_ok hL.toNm hgo rfl (by rw [hlb];exact hgo.lvl) (fun x hx=>by rw [hlb];exact loc_lbl hgo.loc x hx) (fun x hx=>by rw [hlb];exact lbs_lbl hgo.res x hx) ?_ ?_ ?_
      · have h1:=hgo.len
        simp only [Bool.and_eq_true,decide_eq_true_eq] at h1
        have h2:=congrArg List.length hbody
        simp only [List.length_append,List.length_cons] at h2 ⊢
        omega
      · have h1:=hgo.bdy
        rw [hbody] at h1
        simp only [Bool.and_eq_true,decide_eq_true_eq] at h1 ⊢
        exact ⟨⟨hnB,by rw [← plain_deep (x:=X) hk];exact h1.1.2⟩,plain_once hk _ _ h1.2⟩
      · intro x hx
        apply hgo.sts
        rw [hbody]
        rcases List.mem_append.1 hx with hx | hx
        · exact List.mem_append.2 (.inl hx)
        · exact List.mem_append.2 (.inr (.tail _ hx))
    · rw [(hfn g hg hg').1 hgf]
      exact fn_ok hL.toNm hgo rfl (by rw [hlb];exact hgo.lvl) (fun x hx=>by rw [hlb];exact loc_lbl hgo.loc x hx) (fun x hx=>by rw [hlb];exact lbs_lbl hgo.res x hx) (by have h1:=hgo.len;simp only [Bool.and_eq_true,decide_eq_true_eq] at h1;exact h1.2) hgo.bdy hgo.sts
  have hto:∀ g n,toZ (setB s f hf (A++B)) g n=toZ s g n:=fun g n=>by
    unfold toZ
    rw [hL.toNm.fnd]
    cases fndZ s (g:Int) n with
    | none=>rfl
    | some z=>exact hAll g z.1 z.2
  have hkeep:∀ g x lv,keepsZ (setB s f hf (A++B)) g x lv=keepsZ s g x lv:=fun g x lv=>by
    have ho:oneL (setB s f hf (A++B)) g x.exprs=oneL s g x.exprs:=by
      unfold oneL
      apply List.map_congr_left
      intro e _
      exact hL.exs g [e]
    have hfu:∀ k,(setB s f hf (A++B)).funcs[k]?=if f=k then (if f<s.funcs.length then some ⟨s.funcs[f].name,s.funcs[f].level,s.funcs[f].params,s.funcs[f].results,s.funcs[f].vars,A++B⟩ else none) else s.funcs[k]?:=fun k=>by
      unfold setB
      simp only [List.getElem?_set]
    unfold keepsZ
    rw [hL.exs,hto,hto,ho,hL.toNm.fnd,show toZ (setB s f hf (A++B)) g=toZ s g from funext (hto g)]
    congr 1
    congr 1
    congr 1
    · cases fndZ s (g:Int) x.name with
      | none=>rfl
      | some z =>
        simp only [hfu]
        by_cases hz2:f=z.2
        · subst hz2
          simp [hf]
        · simp [hz2]
    · congr 1
      simp only [hfu]
      by_cases hz2:f=g
      · subst hz2
        simp [hf]
      · simp [hz2]
  refine flow_zero.2 ⟨hchk,fun g hg' j h1 h2=>?_⟩
  have hg:g<s.funcs.length:=by omega
  rw [hkeep]
  have hn2:nstZ (s.funcs[g].body.map StZ.kind)=true:=by
    have h1:=(hG g hg).bdy
    simp only [Bool.and_eq_true] at h1
    exact h1.1.1
  have hold:=levels_at hg hn2
  have hkg:=hkp g hg
  by_cases hgf:g=f
  · have e1:=(hfn g hg hg').2 hgf
    have e2:levelsZ (setB s f hf (A++B)) g=(levelsZ s g).eraseIdx i:=by
      rw [levels_at hg' (by rw [e1];exact hnB),hL.lvs,hold,e1]
      subst hgf
      show lvF s g (A++B) [s.funcs[g].level]=_
      rw [plain_lvs (x:=X) hk,hla]
      conv=>rhs;rw [hbody]
    subst hgf
    simp only [e2] at h2 ⊢
    have e3:(setB s g hf (A++B)).funcs[g].body=s.funcs[g].body.eraseIdx i:=by
      rw [e1]
      show A++B=_
      rw [List.eraseIdx_eq_take_drop_succ,hA,hB]
    simp only [e3] at h1 ⊢
    rw [List.getElem_eraseIdx,List.getElem_eraseIdx]
    have q1:=List.length_eraseIdx_of_lt hi
    split
    · exact hkg j (by rw [q1] at h1;omega) (by rename_i hj;have:=List.length_eraseIdx (l:=levelsZ s g) (i:=i);split at this <;> omega)
    · exact hkg (j+1) (by rw [q1] at h1;omega) (by rename_i hj;have:=List.length_eraseIdx (l:=levelsZ s g) (i:=i);split at this <;> omega)
  · have e1:=(hfn g hg hg').1 hgf
    have e2:levelsZ (setB s f hf (A++B)) g=levelsZ s g:=by
      rw [levels_at hg' (by rw [e1];exact hn2),hL.lvs,hold,e1]
    simp only [e2] at h2 ⊢
    simp only [e1] at h1 ⊢
    exact hkg j h1 h2
end
end Go.Proofs.YtlpdjfimefjmcaaGreatDoor
namespace Go.Proofs.YtlpdjfimefjmcaaGreatDoor
open Go Go.RowKit Go.Proofs.Mm
set_option maxRecDepth 100000
theorem slx_mk {α:Type} {bs:Nat} {C:Cl} {R:List Value→α→Prop} {l:List α} {g c:Nat} {cs:List Value} (hr:∀ j u,cs[j]?=some u→C ⟨g,0+j,none⟩=some u) (he:Enc R cs l) (hb:l.length * bs≤140737488351232) (hc:c≤maxLen) (hl:l.length≤c) :
    SlX [] bs C R (.slice (some ⟨g,0,none⟩) l.length c) l :=
  ⟨_,_,cs,rfl,.inl rfl,.inr ⟨g,0,rfl,by rw [List.append_nil];exact hr⟩,he,hb,hc,(fun h=>nomatch h),hl⟩
theorem slx_nil {α:Type} {bs:Nat} {C:Cl} {R:List Value→α→Prop}:SlX [] bs C R (.slice none 0 0) ([]:List α) :=
  ⟨none,0,[],rfl,.inl rfl,.inl rfl,Enc.nil,by simp,by decide,fun _=>rfl,by simp⟩
end Go.Proofs.YtlpdjfimefjmcaaGreatDoor
