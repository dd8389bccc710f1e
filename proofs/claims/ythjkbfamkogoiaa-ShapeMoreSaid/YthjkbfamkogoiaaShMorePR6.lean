/- ShapeMore: what Check's answer wants, with a row more in each table, and with a nop ahead of a function. ShapeMore: rows of a copied module that are gone on with. ShapeMore: a copied module, gone on with; a code stored. ShapeMore: a copied module, gone on with: step by step. -/
import Derived.Test.YthjkbfamkogoiaaShMorePR4
import Derived.Test.YthjkbfamkogoiaaShMorePR5
import Derived.ArgAppend
import Derived.Deep.Upon
import Derived.Lib.EndianMore
namespace Go.Proofs.Ythjkbfamkogoiaa
open Go Go.RowKit Go.Proofs.Mm Go.Sort
theorem tab_ok {ng na nh nf:Nat} {arrs:List (Int × Int)}:(tabI ng na nh nf arrs).2=0 ↔ ng≤32∧na≤16∧nh≤16∧nf≤32∧∀ j,j<na→oddI arrs j=false:=by
  unfold tabI
  by_cases h:(ng:Int) > 32 ∨ (na:Int) > 16 ∨ (nh:Int) > 16 ∨ (nf:Int) > 32
  · rw [if_pos h]
    constructor
    · intro e;exact absurd e (by decide)
    · intro ⟨h1,h2,h3,h4,_⟩;omega
  · rw [if_neg h]
    cases hf:fstB (oddI arrs) na with
    | none =>
      exact ⟨fun _=>⟨by omega,by omega,by omega,by omega,none_fst hf⟩,fun _=>rfl⟩
    | some k =>
      constructor
      · intro e;exact absurd (show (130:Int)=0 from e) (by decide)
      · intro ⟨_,_,_,_,h5⟩
        rw [fst_none h5] at hf
        cases hf
theorem chk_ok {ng na nh:Nat} {arrs:List (Int × Int)} {fs:List FnM}:chkE ng na nh arrs fs=(0,0,0) ↔ (tabI ng na nh fs.length arrs).2=0∧∀ j (hj:j<fs.length),sizI fs[j].params.length fs[j].results.length fs[j].locals fs[j].stack fs[j].code.length=0 ∧
    ∀ a (ha:a<fs[j].code.length),insI ng na nh fs j fs[j].code[a].1 fs[j].code[a].2=0∧(a+1=fs[j].code.length→fs[j].code[a].1=43 ∨ fs[j].code[a].1=46):=by
  constructor
  · intro h
    obtain ⟨h1,h2⟩:=chk_zero h
    refine ⟨h1,fun j hj=>?_⟩
    obtain ⟨h3,h4⟩:=fn_zero hj (h2 j hj)
    exact ⟨h3,fun a ha=>ins_zero ha (h4 a ha)⟩
  · intro ⟨h1,h2⟩
    refine chk_none (a:=(tabI ng na nh fs.length arrs).1) (Prod.ext rfl h1) fun j hj=>?_
    obtain ⟨h3,h4⟩:=h2 j hj
    rw [fnE_cod hj h3,codE_no (fun a ha=>?_)]
    · rfl
    · obtain ⟨h5,h6⟩:=h4 a ha
      have e:insE ng na nh fs j fs[j].code.length fs[j].code a=0:=by
        unfold insE
        rw [getA_at ha,if_neg (by rw [h5];simp),if_neg (fun ⟨e1,e2,e3⟩=>(h6 e1).elim e2 e3)]
      rw [e];rfl
theorem blI_mono {a:Int} {n:Nat} (h:blI a n=true):blI a ((n+1:Nat):Int)=true:=by
  have:=of_decide_eq_true h
  exact decide_eq_true (by omega)
theorem ins_zero_iff {ng na nh:Nat} {fs:List FnM} {f op a:Int}:insI ng na nh fs f op a=0 ↔ fnI fs.length f=true∧knI op=true∧opnI ng na nh fs f op a=true:=by
  unfold insI
  cases fnI fs.length f <;> cases knI op <;> cases opnI ng na nh fs f op a <;> simp
theorem ins_more {ng na nh:Nat} {fs:List FnM} {f op a:Int} (h:insI ng na nh fs f op a=0):insI (ng+1) (na+1) (nh+1) fs f op a=0:=by
  rw [ins_zero_iff] at h ⊢
  refine ⟨h.1,h.2.1,?_⟩
  have h3:=h.2.2
  unfold opnI at h3 ⊢
  by_cases e1:op=32
  · rw [if_pos e1]
  rw [if_neg e1] at h3 ⊢
  by_cases e2:op=33 ∨ op=34
  · rw [if_pos e2] at h3 ⊢;exact h3
  rw [if_neg e2] at h3 ⊢
  by_cases e3:op=35 ∨ op=36
  · rw [if_pos e3] at h3 ⊢;exact blI_mono h3
  rw [if_neg e3] at h3 ⊢
  by_cases e4:op=37 ∨ op=38
  · rw [if_pos e4] at h3 ⊢;exact blI_mono h3
  rw [if_neg e4] at h3 ⊢
  by_cases e5:op=43 ∨ op=44
  · rw [if_pos e5] at h3 ⊢;exact h3
  rw [if_neg e5] at h3 ⊢
  by_cases e6:op=45
  · rw [if_pos e6] at h3 ⊢;exact h3
  rw [if_neg e6] at h3 ⊢
  by_cases e7:op=47
  · rw [if_pos e7] at h3 ⊢;exact blI_mono h3
  rw [if_neg e7] at h3 ⊢;exact h3
theorem more_rows {ng nh:Nat} {arrs:List (Int × Int)} {fs:List FnM} (l:Int) (h:chkE ng arrs.length nh arrs fs=(0,0,0)) (h1:ng<32) (h2:arrs.length<16) (h3:nh<16):chkE (ng+1) (arrs.length+1) (nh+1) (arrs++[(1,l)]) fs=(0,0,0):=by
  rw [chk_ok] at h ⊢
  obtain ⟨t,hf⟩:=h
  rw [tab_ok] at t
  refine ⟨tab_ok.2 ⟨by omega,by omega,by omega,t.2.2.2.1,fun j hj=>?_⟩,fun j hj=>⟨(hf j hj).1,fun a ha=>⟨ins_more ((hf j hj).2 a ha).1,((hf j hj).2 a ha).2⟩⟩⟩
  by_cases e:j<arrs.length
  · have:=t.2.2.2.2 j e
    unfold oddI at this ⊢
    rw [getA_at e] at this
    rw [getA_at (by simp;omega),List.getElem_append_left e]
    exact this
  · have e2:j=arrs.length:=by omega
    subst e2
    unfold oddI
    rw [getA_at (by simp),List.getElem_append_right (Nat.le_refl _)]
    simp
def bump (x:Int × Int):Int × Int:=if x.1=43 ∨ x.1=44 then (x.1,x.2+1) else x
def nopF (f:FnM):FnM:={ f with code:=(42,0) :: f.code.map bump }
theorem bump_op (x:Int × Int):(bump x).1=x.1:=by unfold bump;split <;> rfl
theorem nop_loc {fs:List FnM} {f:Nat} (hf:f<fs.length) (j:Int):locI (fs.set f (nopF fs[f])) j=locI fs j:=by
  unfold locI
  rw [List.length_set]
  by_cases h:0≤j∧j<fs.length
  · rw [if_pos h,if_pos h]
    have hj:j.toNat<fs.length:=by omega
    rw [getA_at (by rw [List.length_set];exact hj),getA_at hj,List.getElem_set]
    split
    · rename_i e;subst e;rfl
    · rfl
  · rw [if_neg h,if_neg h]
theorem nop_ins {ng na nh:Nat} {fs:List FnM} {f j:Nat} (hf:f<fs.length) (hj:j<fs.length) {x:Int × Int} (h:insI ng na nh fs j x.1 x.2=0) :
    insI ng na nh (fs.set f (nopF fs[f])) j (if j=f then bump x else x).1 (if j=f then bump x else x).2=0:=by
  have ho:(if j=f then bump x else x).1=x.1:=by split;exact bump_op x;rfl
  rw [ins_zero_iff] at h ⊢
  rw [ho,List.length_set]
  refine ⟨h.1,h.2.1,?_⟩
  have h3:=h.2.2
  unfold opnI at h3 ⊢
  rw [nop_loc hf,List.length_set,getD_at (show j<(fs.set f (nopF fs[f])).length by rw [List.length_set];exact hj)]
  rw [getD_at hj] at h3
  by_cases e1:x.1=32
  · rw [if_pos e1]
  rw [if_neg e1] at h3 ⊢
  by_cases e5:x.1=43 ∨ x.1=44
  · rw [if_neg (by omega),if_neg (by omega),if_neg (by omega),if_pos e5] at h3 ⊢
    have h4:=of_decide_eq_true h3
    refine decide_eq_true ?_
    rw [List.getElem_set]
    by_cases e:j=f
    · rw [if_pos e,if_pos e.symm]
      subst e
      have e3:(bump x).2=x.2+1:=by unfold bump;rw [if_pos e5]
      rw [e3]
      have e4:(nopF fs[j]).code.length=fs[j].code.length+1:=by simp [nopF]
      rw [e4]
      omega
    · rw [if_neg e,if_neg (fun h=>e h.symm)]
      exact h4
  · have e6:(if j=f then bump x else x).2=x.2:=by split;unfold bump;rw [if_neg e5];rfl
    rw [e6]
    rw [if_neg e5]
    rw [if_neg e5] at h3
    exact h3
theorem more_nop {ng na nh:Nat} {arrs:List (Int × Int)} {fs:List FnM} {f:Nat} (hf:f<fs.length) (h:chkE ng na nh arrs fs=(0,0,0)) (hn:fs[f].code.length<2048):chkE ng na nh arrs (fs.set f (nopF fs[f]))=(0,0,0):=by
  rw [chk_ok] at h ⊢
  obtain ⟨t,hg⟩:=h
  refine ⟨by rw [List.length_set];exact t,fun j hj=>?_⟩
  have hj':j<fs.length:=by rw [List.length_set] at hj;exact hj
  obtain ⟨h1,h2⟩:=hg j hj'
  by_cases e:f=j
  · subst e
    simp only [List.getElem_set_self]
    have hl:(nopF fs[f]).code.length=fs[f].code.length+1:=by simp [nopF]
    refine ⟨?_,fun a ha=>?_⟩
    · show sizI fs[f].params.length fs[f].results.length fs[f].locals fs[f].stack (nopF fs[f]).code.length=0
      rw [hl]
      unfold sizI at h1 ⊢
      by_cases e1:(fs[f].params.length:Int) > 8 ∨ (fs[f].results.length:Int) > 4 ∨ (fs[f].code.length:Int) > 2048 ∨ fs[f].locals > 32 ∨ fs[f].stack > 64
      · rw [if_pos e1] at h1;exact absurd h1 (by decide)
      · rw [if_neg e1] at h1
        rw [if_neg (by omega)]
        by_cases e2:fs[f].locals<0 ∨ fs[f].stack<0
        · rw [if_pos e2] at h1;exact absurd h1 (by decide)
        · rw [if_neg e2,if_neg (by omega)]
    · have hz:0<fs[f].code.length:=by
        unfold sizI at h1
        split at h1
        · exact absurd h1 (by decide)
        · split at h1
          · exact absurd h1 (by decide)
          · split at h1
            · exact absurd h1 (by decide)
            · omega
      match a,ha with
      | 0,ha =>
        refine ⟨?_,fun e=>?_⟩
        · show insI ng na nh (fs.set f (nopF fs[f])) f 42 0=0
          rw [ins_zero_iff,List.length_set]
          exact ⟨decide_eq_true (by omega),by decide,rfl⟩
        · rw [hl] at e;omega
      | a+1,ha =>
        have ha':a<fs[f].code.length:=by omega
        have e1:(nopF fs[f]).code[a+1]=bump fs[f].code[a]:=by simp [nopF]
        rw [e1]
        have h3:=nop_ins (x:=fs[f].code[a]) hf hj' (h2 a ha').1
        rw [if_pos rfl] at h3
        refine ⟨h3,fun e=>?_⟩
        rw [bump_op]
        exact (h2 a ha').2 (by rw [hl] at e;omega)
  · have e2:(fs.set f (nopF fs[f]))[j]=fs[j]:=List.getElem_set_ne e _
    simp only [e2]
    refine ⟨h1,fun a ha=>?_⟩
    have h3:=nop_ins (x:=fs[j].code[a]) hf hj' (h2 a ha).1
    rw [if_neg (fun h=>e h.symm)] at h3
    exact ⟨h3,(h2 a ha).2⟩
end Go.Proofs.Ythjkbfamkogoiaa
namespace Go.Proofs.Ythjkbfamkogoiaa
open Go Go.RowKit Go.Proofs.Mm Go.Sort
def rC (W:World) (b:Nat):Cl:=fun a=>if a.block<b then W.cell? a else none
theorem rC_le (W:World) (b:Nat):CLe (rC W b) (wC W):=fun a u h=>by
  unfold rC at h
  split at h
  · exact h
  · cases h
theorem rC_of {W:World} {b:Nat} {a:Addr} {u:Value} (h:rC W b a=some u):a.block<b∧W.cell? a=some u:=by
  unfold rC at h
  split at h
  · exact ⟨by assumption,h⟩
  · cases h
theorem rC_mk {W:World} {b:Nat} {a:Addr} {u:Value} (h:W.cell? a=some u) (hb:a.block<b):rC W b a=some u:=by
  unfold rC;rw [if_pos hb];exact h
theorem mc_lt {w1:World} {m:Mem} (hmo:Mem.More w1 (fun _=>none) m) {a:Addr} {u:Value} (h:mC m a=some u):w1.heap.size≤a.block:=by
  by_cases e:a.block<w1.heap.size
  · have h1:=hmo.new a.block rfl e
    unfold mC at h
    rw [h1] at h
    cases h
  · omega
theorem mc_rc {w:World} {m:Mem} (hH:Has w m):CLe (mC m) (rC w w.heap.size):=fun a u h=>by
  have h1:=has_cle hH _ _ h
  exact rC_mk h1 (World.block_lt_of_cell? _ _ h1)
theorem fnAt_s {lt:Bool} {C:Cl} {q:Option Addr} {fs:List FnM} (hF:FnAt lt C q fs):FnS C q fs:=fun j hj=>by
  obtain ⟨g,o,vp,vr,vc,rfl,⟨_,_,_,e,p1,p2,p3⟩,a0,a1,a2,a3,a4,a5⟩:=hF j hj
  injection e with e0 e
  injection e with e1 e
  injection e with e2 e
  injection e with e3 e
  injection e with e4 e
  injection e with e5 e
  subst e1 e2 e5
  have h1:=slx_bytes p1
  have h2:=slx_bytes p2
  have h3:=slx_bytes p3
  obtain ⟨qp,cp,rfl⟩:=slx_shape p1
  obtain ⟨qr,cr,rfl⟩:=slx_shape p2
  obtain ⟨qc,cc,rfl⟩:=slx_shape p3
  exact ⟨g,o,_,qp,cp,qr,cr,qc,cc,rfl,a0,a1,a2,a3,a4,a5,InAt.sh (CdR.cells p3),by omega,by omega,by omega⟩
structure KeepA (C D:Cl):Prop where
  k:∀ a u,C a=some u→(∀ x,u ≠ .int .u64 x)→u ≠ .int .i64 (-71)→D a=some u
  u:∀ a x,C a=some (.int .u64 x)→∃ y,D a=some (.int .u64 y)
  i:∀ a,C a=some (.int .i64 (-71))→∃ y,D a=some (.int .i64 y)
theorem ArS.keep {C D:Cl} {q:Option Addr} {l:List (Int × Int)} (h:ArS C q l) (K:KeepA C D) (hn:∀ x ∈ l,x.1 ≠ -71):ArS D q l:=fun j hj=>by
  obtain ⟨g,o,lb,e,a,b⟩:=h j hj
  obtain ⟨y,hy⟩:=K.u _ _ b
  exact ⟨g,o,y,e,K.k _ _ a (fun x hx=>by cases hx) (fun hx=>by injection hx with _ hx;exact hn _ (List.getElem_mem _) hx),hy⟩
theorem InS.keep {C D:Cl} {q:Option Addr} {l:List (Int × Int)} (h:InS C q l) (K:KeepA C D) (hn:∀ x ∈ l,x.1 ≠ -71∧(x.1 ≠ 32→x.2 ≠ -71)):InS D q l:=fun j hj=>by
  obtain ⟨g,o,av,e,a,b,c⟩:=h j hj
  have hx:=hn _ (List.getElem_mem hj)
  have a':=K.k _ _ a (fun x hx=>by cases hx) (fun h=>by injection h with _ h;exact hx.1 h)
  by_cases hav:av=-71
  · subst hav
    obtain ⟨y,hy⟩:=K.i _ b
    refine ⟨g,o,y,e,a',hy,fun h3=>?_⟩
    exact absurd (c h3).symm (hx.2 h3)
  · exact ⟨g,o,av,e,a',K.k _ _ b (fun x hx=>by cases hx) (fun h=>by injection h with _ h;exact hav h),c⟩
theorem FnS.keep {C D:Cl} {q:Option Addr} {fs:List FnM} (h:FnS C q fs) (K:KeepA C D) (hn:∀ j (hj:j<fs.length),fs[j].locals ≠ -71∧fs[j].stack ≠ -71∧∀ x ∈ fs[j].code,x.1 ≠ -71∧(x.1 ≠ 32→x.2 ≠ -71)):FnS D q fs:=fun j hj=>by
  obtain ⟨g,o,lv,qp,cp,qr,cr,qc,cc,e,a0,a1,a2,a3,a4,a5,h6,h7⟩:=h j hj
  obtain ⟨n1,n2,n3⟩:=hn j hj
  obtain ⟨y,hy⟩:=K.u _ _ a0
  have ks:∀ a p n c,C a=some (.slice p n c)→D a=some (.slice p n c):=fun a p n c h=>K.k _ _ h (fun x hx=>by cases hx) (fun hx=>by cases hx)
  exact ⟨g,o,y,qp,cp,qr,cr,qc,cc,e,hy,ks _ _ _ _ a1,ks _ _ _ _ a2,K.k _ _ a3 (fun x hx=>by cases hx) (fun hx=>by injection hx with _ hx;exact n1 hx),
    K.k _ _ a4 (fun x hx=>by cases hx) (fun hx=>by injection hx with _ hx;exact n2 hx),ks _ _ _ _ a5,h6.keep K n3,h7⟩
def SameB (W V:World) (b:Nat):Prop:=∀ k,k<b→V.heap[k]?=W.heap[k]?
theorem SameB.cell {W V:World} {b:Nat} (h:SameB W V b) {a:Addr} (ha:a.block<b):V.cell? a=W.cell? a:=by
  unfold World.cell?
  rw [h _ ha]
theorem SameB.free {W V:World} {b:Nat} (h:SameB W V b) {a:Addr} (ha:a.block<b):V.frozen? a=W.frozen? a:=by
  unfold World.frozen?
  rw [h _ ha]
theorem SameB.rc {W V:World} {b:Nat} (h:SameB W V b):rC V b=rC W b:=by
  funext a
  unfold rC
  split
  · exact h.cell (by assumption)
  · rfl
theorem SameB.trans {W V U:World} {b:Nat} (h:SameB W V b) (k:SameB V U b):SameB W U b:=fun i hi=>(k i hi).trans (h i hi)
theorem SameB.al {W:World} {b:Nat} (o:Obj) (h:b≤W.heap.size):SameB W (W.alloc o) b:=fun k hk=>Below.heap_alloc _ _ _ (by omega)
theorem SameB.set {W:World} {b:Nat} (g i:Nat) (v:Value) (h:b≤g):SameB W (W.setCell ⟨g,i,none⟩ v) b:=fun k hk=>Below.heap_setCell _ _ _ _ (by show k ≠ g;omega)
theorem SameB.below {W V:World} {b:Nat} (h:Below b W V):SameB W V b:=h.block
def MkU (W:World) (b g o:Nat):Prop:=g<b∧(∃ x,W.cell? ⟨g,o,none⟩=some (.int .u64 x))∧W.frozen? ⟨g,o,none⟩=false
def MkA (W:World) (b g o:Nat):Prop:=g<b∧W.cell? ⟨g,o,none⟩=some (.int .i64 (-71))∧(∃ x,W.cell? ⟨g,o+1,none⟩=some (.int .u64 x))∧W.frozen? ⟨g,o,none⟩=false∧W.frozen? ⟨g,o+1,none⟩=false
theorem MkU.same {W V:World} {b g o:Nat} (h:MkU W b g o) (s:SameB W V b):MkU V b g o :=
  ⟨h.1,by rw [s.cell h.1];exact h.2.1,by rw [s.free h.1];exact h.2.2⟩
theorem MkA.same {W V:World} {b g o:Nat} (h:MkA W b g o) (s:SameB W V b):MkA V b g o :=
  ⟨h.1,by rw [s.cell h.1];exact h.2.1,by rw [s.cell h.1];exact h.2.2.1,by rw [s.free h.1];exact h.2.2.2.1,by rw [s.free h.1];exact h.2.2.2.2⟩
theorem keep_u {W:World} {b g o:Nat} (h:MkU W b g o) (l:Int):(∀ a u,rC W b a=some u→(∀ x,u ≠ .int .u64 x)→rC (W.setCell ⟨g,o,none⟩ (.int .u64 l)) b a=some u)∧(∀ a x,rC W b a=some (.int .u64 x)→∃ y,rC (W.setCell ⟨g,o,none⟩ (.int .u64 l)) b a=some (.int .u64 y)):=by
  obtain ⟨h1,⟨x0,h2⟩,h3⟩:=h
  refine ⟨fun a u e hx=>?_,fun a x e=>?_⟩
  · obtain ⟨e1,e2⟩:=rC_of e
    refine rC_mk ?_ e1
    rw [World.cell?_setCell_other _ _ _ _ (fun e3=>?_)]
    · exact e2
    · first | subst e3 | (obtain rfl:=e3)
      rw [h2] at e2
      injection e2 with e2
      exact hx _ e2.symm
  · obtain ⟨e1,e2⟩:=rC_of e
    by_cases e3:a=⟨g,o,none⟩
    · subst e3
      exact ⟨l,rC_mk (World.cell?_setCell_same _ _ _ e2) e1⟩
    · refine ⟨x,rC_mk ?_ e1⟩
      rw [World.cell?_setCell_other _ _ _ _ (fun h=>e3 (by first | exact h | exact h.symm))]
      exact e2
theorem keep_ua {W:World} {b g o:Nat} (h:MkU W b g o) (l:Int):KeepA (rC W b) (rC (W.setCell ⟨g,o,none⟩ (.int .u64 l)) b) :=
  ⟨fun a u e hx _=>(keep_u h l).1 a u e hx,(keep_u h l).2,fun a e=>⟨-71,(keep_u h l).1 a _ e (fun x hx=>by cases hx)⟩⟩
theorem MkU.keep {W:World} {b g o g' o':Nat} (h:MkU W b g o) (h':MkU W b g' o') (l:Int):MkU (W.setCell ⟨g',o',none⟩ (.int .u64 l)) b g o:=by
  obtain ⟨h1,⟨x,h2⟩,h3⟩:=h
  obtain ⟨y,hy⟩:=(keep_u h' l).2 _ _ (rC_mk h2 h1)
  exact ⟨h1,⟨y,(rC_of hy).2⟩,by rw [World.frozen?_setCell];exact h3⟩
theorem MkA.keep {W:World} {b g o g' o':Nat} (h:MkA W b g o) (h':MkU W b g' o') (l:Int):MkA (W.setCell ⟨g',o',none⟩ (.int .u64 l)) b g o:=by
  obtain ⟨h1,h2,⟨x,h3⟩,h4,h5⟩:=h
  obtain ⟨y,hy⟩:=(keep_u h' l).2 _ _ (rC_mk h3 h1)
  exact ⟨h1,(rC_of ((keep_u h' l).1 _ _ (rC_mk h2 h1) (fun x hx=>by cases hx))).2,⟨y,(rC_of hy).2⟩,by rw [World.frozen?_setCell];exact h4,by rw [World.frozen?_setCell];exact h5⟩
theorem keep_a {W:World} {b g o:Nat} (h:MkA W b g o) (l:Int):KeepA (rC W b) (rC ((W.setCell ⟨g,o,none⟩ (.int .i64 1)).setCell ⟨g,o+1,none⟩ (.int .u64 l)) b):=by
  obtain ⟨h1,h2,⟨x0,h3⟩,h4,h5⟩:=h
  have hne:(⟨g,o,none⟩:Addr) ≠ ⟨g,o+1,none⟩:=by simp
  have out:∀ a,a ≠ (⟨g,o,none⟩:Addr)→a ≠ ⟨g,o+1,none⟩→((W.setCell ⟨g,o,none⟩ (.int .i64 1)).setCell ⟨g,o+1,none⟩ (.int .u64 l)).cell? a=W.cell? a:=fun a n1 n2=>by
    rw [World.cell?_setCell_other _ _ _ _ (by first | exact n2 | exact Ne.symm n2),World.cell?_setCell_other _ _ _ _ (by first | exact n1 | exact Ne.symm n1)]
  have in0:((W.setCell ⟨g,o,none⟩ (.int .i64 1)).setCell ⟨g,o+1,none⟩ (.int .u64 l)).cell? ⟨g,o,none⟩=some (.int .i64 1):=by
    rw [World.cell?_setCell_other _ _ _ _ (by first | exact hne | exact Ne.symm hne)]
    exact World.cell?_setCell_same _ _ _ h2
  have in1:((W.setCell ⟨g,o,none⟩ (.int .i64 1)).setCell ⟨g,o+1,none⟩ (.int .u64 l)).cell? ⟨g,o+1,none⟩=some (.int .u64 l) :=
    World.cell?_setCell_same _ _ _ (u:=.int .u64 x0) (by rw [World.cell?_setCell_other _ _ _ _ (by first | exact hne | exact Ne.symm hne)];exact h3)
  refine ⟨fun a u e hx hy=>?_,fun a x e=>?_,fun a e=>?_⟩
  · obtain ⟨e1,e2⟩:=rC_of e
    refine rC_mk ?_ e1
    rw [out a (fun e3=>?_) (fun e3=>?_)]
    · exact e2
    · subst e3;rw [h2] at e2;injection e2 with e2;exact hy e2.symm
    · subst e3;rw [h3] at e2;injection e2 with e2;exact hx _ e2.symm
  · obtain ⟨e1,e2⟩:=rC_of e
    by_cases n2:a=⟨g,o+1,none⟩
    · subst n2;exact ⟨l,rC_mk in1 e1⟩
    · refine ⟨x,rC_mk ?_ e1⟩
      rw [out a (fun e3=>?_) n2]
      · exact e2
      · subst e3;rw [h2] at e2;cases e2
  · obtain ⟨e1,e2⟩:=rC_of e
    by_cases n1:a=⟨g,o,none⟩
    · subst n1;exact ⟨1,rC_mk in0 e1⟩
    · refine ⟨-71,rC_mk ?_ e1⟩
      rw [out a n1 (fun e3=>?_)]
      · exact e2
      · subst e3;rw [h3] at e2;cases e2
theorem MkU.keepA {W:World} {b g o g' o':Nat} (h:MkU W b g o) (h':MkA W b g' o') (l:Int):MkU ((W.setCell ⟨g',o',none⟩ (.int .i64 1)).setCell ⟨g',o'+1,none⟩ (.int .u64 l)) b g o:=by
  obtain ⟨h1,⟨x,h2⟩,h3⟩:=h
  obtain ⟨y,hy⟩:=(keep_a h' l).u _ _ (rC_mk h2 h1)
  exact ⟨h1,⟨y,(rC_of hy).2⟩,by rw [World.frozen?_setCell,World.frozen?_setCell];exact h3⟩
theorem ArS.more {W:World} {b g o:Nat} {l:List (Int × Int)} (h:ArS (rC W b) (some ⟨g,o,none⟩) l) (hm:MkA W b g (o+l.length * 2)) (lb:Int) (hn:∀ x ∈ l,x.1 ≠ -71) :
    ArS (rC ((W.setCell ⟨g,o+l.length * 2,none⟩ (.int .i64 1)).setCell ⟨g,o+l.length * 2+1,none⟩ (.int .u64 lb)) b) (some ⟨g,o,none⟩) (l++[(1,lb)]):=fun j hj=>by
  have hk:=h.keep (keep_a hm lb) hn
  by_cases e:j<l.length
  · obtain ⟨g',o',x,e1,a,c⟩:=hk j e
    rw [List.getElem_append_left e]
    exact ⟨g',o',x,e1,a,c⟩
  · have e2:j=l.length:=by simp at hj;omega
    subst e2
    obtain ⟨h1,h2,⟨x0,h3⟩,h4,h5⟩:=hm
    have hne:(⟨g,o+l.length * 2,none⟩:Addr) ≠ ⟨g,o+l.length * 2+1,none⟩:=by simp
    refine ⟨g,o,lb,rfl,rC_mk ?_ h1,rC_mk ?_ h1⟩
    · rw [List.getElem_append_right (Nat.le_refl _)]
      simp only [Nat.sub_self,List.getElem_cons_zero]
      rw [World.cell?_setCell_other _ _ _ _ (by first | exact hne | exact Ne.symm hne)]
      exact World.cell?_setCell_same _ _ _ h2
    · exact World.cell?_setCell_same _ _ _ (u:=.int .u64 x0) (by rw [World.cell?_setCell_other _ _ _ _ (by first | exact hne | exact Ne.symm hne)];exact h3)
theorem wpList_room {P:Program} (w:World) {ops:Array Oper} {rest:List Oper} {o:Oper} {a:Act} {Q:Exit→Act→World→Prop}
    (hg:o.guard=none) (s x:Operand) (t:TypeId) (hop:o.op=Op.call { callee:=Callee.builtin Builtin.append,args:=#[s,x],argTypes:=#[t,t] })
    (e:TypeId) (i:TypeInfo) (size:Nat) (h1:P.underlying t=some (.slice e)) (h2:P.info? e=some i) (h4:i.size=size)
    (b off n cap:Nat) (hs:a.eval s=.slice (some ⟨b,off,none⟩) n cap)
    (ad:Addr) (m c:Nat) (news:List Value) (hx:a.eval x=.slice (some ad) m c) (hn:news.length=m * size) (hc:∀ j u,news[j]?=some u→w.cell? (ad.add j)=some u) (h1c:∀ u ∈ news,u.oneCell'=true)
    (hr:n+m≤cap) (hsp:∀ j,j<news.length→(w.cell? ⟨b,off+n * size+j,none⟩).isSome=true∧w.frozen? ⟨b,off+n * size+j,none⟩=false)
    (h:wpList P ops Q rest (a.put o.dst (.slice (some ⟨b,off,none⟩) (n+m) cap)) (w.setCells b (off+n * size) news)) :
    wpList P ops Q (o :: rest) a w:=by
  subst h4
  refine wpList_plain hg fun K hK'=>?_
  have hrun:=run_append_room_cells (P:=P) w t o.type e i h1 h2 b off n cap ad m c news hn hc h1c hr (fun j hj=>(hsp j hj).1) (fun j hj=>(hsp j hj).2)
  unfold Oper.wp
  simp [execOp,hop,resolve,invoke,builtin,hs,hx,hrun,Result.andThen]
  exact hK' _ _ h
end Go.Proofs.Ythjkbfamkogoiaa
namespace Go.Proofs.Ythjkbfamkogoiaa
open Go Go.RowKit Go.Proofs.Mm Go.Sort
structure TS (w W:World) (bt:Nat) (p1:Option Addr) (n1 d1:Nat) (p2:Option Addr) (n2 d2:Nat) (p3:Option Addr) (n3 d3:Nat) (p4:Option Addr) (n4 d4:Nat) (arrs:List (Int × Int)) (fs:List FnM):Prop where
  bl:Below w.heap.size w W
  lo:w.heap.size≤bt
  box:InB W bt #[.slice p1 n1 d1,.slice p2 n2 d2,.slice p3 n3 d3,.slice p4 n4 d4] 26
  ar:ArS (rC W bt) p2 arrs
  fn:FnS (rC W bt) p4 fs
  fz:∀ j,j<fs.length→∃ g o,p4=some ⟨g,o,none⟩∧g<bt∧w.heap.size≤g∧W.frozen? ⟨g,o+j * 6+5,none⟩=false
theorem lent_state {w1 w2:World} {m':Mem} {m:MoM} (hmo:Mem.More w1 (fun _=>none) m') (hH:Has w2 m') {p1:Option Addr} {n1 d1:Nat} {p2:Option Addr} {n2 d2:Nat} {p3:Option Addr} {n3 d3:Nat} {p4:Option Addr} {n4 d4:Nat}
    (hM:MoR true (mC m') (moV p1 n1 d1 p2 n2 d2 p3 n3 d3 p4 n4 d4) m) :
    (∃ g o,p1=some ⟨g,o,none⟩∧n1+1≤d1∧w1.heap.size≤g∧MkU w2 w2.heap.size g (o+n1))∧(∃ g o,p2=some ⟨g,o,none⟩∧n2+1≤d2∧w1.heap.size≤g∧MkA w2 w2.heap.size g (o+n2 * 2)) ∧
    (∃ g o,p3=some ⟨g,o,none⟩∧n3+1≤d3∧w1.heap.size≤g∧MkU w2 w2.heap.size g (o+n3))∧ArS (rC w2 w2.heap.size) p2 m.arrays∧FnS (rC w2 w2.heap.size) p4 m.funcs ∧
    (∀ j,j<m.funcs.length→∃ g o,p4=some ⟨g,o,none⟩∧g<w2.heap.size∧w1.heap.size≤g∧w2.frozen? ⟨g,o+j * 6+5,none⟩=false):=by
  obtain ⟨v1,v2,v3,v4,e,h1,h2,h3,h4⟩:=hM
  injection e with e
  obtain ⟨rfl,rfl,rfl,rfl⟩:Value.slice p1 n1 d1=v1∧Value.slice p2 n2 d2=v2∧Value.slice p3 n3 d3=v3∧Value.slice p4 n4 d4=v4:=by simpa using e
  have lt:∀ a u,mC m' a=some u→w1.heap.size≤a.block∧a.block<w2.heap.size∧w2.cell? a=some u∧w2.frozen? a=false:=fun a u h =>
    ⟨mc_lt hmo h,World.block_lt_of_cell? _ _ (has_cle hH _ _ h),has_cle hH _ _ h,has_free hH h⟩
  refine ⟨?_,?_,?_,ArAt.sh (ArsR.cells (h2.le (mc_rc hH))),fnAt_s (FnsR.cells (h4.le (mc_rc hH))),fun j hj=>?_⟩
  · obtain ⟨_,hc,_,g,o,hq,hm⟩:=slx_mark (bs:=7) (size:=1) h1 (by decide) la_len (by simp [mkL])
    have h0:=hm 0 (.int .u64 7171) rfl
    obtain ⟨l1,l2,l3,l4⟩:=lt _ _ h0
    simp only [Nat.mul_one,Nat.add_zero] at l1 l2 l3 l4
    exact ⟨g,o,hq,hc,l1,l2,⟨_,l3⟩,l4⟩
  · obtain ⟨_,hc,_,g,o,hq,hm⟩:=slx_mark (bs:=15) (size:=2) h2 (by decide) ar_len (by simp [mkA])
    have h0:=hm 0 (.int .i64 (-71)) rfl
    have h1:=hm 1 (.int .u64 0) rfl
    obtain ⟨l1,l2,l3,l4⟩:=lt _ _ h0
    obtain ⟨k1,k2,k3,k4⟩:=lt _ _ h1
    simp only [Nat.add_zero] at l1 l2 l3 l4
    exact ⟨g,o,hq,hc,l1,l2,l3,⟨_,k3⟩,l4,k4⟩
  · obtain ⟨_,hc,_,g,o,hq,hm⟩:=slx_mark (bs:=7) (size:=1) h3 (by decide) la_len (by simp [mkL])
    have h0:=hm 0 (.int .u64 7171) rfl
    obtain ⟨l1,l2,l3,l4⟩:=lt _ _ h0
    simp only [Nat.mul_one,Nat.add_zero] at l1 l2 l3 l4
    exact ⟨g,o,hq,hc,l1,l2,⟨_,l3⟩,l4⟩
  · obtain ⟨g,o,vp,vr,vc,hq,_,a0,a1,a2,a3,a4,a5⟩:=FnsR.cells h4 j hj
    obtain ⟨l1,l2,l3,l4⟩:=lt _ _ a5
    exact ⟨g,o,hq,l2,l1,l4⟩
theorem fn_store {V:World} {b g o f k cn:Nat} {fs:List FnM} {qn:Option Addr} (h:FnS (rC V b) (some ⟨g,o,none⟩) fs) (hf:f<fs.length) (hk:(nopF fs[f]).code.length=k) (hb:k≤140737488351232) (hc:InS (wC V) qn (nopF fs[f]).code) :
    FnS (wC (V.setCell ⟨g,o+f * 6+5,none⟩ (.slice qn k cn))) (some ⟨g,o,none⟩) (fs.set f (nopF fs[f])):=by
  have h0:∃ q n c,V.cell? ⟨g,o+f * 6+5,none⟩=some (.slice q n c):=by
    obtain ⟨g',o',lv,qp,cp,qr,cr,qc,cc,e,a0,a1,a2,a3,a4,a5,_⟩:=h f hf
    injection e with e
    injection e with e1 e2
    subst e1 e2
    exact ⟨_,_,_,(rC_of a5).2⟩
  obtain ⟨q0,n0,c0,h0⟩:=h0
  have out:∀ a,a ≠ (⟨g,o+f * 6+5,none⟩:Addr)→(V.setCell ⟨g,o+f * 6+5,none⟩ (.slice qn k cn)).cell? a=V.cell? a:=fun a hn=>World.cell?_setCell_other _ _ _ _ (Ne.symm hn)
  have ki:∀ a t x,V.cell? a=some (.int t x)→(V.setCell ⟨g,o+f * 6+5,none⟩ (.slice qn k cn)).cell? a=some (.int t x):=fun a t x h=>by
    rw [out a (fun e=>?_)]
    · exact h
    · subst e;rw [h0] at h;cases h
  have kI:∀ q l,InS (wC V) q l→InS (wC (V.setCell ⟨g,o+f * 6+5,none⟩ (.slice qn k cn))) q l:=fun q l h j hj=>by
    obtain ⟨g',o',av,e,a,c,d⟩:=h j hj
    exact ⟨g',o',av,e,ki _ _ _ a,ki _ _ _ c,d⟩
  intro j hj
  have hj':j<fs.length:=by rw [List.length_set] at hj;exact hj
  obtain ⟨g',o',lv,qp,cp,qr,cr,qc,cc,e,a0,a1,a2,a3,a4,a5,hI,b1,b2,b3⟩:=(h.le (rC_le V b)) j hj'
  injection e with e
  injection e with e1 e2
  subst e1 e2
  have ad:∀ r,r<5→(⟨g,o+j * 6+r,none⟩:Addr) ≠ ⟨g,o+f * 6+5,none⟩:=fun r hr e=>by injection e with _ e _;omega
  by_cases e:f=j
  · subst e
    simp only [List.getElem_set_self]
    refine ⟨g,o,lv,qp,cp,qr,cr,qn,cn,rfl,ki _ _ _ a0,?_,?_,ki _ _ _ a3,ki _ _ _ a4,?_,kI _ _ hc,b1,b2,by rw [hk];exact hb⟩
    · exact (out _ (ad 1 (by decide))).trans a1
    · exact (out _ (ad 2 (by decide))).trans a2
    · rw [hk];exact World.cell?_setCell_same _ _ _ h0
  · have e2:(fs.set f (nopF fs[f]))[j]=fs[j]:=List.getElem_set_ne e _
    simp only [e2]
    refine ⟨g,o,lv,qp,cp,qr,cr,qc,cc,rfl,ki _ _ _ a0,(out _ (ad 1 (by decide))).trans a1,(out _ (ad 2 (by decide))).trans a2,ki _ _ _ a3,ki _ _ _ a4,(out _ (fun h=>?_)).trans a5,kI _ _ hI,b1,b2,b3⟩
    injection h with _ h _
    omega
theorem arS_store {V:World} {b g o:Nat} {qa:Option Addr} {l:List (Int × Int)} {x:Value} {q0:Option Addr} {n0 c0:Nat} (h:ArS (rC V b) qa l) (h0:V.cell? ⟨g,o,none⟩=some (.slice q0 n0 c0)):ArS (wC (V.setCell ⟨g,o,none⟩ x)) qa l:=fun j hj=>by
  obtain ⟨g',o',lb,e,a,c⟩:=h.le (rC_le V b) j hj
  have ki:∀ a t y,V.cell? a=some (.int t y)→(V.setCell ⟨g,o,none⟩ x).cell? a=some (.int t y):=fun a t y h=>by
    rw [World.cell?_setCell_other _ _ _ _ (fun e=>?_)]
    · exact h
    · subst e;rw [h0] at h;cases h
  exact ⟨g',o',lb,e,ki _ _ _ a,ki _ _ _ c⟩
theorem good_ne {ng na nh:Nat} {arrs:List (Int × Int)} {fs:List FnM} (hl:arrs.length=na) (h:chkE ng na nh arrs fs=(0,0,0)):(∀ x ∈ arrs,x.1 ≠ -71)∧∀ j (hj:j<fs.length),fs[j].locals ≠ -71∧fs[j].stack ≠ -71∧∀ x ∈ fs[j].code,x.1 ≠ -71∧(x.1 ≠ 32→x.2 ≠ -71):=by
  rw [chk_ok] at h
  obtain ⟨t,hg⟩:=h
  rw [tab_ok] at t
  refine ⟨fun x hx=>?_,fun j hj=>?_⟩
  · obtain ⟨i,hi,rfl⟩:=List.getElem_of_mem hx
    have:=t.2.2.2.2 i (by omega)
    unfold oddI at this
    rw [getA_at hi] at this
    have:=of_decide_eq_false this
    omega
  · obtain ⟨h1,h2⟩:=hg j hj
    have h3:¬ (fs[j].locals<0 ∨ fs[j].stack<0):=fun e=>by
      unfold sizI at h1
      by_cases c:(fs[j].params.length:Int) > 8 ∨ (fs[j].results.length:Int) > 4 ∨ (fs[j].code.length:Int) > 2048 ∨ fs[j].locals > 32 ∨ fs[j].stack > 64
      · rw [if_pos c] at h1;exact absurd h1 (by decide)
      · rw [if_neg c,if_pos e] at h1;exact absurd h1 (by decide)
    refine ⟨by omega,by omega,fun x hx=>?_⟩
    obtain ⟨a,ha,rfl⟩:=List.getElem_of_mem hx
    have h4:=(ins_zero_iff.1 (h2 a ha).1)
    obtain ⟨_,h5,h6⟩:=h4
    have h7:(1≤fs[j].code[a].1∧fs[j].code[a].1≤17) ∨ (32≤fs[j].code[a].1∧fs[j].code[a].1≤47):=by
      unfold knI at h5
      simpa using h5
    refine ⟨by omega,fun e=>?_⟩
    unfold opnI at h6
    rw [if_neg e] at h6
    have bl:∀ n:Int,blI fs[j].code[a].2 n=true→fs[j].code[a].2 ≠ -71:=fun n h=>by
      have:=of_decide_eq_true h
      omega
    by_cases e2:fs[j].code[a].1=33 ∨ fs[j].code[a].1=34
    · rw [if_pos e2] at h6;exact bl _ h6
    rw [if_neg e2] at h6
    by_cases e2:fs[j].code[a].1=35 ∨ fs[j].code[a].1=36
    · rw [if_pos e2] at h6;exact bl _ h6
    rw [if_neg e2] at h6
    by_cases e2:fs[j].code[a].1=37 ∨ fs[j].code[a].1=38
    · rw [if_pos e2] at h6;exact bl _ h6
    rw [if_neg e2] at h6
    by_cases e2:fs[j].code[a].1=43 ∨ fs[j].code[a].1=44
    · rw [if_pos e2] at h6;exact bl _ h6
    rw [if_neg e2] at h6
    by_cases e2:fs[j].code[a].1=45
    · rw [if_pos e2] at h6;exact bl _ h6
    rw [if_neg e2] at h6
    by_cases e2:fs[j].code[a].1=47
    · rw [if_pos e2] at h6;exact bl _ h6
    rw [if_neg e2] at h6
    have:=of_decide_eq_true h6
    omega
end Go.Proofs.Ythjkbfamkogoiaa
namespace Go.Proofs.Ythjkbfamkogoiaa
open Go Go.RowKit Go.Proofs.Mm Go.Sort
theorem wpList_roomV {P:Program} (w:World) {ops:Array Oper} {rest:List Oper} {o:Oper} {a:Act} {Q:Exit→Act→World→Prop}
    (hg:o.guard=none) (s x:Operand) (t:TypeId) (hop:o.op=Op.call { callee:=Callee.builtin Builtin.append,args:=#[s,x],argTypes:=#[t,t] })
    (e:TypeId) (i:TypeInfo) (size:Nat) (h1:P.underlying t=some (.slice e)) (h2:P.info? e=some i) (h4:i.size=size)
    (b off n cap:Nat) (hs:a.eval s=.slice (some ⟨b,off,none⟩) n cap)
    (ad:Addr) (m c:Nat) (news:List Value) (hx:a.eval x=.slice (some ad) m c) (hn:news.length=m * size) (hc:∀ j u,news[j]?=some u→w.cell? (ad.add j)=some u) (h1c:∀ u ∈ news,u.oneCell'=true)
    (hr:n+m≤cap) (hsp:∀ j,j<news.length→(w.cell? ⟨b,off+n * size+j,none⟩).isSome=true∧w.frozen? ⟨b,off+n * size+j,none⟩=false)
    (h:∀ V,Hid (V=w.setCells b (off+n * size) news)→wpList P ops Q rest (a.put o.dst (.slice (some ⟨b,off,none⟩) (n+m) cap)) V) :
    wpList P ops Q (o :: rest) a w:=wpList_room w hg s x t hop e i size h1 h2 h4 b off n cap hs ad m c news hx hn hc h1c hr hsp (h _ (Lib.hid rfl))
section
variable {w W:World} {bt:Nat} {p1:Option Addr} {n1 d1:Nat} {p2:Option Addr} {n2 d2:Nat} {p3:Option Addr} {n3 d3:Nat} {p4:Option Addr} {n4 d4:Nat} {arrs:List (Int × Int)} {fs:List FnM}
theorem TS.le {V:World} (h:TS w W bt p1 n1 d1 p2 n2 d2 p3 n3 d3 p4 n4 d4 arrs fs) (hb:Below W.heap.size W V):TS w V bt p1 n1 d1 p2 n2 d2 p3 n3 d3 p4 n4 d4 arrs fs:=by
  have hs:SameB W V bt:=fun k hk=>hb.block k (Nat.lt_trans hk h.box.lt)
  refine ⟨bl_tr h.bl hb,h.lo,h.box.le hb,by rw [hs.rc];exact h.ar,by rw [hs.rc];exact h.fn,fun j hj=>?_⟩
  obtain ⟨g,o,e,f1,f2,f3⟩:=h.fz j hj
  exact ⟨g,o,e,f1,f2,by rw [hs.free f1];exact f3⟩
theorem TS.same (h:TS w W bt p1 n1 d1 p2 n2 d2 p3 n3 d3 p4 n4 d4 arrs fs) {V:World} (hb:Below W.heap.size W V):SameB W V bt:=fun k hk=>hb.block k (Nat.lt_trans hk h.box.lt)
theorem TS.lab (h:TS w W bt p1 n1 d1 p2 n2 d2 p3 n3 d3 p4 n4 d4 arrs fs) {g o:Nat} (hm:MkU W bt g o) (hg:w.heap.size≤g) (l:Int) (hn:∀ x ∈ arrs,x.1 ≠ -71)
    (hf:∀ j (hj:j<fs.length),fs[j].locals ≠ -71∧fs[j].stack ≠ -71∧∀ x ∈ fs[j].code,x.1 ≠ -71∧(x.1 ≠ 32→x.2 ≠ -71)):TS w (W.setCell ⟨g,o,none⟩ (.int .u64 l)) bt p1 n1 d1 p2 n2 d2 p3 n3 d3 p4 n4 d4 arrs fs:=by
  refine ⟨h.bl.setCell hg _,h.lo,heap_other h.box (by have:=hm.1;omega),h.ar.keep (keep_ua hm l) hn,h.fn.keep (keep_ua hm l) hf,fun j hj=>?_⟩
  obtain ⟨g',o',e,f1,f2,f3⟩:=h.fz j hj
  exact ⟨g',o',e,f1,f2,by rw [World.frozen?_setCell];exact f3⟩
theorem TS.arr {g o:Nat} (h:TS w W bt p1 n1 d1 (some ⟨g,o,none⟩) n2 d2 p3 n3 d3 p4 n4 d4 arrs fs) (hl:arrs.length=n2) (hm:MkA W bt g (o+n2 * 2)) (hg:w.heap.size≤g) (l:Int) (hn:∀ x ∈ arrs,x.1 ≠ -71)
    (hf:∀ j (hj:j<fs.length),fs[j].locals ≠ -71∧fs[j].stack ≠ -71∧∀ x ∈ fs[j].code,x.1 ≠ -71∧(x.1 ≠ 32→x.2 ≠ -71)) :
    TS w ((W.setCell ⟨g,o+n2 * 2,none⟩ (.int .i64 1)).setCell ⟨g,o+n2 * 2+1,none⟩ (.int .u64 l)) bt p1 n1 d1 (some ⟨g,o,none⟩) n2 d2 p3 n3 d3 p4 n4 d4 (arrs++[(1,l)]) fs:=by
  subst hl
  refine ⟨(h.bl.setCell hg _).setCell hg _,h.lo,heap_other (heap_other h.box (by have:=hm.1;omega)) (by have:=hm.1;omega),h.ar.more hm l hn,h.fn.keep (keep_a hm l) hf,fun j hj=>?_⟩
  obtain ⟨g',o',e,f1,f2,f3⟩:=h.fz j hj
  exact ⟨g',o',e,f1,f2,by rw [World.frozen?_setCell,World.frozen?_setCell];exact f3⟩
theorem TS.sameSet (i:Nat) (v:Value):SameB W (W.setCell ⟨bt,i,none⟩ v) bt:=SameB.set bt i v (Nat.le_refl _)
theorem TS.put (h:TS w W bt p1 n1 d1 p2 n2 d2 p3 n3 d3 p4 n4 d4 arrs fs) (i:Nat) (v:Value) {p1':Option Addr} {n1' d1':Nat} {p2':Option Addr} {n2' d2':Nat} {p3':Option Addr} {n3' d3':Nat}
    (hb:(#[.slice p1 n1 d1,.slice p2 n2 d2,.slice p3 n3 d3,.slice p4 n4 d4]:Array Value).setIfInBounds i v=#[.slice p1' n1' d1',.slice p2' n2' d2',.slice p3' n3' d3',.slice p4 n4 d4]) (hp:p2'=p2) :
    TS w (W.setCell ⟨bt,i,none⟩ v) bt p1' n1' d1' p2' n2' d2' p3' n3' d3' p4 n4 d4 arrs fs:=by
  subst hp
  have hs:SameB W (W.setCell ⟨bt,i,none⟩ v) bt:=TS.sameSet i v
  refine ⟨h.bl.setCell h.lo _,h.lo,hb ▸ heap_set h.box i v,by rw [hs.rc];exact h.ar,by rw [hs.rc];exact h.fn,fun j hj=>?_⟩
  obtain ⟨g,o,e,f1,f2,f3⟩:=h.fz j hj
  exact ⟨g,o,e,f1,f2,by rw [hs.free f1];exact f3⟩
end
theorem own_set {w:World} {B n size g i:Nat} {E:TypeId} {v u:Value} {xs:List Value} (h:w.ownsRow B E size v n xs) (hn:∀ k,v.ownBlock=some k→k ≠ g):(w.setCell ⟨g,i,none⟩ u).ownsRow B E size v n xs:=by
  refine ⟨h.1,?_⟩
  rcases h.2 with h0 | ⟨g',cap,cur,rfl,hb,hg,rest⟩
  · exact .inl h0
  · exact .inr ⟨g',cap,cur,rfl,hb,heap_other hg (hn g' rfl),rest⟩
theorem codC_app:∀ l r:List (Int × Int),codC (l++r)=codC l++codC r
  | [],_=>rfl
  | x :: l,r=>by
    show Value.int .i64 x.1 :: Value.int .i64 x.2 :: codC (l++r)=_
    rw [codC_app l r];rfl
theorem codC_step (l:List (Int × Int)) (a:Nat) (ha:a<l.length):codC ((42,0) :: (l.map bump).take (a+1))=codC ((42,0) :: (l.map bump).take a)++[.int .i64 l[a].1,.int .i64 (bump l[a]).2]:=by
  have e:l.take (a+1)=l.take a++[l[a]]:=by rw [List.take_add_one,List.getElem?_eq_getElem ha];rfl
  rw [← List.map_take,← List.map_take,e,List.map_append,← List.cons_append,codC_app]
  show _++[Value.int .i64 (bump l[a]).1,Value.int .i64 (bump l[a]).2]=_
  rw [bump_op]
theorem codC_at:∀ (l:List (Int × Int)) (j:Nat) (hj:j<l.length),(codC l)[j * 2]?=some (.int .i64 l[j].1)∧(codC l)[j * 2+1]?=some (.int .i64 l[j].2)
  | x :: l,0,_=>⟨rfl,rfl⟩
  | x :: l,j+1,hj=>by
    have h:=codC_at l j (by simpa using hj)
    rw [show (j+1) * 2=j * 2+1+1 by omega]
    exact h
theorem own_ins {w:World} {B n c:Nat} {q:Option Addr} {l:List (Int × Int)} (hl:l.length=n) (hn:0<n) (h:w.ownsRow B 35 2 (.slice q n c) n (codC l)):InS (wC w) q l:=fun j hj=>by
  obtain ⟨g,cap,e,_⟩:=row_form h hn
  injection e with e1 e2 e3
  subst e1
  obtain ⟨h1,h2⟩:=codC_at l j hj
  have k:=h.cells (g:=g) rfl
  have ad:∀ i,((⟨g,0,none⟩:Addr).add i)=⟨g,0+i,none⟩:=fun i=>by unfold Addr.add;split <;> simp_all
  have k1:=k _ _ h1
  have k2:=k _ _ h2
  rw [ad] at k1 k2
  exact ⟨g,0,_,rfl,k1,by rw [Nat.add_assoc];exact k2,fun _=>rfl⟩
end Go.Proofs.Ythjkbfamkogoiaa
