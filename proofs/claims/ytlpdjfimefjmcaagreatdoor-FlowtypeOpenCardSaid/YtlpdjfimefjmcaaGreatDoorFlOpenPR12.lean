/- Package names: checks that lean on those ahead of them. -/
import Derived.Test.YtlpdjfimefjmcaaGreatDoorFlOpenPR10
import Derived.Test.YtlpdjfimefjmcaaGreatDoorFlOpenPR11
open Go.Lib (hid)
namespace Go.Proofs.YtlpdjfimefjmcaaGreatDoor
open Go Go.RowKit Go.Proofs.Mm
def MakesIf (p:Prop) (v:Value) (W:World) (e:Ending) (w':World):Prop:=∃K ca,e=.returned (.func (.func K) #[] ca)∧Below W.heap.size W w'∧(p→FunV w' (.func (.func K) #[] ca) v)
theorem MakesIf.mk {p:Prop} {v:Value} {W w':World} {K:Nat} {ca:Array Value} (hb:Below W.heap.size W w') (ek:Ent K) (h:p→∀w,Below w'.heap.size w' w→Calls Tryz.prog K ca w (RetB v w)):MakesIf p v W (.returned (.func (.func K) #[] ca)) w' :=
 ⟨K,ca,rfl,hb,fun hp=>⟨K,ca,rfl,ek,h hp⟩⟩
section
variable {lt:Bool} {C:Cl} {W:World} {s:SoZ} {q1:Option Addr} {c1:Nat} {q2:Option Addr} {c2:Nat} {q3:Option Addr} {c3:Nat} {q4:Option Addr} {c4:Nat} {q5:Option Addr} {c5:Nat} {qt:Option Addr} {ct:Nat} {qe:Option Addr} {ce:Nat}
set_option maxRecDepth 100000 in
set_option maxHeartbeats 1000000 in
theorem locals_p (h:SrcO lt C s q1 c1 q2 c2 q3 c3 q4 c4 q5 c5) (hC:CLe C (wC W)) (f:Nat) (hf:f<s.funcs.length) :
 Calls Tryz.prog 40 #[.agg (srV s q1 c1 q2 c2 q3 c3 q4 c4 q5 c5),.int .i64 (f:Int)] W (MakesIf (s.funcs[f].params.length≤8∧s.funcs[f].vars.length≤32) (.int .i64 ((locE s f (s.funcs[f].params++s.funcs[f].vars) 0:Nat):Int)) W):=by
 have hmf:∀(fn:Fn) (first cap:Array Value) (w:World),(Instr.makeFunc fn first cap).run Tryz.prog w=.ok (.func fn first cap) w:=fun _ _ _ _=>rfl
 have ek:Ent 82:=ent_of Tryz.func82 (by kernel_rfl) rfl
 have HM:=hid (fun (hp:s.funcs[f].params.length≤8∧s.funcs[f].vars.length≤32) (w':World) (hW:Below W.heap.size W w') (i0:InB w' W.heap.size (srV s q1 c1 q2 c2 q3 c3 q4 c4 q5 c5) 27) (i1:w'.cell? ⟨W.heap.size+1,0,none⟩=some (.int .i64 (f:Int))) w hb =>
  localsC_p (W:=w) h (hC.trans (below_cle (bl_tr hW hb))) f hf hp.1 hp.2 W.heap.size (W.heap.size+1) (i0.le hb) (cell_b i1 hb))
 clear h hC
 generalize locE s f (s.funcs[f].params++s.funcs[f].vars) 0=E at *
 generalize (s.funcs[f].params.length≤8∧s.funcs[f].vars.length≤32)=p at *
 clear hf
 unfold srV at HM ⊢
 generalize s.principals.length=n1 at *
 generalize s.globals.length=n2 at *
 generalize s.arrays.length=n3 at *
 generalize s.channels.length=n4 at *
 generalize s.funcs.length=n5 at *
 go_enter Tryz.func40,Tryz.ntmps40
 go_wp2
 go_ret
 exact MakesIf.mk (bl_al (bl_al (Below.refl _ _) _) _) ek (fun hp w hb=>HM.out hp _ (bl_al (bl_al (Below.refl _ _) _) _) ((InB.new _ _ _).le (bl_al (Below.refl _ _) _)) (new_cell' _ _ (by simp)) w hb)
set_option maxRecDepth 100000 in
set_option maxHeartbeats 1000000 in
theorem uses_p (h:SrcO lt C s q1 c1 q2 c2 q3 c3 q4 c4 q5 c5) (hC:CLe C (wC W)) (f:Nat) (x:StZ) (ht:StrR lt C (.slice qt x.targets.length ct) x.targets) (he:ExsR lt C (.slice qe x.exprs.length ce) x.exprs) :
 Calls Tryz.prog 44 #[.agg (srV s q1 c1 q2 c2 q3 c3 q4 c4 q5 c5),.int .i64 (f:Int),.agg (stA x qt ct qe ce)] W (MakesIf (UsOk x) (.int .i64 ((usesE s f x:Nat):Int)) W):=by
 have hmf:∀(fn:Fn) (first cap:Array Value) (w:World),(Instr.makeFunc fn first cap).run Tryz.prog w=.ok (.func fn first cap) w:=fun _ _ _ _=>rfl
 have ek:Ent 93:=ent_of Tryz.func93 (by kernel_rfl) rfl
 have HM:=hid (fun (hp:UsOk x) (w':World) (hW:Below W.heap.size W w') (i0:InB w' W.heap.size (srV s q1 c1 q2 c2 q3 c3 q4 c4 q5 c5) 27) (i1:w'.cell? ⟨W.heap.size+1,0,none⟩=some (.int .i64 (f:Int))) (i2:InB w' (W.heap.size+2) (stA x qt ct qe ce) 47) w hb =>
  usesC_p (W:=w) h (hC.trans (below_cle (bl_tr hW hb))) f x ht he hp (W.heap.size+2) W.heap.size (W.heap.size+1) (i2.le hb) (i0.le hb) (cell_b i1 hb))
 clear h hC ht he
 generalize usesE s f x=E at *
 generalize UsOk x=p at *
 unfold srV stA at HM ⊢
 generalize s.principals.length=n1 at *
 generalize s.globals.length=n2 at *
 generalize s.arrays.length=n3 at *
 generalize s.channels.length=n4 at *
 generalize s.funcs.length=n5 at *
 go_enter Tryz.func44,Tryz.ntmps44
 go_wp2
 go_ret
 exact MakesIf.mk (bl_al (bl_al (bl_al (Below.refl _ _) _) _) _) ek (fun hp w hb=>HM.out hp _ (bl_al (bl_al (bl_al (Below.refl _ _) _) _) _) ((InB.new _ _ _).le (bl_al (bl_al (Below.refl _ _) _) _)) (cell_b (new_cell' _ _ (by simp)) (bl_al (Below.refl _ _) _)) (InB.new' _ _ (by simp)) w hb)
set_option maxRecDepth 100000 in
set_option maxHeartbeats 1000000 in
theorem counts_p (h:SrcO lt C s q1 c1 q2 c2 q3 c3 q4 c4 q5 c5) (hC:CLe C (wC W)) (f:Nat) (hf:f<s.funcs.length) (x:StZ) :
 Calls Tryz.prog 45 #[.agg (srV s q1 c1 q2 c2 q3 c3 q4 c4 q5 c5),.int .i64 (f:Int),.agg (stA x qt ct qe ce)] W (MakesIf (usesE s f x=0) (.int .i64 ((cntE s f x:Nat):Int)) W):=by
 have hmf:∀(fn:Fn) (first cap:Array Value) (w:World),(Instr.makeFunc fn first cap).run Tryz.prog w=.ok (.func fn first cap) w:=fun _ _ _ _=>rfl
 have ek:Ent 96:=ent_of Tryz.func96 (by kernel_rfl) rfl
 have HM:=hid (fun (hp:usesE s f x=0) (w':World) (hW:Below W.heap.size W w') (i0:InB w' W.heap.size (srV s q1 c1 q2 c2 q3 c3 q4 c4 q5 c5) 27) (i1:w'.cell? ⟨W.heap.size+1,0,none⟩=some (.int .i64 (f:Int))) (i2:InB w' (W.heap.size+2) (stA x qt ct qe ce) 47) w hb =>
  countsC_p (W:=w) h (hC.trans (below_cle (bl_tr hW hb))) f hf x hp (W.heap.size+2) W.heap.size (W.heap.size+1) (i2.le hb) (i0.le hb) (cell_b i1 hb))
 clear h hC
 generalize cntE s f x=E at *
 generalize (usesE s f x=0)=p at *
 clear hf
 unfold srV stA at HM ⊢
 generalize s.principals.length=n1 at *
 generalize s.globals.length=n2 at *
 generalize s.arrays.length=n3 at *
 generalize s.channels.length=n4 at *
 generalize s.funcs.length=n5 at *
 go_enter Tryz.func45,Tryz.ntmps45
 go_wp2
 go_ret
 exact MakesIf.mk (bl_al (bl_al (bl_al (Below.refl _ _) _) _) _) ek (fun hp w hb=>HM.out hp _ (bl_al (bl_al (bl_al (Below.refl _ _) _) _) _) ((InB.new _ _ _).le (bl_al (bl_al (Below.refl _ _) _) _)) (cell_b (new_cell' _ _ (by simp)) (bl_al (Below.refl _ _) _)) (InB.new' _ _ (by simp)) w hb)
end
theorem chkL {w:World} {b:Nat} {us:List Value} {es:List Nat} (hl:us.length=es.length) (hc:∀j (hj:j<us.length),w.cell? ⟨b,j,none⟩=some us[j])
 (hf:∀j (hj:j<us.length) (hj':j<es.length),(∀i (hi:i<es.length),i<j→es[i]=0)→FunV w us[j] (.int .i64 ((es[j]:Nat):Int))):ChkRow w (some ⟨b,0,none⟩) es:=by
 intro j hj hz
 have hj2:j<us.length:=by omega
 have h1:=hf j hj2 hj hz
 obtain ⟨K,ca,e,hr⟩:=h1
 refine ⟨b,0,K,ca,rfl,?_,K,ca,rfl,hr⟩
 rw [Nat.zero_add,hc j hj2,e]
theorem chk5 {w:World} {b:Nat} {u0 u1 u2 u3 u4:Value} {x0 x1 x2 x3 x4:Nat} {T:TypeId} (h:InB w b #[u0,u1,u2,u3,u4] T) (f0:FunV w u0 (.int .i64 ((x0:Nat):Int))) (f1:FunV w u1 (.int .i64 ((x1:Nat):Int))) (f2:x0=0→FunV w u2 (.int .i64 ((x2:Nat):Int)))
 (f3:FunV w u3 (.int .i64 ((x3:Nat):Int))) (f4:FunV w u4 (.int .i64 ((x4:Nat):Int))):ChkRow w (some ⟨b,0,none⟩) [x0,x1,x2,x3,x4]:=by
 refine chkL (us:=[u0,u1,u2,u3,u4]) rfl (fun j hj=>?_) (fun j hj hj' hz=>?_)
 ·have hj2:j=0∨j=1∨j=2∨j=3∨j=4:=by simp at hj;omega
  rcases hj2 with rfl|rfl|rfl|rfl|rfl <;> exact h.cell rfl
 ·have hj2:j=0∨j=1∨j=2∨j=3∨j=4:=by simp at hj;omega
  rcases hj2 with rfl|rfl|rfl|rfl|rfl
  ·exact f0
  ·exact f1
  ·exact f2 (hz 0 (by simp) (by decide))
  ·exact f3
  ·exact f4
theorem chk4 {w:World} {b:Nat} {u0 u1 u2 u3:Value} {x0 x1 x2 x3:Nat} {T:TypeId} (h:InB w b #[u0,u1,u2,u3] T) (f0:FunV w u0 (.int .i64 ((x0:Nat):Int))) (f1:FunV w u1 (.int .i64 ((x1:Nat):Int))) (f2:x1=0→FunV w u2 (.int .i64 ((x2:Nat):Int)))
 (f3:x2=0→FunV w u3 (.int .i64 ((x3:Nat):Int))):ChkRow w (some ⟨b,0,none⟩) [x0,x1,x2,x3]:=by
 refine chkL (us:=[u0,u1,u2,u3]) rfl (fun j hj=>?_) (fun j hj hj' hz=>?_)
 ·have hj2:j=0∨j=1∨j=2∨j=3:=by simp at hj;omega
  rcases hj2 with rfl|rfl|rfl|rfl <;> exact h.cell rfl
 ·have hj2:j=0∨j=1∨j=2∨j=3:=by simp at hj;omega
  rcases hj2 with rfl|rfl|rfl|rfl
  ·exact f0
  ·exact f1
  ·exact f2 (hz 1 (by simp) (by decide))
  ·exact f3 (hz 2 (by simp) (by decide))
theorem lbsE_eq (s:SoZ):∀l:List Nat,lbsE s l=lbsU s.principals.length l
 | []=>rfl
 | x::l=>by
  unfold lbsE
  rw [lbsE_eq s l]
  unfold lbsU lblE unl
  simp only [List.all_cons]
  have key:∀a b:Bool,fst0 [if a=true then 0 else 10,if b=true then 0 else 10]=if (a && b)=true then 0 else 10:=by decide
  exact key _ _
theorem bulk_ok {x:StZ} (h:bulkE x=0) (ht:x.targets.length≤8796093021952):UsOk x:=by
 unfold bulkE unl at h
 split at h
 ·rename_i hc
  rw [Bool.and_eq_true,decide_eq_true_iff,List.all_eq_true] at hc
  exact ⟨ht,hc.1,fun e he=>by simpa using hc.2 e he⟩
 ·cases h
theorem sizes_ok {d:FnZ} (h:unl (decide (d.params.length≤8) && decide (d.results.length≤4) && decide (d.vars.length≤32) && decide (d.body.length≤256)) 74=0):d.params.length≤8∧d.vars.length≤32:=by
 unfold unl at h
 split at h
 ·rename_i hc
  simp only [Bool.and_eq_true,decide_eq_true_iff] at hc
  exact ⟨hc.1.1.1,hc.1.2⟩
 ·cases h
end Go.Proofs.YtlpdjfimefjmcaaGreatDoor
