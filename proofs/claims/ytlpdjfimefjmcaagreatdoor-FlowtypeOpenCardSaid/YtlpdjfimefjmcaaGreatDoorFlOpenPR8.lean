/- Package names: sizes of a function, the grammar and the bulk of a statement. Package names: what a statement uses. Package names: all that a statement uses. (Written by a program.) -/
import Derived.Test.YtlpdjfimefjmcaaGreatDoorFlOpenPR6
import Derived.Test.YtlpdjfimefjmcaaGreatDoorFlOpenPR7
import Derived.Laws.EntriesVeiled
import Derived.Maps.OwnIn
import Derived.Laws.AppendOwnNone
import Derived.Deep.DeepAppendWide
open Go.Lib (hid)
namespace Go.Proofs.YtlpdjfimefjmcaaGreatDoor
open Go Go.RowKit Go.Proofs.Mm
def fdA (d:FnZ) (qp:Option Addr) (cp:Nat) (qr:Option Addr) (cr:Nat) (qv:Option Addr) (cv:Nat) (qb:Option Addr) (cb:Nat):Array Value:=#[.string d.name,.int .u64 (d.level:Nat),.slice qp d.params.length cp,.slice qr d.results.length cr,.slice qv d.vars.length cv,.slice qb d.body.length cb]
def stA (x:StZ) (qt:Option Addr) (ct:Nat) (qe:Option Addr) (ce:Nat):Array Value:=#[.int .i64 x.kind,.string x.name,.slice qt x.targets.length ct,.slice qe x.exprs.length ce]
theorem Makes.mk {v:Value} {W w':World} {K:Nat} {ca:Array Value} (hb:Below W.heap.size W w') (ek:Ent K) (h:∀w,Below w'.heap.size w' w→Calls Tryz.prog K ca w (RetB v w)):Makes v W (.returned (.func (.func K) #[] ca)) w' :=
 ⟨_,rfl,hb,K,ca,rfl,ek,h⟩
section
variable {lt:Bool} {C:Cl} {W:World} {qp:Option Addr} {cp:Nat} {qr:Option Addr} {cr:Nat} {qv:Option Addr} {cv:Nat} {qb:Option Addr} {cb:Nat} {qt:Option Addr} {ct:Nat} {qe:Option Addr} {ce:Nat}
set_option maxRecDepth 100000 in
set_option maxHeartbeats 4000000 in
theorem sizesC_p (d:FnZ) (b:Nat) (h0:InB W b (fdA d qp cp qr cr qv cv qb cb) 43) :
 Calls Tryz.prog 77 #[.pointer (some ⟨b,0,none⟩)] W (RetB (.int .i64 ((unl (decide (d.params.length≤8) && decide (d.results.length≤4) && decide (d.vars.length≤32) && decide (d.body.length≤256)) 74:Nat):Int)) W):=by
 obtain ⟨nm,lv,ps,rs,vs,bs⟩:=d
 have x0:=h0.cell (j:=0) (v:=.string nm) rfl
 have x1:=h0.cell (j:=1) (v:=.int .u64 (lv:Nat)) rfl
 have x2:=h0.cell (j:=2) (v:=.slice qp ps.length cp) rfl
 have x3:=h0.cell (j:=3) (v:=.slice qr rs.length cr) rfl
 have x4:=h0.cell (j:=4) (v:=.slice qv vs.length cv) rfl
 have x5:=h0.cell (j:=5) (v:=.slice qb bs.length cb) rfl
 have hlt:=h0.lt
 clear h0
 simp only
 generalize ps.length=n1 at *
 generalize rs.length=n2 at *
 generalize vs.length=n3 at *
 generalize bs.length=n4 at *
 have HU:=unless_p
 by_cases h1:n1≤8
 ·have i1:(n1:Int)≤8:=by omega
  by_cases h2:n2≤4
  ·have i2:(n2:Int)≤4:=by omega
   by_cases h3:n3≤32
   ·have i3:(n3:Int)≤32:=by omega
    by_cases h4:n4≤256
    ·have i4:(n4:Int)≤256:=by omega
     simp only [decide_eq_true h1,decide_eq_true h2,decide_eq_true h3,decide_eq_true h4,Bool.true_and]
     go_enter Tryz.func77,Tryz.ntmps77
     go_wp2_with (go_at_call 78;refine (HU _ _ _).mono ?_;rintro e w2 ⟨rfl,rfl⟩)
     go_ret
     exact ⟨rfl,Below.refl _ _⟩
    ·have i4:¬(n4:Int)≤256:=by omega
     simp only [decide_eq_true h1,decide_eq_true h2,decide_eq_true h3,decide_eq_false h4,Bool.true_and]
     go_enter Tryz.func77,Tryz.ntmps77
     go_wp2_with (go_at_call 78;refine (HU _ _ _).mono ?_;rintro e w2 ⟨rfl,rfl⟩)
     go_ret
     exact ⟨rfl,Below.refl _ _⟩
   ·have i3:¬(n3:Int)≤32:=by omega
    simp only [decide_eq_true h1,decide_eq_true h2,decide_eq_false h3,Bool.true_and,Bool.false_and]
    go_enter Tryz.func77,Tryz.ntmps77
    go_wp2_with (go_at_call 78;refine (HU _ _ _).mono ?_;rintro e w2 ⟨rfl,rfl⟩)
    go_ret
    exact ⟨rfl,Below.refl _ _⟩
  ·have i2:¬(n2:Int)≤4:=by omega
   simp only [decide_eq_true h1,decide_eq_false h2,Bool.true_and,Bool.false_and]
   go_enter Tryz.func77,Tryz.ntmps77
   go_wp2_with (go_at_call 78;refine (HU _ _ _).mono ?_;rintro e w2 ⟨rfl,rfl⟩)
   go_ret
   exact ⟨rfl,Below.refl _ _⟩
 ·have i1:¬(n1:Int)≤8:=by omega
  simp only [decide_eq_false h1,Bool.false_and]
  go_enter Tryz.func77,Tryz.ntmps77
  go_wp2_with (go_at_call 78;refine (HU _ _ _).mono ?_;rintro e w2 ⟨rfl,rfl⟩)
  go_ret
  exact ⟨rfl,Below.refl _ _⟩
set_option maxRecDepth 100000 in
theorem sizes_p (d:FnZ):Calls Tryz.prog 38 #[.agg (fdA d qp cp qr cr qv cv qb cb)] W (Makes (.int .i64 ((unl (decide (d.params.length≤8) && decide (d.results.length≤4) && decide (d.vars.length≤32) && decide (d.body.length≤256)) 74:Nat):Int)) W):=by
 have hmf:∀(fn:Fn) (first cap:Array Value) (w:World),(Instr.makeFunc fn first cap).run Tryz.prog w=.ok (.func fn first cap) w:=fun _ _ _ _=>rfl
 have ek:Ent 77:=ent_of Tryz.func77 (by kernel_rfl) rfl
 have HI:=hid (InB.new W (fdA d qp cp qr cr qv cv qb cb) 43)
 have HM:=hid (fun (w':World) (h:InB w' W.heap.size (fdA d qp cp qr cr qv cv qb cb) 43) w hb=>sizesC_p (W:=w) d W.heap.size (h.le hb))
 generalize unl _ 74=E at *
 unfold fdA at HI HM ⊢
 go_enter Tryz.func38,Tryz.ntmps38
 go_wp2
 go_ret
 exact Makes.mk (bl_al (Below.refl _ _) _) ek (fun w hb=>HM.out _ HI.out w hb)
set_option maxRecDepth 100000 in
theorem grammarC_p (x:StZ) (b:Nat) (h0:InB W b (stA x qt ct qe ce) 47) (ht:StrR lt C (.slice qt x.targets.length ct) x.targets) (he:ExsR lt C (.slice qe x.exprs.length ce) x.exprs) (hC:CLe C (wC W)) :
 Calls Tryz.prog 88 #[.pointer (some ⟨b,0,none⟩)] W (RetB (.int .i64 ((unl (fitZ x) 50:Nat):Int)) W):=by
 have HF:=hid (fits_p x ht he hC)
 have x0:=h0.cell (j:=0) (v:=.int .i64 x.kind) rfl
 have x1:=h0.cell (j:=1) (v:=.string x.name) rfl
 have x2:=h0.cell (j:=2) (v:=.slice qt x.targets.length ct) rfl
 have x3:=h0.cell (j:=3) (v:=.slice qe x.exprs.length ce) rfl
 clear h0 ht he hC
 unfold stV at HF
 generalize fitZ x=r at *
 generalize x.kind=kd at *
 generalize x.name=nm at *
 generalize x.targets.length=nt at *
 generalize x.exprs.length=ne at *
 cases r
 all_goals
  go_enter Tryz.func88,Tryz.ntmps88
  go_wp2_with fail
  go_at_call 89
  refine HF.out.mono ?_
  rintro e w1 ⟨rfl,hb⟩
  go_wp2_with (go_at_call 78;refine (unless_p _ _ _).mono ?_;rintro e w2 ⟨rfl,rfl⟩)
  go_ret
  exact ⟨rfl,hb⟩
set_option maxRecDepth 100000 in
theorem grammar_p (x:StZ) (ht:StrR lt C (.slice qt x.targets.length ct) x.targets) (he:ExsR lt C (.slice qe x.exprs.length ce) x.exprs) (hC:CLe C (wC W)) :
 Calls Tryz.prog 42 #[.agg (stA x qt ct qe ce)] W (Makes (.int .i64 ((unl (fitZ x) 50:Nat):Int)) W):=by
 have hmf:∀(fn:Fn) (first cap:Array Value) (w:World),(Instr.makeFunc fn first cap).run Tryz.prog w=.ok (.func fn first cap) w:=fun _ _ _ _=>rfl
 have ek:Ent 88:=ent_of Tryz.func88 (by kernel_rfl) rfl
 have HI:=hid (InB.new W (stA x qt ct qe ce) 47)
 have HM:=hid (fun (w':World) (hW:Below W.heap.size W w') (h:InB w' W.heap.size (stA x qt ct qe ce) 47) w hb=>grammarC_p (W:=w) x W.heap.size (h.le hb) ht he (hC.trans (below_cle (bl_tr hW hb))))
 generalize unl _ 50=E at *
 unfold stA at HI HM ⊢
 clear ht he hC
 go_enter Tryz.func42,Tryz.ntmps42
 go_wp2
 go_ret
 exact Makes.mk (bl_al (Below.refl _ _) _) ek (fun w hb=>HM.out _ (bl_al (Below.refl _ _) _) HI.out w hb)
set_option maxRecDepth 100000 in
theorem short_p (n c:Nat) (q:Option Addr) (W:World):Calls Tryz.prog 90 #[.slice q n c] W (RetB (.bool (decide (n≤48))) W):=by
 by_cases h:n≤48
 ·have i1:(n:Int)≤48:=by omega
  rw [decide_eq_true h]
  go_enter Tryz.func90,Tryz.ntmps90
  go_wp2
  go_ret
  exact ⟨rfl,Below.refl _ _⟩
 ·have i1:¬(n:Int)≤48:=by omega
  rw [decide_eq_false h]
  go_enter Tryz.func90,Tryz.ntmps90
  go_wp2
  go_ret
  exact ⟨rfl,Below.refl _ _⟩
def bulkE (x:StZ):Nat:=unl (decide (x.exprs.length≤8) && x.exprs.all fun l=>decide (l.length≤48)) 74
set_option maxRecDepth 100000 in
set_option maxHeartbeats 1000000 in
theorem bulkC_p (x:StZ) (b b1:Nat) (h0:InB W b (stA x qt ct qe ce) 47) (h1:W.cell? ⟨b1,0,none⟩=some (.func (.func 90) #[] #[])) (he:ExsR lt C (.slice qe x.exprs.length ce) x.exprs) (hC:CLe C (wC W)) :
 Calls Tryz.prog 91 #[.pointer (some ⟨b,0,none⟩),.pointer (some ⟨b1,0,none⟩)] W (RetB (.int .i64 ((bulkE x:Nat):Int)) W):=by
 have ek:Ent 90:=ent_of Tryz.func90 (by kernel_rfl) rfl
 have hle:=slx_len he
 have HA:=hid (allEx_p (c:=ce) (by omega) he.cells hC ek (ca:=#[]) (fun l=>decide (l.length≤48)) (fun k hk qe ce _ w' _=>short_p _ _ _ w'))
 have HB:=hid (show bulkE x=unl (decide (x.exprs.length≤8) && x.exprs.all fun l=>decide (l.length≤48)) 74 from rfl)
 have x3:=h0.cell (j:=3) (v:=.slice qe x.exprs.length ce) rfl
 have hlt:=h0.lt
 clear h0 he hC hle ek
 generalize bulkE x=E at *
 generalize (x.exprs.all fun l=>decide (l.length≤48))=r at *
 generalize x.exprs.length=ne at *
 by_cases h8:ne≤8
 ·have i1:(ne:Int)≤8:=by omega
  have HB2:=hid (show E=unl r 74 by rw [HB.out,decide_eq_true h8,Bool.true_and])
  cases r
  all_goals
   go_enter Tryz.func91,Tryz.ntmps91
   go_wp2_with fail
   go_at_call 92
   refine HA.out.mono ?_
   rintro e w1 ⟨rfl,hb⟩
   go_wp2_with (go_at_call 78;refine (unless_p _ _ _).mono ?_;rintro e w2 ⟨rfl,rfl⟩)
   go_ret
   exact ⟨by rw [HB2.out];rfl,hb⟩
 ·have i1:¬(ne:Int)≤8:=by omega
  have HB2:=hid (show E=74 by rw [HB.out,decide_eq_false h8,Bool.false_and];rfl)
  go_enter Tryz.func91,Tryz.ntmps91
  go_wp2_with (go_at_call 78;refine (unless_p _ _ _).mono ?_;rintro e w2 ⟨rfl,rfl⟩)
  go_ret
  exact ⟨by rw [HB2.out];rfl,Below.refl _ _⟩
set_option maxRecDepth 100000 in
theorem bulk_p (x:StZ) (he:ExsR lt C (.slice qe x.exprs.length ce) x.exprs) (hC:CLe C (wC W)) :
 Calls Tryz.prog 43 #[.agg (stA x qt ct qe ce)] W (Makes (.int .i64 ((bulkE x:Nat):Int)) W):=by
 have hmf:∀(fn:Fn) (first cap:Array Value) (w:World),(Instr.makeFunc fn first cap).run Tryz.prog w=.ok (.func fn first cap) w:=fun _ _ _ _=>rfl
 have ek:Ent 91:=ent_of Tryz.func91 (by kernel_rfl) rfl
 have HM:=hid (fun (w':World) (b1:Nat) (hW:Below W.heap.size W w') (h:InB w' W.heap.size (stA x qt ct qe ce) 47) (h1:w'.cell? ⟨b1,0,none⟩=some (.func (.func 90) #[] #[])) w hb=>bulkC_p (W:=w) x W.heap.size b1 (h.le hb) (cell_b h1 hb) he (hC.trans (below_cle (bl_tr hW hb))))
 generalize bulkE x=E at *
 unfold stA at HM ⊢
 clear he hC
 go_enter Tryz.func43,Tryz.ntmps43
 go_wp2
 go_ret
 refine Makes.mk (bl_al (bl_al (Below.refl _ _) _) _) ek (fun w hb=>HM.out _ _ (bl_al (bl_al (Below.refl _ _) _) _) ?_ ?_ w hb)
 ·exact (InB.new _ _ _).le (bl_al (Below.refl _ _) _)
 ·exact new_cell' _ _ (by simp)
end
def usC (u:ByteArray × Nat):List Value:=[.string u.1,.int .i64 (u.2:Int)]
def usCs (l:List (ByteArray × Nat)):List Value:=l.flatMap usC
theorem usCs_len (l:List (ByteArray × Nat)):(usCs l).length=l.length*2:=by
 induction l with
 | nil=>rfl
 | cons x l ih=>unfold usCs at ih ⊢;rw [List.flatMap_cons,List.length_append,ih,List.length_cons];simp [usC];omega
theorem usCs_app (l m:List (ByteArray × Nat)):usCs (l++m)=usCs l++usCs m:=List.flatMap_append
theorem usCs_one (u:ByteArray × Nat):usCs [u]=usC u:=by simp [usCs]
theorem usCs_cells (l:List (ByteArray × Nat)):∀v∈usCs l,v.oneCell'=true:=by
 intro v hv
 obtain ⟨u,_,h⟩:=List.mem_flatMap.1 hv
 simp only [usC,List.mem_cons,List.not_mem_nil,or_false] at h
 rcases h with rfl|rfl <;> rfl
theorem und_uses:Tryz.prog.underlying 133=some (.slice 136):=by kernel_rfl
theorem infoUs:∃i,Tryz.prog.info? 136=some i∧i.zero=some (.agg #[.string ⟨#[]⟩,.int .i64 0])∧i.size=2∧i.bytes=24:=by
 have h:(Tryz.prog.info? 136).map (fun i=>(i.zero,i.size,i.bytes))=some (some (.agg #[.string ⟨#[]⟩,.int .i64 0]),2,24):=by kernel_rfl
 cases hi:Tryz.prog.info? 136 with
 | none=>rw [hi] at h;cases h
 | some i =>
  rw [hi] at h
  simp only [Option.map_some,Option.some.injEq,Prod.mk.injEq] at h
  exact ⟨i,rfl,h.1,h.2.1,h.2.2⟩
def UsO (B:Nat) (w:World) (v:Value) (l:List (ByteArray × Nat)):Prop:=w.ownsRow B 136 2 v l.length (usCs l)
section
variable {lt:Bool} {C:Cl} {W:World} {q:Option Addr} {c:Nat}
set_option maxRecDepth 100000 in
set_option maxHeartbeats 4000000 in
theorem usesIn_p (l:List TmZ) (hl:l.length≤4398046511104) (hrow:TmAt C q l) (hC:CLe C (wC W)) :
 Calls Tryz.prog 135 #[.slice q l.length c] W fun e w'=>∃v,e=.returned v∧Below W.heap.size W w'∧UsO W.heap.size w' v (usesT l):=by
 obtain ⟨i2,h2,h3,h4,h5⟩:=infoUs
 have HA:=hid hrow
 have HCC:=hid hC
 obtain ⟨n,hn⟩:∃n,l.length=n:=⟨_,rfl⟩
 have HN:=hid hn
 rw [hn] at hl ⊢
 clear hrow hC hn
 go_enter Tryz.func135,Tryz.ntmps135
 go_wp2
 go_loopw [3,8] (fun v i wr=>∃k:Nat,∃qv:Option Addr,∃m cv:Nat,k≤n∧i=.int .i64 k∧v=.slice qv m cv∧m≤k∧m=(usesT (l.take k)).length∧Hid (Below W.heap.size W wr)∧Hid (wr.ownsRow W.heap.size 136 2 (.slice qv m cv) m (usCs (usesT (l.take k))))) (fun _ i _=>n - (intOf i).toNat)
 case atStart=>exact ⟨0,none,0,0,Nat.zero_le _,rfl,rfl,Nat.le_refl _,rfl,hid (Below.refl _ _),hid (World.ownsRow_nil _ _ _ _)⟩
 case round =>
  obtain ⟨k,qv,m,cv,hk,rfl,rfl,hmk,hml,HB,HO⟩:=hrel
  have hsz:=HB.out.size
  by_cases hlt:k<n
  ·have hk1:k<l.length:=by rw [HN.out];exact hlt
   obtain ⟨g,o,rfl,a0,a1,a2⟩:=HA.out k hk1
   have e0:=below_cle HB.out _ _ (HCC.out _ _ a0)
   have e1:=below_cle HB.out _ _ (HCC.out _ _ a1)
   have e2:=below_cle HB.out _ _ (HCC.out _ _ a2)
   unfold wC at e0 e1 e2
   have HTK:=hid (show usesT (l.take (k+1))=usesT (l.take k)++(if l[k].kind=2 then [(l[k].name,2)] else if l[k].kind=3 then [(l[k].name,3)] else []) by
    rw [List.take_succ_eq_append_getElem hk1];unfold usesT;rw [List.flatMap_append];simp)
   have HML:=hid hml
   clear a0 a1 a2 hml
   generalize l[k]=x at *
   obtain ⟨kd,vl,nm⟩:=x
   simp only at e0 e1 e2
   have hki:(k:Int)<(n:Int):=by omega
   have hg:g<wr.heap.size:=cell_lt e0
   have HKK:=hid hmk
   clear hk1
   by_cases hk2:kd=2
   ·subst hk2
    have HTK2:=hid (show usCs (usesT (l.take (k+1)))=usCs (usesT (l.take k))++usC (nm,2) by rw [HTK.out,if_pos rfl,usCs_app,usCs_one])
    have HLN:=hid (show m+1=(usesT (l.take (k+1))).length by rw [HTK.out,if_pos rfl,List.length_append,←HML.out];rfl)
    have hrow1:=(HO.out.alloc (.cells #[.int .i64 2,.int .i64 vl,.string nm] 140)).alloc (.cells (usC (nm,2)).toArray 136)
    have hone:∀u∈usC (nm,2),u.oneCell'=true:=fun u hu=>usCs_cells [(nm,2)] u (by rw [usCs_one];exact hu)
    have hnew:=row_new (wr.alloc (.cells #[.int .i64 2,.int .i64 vl,.string nm] 140)) (usC (nm,2)) 136
    rw [World.size_alloc] at hnew
    have HB1:=hid (bl_al (bl_al HB.out (.cells #[.int .i64 2,.int .i64 vl,.string nm] 140)) (.cells (usC (nm,2)).toArray 136))
    go_wp2_with (at_builtin;refine wpList_append_own _ rfl _ _ 133 rfl W.heap.size 136 i2 _ 2 24 und_uses h2 h3 h4 h5 rfl (by decide) _ m (usCs (usesT (l.take k))) rfl hrow1 ⟨wr.heap.size+1,0,none⟩ 1 1 (usC (nm,2)) rfl rfl hnew hone (by unfold maxLen;omega) (by omega) (by simp <;> omega) ?_)
    intro v2 w2 hR2 hg2 _
    obtain ⟨q2,c2,rfl⟩:=own_shape hR2
    have HB2:=hid (grown_below HB1.out HB1.out.size hg2 (fun j hj=>(hrow1.lt j hj).1))
    have HO2:=hid hR2
    clear hg2 hrow1 hnew hR2
    go_wp2
    exact ⟨⟨k+1,q2,m+1,c2,by omega,by go_num,rfl,by have:=HKK.out;omega,HLN.out,HB2,hid (by rw [HTK2.out];exact HO2.out)⟩,by simp [intOf];omega⟩
   by_cases hk3:kd=3
   ·subst hk3
    have HTK2:=hid (show usCs (usesT (l.take (k+1)))=usCs (usesT (l.take k))++usC (nm,3) by rw [HTK.out,if_neg (show ¬((3:Int)=2) by decide),if_pos rfl,usCs_app,usCs_one])
    have HLN:=hid (show m+1=(usesT (l.take (k+1))).length by rw [HTK.out,if_neg (show ¬((3:Int)=2) by decide),if_pos rfl,List.length_append,←HML.out];rfl)
    have hrow1:=(HO.out.alloc (.cells #[.int .i64 3,.int .i64 vl,.string nm] 140)).alloc (.cells (usC (nm,3)).toArray 136)
    have hone:∀u∈usC (nm,3),u.oneCell'=true:=fun u hu=>usCs_cells [(nm,3)] u (by rw [usCs_one];exact hu)
    have hnew:=row_new (wr.alloc (.cells #[.int .i64 3,.int .i64 vl,.string nm] 140)) (usC (nm,3)) 136
    rw [World.size_alloc] at hnew
    have HB1:=hid (bl_al (bl_al HB.out (.cells #[.int .i64 3,.int .i64 vl,.string nm] 140)) (.cells (usC (nm,3)).toArray 136))
    go_wp2_with (at_builtin;refine wpList_append_own _ rfl _ _ 133 rfl W.heap.size 136 i2 _ 2 24 und_uses h2 h3 h4 h5 rfl (by decide) _ m (usCs (usesT (l.take k))) rfl hrow1 ⟨wr.heap.size+1,0,none⟩ 1 1 (usC (nm,3)) rfl rfl hnew hone (by unfold maxLen;omega) (by omega) (by simp <;> omega) ?_)
    intro v2 w2 hR2 hg2 _
    obtain ⟨q2,c2,rfl⟩:=own_shape hR2
    have HB2:=hid (grown_below HB1.out HB1.out.size hg2 (fun j hj=>(hrow1.lt j hj).1))
    have HO2:=hid hR2
    clear hg2 hrow1 hnew hR2
    go_wp2
    exact ⟨⟨k+1,q2,m+1,c2,by omega,by go_num,rfl,by have:=HKK.out;omega,HLN.out,HB2,hid (by rw [HTK2.out];exact HO2.out)⟩,by simp [intOf];omega⟩
   have HTK2:=hid (show usesT (l.take (k+1))=usesT (l.take k) by rw [HTK.out,if_neg hk2,if_neg hk3,List.append_nil])
   have e5:(kd == 2)=false:=by rw [beq_eq_false_iff_ne];exact hk2
   have e6:(kd == 3)=false:=by rw [beq_eq_false_iff_ne];exact hk3
   have HB1:=hid (bl_al HB.out (.cells #[.int .i64 kd,.int .i64 vl,.string nm] 140))
   have HO1:=hid (HO.out.alloc (.cells #[.int .i64 kd,.int .i64 vl,.string nm] 140))
   clear hk2 hk3
   go_wp2
   exact ⟨⟨k+1,qv,m,cv,by omega,by go_num,rfl,by have:=HKK.out;omega,by rw [HTK2.out];exact HML.out,HB1,hid (by rw [HTK2.out];exact HO1.out)⟩,by simp [intOf];omega⟩
  ·have hk':k=n:=by omega
   subst hk'
   have HL:=hid (show usesT (l.take k)=usesT l by rw [List.take_of_length_le (by rw [HN.out];exact Nat.le_refl _)])
   have HML:=hid hml
   clear hml
   go_wp2
   go_ret
   exact ⟨_,rfl,HB.out,by unfold UsO;rw [←HL.out,←HML.out];exact HO.out⟩
end
theorem own_rd {w:World} {B size n c:Nat} {E:TypeId} {q:Option Addr} {xs:List Value} (h:w.ownsRow B E size (.slice q n c) n xs):(q=none∧n=0∧c=0∧xs=[])∨∃g,q=some ⟨g,0,none⟩∧∀j u,xs[j]?=some u→w.cell? ⟨g,j,none⟩=some u:=by
 obtain ⟨h1,⟨h2,h0⟩|⟨g,cap,cur,h2,h3,h4,h5,h6,h7,h8⟩⟩:=h
 ·injection h2 with a b c
  subst h0
  exact .inl ⟨a,rfl,c,List.eq_nil_of_length_eq_zero (by simpa using h1)⟩
 ·injection h2 with a b c
  refine .inr ⟨g,a,fun j u hu=>?_⟩
  rw [←h8,List.getElem?_take] at hu
  split at hu
  ·rw [cell_of_row w g j cur E (0,0) h4]
   simpa using hu
  ·cases hu
theorem own_lower {V:World} {B B' size m:Nat} {e:TypeId} {v:Value} {xs:List Value} (h:V.ownsRow B e size v m xs) (hb:B'≤B):V.ownsRow B' e size v m xs:=by
 refine ⟨h.1,?_⟩
 rcases h.2 with h|⟨g,cap,cur,h1,h2,h3⟩
 ·exact .inl h
 ·exact .inr ⟨g,cap,cur,h1,Nat.le_trans hb h2,h3⟩
theorem own_bel {w w':World} {B size n:Nat} {E:TypeId} {v:Value} {xs:List Value} (h:w.ownsRow B E size v n xs) (hb:Below w.heap.size w w'):w'.ownsRow B E size v n xs:=by
 refine ⟨h.1,?_⟩
 rcases h.2 with h0|⟨g,cap,cur,rfl,h2,hg,rest⟩
 ·exact .inl h0
 ·exact .inr ⟨g,cap,cur,rfl,h2,(hb.block g (heap_lt hg)).trans hg,rest⟩
theorem usesT_len (l:List TmZ):(usesT l).length≤l.length:=by
 induction l with
 | nil=>exact Nat.le_refl _
 | cons x l ih =>
  unfold usesT at ih ⊢
  rw [List.flatMap_cons,List.length_append,List.length_cons]
  split
  ·simp only [List.length_singleton];omega
  ·split
   ·simp only [List.length_singleton];omega
   ·simp only [List.length_nil];omega
theorem usesE_len:∀(l:List (List TmZ)),(∀e∈l,e.length≤48)→(l.flatMap usesT).length≤l.length*48
 | [],_=>by simp
 | e::l,h=>by
  rw [List.flatMap_cons,List.length_append,List.length_cons]
  have h1:=usesE_len l (fun e he=>h e (List.mem_cons_of_mem _ he))
  have h2:=usesT_len e
  have h3:=h e (List.mem_cons_self ..)
  omega
section
variable {lt:Bool} {C:Cl} {W:World} {qt:Option Addr} {ct:Nat} {qe:Option Addr} {ce:Nat}
set_option maxRecDepth 100000 in
set_option maxHeartbeats 8000000 in
theorem usesOf_p (x:StZ) (ht:StrR lt C (.slice qt x.targets.length ct) x.targets) (he:ExsR lt C (.slice qe x.exprs.length ce) x.exprs) (hC:CLe C (wC W)) (hs1:x.targets.length≤8796093021952) (hs2:x.exprs.length≤8) (hs3:∀e∈x.exprs,e.length≤48) :
 Calls Tryz.prog 94 #[.agg (stA x qt ct qe ce)] W fun e w'=>∃v,e=.returned v∧Below W.heap.size W w'∧UsO W.heap.size w' v (usesZ x):=by
 obtain ⟨i2,h2,h3,h4,h5⟩:=infoUs
 obtain ⟨kd,nm,ts,es⟩:=x
 have HAT:=hid ht.cells
 have HAE:=hid he.cells
 have HCC:=hid hC
 have HES:=hid hs3
 have HUZ:=hid (show usesZ ⟨kd,nm,ts,es⟩=ts.map (fun n=>(n,2))++((if kd=2 then [(nm,3)] else if kd=3 then [(nm,4)] else if kd=4 then [(nm,5)] else [])++es.flatMap usesT) from rfl)
 clear ht he hC hs3
 generalize usesZ ⟨kd,nm,ts,es⟩=UZ at *
 unfold stA
 simp only at *
 obtain ⟨nt,hnt⟩:∃nt,ts.length=nt:=⟨_,rfl⟩
 obtain ⟨ne,hne⟩:∃ne,es.length=ne:=⟨_,rfl⟩
 have HNT:=hid hnt
 have HNE:=hid hne
 rw [hnt] at hs1 ⊢
 rw [hne] at hs2 ⊢
 clear hnt hne
 obtain ⟨b,hb⟩:∃b,W.heap.size=b:=⟨_,rfl⟩
 go_enter Tryz.func94,Tryz.ntmps94
 go_wp2_with fail
 have hib:InB (W.alloc (.cells #[.int .i64 kd,.string nm,.slice qt nt ct,.slice qe ne ce] 47)) b #[.int .i64 kd,.string nm,.slice qt nt ct,.slice qe ne ce] 47:=InB.new' _ _ hb
 have HW:=hid (show Below W.heap.size W (W.alloc (.cells #[.int .i64 kd,.string nm,.slice qt nt ct,.slice qe ne ce] 47)) from bl_al (Below.refl _ _) _)
 have HI:=hid hib
 have HBB:=hid hb
 try rw [hb]
 generalize W.alloc (.cells #[.int .i64 kd,.string nm,.slice qt nt ct,.slice qe ne ce] 47)=W1 at *
 have HWs:=hid (show W.heap.size≤W1.heap.size from HW.out.size)
 clear hib hb
 go_loopw [3,11] (fun v i wr=>∃k:Nat,∃qv:Option Addr,∃cv:Nat,k≤nt∧i=.int .i64 k∧v=.slice qv k cv∧Hid (Below W1.heap.size W1 wr)∧Hid (wr.ownsRow W1.heap.size 136 2 (.slice qv k cv) k (usCs ((ts.take k).map (fun n=>(n,2)))))) (fun _ i _=>nt - (intOf i).toNat)
 case atStart=>exact ⟨0,none,0,Nat.zero_le _,rfl,rfl,hid (Below.refl _ _),hid (World.ownsRow_nil _ _ _ _)⟩
 case round =>
  obtain ⟨k,qv,cv,hk,rfl,rfl,HB,HO⟩:=hrel
  have hsz:=HB.out.size
  by_cases hlt:k<nt
  ·have hk1:k<ts.length:=by rw [HNT.out];exact hlt
   obtain ⟨g,o,rfl,a0⟩:=HAT.out k hk1
   have e0:=below_cle (bl_tr HW.out HB.out) _ _ (HCC.out _ _ a0)
   unfold wC at e0
   have HTK:=hid (show usCs ((ts.take (k+1)).map (fun n=>(n,2)))=usCs ((ts.take k).map (fun n=>(n,2)))++usC (ts[k],2) by
    rw [List.take_succ_eq_append_getElem hk1,List.map_append,usCs_app];simp [usCs])
   clear a0
   generalize ts[k]=t at *
   clear hk1
   have hki:(k:Int)<(nt:Int):=by omega
   have hrow1:=HO.out.alloc (.cells (usC (t,2)).toArray 136)
   have hone:∀u∈usC (t,2),u.oneCell'=true:=fun u hu=>usCs_cells [(t,2)] u (by rw [usCs_one];exact hu)
   have hnew:=row_new wr (usC (t,2)) 136
   have HB1:=hid (bl_al HB.out (.cells (usC (t,2)).toArray 136))
   go_wp2_with (at_builtin;refine wpList_append_own_wide _ rfl _ _ 133 rfl W1.heap.size 136 i2 _ 2 24 und_uses h2 h3 h4 h5 rfl (by decide) _ k (usCs ((ts.take k).map (fun n=>(n,2)))) rfl hrow1 ⟨wr.heap.size,0,none⟩ 1 1 (usC (t,2)) rfl rfl hnew hone (by unfold maxLen;omega) (by omega) (by simp <;> omega) ?_)
   intro v2 w2 hR2 hg2 _
   obtain ⟨q2,c2,rfl⟩:=own_shape hR2
   have HB2:=hid (grown_below HB1.out HB1.out.size hg2 (fun j hj=>(hrow1.lt j hj).1))
   have HO2:=hid hR2
   clear hg2 hrow1 hnew hR2
   go_wp2
   exact ⟨⟨k+1,q2,c2,by omega,by go_num,rfl,HB2,hid (by rw [HTK.out,List.map_take];exact HO2.out)⟩,by simp [intOf];omega⟩
  ·obtain rfl:k=nt:=by omega
   have HTK:=hid (show (ts.take k).map (fun n=>(n,2))=ts.map (fun n=>(n,2)) by rw [List.take_of_length_le (by rw [HNT.out];exact Nat.le_refl _)])
   have HO1:=hid (HTK.out ▸ HO.out)
   have b0:=(HI.out.le HB.out).cell (j:=0) (v:=.int .i64 kd) rfl
   have b1:=(HI.out.le HB.out).cell (j:=1) (v:=.string nm) rfl
   have b3:=(HI.out.le HB.out).cell (j:=3) (v:=.slice qe ne ce) rfl
   have hblt:=(HI.out.le HB.out).lt
   have HLT:=hid (show (ts.map (fun n=>(n,2)):List (ByteArray × Nat)).length=k by rw [List.length_map];exact HNT.out)
   by_cases hk2:kd=2
   ·subst hk2
    have hrow1:=HO1.out.alloc (.cells (usC (nm,3)).toArray 136)
    have hone:∀u∈usC (nm,3),u.oneCell'=true:=fun u hu=>usCs_cells [(nm,3)] u (by rw [usCs_one];exact hu)
    have hnew:=row_new wr (usC (nm,3)) 136
    have HB1:=hid (bl_al HB.out (.cells (usC (nm,3)).toArray 136))
    have HI2:=hid (HI.out.le HB.out)
    go_wp2_with (at_builtin;refine wpList_append_own_wide _ rfl _ _ 133 rfl W1.heap.size 136 i2 _ 2 24 und_uses h2 h3 h4 h5 rfl (by decide) _ k (usCs (ts.map (fun n=>(n,2)))) rfl hrow1 ⟨wr.heap.size,0,none⟩ 1 1 (usC (nm,3)) rfl rfl hnew hone (by unfold maxLen;omega) (by omega) (by simp <;> omega) ?_)
    intro v2 wrx hR2 hg2 _
    obtain ⟨qm,cm,rfl⟩:=own_shape hR2
    have HBm:=hid (grown_below HB1.out HB1.out.size hg2 (fun j hj=>(hrow1.lt j hj).1))
    have HLZ:=hid (show (ts.map (fun n=>(n,2))++[(nm,3)])++es.flatMap usesT=UZ by rw [HUZ.out];simp)
    have HOm:=hid (show wrx.ownsRow W1.heap.size 136 2 (.slice qm (k+1) cm) (k+1) (usCs (ts.map (fun n=>(n,2))++[(nm,3)])) by rw [usCs_app,usCs_one];exact hR2)
    have hmm:k+1=(ts.map (fun n=>(n,2))++[(nm,3)]).length:=by rw [List.length_append,HLT.out];rfl
    have hmx:k+1≤8796093021953:=by omega
    clear hg2 hrow1 hnew hR2 b0 b1 b3 hblt
    have b3:=(HI.out.le HBm.out).cell (j:=3) (v:=.slice qe ne ce) rfl
    have b0:=b3
    have b1:=b3
    have hblt:=(HI.out.le HBm.out).lt
    go_wp2_with fail
    generalize ts.map (fun n=>(n,2))++[(nm,3)]=L at *
    generalize k+1=mm at *
    have HMM:=hid hmm
    generalize wrx=V at *
    clear b0 b1 b3 hblt hmm
    go_loopw [3,50] (fun v i wr=>∃j:Nat,∃q:Option Addr,∃m c:Nat,j≤ne∧i=.int .i64 j∧v=.slice q m c∧m≤mm+j*48∧m=(L++(es.take j).flatMap usesT).length∧Hid (Below W1.heap.size W1 wr)∧Hid (wr.ownsRow W1.heap.size 136 2 (.slice q m c) m (usCs (L++(es.take j).flatMap usesT)))) (fun _ i _=>ne - (intOf i).toNat)
    case atStart=>exact ⟨0,qm,mm,cm,Nat.zero_le _,rfl,rfl,by omega,by rw [List.take_zero];simpa using HMM.out,HBm,hid (by rw [List.take_zero];simpa using HOm.out)⟩
    case round =>
     obtain ⟨j,q,m,c,hj,rfl,rfl,hm,hml,HBr,HOr⟩:=hrel
     have hsz:=HBr.out.size
     by_cases hjn:j<ne
     ·have hj1:j<es.length:=by rw [HNE.out];exact hjn
      obtain ⟨g,o,qx,cx,rfl,a0,hx⟩:=HAE.out j hj1
      have e0:=below_cle (bl_tr HW.out HBr.out) _ _ (HCC.out _ _ a0)
      unfold wC at e0
      have HX:=hid (fun (w:World) (hw:Below W.heap.size W w)=>usesIn_p (W:=w) (c:=cx) es[j] (by have:=HES.out _ (List.getElem_mem hj1);omega) hx.cells (HCC.out.trans (below_cle hw)))
      have HTK:=hid (show L++(es.take (j+1)).flatMap usesT=(L++(es.take j).flatMap usesT)++usesT es[j] by
       rw [List.take_succ_eq_append_getElem hj1,List.flatMap_append,List.append_assoc];simp)
      have HLN:=hid (show (usesT es[j]).length≤48 from Nat.le_trans (usesT_len _) (HES.out _ (List.getElem_mem hj1)))
      have HML:=hid hml
      clear a0 hx hml
      generalize es[j]=ex at *
      clear hj1
      have hji:(j:Int)<(ne:Int):=by omega
      generalize ex.length=nx at *
      go_wp2_with fail
      go_at_call 135
      refine (HX.out _ (bl_tr HW.out HBr.out)).mono ?_
      rintro e w5 ⟨v5,rfl,hb5,ho5⟩
      have HB5:=hid (bl_tr HBr.out hb5)
      have hr5:=own_bel HOr.out hb5
      unfold UsO at ho5
      obtain ⟨q5,c5,rfl⟩:=own_shape ho5
      have HSU:=hid (show usCs (L++(es.take (j+1)).flatMap usesT)=usCs (L++(es.take j).flatMap usesT)++usCs (usesT ex) by rw [HTK.out,usCs_app])
      have HSL:=hid (show (L++(es.take (j+1)).flatMap usesT).length=m+(usesT ex).length by rw [HTK.out,List.length_append,←HML.out])
      have hln:=HLN.out
      have hcl5:(usCs (usesT ex)).length=(usesT ex).length*2:=usCs_len _
      have hone:∀u∈usCs (usesT ex),u.oneCell'=true:=usCs_cells _
      have hsz5:=HB5.out.size
      rcases own_rd ho5 with ⟨rfl,hn5,rfl,hx5⟩|⟨g5,rfl,hc5⟩
      ·have HN5:=hid hn5
       have HX5:=hid hx5
       rw [hn5]
       clear hx5 ho5 hb5 hln hcl5 hone hn5
       go_wp2_with (at_builtin;refine wpList_append_own_none rfl _ _ 133 rfl W1.heap.size 136 i2 2 und_uses h2 _ m (usCs (L++(es.take j).flatMap usesT)) rfl hr5 rfl ?_)
       have HR5:=hid hr5
       clear hr5
       go_wp2
       exact ⟨⟨j+1,q,m,c,by omega,by go_num,rfl,by omega,by rw [HSL.out,HN5.out,Nat.add_zero],HB5,hid (by rw [HSU.out,HX5.out,List.append_nil];exact HR5.out)⟩,by simp [intOf];omega⟩
      ·have hnew:∀(j:Nat) (u:Value),(usCs (usesT ex))[j]?=some u→w5.cell? ((⟨g5,0,none⟩:Addr).add j)=some u:=fun j u hu=>by
        rw [show ((⟨g5,0,none⟩:Addr).add j)=⟨g5,j,none⟩ from by simp [Addr.add];intro h;exact h.symm]
        exact hc5 j u hu
       clear ho5 hb5 hc5
       generalize hU:usesT ex=U at *
       generalize U.length=nu at *
       go_wp2_with (at_builtin;refine wpList_append_own_wide _ rfl _ _ 133 rfl W1.heap.size 136 i2 _ 2 24 und_uses h2 h3 h4 h5 rfl (by decide) _ m (usCs (L++(es.take j).flatMap usesT)) rfl hr5 ⟨g5,0,none⟩ nu c5 (usCs U) rfl hcl5 hnew hone (by unfold maxLen;omega) (by omega) (by omega) ?_)
       intro v2 w2 hR2 hg2 _
       obtain ⟨q2,c2,rfl⟩:=own_shape hR2
       have HB6:=hid (grown_below HB5.out HB5.out.size hg2 (fun j hj=>(hr5.lt j hj).1))
       have HO6:=hid hR2
       clear hg2 hnew hR2 hr5
       go_wp2
       exact ⟨⟨j+1,q2,m+nu,c2,by omega,by go_num,rfl,by omega,HSL.out.symm,HB6,hid (by rw [HSU.out];exact HO6.out)⟩,by simp [intOf];omega⟩
     ·obtain rfl:j=ne:=by omega
      have HTK:=hid (show L++(es.take j).flatMap usesT=UZ by rw [List.take_of_length_le (by rw [HNE.out];exact Nat.le_refl _),HLZ.out])
      have HML:=hid hml
      clear hml
      go_wp2
      go_ret
      exact ⟨_,rfl,bl_tr HW.out HBr.out,by unfold UsO;rw [←HTK.out,←HML.out];exact own_lower HOr.out HWs.out⟩
   by_cases hk3:kd=3
   ·subst hk3
    have hrow1:=HO1.out.alloc (.cells (usC (nm,4)).toArray 136)
    have hone:∀u∈usC (nm,4),u.oneCell'=true:=fun u hu=>usCs_cells [(nm,4)] u (by rw [usCs_one];exact hu)
    have hnew:=row_new wr (usC (nm,4)) 136
    have HB1:=hid (bl_al HB.out (.cells (usC (nm,4)).toArray 136))
    have HI2:=hid (HI.out.le HB.out)
    go_wp2_with (at_builtin;refine wpList_append_own_wide _ rfl _ _ 133 rfl W1.heap.size 136 i2 _ 2 24 und_uses h2 h3 h4 h5 rfl (by decide) _ k (usCs (ts.map (fun n=>(n,2)))) rfl hrow1 ⟨wr.heap.size,0,none⟩ 1 1 (usC (nm,4)) rfl rfl hnew hone (by unfold maxLen;omega) (by omega) (by simp <;> omega) ?_)
    intro v2 wrx hR2 hg2 _
    obtain ⟨qm,cm,rfl⟩:=own_shape hR2
    have HBm:=hid (grown_below HB1.out HB1.out.size hg2 (fun j hj=>(hrow1.lt j hj).1))
    have HLZ:=hid (show (ts.map (fun n=>(n,2))++[(nm,4)])++es.flatMap usesT=UZ by rw [HUZ.out];simp)
    have HOm:=hid (show wrx.ownsRow W1.heap.size 136 2 (.slice qm (k+1) cm) (k+1) (usCs (ts.map (fun n=>(n,2))++[(nm,4)])) by rw [usCs_app,usCs_one];exact hR2)
    have hmm:k+1=(ts.map (fun n=>(n,2))++[(nm,4)]).length:=by rw [List.length_append,HLT.out];rfl
    have hmx:k+1≤8796093021953:=by omega
    clear hg2 hrow1 hnew hR2 b0 b1 b3 hblt
    have b3:=(HI.out.le HBm.out).cell (j:=3) (v:=.slice qe ne ce) rfl
    have b0:=b3
    have b1:=b3
    have hblt:=(HI.out.le HBm.out).lt
    go_wp2_with fail
    generalize ts.map (fun n=>(n,2))++[(nm,4)]=L at *
    generalize k+1=mm at *
    have HMM:=hid hmm
    generalize wrx=V at *
    clear b0 b1 b3 hblt hmm
    go_loopw [3,50] (fun v i wr=>∃j:Nat,∃q:Option Addr,∃m c:Nat,j≤ne∧i=.int .i64 j∧v=.slice q m c∧m≤mm+j*48∧m=(L++(es.take j).flatMap usesT).length∧Hid (Below W1.heap.size W1 wr)∧Hid (wr.ownsRow W1.heap.size 136 2 (.slice q m c) m (usCs (L++(es.take j).flatMap usesT)))) (fun _ i _=>ne - (intOf i).toNat)
    case atStart=>exact ⟨0,qm,mm,cm,Nat.zero_le _,rfl,rfl,by omega,by rw [List.take_zero];simpa using HMM.out,HBm,hid (by rw [List.take_zero];simpa using HOm.out)⟩
    case round =>
     obtain ⟨j,q,m,c,hj,rfl,rfl,hm,hml,HBr,HOr⟩:=hrel
     have hsz:=HBr.out.size
     by_cases hjn:j<ne
     ·have hj1:j<es.length:=by rw [HNE.out];exact hjn
      obtain ⟨g,o,qx,cx,rfl,a0,hx⟩:=HAE.out j hj1
      have e0:=below_cle (bl_tr HW.out HBr.out) _ _ (HCC.out _ _ a0)
      unfold wC at e0
      have HX:=hid (fun (w:World) (hw:Below W.heap.size W w)=>usesIn_p (W:=w) (c:=cx) es[j] (by have:=HES.out _ (List.getElem_mem hj1);omega) hx.cells (HCC.out.trans (below_cle hw)))
      have HTK:=hid (show L++(es.take (j+1)).flatMap usesT=(L++(es.take j).flatMap usesT)++usesT es[j] by
       rw [List.take_succ_eq_append_getElem hj1,List.flatMap_append,List.append_assoc];simp)
      have HLN:=hid (show (usesT es[j]).length≤48 from Nat.le_trans (usesT_len _) (HES.out _ (List.getElem_mem hj1)))
      have HML:=hid hml
      clear a0 hx hml
      generalize es[j]=ex at *
      clear hj1
      have hji:(j:Int)<(ne:Int):=by omega
      generalize ex.length=nx at *
      go_wp2_with fail
      go_at_call 135
      refine (HX.out _ (bl_tr HW.out HBr.out)).mono ?_
      rintro e w5 ⟨v5,rfl,hb5,ho5⟩
      have HB5:=hid (bl_tr HBr.out hb5)
      have hr5:=own_bel HOr.out hb5
      unfold UsO at ho5
      obtain ⟨q5,c5,rfl⟩:=own_shape ho5
      have HSU:=hid (show usCs (L++(es.take (j+1)).flatMap usesT)=usCs (L++(es.take j).flatMap usesT)++usCs (usesT ex) by rw [HTK.out,usCs_app])
      have HSL:=hid (show (L++(es.take (j+1)).flatMap usesT).length=m+(usesT ex).length by rw [HTK.out,List.length_append,←HML.out])
      have hln:=HLN.out
      have hcl5:(usCs (usesT ex)).length=(usesT ex).length*2:=usCs_len _
      have hone:∀u∈usCs (usesT ex),u.oneCell'=true:=usCs_cells _
      have hsz5:=HB5.out.size
      rcases own_rd ho5 with ⟨rfl,hn5,rfl,hx5⟩|⟨g5,rfl,hc5⟩
      ·have HN5:=hid hn5
       have HX5:=hid hx5
       rw [hn5]
       clear hx5 ho5 hb5 hln hcl5 hone hn5
       go_wp2_with (at_builtin;refine wpList_append_own_none rfl _ _ 133 rfl W1.heap.size 136 i2 2 und_uses h2 _ m (usCs (L++(es.take j).flatMap usesT)) rfl hr5 rfl ?_)
       have HR5:=hid hr5
       clear hr5
       go_wp2
       exact ⟨⟨j+1,q,m,c,by omega,by go_num,rfl,by omega,by rw [HSL.out,HN5.out,Nat.add_zero],HB5,hid (by rw [HSU.out,HX5.out,List.append_nil];exact HR5.out)⟩,by simp [intOf];omega⟩
      ·have hnew:∀(j:Nat) (u:Value),(usCs (usesT ex))[j]?=some u→w5.cell? ((⟨g5,0,none⟩:Addr).add j)=some u:=fun j u hu=>by
        rw [show ((⟨g5,0,none⟩:Addr).add j)=⟨g5,j,none⟩ from by simp [Addr.add];intro h;exact h.symm]
        exact hc5 j u hu
       clear ho5 hb5 hc5
       generalize hU:usesT ex=U at *
       generalize U.length=nu at *
       go_wp2_with (at_builtin;refine wpList_append_own_wide _ rfl _ _ 133 rfl W1.heap.size 136 i2 _ 2 24 und_uses h2 h3 h4 h5 rfl (by decide) _ m (usCs (L++(es.take j).flatMap usesT)) rfl hr5 ⟨g5,0,none⟩ nu c5 (usCs U) rfl hcl5 hnew hone (by unfold maxLen;omega) (by omega) (by omega) ?_)
       intro v2 w2 hR2 hg2 _
       obtain ⟨q2,c2,rfl⟩:=own_shape hR2
       have HB6:=hid (grown_below HB5.out HB5.out.size hg2 (fun j hj=>(hr5.lt j hj).1))
       have HO6:=hid hR2
       clear hg2 hnew hR2 hr5
       go_wp2
       exact ⟨⟨j+1,q2,m+nu,c2,by omega,by go_num,rfl,by omega,HSL.out.symm,HB6,hid (by rw [HSU.out];exact HO6.out)⟩,by simp [intOf];omega⟩
     ·obtain rfl:j=ne:=by omega
      have HTK:=hid (show L++(es.take j).flatMap usesT=UZ by rw [List.take_of_length_le (by rw [HNE.out];exact Nat.le_refl _),HLZ.out])
      have HML:=hid hml
      clear hml
      go_wp2
      go_ret
      exact ⟨_,rfl,bl_tr HW.out HBr.out,by unfold UsO;rw [←HTK.out,←HML.out];exact own_lower HOr.out HWs.out⟩
   by_cases hk4:kd=4
   ·subst hk4
    have hrow1:=HO1.out.alloc (.cells (usC (nm,5)).toArray 136)
    have hone:∀u∈usC (nm,5),u.oneCell'=true:=fun u hu=>usCs_cells [(nm,5)] u (by rw [usCs_one];exact hu)
    have hnew:=row_new wr (usC (nm,5)) 136
    have HB1:=hid (bl_al HB.out (.cells (usC (nm,5)).toArray 136))
    have HI2:=hid (HI.out.le HB.out)
    go_wp2_with (at_builtin;refine wpList_append_own_wide _ rfl _ _ 133 rfl W1.heap.size 136 i2 _ 2 24 und_uses h2 h3 h4 h5 rfl (by decide) _ k (usCs (ts.map (fun n=>(n,2)))) rfl hrow1 ⟨wr.heap.size,0,none⟩ 1 1 (usC (nm,5)) rfl rfl hnew hone (by unfold maxLen;omega) (by omega) (by simp <;> omega) ?_)
    intro v2 wrx hR2 hg2 _
    obtain ⟨qm,cm,rfl⟩:=own_shape hR2
    have HBm:=hid (grown_below HB1.out HB1.out.size hg2 (fun j hj=>(hrow1.lt j hj).1))
    have HLZ:=hid (show (ts.map (fun n=>(n,2))++[(nm,5)])++es.flatMap usesT=UZ by rw [HUZ.out];simp)
    have HOm:=hid (show wrx.ownsRow W1.heap.size 136 2 (.slice qm (k+1) cm) (k+1) (usCs (ts.map (fun n=>(n,2))++[(nm,5)])) by rw [usCs_app,usCs_one];exact hR2)
    have hmm:k+1=(ts.map (fun n=>(n,2))++[(nm,5)]).length:=by rw [List.length_append,HLT.out];rfl
    have hmx:k+1≤8796093021953:=by omega
    clear hg2 hrow1 hnew hR2 b0 b1 b3 hblt
    have b3:=(HI.out.le HBm.out).cell (j:=3) (v:=.slice qe ne ce) rfl
    have b0:=b3
    have b1:=b3
    have hblt:=(HI.out.le HBm.out).lt
    go_wp2_with fail
    generalize ts.map (fun n=>(n,2))++[(nm,5)]=L at *
    generalize k+1=mm at *
    have HMM:=hid hmm
    generalize wrx=V at *
    clear b0 b1 b3 hblt hmm
    go_loopw [3,50] (fun v i wr=>∃j:Nat,∃q:Option Addr,∃m c:Nat,j≤ne∧i=.int .i64 j∧v=.slice q m c∧m≤mm+j*48∧m=(L++(es.take j).flatMap usesT).length∧Hid (Below W1.heap.size W1 wr)∧Hid (wr.ownsRow W1.heap.size 136 2 (.slice q m c) m (usCs (L++(es.take j).flatMap usesT)))) (fun _ i _=>ne - (intOf i).toNat)
    case atStart=>exact ⟨0,qm,mm,cm,Nat.zero_le _,rfl,rfl,by omega,by rw [List.take_zero];simpa using HMM.out,HBm,hid (by rw [List.take_zero];simpa using HOm.out)⟩
    case round =>
     obtain ⟨j,q,m,c,hj,rfl,rfl,hm,hml,HBr,HOr⟩:=hrel
     have hsz:=HBr.out.size
     by_cases hjn:j<ne
     ·have hj1:j<es.length:=by rw [HNE.out];exact hjn
      obtain ⟨g,o,qx,cx,rfl,a0,hx⟩:=HAE.out j hj1
      have e0:=below_cle (bl_tr HW.out HBr.out) _ _ (HCC.out _ _ a0)
      unfold wC at e0
      have HX:=hid (fun (w:World) (hw:Below W.heap.size W w)=>usesIn_p (W:=w) (c:=cx) es[j] (by have:=HES.out _ (List.getElem_mem hj1);omega) hx.cells (HCC.out.trans (below_cle hw)))
      have HTK:=hid (show L++(es.take (j+1)).flatMap usesT=(L++(es.take j).flatMap usesT)++usesT es[j] by
       rw [List.take_succ_eq_append_getElem hj1,List.flatMap_append,List.append_assoc];simp)
      have HLN:=hid (show (usesT es[j]).length≤48 from Nat.le_trans (usesT_len _) (HES.out _ (List.getElem_mem hj1)))
      have HML:=hid hml
      clear a0 hx hml
      generalize es[j]=ex at *
      clear hj1
      have hji:(j:Int)<(ne:Int):=by omega
      generalize ex.length=nx at *
      go_wp2_with fail
      go_at_call 135
      refine (HX.out _ (bl_tr HW.out HBr.out)).mono ?_
      rintro e w5 ⟨v5,rfl,hb5,ho5⟩
      have HB5:=hid (bl_tr HBr.out hb5)
      have hr5:=own_bel HOr.out hb5
      unfold UsO at ho5
      obtain ⟨q5,c5,rfl⟩:=own_shape ho5
      have HSU:=hid (show usCs (L++(es.take (j+1)).flatMap usesT)=usCs (L++(es.take j).flatMap usesT)++usCs (usesT ex) by rw [HTK.out,usCs_app])
      have HSL:=hid (show (L++(es.take (j+1)).flatMap usesT).length=m+(usesT ex).length by rw [HTK.out,List.length_append,←HML.out])
      have hln:=HLN.out
      have hcl5:(usCs (usesT ex)).length=(usesT ex).length*2:=usCs_len _
      have hone:∀u∈usCs (usesT ex),u.oneCell'=true:=usCs_cells _
      have hsz5:=HB5.out.size
      rcases own_rd ho5 with ⟨rfl,hn5,rfl,hx5⟩|⟨g5,rfl,hc5⟩
      ·have HN5:=hid hn5
       have HX5:=hid hx5
       rw [hn5]
       clear hx5 ho5 hb5 hln hcl5 hone hn5
       go_wp2_with (at_builtin;refine wpList_append_own_none rfl _ _ 133 rfl W1.heap.size 136 i2 2 und_uses h2 _ m (usCs (L++(es.take j).flatMap usesT)) rfl hr5 rfl ?_)
       have HR5:=hid hr5
       clear hr5
       go_wp2
       exact ⟨⟨j+1,q,m,c,by omega,by go_num,rfl,by omega,by rw [HSL.out,HN5.out,Nat.add_zero],HB5,hid (by rw [HSU.out,HX5.out,List.append_nil];exact HR5.out)⟩,by simp [intOf];omega⟩
      ·have hnew:∀(j:Nat) (u:Value),(usCs (usesT ex))[j]?=some u→w5.cell? ((⟨g5,0,none⟩:Addr).add j)=some u:=fun j u hu=>by
        rw [show ((⟨g5,0,none⟩:Addr).add j)=⟨g5,j,none⟩ from by simp [Addr.add];intro h;exact h.symm]
        exact hc5 j u hu
       clear ho5 hb5 hc5
       generalize hU:usesT ex=U at *
       generalize U.length=nu at *
       go_wp2_with (at_builtin;refine wpList_append_own_wide _ rfl _ _ 133 rfl W1.heap.size 136 i2 _ 2 24 und_uses h2 h3 h4 h5 rfl (by decide) _ m (usCs (L++(es.take j).flatMap usesT)) rfl hr5 ⟨g5,0,none⟩ nu c5 (usCs U) rfl hcl5 hnew hone (by unfold maxLen;omega) (by omega) (by omega) ?_)
       intro v2 w2 hR2 hg2 _
       obtain ⟨q2,c2,rfl⟩:=own_shape hR2
       have HB6:=hid (grown_below HB5.out HB5.out.size hg2 (fun j hj=>(hr5.lt j hj).1))
       have HO6:=hid hR2
       clear hg2 hnew hR2 hr5
       go_wp2
       exact ⟨⟨j+1,q2,m+nu,c2,by omega,by go_num,rfl,by omega,HSL.out.symm,HB6,hid (by rw [HSU.out];exact HO6.out)⟩,by simp [intOf];omega⟩
     ·obtain rfl:j=ne:=by omega
      have HTK:=hid (show L++(es.take j).flatMap usesT=UZ by rw [List.take_of_length_le (by rw [HNE.out];exact Nat.le_refl _),HLZ.out])
      have HML:=hid hml
      clear hml
      go_wp2
      go_ret
      exact ⟨_,rfl,bl_tr HW.out HBr.out,by unfold UsO;rw [←HTK.out,←HML.out];exact own_lower HOr.out HWs.out⟩
   have HL0:=hid (show ts.map (fun n=>(n,2))++es.flatMap usesT=UZ by rw [HUZ.out,if_neg hk2,if_neg hk3,if_neg hk4,List.nil_append])
   have e2:(kd == 2)=false:=by rw [beq_eq_false_iff_ne];exact hk2
   have e3:(kd == 3)=false:=by rw [beq_eq_false_iff_ne];exact hk3
   have e4:(kd == 4)=false:=by rw [beq_eq_false_iff_ne];exact hk4
   clear hk2 hk3 hk4
   go_wp2_with fail
   have HLZ:=HL0
   have HOm:=HO1
   have HBm:=HB
   have hmm:k=(ts.map (fun n=>(n,2)):List (ByteArray × Nat)).length:=HLT.out.symm
   have hmx:k≤8796093021953:=by omega
   clear HLT HO HTK
   generalize (ts.map (fun n=>(n,2)):List (ByteArray × Nat))=L at *
   generalize k=mm at *
   generalize qv=qm at *
   generalize cv=cm at *
   have HMM:=hid hmm
   generalize wr=V at *
   clear b0 b1 b3 hblt hmm
   go_loopw [3,50] (fun v i wr=>∃j:Nat,∃q:Option Addr,∃m c:Nat,j≤ne∧i=.int .i64 j∧v=.slice q m c∧m≤mm+j*48∧m=(L++(es.take j).flatMap usesT).length∧Hid (Below W1.heap.size W1 wr)∧Hid (wr.ownsRow W1.heap.size 136 2 (.slice q m c) m (usCs (L++(es.take j).flatMap usesT)))) (fun _ i _=>ne - (intOf i).toNat)
   case atStart=>exact ⟨0,qm,mm,cm,Nat.zero_le _,rfl,rfl,by omega,by rw [List.take_zero];simpa using HMM.out,HBm,hid (by rw [List.take_zero];simpa using HOm.out)⟩
   case round =>
    obtain ⟨j,q,m,c,hj,rfl,rfl,hm,hml,HBr,HOr⟩:=hrel
    have hsz:=HBr.out.size
    by_cases hjn:j<ne
    ·have hj1:j<es.length:=by rw [HNE.out];exact hjn
     obtain ⟨g,o,qx,cx,rfl,a0,hx⟩:=HAE.out j hj1
     have e0:=below_cle (bl_tr HW.out HBr.out) _ _ (HCC.out _ _ a0)
     unfold wC at e0
     have HX:=hid (fun (w:World) (hw:Below W.heap.size W w)=>usesIn_p (W:=w) (c:=cx) es[j] (by have:=HES.out _ (List.getElem_mem hj1);omega) hx.cells (HCC.out.trans (below_cle hw)))
     have HTK:=hid (show L++(es.take (j+1)).flatMap usesT=(L++(es.take j).flatMap usesT)++usesT es[j] by
      rw [List.take_succ_eq_append_getElem hj1,List.flatMap_append,List.append_assoc];simp)
     have HLN:=hid (show (usesT es[j]).length≤48 from Nat.le_trans (usesT_len _) (HES.out _ (List.getElem_mem hj1)))
     have HML:=hid hml
     clear a0 hx hml
     generalize es[j]=ex at *
     clear hj1
     have hji:(j:Int)<(ne:Int):=by omega
     generalize ex.length=nx at *
     go_wp2_with fail
     go_at_call 135
     refine (HX.out _ (bl_tr HW.out HBr.out)).mono ?_
     rintro e w5 ⟨v5,rfl,hb5,ho5⟩
     have HB5:=hid (bl_tr HBr.out hb5)
     have hr5:=own_bel HOr.out hb5
     unfold UsO at ho5
     obtain ⟨q5,c5,rfl⟩:=own_shape ho5
     have HSU:=hid (show usCs (L++(es.take (j+1)).flatMap usesT)=usCs (L++(es.take j).flatMap usesT)++usCs (usesT ex) by rw [HTK.out,usCs_app])
     have HSL:=hid (show (L++(es.take (j+1)).flatMap usesT).length=m+(usesT ex).length by rw [HTK.out,List.length_append,←HML.out])
     have hln:=HLN.out
     have hcl5:(usCs (usesT ex)).length=(usesT ex).length*2:=usCs_len _
     have hone:∀u∈usCs (usesT ex),u.oneCell'=true:=usCs_cells _
     have hsz5:=HB5.out.size
     rcases own_rd ho5 with ⟨rfl,hn5,rfl,hx5⟩|⟨g5,rfl,hc5⟩
     ·have HN5:=hid hn5
      have HX5:=hid hx5
      rw [hn5]
      clear hx5 ho5 hb5 hln hcl5 hone hn5
      go_wp2_with (at_builtin;refine wpList_append_own_none rfl _ _ 133 rfl W1.heap.size 136 i2 2 und_uses h2 _ m (usCs (L++(es.take j).flatMap usesT)) rfl hr5 rfl ?_)
      have HR5:=hid hr5
      clear hr5
      go_wp2
      exact ⟨⟨j+1,q,m,c,by omega,by go_num,rfl,by omega,by rw [HSL.out,HN5.out,Nat.add_zero],HB5,hid (by rw [HSU.out,HX5.out,List.append_nil];exact HR5.out)⟩,by simp [intOf];omega⟩
     ·have hnew:∀(j:Nat) (u:Value),(usCs (usesT ex))[j]?=some u→w5.cell? ((⟨g5,0,none⟩:Addr).add j)=some u:=fun j u hu=>by
       rw [show ((⟨g5,0,none⟩:Addr).add j)=⟨g5,j,none⟩ from by simp [Addr.add];intro h;exact h.symm]
       exact hc5 j u hu
      clear ho5 hb5 hc5
      generalize hU:usesT ex=U at *
      generalize U.length=nu at *
      go_wp2_with (at_builtin;refine wpList_append_own_wide _ rfl _ _ 133 rfl W1.heap.size 136 i2 _ 2 24 und_uses h2 h3 h4 h5 rfl (by decide) _ m (usCs (L++(es.take j).flatMap usesT)) rfl hr5 ⟨g5,0,none⟩ nu c5 (usCs U) rfl hcl5 hnew hone (by unfold maxLen;omega) (by omega) (by omega) ?_)
      intro v2 w2 hR2 hg2 _
      obtain ⟨q2,c2,rfl⟩:=own_shape hR2
      have HB6:=hid (grown_below HB5.out HB5.out.size hg2 (fun j hj=>(hr5.lt j hj).1))
      have HO6:=hid hR2
      clear hg2 hnew hR2 hr5
      go_wp2
      exact ⟨⟨j+1,q2,m+nu,c2,by omega,by go_num,rfl,by omega,HSL.out.symm,HB6,hid (by rw [HSU.out];exact HO6.out)⟩,by simp [intOf];omega⟩
    ·obtain rfl:j=ne:=by omega
     have HTK:=hid (show L++(es.take j).flatMap usesT=UZ by rw [List.take_of_length_le (by rw [HNE.out];exact Nat.le_refl _),HLZ.out])
     have HML:=hid hml
     clear hml
     go_wp2
     go_ret
     exact ⟨_,rfl,bl_tr HW.out HBr.out,by unfold UsO;rw [←HTK.out,←HML.out];exact own_lower HOr.out HWs.out⟩
end
end Go.Proofs.YtlpdjfimefjmcaaGreatDoor
