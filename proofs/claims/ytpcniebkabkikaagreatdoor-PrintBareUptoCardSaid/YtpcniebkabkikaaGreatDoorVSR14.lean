/- Two lists are compared: slices.Equal and the kit. (Written by a program.) slices.EqualFunc at one type, over whatever compares two items. (Written by a program.) sameStmt of package print. Two lists are compared: slices.Equal and the kit. (Written by a program.) Two lists are compared: slices.Equal and the kit. (Written by a program.) slices.EqualFunc at one type, over whatever compares two items. -/
import Derived.Test.YtpcniebkabkikaaGreatDoorVSR13
import Derived.Test.YtpcniebkabkikaaGreatDoorVSR5
import Derived.Deep.RegionHeldLaw
import Derived.Deep.RegionLaw
namespace Go.Proofs.YtpcniebkabkikaaGreatDoor
open Go Go.RowKit Go.Proofs.Mm
section
variable {C D:Cl} {w:World} {q q':Option Addr}
set_option maxRecDepth 100000 in
set_option maxHeartbeats 2000000 in
theorem eqTm {l l':List TmZ} {c c':Nat} (hl:l.length≤9223372036854775807) (hl':l'.length≤9223372036854775807) (ha:TmRow C q l) (hb:TmRow D q' l') (hC:CLe C (wC w)) (hD:CLe D (wC w)):Calls Tryz.prog 168 #[.slice q l.length c,.slice q' l'.length c'] w (Says (l=l') w):=by
  obtain ⟨n,hnn⟩:∃ n,l.length=n:=⟨_,rfl⟩
  obtain ⟨n',hnn'⟩:∃ n,l'.length=n:=⟨_,rfl⟩
  have HA:=Lib.hid ha
  have HB:=Lib.hid hb
  have HCC:=Lib.hid hC
  have HDD:=Lib.hid hD
  have HN:=Lib.hid hnn
  have HN':=Lib.hid hnn'
  rw [hnn] at hl ⊢
  rw [hnn'] at hl' ⊢
  clear ha hb hnn hnn' hC hD
  by_cases hnm:n=n'
  · subst hnm
    have hneq:((n:Int) != (n:Int))=false:=by simp
    go_enter Tryz.func168,Tryz.ntmps168
    go_wp2
    go_loopw [13] (fun i wr=>∃ k nq:Nat,k≤n∧i=.int .i64 k∧wr=w.drewN nq∧Hid (l.take k=l'.take k)) (fun i _=>n - (intOf i).toNat)
    case atStart=>exact ⟨0,0,Nat.zero_le _,rfl,rfl,Lib.hid rfl⟩
    case round =>
      obtain ⟨k,nq,hk,rfl,rfl,hT⟩:=hrel
      by_cases hlt:k<n
      · have hk1:k<l.length:=by rw [HN.out];exact hlt
        have hk2:k<l'.length:=by rw [HN'.out];exact hlt
        obtain ⟨g,o,rfl,a0,a1,a2⟩:=HA.out k hk1
        obtain ⟨g',o',rfl,b0,b1,b2⟩:=HB.out k hk2
        have x0:w.cell? ⟨g,o+k * 3,none⟩=some (.int .i64 l[k].kind):=HCC.out _ _ a0
        have y0:w.cell? ⟨g',o'+k * 3,none⟩=some (.int .i64 l'[k].kind):=HDD.out _ _ b0
        have x1:w.cell? ⟨g,o+k * 3+1,none⟩=some (.int .i64 l[k].value):=HCC.out _ _ a1
        have y1:w.cell? ⟨g',o'+k * 3+1,none⟩=some (.int .i64 l'[k].value):=HDD.out _ _ b1
        have x2:w.cell? ⟨g,o+k * 3+2,none⟩=some (.string l[k].name):=HCC.out _ _ a2
        have y2:w.cell? ⟨g',o'+k * 3+2,none⟩=some (.string l'[k].name):=HDD.out _ _ b2
        clear a0 a1 a2 b0 b1 b2
        have hki:(k:Int)<(n:Int):=by omega
        by_cases heq:l[k]=l'[k]
        · have HT2:=Lib.hid (take_next hk1 hk2 hT.out heq)
          rw [← heq] at y0 y1 y2
          generalize l[k].kind=z0 at *
          have e0a:((z0:Int) == (z0:Int))=true:=by simp
          generalize l[k].value=z1 at *
          have e1a:((z1:Int) == (z1:Int))=true:=by simp
          generalize l[k].name=z2 at *
          have e2a:(z2.toList == z2.toList)=true:=by simp
          clear heq
          go_wp2
          go_quiet (fail)
          go_wp2
          exact ⟨⟨k+1,_,by omega,by go_num,rfl,HT2⟩,by simp [intOf];omega⟩
        · have HNE:=Lib.hid (ne_at hk1 hk2 heq)
          obtain ⟨b0,e0⟩:∃ b,(l[k].kind == l'[k].kind)=b:=⟨_,rfl⟩
          obtain ⟨b1,e1⟩:∃ b,(l[k].value == l'[k].value)=b:=⟨_,rfl⟩
          obtain ⟨b2,e2⟩:∃ b,(l[k].name.toList == l'[k].name.toList)=b:=⟨_,rfl⟩
          have HB3:=Lib.hid (show ¬ (b0=true∧b1=true∧b2=true) from fun ⟨c0,c1,c2⟩=>heq (by
            subst c0 c1 c2
            have d0:=beq_iff_eq.1 e0
            have d1:=beq_iff_eq.1 e1
            have d2:=nm_eq.1 e2
            generalize l[k]=x at d0 d1 d2 ⊢
            generalize l'[k]=y at d0 d1 d2 ⊢
            cases x;cases y;simp_all))
          clear heq
          generalize l[k].kind=z0 at *
          generalize l'[k].kind=z0' at *
          generalize l[k].value=z1 at *
          generalize l'[k].value=z1' at *
          generalize l[k].name=z2 at *
          generalize l'[k].name=z2' at *
          cases b0 <;> cases b1 <;> cases b2
          all_goals first
            | exact absurd ⟨rfl,rfl,rfl⟩ HB3.out
            | (go_wp2
               go_quiet (fail)
               go_wp2
               go_ret
               exact says_no2 HNE.out)
      · obtain rfl:k=n:=by omega
        have HT2:=Lib.hid (take_all HN.out HN'.out hT.out)
        go_wp2
        go_ret
        exact says_yes HT2.out
  · have HNE:=Lib.hid (show ¬ l=l' from fun e=>hnm (by rw [← HN.out,← HN'.out,e]))
    have hneq:((n:Int) != (n':Int))=true:=by simp;omega
    go_enter Tryz.func168,Tryz.ntmps168
    go_wp2
    go_ret
    exact says_no (k:=0) HNE.out
set_option maxRecDepth 100000 in
set_option maxHeartbeats 2000000 in
theorem kitTm {l l':List TmZ} {c c':Nat} (hl:l.length≤9223372036854775807) (hl':l'.length≤9223372036854775807) (ha:TmRow C q l) (hb:TmRow D q' l') (hC:CLe C (wC w)) (hD:CLe D (wC w)):Calls Tryz.prog 28 #[.slice q l.length c,.slice q' l'.length c'] w (Says (l=l') w):=by
  obtain ⟨n,hnn⟩:∃ n,l.length=n:=⟨_,rfl⟩
  obtain ⟨n',hnn'⟩:∃ n,l'.length=n:=⟨_,rfl⟩
  have HA:=Lib.hid ha
  have HB:=Lib.hid hb
  have HCC:=Lib.hid hC
  have HDD:=Lib.hid hD
  have HN:=Lib.hid hnn
  have HN':=Lib.hid hnn'
  rw [hnn] at hl ⊢
  rw [hnn'] at hl' ⊢
  clear ha hb hnn hnn' hC hD
  by_cases hnm:n=n'
  · subst hnm
    have hneq:((n:Int) != (n:Int))=false:=by simp
    go_enter Tryz.func28,Tryz.ntmps28
    go_wp2
    go_loopw [5] (fun i wr=>∃ k nq:Nat,k≤n∧i=.int .i64 k∧wr=w.drewN nq∧Hid (l.take k=l'.take k)) (fun i _=>n - (intOf i).toNat)
    case atStart=>exact ⟨0,0,Nat.zero_le _,rfl,rfl,Lib.hid rfl⟩
    case round =>
      obtain ⟨k,nq,hk,rfl,rfl,hT⟩:=hrel
      by_cases hlt:k<n
      · have hk1:k<l.length:=by rw [HN.out];exact hlt
        have hk2:k<l'.length:=by rw [HN'.out];exact hlt
        obtain ⟨g,o,rfl,a0,a1,a2⟩:=HA.out k hk1
        obtain ⟨g',o',rfl,b0,b1,b2⟩:=HB.out k hk2
        have x0:w.cell? ⟨g,o+k * 3,none⟩=some (.int .i64 l[k].kind):=HCC.out _ _ a0
        have y0:w.cell? ⟨g',o'+k * 3,none⟩=some (.int .i64 l'[k].kind):=HDD.out _ _ b0
        have x1:w.cell? ⟨g,o+k * 3+1,none⟩=some (.int .i64 l[k].value):=HCC.out _ _ a1
        have y1:w.cell? ⟨g',o'+k * 3+1,none⟩=some (.int .i64 l'[k].value):=HDD.out _ _ b1
        have x2:w.cell? ⟨g,o+k * 3+2,none⟩=some (.string l[k].name):=HCC.out _ _ a2
        have y2:w.cell? ⟨g',o'+k * 3+2,none⟩=some (.string l'[k].name):=HDD.out _ _ b2
        clear a0 a1 a2 b0 b1 b2
        have hki:(k:Int)<(n:Int):=by omega
        by_cases heq:l[k]=l'[k]
        · have HT2:=Lib.hid (take_next hk1 hk2 hT.out heq)
          rw [← heq] at y0 y1 y2
          generalize l[k].kind=z0 at *
          have e0a:((z0:Int) == (z0:Int))=true:=by simp
          generalize l[k].value=z1 at *
          have e1a:((z1:Int) == (z1:Int))=true:=by simp
          generalize l[k].name=z2 at *
          have e2a:(z2.toList == z2.toList)=true:=by simp
          clear heq
          go_wp2
          go_quiet (fail)
          go_wp2
          exact ⟨⟨k+1,_,by omega,by go_num,rfl,HT2⟩,by simp [intOf];omega⟩
        · have HNE:=Lib.hid (ne_at hk1 hk2 heq)
          obtain ⟨b0,e0⟩:∃ b,(l[k].kind == l'[k].kind)=b:=⟨_,rfl⟩
          obtain ⟨b1,e1⟩:∃ b,(l[k].value == l'[k].value)=b:=⟨_,rfl⟩
          obtain ⟨b2,e2⟩:∃ b,(l[k].name.toList == l'[k].name.toList)=b:=⟨_,rfl⟩
          have HB3:=Lib.hid (show ¬ (b0=true∧b1=true∧b2=true) from fun ⟨c0,c1,c2⟩=>heq (by
            subst c0 c1 c2
            have d0:=beq_iff_eq.1 e0
            have d1:=beq_iff_eq.1 e1
            have d2:=nm_eq.1 e2
            generalize l[k]=x at d0 d1 d2 ⊢
            generalize l'[k]=y at d0 d1 d2 ⊢
            cases x;cases y;simp_all))
          clear heq
          generalize l[k].kind=z0 at *
          generalize l'[k].kind=z0' at *
          generalize l[k].value=z1 at *
          generalize l'[k].value=z1' at *
          generalize l[k].name=z2 at *
          generalize l'[k].name=z2' at *
          cases b0 <;> cases b1 <;> cases b2
          all_goals first
            | exact absurd ⟨rfl,rfl,rfl⟩ HB3.out
            | (go_wp2
               go_quiet (fail)
               go_wp2
               go_ret
               exact says_no2 HNE.out)
      · obtain rfl:k=n:=by omega
        have HT2:=Lib.hid (take_all HN.out HN'.out hT.out)
        go_wp2
        go_ret
        exact says_yes HT2.out
  · have HNE:=Lib.hid (show ¬ l=l' from fun e=>hnm (by rw [← HN.out,← HN'.out,e]))
    have hneq:((n:Int) != (n':Int))=true:=by simp;omega
    go_enter Tryz.func28,Tryz.ntmps28
    go_wp2
    go_ret
    exact says_no (k:=0) HNE.out
end
end Go.Proofs.YtpcniebkabkikaaGreatDoor
namespace Go.Proofs.YtpcniebkabkikaaGreatDoor
open Go Go.RowKit Go.Proofs.Mm
section
variable {C D:Cl} {W:World} {q q':Option Addr}
set_option maxRecDepth 100000 in
set_option maxHeartbeats 2000000 in
theorem efEx_p {α:Type} {l l':List α} {lv lv':List Value} {c c':Nat} (h1:lv.length=l.length) (h2:lv'.length=l'.length) (hl:l.length≤9223372036854775807) (hl':l'.length≤9223372036854775807)
    (hrow:∀ j (hj:j<lv.length),∃ g o,q=some ⟨g,o,none⟩∧C ⟨g,o+j,none⟩=some (lv[j]))
    (hrow':∀ j (hj:j<lv'.length),∃ g o,q'=some ⟨g,o,none⟩∧D ⟨g,o+j,none⟩=some (lv'[j]))
    (hC:CLe C (wC W)) (hD:CLe D (wC W)) {Ke:Nat} (ek:∀ args w,(callFunc Ke args).run Tryz.prog w=.ok (.enter Ke args) w)
    (heq:∀ j (_:j<lv.length) (_:j<lv'.length) (_:j<l.length) (_:j<l'.length) W',Below W.heap.size W W'→Calls Tryz.prog Ke #[lv[j],lv'[j]] W' (SaysB (l[j]=l'[j]) W')) :
    Calls Tryz.prog 167 #[.slice q l.length c,.slice q' l'.length c',.func (.func Ke) #[] #[]] W (SaysB (l=l') W):=by
  obtain ⟨n,hnn⟩:∃ n,l.length=n:=⟨_,rfl⟩
  obtain ⟨n',hnn'⟩:∃ n,l'.length=n:=⟨_,rfl⟩
  have HA:=Lib.hid hrow
  have HB:=Lib.hid hrow'
  have HCC:=Lib.hid hC
  have HDD:=Lib.hid hD
  have HN:=Lib.hid hnn
  have HN':=Lib.hid hnn'
  have H1:=Lib.hid h1
  have H2:=Lib.hid h2
  have HEQ:=Lib.hid heq
  rw [hnn] at hl ⊢
  rw [hnn'] at hl' ⊢
  clear hrow hrow' hnn hnn' hC hD h1 h2 heq
  by_cases hnm:n=n'
  · subst hnm
    have hneq:((n:Int) != (n:Int))=false:=by simp
    go_enter Tryz.func167,Tryz.ntmps167
    go_wp2
    go_loopw [17] (fun i wr=>∃ k:Nat,k≤n∧i=.int .i64 k∧Hid (Below W.heap.size W wr)∧Hid (l.take k=l'.take k)) (fun i _=>n - (intOf i).toNat)
    case atStart=>exact ⟨0,Nat.zero_le _,rfl,Lib.hid (Below.refl _ _),Lib.hid rfl⟩
    case round =>
      obtain ⟨k,hk,rfl,HBW,hT⟩:=hrel
      by_cases hlt:k<n
      · have hk1:k<l.length:=by rw [HN.out];exact hlt
        have hk2:k<l'.length:=by rw [HN'.out];exact hlt
        have hk3:k<lv.length:=by rw [H1.out];exact hk1
        have hk4:k<lv'.length:=by rw [H2.out];exact hk2
        obtain ⟨x,hx,g,o,rfl,a0⟩:∃ x,lv[k]=x∧∃ g o,q=some ⟨g,o,none⟩∧C ⟨g,o+k,none⟩=some (x):=⟨_,rfl,HA.out k hk3⟩
        obtain ⟨y,hy,g',o',rfl,b0⟩:∃ y,lv'[k]=y∧∃ g o,q'=some ⟨g,o,none⟩∧D ⟨g,o+k,none⟩=some (y):=⟨_,rfl,HB.out k hk4⟩
        have e0:wr.cell? ⟨g,o+k,none⟩=some (x):=below_cle HBW.out _ _ (HCC.out _ _ a0)
        have f0:wr.cell? ⟨g',o'+k,none⟩=some (y):=below_cle HBW.out _ _ (HDD.out _ _ b0)
        clear a0 b0
        have hki:(k:Int)<(n:Int):=by omega
        have HB2:=Lib.hid HBW.out
        have HCALL:=Lib.hid (HEQ.out k hk3 hk4 hk1 hk2 _ HB2.out)
        rw [hx,hy] at HCALL
        have HK:=Lib.hid (And.intro hk1 hk2)
        clear hx hy
        go_wp2_with fail
        refine HCALL.out.mono ?_
        rintro e w2 ⟨bb,rfl,hbb,hbel⟩
        have HB3:=Lib.hid (show Below W.heap.size W w2 from HB2.out.trans (hbel.mono HB2.out.size))
        clear hbel HCALL
        cases bb
        · have HNE:=Lib.hid (ne_at HK.out.1 HK.out.2 (fun e=>by have:=hbb.2 e;exact absurd this (by decide)))
          clear hbb
          go_wp2_with fail
          go_ret
          exact ⟨false,rfl,by have:=HNE.out;simp [this],HB3.out⟩
        · have HT2:=Lib.hid (take_next HK.out.1 HK.out.2 hT.out (hbb.1 rfl))
          clear hbb
          go_wp2_with fail
          exact ⟨⟨k+1,by omega,by go_num,HB3,HT2⟩,by simp [intOf];omega⟩
      · obtain rfl:k=n:=by omega
        have HT2:=Lib.hid (take_all HN.out HN'.out hT.out)
        go_wp2
        go_ret
        exact ⟨true,rfl,by have:=HT2.out;simp [this],HBW.out⟩
  · have HNE:=Lib.hid (show ¬ l=l' from fun e=>hnm (by rw [← HN.out,← HN'.out,e]))
    have hneq:((n:Int) != (n':Int))=true:=by simp;omega
    go_enter Tryz.func167,Tryz.ntmps167
    go_wp2
    go_ret
    exact ⟨false,rfl,by have:=HNE.out;simp [this],Below.refl _ _⟩
end
end Go.Proofs.YtpcniebkabkikaaGreatDoor
namespace Go.Proofs.YtpcniebkabkikaaGreatDoor
open Go Go.RowKit Go.Proofs.Mm
structure SRd (C:Cl) (s:StZ) (q1 q2:Option Addr) (vs:List Value):Prop where
  tg:StrRow C q1 s.targets
  ex:ExRow C q2 s.exprs vs
  n1:s.targets.length≤9223372036854775807
  n2:s.exprs.length≤9223372036854775807
  n3:∀ e ∈ s.exprs,e.length≤9223372036854775807
theorem SR.rd2 {C:Cl} {s:StZ} {q1 q2:Option Addr} (h:SR C s q1 q2):∃ vs,SRd C s q1 q2 vs:=by
  obtain ⟨vs,hv⟩:=h.ex
  exact ⟨vs,h.tg,hv,h.f.2.2.2.1,h.f.2.2.2.2,fun e he=>by have:=(h.f.2.2.1 e he).1;omega⟩
section
variable {C D:Cl} {W:World} {q1 q2 r1 r2:Option Addr}
theorem exprs_eq {l l':List (List TmZ)} {vs vs':List Value} {c c':Nat} (hl:l.length≤9223372036854775807) (hl':l'.length≤9223372036854775807) (n3:∀ e ∈ l,e.length≤9223372036854775807) (n3':∀ e ∈ l',e.length≤9223372036854775807) (ha:ExRow C q1 l vs) (hb:ExRow D q2 l' vs') (hC:CLe C (wC W)) (hD:CLe D (wC W)) :
    Calls Tryz.prog 167 #[.slice q1 l.length c,.slice q2 l'.length c',.func (.func 168) #[] #[]] W (SaysB (l=l') W) :=
  efEx_p (lv:=vs) (lv':=vs') ha.len hb.len hl hl' ha.cells hb.cells hC hD (enters_of Tryz.func168 (by kernel_rfl) rfl) (fun j h1 h2 h3 h4 W' hw=>by
    obtain ⟨qe,ce,e1,hr,_⟩:=ha.each j h1 h3
    obtain ⟨qe',ce',e2,hr',_⟩:=hb.each j h2 h4
    rw [e1,e2]
    exact (eqTm (n3 _ (List.getElem_mem h3)) (n3' _ (List.getElem_mem h4)) hr hr' (hC.trans (below_cle hw)) (hD.trans (below_cle hw))).mono fun _ _ h=>h.b)
theorem stz_ext {a b:StZ} (h1:a.kind=b.kind) (h2:a.name=b.name) (h3:a.targets=b.targets) (h4:a.exprs=b.exprs):a=b:=by
  cases a;cases b;simp_all
set_option maxRecDepth 100000 in
set_option maxHeartbeats 4000000 in
theorem sameStmt_p (s t:StZ) {vs vt:List Value} {c1 c2 d1 d2:Nat} (hs:SRd C s q1 q2 vs) (ht:SRd D t r1 r2 vt) (hC:CLe C (wC W)) (hD:CLe D (wC W)) :
    Calls Tryz.prog 121 #[sv s q1 c1 q2 c2,sv t r1 d1 r2 d2] W (SaysB (s=t) W):=by
  have HB:=Lib.hid (show Below W.heap.size W ((W.alloc (so s q1 c1 q2 c2)).alloc (so t r1 d1 r2 d2)) from ((Below.refl _ _).alloc (Nat.le_refl _) _).alloc (by rw [World.size_alloc];omega) _)
  have HX:=Lib.hid (heap_new (W.alloc (so s q1 c1 q2 c2)) (so t r1 d1 r2 d2) (World.alloc_heap_new W (so s q1 c1 q2 c2)))
  have hy:=World.alloc_heap_new (W.alloc (so s q1 c1 q2 c2)) (so t r1 d1 r2 d2)
  rw [World.size_alloc] at hy
  have HY:=Lib.hid hy
  have HS:=Lib.hid (fun w (h:Below W.heap.size W w)=>(eqStr (c:=c1) (c':=d1) hs.n1 ht.n1 hs.tg ht.tg (hC.trans (below_cle h)) (hD.trans (below_cle h))).mono fun _ _ h=>h.b)
  have HE:=Lib.hid (fun w (h:Below W.heap.size W w)=>exprs_eq (c:=c2) (c':=d2) hs.n2 ht.n2 hs.n3 ht.n3 hs.ex ht.ex (hC.trans (below_cle h)) (hD.trans (below_cle h)))
  have HEXT:=Lib.hid (show (s.kind=t.kind∧s.name=t.name∧s.targets=t.targets∧s.exprs=t.exprs) ↔ s=t from ⟨fun ⟨a,b,c,d⟩=>stz_ext a b c d,fun h=>by subst h;exact ⟨rfl,rfl,rfl,rfl⟩⟩)
  unfold sv
  unfold so at HB HX HY
  clear hs ht hC hD hy
  obtain ⟨b1,e1⟩:∃ b,(s.kind == t.kind)=b:=⟨_,rfl⟩
  obtain ⟨b2,e2⟩:∃ b,(s.name.toList == t.name.toList)=b:=⟨_,rfl⟩
  have HE1:=Lib.hid (show b1=true ↔ s.kind=t.kind from by rw [← e1];exact beq_iff_eq)
  have HE2:=Lib.hid (show b2=true ↔ s.name=t.name from by rw [← e2];exact nm_eq)
  cases b1
  · go_enter Tryz.func121,Tryz.ntmps121
    obtain ⟨x0,x1,x2,x3⟩:=so_cells (HX.out)
    obtain ⟨y0,y1,y2,y3⟩:=so_cells (HY.out)
    go_wp2_with fail
    go_ret
    exact ⟨false,rfl,by rw [← HEXT.out];exact ⟨fun h=>(by cases h),fun h=>HE1.out.2 h.1⟩,HB.out⟩
  · skip
    cases b2
    · go_enter Tryz.func121,Tryz.ntmps121
      obtain ⟨x0,x1,x2,x3⟩:=so_cells (HX.out)
      obtain ⟨y0,y1,y2,y3⟩:=so_cells (HY.out)
      go_wp2_with fail
      go_ret
      exact ⟨false,rfl,by rw [← HEXT.out];exact ⟨fun h=>(by cases h),fun h=>HE2.out.2 h.2.1⟩,HB.out⟩
    · skip
      go_enter Tryz.func121,Tryz.ntmps121
      obtain ⟨x0,x1,x2,x3⟩:=so_cells (HX.out)
      obtain ⟨y0,y1,y2,y3⟩:=so_cells (HY.out)
      have HW1:=Lib.hid (HS.out _ HB.out)
      go_wp2_with fail
      go_at_call 66
      refine HW1.out.mono ?_
      rintro e w1 ⟨p1,rfl,hp1,hbel⟩
      have HB1:=Lib.hid (on_below HB.out hbel)
      have HX1:=Lib.hid ((hbel.block _ (heap_lt HX.out)).trans HX.out)
      have HY1:=Lib.hid ((hbel.block _ (heap_lt HY.out)).trans HY.out)
      have HP1:=Lib.hid hp1
      clear hbel hp1 HW1 x0 x1 x2 x3 y0 y1 y2 y3
      obtain ⟨x0,x1,x2,x3⟩:=so_cells (HX1.out)
      obtain ⟨y0,y1,y2,y3⟩:=so_cells (HY1.out)
      cases p1
      · go_wp2_with fail
        go_ret
        exact ⟨false,rfl,by rw [← HEXT.out];exact ⟨fun h=>(by cases h),fun h=>HP1.out.2 h.2.2.1⟩,HB1.out⟩
      · skip
        have HW2:=Lib.hid (HE.out _ HB1.out)
        go_wp2_with fail
        go_at_call 167
        refine HW2.out.mono ?_
        rintro e w2 ⟨p2,rfl,hp2,hbel⟩
        have HB2:=Lib.hid (on_below HB1.out hbel)
        have HX2:=Lib.hid ((hbel.block _ (heap_lt HX1.out)).trans HX1.out)
        have HY2:=Lib.hid ((hbel.block _ (heap_lt HY1.out)).trans HY1.out)
        have HP2:=Lib.hid hp2
        clear hbel hp2 HW2 x0 x1 x2 x3 y0 y1 y2 y3
        obtain ⟨x0,x1,x2,x3⟩:=so_cells (HX2.out)
        obtain ⟨y0,y1,y2,y3⟩:=so_cells (HY2.out)
        cases p2
        · go_wp2_with fail
          go_ret
          exact ⟨false,rfl,by rw [← HEXT.out];exact ⟨fun h=>(by cases h),fun h=>HP2.out.2 h.2.2.2⟩,HB2.out⟩
        · go_wp2_with fail
          go_ret
          exact ⟨true,rfl,by rw [← HEXT.out];exact ⟨fun _=>⟨HE1.out.1 (by first | rfl | trivial),HE2.out.1 (by first | rfl | trivial),HP1.out.1 (by first | rfl | trivial),HP2.out.1 (by first | rfl | trivial)⟩,fun _=>rfl⟩,HB2.out⟩
end
end Go.Proofs.YtpcniebkabkikaaGreatDoor
namespace Go.Proofs.YtpcniebkabkikaaGreatDoor
open Go Go.RowKit Go.Proofs.Mm
section
variable {C D:Cl} {w:World} {q q':Option Addr}
set_option maxRecDepth 100000 in
set_option maxHeartbeats 2000000 in
theorem eqDe {l l':List DeZ} {c c':Nat} (hl:l.length≤9223372036854775807) (hl':l'.length≤9223372036854775807) (ha:DeRow C q l) (hb:DeRow D q' l') (hC:CLe C (wC w)) (hD:CLe D (wC w)):Calls Tryz.prog 67 #[.slice q l.length c,.slice q' l'.length c'] w (Says (l=l') w):=by
  obtain ⟨n,hnn⟩:∃ n,l.length=n:=⟨_,rfl⟩
  obtain ⟨n',hnn'⟩:∃ n,l'.length=n:=⟨_,rfl⟩
  have HA:=Lib.hid ha
  have HB:=Lib.hid hb
  have HCC:=Lib.hid hC
  have HDD:=Lib.hid hD
  have HN:=Lib.hid hnn
  have HN':=Lib.hid hnn'
  rw [hnn] at hl ⊢
  rw [hnn'] at hl' ⊢
  clear ha hb hnn hnn' hC hD
  by_cases hnm:n=n'
  · subst hnm
    have hneq:((n:Int) != (n:Int))=false:=by simp
    go_enter Tryz.func67,Tryz.ntmps67
    go_wp2
    go_loopw [13] (fun i wr=>∃ k nq:Nat,k≤n∧i=.int .i64 k∧wr=w.drewN nq∧Hid (l.take k=l'.take k)) (fun i _=>n - (intOf i).toNat)
    case atStart=>exact ⟨0,0,Nat.zero_le _,rfl,rfl,Lib.hid rfl⟩
    case round =>
      obtain ⟨k,nq,hk,rfl,rfl,hT⟩:=hrel
      by_cases hlt:k<n
      · have hk1:k<l.length:=by rw [HN.out];exact hlt
        have hk2:k<l'.length:=by rw [HN'.out];exact hlt
        obtain ⟨g,o,rfl,a0,a1⟩:=HA.out k hk1
        obtain ⟨g',o',rfl,b0,b1⟩:=HB.out k hk2
        have x0:w.cell? ⟨g,o+k * 2,none⟩=some (.string l[k].name):=HCC.out _ _ a0
        have y0:w.cell? ⟨g',o'+k * 2,none⟩=some (.string l'[k].name):=HDD.out _ _ b0
        have x1:w.cell? ⟨g,o+k * 2+1,none⟩=some (.int .u64 (l[k].label:Nat)):=HCC.out _ _ a1
        have y1:w.cell? ⟨g',o'+k * 2+1,none⟩=some (.int .u64 (l'[k].label:Nat)):=HDD.out _ _ b1
        clear a0 a1 b0 b1
        have hki:(k:Int)<(n:Int):=by omega
        by_cases heq:l[k]=l'[k]
        · have HT2:=Lib.hid (take_next hk1 hk2 hT.out heq)
          rw [← heq] at y0 y1
          generalize l[k].name=z0 at *
          have e0a:(z0.toList == z0.toList)=true:=by simp
          generalize l[k].label=z1 at *
          have e1a:(((z1:Nat):Int) == ((z1:Nat):Int))=true:=by simp
          clear heq
          go_wp2
          go_quiet (fail)
          go_wp2
          exact ⟨⟨k+1,_,by omega,by go_num,rfl,HT2⟩,by simp [intOf];omega⟩
        · have HNE:=Lib.hid (ne_at hk1 hk2 heq)
          obtain ⟨b0,e0⟩:∃ b,(l[k].name.toList == l'[k].name.toList)=b:=⟨_,rfl⟩
          obtain ⟨b1,e1⟩:∃ b,(((l[k].label:Nat):Int) == ((l'[k].label:Nat):Int))=b:=⟨_,rfl⟩
          have HB3:=Lib.hid (show ¬ (b0=true∧b1=true) from fun ⟨c0,c1⟩=>heq (by
            subst c0 c1
            have d0:=nm_eq.1 e0
            have d1:=Int.ofNat.inj (beq_iff_eq.1 e1)
            generalize l[k]=x at d0 d1 ⊢
            generalize l'[k]=y at d0 d1 ⊢
            cases x;cases y;simp_all))
          clear heq
          generalize l[k].name=z0 at *
          generalize l'[k].name=z0' at *
          generalize l[k].label=z1 at *
          generalize l'[k].label=z1' at *
          cases b0 <;> cases b1
          all_goals first
            | exact absurd ⟨rfl,rfl⟩ HB3.out
            | (go_wp2
               go_quiet (fail)
               go_wp2
               go_ret
               exact says_no2 HNE.out)
      · obtain rfl:k=n:=by omega
        have HT2:=Lib.hid (take_all HN.out HN'.out hT.out)
        go_wp2
        go_ret
        exact says_yes HT2.out
  · have HNE:=Lib.hid (show ¬ l=l' from fun e=>hnm (by rw [← HN.out,← HN'.out,e]))
    have hneq:((n:Int) != (n':Int))=true:=by simp;omega
    go_enter Tryz.func67,Tryz.ntmps67
    go_wp2
    go_ret
    exact says_no (k:=0) HNE.out
end
end Go.Proofs.YtpcniebkabkikaaGreatDoor
namespace Go.Proofs.YtpcniebkabkikaaGreatDoor
open Go Go.RowKit Go.Proofs.Mm
section
variable {C D:Cl} {w:World} {q q':Option Addr}
set_option maxRecDepth 100000 in
set_option maxHeartbeats 2000000 in
theorem eqLa {l l':List Nat} {c c':Nat} (hl:l.length≤9223372036854775807) (hl':l'.length≤9223372036854775807) (ha:LaRow C q l) (hb:LaRow D q' l') (hC:CLe C (wC w)) (hD:CLe D (wC w)):Calls Tryz.prog 119 #[.slice q l.length c,.slice q' l'.length c'] w (Says (l=l') w):=by
  obtain ⟨n,hnn⟩:∃ n,l.length=n:=⟨_,rfl⟩
  obtain ⟨n',hnn'⟩:∃ n,l'.length=n:=⟨_,rfl⟩
  have HA:=Lib.hid ha
  have HB:=Lib.hid hb
  have HCC:=Lib.hid hC
  have HDD:=Lib.hid hD
  have HN:=Lib.hid hnn
  have HN':=Lib.hid hnn'
  rw [hnn] at hl ⊢
  rw [hnn'] at hl' ⊢
  clear ha hb hnn hnn' hC hD
  by_cases hnm:n=n'
  · subst hnm
    have hneq:((n:Int) != (n:Int))=false:=by simp
    go_enter Tryz.func119,Tryz.ntmps119
    go_wp2
    go_loopw [13] (fun i wr=>∃ k nq:Nat,k≤n∧i=.int .i64 k∧wr=w.drewN nq∧Hid (l.take k=l'.take k)) (fun i _=>n - (intOf i).toNat)
    case atStart=>exact ⟨0,0,Nat.zero_le _,rfl,rfl,Lib.hid rfl⟩
    case round =>
      obtain ⟨k,nq,hk,rfl,rfl,hT⟩:=hrel
      by_cases hlt:k<n
      · have hk1:k<l.length:=by rw [HN.out];exact hlt
        have hk2:k<l'.length:=by rw [HN'.out];exact hlt
        obtain ⟨g,o,rfl,a0⟩:=HA.out k hk1
        obtain ⟨g',o',rfl,b0⟩:=HB.out k hk2
        have x0:w.cell? ⟨g,o+k,none⟩=some (.int .u64 (l[k]:Nat)):=HCC.out _ _ a0
        have y0:w.cell? ⟨g',o'+k,none⟩=some (.int .u64 (l'[k]:Nat)):=HDD.out _ _ b0
        clear a0 b0
        have hki:(k:Int)<(n:Int):=by omega
        by_cases heq:l[k]=l'[k]
        · have HT2:=Lib.hid (take_next hk1 hk2 hT.out heq)
          rw [← heq] at y0
          generalize l[k]=z0 at *
          have e0a:(((z0:Nat):Int) == ((z0:Nat):Int))=true:=by simp
          have e0b:(((z0:Nat):Int) != ((z0:Nat):Int))=false:=by simp
          clear heq
          go_wp2
          go_quiet (fail)
          go_wp2
          exact ⟨⟨k+1,_,by omega,by go_num,rfl,HT2⟩,by simp [intOf];omega⟩
        · have HNE:=Lib.hid (ne_at hk1 hk2 heq)
          have e1:(((l[k]:Nat):Int) == ((l'[k]:Nat):Int))=false:=by rw [Bool.eq_false_iff];intro h;rw [beq_iff_eq] at h;exact heq (by omega)
          clear heq
          generalize l[k]=z at *
          generalize l'[k]=z' at *
          have e2:(((z:Nat):Int) != ((z':Nat):Int))=true:=by simp only [bne,e1,Bool.not_false]
          go_wp2
          go_quiet (fail)
          go_wp2
          go_ret
          exact says_no2 HNE.out
      · obtain rfl:k=n:=by omega
        have HT2:=Lib.hid (take_all HN.out HN'.out hT.out)
        go_wp2
        go_ret
        exact says_yes HT2.out
  · have HNE:=Lib.hid (show ¬ l=l' from fun e=>hnm (by rw [← HN.out,← HN'.out,e]))
    have hneq:((n:Int) != (n':Int))=true:=by simp;omega
    go_enter Tryz.func119,Tryz.ntmps119
    go_wp2
    go_ret
    exact says_no (k:=0) HNE.out
end
end Go.Proofs.YtpcniebkabkikaaGreatDoor
namespace Go.Proofs.YtpcniebkabkikaaGreatDoor
open Go Go.RowKit Go.Proofs.Mm
section
variable {C D:Cl} {W:World} {q q':Option Addr}
set_option maxRecDepth 100000 in
set_option maxHeartbeats 2000000 in
theorem efSt_p {α:Type} {l l':List α} {lv lv':List StV} {c c':Nat} (h1:lv.length=l.length) (h2:lv'.length=l'.length) (hl:l.length≤9223372036854775807) (hl':l'.length≤9223372036854775807)
    (hrow:∀ j (hj:j<lv.length),∃ g o,q=some ⟨g,o,none⟩∧C ⟨g,o+j * 4,none⟩=some (.int .i64 lv[j].k)∧C ⟨g,o+j * 4+1,none⟩=some (.string lv[j].nm)∧C ⟨g,o+j * 4+2,none⟩=some (.slice lv[j].q1 lv[j].n1 lv[j].c1)∧C ⟨g,o+j * 4+3,none⟩=some (.slice lv[j].q2 lv[j].n2 lv[j].c2))
    (hrow':∀ j (hj:j<lv'.length),∃ g o,q'=some ⟨g,o,none⟩∧D ⟨g,o+j * 4,none⟩=some (.int .i64 lv'[j].k)∧D ⟨g,o+j * 4+1,none⟩=some (.string lv'[j].nm)∧D ⟨g,o+j * 4+2,none⟩=some (.slice lv'[j].q1 lv'[j].n1 lv'[j].c1)∧D ⟨g,o+j * 4+3,none⟩=some (.slice lv'[j].q2 lv'[j].n2 lv'[j].c2))
    (hC:CLe C (wC W)) (hD:CLe D (wC W)) {Ke:Nat} (ek:∀ args w,(callFunc Ke args).run Tryz.prog w=.ok (.enter Ke args) w)
    (heq:∀ j (_:j<lv.length) (_:j<lv'.length) (_:j<l.length) (_:j<l'.length) W',Below W.heap.size W W'→Calls Tryz.prog Ke #[.agg #[.int .i64 lv[j].k,.string lv[j].nm,.slice lv[j].q1 lv[j].n1 lv[j].c1,.slice lv[j].q2 lv[j].n2 lv[j].c2],.agg #[.int .i64 lv'[j].k,.string lv'[j].nm,.slice lv'[j].q1 lv'[j].n1 lv'[j].c1,.slice lv'[j].q2 lv'[j].n2 lv'[j].c2]] W' (SaysB (l[j]=l'[j]) W')) :
    Calls Tryz.prog 120 #[.slice q l.length c,.slice q' l'.length c',.func (.func Ke) #[] #[]] W (SaysB (l=l') W):=by
  obtain ⟨n,hnn⟩:∃ n,l.length=n:=⟨_,rfl⟩
  obtain ⟨n',hnn'⟩:∃ n,l'.length=n:=⟨_,rfl⟩
  have HA:=Lib.hid hrow
  have HB:=Lib.hid hrow'
  have HCC:=Lib.hid hC
  have HDD:=Lib.hid hD
  have HN:=Lib.hid hnn
  have HN':=Lib.hid hnn'
  have H1:=Lib.hid h1
  have H2:=Lib.hid h2
  have HEQ:=Lib.hid heq
  rw [hnn] at hl ⊢
  rw [hnn'] at hl' ⊢
  clear hrow hrow' hnn hnn' hC hD h1 h2 heq
  by_cases hnm:n=n'
  · subst hnm
    have hneq:((n:Int) != (n:Int))=false:=by simp
    go_enter Tryz.func120,Tryz.ntmps120
    go_wp2
    go_loopw [17] (fun i wr=>∃ k:Nat,k≤n∧i=.int .i64 k∧Hid (Below W.heap.size W wr)∧Hid (l.take k=l'.take k)) (fun i _=>n - (intOf i).toNat)
    case atStart=>exact ⟨0,Nat.zero_le _,rfl,Lib.hid (Below.refl _ _),Lib.hid rfl⟩
    case round =>
      obtain ⟨k,hk,rfl,HBW,hT⟩:=hrel
      by_cases hlt:k<n
      · have hk1:k<l.length:=by rw [HN.out];exact hlt
        have hk2:k<l'.length:=by rw [HN'.out];exact hlt
        have hk3:k<lv.length:=by rw [H1.out];exact hk1
        have hk4:k<lv'.length:=by rw [H2.out];exact hk2
        obtain ⟨x,hx,g,o,rfl,a0,a1,a2,a3⟩:∃ x,lv[k]=x∧∃ g o,q=some ⟨g,o,none⟩∧C ⟨g,o+k * 4,none⟩=some (.int .i64 x.k)∧C ⟨g,o+k * 4+1,none⟩=some (.string x.nm)∧C ⟨g,o+k * 4+2,none⟩=some (.slice x.q1 x.n1 x.c1)∧C ⟨g,o+k * 4+3,none⟩=some (.slice x.q2 x.n2 x.c2):=⟨_,rfl,HA.out k hk3⟩
        obtain ⟨y,hy,g',o',rfl,b0,b1,b2,b3⟩:∃ y,lv'[k]=y∧∃ g o,q'=some ⟨g,o,none⟩∧D ⟨g,o+k * 4,none⟩=some (.int .i64 y.k)∧D ⟨g,o+k * 4+1,none⟩=some (.string y.nm)∧D ⟨g,o+k * 4+2,none⟩=some (.slice y.q1 y.n1 y.c1)∧D ⟨g,o+k * 4+3,none⟩=some (.slice y.q2 y.n2 y.c2):=⟨_,rfl,HB.out k hk4⟩
        have e0:wr.cell? ⟨g,o+k * 4,none⟩=some (.int .i64 x.k):=below_cle HBW.out _ _ (HCC.out _ _ a0)
        have e1:wr.cell? ⟨g,o+k * 4+1,none⟩=some (.string x.nm):=below_cle HBW.out _ _ (HCC.out _ _ a1)
        have e2:wr.cell? ⟨g,o+k * 4+2,none⟩=some (.slice x.q1 x.n1 x.c1):=below_cle HBW.out _ _ (HCC.out _ _ a2)
        have e3:wr.cell? ⟨g,o+k * 4+3,none⟩=some (.slice x.q2 x.n2 x.c2):=below_cle HBW.out _ _ (HCC.out _ _ a3)
        have f0:(wr.alloc (.cells #[.int .i64 x.k,.string x.nm,.slice x.q1 x.n1 x.c1,.slice x.q2 x.n2 x.c2] 57)).cell? ⟨g',o'+k * 4,none⟩=some (.int .i64 y.k):=(((Below.refl _ _).alloc (Nat.le_refl _) _).cell (World.block_lt_of_cell? _ _ (below_cle HBW.out _ _ (HDD.out _ _ b0)))).trans (below_cle HBW.out _ _ (HDD.out _ _ b0))
        have f1:(wr.alloc (.cells #[.int .i64 x.k,.string x.nm,.slice x.q1 x.n1 x.c1,.slice x.q2 x.n2 x.c2] 57)).cell? ⟨g',o'+k * 4+1,none⟩=some (.string y.nm):=(((Below.refl _ _).alloc (Nat.le_refl _) _).cell (World.block_lt_of_cell? _ _ (below_cle HBW.out _ _ (HDD.out _ _ b1)))).trans (below_cle HBW.out _ _ (HDD.out _ _ b1))
        have f2:(wr.alloc (.cells #[.int .i64 x.k,.string x.nm,.slice x.q1 x.n1 x.c1,.slice x.q2 x.n2 x.c2] 57)).cell? ⟨g',o'+k * 4+2,none⟩=some (.slice y.q1 y.n1 y.c1):=(((Below.refl _ _).alloc (Nat.le_refl _) _).cell (World.block_lt_of_cell? _ _ (below_cle HBW.out _ _ (HDD.out _ _ b2)))).trans (below_cle HBW.out _ _ (HDD.out _ _ b2))
        have f3:(wr.alloc (.cells #[.int .i64 x.k,.string x.nm,.slice x.q1 x.n1 x.c1,.slice x.q2 x.n2 x.c2] 57)).cell? ⟨g',o'+k * 4+3,none⟩=some (.slice y.q2 y.n2 y.c2):=(((Below.refl _ _).alloc (Nat.le_refl _) _).cell (World.block_lt_of_cell? _ _ (below_cle HBW.out _ _ (HDD.out _ _ b3)))).trans (below_cle HBW.out _ _ (HDD.out _ _ b3))
        clear a0 a1 a2 a3 b0 b1 b2 b3
        have hki:(k:Int)<(n:Int):=by omega
        have HB2:=Lib.hid (show Below W.heap.size W ((wr.alloc (.cells #[.int .i64 x.k,.string x.nm,.slice x.q1 x.n1 x.c1,.slice x.q2 x.n2 x.c2] 57)).alloc (.cells #[.int .i64 y.k,.string y.nm,.slice y.q1 y.n1 y.c1,.slice y.q2 y.n2 y.c2] 57)) from (HBW.out.alloc HBW.out.size _).alloc (by rw [World.size_alloc];have:=HBW.out.size;omega) _)
        have HCALL:=Lib.hid (HEQ.out k hk3 hk4 hk1 hk2 _ HB2.out)
        rw [hx,hy] at HCALL
        have HK:=Lib.hid (And.intro hk1 hk2)
        clear hx hy
        go_wp2_with fail
        refine HCALL.out.mono ?_
        rintro e w2 ⟨bb,rfl,hbb,hbel⟩
        have HB3:=Lib.hid (show Below W.heap.size W w2 from HB2.out.trans (hbel.mono HB2.out.size))
        clear hbel HCALL
        cases bb
        · have HNE:=Lib.hid (ne_at HK.out.1 HK.out.2 (fun e=>by have:=hbb.2 e;exact absurd this (by decide)))
          clear hbb
          go_wp2_with fail
          go_ret
          exact ⟨false,rfl,by have:=HNE.out;simp [this],HB3.out⟩
        · have HT2:=Lib.hid (take_next HK.out.1 HK.out.2 hT.out (hbb.1 rfl))
          clear hbb
          go_wp2_with fail
          exact ⟨⟨k+1,by omega,by go_num,HB3,HT2⟩,by simp [intOf];omega⟩
      · obtain rfl:k=n:=by omega
        have HT2:=Lib.hid (take_all HN.out HN'.out hT.out)
        go_wp2
        go_ret
        exact ⟨true,rfl,by have:=HT2.out;simp [this],HBW.out⟩
  · have HNE:=Lib.hid (show ¬ l=l' from fun e=>hnm (by rw [← HN.out,← HN'.out,e]))
    have hneq:((n:Int) != (n':Int))=true:=by simp;omega
    go_enter Tryz.func120,Tryz.ntmps120
    go_wp2
    go_ret
    exact ⟨false,rfl,by have:=HNE.out;simp [this],Below.refl _ _⟩
end
end Go.Proofs.YtpcniebkabkikaaGreatDoor
namespace Go.Proofs.YtpcniebkabkikaaGreatDoor
open Go Go.RowKit Go.Proofs.Mm
section
variable {C D:Cl} {W:World} {q1 q2 q3 q4 r1 r2 r3 r4:Option Addr}
theorem body_eq {l l':List StZ} {lv lv':List StV} {c c':Nat} (ha:BdRow C q1 l lv) (hb:BdRow D q2 l' lv') (hC:CLe C (wC W)) (hD:CLe D (wC W)) :
    Calls Tryz.prog 120 #[.slice q1 l.length c,.slice q2 l'.length c',.func (.func 121) #[] #[]] W (SaysB (l=l') W) :=
  efSt_p (lv:=lv) (lv':=lv') ha.len hb.len (by have:=ha.few;omega) (by have:=hb.few;omega) ha.cells hb.cells hC hD (enters_of Tryz.func121 (by kernel_rfl) rfl) (fun j h1 h2 h3 h4 W' hw=>by
    obtain ⟨p1,e1,p2,e2,e,hs⟩:=ha.rd j h1 h3
    obtain ⟨p1',e1',p2',e2',e',hs'⟩:=hb.rd j h2 h4
    obtain ⟨vs,hs⟩:=hs.rd2
    obtain ⟨vs',hs'⟩:=hs'.rd2
    rw [e,e']
    exact sameStmt_p l[j] l'[j] hs hs' (hC.trans (below_cle hw)) (hD.trans (below_cle hw)))
theorem fnz_ext {a b:FnZ} (h1:a.name=b.name) (h2:a.level=b.level) (h3:a.params=b.params) (h4:a.results=b.results) (h5:a.vars=b.vars) (h6:a.body=b.body):a=b:=by
  cases a;cases b;simp_all
set_option maxRecDepth 100000 in
set_option maxHeartbeats 4000000 in
theorem sameFunc_p (s t:FnZ) {c1 c2 c3 c4 d1 d2 d3 d4:Nat} (hs:FR C s q1 q2 q3 q4) (ht:FR D t r1 r2 r3 r4) (hC:CLe C (wC W)) (hD:CLe D (wC W)) :
    Calls Tryz.prog 70 #[fv s q1 c1 q2 c2 q3 c3 q4 c4,fv t r1 d1 r2 d2 r3 d3 r4 d4] W (SaysB (s=t) W):=by
  have HB:=Lib.hid (show Below W.heap.size W ((W.alloc (fo s q1 c1 q2 c2 q3 c3 q4 c4)).alloc (fo t r1 d1 r2 d2 r3 d3 r4 d4)) from ((Below.refl _ _).alloc (Nat.le_refl _) _).alloc (by rw [World.size_alloc];omega) _)
  have HX:=Lib.hid (heap_new (W.alloc (fo s q1 c1 q2 c2 q3 c3 q4 c4)) (fo t r1 d1 r2 d2 r3 d3 r4 d4) (World.alloc_heap_new W (fo s q1 c1 q2 c2 q3 c3 q4 c4)))
  have hy:=World.alloc_heap_new (W.alloc (fo s q1 c1 q2 c2 q3 c3 q4 c4)) (fo t r1 d1 r2 d2 r3 d3 r4 d4)
  rw [World.size_alloc] at hy
  have HY:=Lib.hid hy
  obtain ⟨lv,hlv⟩:=hs.bd
  obtain ⟨lv',hlv'⟩:=ht.bd
  have HPS:=Lib.hid (fun w (h:Below W.heap.size W w)=>(eqDe (c:=c1) (c':=d1) hs.fine.ps.2 ht.fine.ps.2 hs.ps ht.ps (hC.trans (below_cle h)) (hD.trans (below_cle h))).mono fun _ _ h=>h.b)
  have HRS:=Lib.hid (fun w (h:Below W.heap.size W w)=>(eqLa (c:=c2) (c':=d2) hs.fine.rs.2 ht.fine.rs.2 hs.rs ht.rs (hC.trans (below_cle h)) (hD.trans (below_cle h))).mono fun _ _ h=>h.b)
  have HVS:=Lib.hid (fun w (h:Below W.heap.size W w)=>(eqDe (c:=c3) (c':=d3) hs.fine.vs.2 ht.fine.vs.2 hs.vs ht.vs (hC.trans (below_cle h)) (hD.trans (below_cle h))).mono fun _ _ h=>h.b)
  have HBD:=Lib.hid (fun w (h:Below W.heap.size W w)=>body_eq (c:=c4) (c':=d4) hlv hlv' (hC.trans (below_cle h)) (hD.trans (below_cle h)))
  have HEXT:=Lib.hid (show (s.name=t.name∧s.level=t.level∧s.params=t.params∧s.results=t.results∧s.vars=t.vars∧s.body=t.body) ↔ s=t from ⟨fun ⟨a,b,c,d,e,f⟩=>fnz_ext a b c d e f,fun h=>by subst h;exact ⟨rfl,rfl,rfl,rfl,rfl,rfl⟩⟩)
  unfold fv
  unfold fo at HB HX HY
  clear hs ht hC hD hy hlv hlv'
  obtain ⟨b1,e1⟩:∃ b,(s.name.toList == t.name.toList)=b:=⟨_,rfl⟩
  obtain ⟨b2,e2⟩:∃ b,(((s.level:Nat):Int) == ((t.level:Nat):Int))=b:=⟨_,rfl⟩
  have HE1:=Lib.hid (show b1=true ↔ s.name=t.name from by rw [← e1];exact nm_eq)
  have HE2:=Lib.hid (show b2=true ↔ s.level=t.level from by rw [← e2,beq_iff_eq];exact Int.ofNat_inj)
  cases b1
  · go_enter Tryz.func70,Tryz.ntmps70
    obtain ⟨x0,x1,x2,x3,x4,x5⟩:=fo_cells (HX.out)
    obtain ⟨y0,y1,y2,y3,y4,y5⟩:=fo_cells (HY.out)
    go_wp2_with fail
    go_ret
    exact ⟨false,rfl,by rw [← HEXT.out];exact ⟨fun h=>(by cases h),fun h=>HE1.out.2 h.1⟩,HB.out⟩
  · skip
    cases b2
    · go_enter Tryz.func70,Tryz.ntmps70
      obtain ⟨x0,x1,x2,x3,x4,x5⟩:=fo_cells (HX.out)
      obtain ⟨y0,y1,y2,y3,y4,y5⟩:=fo_cells (HY.out)
      go_wp2_with fail
      go_ret
      exact ⟨false,rfl,by rw [← HEXT.out];exact ⟨fun h=>(by cases h),fun h=>HE2.out.2 h.2.1⟩,HB.out⟩
    · skip
      go_enter Tryz.func70,Tryz.ntmps70
      obtain ⟨x0,x1,x2,x3,x4,x5⟩:=fo_cells (HX.out)
      obtain ⟨y0,y1,y2,y3,y4,y5⟩:=fo_cells (HY.out)
      have HW1:=Lib.hid (HPS.out _ HB.out)
      go_wp2_with fail
      go_at_call 67
      refine HW1.out.mono ?_
      rintro e w1 ⟨p1,rfl,hp1,hbel⟩
      have HB1:=Lib.hid (on_below HB.out hbel)
      have HX1:=Lib.hid ((hbel.block _ (heap_lt HX.out)).trans HX.out)
      have HY1:=Lib.hid ((hbel.block _ (heap_lt HY.out)).trans HY.out)
      have HP1:=Lib.hid hp1
      clear hbel hp1 HW1 x0 x1 x2 x3 x4 x5 y0 y1 y2 y3 y4 y5
      obtain ⟨x0,x1,x2,x3,x4,x5⟩:=fo_cells (HX1.out)
      obtain ⟨y0,y1,y2,y3,y4,y5⟩:=fo_cells (HY1.out)
      cases p1
      · go_wp2_with fail
        go_ret
        exact ⟨false,rfl,by rw [← HEXT.out];exact ⟨fun h=>(by cases h),fun h=>HP1.out.2 h.2.2.1⟩,HB1.out⟩
      · skip
        have HW2:=Lib.hid (HRS.out _ HB1.out)
        go_wp2_with fail
        go_at_call 119
        refine HW2.out.mono ?_
        rintro e w2 ⟨p2,rfl,hp2,hbel⟩
        have HB2:=Lib.hid (on_below HB1.out hbel)
        have HX2:=Lib.hid ((hbel.block _ (heap_lt HX1.out)).trans HX1.out)
        have HY2:=Lib.hid ((hbel.block _ (heap_lt HY1.out)).trans HY1.out)
        have HP2:=Lib.hid hp2
        clear hbel hp2 HW2 x0 x1 x2 x3 x4 x5 y0 y1 y2 y3 y4 y5
        obtain ⟨x0,x1,x2,x3,x4,x5⟩:=fo_cells (HX2.out)
        obtain ⟨y0,y1,y2,y3,y4,y5⟩:=fo_cells (HY2.out)
        cases p2
        · go_wp2_with fail
          go_ret
          exact ⟨false,rfl,by rw [← HEXT.out];exact ⟨fun h=>(by cases h),fun h=>HP2.out.2 h.2.2.2.1⟩,HB2.out⟩
        · skip
          have HW3:=Lib.hid (HVS.out _ HB2.out)
          go_wp2_with fail
          go_at_call 67
          refine HW3.out.mono ?_
          rintro e w3 ⟨p3,rfl,hp3,hbel⟩
          have HB3:=Lib.hid (on_below HB2.out hbel)
          have HX3:=Lib.hid ((hbel.block _ (heap_lt HX2.out)).trans HX2.out)
          have HY3:=Lib.hid ((hbel.block _ (heap_lt HY2.out)).trans HY2.out)
          have HP3:=Lib.hid hp3
          clear hbel hp3 HW3 x0 x1 x2 x3 x4 x5 y0 y1 y2 y3 y4 y5
          obtain ⟨x0,x1,x2,x3,x4,x5⟩:=fo_cells (HX3.out)
          obtain ⟨y0,y1,y2,y3,y4,y5⟩:=fo_cells (HY3.out)
          cases p3
          · go_wp2_with fail
            go_ret
            exact ⟨false,rfl,by rw [← HEXT.out];exact ⟨fun h=>(by cases h),fun h=>HP3.out.2 h.2.2.2.2.1⟩,HB3.out⟩
          · skip
            have HW4:=Lib.hid (HBD.out _ HB3.out)
            go_wp2_with fail
            go_at_call 120
            refine HW4.out.mono ?_
            rintro e w4 ⟨p4,rfl,hp4,hbel⟩
            have HB4:=Lib.hid (on_below HB3.out hbel)
            have HX4:=Lib.hid ((hbel.block _ (heap_lt HX3.out)).trans HX3.out)
            have HY4:=Lib.hid ((hbel.block _ (heap_lt HY3.out)).trans HY3.out)
            have HP4:=Lib.hid hp4
            clear hbel hp4 HW4 x0 x1 x2 x3 x4 x5 y0 y1 y2 y3 y4 y5
            obtain ⟨x0,x1,x2,x3,x4,x5⟩:=fo_cells (HX4.out)
            obtain ⟨y0,y1,y2,y3,y4,y5⟩:=fo_cells (HY4.out)
            cases p4
            · go_wp2_with fail
              go_ret
              exact ⟨false,rfl,by rw [← HEXT.out];exact ⟨fun h=>(by cases h),fun h=>HP4.out.2 h.2.2.2.2.2⟩,HB4.out⟩
            · go_wp2_with fail
              go_ret
              exact ⟨true,rfl,by rw [← HEXT.out];exact ⟨fun _=>⟨HE1.out.1 (by first | rfl | trivial),HE2.out.1 (by first | rfl | trivial),HP1.out.1 (by first | rfl | trivial),HP2.out.1 (by first | rfl | trivial),HP3.out.1 (by first | rfl | trivial),HP4.out.1 (by first | rfl | trivial)⟩,fun _=>rfl⟩,HB4.out⟩
end
end Go.Proofs.YtpcniebkabkikaaGreatDoor
namespace Go.Proofs.YtpcniebkabkikaaGreatDoor
open Go Go.RowKit Go.Proofs.Mm
section
variable {C D:Cl} {w:World} {q q':Option Addr}
set_option maxRecDepth 100000 in
set_option maxHeartbeats 2000000 in
theorem eqAr {l l':List ArZ} {c c':Nat} (hl:l.length≤9223372036854775807) (hl':l'.length≤9223372036854775807) (ha:ArRow C q l) (hb:ArRow D q' l') (hC:CLe C (wC w)) (hD:CLe D (wC w)):Calls Tryz.prog 68 #[.slice q l.length c,.slice q' l'.length c'] w (Says (l=l') w):=by
  obtain ⟨n,hnn⟩:∃ n,l.length=n:=⟨_,rfl⟩
  obtain ⟨n',hnn'⟩:∃ n,l'.length=n:=⟨_,rfl⟩
  have HA:=Lib.hid ha
  have HB:=Lib.hid hb
  have HCC:=Lib.hid hC
  have HDD:=Lib.hid hD
  have HN:=Lib.hid hnn
  have HN':=Lib.hid hnn'
  rw [hnn] at hl ⊢
  rw [hnn'] at hl' ⊢
  clear ha hb hnn hnn' hC hD
  by_cases hnm:n=n'
  · subst hnm
    have hneq:((n:Int) != (n:Int))=false:=by simp
    go_enter Tryz.func68,Tryz.ntmps68
    go_wp2
    go_loopw [13] (fun i wr=>∃ k nq:Nat,k≤n∧i=.int .i64 k∧wr=w.drewN nq∧Hid (l.take k=l'.take k)) (fun i _=>n - (intOf i).toNat)
    case atStart=>exact ⟨0,0,Nat.zero_le _,rfl,rfl,Lib.hid rfl⟩
    case round =>
      obtain ⟨k,nq,hk,rfl,rfl,hT⟩:=hrel
      by_cases hlt:k<n
      · have hk1:k<l.length:=by rw [HN.out];exact hlt
        have hk2:k<l'.length:=by rw [HN'.out];exact hlt
        obtain ⟨g,o,rfl,a0,a1,a2⟩:=HA.out k hk1
        obtain ⟨g',o',rfl,b0,b1,b2⟩:=HB.out k hk2
        have x0:w.cell? ⟨g,o+k * 3,none⟩=some (.string l[k].name):=HCC.out _ _ a0
        have y0:w.cell? ⟨g',o'+k * 3,none⟩=some (.string l'[k].name):=HDD.out _ _ b0
        have x1:w.cell? ⟨g,o+k * 3+1,none⟩=some (.int .i64 l[k].len):=HCC.out _ _ a1
        have y1:w.cell? ⟨g',o'+k * 3+1,none⟩=some (.int .i64 l'[k].len):=HDD.out _ _ b1
        have x2:w.cell? ⟨g,o+k * 3+2,none⟩=some (.int .u64 (l[k].label:Nat)):=HCC.out _ _ a2
        have y2:w.cell? ⟨g',o'+k * 3+2,none⟩=some (.int .u64 (l'[k].label:Nat)):=HDD.out _ _ b2
        clear a0 a1 a2 b0 b1 b2
        have hki:(k:Int)<(n:Int):=by omega
        by_cases heq:l[k]=l'[k]
        · have HT2:=Lib.hid (take_next hk1 hk2 hT.out heq)
          rw [← heq] at y0 y1 y2
          generalize l[k].name=z0 at *
          have e0a:(z0.toList == z0.toList)=true:=by simp
          generalize l[k].len=z1 at *
          have e1a:((z1:Int) == (z1:Int))=true:=by simp
          generalize l[k].label=z2 at *
          have e2a:(((z2:Nat):Int) == ((z2:Nat):Int))=true:=by simp
          clear heq
          go_wp2
          go_quiet (fail)
          go_wp2
          exact ⟨⟨k+1,_,by omega,by go_num,rfl,HT2⟩,by simp [intOf];omega⟩
        · have HNE:=Lib.hid (ne_at hk1 hk2 heq)
          obtain ⟨b0,e0⟩:∃ b,(l[k].name.toList == l'[k].name.toList)=b:=⟨_,rfl⟩
          obtain ⟨b1,e1⟩:∃ b,(l[k].len == l'[k].len)=b:=⟨_,rfl⟩
          obtain ⟨b2,e2⟩:∃ b,(((l[k].label:Nat):Int) == ((l'[k].label:Nat):Int))=b:=⟨_,rfl⟩
          have HB3:=Lib.hid (show ¬ (b0=true∧b1=true∧b2=true) from fun ⟨c0,c1,c2⟩=>heq (by
            subst c0 c1 c2
            have d0:=nm_eq.1 e0
            have d1:=beq_iff_eq.1 e1
            have d2:=Int.ofNat.inj (beq_iff_eq.1 e2)
            generalize l[k]=x at d0 d1 d2 ⊢
            generalize l'[k]=y at d0 d1 d2 ⊢
            cases x;cases y;simp_all))
          clear heq
          generalize l[k].name=z0 at *
          generalize l'[k].name=z0' at *
          generalize l[k].len=z1 at *
          generalize l'[k].len=z1' at *
          generalize l[k].label=z2 at *
          generalize l'[k].label=z2' at *
          cases b0 <;> cases b1 <;> cases b2
          all_goals first
            | exact absurd ⟨rfl,rfl,rfl⟩ HB3.out
            | (go_wp2
               go_quiet (fail)
               go_wp2
               go_ret
               exact says_no2 HNE.out)
      · obtain rfl:k=n:=by omega
        have HT2:=Lib.hid (take_all HN.out HN'.out hT.out)
        go_wp2
        go_ret
        exact says_yes HT2.out
  · have HNE:=Lib.hid (show ¬ l=l' from fun e=>hnm (by rw [← HN.out,← HN'.out,e]))
    have hneq:((n:Int) != (n':Int))=true:=by simp;omega
    go_enter Tryz.func68,Tryz.ntmps68
    go_wp2
    go_ret
    exact says_no (k:=0) HNE.out
end
end Go.Proofs.YtpcniebkabkikaaGreatDoor
namespace Go.Proofs.YtpcniebkabkikaaGreatDoor
open Go Go.RowKit Go.Proofs.Mm
section
variable {C D:Cl} {W:World} {q q':Option Addr}
set_option maxRecDepth 100000 in
set_option maxHeartbeats 2000000 in
theorem efFn_p {α:Type} {l l':List α} {lv lv':List FnV} {c c':Nat} (h1:lv.length=l.length) (h2:lv'.length=l'.length) (hl:l.length≤9223372036854775807) (hl':l'.length≤9223372036854775807)
    (hrow:∀ j (hj:j<lv.length),∃ g o,q=some ⟨g,o,none⟩∧C ⟨g,o+j * 6,none⟩=some (.string lv[j].nm)∧C ⟨g,o+j * 6+1,none⟩=some (.int .u64 (lv[j].lv:Nat))∧C ⟨g,o+j * 6+2,none⟩=some (.slice lv[j].q1 lv[j].n1 lv[j].c1)∧C ⟨g,o+j * 6+3,none⟩=some (.slice lv[j].q2 lv[j].n2 lv[j].c2)∧C ⟨g,o+j * 6+4,none⟩=some (.slice lv[j].q3 lv[j].n3 lv[j].c3)∧C ⟨g,o+j * 6+5,none⟩=some (.slice lv[j].q4 lv[j].n4 lv[j].c4))
    (hrow':∀ j (hj:j<lv'.length),∃ g o,q'=some ⟨g,o,none⟩∧D ⟨g,o+j * 6,none⟩=some (.string lv'[j].nm)∧D ⟨g,o+j * 6+1,none⟩=some (.int .u64 (lv'[j].lv:Nat))∧D ⟨g,o+j * 6+2,none⟩=some (.slice lv'[j].q1 lv'[j].n1 lv'[j].c1)∧D ⟨g,o+j * 6+3,none⟩=some (.slice lv'[j].q2 lv'[j].n2 lv'[j].c2)∧D ⟨g,o+j * 6+4,none⟩=some (.slice lv'[j].q3 lv'[j].n3 lv'[j].c3)∧D ⟨g,o+j * 6+5,none⟩=some (.slice lv'[j].q4 lv'[j].n4 lv'[j].c4))
    (hC:CLe C (wC W)) (hD:CLe D (wC W)) {Ke:Nat} (ek:∀ args w,(callFunc Ke args).run Tryz.prog w=.ok (.enter Ke args) w)
    (heq:∀ j (_:j<lv.length) (_:j<lv'.length) (_:j<l.length) (_:j<l'.length) W',Below W.heap.size W W'→Calls Tryz.prog Ke #[.agg #[.string lv[j].nm,.int .u64 (lv[j].lv:Nat),.slice lv[j].q1 lv[j].n1 lv[j].c1,.slice lv[j].q2 lv[j].n2 lv[j].c2,.slice lv[j].q3 lv[j].n3 lv[j].c3,.slice lv[j].q4 lv[j].n4 lv[j].c4],.agg #[.string lv'[j].nm,.int .u64 (lv'[j].lv:Nat),.slice lv'[j].q1 lv'[j].n1 lv'[j].c1,.slice lv'[j].q2 lv'[j].n2 lv'[j].c2,.slice lv'[j].q3 lv'[j].n3 lv'[j].c3,.slice lv'[j].q4 lv'[j].n4 lv'[j].c4]] W' (SaysB (l[j]=l'[j]) W')) :
    Calls Tryz.prog 69 #[.slice q l.length c,.slice q' l'.length c',.func (.func Ke) #[] #[]] W (SaysB (l=l') W):=by
  obtain ⟨n,hnn⟩:∃ n,l.length=n:=⟨_,rfl⟩
  obtain ⟨n',hnn'⟩:∃ n,l'.length=n:=⟨_,rfl⟩
  have HA:=Lib.hid hrow
  have HB:=Lib.hid hrow'
  have HCC:=Lib.hid hC
  have HDD:=Lib.hid hD
  have HN:=Lib.hid hnn
  have HN':=Lib.hid hnn'
  have H1:=Lib.hid h1
  have H2:=Lib.hid h2
  have HEQ:=Lib.hid heq
  rw [hnn] at hl ⊢
  rw [hnn'] at hl' ⊢
  clear hrow hrow' hnn hnn' hC hD h1 h2 heq
  by_cases hnm:n=n'
  · subst hnm
    have hneq:((n:Int) != (n:Int))=false:=by simp
    go_enter Tryz.func69,Tryz.ntmps69
    go_wp2
    go_loopw [17] (fun i wr=>∃ k:Nat,k≤n∧i=.int .i64 k∧Hid (Below W.heap.size W wr)∧Hid (l.take k=l'.take k)) (fun i _=>n - (intOf i).toNat)
    case atStart=>exact ⟨0,Nat.zero_le _,rfl,Lib.hid (Below.refl _ _),Lib.hid rfl⟩
    case round =>
      obtain ⟨k,hk,rfl,HBW,hT⟩:=hrel
      by_cases hlt:k<n
      · have hk1:k<l.length:=by rw [HN.out];exact hlt
        have hk2:k<l'.length:=by rw [HN'.out];exact hlt
        have hk3:k<lv.length:=by rw [H1.out];exact hk1
        have hk4:k<lv'.length:=by rw [H2.out];exact hk2
        obtain ⟨x,hx,g,o,rfl,a0,a1,a2,a3,a4,a5⟩:∃ x,lv[k]=x∧∃ g o,q=some ⟨g,o,none⟩∧C ⟨g,o+k * 6,none⟩=some (.string x.nm)∧C ⟨g,o+k * 6+1,none⟩=some (.int .u64 (x.lv:Nat))∧C ⟨g,o+k * 6+2,none⟩=some (.slice x.q1 x.n1 x.c1)∧C ⟨g,o+k * 6+3,none⟩=some (.slice x.q2 x.n2 x.c2)∧C ⟨g,o+k * 6+4,none⟩=some (.slice x.q3 x.n3 x.c3)∧C ⟨g,o+k * 6+5,none⟩=some (.slice x.q4 x.n4 x.c4):=⟨_,rfl,HA.out k hk3⟩
        obtain ⟨y,hy,g',o',rfl,b0,b1,b2,b3,b4,b5⟩:∃ y,lv'[k]=y∧∃ g o,q'=some ⟨g,o,none⟩∧D ⟨g,o+k * 6,none⟩=some (.string y.nm)∧D ⟨g,o+k * 6+1,none⟩=some (.int .u64 (y.lv:Nat))∧D ⟨g,o+k * 6+2,none⟩=some (.slice y.q1 y.n1 y.c1)∧D ⟨g,o+k * 6+3,none⟩=some (.slice y.q2 y.n2 y.c2)∧D ⟨g,o+k * 6+4,none⟩=some (.slice y.q3 y.n3 y.c3)∧D ⟨g,o+k * 6+5,none⟩=some (.slice y.q4 y.n4 y.c4):=⟨_,rfl,HB.out k hk4⟩
        have e0:wr.cell? ⟨g,o+k * 6,none⟩=some (.string x.nm):=below_cle HBW.out _ _ (HCC.out _ _ a0)
        have e1:wr.cell? ⟨g,o+k * 6+1,none⟩=some (.int .u64 (x.lv:Nat)):=below_cle HBW.out _ _ (HCC.out _ _ a1)
        have e2:wr.cell? ⟨g,o+k * 6+2,none⟩=some (.slice x.q1 x.n1 x.c1):=below_cle HBW.out _ _ (HCC.out _ _ a2)
        have e3:wr.cell? ⟨g,o+k * 6+3,none⟩=some (.slice x.q2 x.n2 x.c2):=below_cle HBW.out _ _ (HCC.out _ _ a3)
        have e4:wr.cell? ⟨g,o+k * 6+4,none⟩=some (.slice x.q3 x.n3 x.c3):=below_cle HBW.out _ _ (HCC.out _ _ a4)
        have e5:wr.cell? ⟨g,o+k * 6+5,none⟩=some (.slice x.q4 x.n4 x.c4):=below_cle HBW.out _ _ (HCC.out _ _ a5)
        have f0:(wr.alloc (.cells #[.string x.nm,.int .u64 (x.lv:Nat),.slice x.q1 x.n1 x.c1,.slice x.q2 x.n2 x.c2,.slice x.q3 x.n3 x.c3,.slice x.q4 x.n4 x.c4] 54)).cell? ⟨g',o'+k * 6,none⟩=some (.string y.nm):=(((Below.refl _ _).alloc (Nat.le_refl _) _).cell (World.block_lt_of_cell? _ _ (below_cle HBW.out _ _ (HDD.out _ _ b0)))).trans (below_cle HBW.out _ _ (HDD.out _ _ b0))
        have f1:(wr.alloc (.cells #[.string x.nm,.int .u64 (x.lv:Nat),.slice x.q1 x.n1 x.c1,.slice x.q2 x.n2 x.c2,.slice x.q3 x.n3 x.c3,.slice x.q4 x.n4 x.c4] 54)).cell? ⟨g',o'+k * 6+1,none⟩=some (.int .u64 (y.lv:Nat)):=(((Below.refl _ _).alloc (Nat.le_refl _) _).cell (World.block_lt_of_cell? _ _ (below_cle HBW.out _ _ (HDD.out _ _ b1)))).trans (below_cle HBW.out _ _ (HDD.out _ _ b1))
        have f2:(wr.alloc (.cells #[.string x.nm,.int .u64 (x.lv:Nat),.slice x.q1 x.n1 x.c1,.slice x.q2 x.n2 x.c2,.slice x.q3 x.n3 x.c3,.slice x.q4 x.n4 x.c4] 54)).cell? ⟨g',o'+k * 6+2,none⟩=some (.slice y.q1 y.n1 y.c1):=(((Below.refl _ _).alloc (Nat.le_refl _) _).cell (World.block_lt_of_cell? _ _ (below_cle HBW.out _ _ (HDD.out _ _ b2)))).trans (below_cle HBW.out _ _ (HDD.out _ _ b2))
        have f3:(wr.alloc (.cells #[.string x.nm,.int .u64 (x.lv:Nat),.slice x.q1 x.n1 x.c1,.slice x.q2 x.n2 x.c2,.slice x.q3 x.n3 x.c3,.slice x.q4 x.n4 x.c4] 54)).cell? ⟨g',o'+k * 6+3,none⟩=some (.slice y.q2 y.n2 y.c2):=(((Below.refl _ _).alloc (Nat.le_refl _) _).cell (World.block_lt_of_cell? _ _ (below_cle HBW.out _ _ (HDD.out _ _ b3)))).trans (below_cle HBW.out _ _ (HDD.out _ _ b3))
        have f4:(wr.alloc (.cells #[.string x.nm,.int .u64 (x.lv:Nat),.slice x.q1 x.n1 x.c1,.slice x.q2 x.n2 x.c2,.slice x.q3 x.n3 x.c3,.slice x.q4 x.n4 x.c4] 54)).cell? ⟨g',o'+k * 6+4,none⟩=some (.slice y.q3 y.n3 y.c3):=(((Below.refl _ _).alloc (Nat.le_refl _) _).cell (World.block_lt_of_cell? _ _ (below_cle HBW.out _ _ (HDD.out _ _ b4)))).trans (below_cle HBW.out _ _ (HDD.out _ _ b4))
        have f5:(wr.alloc (.cells #[.string x.nm,.int .u64 (x.lv:Nat),.slice x.q1 x.n1 x.c1,.slice x.q2 x.n2 x.c2,.slice x.q3 x.n3 x.c3,.slice x.q4 x.n4 x.c4] 54)).cell? ⟨g',o'+k * 6+5,none⟩=some (.slice y.q4 y.n4 y.c4):=(((Below.refl _ _).alloc (Nat.le_refl _) _).cell (World.block_lt_of_cell? _ _ (below_cle HBW.out _ _ (HDD.out _ _ b5)))).trans (below_cle HBW.out _ _ (HDD.out _ _ b5))
        clear a0 a1 a2 a3 a4 a5 b0 b1 b2 b3 b4 b5
        have hki:(k:Int)<(n:Int):=by omega
        have HB2:=Lib.hid (show Below W.heap.size W ((wr.alloc (.cells #[.string x.nm,.int .u64 (x.lv:Nat),.slice x.q1 x.n1 x.c1,.slice x.q2 x.n2 x.c2,.slice x.q3 x.n3 x.c3,.slice x.q4 x.n4 x.c4] 54)).alloc (.cells #[.string y.nm,.int .u64 (y.lv:Nat),.slice y.q1 y.n1 y.c1,.slice y.q2 y.n2 y.c2,.slice y.q3 y.n3 y.c3,.slice y.q4 y.n4 y.c4] 54)) from (HBW.out.alloc HBW.out.size _).alloc (by rw [World.size_alloc];have:=HBW.out.size;omega) _)
        have HCALL:=Lib.hid (HEQ.out k hk3 hk4 hk1 hk2 _ HB2.out)
        rw [hx,hy] at HCALL
        have HK:=Lib.hid (And.intro hk1 hk2)
        clear hx hy
        go_wp2_with fail
        refine HCALL.out.mono ?_
        rintro e w2 ⟨bb,rfl,hbb,hbel⟩
        have HB3:=Lib.hid (show Below W.heap.size W w2 from HB2.out.trans (hbel.mono HB2.out.size))
        clear hbel HCALL
        cases bb
        · have HNE:=Lib.hid (ne_at HK.out.1 HK.out.2 (fun e=>by have:=hbb.2 e;exact absurd this (by decide)))
          clear hbb
          go_wp2_with fail
          go_ret
          exact ⟨false,rfl,by have:=HNE.out;simp [this],HB3.out⟩
        · have HT2:=Lib.hid (take_next HK.out.1 HK.out.2 hT.out (hbb.1 rfl))
          clear hbb
          go_wp2_with fail
          exact ⟨⟨k+1,by omega,by go_num,HB3,HT2⟩,by simp [intOf];omega⟩
      · obtain rfl:k=n:=by omega
        have HT2:=Lib.hid (take_all HN.out HN'.out hT.out)
        go_wp2
        go_ret
        exact ⟨true,rfl,by have:=HT2.out;simp [this],HBW.out⟩
  · have HNE:=Lib.hid (show ¬ l=l' from fun e=>hnm (by rw [← HN.out,← HN'.out,e]))
    have hneq:((n:Int) != (n':Int))=true:=by simp;omega
    go_enter Tryz.func69,Tryz.ntmps69
    go_wp2
    go_ret
    exact ⟨false,rfl,by have:=HNE.out;simp [this],Below.refl _ _⟩
end
end Go.Proofs.YtpcniebkabkikaaGreatDoor
namespace Go.Proofs.YtpcniebkabkikaaGreatDoor
open Go Go.RowKit Go.Proofs.Mm
section
variable {C D:Cl} {W:World} {q1 q2 q3 q4 q5 r1 r2 r3 r4 r5:Option Addr}
theorem funcs_eq {l l':List FnZ} {lv lv':List FnV} {c c':Nat} (hl:l.length≤9223372036854775807) (hl':l'.length≤9223372036854775807) (ha:FnRow C q1 l lv) (hb:FnRow D q2 l' lv') (hC:CLe C (wC W)) (hD:CLe D (wC W)) :
    Calls Tryz.prog 69 #[.slice q1 l.length c,.slice q2 l'.length c',.func (.func 70) #[] #[]] W (SaysB (l=l') W) :=
  efFn_p (lv:=lv) (lv':=lv') ha.len hb.len hl hl' ha.cells hb.cells hC hD (enters_of Tryz.func70 (by kernel_rfl) rfl) (fun j h1 h2 h3 h4 W' hw=>by
    obtain ⟨p1,e1,p2,e2,p3,e3,p4,e4,e,hs⟩:=ha.rd j h1 h3
    obtain ⟨p1',e1',p2',e2',p3',e3',p4',e4',e',hs'⟩:=hb.rd j h2 h4
    rw [e,e']
    exact sameFunc_p l[j] l'[j] hs hs' (hC.trans (below_cle hw)) (hD.trans (below_cle hw)))
theorem soz_ext {a b:SoZ} (h1:a.principals=b.principals) (h2:a.globals=b.globals) (h3:a.arrays=b.arrays) (h4:a.channels=b.channels) (h5:a.funcs=b.funcs):a=b:=by
  cases a;cases b;simp_all
set_option maxRecDepth 100000 in
set_option maxHeartbeats 4000000 in
theorem sameSource_p (s t:SoZ) {c1 c2 c3 c4 c5 d1 d2 d3 d4 d5:Nat} (hs:SoR C s q1 c1 q2 q3 q4 q5) (ht:SoR D t r1 d1 r2 r3 r4 r5) (hC:CLe C (wC W)) (hD:CLe D (wC W)) :
    Calls Tryz.prog 35 #[sov s q1 c1 q2 c2 q3 c3 q4 c4 q5 c5,sov t r1 d1 r2 d2 r3 d3 r4 d4 r5 d5] W (SaysB (s=t) W):=by
  have HB:=Lib.hid (show Below W.heap.size W ((W.alloc (soo s q1 c1 q2 c2 q3 c3 q4 c4 q5 c5)).alloc (soo t r1 d1 r2 d2 r3 d3 r4 d4 r5 d5)) from ((Below.refl _ _).alloc (Nat.le_refl _) _).alloc (by rw [World.size_alloc];omega) _)
  have HX:=Lib.hid (heap_new (W.alloc (soo s q1 c1 q2 c2 q3 c3 q4 c4 q5 c5)) (soo t r1 d1 r2 d2 r3 d3 r4 d4 r5 d5) (World.alloc_heap_new W (soo s q1 c1 q2 c2 q3 c3 q4 c4 q5 c5)))
  have hy:=World.alloc_heap_new (W.alloc (soo s q1 c1 q2 c2 q3 c3 q4 c4 q5 c5)) (soo t r1 d1 r2 d2 r3 d3 r4 d4 r5 d5)
  rw [World.size_alloc] at hy
  have HY:=Lib.hid hy
  obtain ⟨lv,hlv⟩:=hs.fn
  obtain ⟨lv',hlv'⟩:=ht.fn
  have HPR:=Lib.hid (fun w (h:Below W.heap.size W w)=>(eqStr (c:=c1) (c':=d1) hs.pf.2 ht.pf.2 hs.pr ht.pr (hC.trans (below_cle h)) (hD.trans (below_cle h))).mono fun _ _ h=>h.b)
  have HGL:=Lib.hid (fun w (h:Below W.heap.size W w)=>(eqDe (c:=c2) (c':=d2) hs.gf.2 ht.gf.2 hs.gl ht.gl (hC.trans (below_cle h)) (hD.trans (below_cle h))).mono fun _ _ h=>h.b)
  have HAR:=Lib.hid (fun w (h:Below W.heap.size W w)=>(eqAr (c:=c3) (c':=d3) hs.af.2 ht.af.2 hs.ar ht.ar (hC.trans (below_cle h)) (hD.trans (below_cle h))).mono fun _ _ h=>h.b)
  have HCH:=Lib.hid (fun w (h:Below W.heap.size W w)=>(eqDe (c:=c4) (c':=d4) hs.cf.2 ht.cf.2 hs.ch ht.ch (hC.trans (below_cle h)) (hD.trans (below_cle h))).mono fun _ _ h=>h.b)
  have HFN:=Lib.hid (fun w (h:Below W.heap.size W w)=>funcs_eq (c:=c5) (c':=d5) hs.ff ht.ff hlv hlv' (hC.trans (below_cle h)) (hD.trans (below_cle h)))
  have HEXT:=Lib.hid (show (s.principals=t.principals∧s.globals=t.globals∧s.arrays=t.arrays∧s.channels=t.channels∧s.funcs=t.funcs) ↔ s=t from ⟨fun ⟨a,b,c,d,e⟩=>soz_ext a b c d e,fun h=>by subst h;exact ⟨rfl,rfl,rfl,rfl,rfl⟩⟩)
  unfold sov
  unfold soo at HB HX HY
  clear hs ht hC hD hy hlv hlv'
  go_enter Tryz.func35,Tryz.ntmps35
  obtain ⟨x0,x1,x2,x3,x4⟩:=soo_cells (HX.out)
  obtain ⟨y0,y1,y2,y3,y4⟩:=soo_cells (HY.out)
  have HW1:=Lib.hid (HPR.out _ HB.out)
  go_wp2_with fail
  go_at_call 66
  refine HW1.out.mono ?_
  rintro e w1 ⟨p1,rfl,hp1,hbel⟩
  have HB1:=Lib.hid (on_below HB.out hbel)
  have HX1:=Lib.hid ((hbel.block _ (heap_lt HX.out)).trans HX.out)
  have HY1:=Lib.hid ((hbel.block _ (heap_lt HY.out)).trans HY.out)
  have HP1:=Lib.hid hp1
  clear hbel hp1 HW1 x0 x1 x2 x3 x4 y0 y1 y2 y3 y4
  obtain ⟨x0,x1,x2,x3,x4⟩:=soo_cells (HX1.out)
  obtain ⟨y0,y1,y2,y3,y4⟩:=soo_cells (HY1.out)
  cases p1
  · go_wp2_with fail
    go_ret
    exact ⟨false,rfl,by rw [← HEXT.out];exact ⟨fun h=>(by cases h),fun h=>HP1.out.2 h.1⟩,HB1.out⟩
  · skip
    have HW2:=Lib.hid (HGL.out _ HB1.out)
    go_wp2_with fail
    go_at_call 67
    refine HW2.out.mono ?_
    rintro e w2 ⟨p2,rfl,hp2,hbel⟩
    have HB2:=Lib.hid (on_below HB1.out hbel)
    have HX2:=Lib.hid ((hbel.block _ (heap_lt HX1.out)).trans HX1.out)
    have HY2:=Lib.hid ((hbel.block _ (heap_lt HY1.out)).trans HY1.out)
    have HP2:=Lib.hid hp2
    clear hbel hp2 HW2 x0 x1 x2 x3 x4 y0 y1 y2 y3 y4
    obtain ⟨x0,x1,x2,x3,x4⟩:=soo_cells (HX2.out)
    obtain ⟨y0,y1,y2,y3,y4⟩:=soo_cells (HY2.out)
    cases p2
    · go_wp2_with fail
      go_ret
      exact ⟨false,rfl,by rw [← HEXT.out];exact ⟨fun h=>(by cases h),fun h=>HP2.out.2 h.2.1⟩,HB2.out⟩
    · skip
      have HW3:=Lib.hid (HAR.out _ HB2.out)
      go_wp2_with fail
      go_at_call 68
      refine HW3.out.mono ?_
      rintro e w3 ⟨p3,rfl,hp3,hbel⟩
      have HB3:=Lib.hid (on_below HB2.out hbel)
      have HX3:=Lib.hid ((hbel.block _ (heap_lt HX2.out)).trans HX2.out)
      have HY3:=Lib.hid ((hbel.block _ (heap_lt HY2.out)).trans HY2.out)
      have HP3:=Lib.hid hp3
      clear hbel hp3 HW3 x0 x1 x2 x3 x4 y0 y1 y2 y3 y4
      obtain ⟨x0,x1,x2,x3,x4⟩:=soo_cells (HX3.out)
      obtain ⟨y0,y1,y2,y3,y4⟩:=soo_cells (HY3.out)
      cases p3
      · go_wp2_with fail
        go_ret
        exact ⟨false,rfl,by rw [← HEXT.out];exact ⟨fun h=>(by cases h),fun h=>HP3.out.2 h.2.2.1⟩,HB3.out⟩
      · skip
        have HW4:=Lib.hid (HCH.out _ HB3.out)
        go_wp2_with fail
        go_at_call 67
        refine HW4.out.mono ?_
        rintro e w4 ⟨p4,rfl,hp4,hbel⟩
        have HB4:=Lib.hid (on_below HB3.out hbel)
        have HX4:=Lib.hid ((hbel.block _ (heap_lt HX3.out)).trans HX3.out)
        have HY4:=Lib.hid ((hbel.block _ (heap_lt HY3.out)).trans HY3.out)
        have HP4:=Lib.hid hp4
        clear hbel hp4 HW4 x0 x1 x2 x3 x4 y0 y1 y2 y3 y4
        obtain ⟨x0,x1,x2,x3,x4⟩:=soo_cells (HX4.out)
        obtain ⟨y0,y1,y2,y3,y4⟩:=soo_cells (HY4.out)
        cases p4
        · go_wp2_with fail
          go_ret
          exact ⟨false,rfl,by rw [← HEXT.out];exact ⟨fun h=>(by cases h),fun h=>HP4.out.2 h.2.2.2.1⟩,HB4.out⟩
        · skip
          have HW5:=Lib.hid (HFN.out _ HB4.out)
          go_wp2_with fail
          go_at_call 69
          refine HW5.out.mono ?_
          rintro e w5 ⟨p5,rfl,hp5,hbel⟩
          have HB5:=Lib.hid (on_below HB4.out hbel)
          have HX5:=Lib.hid ((hbel.block _ (heap_lt HX4.out)).trans HX4.out)
          have HY5:=Lib.hid ((hbel.block _ (heap_lt HY4.out)).trans HY4.out)
          have HP5:=Lib.hid hp5
          clear hbel hp5 HW5 x0 x1 x2 x3 x4 y0 y1 y2 y3 y4
          obtain ⟨x0,x1,x2,x3,x4⟩:=soo_cells (HX5.out)
          obtain ⟨y0,y1,y2,y3,y4⟩:=soo_cells (HY5.out)
          cases p5
          · go_wp2_with fail
            go_ret
            exact ⟨false,rfl,by rw [← HEXT.out];exact ⟨fun h=>(by cases h),fun h=>HP5.out.2 h.2.2.2.2⟩,HB5.out⟩
          · go_wp2_with fail
            go_ret
            exact ⟨true,rfl,by rw [← HEXT.out];exact ⟨fun _=>⟨HP1.out.1 (by first | rfl | trivial),HP2.out.1 (by first | rfl | trivial),HP3.out.1 (by first | rfl | trivial),HP4.out.1 (by first | rfl | trivial),HP5.out.1 (by first | rfl | trivial)⟩,fun _=>rfl⟩,HB5.out⟩
end
end Go.Proofs.YtpcniebkabkikaaGreatDoor
namespace Go
theorem step_append_mine {P:Program} {ops:Array Oper} {o:Oper} {a:Act} {w:World} {K:Act→World→Prop} {Q:Exit→Act→World→Prop} {E:Prop}
    (hg:o.guard=none) (s x:Operand) (t:TypeId) (hop:o.op=Op.call { callee:=Callee.builtin Builtin.append,args:=#[s,x],argTypes:=#[t,t] })
    (base:Nat) (e:TypeId) (i:TypeInfo) (z:Value) (size bytes:Nat) (ht:P.underlying t=some (.slice e)) (hi:P.info? e=some i) (hz:i.zero=some z)
    (hsize:i.size=size) (hby:i.bytes=bytes) (hzs:z.cells.size=size) (hsz:0<size)
    (v:Value) (n:Nat) (xs:List Value) (hs:a.eval s=v) (hown:w.ownsRow base e size v n xs)
    (ad:Addr) (m c:Nat) (news:List Value) (hx:a.eval x=.slice (some ad) m c) (hl:news.length=m * size) (hnews:∀ j u,news[j]?=some u→w.cell? (ad.add j)=some u) (h1:∀ u ∈ news,u.oneCell'=true)
    (h63:n+m≤maxLen) (hbytes:(n+m) * bytes≤140737488355328) (hbase:base≤w.heap.size)
    (hK:∀ v' w',w'.ownsRow base e size v' (n+m) (xs++news)→w.grownBy w' v.ownBlock→(v'.ownBlock=v.ownBlock ∨ v'.ownBlock=some w.heap.size)→K (a.put o.dst v') w') :
    if Region.wanted o (yielded ops a.tmps)=true then Oper.wp P o a w K Q else E:=by
  have hw:Region.wanted o (yielded ops a.tmps)=true:=by simp [Region.wanted,hg]
  rw [if_pos hw]
  obtain ⟨v',w',hr,h2,h3,_,h5⟩:=run_append_own_at (P:=P) w base t o.type e i z size bytes ht hi hz hsize hby hzs hsz v n xs hown ad m c news hl hnews h1 h63 hbytes hbase
  unfold Oper.wp
  simp only [hop,execOp,resolve,invoke,builtin,Sem.run_bind,Sem.run_pure,Result.andThen_ok,List.map_toArray,List.map_cons,List.map_nil,hs,hx,hr]
  exact hK v' w' h2 h3 h5
end Go
namespace Go.Proofs.YtpcniebkabkikaaGreatDoor
open Go Go.RowKit Go.Proofs.Mm
theorem infoTms:∃ i,Tryz.prog.info? 37=some i∧i.zero=some (.slice none 0 0)∧i.size=1∧i.bytes=24:=by
  have h:(Tryz.prog.info? 37).map (fun i=>(i.zero,i.size,i.bytes))=some (some (.slice none 0 0),1,24):=by kernel_rfl
  cases hi:Tryz.prog.info? 37 with
  | none=>rw [hi] at h;cases h
  | some i =>
    rw [hi] at h
    simp only [Option.map_some,Option.some.injEq,Prod.mk.injEq] at h
    obtain ⟨e1,e2,e3⟩:=h
    exact ⟨i,rfl,e1,e2,e3⟩
def TmR (m:Mem) (c:List Value) (x:List Syn.Tm):Prop:=∃ u,c=[u]∧TmM m u x
theorem TmR.le {m m':Mem} (hm:m.le m'):∀ c x,TmR m c x→TmR m' c x:=fun _ _ ⟨u,e,h⟩=>⟨u,e,RowM.le h hm⟩
theorem one_slice (q:Option Addr) (n c:Nat):∀ u ∈ [Value.slice q n c],u.oneCell'=true:=by
  intro u hu
  rw [List.mem_singleton] at hu
  subst hu;rfl
def EJ (m0:Mem) (w0:World) (ba b1 bp B:Nat) (acc:List (List Syn.Tm)) (W:World):Prop :=
  ∃ q c cs m',W.heap[ba]?=some (.cells #[.slice q acc.length c] 55 (0,0))∧W.heap[b1]?=some (.cells #[.pointer (some ⟨bp,0,none⟩)] 95 (0,0)) ∧
    W.ownsRow B 37 1 (.slice q acc.length c) acc.length cs∧Enc (TmR m') cs acc∧Has W m'∧m0.More w0 m'∧m' ba=none∧m' b1=none∧m' bp=none∧(∀ k,Value.ownBlock (.slice q acc.length c)=some k→m' k=none)∧w0.heap.size≤W.heap.size
section
variable {ys:List It} {len bp bw i:Nat} {vp:Value} {w:World}
theorem exprs1_end {m0 m':Mem} {w0 W w1 w9:World} {ba b1 B j c c1 c9:Nat} {q q1 q9:Option Addr} {acc:List (List Syn.Tm)} {x:List Syn.Tm} {cs:List Value} (hB:B≤ba) (hba1:ba ≠ b1) (_hBW:B≤W.heap.size) (hnba:¬ ba=bp) (hnb1:¬ b1=bp) (hbp:bp<B)
    (h1:W.heap[ba]?=some (.cells #[.slice q acc.length c] 55 (0,0))) (h3:W.ownsRow B 37 1 (.slice q acc.length c) acc.length cs) (h4:Enc (TmR m') cs acc) (h5:Has W m') (h6:m0.More w0 m') (h7:m' ba=none) (h8:m' b1=none) (h9:m' bp=none) (h10:∀ k,Value.ownBlock (.slice q acc.length c)=some k→m' k=none) (h11:w0.heap.size≤W.heap.size)
    (hcc:Chg (fun k=>k=bp) W w1) (a1:TR w1 (.slice q1 x.length c1) x) (a2:PS ys len bp bw vp w1 j) (a3:∀ k,Value.ownBlock (.slice q1 x.length c1)=some k→W.heap.size≤k)
    (hown9:w9.ownsRow B 37 1 (.slice q9 (acc.length+1) c9) (acc.length+1) (cs++[.slice q1 x.length c1])) (hgrow9:(w1.alloc (.cells #[.slice q1 x.length c1] 37)).grownBy w9 (Value.ownBlock (.slice q acc.length c))) (hat9:Value.ownBlock (.slice q9 (acc.length+1) c9)=Value.ownBlock (.slice q acc.length c) ∨ Value.ownBlock (.slice q9 (acc.length+1) c9)=some (w1.heap.size+1))
    (g1:w9.heap[ba]?=some (.cells #[.slice q acc.length c] 55 (0,0))) (g2:w9.heap[b1]?=some (.cells #[.pointer (some ⟨bp,0,none⟩)] 95 (0,0))) :
    Chg (SB bp B) W (w9.setCell ⟨ba,0,none⟩ (.slice q9 (acc.length+1) c9))∧EJ m0 w0 ba b1 bp B (acc++[x]) (w9.setCell ⟨ba,0,none⟩ (.slice q9 (acc.length+1) c9))∧PS ys len bp bw vp (w9.setCell ⟨ba,0,none⟩ (.slice q9 (acc.length+1) c9)) j:=by
  have hs1:=hcc.size
  have hC9:Chg (fun k=>k=bp ∨ Value.ownBlock (.slice q acc.length c)=some k) W w9:=((hcc.alloc _).mono (fun k e=>.inl (.inl e))).then (grown_chg hgrow9 (fun k e=>.inl (.inr e)))
  have hC:Chg (fun k=>k=bp ∨ Value.ownBlock (.slice q acc.length c)=some k ∨ k=ba) W (w9.setCell ⟨ba,0,none⟩ (.slice q9 (acc.length+1) c9)):=(hC9.mono (fun k e=>.inl (by rcases e with e | e <;> simp [e]))).setCell (p:=⟨ba,0,none⟩) (.inl (.inr (.inr rfl))) _
  have hS:∀ k,(k=bp ∨ Value.ownBlock (.slice q acc.length c)=some k ∨ k=ba)→m' k=none:=by
    rintro k (rfl | e | rfl)
    · exact h9
    · exact h10 k e
    · exact h7
  have h5':Has w1 m':=h5.chg hcc (fun k e=>by subst e;exact h9)
  obtain ⟨m2,d1,d2,d3,d4⟩:=RowM.done a1 h5' (fun k hk=>h5.lt (a3 k hk))
  have hm2:∀ k,k<W.heap.size→m' k=none→m2 k=none:=fun k hk e=>by
    cases e2:m2 k with
    | none=>rfl
    | some o =>
      rcases d2 k (by rw [e2];simp) with e3 | e3
      · exact (e3 e).elim
      · have:=a3 k e3;omega
  have hqlt:∀ k,Value.ownBlock (.slice q acc.length c)=some k→k<W.heap.size:=fun k hk=>(h3.lt k hk).2
  have hbal:=heap_lt h1
  have hCw:Chg (fun k=>Value.ownBlock (.slice q acc.length c)=some k ∨ k=ba) w1 (w9.setCell ⟨ba,0,none⟩ (.slice q9 (acc.length+1) c9)) :=
    ((((Chg.refl _ w1).alloc _).then (grown_chg hgrow9 (fun k e=>.inl (.inl e)))).setCell (p:=⟨ba,0,none⟩) (.inl (.inr rfl)) _)
  have hH:Has (w9.setCell ⟨ba,0,none⟩ (.slice q9 (acc.length+1) c9)) m2:=d3.chg hCw (fun k e=>by
    rcases e with e | rfl
    · exact hm2 k (hqlt k e) (h10 k e)
    · exact hm2 _ hbal h7)
  have hb1w:b1<W.heap.size ∨ m2 b1=none:=by
    rcases Nat.lt_or_ge b1 W.heap.size with e | e
    · exact .inl e
    · right
      cases e2:m2 b1 with
      | none=>rfl
      | some o =>
        have hx:=d3 b1 o e2
        rcases d2 b1 (by rw [e2];simp) with e3 | e3
        · exact (e3 h8).elim
        · obtain ⟨cur,hcu⟩:=own_type a1 e3
          have:=hC9.size
          have h9':=((Chg.refl (fun k=>Value.ownBlock (.slice q acc.length c)=some k) w1).alloc (.cells #[.slice q1 x.length c1] 37)).then (grown_chg hgrow9 (fun k e=>.inl e))
          have:=h9'.heap hcu (fun e4=>by have:=hqlt _ e4;omega)
          rw [g2] at this;simp at this
  refine ⟨hC.mono (fun k e=>?_),⟨q9,c9,cs++[.slice q1 x.length c1],m2,?_,heap_other g2 (fun e=>hba1 e.symm),?_,(h4.mono (TmR.le d1)).app (Enc.one (show TmR m2 [.slice q1 x.length c1] x from ⟨_,rfl,d4⟩)),hH,⟨h6.le.trans d1,fun k e hk=>hm2 k (by omega) (h6.new k e hk)⟩,hm2 _ hbal h7,?_,hm2 _ (by omega) h9,?_,?_⟩,?_⟩
  · rcases e with rfl | e | rfl
    · exact .inl (.inl rfl)
    · exact .inl (.inr (h3.lt k e).1)
    · exact .inl (.inr hB)
  · rw [List.length_append,List.length_singleton];exact heap_set g1 0 _
  · rw [List.length_append,List.length_singleton]
    exact own_chg hown9 ((Chg.refl (fun k=>k=ba) w9).setCell (p:=⟨ba,0,none⟩) (.inl rfl) _) (fun k hk e=>by
      subst e
      obtain ⟨cur,hcu⟩:=own_type hown9 hk
      rw [g1] at hcu;simp at hcu)
  · rcases hb1w with e | e
    · exact hm2 _ e h8
    · exact e
  · rw [List.length_append,List.length_singleton]
    intro k hk
    rcases hat9 with e | e
    · rw [e] at hk;exact hm2 k (hqlt k hk) (h10 k hk)
    · rw [e] at hk
      obtain rfl:w1.heap.size+1=k:=by simpa using hk
      exact d3.lt (by omega)
  · have:=hC.size;omega
  · refine a2.chg hCw (fun e=>?_) (fun e=>?_)
    · rcases e with e | e
      · have:=(h3.lt _ e).1;omega
      · exact hnba e.symm
    · rcases e with e | e
      · obtain ⟨arr,b2,_⟩:=a2.toks
        obtain ⟨cur,hcu⟩:=own_type h3 e
        have h9':=hcc.heap hcu (fun e5=>by have:=(h3.lt _ e).1;omega)
        rw [b2] at h9';simp at h9'
      · obtain ⟨arr,b2,_⟩:=a2.toks
        have h9':=hcc.heap h1 hnba
        rw [← e,b2] at h9';simp at h9'
set_option maxRecDepth 100000 in
set_option maxHeartbeats 1000000 in
theorem exprs1_any (hw:Ws ys) {m0:Mem} {w0:World} {ba b1 B:Nat} (hB:B≤ba) (hbp:bp<B) (hba1:ba ≠ b1) :
    ItOk ys len bp bw B vp 192 #[.pointer (some ⟨ba,0,none⟩),.pointer (some ⟨b1,0,none⟩)] (EJ m0 w0 ba b1 bp B) (Syn.expr (Tk ys) (ys.length+1)):=by
  intro W i acc hJ hp hBW hb
  obtain ⟨q,c,cs,m',h1,h2,h3,h4,h5,h6,h7,h8,h9,h10,h11⟩:=hJ
  obtain ⟨j0,hj0,hy0,hy1,hy2⟩:=infoTms
  have hc1:=cell_of (j:=0) h1 rfl
  have hf1:=free_of (j:=0) h1
  have hc2:=cell_of (j:=0) h2 rfl
  have hlt1:=heap_lt h1
  have hlt2:=heap_lt h2
  have hpd:PS ys len bp bw vp W.drew i:=hp.chg (S:=fun _=>False) (Chg.refl _ _).drew id id
  have hmx:Tryz.prog.follows .mixedOrders=true:=by kernel_rfl
  have hnba:¬ ba=bp:=by omega
  have hnb1:¬ b1=bp:=fun e=>by
    subst e
    obtain ⟨⟨c',a1,_⟩,_⟩:=hp
    rw [h2] at a1;simp at a1
  have HE:=Lib.hid (expr_any hw hpd)
  cases hri:Syn.expr (Tk ys) (ys.length+1) i with
  | error q0 =>
    obtain ⟨er,k⟩:=q0
    have HRI:=Lib.hid hri
    clear hri
    have hS0:W.drew.cell? ⟨ba,0,none⟩=some (.slice q acc.length c)∧W.drew.cell? ⟨b1,0,none⟩=some (.pointer (some ⟨bp,0,none⟩)):=⟨hc1,hc2⟩
    go_enter Tryz.func192,Tryz.ntmps192
    refine wp_region_held_drew (S:=fun w'=>w'.cell? ⟨ba,0,none⟩=some (.slice q acc.length c)∧w'.cell? ⟨b1,0,none⟩=some (.pointer (some ⟨bp,0,none⟩))) hmx hS0 (fun hHeld=>?_)
    refine wpAnyH_take (i:=0) (v:=.slice q acc.length c) rfl (by kernel_rfl) (by kernel_rfl) (by kernel_rfl) (fun _ _ _ h=>h) (Or.inl ⟨by rfl,fun w hSw=>by obtain ⟨s1,s2⟩:=hSw;go_simp⟩) (by assumption) ?_
    simp only [Act.put,List.setIfInBounds_toArray,List.set_cons_zero,List.set_cons_succ,List.getElem_toArray,List.getElem_cons_zero]
    refine wpAnyH_take (i:=1) (v:=.pointer (some ⟨bp,0,none⟩)) rfl (by kernel_rfl) (by kernel_rfl) (by kernel_rfl) (fun _ _ _ h=>h) (Or.inl ⟨by rfl,fun w hSw=>by obtain ⟨s1,s2⟩:=hSw;go_simp⟩) (by assumption) ?_
    simp only [Act.put,List.setIfInBounds_toArray,List.set_cons_zero,List.set_cons_succ,List.getElem_toArray,List.getElem_cons_zero,List.getElem_cons_succ]
    refine wpAnyH_ready (rs:=[2]) (by kernel_rfl) (by simp) ?_
    refine AllReadyH.cons rfl (fun K hK=>?_) AllReadyH.nil
    go_simp
    go_at_call 56
    refine HE.out.mono ?_
    rw [HRI.out]
    rintro e w' ⟨hcc,rfl⟩
    exact ⟨rfl,((Chg.refl (SB bp B) W).drew).then (sb_of hcc),rfl⟩
  | ok q0 =>
    obtain ⟨x,j⟩:=q0
    have HRI:=Lib.hid hri
    clear hri
    have HROW:=Lib.hid (fun w1 (hc:Chg (fun k=>k=bp) W.drew w1)=>own_chg (w:=W.drew) (w':=w1) (xs:=cs) (v:=.slice q acc.length c) (n:=acc.length) (size:=1) (B:=B) (E:=37) (show W.drew.ownsRow B 37 1 (.slice q acc.length c) acc.length cs from h3) hc (fun k hk e=>by have:=(h3.lt k hk).1;omega))
    have HAPP:=Lib.hid (fun w1 w9 (u:Value) (hc:Chg (fun k=>k=bp) W.drew w1) (hg:(w1.alloc (.cells #[u] 37)).grownBy w9 (Value.ownBlock (.slice q acc.length c)))=>by
      have hcc:Chg (fun k=>k=bp ∨ Value.ownBlock (.slice q acc.length c)=some k) W.drew w9:=((hc.alloc _).mono (fun k e=>.inl (.inl e))).then (grown_chg hg (fun k e=>.inl (.inr e)))
      have n1:∀ (k:Nat) (arr:Array Value) (E:TypeId),W.heap[k]?=some (.cells arr E (0,0))→E ≠ 37→k ≠ bp→w9.heap[k]?=some (.cells arr E (0,0)):=fun k arr E hk hE hkb =>
        hcc.heap (show W.drew.heap[k]?=_ from hk) (fun e=>by
          rcases e with e | e
          · exact hkb e
          · obtain ⟨cur,hcu⟩:=own_type h3 e
            rw [hk] at hcu
            simp only [Option.some.injEq,Obj.cells.injEq] at hcu
            exact hE hcu.2.1)
      exact (⟨n1 ba _ _ h1 (by decide) hnba,n1 b1 _ _ h2 (by decide) hnb1⟩:w9.heap[ba]?=some (.cells #[.slice q acc.length c] 55 (0,0))∧w9.heap[b1]?=some (.cells #[.pointer (some ⟨bp,0,none⟩)] 95 (0,0))))
    go_enter Tryz.func192,Tryz.ntmps192
    go_region_law
      (first
        | (go_simp;go_at_call 56;refine HE.out.mono ?_;rw [HRI.out];rintro e w1 ⟨hcc,v1,rfl,a1,a2,a3⟩;obtain ⟨q1,c1,rfl⟩:=own_shape a1;have k1:=hcc.cell (show W.drew.cell? ⟨ba,0,none⟩=_ from hc1) hnba;have k2:=hcc.cell (show W.drew.cell? ⟨b1,0,none⟩=_ from hc2) hnb1;have p1:=hcc.heap (show W.drew.heap[ba]?=_ from h1) hnba;have p2:=hcc.heap (show W.drew.heap[b1]?=_ from h2) hnb1;have k3:=free_of (j:=0) p1;have kk:=And.intro (cell_of (j:=0) (heap_new _ (.cells #[.slice q1 x.length c1] 37) p1) rfl) (And.intro (cell_of (j:=0) (heap_new _ (.cells #[.slice q1 x.length c1] 37) p2) rfl) (free_of (j:=0) (heap_new _ (.cells #[.slice q1 x.length c1] 37) p1))))
        | (refine step_append_mine rfl (.tmp 2) (.tmp 5) 55 rfl B 37 j0 (.slice none 0 0) 1 24 Tryz.underlying55 hj0 hy0 hy1 hy2 rfl (by decide) (.slice q acc.length c) acc.length cs (by simp [Act.eval]) ((HROW.out _ hcc).alloc _) ⟨_,0,none⟩ 1 1 [.slice q1 x.length c1] (by simp [Act.eval]) rfl (row_new _ [.slice q1 x.length c1] 37) (one_slice _ _ _) (by unfold maxLen;omega) (by omega) (Nat.le_trans hBW (Nat.le_trans hcc.size (by simp))) ?_;intro v9 w9 hown9 hgrow9 hat9;obtain ⟨q9,c9,rfl⟩:=own_shape hown9;obtain ⟨g1,g2⟩:=HAPP.out _ _ _ hcc hgrow9;have k4:=cell_of (j:=0) g1 rfl;have k5:=cell_of (j:=0) g2 rfl;have k6:=free_of (j:=0) g1))
    all_goals
      go_end0
      obtain ⟨r1,r2,r3⟩:=exprs1_end (m0:=m0) (w0:=w0) hB hba1 hBW hnba hnb1 hbp h1 h3 h4 h5 h6 h7 h8 h9 h10 h11 (show Chg (fun k=>k=bp) W w1 from ((Chg.refl _ W).drew).then hcc) a1 a2 a3 hown9 hgrow9 (by simpa using hat9) g1 g2
      exact ⟨r1,⟨rfl,r2⟩,r3⟩
end
end Go.Proofs.YtpcniebkabkikaaGreatDoor
namespace Go.Proofs.YtpcniebkabkikaaGreatDoor
open Go Go.RowKit Go.Proofs.Mm
theorem list_ls (T:Nat→Option Syn.K) (F:Nat) (fin:List Nat) (i:Nat):Syn.list T F fin i=ls T F (Syn.expr T F) fin i:=by
  unfold Syn.list ls
  rw [listF_ls]
section
variable {ys:List It} {len bp bw i:Nat} {vp:Value} {w:World}
def ExOk (ys:List It) (len bp bw:Nat) (vp:Value) (m:Mem) (w:World) (es:List (List Syn.Tm)) (j:Nat) (e:Ending) (w':World):Prop :=
  ∃ v m',e=.returned v∧m.More w m'∧Has w' m'∧m' bp=none∧ExM m' v es∧PS ys len bp bw vp w' j
theorem ej_done {m0:Mem} {w0 W:World} {ba b1 B:Nat} {acc:List (List Syn.Tm)} (h:EJ m0 w0 ba b1 bp B acc W) (hB:B=w0.heap.size) (hbp:bp<w0.heap.size) :
    ∃ q c,W.heap[ba]?=some (.cells #[.slice q acc.length c] 55 (0,0))∧∃ m',m0.More w0 m'∧Has W m'∧m' bp=none∧ExM m' (.slice q acc.length c) acc:=by
  obtain ⟨q,c,cs,m',h1,h2,h3,h4,h5,h6,h7,h8,h9,h10,h11⟩:=h
  obtain ⟨m2,d1,d2,d3,d4⟩:=RowM.done h3 h5 h10
  refine ⟨q,c,h1,m2,⟨h6.le.trans d1,fun k e hk=>?_⟩,d3,?_,cs,d4,h4.mono (TmR.le d1)⟩
  · cases e2:m2 k with
    | none=>rfl
    | some o =>
      rcases d2 k (by rw [e2];simp) with e3 | e3
      · exact (e3 (h6.new k e hk)).elim
      · have:=(h3.lt k e3).1;omega
  · cases e2:m2 bp with
    | none=>rfl
    | some o =>
      rcases d2 bp (by rw [e2];simp) with e3 | e3
      · exact (e3 h9).elim
      · have:=(h3.lt bp e3).1;omega
theorem exprs_facts {m:Mem} (h:PS ys len bp bw vp w i) (hm:Has w m) (hbm:m bp=none) :
    PS ys len bp bw vp ((w.alloc (.cells #[.pointer (some ⟨bp,0,none⟩)] 95)).alloc (.cells #[.slice none 0 0] 55)) i ∧
    EJ m w (w.heap.size+1) w.heap.size bp w.heap.size [] ((w.alloc (.cells #[.pointer (some ⟨bp,0,none⟩)] 95)).alloc (.cells #[.slice none 0 0] 55)) ∧
    (∀ l W i W',EJ m w (w.heap.size+1) w.heap.size bp w.heap.size l W→PS ys len bp bw vp W i→Chg (fun k=>k=bp) W W'→EJ m w (w.heap.size+1) w.heap.size bp w.heap.size l W'):=by
  obtain ⟨hlt,hlb⟩:=h.lt
  have hC0:Chg (fun _=>False) w ((w.alloc (.cells #[.pointer (some ⟨bp,0,none⟩)] 95)).alloc (.cells #[.slice none 0 0] 55)):=((Chg.refl _ w).alloc _).alloc _
  have hm2:=hm.chg hC0 (fun k e=>e.elim)
  have hz1:m (w.heap.size+1)=none:=hm.lt (by omega)
  have hz2:m w.heap.size=none:=hm.lt (Nat.le_refl _)
  have hsz0:w.heap.size≤((w.alloc (.cells #[.pointer (some ⟨bp,0,none⟩)] 95)).alloc (.cells #[.slice none 0 0] 55)).heap.size:=hC0.size
  refine ⟨(h.alloc _).alloc _,⟨none,0,[],m,?_,heap_new _ _ (World.alloc_heap_new w _),World.ownsRow_nil _ _ _ _,Enc.nil,hm2,Mem.More.refl _ _,hz1,hz2,hbm,(fun k e=>by cases e),hsz0⟩,?_⟩
  · have:=World.alloc_heap_new (w.alloc (.cells #[.pointer (some ⟨bp,0,none⟩)] 95)) (.cells #[.slice none 0 0] 55)
    rwa [World.size_alloc] at this
  · rintro l W i W' ⟨q,c,cs,m',h1,h2,h3,h4,h5,h6,h7,h8,h9,h10,h11⟩ hp hc
    have hsz:=hc.size
    exact ⟨q,c,cs,m',hc.heap h1 (by omega),hc.heap h2 (by omega),own_chg h3 hc (fun k hk e=>by have:=(h3.lt k hk).1;omega),h4,h5.chg hc (fun k e=>by subst e;exact h9),h6,h7,h8,h9,h10,by omega⟩
set_option maxRecDepth 100000 in
theorem exprs_any (hw:Ws ys) (h:PS ys len bp bw vp w i) (s:ByteArray) (hs:Mk (bl s)=true) (hs44:bl s ≠ [44]) {m:Mem} (hm:Has w m) (hbm:m bp=none) :
    Calls Tryz.prog 157 #[.pointer (some ⟨bp,0,none⟩),.string s] w (Ret ys len (fun k=>k=bp) w (Syn.list (Tk ys) (ys.length+1) (bl s) i) (ExOk ys len bp bw vp m w)):=by
  obtain ⟨hlt,hlb⟩:=h.lt
  obtain ⟨f1,f2,f3⟩:=exprs_facts (w:=w) h hm hbm
  have hlist:=list_any (len:=len) (bp:=bp) (bw:=bw) (vp:=vp) hw f1 (B:=w.heap.size) (by simp;omega) hlb hlt s hs hs44 (K:=192) (caps:=#[.pointer (some ⟨w.heap.size+1,0,none⟩),.pointer (some ⟨w.heap.size,0,none⟩)]) (enters_of Tryz.func192 (by kernel_rfl) rfl) (J:=EJ m w (w.heap.size+1) w.heap.size bp w.heap.size)
    (Syn.expr_fit (tk_nones ys) (by omega) 12) f3 (exprs1_any hw (by omega) hlt (by omega)) f2
  rw [list_ls]
  have hmf:∀ (fn:Fn) (first cap:Array Value) (w:World),(Instr.makeFunc fn first cap).run Tryz.prog w=.ok (.func fn first cap) w:=fun _ _ _ _=>rfl
  have hC0:Chg (fun k=>k=bp) w ((w.alloc (.cells #[.pointer (some ⟨bp,0,none⟩)] 95)).alloc (.cells #[.slice none 0 0] 55)):=((Chg.refl _ w).alloc _).alloc _
  have hSB:∀ {a b:World},Chg (SB bp w.heap.size) a b→w.heap.size≤a.heap.size→Chg (fun k=>k=bp ∨ w.heap.size≤k) a b:=fun hc _=>hc
  change Calls _ _ _ _ (Ret ys len _ w (ls (Tk ys) (ys.length+1) (Syn.expr (Tk ys) (ys.length+1)) (bl s) i) _)
  change Calls _ _ _ _ (Ret ys len _ _ (ls (Tk ys) (ys.length+1) (Syn.expr (Tk ys) (ys.length+1)) (bl s) i) _) at hlist
  obtain ⟨RR,hRR⟩:∃ RR,ls (Tk ys) (ys.length+1) (Syn.expr (Tk ys) (ys.length+1)) (bl s) i=RR:=⟨_,rfl⟩
  rw [hRR] at hlist ⊢
  clear hRR f3
  cases RR with
  | error q =>
    go_enter Tryz.func157,Tryz.ntmps157
    go_wp2_with (go_at_call 153;refine hlist.mono ?_;rintro e w1 ⟨hc,rfl⟩)
    exact ⟨rfl,hC0.trans hc (fun k e=>by rcases e with e | e;exact .inl e;exact .inr e),rfl⟩
  | ok q =>
    obtain ⟨es,j⟩:=q
    go_enter Tryz.func157,Tryz.ntmps157
    go_wp2_with fail
    go_at_call 153
    refine hlist.mono ?_
    rintro e w1 ⟨hc,⟨rfl,hej⟩,hp⟩
    obtain ⟨q,c,g1,m',g2,g3,g4,g5⟩:=ej_done hej rfl hlt
    have hcell:=cell_of (j:=0) g1 rfl
    have HEND:=Lib.hid (show Chg (fun k=>k=bp) w w1∧ExOk ys len bp bw vp m w es j (.returned (.slice q es.length c)) w1 from
      ⟨hC0.trans hc (fun k e=>by rcases e with e | e;exact .inl e;exact .inr e),_,m',rfl,g2,g3,g4,g5,hp⟩)
    clear g2 g3 g4 g5 hej hc hC0 hp g1
    go_wp2
    go_ret
    exact HEND.out
end
end Go.Proofs.YtpcniebkabkikaaGreatDoor
namespace Go.Proofs.YtpcniebkabkikaaGreatDoor
open Go Go.RowKit Go.Proofs.Mm
section
variable {ys:List It} {len bp bw i:Nat} {vp:Value} {w:World} {α:Type}
theorem ret_cases {K:FuncId} {args:Array Value} {S:Nat→Prop} {r:Syn.R α} {ok:α→Nat→Ending→World→Prop} (h:Calls Tryz.prog K args w (Ret ys len S w r ok)) :
    Calls Tryz.prog K args w fun e w'=>Chg S w w'∧((∃ er k,r=.error (er,k)∧e=.panicked (gv er ((tk ys len k).a:Nat))) ∨ ∃ x j,r=.ok (x,j)∧ok x j e w'):=by
  refine h.mono fun e w' ⟨h1,h2⟩=>⟨h1,?_⟩
  cases r with
  | error q=>exact .inl ⟨q.1,q.2,rfl,h2⟩
  | ok q=>exact .inr ⟨q.1,q.2,rfl,h2⟩
theorem ret_err {S:Nat→Prop} {r:Syn.R α} {ok:α→Nat→Ending→World→Prop} {w':World} {er k:Nat} (h:r=.error (er,k)) (hC:Chg S w w'):Ret ys len S w r ok (.panicked (gv er ((tk ys len k).a:Nat))) w':=by
  rw [h];exact ⟨hC,rfl⟩
theorem ret_ok {S:Nat→Prop} {r:Syn.R α} {ok:α→Nat→Ending→World→Prop} {w':World} {x:α} {j:Nat} {e:Ending} (h:r=.ok (x,j)) (hC:Chg S w w') (h2:ok x j e w'):Ret ys len S w r ok e w':=by
  rw [h];exact ⟨hC,h2⟩
theorem want_at (hw:Ws ys) (h:PS ys len bp bw vp w i) (s:ByteArray) (hs:Mk (bl s)=true) :
    Calls Tryz.prog 149 #[.pointer (some ⟨bp,0,none⟩),.string s] w fun e w'=>Chg (fun k=>k=bp) w w'∧((Syn.want (Tk ys) i (bl s)=.error (50,i)∧e=.panicked (gv (50:Nat) ((tk ys len i).a:Nat))) ∨ (Syn.want (Tk ys) i (bl s)=.ok ((),i+1)∧e=.returned (.tuple #[])∧PS ys len bp bw vp w' (i+1))):=by
  cases hx:Syn.is (Tk ys) i (bl s) with
  | true =>
    refine (want_yes h (lt_of_is hx) s (by rw [eq_text,is_text hw len i hs];exact hx)).mono ?_
    rintro e w' ⟨rfl,hc,hp⟩
    exact ⟨hc,.inr ⟨if_pos hx,rfl,hp⟩⟩
  | false =>
    refine (want_no h s (by rw [eq_text,is_text hw len i hs];exact hx) (fun k=>k=bp)).mono ?_
    rintro e w' ⟨rfl,hc⟩
    exact ⟨hc,.inl ⟨if_neg (by rw [hx];simp),rfl⟩⟩
theorem name_at (h:PS ys len bp bw vp w i) :
    Calls Tryz.prog 150 #[.pointer (some ⟨bp,0,none⟩)] w fun e w'=>Chg (fun k=>k=bp) w w'∧((Syn.name (Tk ys) i=.error (50,i)∧e=.panicked (gv (50:Nat) ((tk ys len i).a:Nat))) ∨ (Syn.name (Tk ys) i=.ok (bl (tk ys len i).t,i+1)∧e=.returned (.string (tk ys len i).t)∧PS ys len bp bw vp w' (i+1))):=by
  cases hx:Syn.named (Tk ys) i with
  | true =>
    refine (name_one h hx).mono ?_
    rintro e w' ⟨rfl,hc,hp⟩
    exact ⟨hc,.inr ⟨name_yes len hx,rfl,hp⟩⟩
  | false =>
    refine (name_none h hx (fun k=>k=bp) rfl).mono ?_
    rintro e w' ⟨rfl,hc⟩
    exact ⟨hc,.inl ⟨name_no hx,rfl⟩⟩
theorem expr_at (hw:Ws ys) (h:PS ys len bp bw vp w i) {m:Mem} (hm:Has w m) (hbm:m bp=none) :
    Calls Tryz.prog 56 #[.pointer (some ⟨bp,0,none⟩)] w fun e w'=>Chg (fun k=>k=bp) w w'∧((∃ er k,Syn.expr (Tk ys) (ys.length+1) i=.error (er,k)∧e=.panicked (gv er ((tk ys len k).a:Nat))) ∨
      ∃ l j q c m',Syn.expr (Tk ys) (ys.length+1) i=.ok (l,j)∧e=.returned (.slice q l.length c)∧m.More w m'∧Has w' m'∧m' bp=none∧TmM m' (.slice q l.length c) l∧PS ys len bp bw vp w' j):=by
  refine (ret_cases (expr_any hw h)).mono ?_
  rintro e w' ⟨hc,⟨er,k,h1,h2⟩ | ⟨l,j,h1,v,rfl,h3,h4,h5⟩⟩
  · exact ⟨hc,.inl ⟨er,k,h1,h2⟩⟩
  · obtain ⟨q,c,rfl⟩:=own_shape h3
    obtain ⟨m2,d1,d2,d3,d4⟩:=RowM.done h3 (hm.chg hc (fun k e=>by subst e;exact hbm)) (fun k hk=>hm.lt (h5 k hk))
    have hnew:∀ k,m k=none→k<w.heap.size→m2 k=none:=fun k e hk=>by
      cases e2:m2 k with
      | none=>rfl
      | some o =>
        rcases d2 k (by rw [e2];simp) with e3 | e3
        · exact (e3 e).elim
        · have:=h5 k e3;omega
    exact ⟨hc,.inr ⟨l,j,q,c,m2,h1,rfl,⟨d1,hnew⟩,d3,hnew bp hbm h.lt.1,d4,h4⟩⟩
theorem put_new {m:Mem} {W:World} (hm:Has W m) (o:Obj):Has (W.alloc o) (m.put W.heap.size o)∧m.More W (m.put W.heap.size o)∧(m.put W.heap.size o) W.heap.size=some o :=
  ⟨(hm.chg ((Chg.refl (fun _=>False) W).alloc o) (fun _ e=>e.elim)).put (World.alloc_heap_new W o),Mem.More.put (hm.lt (Nat.le_refl _)) (Nat.le_refl _),Mem.put_same _ _ _⟩
theorem ex_one {m:Mem} {g:Nat} {u:Value} {l:List Syn.Tm} (hg:m g=some (.cells #[u] 37 (0,0))) (h:TmM m u l):ExM m (.slice (some ⟨g,0,none⟩) 1 1) [l] :=
  ⟨[u],⟨rfl,.inr ⟨g,1,#[u],rfl,hg,Nat.le_refl _,by simp [maxLen],rfl,rfl⟩⟩,[u],[],rfl,⟨u,rfl,h⟩,rfl⟩
theorem ex_two {m:Mem} {g:Nat} {u v:Value} {l r:List Syn.Tm} (hg:m g=some (.cells #[u,v] 37 (0,0))) (h:TmM m u l) (h':TmM m v r):ExM m (.slice (some ⟨g,0,none⟩) 2 2) [l,r] :=
  ⟨[u,v],⟨rfl,.inr ⟨g,2,#[u,v],rfl,hg,Nat.le_refl _,by simp [maxLen],rfl,rfl⟩⟩,[u],[v],rfl,⟨u,rfl,h⟩,[v],[],rfl,⟨v,rfl,h'⟩,rfl⟩
theorem ex_nil (m:Mem):ExM m (.slice none 0 0) []:=⟨[],RowM.nil _ _ _,rfl⟩
theorem str_nil (m:Mem):StrM m (.slice none 0 0) []:=RowM.nil _ _ _
def SOk (ys:List It) (len bp bw:Nat) (vp:Value) (m:Mem) (w:World) (st:Syn.St) (j:Nat) (e:Ending) (w':World):Prop :=
  ∃ vt ve m',e=.returned (.agg #[.int .i64 (st.kind:Int),.string (sb st.name),vt,ve])∧m.More w m'∧Has w' m'∧m' bp=none∧StrM m' vt st.targets∧ExM m' ve st.exprs∧PS ys len bp bw vp w' j
theorem mk_59:Mk (bl ⟨#[59]⟩)=true:=by decide
theorem mk_61:Mk (bl ⟨#[61]⟩)=true:=by decide
def callP (T:Nat→Option Syn.K) (F:Nat) (ts:List (List Nat)) (s:List Nat) (i:Nat):Syn.R Syn.St :=
  (Syn.list T F [41] i).on fun l i=>(Syn.want T i [59]).on fun _ i=>.ok (⟨4,s,ts,l⟩,i)
def stmtZ:Obj:=.cells #[.int .i64 0,.string ⟨#[]⟩,.slice none 0 0,.slice none 0 0] 57
theorem chg_four {S:Nat→Prop} {a w:World} (h:Chg S a w) {g:Nat} (hg:S g ∨ a.heap.size≤g) (x0 x1 x2 x3:Value) :
    Chg S a ((((w.setCell ⟨g,0,none⟩ x0).setCell ⟨g,1,none⟩ x1).setCell ⟨g,2,none⟩ x2).setCell ⟨g,3,none⟩ x3):=chg_set4 h hg x0 x1 x2 x3
theorem four_cells {W:World} {g:Nat} {x0 x1 x2 x3:Value} {T:TypeId} (h:W.heap[g]?=some (.cells #[x0,x1,x2,x3] T (0,0))) :
    W.cell? ⟨g,0,none⟩=some x0∧W.cell? ⟨g,1,none⟩=some x1∧W.cell? ⟨g,2,none⟩=some x2∧W.cell? ⟨g,3,none⟩=some x3∧W.frozen? ⟨g,0,none⟩=false∧W.frozen? ⟨g,1,none⟩=false∧W.frozen? ⟨g,2,none⟩=false∧W.frozen? ⟨g,3,none⟩=false :=
  ⟨cell_of h rfl,cell_of h rfl,cell_of h rfl,cell_of h rfl,free_of h,free_of h,free_of h,free_of h⟩
theorem sok_end {m m3:Mem} {w w3:World} {vt ve:Value} {st:Syn.St} {j:Nat} (C:Chg (fun k=>k=bp) w w3) (hmo:m.More w m3) (hH:Has w3 m3) (hb:m3 bp=none) (hRm:m3 w.heap.size=none) (ht:StrM m3 vt st.targets) (hex:ExM m3 ve st.exprs) (hp:PS ys len bp bw vp w3 j) (hne:¬ w.heap.size=bp) (hbw:bw<w.heap.size) (x0 x1 x2 x3:Value) :
    Chg (fun k=>k=bp) w ((((w3.setCell ⟨w.heap.size,0,none⟩ x0).setCell ⟨w.heap.size,1,none⟩ x1).setCell ⟨w.heap.size,2,none⟩ x2).setCell ⟨w.heap.size,3,none⟩ x3) ∧
    SOk ys len bp bw vp m w st j (.returned (.agg #[.int .i64 (st.kind:Int),.string (sb st.name),vt,ve])) ((((w3.setCell ⟨w.heap.size,0,none⟩ x0).setCell ⟨w.heap.size,1,none⟩ x1).setCell ⟨w.heap.size,2,none⟩ x2).setCell ⟨w.heap.size,3,none⟩ x3):=by
  have hc:=chg_four (Chg.refl (fun k=>k=w.heap.size) w3) (.inl rfl) x0 x1 x2 x3
  exact ⟨chg_four C (.inr (Nat.le_refl _)) _ _ _ _,vt,ve,m3,rfl,hmo,hH.chg hc (fun k e=>by subst e;exact hRm),hb,ht,hex,hp.chg hc (fun e=>hne e.symm) (by omega)⟩
set_option maxRecDepth 100000 in
set_option maxHeartbeats 1000000 in
theorem call_any (hw:Ws ys) (h:PS ys len bp bw vp w i) {m:Mem} (hm:Has w m) (hbm:m bp=none) (s:ByteArray) {qt:Option Addr} {nt ct:Nat} {ts:List (List Nat)} (ht:StrM m (.slice qt nt ct) ts) :
    Calls Tryz.prog 227 #[.pointer (some ⟨bp,0,none⟩),.string s,.slice qt nt ct] w (Ret ys len (fun k=>k=bp) w (callP (Tk ys) (ys.length+1) ts (bl s) i) (SOk ys len bp bw vp m w)):=by
  obtain ⟨hlt,hlb⟩:=h.lt
  have h1:=ret_cases (exprs_any hw (h.alloc stmtZ) ⟨#[41]⟩ mk_41 (by decide) (hm.chg ((Chg.refl (fun _=>False) w).alloc stmtZ) (fun _ e=>e.elim)) hbm)
  obtain ⟨RR,hRR⟩:∃ RR,callP (Tk ys) (ys.length+1) ts (bl s) i=RR:=⟨_,rfl⟩
  rw [hRR]
  have H0:=Lib.hid hRR
  have C0:=Lib.hid ((Chg.refl (fun k=>k=bp) w).alloc stmtZ)
  have Hm:=Lib.hid hm
  have HT:=Lib.hid ht
  have hne:¬ w.heap.size=bp:=by omega
  clear hRR h hm ht
  unfold stmtZ at h1 C0
  go_enter Tryz.func227,Tryz.ntmps227
  go_wp2_with fail
  go_at_call 157
  refine h1.mono ?_
  rintro e w1 ⟨hc1,⟨er,k,hr,rfl⟩ | ⟨es,j,hr,ve,m1,rfl,hmo,hH,hb1,hex,hp1⟩⟩
  · exact ⟨rfl,ret_err (by rw [← H0.out];unfold callP;rw [show ([41]:List Nat)=bl ⟨#[41]⟩ from rfl,hr];rfl) (C0.out.then hc1)⟩
  · have C1:=Lib.hid (C0.out.then hc1)
    have H1:=Lib.hid (show (Syn.want (Tk ys) j [59]).on (fun _ i=>.ok ((⟨4,bl s,ts,es⟩:Syn.St),i))=RR from by rw [← H0.out];unfold callP;rw [show ([41]:List Nat)=bl ⟨#[41]⟩ from rfl,hr];rfl)
    have hres:=hc1.heap (World.alloc_heap_new w (.cells #[.int .i64 0,.string ⟨#[]⟩,.slice none 0 0,.slice none 0 0] 57)) hne
    obtain ⟨qe,ne,ce,rfl⟩:∃ q n c,ve=.slice q n c:=by
      obtain ⟨cs,⟨_,⟨rfl,_⟩ | ⟨g,cap,cur,rfl,_⟩⟩,_⟩:=hex
      · exact ⟨_,_,_,rfl⟩
      · exact ⟨_,_,_,rfl⟩
    have EX:=Lib.hid hex
    have HH:=Lib.hid hH
    have MO:=Lib.hid hmo
    have HP1:=Lib.hid hp1
    have HRES:=Lib.hid hres
    clear hc1 hr hex hH hmo hp1 hres h1
    have hS:=Lib.hid (want_at hw (HP1.out.alloc (.cells #[.int .i64 4,.string s,.slice qt nt ct,.slice qe ne ce] 57)) ⟨#[59]⟩ mk_59)
    have hbl:=heap_lt HRES.out
    have hsN:=World.alloc_heap_new w1 (.cells #[.int .i64 4,.string s,.slice qt nt ct,.slice qe ne ce] 57)
    go_wp2_with fail
    go_at_call 149
    refine hS.out.mono ?_
    rintro e w3 ⟨hc3,⟨hr,rfl⟩ | ⟨hr,rfl,hp3⟩⟩
    · exact ⟨rfl,ret_err (by rw [← H1.out,show ([59]:List Nat)=bl ⟨#[59]⟩ from rfl,hr];rfl) ((C1.out.alloc _).then hc3)⟩
    · have HE:=Lib.hid (show (.ok ((⟨4,bl s,ts,es⟩:Syn.St),j+1))=RR from by rw [← H1.out,show ([59]:List Nat)=bl ⟨#[59]⟩ from rfl,hr];rfl)
      have hnes:¬ w1.heap.size=bp:=by have:=HP1.out.lt;omega
      obtain ⟨r0,r1,r2,r3,f0,f1,f2,f3⟩:=four_cells (hc3.heap (heap_new w1 (.cells #[.int .i64 4,.string s,.slice qt nt ct,.slice qe ne ce] 57) HRES.out) hne)
      obtain ⟨s0,s1,s2,s3,_,_,_,_⟩:=four_cells (hc3.heap hsN hnes)
      have hz1:m1 w.heap.size=none:=MO.out.new _ (Hm.out.lt (Nat.le_refl _)) (by simp)
      have HEND:=Lib.hid (sok_end (m:=m) (st:=⟨4,bl s,ts,es⟩) (w:=w) (w3:=w3) ((C1.out.alloc (.cells #[.int .i64 4,.string s,.slice qt nt ct,.slice qe ne ce] 57)).then hc3) (MO.out.from (by simp)) ((HH.out.chg ((Chg.refl (fun _=>False) w1).alloc _) (fun _ e=>e.elim)).chg hc3 (fun k e=>by subst e;exact hb1)) hb1 hz1 (RowM.le HT.out MO.out.le) EX.out hp3 hne hlb (.int .i64 4) (.string s) (.slice qt nt ct) (.slice qe ne ce))
      clear hc3 hr hp3 hsN
      go_wp2
      refine bodyPost_ret (v:=.agg #[.int .i64 4,.string s,.slice qt nt ct,.slice qe ne ce]) (by simp [results,Tryz.results227,go_sem,r0,r1,r2,r3]) rfl (ret_ok HE.out.symm HEND.out.1 ?_)
      have:=HEND.out.2
      rw [sb_bl] at this
      exact this
end
end Go.Proofs.YtpcniebkabkikaaGreatDoor
