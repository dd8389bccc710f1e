/- Package names: all that a statement uses. (Written by a program.) slices.Concat of parameters and vars. (Written by a program.) Package names: is a local's name taken. (Written by a program.) -/
import Derived.Test.YtlpdjfimefjmcaaGreatDoorFlLevelsPR6
import Derived.Laws.AppendOwnNone
import Derived.Deep.DeepAppendWide
import Derived.Maps.AppendAt
import Derived.Lib.AppendZeros
import Derived.Test.YtlpdjfimefjmcaaGreatDoorFlLevelsPR5
import Derived.Deep.RegionHeldLaw
import Derived.BigQuiet
import Derived.Deep.QuietTactic
namespace Go.Proofs.YtlpdjfimefjmcaaGreatDoor
open Go Go.RowKit Go.Proofs.Mm
theorem own_rd {w:World} {B size n c:Nat} {E:TypeId} {q:Option Addr} {xs:List Value} (h:w.ownsRow B E size (.slice q n c) n xs):(q=none∧n=0∧c=0∧xs=[]) ∨ ∃ g,q=some ⟨g,0,none⟩∧∀ j u,xs[j]?=some u→w.cell? ⟨g,j,none⟩=some u:=by
  obtain ⟨h1,⟨h2,h0⟩ | ⟨g,cap,cur,h2,h3,h4,h5,h6,h7,h8⟩⟩:=h
  · injection h2 with a b c
    subst h0
    exact .inl ⟨a,rfl,c,List.eq_nil_of_length_eq_zero (by simpa using h1)⟩
  · injection h2 with a b c
    refine .inr ⟨g,a,fun j u hu=>?_⟩
    rw [← h8,List.getElem?_take] at hu
    split at hu
    · rw [cell_of_row w g j cur E (0,0) h4]
      simpa using hu
    · cases hu
theorem own_lower {V:World} {B B' size m:Nat} {e:TypeId} {v:Value} {xs:List Value} (h:V.ownsRow B e size v m xs) (hb:B'≤B):V.ownsRow B' e size v m xs:=by
  refine ⟨h.1,?_⟩
  rcases h.2 with h | ⟨g,cap,cur,h1,h2,h3⟩
  · exact .inl h
  · exact .inr ⟨g,cap,cur,h1,Nat.le_trans hb h2,h3⟩
theorem own_bel {w w':World} {B size n:Nat} {E:TypeId} {v:Value} {xs:List Value} (h:w.ownsRow B E size v n xs) (hb:Below w.heap.size w w'):w'.ownsRow B E size v n xs:=by
  refine ⟨h.1,?_⟩
  rcases h.2 with h0 | ⟨g,cap,cur,rfl,h2,hg,rest⟩
  · exact .inl h0
  · exact .inr ⟨g,cap,cur,rfl,h2,(hb.block g (heap_lt hg)).trans hg,rest⟩
theorem usesT_len (l:List TmZ):(usesT l).length≤l.length:=by
  induction l with
  | nil=>exact Nat.le_refl _
  | cons x l ih =>
    unfold usesT at ih ⊢
    rw [List.flatMap_cons,List.length_append,List.length_cons]
    split
    · simp only [List.length_singleton];omega
    · split
      · simp only [List.length_singleton];omega
      · simp only [List.length_nil];omega
theorem usesE_len:∀ (l:List (List TmZ)),(∀ e ∈ l,e.length≤48)→(l.flatMap usesT).length≤l.length * 48
  | [],_=>by simp
  | e :: l,h=>by
    rw [List.flatMap_cons,List.length_append,List.length_cons]
    have h1:=usesE_len l (fun e he=>h e (List.mem_cons_of_mem _ he))
    have h2:=usesT_len e
    have h3:=h e (List.mem_cons_self ..)
    omega
section
variable {lt:Bool} {C:Cl} {W:World} {qt:Option Addr} {ct:Nat} {qe:Option Addr} {ce:Nat}
set_option maxRecDepth 100000 in
set_option maxHeartbeats 8000000 in
theorem usesOf_p (x:StZ) (ht:StrR lt C (.slice qt x.targets.length ct) x.targets) (he:ExsR lt C (.slice qe x.exprs.length ce) x.exprs) (hC:CLe C (wC W)) (hs1:x.targets.length≤8796093021952) (hs2:x.exprs.length≤8) (hs3:∀ e ∈ x.exprs,e.length≤48) :
    Calls Tryz.prog 94 #[.agg (stA x qt ct qe ce)] W fun e w'=>∃ v,e=.returned v∧Below W.heap.size W w'∧UsO W.heap.size w' v (usesZ x):=by
  obtain ⟨i2,h2,h3,h4,h5⟩:=infoUs
  obtain ⟨kd,nm,ts,es⟩:=x
  have HAT:=Lib.hid ht.cells
  have HAE:=Lib.hid he.cells
  have HCC:=Lib.hid hC
  have HES:=Lib.hid hs3
  have HUZ:=Lib.hid (show usesZ ⟨kd,nm,ts,es⟩=ts.map (fun n=>(n,2))++((if kd=2 then [(nm,3)] else if kd=3 then [(nm,4)] else if kd=4 then [(nm,5)] else [])++es.flatMap usesT) from rfl)
  clear ht he hC hs3
  generalize usesZ ⟨kd,nm,ts,es⟩=UZ at *
  unfold stA
  simp only at *
  obtain ⟨nt,hnt⟩:∃ nt,ts.length=nt:=⟨_,rfl⟩
  obtain ⟨ne,hne⟩:∃ ne,es.length=ne:=⟨_,rfl⟩
  have HNT:=Lib.hid hnt
  have HNE:=Lib.hid hne
  rw [hnt] at hs1 ⊢
  rw [hne] at hs2 ⊢
  clear hnt hne
  obtain ⟨b,hb⟩:∃ b,W.heap.size=b:=⟨_,rfl⟩
  go_enter Tryz.func94,Tryz.ntmps94
  go_wp2_with fail
  have hib:InB (W.alloc (.cells #[.int .i64 kd,.string nm,.slice qt nt ct,.slice qe ne ce] 47)) b #[.int .i64 kd,.string nm,.slice qt nt ct,.slice qe ne ce] 47:=InB.new' _ _ hb
  have HW:=Lib.hid (show Below W.heap.size W (W.alloc (.cells #[.int .i64 kd,.string nm,.slice qt nt ct,.slice qe ne ce] 47)) from bl_al (Below.refl _ _) _)
  have HI:=Lib.hid hib
  have HBB:=Lib.hid hb
  try rw [hb]
  generalize W.alloc (.cells #[.int .i64 kd,.string nm,.slice qt nt ct,.slice qe ne ce] 47)=W1 at *
  have HWs:=Lib.hid (show W.heap.size≤W1.heap.size from HW.out.size)
  clear hib hb
  go_loopw [3,11] (fun v i wr=>∃ k:Nat,∃ qv:Option Addr,∃ cv:Nat,k≤nt∧i=.int .i64 k∧v=.slice qv k cv∧Hid (Below W1.heap.size W1 wr)∧Hid (wr.ownsRow W1.heap.size 136 2 (.slice qv k cv) k (usCs ((ts.take k).map (fun n=>(n,2)))))) (fun _ i _=>nt - (intOf i).toNat)
  case atStart=>exact ⟨0,none,0,Nat.zero_le _,rfl,rfl,Lib.hid (Below.refl _ _),Lib.hid (World.ownsRow_nil _ _ _ _)⟩
  case round =>
    obtain ⟨k,qv,cv,hk,rfl,rfl,HB,HO⟩:=hrel
    have hsz:=HB.out.size
    by_cases hlt:k<nt
    · have hk1:k<ts.length:=by rw [HNT.out];exact hlt
      obtain ⟨g,o,rfl,a0⟩:=HAT.out k hk1
      have e0:=below_cle (bl_tr HW.out HB.out) _ _ (HCC.out _ _ a0)
      unfold wC at e0
      have HTK:=Lib.hid (show usCs ((ts.take (k+1)).map (fun n=>(n,2)))=usCs ((ts.take k).map (fun n=>(n,2)))++usC (ts[k],2) by
        rw [List.take_succ_eq_append_getElem hk1,List.map_append,usCs_app];simp [usCs])
      clear a0
      generalize ts[k]=t at *
      clear hk1
      have hki:(k:Int)<(nt:Int):=by omega
      have hrow1:=HO.out.alloc (.cells (usC (t,2)).toArray 136)
      have hone:∀ u ∈ usC (t,2),u.oneCell'=true:=fun u hu=>usCs_cells [(t,2)] u (by rw [usCs_one];exact hu)
      have hnew:=row_new wr (usC (t,2)) 136
      have HB1:=Lib.hid (bl_al HB.out (.cells (usC (t,2)).toArray 136))
      go_wp2_with (at_builtin;refine wpList_append_own_wide _ rfl _ _ 133 rfl W1.heap.size 136 i2 _ 2 24 und_uses h2 h3 h4 h5 rfl (by decide) _ k (usCs ((ts.take k).map (fun n=>(n,2)))) rfl hrow1 ⟨wr.heap.size,0,none⟩ 1 1 (usC (t,2)) rfl rfl hnew hone (by unfold maxLen;omega) (by omega) (by simp <;> omega) ?_)
      intro v2 w2 hR2 hg2 _
      obtain ⟨q2,c2,rfl⟩:=own_shape hR2
      have HB2:=Lib.hid (grown_below HB1.out HB1.out.size hg2 (fun j hj=>(hrow1.lt j hj).1))
      have HO2:=Lib.hid hR2
      clear hg2 hrow1 hnew hR2
      go_wp2
      exact ⟨⟨k+1,q2,c2,by omega,by go_num,rfl,HB2,Lib.hid (by rw [HTK.out,List.map_take];exact HO2.out)⟩,by simp [intOf];omega⟩
    · obtain rfl:k=nt:=by omega
      have HTK:=Lib.hid (show (ts.take k).map (fun n=>(n,2))=ts.map (fun n=>(n,2)) by rw [List.take_of_length_le (by rw [HNT.out];exact Nat.le_refl _)])
      have HO1:=Lib.hid (HTK.out ▸ HO.out)
      have b0:=(HI.out.le HB.out).cell (j:=0) (v:=.int .i64 kd) rfl
      have b1:=(HI.out.le HB.out).cell (j:=1) (v:=.string nm) rfl
      have b3:=(HI.out.le HB.out).cell (j:=3) (v:=.slice qe ne ce) rfl
      have hblt:=(HI.out.le HB.out).lt
      have HLT:=Lib.hid (show (ts.map (fun n=>(n,2)):List (ByteArray × Nat)).length=k by rw [List.length_map];exact HNT.out)
      by_cases hk2:kd=2
      · subst hk2
        have hrow1:=HO1.out.alloc (.cells (usC (nm,3)).toArray 136)
        have hone:∀ u ∈ usC (nm,3),u.oneCell'=true:=fun u hu=>usCs_cells [(nm,3)] u (by rw [usCs_one];exact hu)
        have hnew:=row_new wr (usC (nm,3)) 136
        have HB1:=Lib.hid (bl_al HB.out (.cells (usC (nm,3)).toArray 136))
        have HI2:=Lib.hid (HI.out.le HB.out)
        go_wp2_with (at_builtin;refine wpList_append_own_wide _ rfl _ _ 133 rfl W1.heap.size 136 i2 _ 2 24 und_uses h2 h3 h4 h5 rfl (by decide) _ k (usCs (ts.map (fun n=>(n,2)))) rfl hrow1 ⟨wr.heap.size,0,none⟩ 1 1 (usC (nm,3)) rfl rfl hnew hone (by unfold maxLen;omega) (by omega) (by simp <;> omega) ?_)
        intro v2 wrx hR2 hg2 _
        obtain ⟨qm,cm,rfl⟩:=own_shape hR2
        have HBm:=Lib.hid (grown_below HB1.out HB1.out.size hg2 (fun j hj=>(hrow1.lt j hj).1))
        have HLZ:=Lib.hid (show (ts.map (fun n=>(n,2))++[(nm,3)])++es.flatMap usesT=UZ by rw [HUZ.out];simp)
        have HOm:=Lib.hid (show wrx.ownsRow W1.heap.size 136 2 (.slice qm (k+1) cm) (k+1) (usCs (ts.map (fun n=>(n,2))++[(nm,3)])) by rw [usCs_app,usCs_one];exact hR2)
        have hmm:k+1=(ts.map (fun n=>(n,2))++[(nm,3)]).length:=by rw [List.length_append,HLT.out];rfl
        have hmx:k+1≤8796093021953:=by omega
        clear hg2 hrow1 hnew hR2 b0 b1 b3 hblt
        have b3:=(HI.out.le HBm.out).cell (j:=3) (v:=.slice qe ne ce) rfl
        have b0:=b3
        have b1:=b3
        have hblt:=(HI.out.le HBm.out).lt
        go_wp2_with fail
        generalize ts.map (fun n=>(n,2))++[(nm,3)]=L at *
        generalize k+1=mm at *
        have HMM:=Lib.hid hmm
        generalize wrx=V at *
        clear b0 b1 b3 hblt hmm
        go_loopw [3,50] (fun v i wr=>∃ j:Nat,∃ q:Option Addr,∃ m c:Nat,j≤ne∧i=.int .i64 j∧v=.slice q m c∧m≤mm+j * 48∧m=(L++(es.take j).flatMap usesT).length∧Hid (Below W1.heap.size W1 wr)∧Hid (wr.ownsRow W1.heap.size 136 2 (.slice q m c) m (usCs (L++(es.take j).flatMap usesT)))) (fun _ i _=>ne - (intOf i).toNat)
        case atStart=>exact ⟨0,qm,mm,cm,Nat.zero_le _,rfl,rfl,by omega,by rw [List.take_zero];simpa using HMM.out,HBm,Lib.hid (by rw [List.take_zero];simpa using HOm.out)⟩
        case round =>
          obtain ⟨j,q,m,c,hj,rfl,rfl,hm,hml,HBr,HOr⟩:=hrel
          have hsz:=HBr.out.size
          by_cases hjn:j<ne
          · have hj1:j<es.length:=by rw [HNE.out];exact hjn
            obtain ⟨g,o,qx,cx,rfl,a0,hx⟩:=HAE.out j hj1
            have e0:=below_cle (bl_tr HW.out HBr.out) _ _ (HCC.out _ _ a0)
            unfold wC at e0
            have HX:=Lib.hid (fun (w:World) (hw:Below W.heap.size W w)=>usesIn_p (W:=w) (c:=cx) es[j] (by have:=HES.out _ (List.getElem_mem hj1);omega) hx.cells (HCC.out.trans (below_cle hw)))
            have HTK:=Lib.hid (show L++(es.take (j+1)).flatMap usesT=(L++(es.take j).flatMap usesT)++usesT es[j] by
              rw [List.take_succ_eq_append_getElem hj1,List.flatMap_append,List.append_assoc];simp)
            have HLN:=Lib.hid (show (usesT es[j]).length≤48 from Nat.le_trans (usesT_len _) (HES.out _ (List.getElem_mem hj1)))
            have HML:=Lib.hid hml
            clear a0 hx hml
            generalize es[j]=ex at *
            clear hj1
            have hji:(j:Int)<(ne:Int):=by omega
            generalize ex.length=nx at *
            go_wp2_with fail
            go_at_call 135
            refine (HX.out _ (bl_tr HW.out HBr.out)).mono ?_
            rintro e w5 ⟨v5,rfl,hb5,ho5⟩
            have HB5:=Lib.hid (bl_tr HBr.out hb5)
            have hr5:=own_bel HOr.out hb5
            unfold UsO at ho5
            obtain ⟨q5,c5,rfl⟩:=own_shape ho5
            have HSU:=Lib.hid (show usCs (L++(es.take (j+1)).flatMap usesT)=usCs (L++(es.take j).flatMap usesT)++usCs (usesT ex) by rw [HTK.out,usCs_app])
            have HSL:=Lib.hid (show (L++(es.take (j+1)).flatMap usesT).length=m+(usesT ex).length by rw [HTK.out,List.length_append,← HML.out])
            have hln:=HLN.out
            have hcl5:(usCs (usesT ex)).length=(usesT ex).length * 2:=usCs_len _
            have hone:∀ u ∈ usCs (usesT ex),u.oneCell'=true:=usCs_cells _
            have hsz5:=HB5.out.size
            rcases own_rd ho5 with ⟨rfl,hn5,rfl,hx5⟩ | ⟨g5,rfl,hc5⟩
            · have HN5:=Lib.hid hn5
              have HX5:=Lib.hid hx5
              rw [hn5]
              clear hx5 ho5 hb5 hln hcl5 hone hn5
              go_wp2_with (at_builtin;refine wpList_append_own_none rfl _ _ 133 rfl W1.heap.size 136 i2 2 und_uses h2 _ m (usCs (L++(es.take j).flatMap usesT)) rfl hr5 rfl ?_)
              have HR5:=Lib.hid hr5
              clear hr5
              go_wp2
              exact ⟨⟨j+1,q,m,c,by omega,by go_num,rfl,by omega,by rw [HSL.out,HN5.out,Nat.add_zero],HB5,Lib.hid (by rw [HSU.out,HX5.out,List.append_nil];exact HR5.out)⟩,by simp [intOf];omega⟩
            · have hnew:∀ (j:Nat) (u:Value),(usCs (usesT ex))[j]?=some u→w5.cell? ((⟨g5,0,none⟩:Addr).add j)=some u:=fun j u hu=>by
                rw [show ((⟨g5,0,none⟩:Addr).add j)=⟨g5,j,none⟩ from by simp [Addr.add];intro h;exact h.symm]
                exact hc5 j u hu
              clear ho5 hb5 hc5
              generalize hU:usesT ex=U at *
              generalize U.length=nu at *
              go_wp2_with (at_builtin;refine wpList_append_own_wide _ rfl _ _ 133 rfl W1.heap.size 136 i2 _ 2 24 und_uses h2 h3 h4 h5 rfl (by decide) _ m (usCs (L++(es.take j).flatMap usesT)) rfl hr5 ⟨g5,0,none⟩ nu c5 (usCs U) rfl hcl5 hnew hone (by unfold maxLen;omega) (by omega) (by omega) ?_)
              intro v2 w2 hR2 hg2 _
              obtain ⟨q2,c2,rfl⟩:=own_shape hR2
              have HB6:=Lib.hid (grown_below HB5.out HB5.out.size hg2 (fun j hj=>(hr5.lt j hj).1))
              have HO6:=Lib.hid hR2
              clear hg2 hnew hR2 hr5
              go_wp2
              exact ⟨⟨j+1,q2,m+nu,c2,by omega,by go_num,rfl,by omega,HSL.out.symm,HB6,Lib.hid (by rw [HSU.out];exact HO6.out)⟩,by simp [intOf];omega⟩
          · obtain rfl:j=ne:=by omega
            have HTK:=Lib.hid (show L++(es.take j).flatMap usesT=UZ by rw [List.take_of_length_le (by rw [HNE.out];exact Nat.le_refl _),HLZ.out])
            have HML:=Lib.hid hml
            clear hml
            go_wp2
            go_ret
            exact ⟨_,rfl,bl_tr HW.out HBr.out,by unfold UsO;rw [← HTK.out,← HML.out];exact own_lower HOr.out HWs.out⟩
      by_cases hk3:kd=3
      · subst hk3
        have hrow1:=HO1.out.alloc (.cells (usC (nm,4)).toArray 136)
        have hone:∀ u ∈ usC (nm,4),u.oneCell'=true:=fun u hu=>usCs_cells [(nm,4)] u (by rw [usCs_one];exact hu)
        have hnew:=row_new wr (usC (nm,4)) 136
        have HB1:=Lib.hid (bl_al HB.out (.cells (usC (nm,4)).toArray 136))
        have HI2:=Lib.hid (HI.out.le HB.out)
        go_wp2_with (at_builtin;refine wpList_append_own_wide _ rfl _ _ 133 rfl W1.heap.size 136 i2 _ 2 24 und_uses h2 h3 h4 h5 rfl (by decide) _ k (usCs (ts.map (fun n=>(n,2)))) rfl hrow1 ⟨wr.heap.size,0,none⟩ 1 1 (usC (nm,4)) rfl rfl hnew hone (by unfold maxLen;omega) (by omega) (by simp <;> omega) ?_)
        intro v2 wrx hR2 hg2 _
        obtain ⟨qm,cm,rfl⟩:=own_shape hR2
        have HBm:=Lib.hid (grown_below HB1.out HB1.out.size hg2 (fun j hj=>(hrow1.lt j hj).1))
        have HLZ:=Lib.hid (show (ts.map (fun n=>(n,2))++[(nm,4)])++es.flatMap usesT=UZ by rw [HUZ.out];simp)
        have HOm:=Lib.hid (show wrx.ownsRow W1.heap.size 136 2 (.slice qm (k+1) cm) (k+1) (usCs (ts.map (fun n=>(n,2))++[(nm,4)])) by rw [usCs_app,usCs_one];exact hR2)
        have hmm:k+1=(ts.map (fun n=>(n,2))++[(nm,4)]).length:=by rw [List.length_append,HLT.out];rfl
        have hmx:k+1≤8796093021953:=by omega
        clear hg2 hrow1 hnew hR2 b0 b1 b3 hblt
        have b3:=(HI.out.le HBm.out).cell (j:=3) (v:=.slice qe ne ce) rfl
        have b0:=b3
        have b1:=b3
        have hblt:=(HI.out.le HBm.out).lt
        go_wp2_with fail
        generalize ts.map (fun n=>(n,2))++[(nm,4)]=L at *
        generalize k+1=mm at *
        have HMM:=Lib.hid hmm
        generalize wrx=V at *
        clear b0 b1 b3 hblt hmm
        go_loopw [3,50] (fun v i wr=>∃ j:Nat,∃ q:Option Addr,∃ m c:Nat,j≤ne∧i=.int .i64 j∧v=.slice q m c∧m≤mm+j * 48∧m=(L++(es.take j).flatMap usesT).length∧Hid (Below W1.heap.size W1 wr)∧Hid (wr.ownsRow W1.heap.size 136 2 (.slice q m c) m (usCs (L++(es.take j).flatMap usesT)))) (fun _ i _=>ne - (intOf i).toNat)
        case atStart=>exact ⟨0,qm,mm,cm,Nat.zero_le _,rfl,rfl,by omega,by rw [List.take_zero];simpa using HMM.out,HBm,Lib.hid (by rw [List.take_zero];simpa using HOm.out)⟩
        case round =>
          obtain ⟨j,q,m,c,hj,rfl,rfl,hm,hml,HBr,HOr⟩:=hrel
          have hsz:=HBr.out.size
          by_cases hjn:j<ne
          · have hj1:j<es.length:=by rw [HNE.out];exact hjn
            obtain ⟨g,o,qx,cx,rfl,a0,hx⟩:=HAE.out j hj1
            have e0:=below_cle (bl_tr HW.out HBr.out) _ _ (HCC.out _ _ a0)
            unfold wC at e0
            have HX:=Lib.hid (fun (w:World) (hw:Below W.heap.size W w)=>usesIn_p (W:=w) (c:=cx) es[j] (by have:=HES.out _ (List.getElem_mem hj1);omega) hx.cells (HCC.out.trans (below_cle hw)))
            have HTK:=Lib.hid (show L++(es.take (j+1)).flatMap usesT=(L++(es.take j).flatMap usesT)++usesT es[j] by
              rw [List.take_succ_eq_append_getElem hj1,List.flatMap_append,List.append_assoc];simp)
            have HLN:=Lib.hid (show (usesT es[j]).length≤48 from Nat.le_trans (usesT_len _) (HES.out _ (List.getElem_mem hj1)))
            have HML:=Lib.hid hml
            clear a0 hx hml
            generalize es[j]=ex at *
            clear hj1
            have hji:(j:Int)<(ne:Int):=by omega
            generalize ex.length=nx at *
            go_wp2_with fail
            go_at_call 135
            refine (HX.out _ (bl_tr HW.out HBr.out)).mono ?_
            rintro e w5 ⟨v5,rfl,hb5,ho5⟩
            have HB5:=Lib.hid (bl_tr HBr.out hb5)
            have hr5:=own_bel HOr.out hb5
            unfold UsO at ho5
            obtain ⟨q5,c5,rfl⟩:=own_shape ho5
            have HSU:=Lib.hid (show usCs (L++(es.take (j+1)).flatMap usesT)=usCs (L++(es.take j).flatMap usesT)++usCs (usesT ex) by rw [HTK.out,usCs_app])
            have HSL:=Lib.hid (show (L++(es.take (j+1)).flatMap usesT).length=m+(usesT ex).length by rw [HTK.out,List.length_append,← HML.out])
            have hln:=HLN.out
            have hcl5:(usCs (usesT ex)).length=(usesT ex).length * 2:=usCs_len _
            have hone:∀ u ∈ usCs (usesT ex),u.oneCell'=true:=usCs_cells _
            have hsz5:=HB5.out.size
            rcases own_rd ho5 with ⟨rfl,hn5,rfl,hx5⟩ | ⟨g5,rfl,hc5⟩
            · have HN5:=Lib.hid hn5
              have HX5:=Lib.hid hx5
              rw [hn5]
              clear hx5 ho5 hb5 hln hcl5 hone hn5
              go_wp2_with (at_builtin;refine wpList_append_own_none rfl _ _ 133 rfl W1.heap.size 136 i2 2 und_uses h2 _ m (usCs (L++(es.take j).flatMap usesT)) rfl hr5 rfl ?_)
              have HR5:=Lib.hid hr5
              clear hr5
              go_wp2
              exact ⟨⟨j+1,q,m,c,by omega,by go_num,rfl,by omega,by rw [HSL.out,HN5.out,Nat.add_zero],HB5,Lib.hid (by rw [HSU.out,HX5.out,List.append_nil];exact HR5.out)⟩,by simp [intOf];omega⟩
            · have hnew:∀ (j:Nat) (u:Value),(usCs (usesT ex))[j]?=some u→w5.cell? ((⟨g5,0,none⟩:Addr).add j)=some u:=fun j u hu=>by
                rw [show ((⟨g5,0,none⟩:Addr).add j)=⟨g5,j,none⟩ from by simp [Addr.add];intro h;exact h.symm]
                exact hc5 j u hu
              clear ho5 hb5 hc5
              generalize hU:usesT ex=U at *
              generalize U.length=nu at *
              go_wp2_with (at_builtin;refine wpList_append_own_wide _ rfl _ _ 133 rfl W1.heap.size 136 i2 _ 2 24 und_uses h2 h3 h4 h5 rfl (by decide) _ m (usCs (L++(es.take j).flatMap usesT)) rfl hr5 ⟨g5,0,none⟩ nu c5 (usCs U) rfl hcl5 hnew hone (by unfold maxLen;omega) (by omega) (by omega) ?_)
              intro v2 w2 hR2 hg2 _
              obtain ⟨q2,c2,rfl⟩:=own_shape hR2
              have HB6:=Lib.hid (grown_below HB5.out HB5.out.size hg2 (fun j hj=>(hr5.lt j hj).1))
              have HO6:=Lib.hid hR2
              clear hg2 hnew hR2 hr5
              go_wp2
              exact ⟨⟨j+1,q2,m+nu,c2,by omega,by go_num,rfl,by omega,HSL.out.symm,HB6,Lib.hid (by rw [HSU.out];exact HO6.out)⟩,by simp [intOf];omega⟩
          · obtain rfl:j=ne:=by omega
            have HTK:=Lib.hid (show L++(es.take j).flatMap usesT=UZ by rw [List.take_of_length_le (by rw [HNE.out];exact Nat.le_refl _),HLZ.out])
            have HML:=Lib.hid hml
            clear hml
            go_wp2
            go_ret
            exact ⟨_,rfl,bl_tr HW.out HBr.out,by unfold UsO;rw [← HTK.out,← HML.out];exact own_lower HOr.out HWs.out⟩
      by_cases hk4:kd=4
      · subst hk4
        have hrow1:=HO1.out.alloc (.cells (usC (nm,5)).toArray 136)
        have hone:∀ u ∈ usC (nm,5),u.oneCell'=true:=fun u hu=>usCs_cells [(nm,5)] u (by rw [usCs_one];exact hu)
        have hnew:=row_new wr (usC (nm,5)) 136
        have HB1:=Lib.hid (bl_al HB.out (.cells (usC (nm,5)).toArray 136))
        have HI2:=Lib.hid (HI.out.le HB.out)
        go_wp2_with (at_builtin;refine wpList_append_own_wide _ rfl _ _ 133 rfl W1.heap.size 136 i2 _ 2 24 und_uses h2 h3 h4 h5 rfl (by decide) _ k (usCs (ts.map (fun n=>(n,2)))) rfl hrow1 ⟨wr.heap.size,0,none⟩ 1 1 (usC (nm,5)) rfl rfl hnew hone (by unfold maxLen;omega) (by omega) (by simp <;> omega) ?_)
        intro v2 wrx hR2 hg2 _
        obtain ⟨qm,cm,rfl⟩:=own_shape hR2
        have HBm:=Lib.hid (grown_below HB1.out HB1.out.size hg2 (fun j hj=>(hrow1.lt j hj).1))
        have HLZ:=Lib.hid (show (ts.map (fun n=>(n,2))++[(nm,5)])++es.flatMap usesT=UZ by rw [HUZ.out];simp)
        have HOm:=Lib.hid (show wrx.ownsRow W1.heap.size 136 2 (.slice qm (k+1) cm) (k+1) (usCs (ts.map (fun n=>(n,2))++[(nm,5)])) by rw [usCs_app,usCs_one];exact hR2)
        have hmm:k+1=(ts.map (fun n=>(n,2))++[(nm,5)]).length:=by rw [List.length_append,HLT.out];rfl
        have hmx:k+1≤8796093021953:=by omega
        clear hg2 hrow1 hnew hR2 b0 b1 b3 hblt
        have b3:=(HI.out.le HBm.out).cell (j:=3) (v:=.slice qe ne ce) rfl
        have b0:=b3
        have b1:=b3
        have hblt:=(HI.out.le HBm.out).lt
        go_wp2_with fail
        generalize ts.map (fun n=>(n,2))++[(nm,5)]=L at *
        generalize k+1=mm at *
        have HMM:=Lib.hid hmm
        generalize wrx=V at *
        clear b0 b1 b3 hblt hmm
        go_loopw [3,50] (fun v i wr=>∃ j:Nat,∃ q:Option Addr,∃ m c:Nat,j≤ne∧i=.int .i64 j∧v=.slice q m c∧m≤mm+j * 48∧m=(L++(es.take j).flatMap usesT).length∧Hid (Below W1.heap.size W1 wr)∧Hid (wr.ownsRow W1.heap.size 136 2 (.slice q m c) m (usCs (L++(es.take j).flatMap usesT)))) (fun _ i _=>ne - (intOf i).toNat)
        case atStart=>exact ⟨0,qm,mm,cm,Nat.zero_le _,rfl,rfl,by omega,by rw [List.take_zero];simpa using HMM.out,HBm,Lib.hid (by rw [List.take_zero];simpa using HOm.out)⟩
        case round =>
          obtain ⟨j,q,m,c,hj,rfl,rfl,hm,hml,HBr,HOr⟩:=hrel
          have hsz:=HBr.out.size
          by_cases hjn:j<ne
          · have hj1:j<es.length:=by rw [HNE.out];exact hjn
            obtain ⟨g,o,qx,cx,rfl,a0,hx⟩:=HAE.out j hj1
            have e0:=below_cle (bl_tr HW.out HBr.out) _ _ (HCC.out _ _ a0)
            unfold wC at e0
            have HX:=Lib.hid (fun (w:World) (hw:Below W.heap.size W w)=>usesIn_p (W:=w) (c:=cx) es[j] (by have:=HES.out _ (List.getElem_mem hj1);omega) hx.cells (HCC.out.trans (below_cle hw)))
            have HTK:=Lib.hid (show L++(es.take (j+1)).flatMap usesT=(L++(es.take j).flatMap usesT)++usesT es[j] by
              rw [List.take_succ_eq_append_getElem hj1,List.flatMap_append,List.append_assoc];simp)
            have HLN:=Lib.hid (show (usesT es[j]).length≤48 from Nat.le_trans (usesT_len _) (HES.out _ (List.getElem_mem hj1)))
            have HML:=Lib.hid hml
            clear a0 hx hml
            generalize es[j]=ex at *
            clear hj1
            have hji:(j:Int)<(ne:Int):=by omega
            generalize ex.length=nx at *
            go_wp2_with fail
            go_at_call 135
            refine (HX.out _ (bl_tr HW.out HBr.out)).mono ?_
            rintro e w5 ⟨v5,rfl,hb5,ho5⟩
            have HB5:=Lib.hid (bl_tr HBr.out hb5)
            have hr5:=own_bel HOr.out hb5
            unfold UsO at ho5
            obtain ⟨q5,c5,rfl⟩:=own_shape ho5
            have HSU:=Lib.hid (show usCs (L++(es.take (j+1)).flatMap usesT)=usCs (L++(es.take j).flatMap usesT)++usCs (usesT ex) by rw [HTK.out,usCs_app])
            have HSL:=Lib.hid (show (L++(es.take (j+1)).flatMap usesT).length=m+(usesT ex).length by rw [HTK.out,List.length_append,← HML.out])
            have hln:=HLN.out
            have hcl5:(usCs (usesT ex)).length=(usesT ex).length * 2:=usCs_len _
            have hone:∀ u ∈ usCs (usesT ex),u.oneCell'=true:=usCs_cells _
            have hsz5:=HB5.out.size
            rcases own_rd ho5 with ⟨rfl,hn5,rfl,hx5⟩ | ⟨g5,rfl,hc5⟩
            · have HN5:=Lib.hid hn5
              have HX5:=Lib.hid hx5
              rw [hn5]
              clear hx5 ho5 hb5 hln hcl5 hone hn5
              go_wp2_with (at_builtin;refine wpList_append_own_none rfl _ _ 133 rfl W1.heap.size 136 i2 2 und_uses h2 _ m (usCs (L++(es.take j).flatMap usesT)) rfl hr5 rfl ?_)
              have HR5:=Lib.hid hr5
              clear hr5
              go_wp2
              exact ⟨⟨j+1,q,m,c,by omega,by go_num,rfl,by omega,by rw [HSL.out,HN5.out,Nat.add_zero],HB5,Lib.hid (by rw [HSU.out,HX5.out,List.append_nil];exact HR5.out)⟩,by simp [intOf];omega⟩
            · have hnew:∀ (j:Nat) (u:Value),(usCs (usesT ex))[j]?=some u→w5.cell? ((⟨g5,0,none⟩:Addr).add j)=some u:=fun j u hu=>by
                rw [show ((⟨g5,0,none⟩:Addr).add j)=⟨g5,j,none⟩ from by simp [Addr.add];intro h;exact h.symm]
                exact hc5 j u hu
              clear ho5 hb5 hc5
              generalize hU:usesT ex=U at *
              generalize U.length=nu at *
              go_wp2_with (at_builtin;refine wpList_append_own_wide _ rfl _ _ 133 rfl W1.heap.size 136 i2 _ 2 24 und_uses h2 h3 h4 h5 rfl (by decide) _ m (usCs (L++(es.take j).flatMap usesT)) rfl hr5 ⟨g5,0,none⟩ nu c5 (usCs U) rfl hcl5 hnew hone (by unfold maxLen;omega) (by omega) (by omega) ?_)
              intro v2 w2 hR2 hg2 _
              obtain ⟨q2,c2,rfl⟩:=own_shape hR2
              have HB6:=Lib.hid (grown_below HB5.out HB5.out.size hg2 (fun j hj=>(hr5.lt j hj).1))
              have HO6:=Lib.hid hR2
              clear hg2 hnew hR2 hr5
              go_wp2
              exact ⟨⟨j+1,q2,m+nu,c2,by omega,by go_num,rfl,by omega,HSL.out.symm,HB6,Lib.hid (by rw [HSU.out];exact HO6.out)⟩,by simp [intOf];omega⟩
          · obtain rfl:j=ne:=by omega
            have HTK:=Lib.hid (show L++(es.take j).flatMap usesT=UZ by rw [List.take_of_length_le (by rw [HNE.out];exact Nat.le_refl _),HLZ.out])
            have HML:=Lib.hid hml
            clear hml
            go_wp2
            go_ret
            exact ⟨_,rfl,bl_tr HW.out HBr.out,by unfold UsO;rw [← HTK.out,← HML.out];exact own_lower HOr.out HWs.out⟩
      have HL0:=Lib.hid (show ts.map (fun n=>(n,2))++es.flatMap usesT=UZ by rw [HUZ.out,if_neg hk2,if_neg hk3,if_neg hk4,List.nil_append])
      have e2:(kd == 2)=false:=by rw [beq_eq_false_iff_ne];exact hk2
      have e3:(kd == 3)=false:=by rw [beq_eq_false_iff_ne];exact hk3
      have e4:(kd == 4)=false:=by rw [beq_eq_false_iff_ne];exact hk4
      clear hk2 hk3 hk4
      go_wp2_with fail
      have HLZ:=HL0
      have HOm:=HO1
      have HBm:=HB
      have hmm:k=(ts.map (fun n=>(n,2)):List (ByteArray × Nat)).length:=HLT.out.symm
      have hmx:k≤8796093021953:=by omega
      clear HLT HO HTK
      generalize (ts.map (fun n=>(n,2)):List (ByteArray × Nat))=L at *
      generalize k=mm at *
      generalize qv=qm at *
      generalize cv=cm at *
      have HMM:=Lib.hid hmm
      generalize wr=V at *
      clear b0 b1 b3 hblt hmm
      go_loopw [3,50] (fun v i wr=>∃ j:Nat,∃ q:Option Addr,∃ m c:Nat,j≤ne∧i=.int .i64 j∧v=.slice q m c∧m≤mm+j * 48∧m=(L++(es.take j).flatMap usesT).length∧Hid (Below W1.heap.size W1 wr)∧Hid (wr.ownsRow W1.heap.size 136 2 (.slice q m c) m (usCs (L++(es.take j).flatMap usesT)))) (fun _ i _=>ne - (intOf i).toNat)
      case atStart=>exact ⟨0,qm,mm,cm,Nat.zero_le _,rfl,rfl,by omega,by rw [List.take_zero];simpa using HMM.out,HBm,Lib.hid (by rw [List.take_zero];simpa using HOm.out)⟩
      case round =>
        obtain ⟨j,q,m,c,hj,rfl,rfl,hm,hml,HBr,HOr⟩:=hrel
        have hsz:=HBr.out.size
        by_cases hjn:j<ne
        · have hj1:j<es.length:=by rw [HNE.out];exact hjn
          obtain ⟨g,o,qx,cx,rfl,a0,hx⟩:=HAE.out j hj1
          have e0:=below_cle (bl_tr HW.out HBr.out) _ _ (HCC.out _ _ a0)
          unfold wC at e0
          have HX:=Lib.hid (fun (w:World) (hw:Below W.heap.size W w)=>usesIn_p (W:=w) (c:=cx) es[j] (by have:=HES.out _ (List.getElem_mem hj1);omega) hx.cells (HCC.out.trans (below_cle hw)))
          have HTK:=Lib.hid (show L++(es.take (j+1)).flatMap usesT=(L++(es.take j).flatMap usesT)++usesT es[j] by
            rw [List.take_succ_eq_append_getElem hj1,List.flatMap_append,List.append_assoc];simp)
          have HLN:=Lib.hid (show (usesT es[j]).length≤48 from Nat.le_trans (usesT_len _) (HES.out _ (List.getElem_mem hj1)))
          have HML:=Lib.hid hml
          clear a0 hx hml
          generalize es[j]=ex at *
          clear hj1
          have hji:(j:Int)<(ne:Int):=by omega
          generalize ex.length=nx at *
          go_wp2_with fail
          go_at_call 135
          refine (HX.out _ (bl_tr HW.out HBr.out)).mono ?_
          rintro e w5 ⟨v5,rfl,hb5,ho5⟩
          have HB5:=Lib.hid (bl_tr HBr.out hb5)
          have hr5:=own_bel HOr.out hb5
          unfold UsO at ho5
          obtain ⟨q5,c5,rfl⟩:=own_shape ho5
          have HSU:=Lib.hid (show usCs (L++(es.take (j+1)).flatMap usesT)=usCs (L++(es.take j).flatMap usesT)++usCs (usesT ex) by rw [HTK.out,usCs_app])
          have HSL:=Lib.hid (show (L++(es.take (j+1)).flatMap usesT).length=m+(usesT ex).length by rw [HTK.out,List.length_append,← HML.out])
          have hln:=HLN.out
          have hcl5:(usCs (usesT ex)).length=(usesT ex).length * 2:=usCs_len _
          have hone:∀ u ∈ usCs (usesT ex),u.oneCell'=true:=usCs_cells _
          have hsz5:=HB5.out.size
          rcases own_rd ho5 with ⟨rfl,hn5,rfl,hx5⟩ | ⟨g5,rfl,hc5⟩
          · have HN5:=Lib.hid hn5
            have HX5:=Lib.hid hx5
            rw [hn5]
            clear hx5 ho5 hb5 hln hcl5 hone hn5
            go_wp2_with (at_builtin;refine wpList_append_own_none rfl _ _ 133 rfl W1.heap.size 136 i2 2 und_uses h2 _ m (usCs (L++(es.take j).flatMap usesT)) rfl hr5 rfl ?_)
            have HR5:=Lib.hid hr5
            clear hr5
            go_wp2
            exact ⟨⟨j+1,q,m,c,by omega,by go_num,rfl,by omega,by rw [HSL.out,HN5.out,Nat.add_zero],HB5,Lib.hid (by rw [HSU.out,HX5.out,List.append_nil];exact HR5.out)⟩,by simp [intOf];omega⟩
          · have hnew:∀ (j:Nat) (u:Value),(usCs (usesT ex))[j]?=some u→w5.cell? ((⟨g5,0,none⟩:Addr).add j)=some u:=fun j u hu=>by
              rw [show ((⟨g5,0,none⟩:Addr).add j)=⟨g5,j,none⟩ from by simp [Addr.add];intro h;exact h.symm]
              exact hc5 j u hu
            clear ho5 hb5 hc5
            generalize hU:usesT ex=U at *
            generalize U.length=nu at *
            go_wp2_with (at_builtin;refine wpList_append_own_wide _ rfl _ _ 133 rfl W1.heap.size 136 i2 _ 2 24 und_uses h2 h3 h4 h5 rfl (by decide) _ m (usCs (L++(es.take j).flatMap usesT)) rfl hr5 ⟨g5,0,none⟩ nu c5 (usCs U) rfl hcl5 hnew hone (by unfold maxLen;omega) (by omega) (by omega) ?_)
            intro v2 w2 hR2 hg2 _
            obtain ⟨q2,c2,rfl⟩:=own_shape hR2
            have HB6:=Lib.hid (grown_below HB5.out HB5.out.size hg2 (fun j hj=>(hr5.lt j hj).1))
            have HO6:=Lib.hid hR2
            clear hg2 hnew hR2 hr5
            go_wp2
            exact ⟨⟨j+1,q2,m+nu,c2,by omega,by go_num,rfl,by omega,HSL.out.symm,HB6,Lib.hid (by rw [HSU.out];exact HO6.out)⟩,by simp [intOf];omega⟩
        · obtain rfl:j=ne:=by omega
          have HTK:=Lib.hid (show L++(es.take j).flatMap usesT=UZ by rw [List.take_of_length_le (by rw [HNE.out];exact Nat.le_refl _),HLZ.out])
          have HML:=Lib.hid hml
          clear hml
          go_wp2
          go_ret
          exact ⟨_,rfl,bl_tr HW.out HBr.out,by unfold UsO;rw [← HTK.out,← HML.out];exact own_lower HOr.out HWs.out⟩
end
end Go.Proofs.YtlpdjfimefjmcaaGreatDoor
namespace Go.Proofs.YtlpdjfimefjmcaaGreatDoor
open Go Go.RowKit Go.Proofs.Mm
theorem infoDe:∃ i,Tryz.prog.info? 37=some i∧i.zero=some (.agg #[.string ⟨#[]⟩,.int .u64 0])∧i.size=2∧i.bytes=24:=by
  have h:(Tryz.prog.info? 37).map (fun i=>(i.zero,i.size,i.bytes))=some (some (.agg #[.string ⟨#[]⟩,.int .u64 0]),2,24):=by kernel_rfl
  cases hi:Tryz.prog.info? 37 with
  | none=>rw [hi] at h;cases h
  | some i =>
    rw [hi] at h
    simp only [Option.map_some,Option.some.injEq,Prod.mk.injEq] at h
    exact ⟨i,rfl,h.1,h.2.1,h.2.2⟩
theorem undDes:Tryz.prog.underlying 23=some (.slice 37):=by kernel_rfl
def deCs (l:List DeZ):List Value:=l.flatMap deZ
theorem deCs_len (l:List DeZ):(deCs l).length=l.length * 2:=by
  unfold deCs
  induction l with
  | nil=>rfl
  | cons p l ih=>rw [List.flatMap_cons,List.length_append,ih,List.length_cons];show 2+_=_;omega
theorem deCs_app (a b:List DeZ):deCs (a++b)=deCs a++deCs b:=List.flatMap_append
theorem deCs_one (l:List DeZ):∀ u ∈ deCs l,u.oneCell'=true:=by
  intro u hu
  obtain ⟨p,_,hp⟩:=List.mem_flatMap.1 hu
  simp only [deZ,List.mem_cons,List.not_mem_nil,or_false] at hp
  rcases hp with rfl | rfl <;> rfl
theorem deCs_enc:∀ {l:List DeZ} {cs:List Value},Enc (fun c d=>c=deZ d∧d.label<u64B) cs l→cs=deCs l
  | [],cs,h=>h
  | x :: l,cs,h=>by
    obtain ⟨c,r,rfl,⟨rfl,_⟩,h2⟩:=h
    rw [deCs_enc h2];rfl
theorem add_none (g o j:Nat):((⟨g,o,none⟩:Addr).add j)=⟨g,o+j,none⟩:=by unfold Addr.add;split <;> simp_all
section
variable {lt:Bool} {C:Cl} {W:World}
theorem DesR.raw {q:Option Addr} {n c:Nat} {l:List DeZ} (h:DesR lt C (.slice q n c) l):(q=none∧n=0∧c=0∧l=[]) ∨ ∃ ad,q=some ad∧n=l.length∧∀ j u,(deCs l)[j]?=some u→C (ad.add j)=some u:=by
  obtain ⟨q',c',cs,h1,h2,h3,h4,h5,h6,h7,h8⟩:=h
  obtain ⟨rfl,rfl,rfl⟩:q=q'∧n=l.length∧c=c':=by injection h1 with a b c;exact ⟨a,b,c⟩
  rw [deCs_enc h4] at h3
  cases q with
  | none =>
    have h0:=h7 rfl
    subst h0
    have hl:l.length=0:=by omega
    exact .inl ⟨rfl,hl,rfl,List.eq_nil_of_length_eq_zero hl⟩
  | some ad =>
    refine .inr ⟨ad,rfl,rfl,fun j u hu=>?_⟩
    rcases h3 with h3 | ⟨g,o,e,h3⟩
    · have:=(List.append_eq_nil_iff.1 h3).1
      rw [this] at hu
      simp at hu
    · injection e with e
      subst e
      rw [add_none]
      exact h3 j u (by rw [List.getElem?_append_left ((List.getElem?_eq_some_iff.1 hu).1)];exact hu)
theorem zc_len (z:Array Value) (k:Nat) (hz:z.size=2):(Builtin.zeroCells z k).size=k * 2:=by rw [size_zeroCells,hz]
def DcO (B:Nat) (w:World) (v:Value) (l:List DeZ):Prop:=w.ownsRow B 37 2 v l.length (deCs l)
set_option maxRecDepth 100000 in
set_option maxHeartbeats 2000000 in
theorem growDe (n:Nat) (hn:n≤1000) (W:World):Calls Tryz.prog 126 #[.slice none 0 0,.int .i64 (n:Int)] W fun e w'=>∃ v,e=.returned v∧DcO W.heap.size w' v []∧Below W.heap.size W w':=by
  by_cases h0:0<n
  · obtain ⟨i,hi,hz,hs,hb⟩:=infoDe
    have hr:=fun ty=>Lib.run_append_nil_zeros (P:=Tryz.prog) W 23 3 ty 37 i _ .i64 .i64 Tryz.underlying23 Tryz.underlying3 hi hz n h0 (by rw [hs];decide) (by omega) (by rw [hb];omega)
    have hge:=grownCap_ge W n 0 37
    have hcm:=grownCap_le_maxLen W n 0 37 (by unfold maxLen;omega)
    obtain ⟨G,hG⟩:∃ G,G=grownCap W n 0 37:=⟨_,rfl⟩
    rw [← hG] at hr hge hcm
    have hown:(W.drew.alloc (.cells (Builtin.zeroCells (Value.agg #[.string ⟨#[]⟩,.int .u64 0]).cells n++Builtin.zeroCells (Value.agg #[.string ⟨#[]⟩,.int .u64 0]).cells (G - n)) 37)).ownsRow W.heap.size 37 2 (.slice (some ⟨W.heap.size,0,none⟩) 0 G) 0 [] :=
      World.ownsRow_made W.drew _ G (Nat.le_refl _) hcm (by rw [Array.size_append,zc_len _ _ rfl,zc_len _ _ rfl];omega)
    have HO:=Lib.hid hown
    have HBB:=Lib.hid (show Below W.heap.size W (W.drew.alloc (.cells (Builtin.zeroCells (Value.agg #[.string ⟨#[]⟩,.int .u64 0]).cells n++Builtin.zeroCells (Value.agg #[.string ⟨#[]⟩,.int .u64 0]).cells (G - n)) 37)) from ((Below.refl _ W).drew).alloc (Nat.le_refl _) _)
    have hG63:G≤9223372036854775807:=by unfold maxLen at hcm;omega
    have h1:¬ ((n:Int)<0):=by omega
    have h3:wrap64 (n:Int)=(n:Int):=by unfold wrap64;omega
    have h4:(n:Int) > 0:=by omega
    clear hown hG hge hcm
    go_enter Tryz.func126,Tryz.ntmps126
    go_wp2_with (at_builtin;refine Lib.wpList_append_run _ rfl _ _ _ _ rfl _ _ rfl rfl _ _ (hr _) ?_)
    go_ret
    exact ⟨_,rfl,HO.out,HBB.out⟩
  · obtain rfl:n=0:=by omega
    go_enter Tryz.func126,Tryz.ntmps126
    go_wp2
    go_ret
    exact ⟨_,rfl,World.ownsRow_nil _ _ _ _,Below.refl _ _⟩
set_option maxRecDepth 100000 in
set_option maxHeartbeats 8000000 in
theorem concatDe (ps vs:List DeZ) (h1:ps.length≤8) (h2:vs.length≤32) {qp:Option Addr} {cp:Nat} {qv:Option Addr} {cv:Nat} (hp:DesR lt C (.slice qp ps.length cp) ps) (hv:DesR lt C (.slice qv vs.length cv) vs) (hC:CLe C (wC W)) (G:Nat) (hG:InB W G #[.slice qp ps.length cp,.slice qv vs.length cv] 23) :
    Calls Tryz.prog 83 #[.slice (some ⟨G,0,none⟩) 2 2] W fun e w'=>∃ v,e=.returned v∧Below W.heap.size W w'∧DcO W.heap.size w' v (ps++vs):=by
  obtain ⟨i,hi,hz,hs,hb⟩:=infoDe
  have HGR:=Lib.hid (fun W'=>growDe (ps.length+vs.length) (by omega) W')
  have HP:=Lib.hid hp.raw
  have HV:=Lib.hid hv.raw
  have HCC:=Lib.hid hC
  have HGG:=Lib.hid hG
  have k0:=hG.cell (j:=0) (v:=.slice qp ps.length cp) rfl
  have k1:=hG.cell (j:=1) (v:=.slice qv vs.length cv) rfl
  have HLP:=Lib.hid (deCs_len ps)
  have HLV:=Lib.hid (deCs_len vs)
  have HOP:=Lib.hid (deCs_one ps)
  have HOV:=Lib.hid (deCs_one vs)
  have HNIL:=Lib.hid (show DcO W.heap.size W (.slice none 0 0) [] from World.ownsRow_nil _ _ _ _)
  unfold DcO at HGR
  have HAA:=Lib.hid (fun (B:Nat) (w:World) (v:Value)=>show DcO B w v (ps++vs)=w.ownsRow B 37 2 v (ps.length+vs.length) (deCs ps++deCs vs) from by unfold DcO;rw [List.length_append,deCs_app])
  clear hp hv hC hG
  generalize ps.length=np at *
  generalize vs.length=nv at *
  have w1:wrap64 ((0:Int)+(np:Int))=(np:Int):=by unfold wrap64;omega
  have w2:wrap64 ((np:Int)+(nv:Int))=((np+nv:Nat):Int):=by unfold wrap64;omega
  have n1:¬ ((np:Int)<0):=by omega
  have n2:¬ (((np+nv:Nat):Int)<0):=by omega
  go_enter Tryz.func83,Tryz.ntmps83
  go_wp2
  go_loopw [3,11] (fun s i wr=>wr=W∧((i=.int .i64 0∧s=.int .i64 0) ∨ (i=.int .i64 1∧s=.int .i64 (np:Int)) ∨ (i=.int .i64 2∧s=.int .i64 ((np+nv:Nat):Int)))) (fun _ i _=>2 - (intOf i).toNat)
  case atStart=>exact ⟨rfl,.inl ⟨rfl,rfl⟩⟩
  case round =>
    obtain ⟨hW,⟨rfl,rfl⟩ | ⟨rfl,rfl⟩ | ⟨rfl,rfl⟩⟩:=hrel
    · subst wr
      go_wp2
      exact ⟨⟨by first | rfl | trivial,.inr (.inl ⟨rfl,by first | rfl | (congr 1;omega)⟩)⟩,by simp [intOf]⟩
    · subst wr
      go_wp2
      exact ⟨⟨by first | rfl | trivial,.inr (.inr ⟨rfl,by first | rfl | (congr 1;omega)⟩)⟩,by simp [intOf]⟩
    · subst wr
      go_wp2_with fail
      go_at_call 126
      refine (HGR.out _).mono ?_
      rintro e w0 ⟨v0,rfl,ho0,hb0⟩
      have HO0:=Lib.hid ho0
      have HB0:=Lib.hid hb0
      obtain ⟨q0,c0,rfl⟩:=own_shape ho0
      clear ho0 hb0 w1 w2 n1 n2
      simp only [List.length_nil] at HO0
      go_wp2_with fail
      go_loopw [6,27] (fun v i wr=>∃ q c m L,v=.slice q m c∧Hid (Below W.heap.size W wr)∧Hid (wr.ownsRow W.heap.size 37 2 (.slice q m c) m L)∧((i=.int .i64 0∧0=m∧[]=L) ∨ (i=.int .i64 1∧np=m∧deCs ps=L) ∨ (i=.int .i64 2∧np+nv=m∧deCs ps++deCs vs=L))) (fun _ i _=>2 - (intOf i).toNat)
      case atStart=>exact ⟨q0,c0,0,[],rfl,HB0,HO0,.inl ⟨rfl,rfl,rfl⟩⟩
      case round =>
        obtain ⟨q,c,m,L,rfl,HB,HO,hcase⟩:=hrel
        have z0:=(HGG.out.le HB.out).cell (j:=0) (v:=.slice qp np cp) rfl
        have z1:=(HGG.out.le HB.out).cell (j:=1) (v:=.slice qv nv cv) rfl
        have hm:=HB.out.size
        have ho:=HO.out
        have HLT:=Lib.hid ho.lt
        rcases hcase with ⟨rfl,rfl,rfl⟩ | ⟨rfl,rfl,rfl⟩ | ⟨rfl,rfl,rfl⟩
        · rcases HP.out with ⟨hq,hn0,hc0,hl0⟩ | ⟨ad,hq,hnn,hcl⟩
          · subst hq hn0 hc0
            have HZ:=Lib.hid hl0
            clear hl0
            go_wp2_with (at_builtin;refine wpList_append_own_none rfl _ _ 23 rfl W.heap.size 37 i 2 undDes hi _ 0 [] rfl ho rfl ?_)
            clear ho
            go_wp2
            exact ⟨⟨_,_,_,⟨_,_,_,rfl,_,HO,.inr (.inl ⟨rfl,by omega,by rw [HZ.out];simp [deCs]⟩)⟩,rfl,rfl,rfl⟩,by simp [intOf]⟩
          · subst hq
            have hnew:∀ j u,(deCs ps)[j]?=some u→wr.cell? (ad.add j)=some u:=fun j u hu=>below_cle HB.out _ _ (HCC.out _ _ (hcl j u hu))
            have hll:=HLP.out
            clear hcl hnn
            go_wp2_with (at_builtin;refine wpList_append_own_at _ rfl _ _ 23 rfl W.heap.size 37 i _ 2 24 undDes hi hz hs hb rfl (by decide) _ 0 [] rfl ho ad np cp (deCs ps) rfl hll hnew HOP.out ?c1 ?c2 ?c3 ?_)
            case c1=>unfold maxLen;omega
            case c2=>omega
            case c3=>exact hm
            intro v9 w9 hown9 hgrow9 _ _
            obtain ⟨q9,c9,rfl⟩:=own_shape hown9
            have HO9:=Lib.hid hown9
            have HB9:=Lib.hid (HB.out.grown hgrow9 hm (fun r hr=>(HLT.out r hr).1))
            clear hown9 hgrow9 ho hnew
            go_wp2
            exact ⟨⟨_,_,_,_,rfl,HB9,HO9,.inr (.inl ⟨rfl,by omega,by simp⟩)⟩,by simp [intOf]⟩
        · rcases HV.out with ⟨hq,hn0,hc0,hl0⟩ | ⟨ad,hq,hnn,hcl⟩
          · subst hq hn0 hc0
            have HZ:=Lib.hid hl0
            clear hl0
            go_wp2_with (at_builtin;refine wpList_append_own_none rfl _ _ 23 rfl W.heap.size 37 i 2 undDes hi _ np (deCs ps) rfl ho rfl ?_)
            clear ho
            go_wp2
            exact ⟨⟨_,_,_,⟨_,_,_,rfl,_,HO,.inr (.inr ⟨rfl,by omega,by rw [HZ.out];simp [deCs]⟩)⟩,rfl,rfl,rfl⟩,by simp [intOf]⟩
          · subst hq
            have hnew:∀ j u,(deCs vs)[j]?=some u→wr.cell? (ad.add j)=some u:=fun j u hu=>below_cle HB.out _ _ (HCC.out _ _ (hcl j u hu))
            have hll:=HLV.out
            clear hcl hnn
            go_wp2_with (at_builtin;refine wpList_append_own_at _ rfl _ _ 23 rfl W.heap.size 37 i _ 2 24 undDes hi hz hs hb rfl (by decide) _ np (deCs ps) rfl ho ad nv cv (deCs vs) rfl hll hnew HOV.out ?c1 ?c2 ?c3 ?_)
            case c1=>unfold maxLen;omega
            case c2=>omega
            case c3=>exact hm
            intro v9 w9 hown9 hgrow9 _ _
            obtain ⟨q9,c9,rfl⟩:=own_shape hown9
            have HO9:=Lib.hid hown9
            have HB9:=Lib.hid (HB.out.grown hgrow9 hm (fun r hr=>(HLT.out r hr).1))
            clear hown9 hgrow9 ho hnew
            go_wp2
            exact ⟨⟨_,_,_,_,rfl,HB9,HO9,.inr (.inr ⟨rfl,by omega,by simp⟩)⟩,by simp [intOf]⟩
        · have HR:=HO
          clear ho
          go_wp2
          go_ret
          exact ⟨_,rfl,HB.out,by rw [HAA.out];exact HR.out⟩
end
end Go.Proofs.YtlpdjfimefjmcaaGreatDoor
namespace Go.Proofs.YtlpdjfimefjmcaaGreatDoor
open Go Go.RowKit Go.Proofs.Mm
section
variable {lt:Bool} {C:Cl} {W:World} {s:SoZ} {q1:Option Addr} {c1:Nat} {q2:Option Addr} {c2:Nat} {q3:Option Addr} {c3:Nat} {q4:Option Addr} {c4:Nat} {q5:Option Addr} {c5:Nat}
theorem local_q (h:SrcO lt C s q1 c1 q2 c2 q3 c3 q4 c4 q5 c5) (hC:CLe C (wC W)) (f:Int) (nm:ByteArray) :
    Calls Tryz.prog 53 #[.agg (srV s q1 c1 q2 c2 q3 c3 q4 c4 q5 c5),.int .i64 f,.string nm] W (RetB (.int .i64 (ixI (locZ s f nm))) W):=local_p h hC f nm
theorem ne_ix2 (x:Option Nat) (k:Nat):(ixI x != (k:Int))=(x != some k):=by
  rw [Bool.eq_iff_iff]
  cases x with
  | none=>simp [ixI]
  | some j=>simp [ixI];omega
set_option maxRecDepth 100000 in
set_option maxHeartbeats 8000000 in
theorem takenLoc_p (h:SrcO lt C s q1 c1 q2 c2 q3 c3 q4 c4 q5 c5) (hC:CLe C (wC W)) (f:Nat) (nm:ByteArray) (lab k:Nat) (b0 b1 b2 b3:Nat)
    (i0:InB W b0 (srV s q1 c1 q2 c2 q3 c3 q4 c4 q5 c5) 27) (i1:InB W b1 #[.string nm,.int .u64 (lab:Nat)] 37) (i2:W.cell? ⟨b2,0,none⟩=some (.int .i64 (f:Int))) (i3:W.cell? ⟨b3,0,none⟩=some (.int .i64 (k:Int))) :
    Calls Tryz.prog 84 #[.pointer (some ⟨b0,0,none⟩),.pointer (some ⟨b1,0,none⟩),.pointer (some ⟨b2,0,none⟩),.pointer (some ⟨b3,0,none⟩)] W (RetB (.bool ((fndZ s (-1) nm).isSome || locZ s f nm != some k)) W):=by
  have HF:=Lib.hid (find_q (W:=W) h hC (-1) nm)
  have HL:=Lib.hid (fun (w:World) (hw:Below W.heap.size W w)=>local_q (W:=w) h (hC.trans (below_cle hw)) f nm)
  obtain ⟨x0,x1,x2,x3,x4⟩:=srV_cells i0
  obtain ⟨y0,y1⟩:=two_cells i1
  have HNX:=Lib.hid (ne_ix2 (locZ s f nm) k)
  clear h hC i0 i1
  unfold srV at HF HL
  generalize fndZ s (-1) nm=X at *
  generalize locZ s f nm=Y at *
  generalize s.principals.length=n1 at *
  generalize s.globals.length=n2 at *
  generalize s.arrays.length=n3 at *
  generalize s.channels.length=n4 at *
  generalize s.funcs.length=n5 at *
  cases X with
  | some z =>
    obtain ⟨kz,iz⟩:=z
    unfold refV at HF
    go_enter Tryz.func84,Tryz.ntmps84
    go_wp2_with fail
    go_at_call 13
    refine HF.out.mono ?_
    rintro e w1 ⟨rfl,hb1⟩
    have HB1:=Lib.hid (bl_al hb1 (.cells #[.int .i64 (kz:Int),.int .i64 (iz:Int)] 54))
    clear hb1 x0 x1 x2 x3 x4 y0 y1 i2 i3
    go_wp2_with fail
    generalize w1.alloc (.cells #[.int .i64 (kz:Int),.int .i64 (iz:Int)] 54)=w0 at *
    go_quiet (fail)
    go_wp2
    go_ret
    exact ⟨rfl,by repeat (first | exact HB1.out | refine bl_dN ?_ _ | refine bl_dr ?_)⟩
  | none =>
    unfold refV at HF
    go_enter Tryz.func84,Tryz.ntmps84
    go_wp2_with fail
    go_at_call 13
    refine HF.out.mono ?_
    rintro e w1 ⟨rfl,hb1⟩
    have hbA:=bl_al hb1 (.cells #[.int .i64 0,.int .i64 0] 54)
    have HBA:=Lib.hid hbA
    have HS:=Lib.hid (fun w' (hb:Below (w1.alloc (.cells #[.int .i64 0,.int .i64 0] 54)).heap.size (w1.alloc (.cells #[.int .i64 0,.int .i64 0] 54)) w')=>show w'.cell? ⟨b0,0,none⟩=some (.slice q1 n1 c1)∧w'.cell? ⟨b0,1,none⟩=some (.slice q2 n2 c2)∧w'.cell? ⟨b0,2,none⟩=some (.slice q3 n3 c3)∧w'.cell? ⟨b0,3,none⟩=some (.slice q4 n4 c4)∧w'.cell? ⟨b0,4,none⟩=some (.slice q5 n5 c5)∧w'.cell? ⟨b1,0,none⟩=some (.string nm)∧w'.cell? ⟨b1,1,none⟩=some (.int .u64 (lab:Nat))∧w'.cell? ⟨b2,0,none⟩=some (.int .i64 (f:Int))∧w'.cell? ⟨b3,0,none⟩=some (.int .i64 (k:Int)) from
      ⟨cell_b (cell_b x0 hbA) hb,cell_b (cell_b x1 hbA) hb,cell_b (cell_b x2 hbA) hb,cell_b (cell_b x3 hbA) hb,cell_b (cell_b x4 hbA) hb,cell_b (cell_b y0 hbA) hb,cell_b (cell_b y1 hbA) hb,cell_b (cell_b i2 hbA) hb,cell_b (cell_b i3 hbA) hb⟩)
    clear x0 x1 x2 x3 x4 y0 y1 i2 i3 hbA hb1
    go_wp2_with fail
    generalize w1.alloc (.cells #[.int .i64 0,.int .i64 0] 54)=w0 at *
    go_region_held_law (fun w'=>w'.cell? ⟨b0,0,none⟩=some (.slice q1 n1 c1)∧w'.cell? ⟨b0,1,none⟩=some (.slice q2 n2 c2)∧w'.cell? ⟨b0,2,none⟩=some (.slice q3 n3 c3)∧w'.cell? ⟨b0,3,none⟩=some (.slice q4 n4 c4)∧w'.cell? ⟨b0,4,none⟩=some (.slice q5 n5 c5)∧w'.cell? ⟨b1,0,none⟩=some (.string nm)∧w'.cell? ⟨b1,1,none⟩=some (.int .u64 (lab:Nat))∧w'.cell? ⟨b2,0,none⟩=some (.int .i64 (f:Int))∧w'.cell? ⟨b3,0,none⟩=some (.int .i64 (k:Int)))
      ((refine HS.out _ ?_;repeat (first | exact Below.refl _ _ | refine bl_al ?_ _ | refine bl_dr ?_ | refine bl_dN ?_ _ | refine bl_tr ?_ hbs)))
      ((go_at_call 53;refine (HL.out _ ?hbw).mono ?_;(case hbw=>refine bl_tr HBA.out ?_;repeat (first | exact Below.refl _ _ | refine bl_al ?_ _ | refine bl_dr ?_ | refine bl_dN ?_ _ | refine bl_tr ?_ hbs));rintro e ws ⟨rfl,hbs⟩))
    all_goals
      go_wp2
      go_ret
      refine ⟨ret_bool ?_,bl_tr HBA.out ?_⟩
      · rw [HNX.out];rfl
      · repeat (first | exact Below.refl _ _ | refine bl_al ?_ _ | refine bl_dr ?_ | refine bl_dN ?_ _ | refine bl_tr ?_ hbs)
end
end Go.Proofs.YtlpdjfimefjmcaaGreatDoor
