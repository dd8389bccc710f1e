/- Package names: the locals of a function. (Written by a program.) -/
import Derived.Test.YtlpdjfimefjmcaaGreatDoorFlOpenPR9
import Derived.Test.YtlpdjfimefjmcaaGreatDoorFlOpenPR6
open Go.Lib (hid)
namespace Go.Proofs.YtlpdjfimefjmcaaGreatDoor
open Go Go.RowKit Go.Proofs.Mm
theorem fst3_bad {a b r:Nat} (h:¬fst0 [a,b]=0):fst0 [a,b,r]=fst0 [a,b]:=by
 unfold fst0 at h ⊢
 split
 ·rename_i h1
  rw [if_pos h1] at h
  unfold fst0 at h ⊢
  split
  ·rename_i h2
   rw [if_pos h2] at h
   exact absurd rfl h
  ·rfl
 ·rfl
theorem fst3_ok {a b r:Nat} (h:fst0 [a,b]=0):fst0 [a,b,r]=r:=by
 have h1:=fst0_mem h a (by simp)
 have h2:=fst0_mem h b (by simp)
 subst h1 h2
 unfold fst0 fst0 fst0
 simp only [if_true]
 split
 ·rename_i h;rw [h];rfl
 ·rfl
theorem de_at {q:Option Addr} {w:World} {B n c:Nat} {l:List DeZ} (h:w.ownsRow B 37 2 (.slice q n c) n (deCs l)) (k:Nat) (hk:k<l.length):∃g,q=some ⟨g,0,none⟩∧w.cell? ⟨g,k*2,none⟩=some (.string l[k].name)∧w.cell? ⟨g,k*2+1,none⟩=some (.int .u64 (l[k].label:Nat)):=by
 rcases own_rd h with ⟨_,_,_,h0⟩|⟨g,e,hc⟩
 ·have:=deCs_len l
  rw [h0] at this
  simp at this
  omega
 ·have e2:(deCs (l.take k)).length=k*2:=by rw [deCs_len,List.length_take];rw [Nat.min_eq_left (by omega)]
  have e4:deCs (l.drop k)=deZ l[k]++deCs (l.drop (k+1)):=by rw [drop_next hk];rfl
  have e3:deCs l=deCs (l.take k)++(deZ l[k]++deCs (l.drop (k+1))):=by rw [←e4,←deCs_app,List.take_append_drop]
  have key:∀r,r<2→(deCs l)[k*2+r]?=(deZ l[k])[r]?:=by
   intro r hr
   rw [e3,List.getElem?_append_right (by omega),e2,Nat.add_sub_cancel_left,List.getElem?_append_left (by simp [deZ];omega)]
  exact ⟨g,e,hc _ _ (by have:=key 0 (by decide);simpa [deZ] using this),hc _ _ (by have:=key 1 (by decide);simpa [deZ] using this)⟩
section
variable {lt:Bool} {C:Cl} {W:World} {s:SoZ} {q1:Option Addr} {c1:Nat} {q2:Option Addr} {c2:Nat} {q3:Option Addr} {c3:Nat} {q4:Option Addr} {c4:Nat} {q5:Option Addr} {c5:Nat}
set_option maxRecDepth 100000 in
set_option maxHeartbeats 16000000 in
theorem localsC_p (h:SrcO lt C s q1 c1 q2 c2 q3 c3 q4 c4 q5 c5) (hC:CLe C (wC W)) (f:Nat) (hf:f<s.funcs.length) (hs1:s.funcs[f].params.length≤8) (hs2:s.funcs[f].vars.length≤32) (b0 b1:Nat)
 (i0:InB W b0 (srV s q1 c1 q2 c2 q3 c3 q4 c4 q5 c5) 27) (i1:W.cell? ⟨b1,0,none⟩=some (.int .i64 (f:Int))) :
 Calls Tryz.prog 82 #[.pointer (some ⟨b0,0,none⟩),.pointer (some ⟨b1,0,none⟩)] W (RetB (.int .i64 ((locE s f (s.funcs[f].params++s.funcs[f].vars) 0:Nat):Int)) W):=by
 have hmf:∀(fn:Fn) (first cap:Array Value) (w:World),(Instr.makeFunc fn first cap).run Tryz.prog w=.ok (.func fn first cap) w:=fun _ _ _ _=>rfl
 have ek:Ent 84:=ent_of Tryz.func84 (by kernel_rfl) rfl
 obtain ⟨x0,x1,x2,x3,x4⟩:=srV_cells i0
 have HT:=hid (fun (w:World) (hw:Below W.heap.size W w) nm lab k bd bk=>takenLoc_p (W:=w) h (hC.trans (below_cle hw)) f nm lab k b0 bd b1 bk (i0.le hw))
 have HI1:=hid i1
 obtain ⟨g,o,qp,cp,qr,cr,qv,cv,qb,cb,rfl,a0,a1,a2,a3,a4,a5,hlv,hp,hr,hv,hb⟩:=h.fn.cells f hf
 have e2:W.cell? ⟨g,o+f*6+2,none⟩=some (.slice qp s.funcs[f].params.length cp):=hC _ _ a2
 have e4:W.cell? ⟨g,o+f*6+4,none⟩=some (.slice qv s.funcs[f].vars.length cv):=hC _ _ a4
 have hfi:(f:Int)<(s.funcs.length:Int):=by omega
 have HCC:=hid (fun (w:World) (hw:Below W.heap.size W w) G=>concatDe (W:=w) s.funcs[f].params s.funcs[f].vars hs1 hs2 hp hv (hC.trans (below_cle hw)) G)
 have HBL:=hid (show ∀d∈s.funcs[f].params++s.funcs[f].vars,d.label<u64B from fun d hd=>by
  rcases List.mem_append.1 hd with hd|hd
  ·obtain ⟨j,hj,rfl⟩:=List.getElem_of_mem hd
   obtain ⟨_,_,_,_,_,hx⟩:=hp.cells j hj
   exact hx
  ·obtain ⟨j,hj,rfl⟩:=List.getElem_of_mem hd
   obtain ⟨_,_,_,_,_,hx⟩:=hv.cells j hj
   exact hx)
 have HR:=hid (show locE s f (s.funcs[f].params++s.funcs[f].vars) 0=locE s f ((s.funcs[f].params++s.funcs[f].vars).drop 0) 0 from rfl)
 obtain ⟨n,hn⟩:∃n,(s.funcs[f].params++s.funcs[f].vars).length=n:=⟨_,rfl⟩
 have hnb:n≤40:=by rw [←hn,List.length_append];omega
 have HLN:=hid hn
 clear hn
 have HLB:=hid (fun l=>lb_eq s l)
 have HEQ:=hid (fun (d:DeZ) (l:List DeZ) (k:Nat)=>show locE s f (d::l) k=fst0 [newE d.name ((fndZ s (-1) d.name).isSome || locZ s f d.name != some k),lblE s d.label,locE s f l (k+1)] from rfl)
 clear h hC a0 a1 a2 a3 a4 a5 hlv hp hr hv hb i0
 generalize s.funcs[f]=d0 at *
 clear hf
 generalize d0.params++d0.vars=L at *
 generalize locE s f L 0=R at *
 generalize d0.params.length=np at *
 generalize d0.vars.length=nv at *
 generalize hn1:s.principals.length=n1 at *
 generalize hn2:s.globals.length=n2 at *
 generalize hn3:s.arrays.length=n3 at *
 generalize hn4:s.channels.length=n4 at *
 generalize hn5:s.funcs.length=n5 at *
 clear hn1 hn2 hn3 hn4 hn5
 have HS:=hid (fun w' (hb:Below W.heap.size W w')=>show w'.cell? ⟨b0,0,none⟩=some (.slice q1 n1 c1)∧w'.cell? ⟨b0,1,none⟩=some (.slice q2 n2 c2)∧w'.cell? ⟨b0,2,none⟩=some (.slice q3 n3 c3)∧w'.cell? ⟨b0,3,none⟩=some (.slice q4 n4 c4)∧w'.cell? ⟨b0,4,none⟩=some (.slice (some ⟨g,o,none⟩) n5 c5)∧w'.cell? ⟨b1,0,none⟩=some (.int .i64 (f:Int))∧w'.cell? ⟨g,o+f*6+2,none⟩=some (.slice qp np cp)∧w'.cell? ⟨g,o+f*6+4,none⟩=some (.slice qv nv cv) from ⟨cell_b x0 hb,cell_b x1 hb,cell_b x2 hb,cell_b x3 hb,cell_b x4 hb,cell_b i1 hb,cell_b e2 hb,cell_b e4 hb⟩)
 go_enter Tryz.func82,Tryz.ntmps82
 go_wp2_with fail
 clear x0 x1 x2 x3 x4 i1 e2 e4
 go_region_held_law (fun w'=>w'.cell? ⟨b0,0,none⟩=some (.slice q1 n1 c1)∧w'.cell? ⟨b0,1,none⟩=some (.slice q2 n2 c2)∧w'.cell? ⟨b0,2,none⟩=some (.slice q3 n3 c3)∧w'.cell? ⟨b0,3,none⟩=some (.slice q4 n4 c4)∧w'.cell? ⟨b0,4,none⟩=some (.slice (some ⟨g,o,none⟩) n5 c5)∧w'.cell? ⟨b1,0,none⟩=some (.int .i64 (f:Int))∧w'.cell? ⟨g,o+f*6+2,none⟩=some (.slice qp np cp)∧w'.cell? ⟨g,o+f*6+4,none⟩=some (.slice qv nv cv))
  ((refine HS.out _ ?_;repeat (first | exact Below.refl _ _ | refine bl_al ?_ _ | refine bl_dr ?_ | refine bl_dN ?_ _ | refine bl_tr ?_ hbc)))
  ((go_at_call 83;refine (HCC.out _ ?hbw _ ?hG).mono ?_;(case hbw=>repeat (first | exact Below.refl _ _ | refine bl_al ?_ _ | refine bl_dr ?_ | refine bl_dN ?_ _ | refine bl_tr ?_ hbc));(case hG=>first | exact InB.new' _ _ rfl);rintro e wc ⟨vc,rfl,hbc,hoc⟩;unfold DcO at hoc;obtain ⟨qc,cc,rfl⟩:=own_shape hoc;rw [HLN.out] at hoc;(try rw [HLN.out])))
 all_goals
  have HBC:=hid (show Below W.heap.size W wc by repeat (first|exact Below.refl _ _|refine bl_al ?_ _|refine bl_dr ?_|refine bl_dN ?_ _|refine bl_tr ?_ hbc))
  have HOC:=hid hoc
  clear hbc hoc
  go_wp2_with fail
  go_loopw [22] (fun i wr=>∃k:Nat,k≤n∧i=.int .i64 k∧Hid (Below wc.heap.size wc wr)∧Hid (R=locE s f (L.drop k) k)) (fun i _=>n - (intOf i).toNat)
  case atStart=>exact ⟨0,Nat.zero_le _,rfl,hid (Below.refl _ _),HR⟩
  case round =>
   obtain ⟨k,hk,rfl,HB,HJ⟩:=hrel
   by_cases hlt:k<n
   ·have hk1:k<L.length:=by rw [HLN.out];exact hlt
    obtain ⟨gd,rfl,c0,c1'⟩:=de_at HOC.out k hk1
    have e0:=cell_b c0 HB.out
    have e1:=cell_b c1' HB.out
    have hlab:=HBL.out _ (List.getElem_mem hk1)
    have HJ2:=hid (HJ.out.trans ((congrArg (fun l=>locE s f l k) (drop_next hk1)).trans (HEQ.out _ _ _)))
    have hg:gd<wr.heap.size:=cell_lt e0
    clear c0 c1'
    generalize L[k]=d at *
    obtain ⟨nm,lab⟩:=d
    simp only at e0 e1 hlab HJ2
    have HBW:=hid (bl_tr HBC.out HB.out)
    have HT2:=hid (fun (w:World) (hw:Below W.heap.size W w) bd bk=>HT.out w hw nm lab k bd bk)
    have HLB2:=hid (HLB.out lab)
    generalize ((fndZ s (-1) nm).isSome || locZ s f nm != some k)=r at *
    generalize lblE s lab=E2 at *
    have hki:(k:Int)<(n:Int):=by omega
    clear hk1
    go_wp2_with fail
    have hbA:Below wr.heap.size wr ((wr.alloc (.cells #[.int .i64 (k:Int)] 3)).alloc (.cells #[.string nm,.int .u64 (lab:Nat)] 37)):=bl_al (bl_al (Below.refl _ _) _) _
    have j0:((wr.alloc (.cells #[.int .i64 (k:Int)] 3)).alloc (.cells #[.string nm,.int .u64 (lab:Nat)] 37)).cell? ⟨wr.heap.size,0,none⟩=some (.int .i64 (k:Int)):=cell_b (new_cell _ _ _) (bl_al (Below.refl _ _) _)
    have j1:InB ((wr.alloc (.cells #[.int .i64 (k:Int)] 3)).alloc (.cells #[.string nm,.int .u64 (lab:Nat)] 37)) (wr.heap.size+1) #[.string nm,.int .u64 (lab:Nat)] 37:=InB.new' _ _ (by simp)
    generalize (wr.alloc (.cells #[.int .i64 (k:Int)] 3)).alloc (.cells #[.string nm,.int .u64 (lab:Nat)] 37)=w0 at *
    have HBA:=hid (bl_tr HBW.out hbA)
    have HBR:=hid (bl_tr HB.out hbA)
    have HF:=hid (show FunV w0 (.func (.func 84) #[] #[.pointer (some ⟨b0,0,none⟩),.pointer (some ⟨wr.heap.size+1,0,none⟩),.pointer (some ⟨b1,0,none⟩),.pointer (some ⟨wr.heap.size,0,none⟩)]) (.bool r) from
     ⟨_,_,rfl,ek,fun w hw=>HT2.out w (bl_tr HBA.out hw) _ _ (j1.le hw) (cell_b HI1.out (bl_tr HBA.out hw)) (cell_b j0 hw)⟩)
    obtain ⟨y0,y1⟩:=two_cells j1
    obtain ⟨s0,s1,s2,s3,s4,-,-,-⟩:=HS.out _ HBA.out
    have HS2:=hid (fun w' (hb:Below w0.heap.size w0 w')=>show w'.cell? ⟨b0,0,none⟩=some (.slice q1 n1 c1)∧w'.cell? ⟨b0,1,none⟩=some (.slice q2 n2 c2)∧w'.cell? ⟨b0,2,none⟩=some (.slice q3 n3 c3)∧w'.cell? ⟨b0,3,none⟩=some (.slice q4 n4 c4)∧w'.cell? ⟨b0,4,none⟩=some (.slice (some ⟨g,o,none⟩) n5 c5)∧w'.cell? ⟨wr.heap.size+1,0,none⟩=some (.string nm)∧w'.cell? ⟨wr.heap.size+1,1,none⟩=some (.int .u64 (lab:Nat)) from ⟨cell_b s0 hb,cell_b s1 hb,cell_b s2 hb,cell_b s3 hb,cell_b s4 hb,cell_b y0 hb,cell_b y1 hb⟩)
    clear hbA j0 j1 y0 y1 s0 s1 s2 s3 s4 e0 e1 hg HT2
    go_region_held_law (fun w'=>w'.cell? ⟨b0,0,none⟩=some (.slice q1 n1 c1)∧w'.cell? ⟨b0,1,none⟩=some (.slice q2 n2 c2)∧w'.cell? ⟨b0,2,none⟩=some (.slice q3 n3 c3)∧w'.cell? ⟨b0,3,none⟩=some (.slice q4 n4 c4)∧w'.cell? ⟨b0,4,none⟩=some (.slice (some ⟨g,o,none⟩) n5 c5)∧w'.cell? ⟨wr.heap.size+1,0,none⟩=some (.string nm)∧w'.cell? ⟨wr.heap.size+1,1,none⟩=some (.int .u64 (lab:Nat)))
     ((refine HS2.out _ ?_;repeat (first | exact Below.refl _ _ | refine bl_al ?_ _ | refine bl_dr ?_ | refine bl_dN ?_ _ | refine bl_tr ?_ hbf | refine bl_tr ?_ hbl | refine bl_tr ?_ hbd)))
     (first | (go_at_call 68;refine (newName_p nm r _ ?hf).mono ?_;(case hf=>refine HF.out.le ?_;repeat (first | exact Below.refl _ _ | refine bl_al ?_ _ | refine bl_dr ?_ | refine bl_dN ?_ _ | refine bl_tr ?_ hbf | refine bl_tr ?_ hbl | refine bl_tr ?_ hbd));rintro e wd hmk;obtain ⟨Kd,cd,rfl,hbd,hfd⟩:=hmk.fn) | (go_at_call 39;refine (labels_p [lab] n1 q1 c1 (by simp) ?hrow).mono ?_;(case hrow=>refine la_one ?_ hlab;first | exact new_cell' _ _ rfl | exact new_cell_d _ _ rfl | exact cell_b (new_cell' _ _ rfl) hbd | exact cell_b (new_cell_d _ _ rfl) hbd);rintro e wl hmk;obtain ⟨Kl,cl,rfl,hbl,hfl⟩:=hmk.fn) | (go_at_call 37;refine (first_p [newE nm r,E2] (by simp) ?hrow).mono ?_;(case hrow=>refine chk2 (two_cells (by first | exact InB.new' _ _ rfl)) (hfd.le ?_) ?_;(repeat (first | exact Below.refl _ _ | refine bl_al ?_ _ | refine bl_dr ?_ | refine bl_dN ?_ _ | refine bl_tr ?_ hbf | refine bl_tr ?_ hbl | refine bl_tr ?_ hbd));(rw [HLB2.out] at hfl;refine hfl.le ?_;repeat (first | exact Below.refl _ _ | refine bl_al ?_ _ | refine bl_dr ?_ | refine bl_dN ?_ _ | refine bl_tr ?_ hbf | refine bl_tr ?_ hbl | refine bl_tr ?_ hbd)));rintro e wf ⟨rfl,hbf⟩))
    all_goals
     have HBF:=hid (show Below wc.heap.size wc wf by
      refine bl_tr HBR.out ?_
      repeat (first|exact Below.refl _ _|refine bl_al ?_ _|refine bl_dr ?_|refine bl_dN ?_ _|refine bl_tr ?_ hbf|refine bl_tr ?_ hbl|refine bl_tr ?_ hbd))
     by_cases hx:fst0 [newE nm r,E2]=0
     ·have HX:=hid (show R=locE s f (L.drop (k+1)) (k+1) from HJ2.out.trans (fst3_ok hx))
      rw [hx]
      clear hbd hbl hbf hfd hfl hx
      go_wp2
      exact ⟨⟨k+1,by omega,by go_num,HBF,HX⟩,by simp [intOf];omega⟩
     ·have HX:=hid (show R=fst0 [newE nm r,E2] from HJ2.out.trans (fst3_bad hx))
      have hne:(((fst0 [newE nm r,E2]:Nat):Int) != 0)=true:=by simpa using hx
      have hne2:(((fst0 [newE nm r,E2]:Nat):Int) == 0)=false:=by simpa using hx
      generalize fst0 [newE nm r,E2]=X at *
      clear hbd hbl hbf hfd hfl hx
      go_wp2
      go_ret
      exact ⟨by rw [HX.out];rfl,bl_tr HBC.out HBF.out⟩
   ·obtain rfl:k=n:=by omega
    have HX:=hid (show R=0 by rw [HJ.out,List.drop_of_length_le (by rw [HLN.out];exact Nat.le_refl _)];rfl)
    go_wp2
    go_ret
    exact ⟨by rw [HX.out];rfl,bl_tr HBC.out HB.out⟩
end
end Go.Proofs.YtlpdjfimefjmcaaGreatDoor
