/- The document's answer: Bytes, Write. ApartBytes of the statements' kit, of two rows that are none; in every memory. ImageWrites: the law's walk. -/
import Derived.Test.YtbfkgcapkffecaaImWritesPR12
namespace Go.Proofs.Ytbfkgcapkffecaa
open Go Go.RowKit Go.Proofs.Mm Go.Sort
theorem szF_nat {x:Int} (_h:szW x):∃ n:Nat,n<W64∧IntKind.u64.wrap x=(n:Int)∧szF x=putU n:=by
  refine ⟨(x % 18446744073709551616).toNat,by unfold W64;omega,by rw [wrapU64];omega,rfl⟩
section
variable {lt:Bool} {w:World}
theorem head_own (w:World):OwnB w.heap.size (w.alloc (.cells #[.int .u8 76,.int .u8 86,.int .u8 82,.int .u8 1] 5)) (.slice (some ⟨w.heap.size,0,none⟩) 4 4) headF :=
  World.ownsRow_lit w #[.int .u8 76,.int .u8 86,.int .u8 82,.int .u8 1] 4 (Nat.le_refl _) (by unfold maxLen;omega) rfl
def ByR (w:World) (m:MoM) (e:Ending) (w':World):Prop:=∃ v l,e=.returned v∧OwnB w.heap.size w' v l∧Below w.heap.size w w'∧l.length≤262200∧(l=imF m ∨ (262144<l.length∧262144<(imF m).length))
set_option maxRecDepth 100000 in
set_option maxHeartbeats 8000000 in
theorem refBytes_any {v:Value} {m:MoM} (h:MoR lt (wC w) v m) (hf:moW m) (hok:moOk m=true):Calls Try.prog 37 #[v] w (ByR w m):=by
  have hlow:=h.le (lowC.of w)
  obtain ⟨v1,v2,v3,v4,rfl,z1,z2,z3,z4⟩:=hlow
  clear h
  have hm2:=slx_bytes z2
  have hm4:=slx_bytes z4
  obtain ⟨q1,c1,rfl⟩:=slx_shape z1
  obtain ⟨q2,c2,rfl⟩:=slx_shape z2
  obtain ⟨q3,c3,rfl⟩:=slx_shape z3
  obtain ⟨q4,c4,rfl⟩:=slx_shape z4
  obtain ⟨⟨f1,f2⟩,⟨f3,f4⟩,⟨f5,f6⟩,⟨f7,f8⟩⟩:=hf
  unfold moOk at hok
  rw [Bool.and_eq_true,List.all_eq_true,List.all_eq_true] at hok
  have HG:=Lib.hid f2
  have HAW:=Lib.hid f4
  have HC:=Lib.hid f6
  have HFW:=Lib.hid (fun x hx=>(⟨f8 x hx,hok.2 x hx⟩:fnW x∧fnOk x=true))
  have HA1:=Lib.hid z1.cells
  have HA2:=Lib.hid z2.cells
  have HA3:=Lib.hid z3.cells
  have HA4:=Lib.hid z4.cells
  obtain ⟨n1,hn1⟩:∃ n,m.globals.length=n:=⟨_,rfl⟩
  obtain ⟨n2,hn2⟩:∃ n,m.arrays.length=n:=⟨_,rfl⟩
  obtain ⟨n3,hn3⟩:∃ n,m.channels.length=n:=⟨_,rfl⟩
  obtain ⟨n4,hn4⟩:∃ n,m.funcs.length=n:=⟨_,rfl⟩
  have HN1:=Lib.hid hn1
  have HN2:=Lib.hid hn2
  have HN3:=Lib.hid hn3
  have HN4:=Lib.hid hn4
  have HBD:=Lib.hid (show moF m=headF++(listF labF m.globals++(putU n2++(m.arrays.flatMap arF++(listF labF m.channels++(putU n4++m.funcs.flatMap fnF))))) from by
    unfold moF bdF
    rw [show listF arF m.arrays=putU n2++m.arrays.flatMap arF from by unfold listF;rw [hn2],show listF fnF m.funcs=putU n4++m.funcs.flatMap fnF from by unfold listF;rw [hn4]]
    simp only [List.append_assoc])
  rw [hn1,hn2,hn3,hn4]
  rw [hn1] at f1
  rw [hn2] at f3 hm2
  rw [hn3] at f5
  rw [hn4] at f7 hm4
  have HF1:=Lib.hid f1
  have HF5:=Lib.hid f5
  have hw2:IntKind.u64.wrap (n2:Int)=(n2:Int):=by rw [wrapU64];omega
  have hw4:IntKind.u64.wrap (n4:Int)=(n4:Int):=by rw [wrapU64];omega
  obtain ⟨B,hB⟩:∃ B,w.heap.size=B:=⟨_,rfl⟩
  obtain ⟨wa,hwa⟩:∃ wa,w.alloc (.cells #[.slice q1 n1 c1,.slice q2 n2 c2,.slice q3 n3 c3,.slice q4 n4 c4] 26)=wa:=⟨_,rfl⟩
  have hsa:wa.heap.size=B+1:=by rw [← hwa];simp [hB]
  have HIA:=Lib.hid (show InB wa B #[.slice q1 n1 c1,.slice q2 n2 c2,.slice q3 n3 c3,.slice q4 n4 c4] 26 from by rw [← hwa,← hB];exact InB.new _ _ _)
  have HBA:=Lib.hid (show Below B w wa from by rw [← hwa,← hB];exact bl_al (Below.refl _ _) _)
  have HBB:=Lib.hid hB
  rw [hB] at HA1 HA2 HA3 HA4
  have hH:=(head_own wa).base (show B≤wa.heap.size by omega)
  obtain ⟨wb,hwb⟩:∃ wb,wa.alloc (.cells #[.int .u8 76,.int .u8 86,.int .u8 82,.int .u8 1] 5)=wb:=⟨_,rfl⟩
  rw [hwb] at hH
  have HSB:=Lib.hid (show B≤wb.heap.size from by rw [← hwb];simp;omega)
  have HIB:=Lib.hid (show InB wb B #[.slice q1 n1 c1,.slice q2 n2 c2,.slice q3 n3 c3,.slice q4 n4 c4] 26 from by rw [← hwb];exact inb_al HIA.out _)
  have HBW:=Lib.hid (show Below B w wb from by rw [← hwb];exact HBA.out.alloc (by omega) _)
  have P0:=Lib.hid (show RzP B wb headF [] wb (.slice (some ⟨wa.heap.size,0,none⟩) 4 4) headF from ⟨hH,.inl (by simp),by decide,Chg.refl _ _,headF_bytes⟩)
  have HLO:=Lib.hid (fun (W:World) (h:Rzk B wb W)=>lowC.le (HBW.out.trans (h.below HSB.out)))
  have HMX:=Lib.hid (fun (W:World) (h:Rzk B wb W)=>h.keep HIB.out (by decide))
  rw [hsa] at P0
  clear z1 z2 z3 z4 f1 f2 f3 f4 f5 f6 f7 f8 hok hn1 hn2 hn3 hn4 hH
  go_enter Try.func37,Try.ntmps37
  have x0:=HIA.out.cell (j:=0) rfl
  go_upto_region 2 with (fail)
  clear hB hwa hwb hsa x0
  have x0:=(HMX.out wb (Chg.refl _ _)).cell (j:=0) rfl
  have C1:=Lib.hid (zlabels_any P0.out.own HSB.out (c:=c1) m.globals (HA1.out.le (HLO.out _ (Chg.refl _ _))) HG.out (by rw [HN1.out];exact HF1.out) P0.out.len P0.out.bs)
  rw [HN1.out] at C1
  go_wp2_with fail
  refine C1.out.mono ?_
  rintro e u1 ⟨b1,l1,rfl,h1⟩
  have P1:=Lib.hid (P0.out.trans h1)
  clear h1 C1 x0
  have x1:=(HMX.out u1 P1.out.kp).cell (j:=1) rfl
  have C2:=Lib.hid (zput_any P1.out.own (Nat.le_trans HSB.out P1.out.kp.size) n2 (by unfold W64;omega) P1.out.len P1.out.bs)
  go_wp2_with fail
  refine C2.out.mono ?_
  rintro e u2 ⟨b2,l2,rfl,h2⟩
  have P2:=Lib.hid (P1.out.trans h2)
  clear h2 C2 x1
  have x1:=(HMX.out u2 P2.out.kp).cell (j:=1) rfl
  go_wp2_with fail
  go_loopw [3,4] (fun b i wr=>∃ (j:Nat) (l':List Nat),j≤n2∧i=.int .i64 j∧RzP B wb headF (([]++listF labF m.globals++putU n2)++(m.arrays.take j).flatMap arF) wr b l') (fun _ i _=>n2 - (intOf i).toNat)
  case atStart=>exact ⟨0,l2,Nat.zero_le _,rfl,by simpa using P2.out⟩
  case round =>
    obtain ⟨j,l',hj,rfl,hP⟩:=hrel
    obtain ⟨q',c',rfl⟩:=hP.own.slice
    have HP:=Lib.hid hP
    clear hP
    have y1:=(HMX.out wr HP.out.kp).cell (j:=1) rfl
    by_cases hlt:j<n2
    · have hj':j<m.arrays.length:=by rw [HN2.out];exact hlt
      obtain ⟨g,o,rfl,a1,a2⟩:=HA2.out j hj'
      have z1:=lowC.cell (HLO.out wr HP.out.kp _ _ a1)
      have HZ2:=Lib.hid a2
      have HTK:=Lib.hid (show (m.arrays.take (j+1)).flatMap arF=(m.arrays.take j).flatMap arF++arF m.arrays[j] from by rw [List.take_succ_eq_append_getElem hj',List.flatMap_append];simp)
      have HXJ:=Lib.hid (HAW.out _ (List.getElem_mem hj'))
      generalize m.arrays[j]=x at *
      obtain ⟨xa,xb⟩:=x
      simp only at z1 HZ2
      obtain ⟨na,hna,hwr,hsz⟩:=szF_nat HXJ.out.1
      obtain ⟨nb,rfl⟩:∃ nb:Nat,xb=nb:=⟨xb.toNat,by have:=HXJ.out.2.1;simp only at this;omega⟩
      have HSZ:=Lib.hid hsz
      have hji:(j:Int)<(n2:Int):=by omega
      have HC1:=Lib.hid (zput_any HP.out.own (Nat.le_trans HSB.out HP.out.kp.size) na hna HP.out.len HP.out.bs)
      clear a1 a2 hsz
      simp only at hwr
      go_wp2_with fail
      refine HC1.out.mono ?_
      rintro e w3 ⟨v3,l3,rfl,h3⟩
      have H3:=Lib.hid (HP.out.trans h3)
      clear h3 z1 y1 HC1
      have y1:=(HMX.out w3 H3.out.kp).cell (j:=1) rfl
      have z2:=lowC.cell (HLO.out w3 H3.out.kp _ _ HZ2.out)
      have HC2:=Lib.hid (zput_any H3.out.own (Nat.le_trans HSB.out H3.out.kp.size) nb (by have:=HXJ.out.2.2;simp only at this;unfold W64;omega) H3.out.len H3.out.bs)
      go_wp2_with fail
      refine HC2.out.mono ?_
      rintro e w4 ⟨v4,l4,rfl,h4⟩
      have H4:=Lib.hid (H3.out.trans h4)
      clear h4 HC2
      go_wp2
      refine ⟨⟨j+1,l4,by omega,by go_num,?_⟩,by simp [intOf];omega⟩
      have h5:=H4.out
      rw [HTK.out,show arF (xa,(nb:Int))=putU na++putU nb from by unfold arF labF;rw [HSZ.out,Int.toNat_natCast],← List.append_assoc,← List.append_assoc]
      exact h5
    · obtain rfl:n2=j:=by omega
      have P3:=Lib.hid (show RzP B wb headF (([]++listF labF m.globals++putU n2)++m.arrays.flatMap arF) wr (.slice q' l'.length c') l' from by have:=HP.out;rwa [← HN2.out,List.take_length,HN2.out] at this)
      have x2:=(HMX.out wr P3.out.kp).cell (j:=2) rfl
      have C3:=Lib.hid (zlabels_any P3.out.own (Nat.le_trans HSB.out P3.out.kp.size) (c:=c3) m.channels (HA3.out.le (HLO.out _ P3.out.kp)) HC.out (by rw [HN3.out];exact HF5.out) P3.out.len P3.out.bs)
      rw [HN3.out] at C3
      go_wp2_with fail
      refine C3.out.mono ?_
      rintro e u3 ⟨b3,l3,rfl,h3⟩
      have P4:=Lib.hid (P3.out.trans h3)
      clear h3 C3 x2 y1
      have x3:=(HMX.out u3 P4.out.kp).cell (j:=3) rfl
      have C4:=Lib.hid (zput_any P4.out.own (Nat.le_trans HSB.out P4.out.kp.size) n4 (by unfold W64;omega) P4.out.len P4.out.bs)
      go_wp2_with fail
      refine C4.out.mono ?_
      rintro e u4 ⟨b4,l4,rfl,h4⟩
      have P5:=Lib.hid (P4.out.trans h4)
      clear h4 C4 x3
      obtain ⟨FP,hFP⟩:∃ FP,([]++listF labF m.globals++putU n2++m.arrays.flatMap arF++listF labF m.channels++putU n4)=FP:=⟨_,rfl⟩
      have HFP:=Lib.hid hFP
      rw [hFP] at P5
      clear hFP
      obtain ⟨q5,c5,rfl⟩:=P5.out.own.slice
      have x3:=(HMX.out u4 P5.out.kp).cell (j:=3) rfl
      go_wp2_with fail
      go_loopw [3,5] (fun b i wr=>∃ (j:Nat) (l':List Nat),j≤n4∧i=.int .i64 j∧RzP B wb headF (FP++(m.funcs.take j).flatMap fnF) wr b l') (fun _ i _=>n4 - (intOf i).toNat)
      case atStart=>exact ⟨0,l4,Nat.zero_le _,rfl,by simpa using P5.out⟩
      case round =>
        obtain ⟨j,l',hj,rfl,hP⟩:=hrel
        obtain ⟨q',c',rfl⟩:=hP.own.slice
        obtain ⟨ln,hln⟩:∃ ln,l'.length=ln:=⟨_,rfl⟩
        have HLN:=Lib.hid hln
        have HP:=Lib.hid hP
        rw [hln] at HP ⊢
        have y3:=(HMX.out wr HP.out.kp).cell (j:=3) rfl
        clear hP hln
        by_cases hlt:j<n4
        · have hj':j<m.funcs.length:=by rw [HN4.out];exact hlt
          have hji:(j:Int)<(n4:Int):=by omega
          have HDR:=Lib.hid (show m.funcs.flatMap fnF=(m.funcs.take j).flatMap fnF++(m.funcs.drop j).flatMap fnF from by rw [← List.flatMap_append,List.take_append_drop])
          by_cases hbig:262144<ln
          · have hb1:¬ (ln:Int)≤262144:=by omega
            have P6:=Lib.hid (show RzP B wb headF (FP++m.funcs.flatMap fnF) wr (.slice q' ln c') l' from ⟨HP.out.own,by rw [HDR.out,← List.append_assoc];exact HP.out.wr.more (by rw [HLN.out];exact hbig),HP.out.len,HP.out.kp,HP.out.bs⟩)
            have HPOS:=Lib.hid (show 0<l'.length from by
              rcases P6.out.wr with h | ⟨h,_⟩
              · rw [h,List.length_append,show headF.length=4 from rfl];omega
              · omega)
            have HSE:=Lib.hid (zsealed_any P6.out.own (Nat.le_trans HSB.out P6.out.kp.size) P6.out.bs HPOS.out P6.out.len)
            have HWR:=Lib.hid (show l'++sealF l'=imF m ∨ (262144<(l'++sealF l').length∧262144<(imF m).length) from by
              have hmo:headF++(FP++m.funcs.flatMap fnF)=moF m:=by rw [HBD.out,← HFP.out];simp
              rcases P6.out.wr with h | ⟨h1,h2⟩
              · rw [hmo] at h
                left;rw [h];rfl
              · right
                rw [← List.length_append,hmo] at h2
                rw [List.length_append,imF_len]
                omega)
            have HLL:=Lib.hid (show (l'++sealF l').length≤262200 from by rw [List.length_append,sealF_len];have:=P6.out.len;omega)
            go_wp2_with fail
            refine HSE.out.mono ?_
            rintro e wz ⟨vz,rfl,hOz,hKz⟩
            have HOZ:=Lib.hid hOz
            have HBZ:=Lib.hid (show Below B w wz from HBW.out.trans ((P6.out.kp.trans hKz).below HSB.out))
            clear hOz hKz
            go_wp2
            go_ret
            exact ⟨_,_,rfl,by rw [HBB.out];exact HOZ.out,by rw [HBB.out];exact HBZ.out,HLL.out,HWR.out⟩
          · have hb1:(ln:Int)≤262144:=by omega
            obtain ⟨g,o,vp,vr,vc,rfl,a0,a1,a2,a3,a4,a5,a6⟩:=HA4.out j hj'
            have HTJ:=Lib.hid (show (m.funcs.take (j+1)).flatMap fnF=(m.funcs.take j).flatMap fnF++fnF m.funcs[j] from by rw [List.take_succ_eq_append_getElem hj',List.flatMap_append];simp)
            have HXJ:=Lib.hid (HFW.out _ (List.getElem_mem hj'))
            generalize m.funcs[j]=f at *
            obtain ⟨vp',vr',vc',e0,zz1,zz2,zz3⟩:=a0
            injection e0 with _ e0;injection e0 with e1 e0;injection e0 with e2 e0;injection e0 with _ e0;injection e0 with _ e0;injection e0 with e3 _
            subst e1 e2 e3
            have hbc:=slx_bytes zz3
            obtain ⟨qp,cp,rfl⟩:=slx_shape zz1
            obtain ⟨qr,cr,rfl⟩:=slx_shape zz2
            obtain ⟨qc,cc,rfl⟩:=slx_shape zz3
            have HPC:=Lib.hid zz1.cells
            have HRC:=Lib.hid zz2.cells
            have HCD:=Lib.hid zz3.cells
            obtain ⟨g1,⟨g2,g3⟩,⟨g4,g5⟩,g6,g7,g8,g9⟩:=HXJ.out.1
            have hfo:=HXJ.out.2
            unfold fnOk at hfo
            rw [Bool.and_eq_true,Bool.and_eq_true,List.all_eq_true] at hfo
            have HMI:=Lib.hid (fun x hx=>(⟨hfo.2.2 x hx,(g9 x hx).2⟩:inP x))
            have HG3:=Lib.hid g3
            have HG5:=Lib.hid g5
            have HG24:=Lib.hid (And.intro g2 g4)
            obtain ⟨np,hnp⟩:∃ n,f.params.length=n:=⟨_,rfl⟩
            obtain ⟨nr,hnr⟩:∃ n,f.results.length=n:=⟨_,rfl⟩
            obtain ⟨nc,hnc⟩:∃ n,f.code.length=n:=⟨_,rfl⟩
            have HNP:=Lib.hid hnp
            have HNR:=Lib.hid hnr
            have HNC:=Lib.hid hnc
            obtain ⟨lv,hlv⟩:∃ n,f.level=n:=⟨_,rfl⟩
            obtain ⟨lo,hlo⟩:∃ n,f.locals=n:=⟨_,rfl⟩
            obtain ⟨stk,hst⟩:∃ n,f.stack=n:=⟨_,rfl⟩
            obtain ⟨lvn,rfl⟩:∃ n:Nat,lv=n:=⟨lv.toNat,by rw [hlv] at g1;have:=g1.1;omega⟩
            obtain ⟨nlo,hlo1,hlo2,hlo3⟩:=szF_nat g6
            obtain ⟨nst,hst1,hst2,hst3⟩:=szF_nat g7
            have HFN:=Lib.hid (show fnF f=putU lvn++(listF labF f.params++(listF labF f.results++(putU nlo++(putU nst++(putU nc++f.code.flatMap inF))))) from by
              unfold fnF
              rw [hlo3,hst3,show listF inF f.code=putU nc++f.code.flatMap inF from by unfold listF;rw [hnc],hlv]
              rfl)
            have hlvn:lvn<W64:=by rw [hlv] at g1;have:=g1.2;unfold W64;omega
            rw [hnp] at a2
            rw [hnr] at a3
            rw [hnc] at hbc a6
            rw [hlv] at a1
            rw [hlo] at a4 hlo2
            rw [hst] at a5 hst2
            have hLW:=HLO.out wr HP.out.kp
            have s0:=lowC.cell (hLW _ _ a1)
            have s1:=lowC.cell (hLW _ _ a2)
            have s2:=lowC.cell (hLW _ _ a3)
            have s3:=lowC.cell (hLW _ _ a4)
            have s4:=lowC.cell (hLW _ _ a5)
            have s5:=lowC.cell (hLW _ _ a6)
            have hwnc:IntKind.u64.wrap (nc:Int)=(nc:Int):=by rw [wrapU64];omega
            have Q0:=Lib.hid (show RzP B wr l' [] (wr.alloc (.cells #[.int .u64 (lvn:Int),.slice qp np cp,.slice qr nr cr,.int .i64 lo,.int .i64 stk,.slice qc nc cc] 60)) (.slice q' ln c') l' from ⟨HP.out.own.alloc _,.inl (by simp),HP.out.len,(Chg.refl _ wr).alloc _,HP.out.bs⟩)
            have HFB:=Lib.hid (InB.new wr #[.int .u64 (lvn:Int),.slice qp np cp,.slice qr nr cr,.int .i64 lo,.int .i64 stk,.slice qc nc cc] 60)
            obtain ⟨wf,hwf⟩:∃ wf,wr.alloc (.cells #[.int .u64 (lvn:Int),.slice qp np cp,.slice qr nr cr,.int .i64 lo,.int .i64 stk,.slice qc nc cc] 60)=wf:=⟨_,rfl⟩
            rw [hwf] at Q0 HFB
            have HKF:=Lib.hid (fun (W:World) (h:Rzk B wf W)=>h.keep HFB.out (by decide))
            have HSF:=Lib.hid (show B≤wf.heap.size from Nat.le_trans HSB.out (Nat.le_trans HP.out.kp.size Q0.out.kp.size))
            have HLF:=Lib.hid (fun (W:World) (h:Rzk B wf W)=>HLO.out W ((HP.out.kp.trans Q0.out.kp).trans h))
            have K0:=Lib.hid (show RzP B wf l' [] wf (.slice q' ln c') l' from ⟨Q0.out.own,.inl (by simp),Q0.out.len,Chg.refl _ _,Q0.out.bs⟩)
            clear a1 a2 a3 a4 a5 a6 zz1 zz2 zz3 hlv hlo hst hnc hnp hnr hfo g1 g2 g3 g4 g5 g6 g7 g8 g9 hLW hlo3 hst3
            have D1:=Lib.hid (zput_any K0.out.own HSF.out lvn hlvn K0.out.len K0.out.bs)
            go_upto_region 15 with (fail)
            clear hwf s0 s1 s2 s3 s4 s5
            have r0:=(HKF.out wf (Chg.refl _ _)).cell (j:=0) rfl
            go_wp2_with fail
            refine D1.out.mono ?_
            rintro e t1 ⟨d1,m1,rfl,k1⟩
            have K1:=Lib.hid (K0.out.trans k1)
            clear k1 D1 r0
            have r1:=(HKF.out t1 K1.out.kp).cell (j:=1) rfl
            have D2:=Lib.hid (zlabels_any K1.out.own (Nat.le_trans HSF.out K1.out.kp.size) (c:=cp) f.params (HPC.out.le (HLF.out _ K1.out.kp)) HG3.out HG24.out.1 K1.out.len K1.out.bs)
            rw [HNP.out] at D2
            go_wp2_with fail
            refine D2.out.mono ?_
            rintro e t2 ⟨d2,m2,rfl,k2⟩
            have K2:=Lib.hid (K1.out.trans k2)
            clear k2 D2 r1
            have r2:=(HKF.out t2 K2.out.kp).cell (j:=2) rfl
            have D3:=Lib.hid (zlabels_any K2.out.own (Nat.le_trans HSF.out K2.out.kp.size) (c:=cr) f.results (HRC.out.le (HLF.out _ K2.out.kp)) HG5.out HG24.out.2 K2.out.len K2.out.bs)
            rw [HNR.out] at D3
            go_wp2_with fail
            refine D3.out.mono ?_
            rintro e t3 ⟨d3,m3,rfl,k3⟩
            have K3:=Lib.hid (K2.out.trans k3)
            clear k3 D3 r2
            have r3:=(HKF.out t3 K3.out.kp).cell (j:=3) rfl
            have D4:=Lib.hid (zput_any K3.out.own (Nat.le_trans HSF.out K3.out.kp.size) nlo hlo1 K3.out.len K3.out.bs)
            go_wp2_with fail
            refine D4.out.mono ?_
            rintro e t4 ⟨d4,m4,rfl,k4⟩
            have K4:=Lib.hid (K3.out.trans k4)
            clear k4 D4 r3
            have r4:=(HKF.out t4 K4.out.kp).cell (j:=4) rfl
            have D5:=Lib.hid (zput_any K4.out.own (Nat.le_trans HSF.out K4.out.kp.size) nst hst1 K4.out.len K4.out.bs)
            go_wp2_with fail
            refine D5.out.mono ?_
            rintro e t5 ⟨d5,m5,rfl,k5⟩
            have K5:=Lib.hid (K4.out.trans k5)
            clear k5 D5 r4
            have r5:=(HKF.out t5 K5.out.kp).cell (j:=5) rfl
            have D6:=Lib.hid (zput_any K5.out.own (Nat.le_trans HSF.out K5.out.kp.size) nc (by unfold W64;omega) K5.out.len K5.out.bs)
            go_wp2_with fail
            refine D6.out.mono ?_
            rintro e t6 ⟨d6,m6,rfl,k6⟩
            have K6:=Lib.hid (K5.out.trans k6)
            clear k6 D6 r5
            obtain ⟨CP,hCP⟩:∃ CP,([]++putU lvn++listF labF f.params++listF labF f.results++putU nlo++putU nst++putU nc)=CP:=⟨_,rfl⟩
            have HCP:=Lib.hid hCP
            rw [hCP] at K6
            clear hCP
            obtain ⟨q6,c6,rfl⟩:=K6.out.own.slice
            have HFNC:=Lib.hid (show fnF f=CP++f.code.flatMap inF from by rw [HFN.out,← HCP.out];simp)
            have HFIN:=Lib.hid (fun (W:World) (v9:Value) (l9:List Nat) (h:RzP B wf l' (CP++f.code.flatMap inF) W v9 l9)=>show RzP B wb headF (FP++(m.funcs.take (j+1)).flatMap fnF) W v9 l9 from by
              rw [HTJ.out,HFNC.out,← List.append_assoc]
              exact ⟨h.own,HP.out.wr.trans h.wr,h.len,(HP.out.kp.trans Q0.out.kp).trans h.kp,h.bs⟩)
            go_wp2_with fail
            go_loopw [3,7] (fun b i wk=>∃ (k:Nat) (l2:List Nat),k≤nc∧i=.int .i64 k∧RzP B wf l' (CP++(f.code.take k).flatMap inF) wk b l2) (fun _ i _=>nc - (intOf i).toNat)
            case atStart=>exact ⟨0,m6,Nat.zero_le _,rfl,by simpa using K6.out⟩
            case round =>
              obtain ⟨k,l2,hk,rfl,hP2⟩:=hrel
              obtain ⟨q7,c7,rfl⟩:=hP2.own.slice
              obtain ⟨ln2,hln2⟩:∃ n,l2.length=n:=⟨_,rfl⟩
              have HL2:=Lib.hid hln2
              have HP2:=Lib.hid hP2
              rw [hln2] at HP2 ⊢
              have r5:=(HKF.out wr HP2.out.kp).cell (j:=5) rfl
              clear hP2 hln2
              by_cases hltk:k<nc
              · have hk':k<f.code.length:=by rw [HNC.out];exact hltk
                have hki:(k:Int)<(nc:Int):=by omega
                have HDC:=Lib.hid (show f.code.flatMap inF=(f.code.take k).flatMap inF++(f.code.drop k).flatMap inF from by rw [← List.flatMap_append,List.take_append_drop])
                by_cases hbig2:262144<ln2
                · have hb2:¬ (ln2:Int)≤262144:=by omega
                  have H9:=Lib.hid (HFIN.out wr (.slice q7 ln2 c7) l2 ⟨HP2.out.own,by rw [HDC.out,← List.append_assoc];exact HP2.out.wr.more (by rw [HL2.out];exact hbig2),HP2.out.len,HP2.out.kp,HP2.out.bs⟩)
                  go_wp2
                  exact ⟨⟨j+1,l2,by omega,by go_num,H9.out⟩,by simp [intOf];omega⟩
                · have hb2:(ln2:Int)≤262144:=by omega
                  obtain ⟨gi,oi,rfl,i1,i2⟩:=HCD.out k hk'
                  have HTK:=Lib.hid (show (f.code.take (k+1)).flatMap inF=(f.code.take k).flatMap inF++inF f.code[k] from by rw [List.take_succ_eq_append_getElem hk',List.flatMap_append];simp)
                  have HIP:=Lib.hid (HMI.out _ (List.getElem_mem hk'))
                  have z1:=lowC.cell (HLF.out wr HP2.out.kp _ _ i1)
                  have z2:=lowC.cell (HLF.out wr HP2.out.kp _ _ i2)
                  generalize f.code[k]=ix at *
                  obtain ⟨op,ia⟩:=ix
                  simp only at z1 z2
                  have HPU:=Lib.hid (crPut_any wr op ia HIP.out.2.1 HIP.out.2.2)
                  have HNE:=Lib.hid (show 0<(putI op ia).length from by unfold putI;rw [show mayI op ia=true from HIP.out.1];simp)
                  have HP11:=Lib.hid (putI_len op ia HIP.out.2.1 HIP.out.2.2)
                  clear i1 i2
                  go_wp2_with fail
                  refine HPU.out.mono ?_
                  rintro e w5 ⟨⟨v5,rfl,hO5,_⟩,hb5⟩
                  obtain ⟨g5,cp5,rfl,_⟩:=row_form hO5 HNE.out
                  have hcl:=by_cells hO5.in
                  have hown:=HP2.out.own.stay hb5
                  have HOW:=Lib.hid hown
                  have hsz5:=Nat.le_trans HSF.out (Nat.le_trans HP2.out.kp.size hb5.size)
                  have HK5:=Lib.hid (show Rzk B wr w5 from Rzk.of_below hb5)
                  go_wp2_with (at_builtin;refine wpList_bytes rfl _ _ rfl B _ l2 rfl hown ⟨g5,0,none⟩ cp5 (putI op ia) rfl hcl (by rw [HL2.out];have:=HP11.out;omega) hsz5 ?_)
                  intro v6 w6 hO6 hgr _
                  have H6:=Lib.hid (show RzP B wf l' (CP++(f.code.take (k+1)).flatMap inF) w6 v6 (l2++putI op ia) from by
                    rw [HTK.out,← List.append_assoc]
                    exact ⟨hO6,HP2.out.wr.trans (.inl rfl),by rw [List.length_append,HL2.out];have:=HP11.out;omega,(HP2.out.kp.trans HK5.out).trans (rz_grown HOW.out hgr),bytesL_append HP2.out.bs (putI_bytes op ia)⟩)
                  clear hO6 hgr hcl hown hO5 hb5
                  go_wp2
                  exact ⟨⟨k+1,_,by omega,by go_num,H6.out⟩,by simp [intOf];omega⟩
              · obtain rfl:nc=k:=by omega
                have H9:=Lib.hid (HFIN.out wr (.slice q7 ln2 c7) l2 (by have:=HP2.out;rwa [show f.code.take nc=f.code from by rw [← HNC.out,List.take_length]] at this))
                go_wp2
                exact ⟨⟨j+1,l2,by omega,by go_num,H9.out⟩,by simp [intOf];omega⟩
        · obtain rfl:n4=j:=by omega
          have P6:=Lib.hid (show RzP B wb headF (FP++m.funcs.flatMap fnF) wr (.slice q' ln c') l' from by have:=HP.out;rwa [← HN4.out,List.take_length] at this)
          have HPOS:=Lib.hid (show 0<l'.length from by
            rcases P6.out.wr with h | ⟨h,_⟩
            · rw [h,List.length_append,show headF.length=4 from rfl];omega
            · omega)
          have HSE:=Lib.hid (zsealed_any P6.out.own (Nat.le_trans HSB.out P6.out.kp.size) P6.out.bs HPOS.out P6.out.len)
          have HWR:=Lib.hid (show l'++sealF l'=imF m ∨ (262144<(l'++sealF l').length∧262144<(imF m).length) from by
            have hmo:headF++(FP++m.funcs.flatMap fnF)=moF m:=by rw [HBD.out,← HFP.out];simp
            rcases P6.out.wr with h | ⟨h1,h2⟩
            · rw [hmo] at h
              left;rw [h];rfl
            · right
              rw [← List.length_append,hmo] at h2
              rw [List.length_append,imF_len]
              omega)
          have HLL:=Lib.hid (show (l'++sealF l').length≤262200 from by rw [List.length_append,sealF_len];have:=P6.out.len;omega)
          go_wp2_with fail
          refine HSE.out.mono ?_
          rintro e wz ⟨vz,rfl,hOz,hKz⟩
          have HOZ:=Lib.hid hOz
          have HBZ:=Lib.hid (show Below B w wz from HBW.out.trans ((P6.out.kp.trans hKz).below HSB.out))
          clear hOz hKz
          go_wp2
          go_ret
          exact ⟨_,_,rfl,by rw [HBB.out];exact HOZ.out,by rw [HBB.out];exact HBZ.out,HLL.out,HWR.out⟩
end
end Go.Proofs.Ytbfkgcapkffecaa
namespace Go.Proofs.Ytbfkgcapkffecaa
open Go Go.RowKit
structure ApN (G N j:Nat) (gs cs:Nat→Nat) (mv:Value) (w0 wr:World):Prop where
  all:∀ q,q<2→wr.cell? ⟨G,q,none⟩=some (.slice none 0 0)
  ls:wr.ownsRow N 28 1 mv j (lsV gs cs (fun _=>0) j)
  two:∀ q,q<j→OwnB N wr (.slice (some ⟨gs q,0,none⟩) (0+70) (cs q)) (mk8 (11 * q) 70)
  big:N≤wr.heap.size
  low:Below N w0 wr
theorem ApN.next {G N j:Nat} {gs cs:Nat→Nat} {mv mv':Value} {w0 wi wr W w5:World} {g d:Nat} (hP:ApN G N j gs cs mv w0 wi) (hB:Below wi.heap.size wi wr) (hl:OwnB wi.heap.size wr (.slice (some ⟨g,0,none⟩) (0+70) d) (mk8 (11 * j) 70))
    (hW:Below wr.heap.size wr W) (hls2:W.ownsRow N 28 1 mv j (lsV gs cs (fun _=>0) j)) (hGN:G<N)
    (hR5:w5.ownsRow N 28 1 mv' (j+1) (lsV gs cs (fun _=>0) j++[.slice (some ⟨g,0,none⟩) (0+70) d])) (hg5:W.grownBy w5 mv.ownBlock) :
    ApN G N (j+1) (fun q=>if q=j then g else gs q) (fun q=>if q=j then d else cs q) mv' w0 w5:=by
  have hbig:=hP.big
  have hmvN:∀ k,mv.ownBlock=some k→N≤k:=fun k hk=>(hls2.lt k hk).1
  have hBW:Below wi.heap.size wi W:=hB.trans (hW.mono hB.size)
  have ownW:∀ {B:Nat} {v:Value} {l:List Nat},OwnB B W v l→OwnB B w5 v l:=fun {B v l} h1=>World.ownsRow.kept h1 hg5 (own_nee h1 hls2 (by decide))
  refine ⟨fun q hq=>?_,?_,fun q hq=>?_,?_,?_⟩
  · have h1:=hP.all q hq
    have h2:=(hBW.cell (World.block_lt_of_cell? _ _ h1)).trans h1
    exact hg5.cell h2 (fun e=>by have:=hmvN _ e.symm;simp at *;omega)
  · rw [lsV_succ]
    simp only [if_true]
    rw [lsV_congr (gs':=gs) (cs':=cs) (fun q hq=>by simp [Nat.ne_of_lt hq])]
    exact hR5
  · by_cases hqj:q=j
    · subst hqj
      simp only [if_true]
      exact ownW ((hl.stay hW).base hbig)
    · simp only [hqj,if_false]
      exact ownW ((hP.two q (by omega)).stay hBW)
  · have:=hg5.size
    have:=hBW.size
    omega
  · exact hP.low.trans ((hBW.mono hbig).trans (below_own hg5 (by have:=hBW.size;omega) hmvN))
set_option maxRecDepth 100000 in
set_option maxHeartbeats 2000000 in
theorem apart_nil (G c:Nat) (w:World) (h:∀ q,q<2→w.cell? ⟨G,q,none⟩=some (.slice none 0 0)) :
    Calls Try.prog 15 #[.slice (some ⟨G,0,none⟩) 2 c] w fun e w'=>e=.returned (.bool true)∧Below w.heap.size w w':=by
  have H0:=Lib.hid h
  have hGN:G<w.heap.size:=World.block_lt_of_cell? _ _ (h 0 (by omega))
  obtain ⟨i22,d2,d3,d4,d5⟩:=info22
  clear h
  go_enter Try.func15,Try.ntmps15
  go_wp2
  go_loop [3] (fun x=>∃ i:Nat,i≤2∧x=.int .i64 i) (fun x=>2 - (intOf x).toNat)
  case atStart=>exact ⟨0,by omega,rfl⟩
  case round =>
    obtain ⟨i,hi,rfl⟩:=hrel
    by_cases hlt:i<2
    · have hii:(i:Int)<2:=by omega
      have a0:=H0.out i hlt
      go_wp2
      go_loop [4] (fun x=>x=.int .i64 0) (fun _=>0)
      case atStart=>rfl
      case round =>
        subst hrel
        go_wp2
        exact ⟨⟨i+1,by omega,by go_num⟩,by simp [intOf];omega⟩
    · obtain rfl:i=2:=by omega
      go_wp2
      go_loopw [5,6] (fun mv0 x wr=>∃ (j:Nat) (gs cs:Nat→Nat) (mv:Value),j≤2∧x=.int .i64 j∧mv=mv0∧ApN G w.heap.size j gs cs mv w wr) (fun _ x _=>2 - (intOf x).toNat)
      case atStart=>exact ⟨0,fun _=>0,fun _=>0,_,by omega,rfl,rfl,⟨H0.out,World.ownsRow_nil _ _ _ _,fun q hq=>absurd hq (Nat.not_lt_zero _),Nat.le_refl _,Below.refl _ _⟩⟩
      case round =>
        obtain ⟨j,gs,cs,mv,hj,rfl,rfl,hP⟩:=hrel
        by_cases hlt:j<2
        · have hji:(j:Int)<2:=by omega
          have hall:=hP.all j hlt
          generalize wr=wi at *
          have HP:=Lib.hid hP
          have HBG:=Lib.hid hP.big
          clear hP
          go_wp2
          go_loopw [7,8] (fun l x wk=>∃ k:Nat,k≤70∧x=.int .i64 k∧OwnB wi.heap.size wk l (mk8 (11 * j) k)∧Below wi.heap.size wi wk) (fun _ x _=>70 - (intOf x).toNat)
          case atStart=>exact ⟨0,by omega,rfl,World.ownsRow_nil _ _ _ _,Below.refl _ _⟩
          case round =>
            obtain ⟨k,hk,rfl,hl,hB⟩:=hrel
            have hlen:(mk8 (11 * j) k).length=k:=mk8_length _ _
            obtain ⟨q,d,rfl⟩:=hl.slice
            rw [hlen] at hl ⊢
            by_cases hk70:k<70
            · have hki:(k:Int)<70:=by omega
              obtain ⟨val,hval⟩:∃ val:Nat,(11 * j+k) % 256=val:=⟨_,rfl⟩
              have hvi:11 * (j:Int)+(k:Int)=(val:Int):=by omega
              have hA:=hl.alloc (.cells #[.int .u8 (val:Int)] 5)
              have hWa:Below wi.heap.size wi (wr.alloc (.cells #[.int .u8 (val:Int)] 5)):=hB.alloc hB.size _
              have hbs:=hB.size
              have HL:=Lib.hid (And.intro hlen hval)
              clear hl hall hlen hval hB
              generalize hml:mk8 (11 * j) k=ml at hA HL
              have HML:=Lib.hid hml
              clear hml
              go_wp2_with (at_builtin;refine wpList_bytes rfl _ _ rfl wi.heap.size _ ml rfl hA ⟨_,0,none⟩ 1 [val] rfl (one_cells _ _) (by have:=HL.out.1;simp;omega) (by simp;omega) ?_)
              intro v2 w2 hO2 hgr _
              have HF:=Lib.hid (show OwnB wi.heap.size w2 v2 (mk8 (11 * j) (k+1)) from by rw [mk8_succ,HML.out,HL.out.2];exact hO2)
              have HB:=Lib.hid (hWa.trans (below_own hgr (by simp;omega) (fun t ht=>(hA.lt t ht).1)))
              clear hO2 hgr hA hWa
              go_wp2
              exact ⟨⟨k+1,by omega,by go_num,HF.out,HB.out⟩,by simp [intOf];omega⟩
            · obtain rfl:k=70:=by omega
              obtain ⟨g,d',e1,hBg⟩:=row_form hl (by rw [hlen];omega)
              rw [hlen] at e1
              simp only [Value.slice.injEq,true_and] at e1
              obtain ⟨rfl,rfl⟩:=e1
              have hWa:Below wr.heap.size wr (wr.alloc (.cells #[.slice (some ⟨g,0,none⟩) 70 d] 28)):=(Below.refl _ _).alloc (Nat.le_refl _) _
              have hlsr:wr.ownsRow w.heap.size 28 1 mv j (lsV gs cs (fun _=>0) j):=own_but HP.out.ls (But.of_below (R:=wi.heap.size) hB) (fun e=>by have:=(HP.out.ls.lt _ e).2;omega)
              have hls2:=hlsr.alloc (.cells #[.slice (some ⟨g,0,none⟩) 70 d] 28)
              have HNEW:=Lib.hid (fun (mv':Value) (w5:World)=>ApN.next (mv':=mv') (w5:=w5) HP.out hB hl hWa hls2 hGN)
              have hbs:=hB.size
              have hbg:=HBG.out
              clear hl hall hlen hlsr hWa hB
              go_wp2_with (at_builtin;refine wpList_append_own _ rfl _ _ 37 rfl w.heap.size 28 i22 (.slice none 0 0) 1 24 Try.underlying37 d2 d3 d4 d5 rfl (by omega) _ j _ rfl hls2 ⟨_,0,none⟩ 1 1 [.slice (some ⟨g,0,none⟩) 70 d] rfl rfl (here_one _ _ _) (by simp [Value.oneCell']) (by unfold maxLen;omega) (by omega) (by simp;omega) ?_)
              intro mv' w5 hR5 hg5 _
              have hnew:=HNEW.out mv' w5 hR5 hg5
              obtain ⟨gm,cm,rfl,_⟩:=row_form hR5 (by omega)
              have HF:=Lib.hid hnew
              clear hR5 hg5 hls2 hnew HNEW
              go_wp2
              exact ⟨⟨j+1,_,_,_,by omega,by go_num,rfl,HF.out⟩,by simp [intOf];omega⟩
        · obtain rfl:j=2:=by omega
          obtain ⟨gm,cm,rfl,_⟩:=row_form hP.ls (by omega)
          have hmo:∀ q,q<2→wr.cell? ⟨gm,q,none⟩=some (.slice (some ⟨gs q,0,none⟩) 70 (cs q)):=fun q hq=>by
            rw [hP.ls.cellAt q (by omega)];simp [lsV,hq]
          have hcs:∀ q,q<2→70≤cs q∧cs q≤maxLen:=fun q hq=>by
            obtain ⟨_,_,_,h1,h2,_⟩:=(hP.two q hq).block
            exact ⟨h1,h2⟩
          have hm3:∀ q k,q<2→k<70→wr.cell? ⟨gs q,k,none⟩=some (.int .u8 (((11 * q+k) % 256:Nat):Int)):=fun q k hq hk=>by
            rw [((hP.two q hq).at (by rw [mk8_length]) k (by omega)).1,mk8_at _ _ _ hk]
          have H3:=Lib.hid hm3
          have HMO:=Lib.hid hmo
          have HA:=Lib.hid hP.all
          have HC:=Lib.hid hcs
          have HBEL:=Lib.hid hP.low
          clear hm3 hmo hcs hP
          go_wp2
          go_loop [9] (fun x=>∃ i:Nat,i≤2∧x=.int .i64 i) (fun x=>2 - (intOf x).toNat)
          case atStart=>exact ⟨0,by omega,rfl⟩
          case round =>
            obtain ⟨i,hi,rfl⟩:=hrel
            by_cases hlt:i<2
            · have hii:(i:Int)<2:=by omega
              have a1:=HA.out i hlt
              have a2:=HMO.out i hlt
              have a3:=(HC.out i hlt).1
              go_wp2
              go_loop [11] (fun x=>x=.int .i64 0) (fun _=>0)
              case atStart=>rfl
              case round =>
                subst hrel
                go_wp2
                go_loop [12] (fun x=>∃ t:Nat,t≤70∧x=.int .i64 t) (fun x=>70 - (intOf x).toNat)
                case atStart=>exact ⟨0,by omega,rfl⟩
                case round =>
                  obtain ⟨t,ht,rfl⟩:=hrel
                  by_cases ht70:t<70
                  · have hti:(t:Int)<70:=by omega
                    have b3:=H3.out i t hlt ht70
                    obtain ⟨val,hval⟩:∃ val:Nat,(11 * i+t) % 256=val:=⟨_,rfl⟩
                    have hvi:11 * (i:Int)+(t:Int)=(val:Int):=by omega
                    rw [hval] at b3
                    clear hval
                    go_wp2
                    exact ⟨⟨t+1,by omega,by go_num⟩,by simp [intOf];omega⟩
                  · obtain rfl:t=70:=by omega
                    go_wp2
                    exact ⟨⟨i+1,by omega,by go_num⟩,by simp [intOf];omega⟩
            · obtain rfl:i=2:=by omega
              go_wp2
              go_ret
              exact ⟨rfl,HBEL.out⟩
end Go.Proofs.Ytbfkgcapkffecaa
namespace Go.Proofs.Ytbfkgcapkffecaa
open Go Go.RowKit Go.Proofs.Mm Go.Sort
section
variable {lt:Bool} {w:World}
theorem InB.block_of {w':World} {b:Nat} {cs:Array Value} {T:TypeId} (h:InB w b cs T) (hb:Below w.heap.size w w'):InB w' b cs T:=h.le hb
def RefW (w:World) (m:MoM) (e:Ending) (w':World):Prop:=Below w.heap.size w w' ∧
  ((WC m∧∃ g c,e=.returned (.tuple #[.slice (some ⟨g,0,none⟩) (imF m).length c,.int .i64 0])∧OwnB w.heap.size w' (.slice (some ⟨g,0,none⟩) (imF m).length c) (imF m)) ∨
   (¬ WC m∧e=.returned (.tuple #[.slice none 0 0,.int .i64 (if moOk m=true then 3 else 1)])))
set_option maxRecDepth 100000 in
set_option maxHeartbeats 4000000 in
theorem refWrite_any {v:Value} {m:MoM} (h:MoR lt (wC w) v m) (hf:moW m):Calls Try.prog 12 #[v] w (RefW w m):=by
  obtain ⟨a1,n1,d1,a2,n2,d2,a3,n3,d3,a4,n4,d4,rfl,h⟩:=h.form
  have HB0:=Lib.hid (show Below w.heap.size w (w.alloc (.cells #[.slice a1 n1 d1,.slice a2 n2 d2,.slice a3 n3 d3,.slice a4 n4 d4] 26)) from bl_al (Below.refl _ _) _)
  have HI0:=Lib.hid (InB.new w #[.slice a1 n1 d1,.slice a2 n2 d2,.slice a3 n3 d3,.slice a4 n4 d4] 26)
  have HMY:=Lib.hid (refMayM_any (h.le (below_cle HB0.out)))
  have HBY:=Lib.hid (fun (W:World) (hb:Below w.heap.size w W) (hok:moOk m=true)=>refBytes_any (w:=W) (h.le (below_cle hb)) hf hok)
  clear h hf
  cases hok:moOk m
  · rw [hok] at HMY
    have HOK:=Lib.hid hok
    clear hok
    go_enter Try.func12,Try.ntmps12
    go_wp2_with fail
    refine HMY.out.mono ?_
    rintro e w1 ⟨rfl,hb⟩
    have HB1:=Lib.hid (bl_tr HB0.out hb)
    clear hb
    go_wp2
    go_ret2
    exact ⟨HB1.out,.inr ⟨fun h=>(by have:=h.1;rw [HOK.out] at this;cases this),by rw [HOK.out];rfl⟩⟩
  · rw [hok] at HMY
    have HOK:=Lib.hid hok
    clear hok
    go_enter Try.func12,Try.ntmps12
    go_wp2_with fail
    refine HMY.out.mono ?_
    rintro e w1 ⟨rfl,hb⟩
    have HB1:=Lib.hid (bl_tr HB0.out hb)
    have hI:=HI0.out.le hb
    have x0:=hI.cell (j:=0) rfl
    have x1:=hI.cell (j:=1) rfl
    have x2:=hI.cell (j:=2) rfl
    have x3:=hI.cell (j:=3) rfl
    have HBB:=Lib.hid (HBY.out w1 HB1.out HOK.out)
    clear hb hI
    go_wp2_with fail
    refine HBB.out.mono ?_
    rintro e w2 ⟨v2,l,rfl,hO,hb,hll,hl⟩
    obtain ⟨g,c,rfl,hg⟩:=row_form hO (by
      rcases hl with h | ⟨h,_⟩
      · rw [h,imF_len];omega
      · omega)
    obtain ⟨ln,hln⟩:∃ ln,l.length=ln:=⟨_,rfl⟩
    rw [hln] at hO hl hll ⊢
    have HB2:=Lib.hid (bl_tr HB1.out hb)
    have HO:=Lib.hid hO
    have HSZ:=Lib.hid HB1.out.size
    have HL:=Lib.hid hl
    have HLN:=Lib.hid hln
    clear hO hb hln
    by_cases hbig:262144<ln
    · have hb1:(262144:Int)<(ln:Int):=by omega
      have HNO:=Lib.hid (show ¬ (imF m).length≤262144 from by
        rcases HL.out with h | ⟨_,h⟩
        · rw [← h,HLN.out];omega
        · omega)
      clear hl
      go_wp2
      go_ret2
      exact ⟨HB2.out,.inr ⟨fun h=>HNO.out h.2,by rw [HOK.out];rfl⟩⟩
    · have hb1:¬ (262144:Int)<(ln:Int):=by omega
      have hle:l=imF m:=by
        rcases hl with h | ⟨h,_⟩
        · exact h
        · exact absurd h hbig
      subst hle
      have HWC:=Lib.hid (show WC m from ⟨HOK.out,by rw [HLN.out];omega⟩)
      clear hl HL
      go_wp2
      go_ret2
      exact ⟨HB2.out,.inl ⟨HWC.out,g,c,by rw [HLN.out];rfl,by rw [HLN.out];exact HO.out.base HSZ.out⟩⟩
set_option maxRecDepth 100000 in
set_option maxHeartbeats 8000000 in
theorem writes_law {v:Value} {m:MoM} (h:MoR false (wC w) v m) (hf:moW m):Calls Try.prog 3 #[v] w fun e w'=>e=.returned (.bool true)∧Below w.heap.size w w':=by
  obtain ⟨a1,n1,d1,a2,n2,d2,a3,n3,d3,a4,n4,d4,rfl,h⟩:=h.form
  have HB0:=Lib.hid (show Below w.heap.size w (w.alloc (.cells #[.slice a1 n1 d1,.slice a2 n2 d2,.slice a3 n3 d3,.slice a4 n4 d4] 26)) from bl_al (Below.refl _ _) _)
  have HI0:=Lib.hid (InB.new w #[.slice a1 n1 d1,.slice a2 n2 d2,.slice a3 n3 d3,.slice a4 n4 d4] 26)
  have HLM:=Lib.hid (lentModule_any (h.le (below_cle HB0.out)) (m:=fun _=>none) (fun _ _ h=>by cases h))
  have HM:=Lib.hid h
  have HF:=Lib.hid hf
  clear h hf
  go_enter Try.func3,Try.ntmps3
  go_wp2_with fail
  refine HLM.out.mono ?_
  rintro e w1 ⟨v1,m1,rfl,hb,_,hH,hM1⟩
  obtain ⟨b1,k1,f1,b2,k2,f2,b3,k3,f3,b4,k4,f4,rfl,hMI⟩:=(hM1.le (has_cle hH)).form
  have HB1:=Lib.hid (bl_tr HB0.out hb)
  have HI1:=Lib.hid (HI0.out.le hb)
  have HMI:=Lib.hid hMI
  have HJ1:=Lib.hid (InB.new w1 #[.slice b1 k1 f1,.slice b2 k2 f2,.slice b3 k3 f3,.slice b4 k4 f4] 26)
  obtain ⟨w2,hw2⟩:∃ w2,w1.alloc (.cells #[.slice b1 k1 f1,.slice b2 k2 f2,.slice b3 k3 f3,.slice b4 k4 f4] 26)=w2:=⟨_,rfl⟩
  have HB2:=Lib.hid (show Below w1.heap.size w1 w2 from by rw [← hw2];exact bl_al (Below.refl _ _) _)
  rw [hw2] at HJ1
  have HW1:=Lib.hid (Write_any (w:=w2) (HMI.out.le (below_cle HB2.out)) HF.out)
  clear hb hH hM1 hMI
  go_upto_region 2 with (fail)
  clear hw2
  have HBW2:=Lib.hid (bl_tr HB1.out HB2.out)
  have HI2:=Lib.hid (HI1.out.le HB2.out)
  have HKE:=Lib.hid (fun (W:World) (hb:Below w2.heap.size w2 W)=>keptModule_true (w:=W) (HMI.out.le (below_cle (bl_tr HB2.out hb))) (HM.out.le (below_cle (bl_tr HBW2.out hb))))
  have j0:=HJ1.out.cell (j:=0) rfl
  have j1:=HJ1.out.cell (j:=1) rfl
  have j2:=HJ1.out.cell (j:=2) rfl
  have j3:=HJ1.out.cell (j:=3) rfl
  go_wp2_with fail
  refine HW1.out.mono ?_
  rintro e w3 hw3
  clear HW1 j0 j1 j2 j3
  by_cases hC:WC m
  · obtain ⟨gx,cx,rfl,hO3,_,_,hb3⟩:=hw3.yes hC
    have HB3:=Lib.hid hb3
    have HO3:=Lib.hid hO3
    have HCC:=Lib.hid hC
    have hJ:=HJ1.out.le hb3
    have j0:=hJ.cell (j:=0) rfl
    have j1:=hJ.cell (j:=1) rfl
    have j2:=hJ.cell (j:=2) rfl
    have j3:=hJ.cell (j:=3) rfl
    have HW2:=Lib.hid (Write_any (w:=w3) (HMI.out.le (below_cle (bl_tr HB2.out hb3))) HF.out)
    obtain ⟨LN,hLN⟩:∃ LN,(imF m).length=LN:=⟨_,rfl⟩
    have HLN:=Lib.hid hLN
    have HLE:=Lib.hid (show LN≤262144 from by rw [← hLN];exact hC.2)
    rw [hLN] at HO3 ⊢
    clear hO3 hb3 hJ hw3 hC hLN
    go_wp2_with fail
    refine HW2.out.mono ?_
    rintro e w4 hw4
    obtain ⟨gy,cy,rfl,hO4,_,_,hb4⟩:=hw4.yes HCC.out
    rw [HLN.out] at hO4 ⊢
    have HB4:=Lib.hid (bl_tr HB3.out hb4)
    have HX4:=Lib.hid (HO3.out.stay hb4)
    have HY4:=Lib.hid (hO4.base HB3.out.size)
    have HNE:=Lib.hid (show gx ≠ gy from by have h1:=(HO3.out.lt gx rfl).2;have h2:=(hO4.lt gy rfl).1;omega)
    have hI:=HI2.out.le HB4.out
    have y0:=hI.cell (j:=0) rfl
    have y1:=hI.cell (j:=1) rfl
    have y2:=hI.cell (j:=2) rfl
    have y3:=hI.cell (j:=3) rfl
    have HRF:=Lib.hid (refWrite_any (w:=w4) (HM.out.le (below_cle (bl_tr HBW2.out HB4.out))) HF.out)
    clear hO4 hb4 hw4 hI j0 j1 j2 j3 HW2
    go_wp2_with fail
    refine HRF.out.mono ?_
    rintro e w5 ⟨hb5,⟨_,gz,cz,rfl,hO5⟩ | ⟨hno,_⟩⟩
    · rw [HLN.out] at hO5 ⊢
      have HB5:=Lib.hid (bl_tr HB4.out hb5)
      have HX5:=Lib.hid (HX4.out.stay hb5)
      have HY5:=Lib.hid (HY4.out.stay hb5)
      have HZ5:=Lib.hid hO5
      have HBY:=Lib.hid (fun (W:World) (g cc:Nat) (hb:Below w5.heap.size w5 W) (h:ByIn W.heap.size W (some ⟨g,0,none⟩) (imF m))=>show Calls Try.prog 13 #[.slice (some ⟨g,0,none⟩) LN cc,.slice (some ⟨gz,0,none⟩) LN cz] W (fun e w'=>e=.returned (.bool true)∧Below W.heap.size W w') from by
        have:=bytes_any (some ⟨g,0,none⟩) (some ⟨gz,0,none⟩) cc cz (imF m) (imF m) (by rw [HLN.out];have:=HLE.out;unfold maxLen;omega) W h (HZ5.out.stay hb).in
        rw [decide_eq_true rfl,HLN.out] at this
        exact this)
      have HAP:=Lib.hid (fun (W:World) (gx gy cx cy:Nat) (hx:OwnB w2.heap.size W (.slice (some ⟨gx,0,none⟩) LN cx) (imF m)) (hy:OwnB w2.heap.size W (.slice (some ⟨gy,0,none⟩) LN cy) (imF m)) (hne:gx ≠ gy) (hbW:Below w2.heap.size w2 W) =>
        show Calls Try.prog 15 #[.slice (some ⟨W.heap.size,0,none⟩) 2 2] (W.alloc (.cells #[.slice (some ⟨gx,0,none⟩) LN cx,.slice (some ⟨gy,0,none⟩) LN cy] 28)) (fun e w'=>e=.returned (.bool true)∧Below w2.heap.size w2 w') from by
        have hl:=InB.new W #[.slice (some ⟨gx,0,none⟩) LN cx,.slice (some ⟨gy,0,none⟩) LN cy] 28
        have hxU:=(hx.lt gx rfl).2
        have hyU:=(hy.lt gy rfl).2
        have hX9:=hx.alloc (.cells #[.slice (some ⟨gx,0,none⟩) LN cx,.slice (some ⟨gy,0,none⟩) LN cy] 28)
        have hY9:=hy.alloc (.cells #[.slice (some ⟨gx,0,none⟩) LN cx,.slice (some ⟨gy,0,none⟩) LN cy] 28)
        have hbA:Below w2.heap.size w2 (W.alloc (.cells #[.slice (some ⟨gx,0,none⟩) LN cx,.slice (some ⟨gy,0,none⟩) LN cy] 28)):=bl_al hbW _
        refine (apart_any W.heap.size w2.heap.size (fun q=>if q=0 then gx else gy) (fun _=>LN) (fun q=>if q=0 then cx else cy) (fun _=>imF m) (fun q hq=>?_) (fun q r hq hr h=>?_) (fun q _=>by have:=HLE.out;omega) 2 _ hbA.size ⟨fun q hq=>?_,fun q hq=>?_,fun _ _=>HLN.out,Below.refl _ _⟩).mono (fun e w' h=>⟨h.1,hbA.trans h.2⟩)
        · show ¬ W.heap.size=if q=0 then gx else gy
          split <;> omega
        · have h':(if q=0 then gx else gy)=(if r=0 then gx else gy):=h
          split at h' <;> split at h' <;> omega
        · have h3:q=0 ∨ q=1:=by omega
          rcases h3 with rfl | rfl
          · exact hl.cell rfl
          · exact hl.cell rfl
        · have h3:q=0 ∨ q=1:=by omega
          rcases h3 with rfl | rfl
          · exact hX9
          · exact hY9)
      clear hO5 hb5 HRF y0 y1 y2 y3
      go_wp2_with fail
      refine (HBY.out w5 gx cx (Below.refl _ _) HX5.out.in).mono ?_
      rintro e w6 ⟨rfl,hb6⟩
      have HB6:=Lib.hid hb6
      clear hb6
      go_wp2_with fail
      refine (HBY.out w6 gy cy HB6.out (HY5.out.stay HB6.out).in).mono ?_
      rintro e w7 ⟨rfl,hb7⟩
      have HB7:=Lib.hid (bl_tr HB6.out hb7)
      have HC7:=Lib.hid (bl_tr HB5.out HB7.out)
      have hJ:=HJ1.out.le HC7.out
      have hI:=HI2.out.le HC7.out
      have j0:=hJ.cell (j:=0) rfl
      have j1:=hJ.cell (j:=1) rfl
      have j2:=hJ.cell (j:=2) rfl
      have j3:=hJ.cell (j:=3) rfl
      have y0:=hI.cell (j:=0) rfl
      have y1:=hI.cell (j:=1) rfl
      have y2:=hI.cell (j:=2) rfl
      have y3:=hI.cell (j:=3) rfl
      clear hb7 hJ hI
      go_wp2_with fail
      refine (HKE.out w7 HC7.out).mono ?_
      rintro e w8 ⟨rfl,hb8⟩
      have HB8:=Lib.hid (bl_tr HB7.out hb8)
      have HC8:=Lib.hid (bl_tr HB5.out HB8.out)
      clear hb8 j0 j1 j2 j3 y0 y1 y2 y3
      go_wp2_with fail
      refine (HAP.out w8 gx gy cx cy (HX5.out.stay HB8.out) (HY5.out.stay HB8.out) HNE.out HC8.out).mono ?_
      rintro e w9 ⟨rfl,hb9⟩
      have HC9:=Lib.hid hb9
      have hJ:=HJ1.out.block_of hb9
      have hI:=HI2.out.block_of hb9
      have j0:=hJ.cell (j:=0) rfl
      have j1:=hJ.cell (j:=1) rfl
      have j2:=hJ.cell (j:=2) rfl
      have j3:=hJ.cell (j:=3) rfl
      have y0:=hI.cell (j:=0) rfl
      have y1:=hI.cell (j:=1) rfl
      have y2:=hI.cell (j:=2) rfl
      have y3:=hI.cell (j:=3) rfl
      clear hb9 hJ hI
      go_wp2_with fail
      refine (HKE.out w9 HC9.out).mono ?_
      rintro e w10 ⟨rfl,hb10⟩
      have HC10:=Lib.hid (bl_tr HC9.out hb10)
      clear hb10 j0 j1 j2 j3 y0 y1 y2 y3
      go_wp2_with (go_at_call 16;refine (awake_any _).mono ?_;rintro e w11 ⟨rfl,hb11⟩)
      all_goals
        have HE:=Lib.hid (bl_tr HBW2.out (bl_tr HC10.out hb11))
        go_ret
        exact ⟨rfl,HE.out⟩
    · exact absurd HCC.out hno
  · have HCN:=Lib.hid hC
    obtain ⟨zz,hzz⟩:∃ zz:Int,(if moOk m=true then 3 else 1)=zz:=⟨_,rfl⟩
    have HZZ:=Lib.hid hzz
    have HZ:=Lib.hid (fun (z:Int) (h1:moOk m=false→z=1) (h2:moOk m=true→z=3)=>show z=zz from by
      rw [← hzz]
      cases hok:moOk m
      · rw [h1 hok];rfl
      · rw [h2 hok];rfl)
    obtain ⟨z3,rfl,hz3,e1,e2,hb3⟩:=hw3.no hC
    obtain rfl:=HZ.out z3 e1 e2
    have HB3:=Lib.hid hb3
    have hJ:=HJ1.out.le hb3
    have j0:=hJ.cell (j:=0) rfl
    have j1:=hJ.cell (j:=1) rfl
    have j2:=hJ.cell (j:=2) rfl
    have j3:=hJ.cell (j:=3) rfl
    have HW2:=Lib.hid (Write_any (w:=w3) (HMI.out.le (below_cle (bl_tr HB2.out hb3))) HF.out)
    clear hb3 hJ hw3 hC e1 e2 hz3 hzz
    go_wp2_with fail
    refine HW2.out.mono ?_
    rintro e w4 hw4
    obtain ⟨z4,rfl,hz4,e1,e2,hb4⟩:=hw4.no HCN.out
    have hz:=HZ.out z4 e1 e2
    subst hz
    have HB4:=Lib.hid (bl_tr HB3.out hb4)
    have hI:=HI2.out.le HB4.out
    have y0:=hI.cell (j:=0) rfl
    have y1:=hI.cell (j:=1) rfl
    have y2:=hI.cell (j:=2) rfl
    have y3:=hI.cell (j:=3) rfl
    have HRF:=Lib.hid (refWrite_any (w:=w4) (HM.out.le (below_cle (bl_tr HBW2.out HB4.out))) HF.out)
    clear hb4 hw4 hI j0 j1 j2 j3 HW2 e1 e2 hz4
    go_wp2_with fail
    refine HRF.out.mono ?_
    rintro e w5 ⟨hb5,⟨hno,_⟩ | ⟨_,rfl⟩⟩
    · exact absurd hno HCN.out
    · rw [HZZ.out]
      have HB5:=Lib.hid (bl_tr HB4.out hb5)
      have HBY:=Lib.hid (fun (W:World)=>show Calls Try.prog 13 #[.slice none 0 0,.slice none 0 0] W (fun e w'=>e=.returned (.bool true)∧Below W.heap.size W w') from by
        have:=bytes_any none none 0 0 [] [] (by simp) W (ByIn.nil _ _ _) (ByIn.nil _ _ _)
        rw [decide_eq_true rfl] at this
        exact this)
      have HAP:=Lib.hid (fun (W:World)=>show Calls Try.prog 15 #[.slice (some ⟨W.heap.size,0,none⟩) 2 2] (W.alloc (.cells #[.slice none 0 0,.slice none 0 0] 28)) (fun e w'=>e=.returned (.bool true)∧Below W.heap.size W w') from by
        have hl:=InB.new W #[.slice none 0 0,.slice none 0 0] 28
        refine (apart_nil W.heap.size 2 _ (fun q hq=>?_)).mono (fun e w' h=>⟨h.1,bl_tr (bl_al (Below.refl _ _) _) h.2⟩)
        have h3:q=0 ∨ q=1:=by omega
        rcases h3 with rfl | rfl
        · exact hl.cell rfl
        · exact hl.cell rfl)
      clear hb5 HRF y0 y1 y2 y3
      go_wp2_with fail
      refine (HBY.out w5).mono ?_
      rintro e w6 ⟨rfl,hb6⟩
      have HB6:=Lib.hid hb6
      clear hb6
      go_wp2_with fail
      refine (HBY.out w6).mono ?_
      rintro e w7 ⟨rfl,hb7⟩
      have HC7:=Lib.hid (bl_tr HB5.out (bl_tr HB6.out hb7))
      have hJ:=HJ1.out.le HC7.out
      have hI:=HI2.out.le HC7.out
      have j0:=hJ.cell (j:=0) rfl
      have j1:=hJ.cell (j:=1) rfl
      have j2:=hJ.cell (j:=2) rfl
      have j3:=hJ.cell (j:=3) rfl
      have y0:=hI.cell (j:=0) rfl
      have y1:=hI.cell (j:=1) rfl
      have y2:=hI.cell (j:=2) rfl
      have y3:=hI.cell (j:=3) rfl
      clear hb7 hJ hI
      go_wp2_with fail
      refine (HKE.out w7 HC7.out).mono ?_
      rintro e w8 ⟨rfl,hb8⟩
      have HC8:=Lib.hid (bl_tr HC7.out hb8)
      clear hb8 j0 j1 j2 j3 y0 y1 y2 y3
      go_wp2_with fail
      refine (HAP.out w8).mono ?_
      rintro e w9 ⟨rfl,hb9⟩
      have HC9:=Lib.hid (bl_tr HC8.out hb9)
      have hJ:=HJ1.out.le HC9.out
      have hI:=HI2.out.le HC9.out
      have j0:=hJ.cell (j:=0) rfl
      have j1:=hJ.cell (j:=1) rfl
      have j2:=hJ.cell (j:=2) rfl
      have j3:=hJ.cell (j:=3) rfl
      have y0:=hI.cell (j:=0) rfl
      have y1:=hI.cell (j:=1) rfl
      have y2:=hI.cell (j:=2) rfl
      have y3:=hI.cell (j:=3) rfl
      clear hb9 hJ hI
      go_wp2_with fail
      refine (HKE.out w9 HC9.out).mono ?_
      rintro e w10 ⟨rfl,hb10⟩
      have HC10:=Lib.hid (bl_tr HC9.out hb10)
      clear hb10 j0 j1 j2 j3 y0 y1 y2 y3
      go_wp2_with (go_at_call 16;refine (awake_any _).mono ?_;rintro e w11 ⟨rfl,hb11⟩)
      all_goals
        have HE:=Lib.hid (bl_tr HBW2.out (bl_tr HC10.out hb11))
        go_ret
        exact ⟨rfl,HE.out⟩
end
end Go.Proofs.Ytbfkgcapkffecaa
