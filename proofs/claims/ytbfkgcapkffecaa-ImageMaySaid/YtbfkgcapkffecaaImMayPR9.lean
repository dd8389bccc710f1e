/- ImageMay: the law's walk. -/
import Derived.Test.YtbfkgcapkffecaaImMayPR8
namespace Go.Proofs.Ytbfkgcapkffecaa
open Go Go.RowKit Go.Proofs.Mm Go.Sort
theorem bd_len (m:MoM):4≤(bdF m).length:=by
  have h:∀ n,0<(putU n).length:=fun n=>List.length_pos_iff.2 (putU_ne n)
  unfold bdF listF
  simp only [List.length_append]
  have:=h m.globals.length
  have:=h m.arrays.length
  have:=h m.channels.length
  have:=h m.funcs.length
  omega
theorem WriteR.may {w w':World} {m:MoM} {e:Ending} (h:WriteR w m e w'):∃ q k c z,e=.returned (.tuple #[.slice q k c,.int .i64 z])∧Below w.heap.size w w'∧(moOk m=false→z=1∧k=0)∧(moOk m=true→(z=0∧16≤k∧k≤262144) ∨ (z=3∧k=0)):=by
  by_cases hC:WC m
  · obtain ⟨g,c,rfl,hO,h1,h2,hb⟩:=h.yes hC
    refine ⟨_,_,_,_,rfl,hb,fun hm=>(by rw [hC.1] at hm;cases hm),fun _=>.inl ⟨rfl,?_,hC.2⟩⟩
    have:(moF m).length=4+(bdF m).length:=by unfold moF;rw [List.length_append];rfl
    have:=bd_len m
    rw [imF_len];omega
  · obtain ⟨z,rfl,hz,h1,h2,hb⟩:=h.no hC
    exact ⟨_,_,_,_,rfl,hb,fun hm=>⟨h1 hm,rfl⟩,fun hm=>.inr ⟨h2 hm,rfl⟩⟩
section
variable {w:World}
set_option maxRecDepth 100000 in
set_option maxHeartbeats 8000000 in
theorem may_law {v:Value} {m:MoM} (h:MoR false (wC w) v m) (hf:moW m):Calls Try.prog 9 #[v] w fun e w'=>e=.returned (.bool true)∧Below w.heap.size w w':=by
  have h0:=h
  obtain ⟨v1,v2,v3,v4,rfl,z1,z2,z3,z4⟩:=h
  have hm2:=slx_bytes z2
  have hm4:=slx_bytes z4
  obtain ⟨q1,c1,rfl⟩:=slx_shape z1
  obtain ⟨q2,c2,rfl⟩:=slx_shape z2
  obtain ⟨q3,c3,rfl⟩:=slx_shape z3
  obtain ⟨q4,c4,rfl⟩:=slx_shape z4
  have HA2:=Lib.hid z2.cells
  have HA4:=Lib.hid z4.cells
  obtain ⟨n1,hn1⟩:∃ n,m.globals.length=n:=⟨_,rfl⟩
  obtain ⟨n2,hn2⟩:∃ n,m.arrays.length=n:=⟨_,rfl⟩
  obtain ⟨n3,hn3⟩:∃ n,m.channels.length=n:=⟨_,rfl⟩
  obtain ⟨n4,hn4⟩:∃ n,m.funcs.length=n:=⟨_,rfl⟩
  have HN2:=Lib.hid hn2
  have HN4:=Lib.hid hn4
  rw [hn1,hn2,hn3,hn4] at h0 ⊢
  rw [hn2] at hm2
  rw [hn4] at hm4
  have HI0:=Lib.hid (InB.new w #[.slice q1 n1 c1,.slice q2 n2 c2,.slice q3 n3 c3,.slice q4 n4 c4] 26)
  have HB0:=Lib.hid (show Below w.heap.size w (w.alloc (.cells #[.slice q1 n1 c1,.slice q2 n2 c2,.slice q3 n3 c3,.slice q4 n4 c4] 26)) from bl_al (Below.refl _ _) _)
  have HW:=Lib.hid (Write_any (h0.le (below_cle HB0.out)) hf)
  have HMO:=Lib.hid (show moOk m=(m.arrays.all arOkB && m.funcs.all fnOk) from rfl)
  clear z1 z2 z3 z4 h0 hf hn1 hn2 hn3 hn4
  go_enter Try.func9,Try.ntmps9
  go_wp2_with fail
  refine HW.out.mono ?_
  rintro e w1 hw1
  obtain ⟨qb,kb,cb,zb,rfl,hb,hbad,hgood⟩:=hw1.may
  have HB1:=Lib.hid (bl_tr HB0.out hb)
  have HI1:=Lib.hid (HI0.out.le hb)
  have x1:=HI1.out.cell (j:=1) rfl
  have HBAD:=Lib.hid hbad
  have HGOOD:=Lib.hid hgood
  clear hb hw1 hbad hgood HW HB0 HI0
  go_wp2_with fail
  go_loopw [5,6] (fun b i wr=>∃ j:Nat,j≤n2∧i=.int .i64 j∧b=.bool (!((m.arrays.take j).all arOkB))∧wr=w1) (fun _ i _=>n2 - (intOf i).toNat)
  case atStart=>exact ⟨0,Nat.zero_le _,rfl,rfl,rfl⟩
  case round =>
    obtain ⟨j,hj,rfl,rfl,rfl⟩:=hrel
    by_cases hlt:j<n2
    · have hj':j<m.arrays.length:=by rw [HN2.out];exact hlt
      obtain ⟨g,o,rfl,a1,a2⟩:=HA2.out j hj'
      have HTK:=Lib.hid (show (m.arrays.take (j+1)).all arOkB=((m.arrays.take j).all arOkB && arOkB m.arrays[j]) from by rw [List.take_succ_eq_append_getElem hj',List.all_append];simp)
      have y1:=cell_b a1 HB1.out
      have hji:(j:Int)<(n2:Int):=by omega
      generalize m.arrays[j]=ax at *
      clear a1 a2
      generalize hrr:(m.arrays.take j).all arOkB=rr at *
      cases rr
      · go_wp2
        exact ⟨⟨j+1,by omega,by go_num,by rw [HTK.out];rfl,trivial⟩,by simp [intOf];omega⟩
      · have hdd:decide (ax.1<0)=!(arOkB ax):=by
          by_cases h:ax.1<0
          · rw [decide_eq_true h,show arOkB ax=false from decide_eq_false (by omega)];rfl
          · rw [decide_eq_false h,show arOkB ax=true from decide_eq_true (by omega)];rfl
        go_wp2
        exact ⟨⟨j+1,by omega,by go_num,by rw [HTK.out];simp,trivial⟩,by simp [intOf];omega⟩
    · obtain rfl:n2=j:=by omega
      rw [show m.arrays.take n2=m.arrays from by rw [← HN2.out,List.take_length]]
      generalize m.arrays.all arOkB=RA at *
      go_wp2_with fail
      go_loopw [5,7] (fun b i wr=>∃ j:Nat,j≤n4∧i=.int .i64 j∧b=.bool (!(RA && (m.funcs.take j).all fnOk))∧Hid (Below w.heap.size w wr)∧Hid (InB wr w.heap.size #[.slice q1 n1 c1,.slice q2 n2 c2,.slice q3 n3 c3,.slice q4 n4 c4] 26)) (fun _ i _=>n4 - (intOf i).toNat)
      case atStart=>exact ⟨0,Nat.zero_le _,rfl,by simp,HB1,HI1⟩
      case round =>
        obtain ⟨j,hj,rfl,rfl,HBJ,HIJ⟩:=hrel
        have x3:=HIJ.out.cell (j:=3) rfl
        by_cases hlt4:j<n4
        · have hj':j<m.funcs.length:=by rw [HN4.out];exact hlt4
          obtain ⟨g,o,vp,vr,vc,rfl,a0,a1,a2,a3,a4,a5,a6⟩:=HA4.out j hj'
          have HTJ:=Lib.hid (show (m.funcs.take (j+1)).all fnOk=((m.funcs.take j).all fnOk && fnOk m.funcs[j]) from by rw [List.take_succ_eq_append_getElem hj',List.all_append];simp)
          generalize m.funcs[j]=f at *
          obtain ⟨vp',vr',vc',e0,zz1,zz2,zz3⟩:=a0
          injection e0 with _ e0;injection e0 with e1 e0;injection e0 with e2 e0;injection e0 with _ e0;injection e0 with _ e0;injection e0 with e3 _
          subst e1 e2 e3
          obtain ⟨qp,np,cp,rfl⟩:∃ q n c,vp=.slice q n c:=let ⟨q,c,e⟩:=slx_shape zz1;⟨q,_,c,e⟩
          obtain ⟨qr,nr,cr,rfl⟩:∃ q n c,vr=.slice q n c:=let ⟨q,c,e⟩:=slx_shape zz2;⟨q,_,c,e⟩
          have hbc:=slx_bytes zz3
          obtain ⟨qc,cc,rfl⟩:=slx_shape zz3
          have HCD:=Lib.hid zz3.cells
          obtain ⟨nc,hnc⟩:∃ n,f.code.length=n:=⟨_,rfl⟩
          have HNC:=Lib.hid hnc
          obtain ⟨lv,hlv⟩:∃ n,f.level=n:=⟨_,rfl⟩
          obtain ⟨lo,hlo⟩:∃ n,f.locals=n:=⟨_,rfl⟩
          obtain ⟨stk,hst⟩:∃ n,f.stack=n:=⟨_,rfl⟩
          have HFO:=Lib.hid (show fnOk f=(decide (0≤lo) && (decide (0≤stk) && f.code.all inOkB)) from by unfold fnOk;rw [hlo,hst])
          rw [hnc] at hbc a6
          rw [hlv] at a1
          rw [hlo] at a4
          rw [hst] at a5
          have y0:=cell_b a1 HBJ.out
          have y1:=cell_b a2 HBJ.out
          have y2:=cell_b a3 HBJ.out
          have y3:=cell_b a4 HBJ.out
          have y4:=cell_b a5 HBJ.out
          have y5:=cell_b a6 HBJ.out
          clear a1 a2 a3 a4 a5 a6 zz1 zz2 zz3 hlv hlo hst hnc
          have hji:(j:Int)<(n4:Int):=by omega
          generalize hrj:(RA && (m.funcs.take j).all fnOk)=rj at *
          have HRJ:=Lib.hid hrj
          clear hrj
          cases rj
          · have hin:True:=trivial
            go_wp2_with fail
            have HBV:=Lib.hid (bl_al HBJ.out (.cells #[.int .u64 lv,.slice qp np cp,.slice qr nr cr,.int .i64 lo,.int .i64 stk,.slice qc nc cc] 60))
            have HIV:=Lib.hid (inb_al HIJ.out (.cells #[.int .u64 lv,.slice qp np cp,.slice qr nr cr,.int .i64 lo,.int .i64 stk,.slice qc nc cc] 60))
            have HFB:=Lib.hid (InB.new wr #[.int .u64 lv,.slice qp np cp,.slice qr nr cr,.int .i64 lo,.int .i64 stk,.slice qc nc cc] 60)
            generalize wr.alloc (.cells #[.int .u64 lv,.slice qp np cp,.slice qr nr cr,.int .i64 lo,.int .i64 stk,.slice qc nc cc] 60)=wv at *
            go_loopw [5,9] (fun b i wk=>∃ k:Nat,k≤nc∧i=.int .i64 k∧b=.bool (!(false && (f.code.take k).all inOkB))∧Hid (Below wv.heap.size wv wk)) (fun _ i _=>nc - (intOf i).toNat)
            case atStart=>exact ⟨0,Nat.zero_le _,rfl,by simp,Lib.hid (Below.refl _ _)⟩
            case round =>
              obtain ⟨k,hk,rfl,rfl,HK⟩:=hrel
              have hFK:=HFB.out.le HK.out
              have y5:=hFK.cell (j:=5) rfl
              clear hFK
              by_cases hltk:k<nc
              · have hk':k<f.code.length:=by rw [HNC.out];exact hltk
                obtain ⟨gi,oi,rfl,i1,i2⟩:=HCD.out k hk'
                have HTK:=Lib.hid (show (f.code.take (k+1)).all inOkB=((f.code.take k).all inOkB && inOkB f.code[k]) from by rw [List.take_succ_eq_append_getElem hk',List.all_append];simp)
                have HBKK:=Lib.hid (bl_tr HBV.out HK.out)
                have z1:=cell_b i1 HBKK.out
                have z2:=cell_b i2 HBKK.out
                generalize f.code[k]=ix at *
                clear i1 i2
                have hki:(k:Int)<(nc:Int):=by omega
                have HMY:=Lib.hid (May_any ix.1 ix.2 wr)
                generalize hrr:(false && (f.code.take k).all inOkB)=rr at *
                cases rr
                · go_wp2
                  refine ⟨⟨k+1,by omega,by go_num,?_,Lib.hid (HK.out)⟩,by simp [intOf];omega⟩
                  rw [HTK.out,← Bool.and_assoc,hrr];rfl
                · go_wp2_with fail
                  refine HMY.out.mono ?_
                  rintro e w5 ⟨rfl,hb⟩
                  have HB5:=Lib.hid (bl_tr HK.out hb)
                  clear hb
                  go_wp2
                  refine ⟨⟨k+1,by omega,by go_num,?_,Lib.hid HB5.out⟩,by simp [intOf];omega⟩
                  rw [HTK.out,← Bool.and_assoc,hrr];simp
              · obtain rfl:k=nc:=by omega
                have HBKK:=Lib.hid (bl_tr HBV.out HK.out)
                go_wp2
                refine ⟨⟨j+1,by omega,by go_num,?_,Lib.hid HBKK.out,Lib.hid (HIV.out.le HK.out)⟩,by simp [intOf];omega⟩
                rw [HTJ.out,HFO.out,← Bool.and_assoc,HRJ.out,show f.code.take k=f.code from by rw [← HNC.out,List.take_length]]
                simp
          · by_cases hl0:lo<0
            · have e1:decide (lo<0)=true:=decide_eq_true hl0
              have HDL:=Lib.hid (show decide (0≤lo)=false from decide_eq_false (by omega))
              go_wp2_with fail
              have HBV:=Lib.hid (bl_al HBJ.out (.cells #[.int .u64 lv,.slice qp np cp,.slice qr nr cr,.int .i64 lo,.int .i64 stk,.slice qc nc cc] 60))
              have HIV:=Lib.hid (inb_al HIJ.out (.cells #[.int .u64 lv,.slice qp np cp,.slice qr nr cr,.int .i64 lo,.int .i64 stk,.slice qc nc cc] 60))
              have HFB:=Lib.hid (InB.new wr #[.int .u64 lv,.slice qp np cp,.slice qr nr cr,.int .i64 lo,.int .i64 stk,.slice qc nc cc] 60)
              generalize wr.alloc (.cells #[.int .u64 lv,.slice qp np cp,.slice qr nr cr,.int .i64 lo,.int .i64 stk,.slice qc nc cc] 60)=wv at *
              go_loopw [5,9] (fun b i wk=>∃ k:Nat,k≤nc∧i=.int .i64 k∧b=.bool (!(false && (f.code.take k).all inOkB))∧Hid (Below wv.heap.size wv wk)) (fun _ i _=>nc - (intOf i).toNat)
              case atStart=>exact ⟨0,Nat.zero_le _,rfl,by simp,Lib.hid (Below.refl _ _)⟩
              case round =>
                obtain ⟨k,hk,rfl,rfl,HK⟩:=hrel
                have hFK:=HFB.out.le HK.out
                have y5:=hFK.cell (j:=5) rfl
                clear hFK
                by_cases hltk:k<nc
                · have hk':k<f.code.length:=by rw [HNC.out];exact hltk
                  obtain ⟨gi,oi,rfl,i1,i2⟩:=HCD.out k hk'
                  have HTK:=Lib.hid (show (f.code.take (k+1)).all inOkB=((f.code.take k).all inOkB && inOkB f.code[k]) from by rw [List.take_succ_eq_append_getElem hk',List.all_append];simp)
                  have HBKK:=Lib.hid (bl_tr HBV.out HK.out)
                  have z1:=cell_b i1 HBKK.out
                  have z2:=cell_b i2 HBKK.out
                  generalize f.code[k]=ix at *
                  clear i1 i2
                  have hki:(k:Int)<(nc:Int):=by omega
                  have HMY:=Lib.hid (May_any ix.1 ix.2 wr)
                  generalize hrr:(false && (f.code.take k).all inOkB)=rr at *
                  cases rr
                  · go_wp2
                    refine ⟨⟨k+1,by omega,by go_num,?_,Lib.hid (HK.out)⟩,by simp [intOf];omega⟩
                    rw [HTK.out,← Bool.and_assoc,hrr];rfl
                  · go_wp2_with fail
                    refine HMY.out.mono ?_
                    rintro e w5 ⟨rfl,hb⟩
                    have HB5:=Lib.hid (bl_tr HK.out hb)
                    clear hb
                    go_wp2
                    refine ⟨⟨k+1,by omega,by go_num,?_,Lib.hid HB5.out⟩,by simp [intOf];omega⟩
                    rw [HTK.out,← Bool.and_assoc,hrr];simp
                · obtain rfl:k=nc:=by omega
                  have HBKK:=Lib.hid (bl_tr HBV.out HK.out)
                  go_wp2
                  refine ⟨⟨j+1,by omega,by go_num,?_,Lib.hid HBKK.out,Lib.hid (HIV.out.le HK.out)⟩,by simp [intOf];omega⟩
                  rw [HTJ.out,HFO.out,← Bool.and_assoc,HRJ.out,show f.code.take k=f.code from by rw [← HNC.out,List.take_length]]
                  rw [HDL.out];simp
            · have e1:decide (lo<0)=false:=decide_eq_false hl0
              have HDL:=Lib.hid (show decide (0≤lo)=true from decide_eq_true (by omega))
              by_cases hs0:stk<0
              · have e2:decide (stk<0)=true:=decide_eq_true hs0
                have HDS:=Lib.hid (show decide (0≤stk)=false from decide_eq_false (by omega))
                go_wp2_with fail
                have HBV:=Lib.hid (bl_al HBJ.out (.cells #[.int .u64 lv,.slice qp np cp,.slice qr nr cr,.int .i64 lo,.int .i64 stk,.slice qc nc cc] 60))
                have HIV:=Lib.hid (inb_al HIJ.out (.cells #[.int .u64 lv,.slice qp np cp,.slice qr nr cr,.int .i64 lo,.int .i64 stk,.slice qc nc cc] 60))
                have HFB:=Lib.hid (InB.new wr #[.int .u64 lv,.slice qp np cp,.slice qr nr cr,.int .i64 lo,.int .i64 stk,.slice qc nc cc] 60)
                generalize wr.alloc (.cells #[.int .u64 lv,.slice qp np cp,.slice qr nr cr,.int .i64 lo,.int .i64 stk,.slice qc nc cc] 60)=wv at *
                go_loopw [5,9] (fun b i wk=>∃ k:Nat,k≤nc∧i=.int .i64 k∧b=.bool (!(false && (f.code.take k).all inOkB))∧Hid (Below wv.heap.size wv wk)) (fun _ i _=>nc - (intOf i).toNat)
                case atStart=>exact ⟨0,Nat.zero_le _,rfl,by simp,Lib.hid (Below.refl _ _)⟩
                case round =>
                  obtain ⟨k,hk,rfl,rfl,HK⟩:=hrel
                  have hFK:=HFB.out.le HK.out
                  have y5:=hFK.cell (j:=5) rfl
                  clear hFK
                  by_cases hltk:k<nc
                  · have hk':k<f.code.length:=by rw [HNC.out];exact hltk
                    obtain ⟨gi,oi,rfl,i1,i2⟩:=HCD.out k hk'
                    have HTK:=Lib.hid (show (f.code.take (k+1)).all inOkB=((f.code.take k).all inOkB && inOkB f.code[k]) from by rw [List.take_succ_eq_append_getElem hk',List.all_append];simp)
                    have HBKK:=Lib.hid (bl_tr HBV.out HK.out)
                    have z1:=cell_b i1 HBKK.out
                    have z2:=cell_b i2 HBKK.out
                    generalize f.code[k]=ix at *
                    clear i1 i2
                    have hki:(k:Int)<(nc:Int):=by omega
                    have HMY:=Lib.hid (May_any ix.1 ix.2 wr)
                    generalize hrr:(false && (f.code.take k).all inOkB)=rr at *
                    cases rr
                    · go_wp2
                      refine ⟨⟨k+1,by omega,by go_num,?_,Lib.hid (HK.out)⟩,by simp [intOf];omega⟩
                      rw [HTK.out,← Bool.and_assoc,hrr];rfl
                    · go_wp2_with fail
                      refine HMY.out.mono ?_
                      rintro e w5 ⟨rfl,hb⟩
                      have HB5:=Lib.hid (bl_tr HK.out hb)
                      clear hb
                      go_wp2
                      refine ⟨⟨k+1,by omega,by go_num,?_,Lib.hid HB5.out⟩,by simp [intOf];omega⟩
                      rw [HTK.out,← Bool.and_assoc,hrr];simp
                  · obtain rfl:k=nc:=by omega
                    have HBKK:=Lib.hid (bl_tr HBV.out HK.out)
                    go_wp2
                    refine ⟨⟨j+1,by omega,by go_num,?_,Lib.hid HBKK.out,Lib.hid (HIV.out.le HK.out)⟩,by simp [intOf];omega⟩
                    rw [HTJ.out,HFO.out,← Bool.and_assoc,HRJ.out,show f.code.take k=f.code from by rw [← HNC.out,List.take_length]]
                    rw [HDS.out];simp
              · have e2:decide (stk<0)=false:=decide_eq_false hs0
                have HDS:=Lib.hid (show decide (0≤stk)=true from decide_eq_true (by omega))
                go_wp2_with fail
                have HBV:=Lib.hid (bl_al HBJ.out (.cells #[.int .u64 lv,.slice qp np cp,.slice qr nr cr,.int .i64 lo,.int .i64 stk,.slice qc nc cc] 60))
                have HIV:=Lib.hid (inb_al HIJ.out (.cells #[.int .u64 lv,.slice qp np cp,.slice qr nr cr,.int .i64 lo,.int .i64 stk,.slice qc nc cc] 60))
                have HFB:=Lib.hid (InB.new wr #[.int .u64 lv,.slice qp np cp,.slice qr nr cr,.int .i64 lo,.int .i64 stk,.slice qc nc cc] 60)
                generalize wr.alloc (.cells #[.int .u64 lv,.slice qp np cp,.slice qr nr cr,.int .i64 lo,.int .i64 stk,.slice qc nc cc] 60)=wv at *
                go_loopw [5,9] (fun b i wk=>∃ k:Nat,k≤nc∧i=.int .i64 k∧b=.bool (!(true && (f.code.take k).all inOkB))∧Hid (Below wv.heap.size wv wk)) (fun _ i _=>nc - (intOf i).toNat)
                case atStart=>exact ⟨0,Nat.zero_le _,rfl,by simp,Lib.hid (Below.refl _ _)⟩
                case round =>
                  obtain ⟨k,hk,rfl,rfl,HK⟩:=hrel
                  have hFK:=HFB.out.le HK.out
                  have y5:=hFK.cell (j:=5) rfl
                  clear hFK
                  by_cases hltk:k<nc
                  · have hk':k<f.code.length:=by rw [HNC.out];exact hltk
                    obtain ⟨gi,oi,rfl,i1,i2⟩:=HCD.out k hk'
                    have HTK:=Lib.hid (show (f.code.take (k+1)).all inOkB=((f.code.take k).all inOkB && inOkB f.code[k]) from by rw [List.take_succ_eq_append_getElem hk',List.all_append];simp)
                    have HBKK:=Lib.hid (bl_tr HBV.out HK.out)
                    have z1:=cell_b i1 HBKK.out
                    have z2:=cell_b i2 HBKK.out
                    generalize f.code[k]=ix at *
                    clear i1 i2
                    have hki:(k:Int)<(nc:Int):=by omega
                    have HMY:=Lib.hid (May_any ix.1 ix.2 wr)
                    generalize hrr:(true && (f.code.take k).all inOkB)=rr at *
                    cases rr
                    · go_wp2
                      refine ⟨⟨k+1,by omega,by go_num,?_,Lib.hid (HK.out)⟩,by simp [intOf];omega⟩
                      rw [HTK.out,← Bool.and_assoc,hrr];rfl
                    · go_wp2_with fail
                      refine HMY.out.mono ?_
                      rintro e w5 ⟨rfl,hb⟩
                      have HB5:=Lib.hid (bl_tr HK.out hb)
                      clear hb
                      go_wp2
                      refine ⟨⟨k+1,by omega,by go_num,?_,Lib.hid HB5.out⟩,by simp [intOf];omega⟩
                      rw [HTK.out,← Bool.and_assoc,hrr];simp
                  · obtain rfl:k=nc:=by omega
                    have HBKK:=Lib.hid (bl_tr HBV.out HK.out)
                    go_wp2
                    refine ⟨⟨j+1,by omega,by go_num,?_,Lib.hid HBKK.out,Lib.hid (HIV.out.le HK.out)⟩,by simp [intOf];omega⟩
                    rw [HTJ.out,HFO.out,← Bool.and_assoc,HRJ.out,show f.code.take k=f.code from by rw [← HNC.out,List.take_length]]
                    rw [HDL.out,HDS.out];simp
        · obtain rfl:n4=j:=by omega
          rw [show m.funcs.take n4=m.funcs from by rw [← HN4.out,List.take_length],← HMO.out]
          cases hok:moOk m
          · obtain ⟨hz,hk⟩:=HBAD.out hok
            subst hz hk
            have HBW:=Lib.hid HBJ.out
            go_wp2_with (go_at_call 16;refine (awake_any _).mono ?_;rintro e w7 ⟨rfl,hb⟩)
            all_goals
              have HB7:=Lib.hid (bl_tr HBW.out hb)
              go_ret
              exact ⟨rfl,HB7.out⟩
          · have HBW:=Lib.hid HBJ.out
            rcases HGOOD.out hok with ⟨hz,hk1,hk2⟩ | ⟨hz,hk⟩
            · subst hz
              have k1:(16:Int)≤(kb:Int):=by omega
              have k2:(kb:Int)≤262144:=by omega
              go_wp2_with (go_at_call 16;refine (awake_any _).mono ?_;rintro e w7 ⟨rfl,hb⟩)
              all_goals
                have HB7:=Lib.hid (bl_tr HBW.out hb)
                go_ret
                exact ⟨rfl,HB7.out⟩
            · subst hz hk
              go_wp2_with (go_at_call 16;refine (awake_any _).mono ?_;rintro e w7 ⟨rfl,hb⟩)
              all_goals
                have HB7:=Lib.hid (bl_tr HBW.out hb)
                go_ret
                exact ⟨rfl,HB7.out⟩
end
end Go.Proofs.Ytbfkgcapkffecaa
