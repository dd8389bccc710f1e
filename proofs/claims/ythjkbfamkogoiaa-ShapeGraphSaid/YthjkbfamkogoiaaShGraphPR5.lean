/- ShapeGraph: the law's walk. -/
import Derived.Test.YthjkbfamkogoiaaShGraphPR4
namespace Go.Proofs.Ythjkbfamkogoiaa
open Go Go.RowKit Go.Proofs.Mm Go.Sort
attribute [local go_sem] eqFlt' neFlt'
set_option maxRecDepth 100000 in
set_option maxHeartbeats 8000000 in
theorem graph_law {m:MoM} {v:Value} {w:World} (h:MoR false (wC w) v m) :
    Calls Try.prog 5 #[v] w fun e w'=>e=.returned (.bool true)∧Below w.heap.size w w':=by
  have HL:=Lib.hid (fun W (hb:Below w.heap.size w W)=>lentModule_any (h.le (below_cle hb)) (m:=fun _=>none) (show Has W (fun _=>none) from fun k o e=>by cases e))
  have HI:=Lib.hid (fun W (hb:Below w.heap.size w W)=>show MoR false (wC W) v m from h.le (below_cle hb))
  obtain ⟨q1,c1,q2,c2,q3,c3,q4,c4,rfl,-,-,-,hl2,-,hl4⟩:=mo_open h
  clear h
  obtain ⟨n1,hn1⟩:∃ n,m.globals.length=n:=⟨_,rfl⟩
  obtain ⟨n2,hn2⟩:∃ n,m.arrays.length=n:=⟨_,rfl⟩
  obtain ⟨n3,hn3⟩:∃ n,m.channels.length=n:=⟨_,rfl⟩
  obtain ⟨n4,hn4⟩:∃ n,m.funcs.length=n:=⟨_,rfl⟩
  rw [hn2] at hl2
  rw [hn4] at hl4
  have HL2:=Lib.hid hl2
  have HL4:=Lib.hid hl4
  have H1:=Lib.hid hn1
  have H2:=Lib.hid hn2
  have H3:=Lib.hid hn3
  have H4:=Lib.hid hn4
  rw [hn1,hn2,hn3,hn4] at HL HI ⊢
  clear hl2 hl4 hn1 hn2 hn3 hn4
  have HFN:=Lib.hid (fun W (hb:Below w.heap.size w W)=>(mo_parts (HI.out W hb)).2)
  obtain ⟨b,hb⟩:∃ b,w.heap.size=b:=⟨_,rfl⟩
  have HBB:=Lib.hid hb
  go_enter Try.func5,Try.ntmps5
  go_upto_region 1 with (fail)
  obtain ⟨W0,hW0⟩:∃ W0,w.alloc (.cells #[.slice q1 n1 c1,.slice q2 n2 c2,.slice q3 n3 c3,.slice q4 n4 c4] 26)=W0:=⟨_,rfl⟩
  have HX0:=Lib.hid (show InB W0 b #[.slice q1 n1 c1,.slice q2 n2 c2,.slice q3 n3 c3,.slice q4 n4 c4] 26 by rw [← hW0];exact InB.new' _ _ hb)
  have HB0:=Lib.hid (show Below w.heap.size w W0 by rw [← hW0];exact bl_al (Below.refl _ w) _)
  rw [hW0]
  try rw [hb]
  clear hW0 hb
  go_wp2_with fail
  refine (known_any W0).mono ?_
  rintro e w1 ⟨rfl,hb⟩
  have HX1:=Lib.hid (HX0.out.le hb)
  have HB1:=Lib.hid (bl_tr HB0.out hb)
  clear hb HX0 HB0
  have k0:w1.cell? ⟨b,0,none⟩=some (.slice q1 n1 c1):=HX1.out.cell rfl
  have k1:w1.cell? ⟨b,1,none⟩=some (.slice q2 n2 c2):=HX1.out.cell rfl
  have k2:w1.cell? ⟨b,2,none⟩=some (.slice q3 n3 c3):=HX1.out.cell rfl
  have k3:w1.cell? ⟨b,3,none⟩=some (.slice q4 n4 c4):=HX1.out.cell rfl
  go_wp2_with fail
  refine (HL.out w1 HB1.out).mono ?_
  rintro e w2 ⟨v',m',rfl,hb1,hmo,hH,hM⟩
  have hM1:MoR true (wC w2) v' m:=hM.le (has_cle hH)
  have HX2:=Lib.hid (HX1.out.le hb1)
  have HB2:=Lib.hid (bl_tr HB1.out hb1)
  obtain ⟨p1,d1,p2,d2,p3,d3,p4,d4,rfl,-⟩:=mo_open hM1
  rw [H1.out,H2.out,H3.out,H4.out] at hM1 ⊢
  obtain ⟨x,y,z,hx⟩:∃ x y z,chkE n1 n2 n3 m.arrays m.funcs=(x,y,z):=⟨_,_,_,rfl⟩
  have HC:=Lib.hid (show Calls Try.prog 8 #[moV p1 n1 d1 p2 n2 d2 p3 n3 d3 p4 n4 d4] w2 fun e w'=>e=.returned (.agg #[.int .i64 x,.int .i64 y,.int .i64 z])∧Below w2.heap.size w2 w' from by
    have h:=Check_any p1 n1 d1 p2 n2 d2 p3 n3 d3 p4 n4 d4 H4.out H2.out HL2.out HL4.out (mo_parts hM1).2 (mo_parts hM1).1
    rw [hx] at h
    exact h)
  have HX:=Lib.hid hx
  clear hM hM1 hH hmo hb1 HX1 HB1 HL k0 k1 k2 k3 hx
  by_cases hz:x=0∧y=0∧z=0
  · obtain ⟨rfl,rfl,rfl⟩:=hz
    have HZ:=Lib.hid (chk_zero HX.out)
    go_wp2_with fail
    refine HC.out.mono ?_
    rintro e w3 ⟨rfl,hb⟩
    have HX3:=Lib.hid (HX2.out.le hb)
    have HB3:=Lib.hid (bl_tr HB2.out hb)
    clear hb HX2 HB2 HC
    go_wp2_with fail
    go_loopw [3] (fun i wr=>∃ k:Nat,k≤n4∧i=.int .i64 k∧Hid (Below w3.heap.size w3 wr)) (fun i _=>n4 - (intOf i).toNat)
    case atStart=>exact ⟨0,Nat.zero_le _,rfl,Lib.hid (Below.refl _ _)⟩
    case round =>
      obtain ⟨k,hk,rfl,HB⟩:=hrel
      generalize wr=Wo at *
      have k3:Wo.cell? ⟨b,3,none⟩=some (.slice q4 n4 c4):=(HX3.out.le HB.out).cell rfl
      by_cases hlt:k<n4
      · have hk1:k<m.funcs.length:=by rw [H4.out];exact hlt
        have HBo:=Lib.hid (bl_tr HB3.out HB.out)
        obtain ⟨g,o,qp,cp,qr,cr,qc,cc,rfl,hK,hcd,-,-,hmc⟩:=fn_at (HFN.out _ HBo.out) hk1
        obtain ⟨code,hcode,hCD,hOK,hIZ⟩:∃ code,m.funcs[k].code=code∧(∀ W,Below Wo.heap.size Wo W→InAt (wC W) qc code) ∧
            (∀ nc,code.length=nc→∀ a (ha:a<code.length),∀ z ∈ nxI nc a code[a].1 code[a].2,0≤z∧z≤nc∧(z=nc ↔ code[a].1=46))∧(∀ a (ha:a<code.length),insI n1 n2 n3 m.funcs k code[a].1 code[a].2=0) :=
          ⟨_,rfl,fun W hb=>(hcd.le (below_cle hb)).cells,fun nc e a ha=>e ▸ nx_ok hk1 ha ((fn_zero hk1 (HZ.out.2 k hk1)).2 a ha),fun a ha=>(ins_zero ha ((fn_zero hk1 (HZ.out.2 k hk1)).2 a ha)).1⟩
        rw [hcode] at hK hmc
        clear hcode hcd
        obtain ⟨nc,hnc⟩:∃ nc,code.length=nc:=⟨_,rfl⟩
        have HCD:=Lib.hid hCD
        have HOK:=Lib.hid (hOK nc hnc)
        have HIZ:=Lib.hid hIZ
        have HNC:=Lib.hid hnc
        rw [hnc] at hK hmc
        clear hCD hOK hIZ
        clear hnc
        have HMC:=Lib.hid hmc
        clear hmc
        have HK5:=Lib.hid hK.a5
        clear hK hk1
        have a5:Wo.cell? ⟨g,o+k * 6+5,none⟩=some (.slice qc nc cc):=HK5.out
        have hki:(k:Int)<(n4:Int):=by omega
        go_wp2_with fail
        clear a5 k3
        go_loopw [5] (fun i wr=>∃ a:Nat,a≤nc∧i=.int .i64 a∧Hid (Below Wo.heap.size Wo wr)) (fun i _=>nc - (intOf i).toNat)
        case atStart=>exact ⟨0,Nat.zero_le _,rfl,Lib.hid (Below.refl _ _)⟩
        case round =>
          obtain ⟨a,ha,rfl,HBm⟩:=hrel
          generalize wr=Wm at *
          by_cases halt:a<nc
          · have hk1:a<code.length:=by rw [HNC.out];exact halt
            have hOK:=HOK.out a hk1
            have HIC:=Lib.hid (fun W (hb:Below w.heap.size w W)=>Instr_any q1 n1 c1 q2 n2 c2 q3 n3 c3 (some ⟨g,o,none⟩) n4 c4 H4.out (HFN.out W hb) (k:Int) code[a].1 code[a].2)
            rw [HIZ.out a hk1] at HIC
            have HNX:=Lib.hid (next_any (c:=cc) HNC.out HMC.out (HCD.out _ HBm.out) a hk1)
            have HC0:=Lib.hid (fun W (hb:Below Wo.heap.size Wo W)=>HCD.out W hb a hk1)
            have k3:Wm.cell? ⟨b,3,none⟩=some (.slice (some ⟨g,o,none⟩) n4 c4):=((HX3.out.le HB.out).le HBm.out).cell rfl
            have a5:Wm.cell? ⟨g,o+k * 6+5,none⟩=some (.slice qc nc cc):=cell_b HK5.out HBm.out
            generalize code[a].1=op at *
            generalize code[a].2=av at *
            obtain ⟨l,hll⟩:∃ l,nxI nc a op av=l:=⟨_,rfl⟩
            rw [hll] at HNX hOK
            have HOK2:=Lib.hid hOK
            have HLT:=Lib.hid (show l.length≤2 from by rw [← hll];unfold nxI;split;simp;split;simp;split <;> simp)
            clear hll hk1 hOK
            have hai:(a:Int)<(nc:Int):=by omega
            go_wp2_with fail
            refine HNX.out.mono ?_
            rintro e wn ⟨gl,rfl,hgl,hb⟩
            have HGL:=Lib.hid hgl
            obtain ⟨ln,hln⟩:∃ ln,l.length=ln:=⟨_,rfl⟩
            have HLN:=Lib.hid hln
            rw [hln] at HLT ⊢
            have HBn:=Lib.hid (bl_tr HBm.out hb)
            clear hb hgl hln k3 a5 HNX
            go_wp2_with fail
            go_loopw [7] (fun i wr=>∃ c:Nat,c≤ln∧i=.int .i64 c∧Hid (Below wn.heap.size wn wr)) (fun i _=>ln - (intOf i).toNat)
            case atStart=>exact ⟨0,Nat.zero_le _,rfl,Lib.hid (Below.refl _ _)⟩
            case round =>
              obtain ⟨c,hc,rfl,HBi⟩:=hrel
              have HBW:=Lib.hid (bl_tr HBn.out HBi.out)
              obtain ⟨g2,o2,rfl,x0,x1⟩:=HC0.out wr HBW.out
              unfold wC at x0 x1
              have k3:∀ d os,(grow (redrawn wr d) os).cell? ⟨b,3,none⟩=some (.slice (some ⟨g,o,none⟩) n4 c4):=cell_regrown (((HX3.out.le HB.out).le HBW.out).cell rfl)
              have a5:∀ d os,(grow (redrawn wr d) os).cell? ⟨g,o+k * 6+5,none⟩=some (.slice (some ⟨g2,o2,none⟩) nc cc):=cell_regrown (cell_b HK5.out HBW.out)
              have cop:=cell_regrown x0
              have cav:=cell_regrown x1
              clear x0 x1
              by_cases hclt:c<ln
              · have hcl:c<l.length:=by rw [HLN.out];exact hclt
                have lz:=cell_regrown (cell_b (HGL.out c hcl) HBi.out)
                have hO:=HOK2.out l[c] (List.getElem_mem _)
                generalize l[c]=z at *
                have hci:(c:Int)<(ln:Int):=by omega
                have hl2:ln≤2:=HLT.out
                clear hcl
                have d1:decide (z<0)=false:=decide_eq_false (by omega)
                have d2:decide (z > (nc:Int))=false:=decide_eq_false (by omega)
                have d3:decide ((nc:Int)<z)=false:=decide_eq_false (by omega)
                clear cav
                by_cases hop:op=46
                · have b1:(z == (nc:Int))=true:=by have:=hO.2.2.2 hop;simp [this]
                  have b2:(op == 46)=true:=by simp [hop]
                  clear hO hop
                  go_wp2_with fail
                  refine wp_region_quiet_below (by kernel_rfl) (by kernel_rfl) ?_
                  iterate 33 (go_big_quiet_step (fail))
                  refine wpQuiet_nil ?_
                  intro _ hw'
                  obtain ⟨⟨dq,osq⟩,hw''⟩:=hw'
                  subst hw''
                  have HBV:=Lib.hid (bl_tr HBi.out (below_regrown wr dq osq))
                  clear k3 a5 lz cop
                  generalize grow (redrawn wr dq) osq=V at HBV ⊢
                  go_wp2_with fail
                  exact ⟨⟨c+1,by omega,by go_num,HBV⟩,by simp [intOf];omega⟩
                · have b1:(z == (nc:Int))=false:=eqb (fun e=>hop (hO.2.2.1 e))
                  have b2:(op == 46)=false:=eqb hop
                  clear hO hop
                  go_wp2_with fail
                  refine wp_region_quiet_below (by kernel_rfl) (by kernel_rfl) ?_
                  iterate 33 (go_big_quiet_step (fail))
                  refine wpQuiet_nil ?_
                  intro _ hw'
                  obtain ⟨⟨dq,osq⟩,hw''⟩:=hw'
                  subst hw''
                  have HBV:=Lib.hid (bl_tr HBi.out (below_regrown wr dq osq))
                  clear k3 a5 lz cop
                  generalize grow (redrawn wr dq) osq=V at HBV ⊢
                  go_wp2_with fail
                  exact ⟨⟨c+1,by omega,by go_num,HBV⟩,by simp [intOf];omega⟩
              · have m0:∀ d os,(grow (redrawn wr d) os).cell? ⟨b,0,none⟩=some (.slice q1 n1 c1):=cell_regrown (((HX3.out.le HB.out).le HBW.out).cell rfl)
                have m1:∀ d os,(grow (redrawn wr d) os).cell? ⟨b,1,none⟩=some (.slice q2 n2 c2):=cell_regrown (((HX3.out.le HB.out).le HBW.out).cell rfl)
                have m2:∀ d os,(grow (redrawn wr d) os).cell? ⟨b,2,none⟩=some (.slice q3 n3 c3):=cell_regrown (((HX3.out.le HB.out).le HBW.out).cell rfl)
                have HCC:=Lib.hid (fun d os=>show Calls Try.prog 11 #[moV q1 n1 c1 q2 n2 c2 q3 n3 c3 (some ⟨g,o,none⟩) n4 c4,.int .i64 k,inV op av] (grow (redrawn wr d) os) (fun e w''=>e=.returned (.int .i64 0)∧∃ p:Regrown,w''=grow (redrawn wr p.d) p.os) from Calls.regrown_of (HIC.out _ (bl_tr (bl_tr HBo.out HBW.out) (below_regrown wr d os))))
                have hne:((0:Int) != 0)=false:=by decide
                go_wp2_with fail
                refine wp_region_quiet_below (by kernel_rfl) (by kernel_rfl) ?_
                iterate 11 (go_big_quiet_step (fail))
                go_big_quiet_step (exact HCC.out _ _)
                go_big_quiet_step (fail)
                refine wpQuiet_nil ?_
                intro _ hw'
                obtain ⟨⟨dq,osq⟩,hw''⟩:=hw'
                subst hw''
                have HBV:=Lib.hid (bl_tr HBW.out (below_regrown wr dq osq))
                clear k3 a5 cop cav m0 m1 m2 HCC
                generalize grow (redrawn wr dq) osq=V at HBV ⊢
                have hmm:=HMC.out
                go_wp2_with fail
                exact ⟨⟨a+1,by omega,by go_num,HBV⟩,by simp [intOf];omega⟩
          · have hmm:=HL4.out
            have HBV:=Lib.hid (bl_tr HB.out HBm.out)
            go_wp2_with fail
            exact ⟨⟨k+1,by omega,by go_num,HBV⟩,by simp [intOf];omega⟩
      · go_wp2_with fail
        go_ret
        exact ⟨rfl,by first | exact bl_tr HB3.out HB.out | (rw [← HBB.out];exact bl_tr HB3.out HB.out)⟩
  by_cases hx:x=0
  · by_cases hy:y=0
    · have e1:(z == 0)=false:=eqb (fun e=>hz ⟨hx,hy,e⟩)
      subst hx hy
      clear hz
      go_wp2_with fail
      refine HC.out.mono ?_
      rintro e w3 ⟨rfl,hb⟩
      have HB3:=Lib.hid (bl_tr HB2.out hb)
      clear hb
      go_wp2_with fail
      go_ret
      exact ⟨rfl,by first | exact HB3.out | (rw [← HBB.out];exact HB3.out)⟩
    · have e1:(y == 0)=false:=eqb hy
      subst hx
      clear hz hy
      go_wp2_with fail
      refine HC.out.mono ?_
      rintro e w3 ⟨rfl,hb⟩
      have HB3:=Lib.hid (bl_tr HB2.out hb)
      clear hb
      go_wp2_with fail
      go_ret
      exact ⟨rfl,by first | exact HB3.out | (rw [← HBB.out];exact HB3.out)⟩
  · have e1:(x == 0)=false:=eqb hx
    clear hz hx
    go_wp2_with fail
    refine HC.out.mono ?_
    rintro e w3 ⟨rfl,hb⟩
    have HB3:=Lib.hid (bl_tr HB2.out hb)
    clear hb
    go_wp2_with fail
    go_ret
    exact ⟨rfl,by first | exact HB3.out | (rw [← HBB.out];exact HB3.out)⟩
end Go.Proofs.Ythjkbfamkogoiaa
