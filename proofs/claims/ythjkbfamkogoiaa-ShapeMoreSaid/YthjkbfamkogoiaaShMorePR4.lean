/- One function: what package shape finds. Check: package shape's. Check: the document's. ShapeChecks: the law's walk. What the laws know: the fault of a module of one function. What the laws know, told. ShapeGraph: what Check's answer says of each address; the nodes that an address leads to. -/
import Derived.Test.YthjkbfamkogoiaaShMorePR3
import Derived.WalkMore
import Derived.BigQuiet
import Derived.Laws.StructEq
namespace Go.Proofs.Ythjkbfamkogoiaa
open Go Go.RowKit Go.Proofs.Mm Go.Sort
theorem codE_hit {ng na nh:Nat} {fs:List FnM} {j nc k:Nat} {code:List (Int × Int)} {ev:Int} (ht:∀ a,a<k→decide (insE ng na nh fs j nc code a ≠ 0)=false) (hk:k<nc) (he:insE ng na nh fs j nc code k=ev) (hz:ev ≠ 0):codE ng na nh fs j nc code=((k:Int),ev):=by
  rw [codE,fst_some (k:=k) ht hk (by rw [he];exact decide_eq_true hz),← he]
theorem codE_no {ng na nh:Nat} {fs:List FnM} {j nc:Nat} {code:List (Int × Int)} (ht:∀ a,a<nc→decide (insE ng na nh fs j nc code a ≠ 0)=false):codE ng na nh fs j nc code=((nc:Int) - 1,0):=by
  rw [codE,fst_none ht]
section
variable (qg:Option Addr) (ng cg:Nat) (qa:Option Addr) (na ca:Nat) (qh:Option Addr) (nh ch:Nat) (qf:Option Addr) (nf cf:Nat)
structure BxF (w:World) (b:Nat) (m0 m1 m2 m3:Value) (lv:Int) (qp:Option Addr) (np cp:Nat) (qr:Option Addr) (nr cr:Nat) (lo st:Int) (qc:Option Addr) (nc cc:Nat) (W:World):Prop where
  bl:Below w.heap.size w W
  m:InB W w.heap.size #[m0,m1,m2,m3] 26
  f:InB W b #[.int .u64 lv,.slice qp np cp,.slice qr nr cr,.int .i64 lo,.int .i64 st,.slice qc nc cc] 45
theorem BxF.le {w:World} {b:Nat} {m0 m1 m2 m3:Value} {lv:Int} {qp:Option Addr} {np cp:Nat} {qr:Option Addr} {nr cr:Nat} {lo st:Int} {qc:Option Addr} {nc cc:Nat} {W V:World} (h:BxF w b m0 m1 m2 m3 lv qp np cp qr nr cr lo st qc nc cc W) (hb:Below W.heap.size W V):BxF w b m0 m1 m2 m3 lv qp np cp qr nr cr lo st qc nc cc V :=
  ⟨bl_tr h.bl hb,h.m.le hb,h.f.le hb⟩
theorem BxF.new' {w W0:World} {m0 m1 m2 m3:Value} (hb:Below w.heap.size w W0) (hm:InB W0 w.heap.size #[m0,m1,m2,m3] 26) (lv:Int) (qp:Option Addr) (np cp:Nat) (qr:Option Addr) (nr cr:Nat) (lo st:Int) (qc:Option Addr) (nc cc:Nat):BxF w W0.heap.size m0 m1 m2 m3 lv qp np cp qr nr cr lo st qc nc cc (W0.alloc (.cells #[.int .u64 lv,.slice qp np cp,.slice qr nr cr,.int .i64 lo,.int .i64 st,.slice qc nc cc] 45)) :=
  ⟨bl_al hb _,hm.le (bl_al (Below.refl _ _) _),InB.new _ _ _⟩
set_option maxRecDepth 100000 in
set_option maxHeartbeats 4000000 in
theorem function_any {lt:Bool} {fs:List FnM} (hn:fs.length=nf) {w:World} (hF:FnAt lt (wC w) qf fs) (j:Nat) (hj:j<nf) :
    Calls Try.prog 20 #[moV qg ng cg qa na ca qh nh ch qf nf cf,.int .i64 j] w fun e w'=>e=.returned (.tuple #[.int .i64 (fnE ng na nh fs j).1,.int .i64 (fnE ng na nh fs j).2])∧Below w.heap.size w w':=by
  have HI:=Lib.hid (fun W (hb:Below w.heap.size w W) op a=>Instr_any qg ng cg qa na ca qh nh ch qf nf cf hn (w:=W) (hF.le (below_cle hb)) j op a)
  have hj':j<fs.length:=by omega
  have hjn:(j:Int)<(nf:Int):=by omega
  obtain ⟨g,o,qp,cp,qr,cr,qc,cc,rfl,hK,hcd,_,_,hm⟩:=fn_at hF hj'
  have HCD:=Lib.hid hcd.cells
  clear hcd
  unfold fnE
  rw [getA_at hj']
  obtain ⟨s,hs⟩:∃ s,sizI fs[j].params.length fs[j].results.length fs[j].locals fs[j].stack fs[j].code.length=s:=⟨_,rfl⟩
  rw [hs]
  have h0:s=0→0<fs[j].code.length:=fun e=>by
    rw [e] at hs
    unfold sizI at hs
    split at hs
    · omega
    · split at hs
      · omega
      · split at hs <;> omega
  obtain ⟨code,hcode⟩:∃ code,fs[j].code=code:=⟨_,rfl⟩
  rw [hcode] at hK HCD hs hm h0 ⊢
  clear hcode
  generalize fs[j].params.length=np at *
  generalize fs[j].results.length=nr at *
  obtain ⟨nc,hnc⟩:∃ nc,code.length=nc:=⟨_,rfl⟩
  have HNC:=Lib.hid hnc
  rw [hnc] at hK hs h0 hm ⊢
  clear hnc
  generalize fs[j].locals=lo at *
  generalize fs[j].level=lv at *
  generalize fs[j].stack=st at *
  obtain ⟨a0,a1,a2,a3,a4,a5⟩:=hK.le (bl_al (Below.refl _ w) (.cells #[.slice qg ng cg,.slice qa na ca,.slice qh nh ch,.slice (some ⟨g,o,none⟩) nf cf] 26))
  have HS:=Lib.hid hs
  have HZ:=Lib.hid h0
  have HM:=Lib.hid hm
  clear hF hn hj hj' hK hs h0 hm
  by_cases hz:s=0
  · subst hz
    rw [if_neg (by simp)]
    obtain ⟨r1,hr1⟩:∃ r,(codE ng na nh fs j nc code).1=r:=⟨_,rfl⟩
    obtain ⟨r2,hr2⟩:∃ r,(codE ng na nh fs j nc code).2=r:=⟨_,rfl⟩
    rw [hr1,hr2]
    have HR:=Lib.hid (And.intro hr1 hr2)
    clear hr1 hr2
    go_enter Try.func20,Try.ntmps20
    go_wp2_with fail
    go_step3
    go_upto_region 1 with (fail)
    have HX0:=Lib.hid (InB.new w #[.slice qg ng cg,.slice qa na ca,.slice qh nh ch,.slice (some ⟨g,o,none⟩) nf cf] 26)
    have HB0:=Lib.hid (bl_al (Below.refl _ w) (.cells #[.slice qg ng cg,.slice qa na ca,.slice qh nh ch,.slice (some ⟨g,o,none⟩) nf cf] 26))
    generalize w.alloc (.cells #[.slice qg ng cg,.slice qa na ca,.slice qh nh ch,.slice (some ⟨g,o,none⟩) nf cf] 26)=W0 at *
    have m3:W0.cell? ⟨w.heap.size,3,none⟩=some (.slice (some ⟨g,o,none⟩) nf cf):=HX0.out.cell rfl
    go_wp2_with fail
    have HX:=Lib.hid (BxF.new' HB0.out HX0.out lv qp np cp qr nr cr lo st qc nc cc)
    generalize W0.alloc (.cells #[.int .u64 lv,.slice qp np cp,.slice qr nr cr,.int .i64 lo,.int .i64 st,.slice qc nc cc] 45)=W1 at *
    clear m3 HX0 HB0
    clear a0 a1 a2 a3 a4 a5
    refine (sizes_any _ _ _ _ _ _ _ _ _ _ _ _ _).mono ?_
    rintro e w1 ⟨rfl,hb⟩
    rw [HS.out]
    have HX1:=Lib.hid (HX.out.le hb)
    clear hb HX
    have f5:w1.cell? ⟨W0.heap.size,5,none⟩=some (.slice qc nc cc):=HX1.out.f.cell rfl
    go_wp2_with fail
    go_step3
    go_wp2_with fail
    go_loopw [8,9,24] (fun at9 er i wr=>∃ (k:Nat) (z:Int),k≤nc∧i=.int .i64 k∧er=.int .i64 0∧at9=.int .i64 z∧Hid ((k=0∧z=0) ∨ z+1=k)∧Hid (Below w1.heap.size w1 wr)∧Hid (∀ a,a<k→decide (insE ng na nh fs j nc code a ≠ 0)=false)) (fun _ _ i _=>nc - (intOf i).toNat)
    case atStart=>exact ⟨0,0,Nat.zero_le _,rfl,rfl,rfl,Lib.hid (.inl ⟨rfl,rfl⟩),Lib.hid (Below.refl _ _),Lib.hid (fun a h=>absurd h (by omega))⟩
    case round =>
      obtain ⟨k,z,hk,rfl,rfl,rfl,HZZ,HB,HT⟩:=hrel
      by_cases hlt:k<nc
      · have hk1:k<code.length:=by rw [HNC.out];exact hlt
        have HX2:=Lib.hid (HX1.out.le HB.out)
        obtain ⟨g2,o2,rfl,a0,a1⟩:=HCD.out k hk1
        have c0:=below_cle HX2.out.bl _ _ a0
        have c1:=below_cle HX2.out.bl _ _ a1
        unfold wC at c0 c1
        have HE:=Lib.hid (show insE ng na nh fs j nc code k=if insI ng na nh fs j code[k].1 code[k].2 ≠ 0 then insI ng na nh fs j code[k].1 code[k].2 else if k+1=nc∧code[k].1 ≠ 43∧code[k].1 ≠ 46 then 131 else 0 from by unfold insE;rw [getA_at hk1])
        clear a0 a1 f5
        generalize code[k].1=op at *
        generalize code[k].2=av at *
        clear hk1
        have hki:(k:Int)<(nc:Int):=by omega
        have f5:wr.cell? ⟨W0.heap.size,5,none⟩=some (.slice (some ⟨g2,o2,none⟩) nc cc):=HX2.out.f.cell rfl
        go_upto_region 10 with (fail)
        have HX3:=Lib.hid (HX2.out.le (bl_al (Below.refl _ wr) (.cells #[.int .i64 op,.int .i64 av] 35)))
        have HI3:=Lib.hid (InB.new wr #[.int .i64 op,.int .i64 av] 35)
        have HB3:=Lib.hid (bl_tr HB.out (bl_al (Below.refl _ wr) (.cells #[.int .i64 op,.int .i64 av] 35)))
        generalize wr.alloc (.cells #[.int .i64 op,.int .i64 av] 35)=W3 at *
        obtain ⟨bi,hbi⟩:∃ bi,wr.heap.size=bi:=⟨_,rfl⟩
        rw [hbi] at HI3 ⊢
        clear hbi c0 c1 f5
        have m0:W3.cell? ⟨w.heap.size,0,none⟩=some (.slice qg ng cg):=HX3.out.m.cell rfl
        have m1:W3.cell? ⟨w.heap.size,1,none⟩=some (.slice qa na ca):=HX3.out.m.cell rfl
        have m2:W3.cell? ⟨w.heap.size,2,none⟩=some (.slice qh nh ch):=HX3.out.m.cell rfl
        have m3:W3.cell? ⟨w.heap.size,3,none⟩=some (.slice (some ⟨g,o,none⟩) nf cf):=HX3.out.m.cell rfl
        have i0:W3.cell? ⟨bi,0,none⟩=some (.int .i64 op):=HI3.out.cell rfl
        have i1:W3.cell? ⟨bi,1,none⟩=some (.int .i64 av):=HI3.out.cell rfl
        obtain ⟨ev,hev⟩:∃ ev,insI ng na nh fs j op av=ev:=⟨_,rfl⟩
        have HC:=Lib.hid (HI.out _ HX3.out.bl op av)
        rw [hev] at HC HE
        clear hev
        by_cases hz:ev=0
        · subst hz
          rw [if_neg (by simp)] at HE
          have hne:((0:Int) != 0)=false:=by decide
          by_cases hL:k+1=nc
          · have hl:((k:Int) == (nc:Int) - 1)=true:=by simp;omega
            have hw:wrap64 ((nc:Int) - 1)=(nc:Int) - 1:=by have:=HM.out;unfold wrap64;omega
            by_cases hG:op ≠ 43∧op ≠ 46
            · have hg:=decide_eq_true hG
              have HD:=Lib.hid (codE_hit HT.out hlt (ev:=131) (by rw [HE.out,if_pos ⟨hL,hG⟩]) (by decide))
              clear hG hL hlt hki
              go_wp2_with fail
              refine HC.out.mono ?_
              rintro e w4 ⟨rfl,hb⟩
              have HX4:=Lib.hid (HX3.out.le hb)
              have i0:w4.cell? ⟨bi,0,none⟩=some (.int .i64 op):=(HI3.out.le hb).cell rfl
              have i1:w4.cell? ⟨bi,1,none⟩=some (.int .i64 av):=(HI3.out.le hb).cell rfl
              have f5:w4.cell? ⟨W0.heap.size,5,none⟩=some (.slice (some ⟨g2,o2,none⟩) nc cc):=HX4.out.f.cell rfl
              have HB4:=Lib.hid (bl_tr HB3.out hb)
              clear hb m0 m1 m2 m3
              go_wp2_with fail
              refine (goesOn_any op av w4).mono ?_
              rintro e w5 ⟨rfl,hb⟩
              rw [hg]
              have HX5:=Lib.hid (HX4.out.le hb)
              have HB5:=Lib.hid (bl_tr HB4.out hb)
              clear hb i0 i1 f5
              go_wp2_with fail
              rw [Exit.noGoto_ret]
              go_ret2
              obtain ⟨u1,u2⟩:=HR.out
              rw [HD.out] at u1 u2
              subst u1 u2
              exact ⟨rfl,HX5.out.bl⟩
            · have hg:=decide_eq_false hG
              have HN:=Lib.hid (step_no HT.out (show decide (insE ng na nh fs j nc code k ≠ 0)=false from by rw [HE.out,if_neg (fun h=>hG h.2)];rfl))
              clear hG hL
              go_wp2_with fail
              refine HC.out.mono ?_
              rintro e w4 ⟨rfl,hb⟩
              have HX4:=Lib.hid (HX3.out.le hb)
              have i0:w4.cell? ⟨bi,0,none⟩=some (.int .i64 op):=(HI3.out.le hb).cell rfl
              have i1:w4.cell? ⟨bi,1,none⟩=some (.int .i64 av):=(HI3.out.le hb).cell rfl
              have f5:w4.cell? ⟨W0.heap.size,5,none⟩=some (.slice (some ⟨g2,o2,none⟩) nc cc):=HX4.out.f.cell rfl
              have HB4:=Lib.hid (bl_tr HB3.out hb)
              clear hb m0 m1 m2 m3
              have hmm:=HM.out
              go_wp2_with fail
              refine (goesOn_any op av w4).mono ?_
              rintro e w5 ⟨rfl,hb⟩
              rw [hg]
              have HX5:=Lib.hid (HX4.out.le hb)
              have HB5:=Lib.hid (bl_tr HB4.out hb)
              clear hb i0 i1 f5
              go_wp2_with fail
              clear hw hl
              exact ⟨⟨k+1,k,by omega,by go_num,rfl,rfl,Lib.hid (.inr (by omega)),HB5,HN⟩,by simp [intOf];omega⟩
          · have hl:((k:Int) == (nc:Int) - 1)=false:=eqb (by omega)
            have hw:wrap64 ((nc:Int) - 1)=(nc:Int) - 1:=by have:=HM.out;unfold wrap64;omega
            have HN:=Lib.hid (step_no HT.out (show decide (insE ng na nh fs j nc code k ≠ 0)=false from by rw [HE.out,if_neg (fun h=>hL h.1)];rfl))
            clear hL
            go_wp2_with fail
            refine HC.out.mono ?_
            rintro e w4 ⟨rfl,hb⟩
            have HX4:=Lib.hid (HX3.out.le hb)
            have i0:w4.cell? ⟨bi,0,none⟩=some (.int .i64 op):=(HI3.out.le hb).cell rfl
            have i1:w4.cell? ⟨bi,1,none⟩=some (.int .i64 av):=(HI3.out.le hb).cell rfl
            have f5:w4.cell? ⟨W0.heap.size,5,none⟩=some (.slice (some ⟨g2,o2,none⟩) nc cc):=HX4.out.f.cell rfl
            have HB4:=Lib.hid (bl_tr HB3.out hb)
            clear hb m0 m1 m2 m3
            have hmm:=HM.out
            go_wp2_with fail
            clear hw hl
            exact ⟨⟨k+1,k,by omega,by go_num,rfl,rfl,Lib.hid (.inr (by omega)),HB4,HN⟩,by simp [intOf];omega⟩
        · have hne:(ev != 0)=true:=by simpa using hz
          have HD:=Lib.hid (codE_hit HT.out hlt (by rw [HE.out,if_pos hz]) hz)
          clear hz
          go_wp2_with fail
          refine HC.out.mono ?_
          rintro e w4 ⟨rfl,hb⟩
          have HX4:=Lib.hid (HX3.out.le hb)
          clear hb m0 m1 m2 m3 i0 i1
          go_wp2_with fail
          rw [Exit.noGoto_ret]
          go_ret2
          obtain ⟨u1,u2⟩:=HR.out
          rw [HD.out] at u1 u2
          subst u1 u2
          exact ⟨rfl,HX4.out.bl⟩
      · obtain rfl:k=nc:=by omega
        have HD:=Lib.hid (codE_no HT.out)
        have HX4:=Lib.hid (HX1.out.le HB.out)
        have HZ2:=Lib.hid (show z=(k:Int) - 1 from by have:=HZ.out trivial;rcases HZZ.out with ⟨h,_⟩ | h <;> omega)
        clear hlt hk
        go_wp2_with fail
        rw [Exit.noGoto_ret]
        go_ret2
        obtain ⟨u1,u2⟩:=HR.out
        rw [HD.out] at u1 u2
        subst u1 u2
        exact ⟨by rw [HZ2.out];rfl,HX4.out.bl⟩
  · have hne:(s != 0)=true:=by simpa using hz
    rw [if_pos hz]
    clear hz HZ
    go_enter Try.func20,Try.ntmps20
    go_wp2_with fail
    go_step3
    go_upto_region 1 with (fail)
    have HX0:=Lib.hid (InB.new w #[.slice qg ng cg,.slice qa na ca,.slice qh nh ch,.slice (some ⟨g,o,none⟩) nf cf] 26)
    have HB0:=Lib.hid (bl_al (Below.refl _ w) (.cells #[.slice qg ng cg,.slice qa na ca,.slice qh nh ch,.slice (some ⟨g,o,none⟩) nf cf] 26))
    generalize w.alloc (.cells #[.slice qg ng cg,.slice qa na ca,.slice qh nh ch,.slice (some ⟨g,o,none⟩) nf cf] 26)=W0 at *
    have m3:W0.cell? ⟨w.heap.size,3,none⟩=some (.slice (some ⟨g,o,none⟩) nf cf):=HX0.out.cell rfl
    go_wp2_with fail
    have HX:=Lib.hid (BxF.new' HB0.out HX0.out lv qp np cp qr nr cr lo st qc nc cc)
    generalize W0.alloc (.cells #[.int .u64 lv,.slice qp np cp,.slice qr nr cr,.int .i64 lo,.int .i64 st,.slice qc nc cc] 45)=W1 at *
    clear m3 HX0 HB0 a0 a1 a2 a3 a4 a5
    refine (sizes_any _ _ _ _ _ _ _ _ _ _ _ _ _).mono ?_
    rintro e w1 ⟨rfl,hb⟩
    rw [HS.out]
    have HX1:=Lib.hid (HX.out.le hb)
    clear hb HX
    go_wp2_with fail
    rw [Exit.noGoto_ret]
    go_ret2
    exact ⟨rfl,HX1.out.bl⟩
end
end Go.Proofs.Ythjkbfamkogoiaa
namespace Go.Proofs.Ythjkbfamkogoiaa
open Go Go.RowKit Go.Proofs.Mm Go.Sort
def faA (x:Int × Int × Int):Array Value:=#[.int .i64 x.1,.int .i64 x.2.1,.int .i64 x.2.2]
theorem chk_tab {ng na nh:Nat} {arrs:List (Int × Int)} {fs:List FnM} {a e:Int} (h:tabI ng na nh fs.length arrs=(a,e)) (he:e ≠ 0):chkE ng na nh arrs fs=(e,-1,a):=by
  rw [chkE,h,if_pos he]
theorem chk_hit {ng na nh:Nat} {arrs:List (Int × Int)} {fs:List FnM} {a a1 e1:Int} {k:Nat} (h:tabI ng na nh fs.length arrs=(a,0)) (ht:∀ j,j<k→decide ((fnE ng na nh fs j).2 ≠ 0)=false) (hk:k<fs.length) (he:fnE ng na nh fs k=(a1,e1)) (hz:e1 ≠ 0):chkE ng na nh arrs fs=(e1,(k:Int),a1):=by
  rw [chkE,h,if_neg (by simp),fst_some (k:=k) ht hk (by rw [he];exact decide_eq_true hz)]
  simp only [he]
theorem chk_none {ng na nh:Nat} {arrs:List (Int × Int)} {fs:List FnM} {a:Int} (h:tabI ng na nh fs.length arrs=(a,0)) (ht:∀ j,j<fs.length→decide ((fnE ng na nh fs j).2 ≠ 0)=false):chkE ng na nh arrs fs=(0,0,0):=by
  rw [chkE,h,if_neg (by simp),fst_none ht]
section
variable (qg:Option Addr) (ng cg:Nat) (qa:Option Addr) (na ca:Nat) (qh:Option Addr) (nh ch:Nat) (qf:Option Addr) (nf cf:Nat)
set_option maxRecDepth 100000 in
set_option maxHeartbeats 4000000 in
theorem Check_any {lt:Bool} {fs:List FnM} {arrs:List (Int × Int)} (hn:fs.length=nf) (hna:arrs.length=na) (hm:na≤140737488351232) (hmf:nf≤140737488351232) {w:World} (hF:FnAt lt (wC w) qf fs) (hA:ArAt (wC w) qa arrs) :
    Calls Try.prog 8 #[moV qg ng cg qa na ca qh nh ch qf nf cf] w fun e w'=>e=.returned (.agg (faA (chkE ng na nh arrs fs)))∧Below w.heap.size w w':=by
  have HT:=Lib.hid (fun W (hb:Below w.heap.size w W)=>tables_any qg ng cg qa na ca qh nh ch qf nf cf (w:=W) arrs hna hm (hA.le (below_cle hb)))
  have HF:=Lib.hid (fun W (hb:Below w.heap.size w W) j hj=>function_any qg ng cg qa na ca qh nh ch qf nf cf hn (w:=W) (hF.le (below_cle hb)) j hj)
  have HN:=Lib.hid hn
  obtain ⟨R,hR⟩:∃ R,chkE ng na nh arrs fs=R:=⟨_,rfl⟩
  have HR:=Lib.hid hR
  rw [hR]
  clear hF hA hR hna hm hn
  obtain ⟨b,hb⟩:∃ b,w.heap.size=b:=⟨_,rfl⟩
  obtain ⟨ta,te,htt⟩:∃ ta te,tabI ng na nh nf arrs=(ta,te):=⟨_,_,rfl⟩
  have HTT:=Lib.hid (show tabI ng na nh fs.length arrs=(ta,te) by rw [HN.out];exact htt)
  rw [htt] at HT
  clear htt
  go_enter Try.func8,Try.ntmps8
  go_wp2_with fail
  have hbA:Below w.heap.size w ((w.alloc (.cells #[.slice qg ng cg,.slice qa na ca,.slice qh nh ch,.slice qf nf cf] 26)).alloc (.cells #[.int .i64 0,.int .i64 0,.int .i64 0] 30)):=bl_al (bl_al (Below.refl _ w) _) _
  have j0:InB ((w.alloc (.cells #[.slice qg ng cg,.slice qa na ca,.slice qh nh ch,.slice qf nf cf] 26)).alloc (.cells #[.int .i64 0,.int .i64 0,.int .i64 0] 30)) b #[.slice qg ng cg,.slice qa na ca,.slice qh nh ch,.slice qf nf cf] 26:=hb ▸ (InB.new _ _ _).le (bl_al (Below.refl _ _) _)
  have j1:InB ((w.alloc (.cells #[.slice qg ng cg,.slice qa na ca,.slice qh nh ch,.slice qf nf cf] 26)).alloc (.cells #[.int .i64 0,.int .i64 0,.int .i64 0] 30)) (b+1) #[.int .i64 0,.int .i64 0,.int .i64 0] 30:=InB.new' _ _ (by simp [hb])
  generalize (w.alloc (.cells #[.slice qg ng cg,.slice qa na ca,.slice qh nh ch,.slice qf nf cf] 26)).alloc (.cells #[.int .i64 0,.int .i64 0,.int .i64 0] 30)=w0 at *
  try rw [hb]
  have HBB:=Lib.hid hb
  have HBA:=Lib.hid hbA
  have HJ0:=Lib.hid j0
  have HJ1:=Lib.hid j1
  clear hbA j0 j1
  go_at_call 19
  refine (HT.out _ HBA.out).mono ?_
  rintro e w1 ⟨rfl,hb1⟩
  have HB1:=Lib.hid hb1
  clear hb1 HT
  by_cases hte:te=0
  · subst hte
    have k3:w1.cell? ⟨b,3,none⟩=some (.slice qf nf cf):=(HJ0.out.le HB1.out).cell rfl
    have hne:((0:Int) != 0)=false:=by decide
    go_wp2_with fail
    clear k3
    go_loopw [21] (fun i wr=>∃ k:Nat,k≤nf∧i=.int .i64 k∧Hid (Below w0.heap.size w0 wr)∧Hid (∀ j,j<k→decide ((fnE ng na nh fs j).2 ≠ 0)=false)) (fun i _=>nf - (intOf i).toNat)
    case atStart=>exact ⟨0,Nat.zero_le _,rfl,HB1,Lib.hid (fun j h=>absurd h (by omega))⟩
    case round =>
      obtain ⟨k,hk,rfl,HB,HTT2⟩:=hrel
      have HY:=Lib.hid (HJ1.out.le HB.out)
      by_cases hlt:k<nf
      · have HC:=Lib.hid (HF.out wr (bl_tr HBA.out HB.out) k hlt)
        obtain ⟨fa,fe,hff⟩:∃ fa fe,fnE ng na nh fs k=(fa,fe):=⟨_,_,rfl⟩
        have HFF:=Lib.hid hff
        rw [hff] at HC
        clear hff
        have k0:wr.cell? ⟨b,0,none⟩=some (.slice qg ng cg):=(HJ0.out.le HB.out).cell rfl
        have k1:wr.cell? ⟨b,1,none⟩=some (.slice qa na ca):=(HJ0.out.le HB.out).cell rfl
        have k2:wr.cell? ⟨b,2,none⟩=some (.slice qh nh ch):=(HJ0.out.le HB.out).cell rfl
        have k3:wr.cell? ⟨b,3,none⟩=some (.slice qf nf cf):=(HJ0.out.le HB.out).cell rfl
        have hki:(k:Int)<(nf:Int):=by omega
        go_wp2_with fail
        refine HC.out.mono ?_
        rintro e w2 ⟨rfl,hb2⟩
        have HB2:=Lib.hid (bl_tr HB.out hb2)
        have HY:=Lib.hid (HY.out.le hb2)
        clear hb2 HC k0 k1 k2 k3
        by_cases hfe:fe=0
        · subst hfe
          have HS:=Lib.hid (step_no HTT2.out (show decide ((fnE ng na nh fs k).2 ≠ 0)=false from by rw [HFF.out];rfl))
          go_wp2_with fail
          exact ⟨⟨k+1,by omega,by go_num,HB2,HS⟩,by simp [intOf];omega⟩
        · have hne:(fe != 0)=true:=by simpa using hfe
          have HD:=Lib.hid (HR.out.symm.trans (chk_hit HTT.out HTT2.out (by rw [HN.out];exact hlt) HFF.out hfe))
          clear hfe hlt hki hk
          have r0:w2.cell? ⟨b+1,0,none⟩=some (.int .i64 0):=HY.out.cell rfl
          have r1:w2.cell? ⟨b+1,1,none⟩=some (.int .i64 0):=HY.out.cell rfl
          have r2:w2.cell? ⟨b+1,2,none⟩=some (.int .i64 0):=HY.out.cell rfl
          have g0:w2.frozen? ⟨b+1,0,none⟩=false:=free_of HY.out
          have g1:w2.frozen? ⟨b+1,1,none⟩=false:=free_of HY.out
          have g2:w2.frozen? ⟨b+1,2,none⟩=false:=free_of HY.out
          go_wp2
          have hW:=heap_set (heap_set (heap_set HY.out 0 (.int .i64 (fe))) 1 (.int .i64 ((k:Int)))) 2 (.int .i64 (fa))
          have hbs:=HBB.out
          have hWB:=(((bl_tr HBA.out HB2.out).setCell (p:=⟨b+1,0,none⟩) (by show w.heap.size≤b+1;omega) (.int .i64 (fe))).setCell (p:=⟨b+1,1,none⟩) (by show w.heap.size≤b+1;omega) (.int .i64 ((k:Int)))).setCell (p:=⟨b+1,2,none⟩) (by show w.heap.size≤b+1;omega) (.int .i64 (fa))
          generalize ((World.setCell _ _ _).setCell _ _).setCell _ _=wE at *
          have c0:=cell_of (j:=0) hW rfl
          have c1:=cell_of (j:=1) hW rfl
          have c2:=cell_of (j:=2) hW rfl
          exact bodyPost_ret (v:=.agg #[.int .i64 (fe),.int .i64 ((k:Int)),.int .i64 (fa)]) (by simp [results,Try.results8,go_sem,c0,c1,c2]) rfl ⟨by rw [HD.out];rfl,hWB⟩
      · have HD:=Lib.hid (HR.out.symm.trans (chk_none HTT.out (fun j hj=>HTT2.out j (by have:=HN.out;omega))))
        have r0:wr.cell? ⟨b+1,0,none⟩=some (.int .i64 0):=HY.out.cell rfl
        have r1:wr.cell? ⟨b+1,1,none⟩=some (.int .i64 0):=HY.out.cell rfl
        have r2:wr.cell? ⟨b+1,2,none⟩=some (.int .i64 0):=HY.out.cell rfl
        have g0:wr.frozen? ⟨b+1,0,none⟩=false:=free_of HY.out
        have g1:wr.frozen? ⟨b+1,1,none⟩=false:=free_of HY.out
        have g2:wr.frozen? ⟨b+1,2,none⟩=false:=free_of HY.out
        go_wp2
        have hW:=heap_set (heap_set (heap_set HY.out 0 (.int .i64 (0))) 1 (.int .i64 (0))) 2 (.int .i64 (0))
        have hbs:=HBB.out
        have hWB:=(((bl_tr HBA.out HB.out).setCell (p:=⟨b+1,0,none⟩) (by show w.heap.size≤b+1;omega) (.int .i64 (0))).setCell (p:=⟨b+1,1,none⟩) (by show w.heap.size≤b+1;omega) (.int .i64 (0))).setCell (p:=⟨b+1,2,none⟩) (by show w.heap.size≤b+1;omega) (.int .i64 (0))
        generalize ((World.setCell _ _ _).setCell _ _).setCell _ _=wE at *
        have c0:=cell_of (j:=0) hW rfl
        have c1:=cell_of (j:=1) hW rfl
        have c2:=cell_of (j:=2) hW rfl
        exact bodyPost_ret (v:=.agg #[.int .i64 (0),.int .i64 (0),.int .i64 (0)]) (by simp [results,Try.results8,go_sem,c0,c1,c2]) rfl ⟨by rw [HD.out];rfl,hWB⟩
  · have hne:(te != 0)=true:=by simpa using hte
    have HD:=Lib.hid (HR.out.symm.trans (chk_tab HTT.out hte))
    have HY:=Lib.hid (HJ1.out.le HB1.out)
    clear hte
    have r0:w1.cell? ⟨b+1,0,none⟩=some (.int .i64 0):=HY.out.cell rfl
    have r1:w1.cell? ⟨b+1,1,none⟩=some (.int .i64 0):=HY.out.cell rfl
    have r2:w1.cell? ⟨b+1,2,none⟩=some (.int .i64 0):=HY.out.cell rfl
    have g0:w1.frozen? ⟨b+1,0,none⟩=false:=free_of HY.out
    have g1:w1.frozen? ⟨b+1,1,none⟩=false:=free_of HY.out
    have g2:w1.frozen? ⟨b+1,2,none⟩=false:=free_of HY.out
    go_wp2
    have hW:=heap_set (heap_set (heap_set HY.out 0 (.int .i64 (te))) 1 (.int .i64 (-1))) 2 (.int .i64 (ta))
    have hbs:=HBB.out
    have hWB:=(((bl_tr HBA.out HB1.out).setCell (p:=⟨b+1,0,none⟩) (by show w.heap.size≤b+1;omega) (.int .i64 (te))).setCell (p:=⟨b+1,1,none⟩) (by show w.heap.size≤b+1;omega) (.int .i64 (-1))).setCell (p:=⟨b+1,2,none⟩) (by show w.heap.size≤b+1;omega) (.int .i64 (ta))
    generalize ((World.setCell _ _ _).setCell _ _).setCell _ _=wE at *
    have c0:=cell_of (j:=0) hW rfl
    have c1:=cell_of (j:=1) hW rfl
    have c2:=cell_of (j:=2) hW rfl
    exact bodyPost_ret (v:=.agg #[.int .i64 (te),.int .i64 (-1),.int .i64 (ta)]) (by simp [results,Try.results8,go_sem,c0,c1,c2]) rfl ⟨by rw [HD.out];rfl,hWB⟩
end
end Go.Proofs.Ythjkbfamkogoiaa
namespace Go.Proofs.Ythjkbfamkogoiaa
open Go Go.RowKit Go.Proofs.Mm Go.Sort
theorem fnE_siz {ng na nh:Nat} {fs:List FnM} {k:Nat} (hk:k<fs.length) {s:Int} (h:sizI fs[k].params.length fs[k].results.length fs[k].locals fs[k].stack fs[k].code.length=s) (hz:s ≠ 0):fnE ng na nh fs k=(-1,s):=by
  rw [fnE,getA_at hk,h,if_pos hz]
theorem fnE_cod {ng na nh:Nat} {fs:List FnM} {k:Nat} (hk:k<fs.length) (h:sizI fs[k].params.length fs[k].results.length fs[k].locals fs[k].stack fs[k].code.length=0):fnE ng na nh fs k=codE ng na nh fs k fs[k].code.length fs[k].code:=by
  rw [fnE,getA_at hk,if_neg (by rw [h];simp)]
section
variable (qg:Option Addr) (ng cg:Nat) (qa:Option Addr) (na ca:Nat) (qh:Option Addr) (nh ch:Nat) (qf:Option Addr) (nf cf:Nat)
end
end Go.Proofs.Ythjkbfamkogoiaa
namespace Go.Proofs.Ythjkbfamkogoiaa
open Go Go.RowKit Go.Proofs.Mm Go.Sort
theorem eqFlt (a b c d e f:Int) (w:World):(Op.equalIn 10000 30 (.agg #[.int .i64 a,.int .i64 b,.int .i64 c]) (.agg #[.int .i64 d,.int .i64 e,.int .i64 f])).run Try.prog w=.ok (a == d && b == e && c == f) w:=by
  have u3:=Try.underlying3
  have u28:=Try.underlying28
  have hS:Try.prog.underlying 30=some (.struct (Try.prog.fieldsOf 30)):=by kernel_rfl
  have hp:Try.prog.stoodInHeld 30=false:=by kernel_rfl
  rw [show (10000:Nat)=9999+1 from rfl,run_equalIn_agg w 9999 30 _ _ hS hp]
  simp only [Program.fieldsOf,Try.underlying30]
  go_simp
  by_cases h1:a=d <;> by_cases h2:b=e <;> by_cases h3:c=f <;> simp [h1,h2,h3]
theorem eqFlt' (a b c d e f:Int) (w:World):(binOp .eql 30 (.agg #[.int .i64 a,.int .i64 b,.int .i64 c]) (.agg #[.int .i64 d,.int .i64 e,.int .i64 f])).run Try.prog w=.ok (.bool (a == d && b == e && c == f)) w:=by
  rw [run_eql_struct,eqFlt];rfl
theorem neFlt' (a b c d e f:Int) (w:World):(binOp .neq 30 (.agg #[.int .i64 a,.int .i64 b,.int .i64 c]) (.agg #[.int .i64 d,.int .i64 e,.int .i64 f])).run Try.prog w=.ok (.bool (!(a == d && b == e && c == f))) w:=by
  rw [run_neq_struct,eqFlt];rfl
attribute [local go_sem] eqFlt' neFlt'
structure BxM (w:World) (m0 m1 m2 m3:Value) (W:World):Prop where
  bl:Below w.heap.size w W
  m:InB W w.heap.size #[m0,m1,m2,m3] 26
theorem BxM.new (w:World) (m0 m1 m2 m3:Value):BxM w m0 m1 m2 m3 (w.alloc (.cells #[m0,m1,m2,m3] 26)):=⟨bl_al (Below.refl _ w) _,InB.new _ _ _⟩
theorem BxM.le {w:World} {m0 m1 m2 m3:Value} {W V:World} (h:BxM w m0 m1 m2 m3 W) (hb:Below W.heap.size W V):BxM w m0 m1 m2 m3 V:=⟨bl_tr h.bl hb,h.m.le hb⟩
end Go.Proofs.Ythjkbfamkogoiaa
namespace Go.Proofs.Ythjkbfamkogoiaa
open Go Go.RowKit Go.Proofs.Mm Go.Sort
theorem slx_inb {α:Type} {bs:Nat} {R:List Value→α→Prop} {l:List α} {g c:Nat} {cs:List Value} {W:World} {T:TypeId} (h:InB W g cs.toArray T) (he:Enc R cs l) (hb:l.length * bs≤140737488351232) (hc:c≤maxLen) (hl:l.length≤c) :
    SlX [] bs (wC W) R (.slice (some ⟨g,0,none⟩) l.length c) l :=
  ⟨_,_,cs,rfl,.inl rfl,.inr ⟨g,0,rfl,by rw [List.append_nil];intro j u hu;rw [Nat.zero_add];exact h.cell (by simpa using hu)⟩,he,hb,hc,(fun h=>nomatch h),hl⟩
theorem slx_none {α:Type} {bs:Nat} {C:Cl} {R:List Value→α→Prop}:SlX [] bs C R (.slice none 0 0) ([]:List α) :=
  ⟨none,0,[],rfl,.inl rfl,.inl rfl,Enc.nil,by simp,by decide,fun _=>rfl,by simp⟩
def ofF (code:List (Int × Int)):FnM:=⟨0,[0],[],1,0,code⟩
def ofZ (code:List (Int × Int)):Int × Int × Int:=chkE 0 0 0 [] [ofF code]
theorem of_world (w:World) (b:Nat) (hb:w.heap.size=b) (q:Option Addr) (n c:Nat):∃ W3,((w.alloc (.cells #[.int .i64 0,.int .i64 0,.int .i64 0] 30)).alloc (.cells #[.int .u64 0] 42)).alloc (.cells #[.int .u64 0,.slice (some ⟨b+1,0,none⟩) 1 1,.slice none 0 0,.int .i64 1,.int .i64 0,.slice q n c] 45)=W3∧Below w.heap.size w W3∧InB W3 b #[.int .i64 0,.int .i64 0,.int .i64 0] 30 ∧
    InB W3 (b+1) [Value.int .u64 0].toArray 42∧InB W3 (b+1+1) [.int .u64 0,.slice (some ⟨b+1,0,none⟩) 1 1,.slice none 0 0,.int .i64 1,.int .i64 0,.slice q n c].toArray 45 :=
  ⟨_,rfl,bl_al (bl_al (bl_al (Below.refl _ w) _) _) _,((InB.new' _ _ hb).le (bl_al (Below.refl _ _) _)).le (bl_al (Below.refl _ _) _),(InB.new' _ _ (by simp [hb])).le (bl_al (Below.refl _ _) _),InB.new' _ _ (by simp [hb])⟩
set_option maxRecDepth 100000 in
set_option maxHeartbeats 2000000 in
theorem of_any {code:List (Int × Int)} {q:Option Addr} {n c:Nat} (hn:code.length=n) {w:World} (h:CdR false (wC w) (.slice q n c) code) :
    Calls Try.prog 27 #[.slice q n c] w fun e w'=>e=.returned (.agg (faA (ofZ code)))∧Below w.heap.size w w':=by
  obtain ⟨x,y,z,hx⟩:∃ x y z,ofZ code=(x,y,z):=⟨_,_,_,rfl⟩
  rw [hx]
  obtain ⟨b,hb⟩:∃ b,w.heap.size=b:=⟨_,rfl⟩
  obtain ⟨W3,hW3,hbl,j0,j1,j2⟩:=of_world w b hb q n c
  have hfn:FnsR false (wC W3) (.slice (some ⟨b+1+1,0,none⟩) 1 1) [ofF code]:=slx_inb (bs:=96) (l:=[ofF code]) j2 (Enc.one ⟨_,_,_,rfl,slx_inb (bs:=8) (l:=[0]) j1 (Enc.one rfl) (by simp) (by decide) (by simp),slx_none,by
    have h2:CdR false (wC W3) (.slice q n c) code:=h.le (below_cle hbl)
    exact h2⟩) (by simp) (by decide) (by simp)
  have HC:=Lib.hid (Check_any none 0 0 none 0 0 none 0 0 (some ⟨b+1+1,0,none⟩) 1 1 (lt:=false) (fs:=[ofF code]) (arrs:=[]) rfl rfl (by omega) (by omega) (w:=W3) hfn.cells (fun j hj=>absurd hj (by simp)))
  have hx2:chkE 0 0 0 [] [ofF code]=(x,y,z):=hx
  rw [hx2] at HC
  have HW:=Lib.hid hW3
  have HBL:=Lib.hid hbl
  have HY:=Lib.hid j0
  have HBB:=Lib.hid hb
  clear h hx hx2 hn hW3 hbl j0 j1 j2 hfn
  go_enter Try.func27,Try.ntmps27
  go_wp2_with fail
  rw [HW.out]
  refine HC.out.mono ?_
  rintro e w1 ⟨rfl,hb1⟩
  have HY:=Lib.hid (HY.out.le hb1)
  have HB1:=Lib.hid (bl_tr HBL.out hb1)
  clear hb1
  have r0:w1.cell? ⟨b,0,none⟩=some (.int .i64 0):=HY.out.cell rfl
  have r1:w1.cell? ⟨b,1,none⟩=some (.int .i64 0):=HY.out.cell rfl
  have r2:w1.cell? ⟨b,2,none⟩=some (.int .i64 0):=HY.out.cell rfl
  have g0:w1.frozen? ⟨b,0,none⟩=false:=free_of HY.out
  have g1:w1.frozen? ⟨b,1,none⟩=false:=free_of HY.out
  have g2:w1.frozen? ⟨b,2,none⟩=false:=free_of HY.out
  unfold faA
  go_wp2
  have hW:=heap_set (heap_set (heap_set HY.out 0 (.int .i64 x)) 1 (.int .i64 y)) 2 (.int .i64 z)
  have hbs:=HBB.out
  have hWB:=((HB1.out.setCell (p:=⟨b,0,none⟩) (by show w.heap.size≤b;omega) (.int .i64 x)).setCell (p:=⟨b,1,none⟩) (by show w.heap.size≤b;omega) (.int .i64 y)).setCell (p:=⟨b,2,none⟩) (by show w.heap.size≤b;omega) (.int .i64 z)
  generalize ((World.setCell _ _ _).setCell _ _).setCell _ _=wE at *
  have c0:=cell_of (j:=0) hW rfl
  have c1:=cell_of (j:=1) hW rfl
  have c2:=cell_of (j:=2) hW rfl
  exact bodyPost_ret (v:=.agg #[.int .i64 x,.int .i64 y,.int .i64 z]) (by simp [results,Try.results27,go_sem,c0,c1,c2]) rfl ⟨rfl,by first | exact hWB | (rw [← HBB.out];exact hWB)⟩
end Go.Proofs.Ythjkbfamkogoiaa
namespace Go.Proofs.Ythjkbfamkogoiaa
open Go Go.RowKit Go.Proofs.Mm Go.Sort
attribute [local go_sem] eqFlt' neFlt'
def codC:List (Int × Int)→List Value
  | []=>[]
  | x :: l=>.int .i64 x.1 :: .int .i64 x.2 :: codC l
theorem codC_enc:∀ l:List (Int × Int),Enc inR (codC l) l
  | []=>rfl
  | x :: l=>⟨[.int .i64 x.1,.int .i64 x.2],codC l,rfl,rfl,codC_enc l⟩
theorem of_lit (code:List (Int × Int)) (g:Nat) (W:World) (z:Int × Int × Int) (hz:ofZ code=z) (hl:code.length≤9) (h:InB W g (codC code).toArray 35) :
    Calls Try.prog 27 #[.slice (some ⟨g,0,none⟩) code.length code.length] W fun e w'=>e=.returned (.agg #[.int .i64 z.1,.int .i64 z.2.1,.int .i64 z.2.2])∧Below W.heap.size W w' :=
  hz ▸ of_any rfl (slx_inb (bs:=16) h (codC_enc code) (by omega) (by unfold maxLen;omega) (Nat.le_refl _))
theorem of_nil (W:World) (z:Int × Int × Int) (hz:ofZ []=z) :
    Calls Try.prog 27 #[.slice none 0 0] W fun e w'=>e=.returned (.agg #[.int .i64 z.1,.int .i64 z.2.1,.int .i64 z.2.2])∧Below W.heap.size W w' :=
  hz ▸ of_any rfl slx_none
theorem ofZ_0:ofZ [(32,5),(41,0),(46,0)]=(0,0,0):=by decide +kernel
theorem ofZ_1:ofZ [(42,0)]=(131,0,0):=by decide +kernel
theorem ofZ_2:ofZ []=(132,0,-1):=by decide +kernel
theorem ofZ_3:ofZ [(43,1)]=(130,0,0):=by decide +kernel
theorem ofZ_4:ofZ [(33,1),(46,0)]=(0,0,0):=by decide +kernel
theorem ofZ_5:ofZ [(33,2),(46,0)]=(130,0,0):=by decide +kernel
theorem ofZ_6:ofZ [(99,0),(46,0)]=(100,0,0):=by decide +kernel
set_option maxRecDepth 100000 in
set_option maxHeartbeats 4000000 in
theorem known_any (w:World):Calls Try.prog 15 #[] w fun e w'=>e=.returned (.bool true)∧Below w.heap.size w w':=by
  obtain ⟨b,hb⟩:∃ b,w.heap.size=b:=⟨_,rfl⟩
  have HBB:=Lib.hid hb
  go_enter Try.func15,Try.ntmps15
  go_upto_region 2 with (fail)
  have HK:=Lib.hid (show InB (w.alloc (.cells #[.int .i64 46,.int .i64 0] 35)) b #[.int .i64 46,.int .i64 0] 35 from InB.new' _ _ hb)
  have HL:=Lib.hid (show Below w.heap.size w (w.alloc (.cells #[.int .i64 46,.int .i64 0] 35)) from bl_al (Below.refl _ w) _)
  generalize w.alloc (.cells #[.int .i64 46,.int .i64 0] 35)=w0 at *
  try rw [hb]
  clear hb
  have i0:w0.cell? ⟨b,0,none⟩=some (.int .i64 46):=HK.out.cell rfl
  have i1:w0.cell? ⟨b,1,none⟩=some (.int .i64 0):=HK.out.cell rfl
  go_wp2_with fail
  refine (of_lit [(32,5),(41,0),(46,0)] w0.heap.size _ (0,0,0) ofZ_0 (by decide) (InB.new w0 #[.int .i64 32,.int .i64 5,.int .i64 41,.int .i64 0,.int .i64 46,.int .i64 0] _)).mono ?_
  rintro e w1 ⟨rfl,hb⟩
  have hb:=bl_tr (bl_al (Below.refl _ w0) _) hb
  have HK:=Lib.hid (HK.out.le hb)
  have HL:=Lib.hid (bl_tr HL.out hb)
  clear hb i0 i1
  have i0:w1.cell? ⟨b,0,none⟩=some (.int .i64 46):=HK.out.cell rfl
  have i1:w1.cell? ⟨b,1,none⟩=some (.int .i64 0):=HK.out.cell rfl
  go_wp2_with fail
  refine (of_lit [(42,0)] w1.heap.size _ (131,0,0) ofZ_1 (by decide) (InB.new w1 #[.int .i64 42,.int .i64 0] _)).mono ?_
  rintro e w2 ⟨rfl,hb⟩
  have hb:=bl_tr (bl_al (Below.refl _ w1) _) hb
  have HK:=Lib.hid (HK.out.le hb)
  have HL:=Lib.hid (bl_tr HL.out hb)
  clear hb i0 i1
  have i0:w2.cell? ⟨b,0,none⟩=some (.int .i64 46):=HK.out.cell rfl
  have i1:w2.cell? ⟨b,1,none⟩=some (.int .i64 0):=HK.out.cell rfl
  go_wp2_with fail
  refine (of_nil _ (132,0,-1) ofZ_2).mono ?_
  rintro e w3 ⟨rfl,hb⟩
  have HK:=Lib.hid (HK.out.le hb)
  have HL:=Lib.hid (bl_tr HL.out hb)
  clear hb i0 i1
  have i0:w3.cell? ⟨b,0,none⟩=some (.int .i64 46):=HK.out.cell rfl
  have i1:w3.cell? ⟨b,1,none⟩=some (.int .i64 0):=HK.out.cell rfl
  go_wp2_with fail
  refine (of_lit [(43,1)] w3.heap.size _ (130,0,0) ofZ_3 (by decide) (InB.new w3 #[.int .i64 43,.int .i64 1] _)).mono ?_
  rintro e w4 ⟨rfl,hb⟩
  have hb:=bl_tr (bl_al (Below.refl _ w3) _) hb
  have HK:=Lib.hid (HK.out.le hb)
  have HL:=Lib.hid (bl_tr HL.out hb)
  clear hb i0 i1
  have i0:w4.cell? ⟨b,0,none⟩=some (.int .i64 46):=HK.out.cell rfl
  have i1:w4.cell? ⟨b,1,none⟩=some (.int .i64 0):=HK.out.cell rfl
  go_wp2_with fail
  refine (of_lit [(33,1),(46,0)] w4.heap.size _ (0,0,0) ofZ_4 (by decide) (InB.new w4 #[.int .i64 33,.int .i64 1,.int .i64 46,.int .i64 0] _)).mono ?_
  rintro e w5 ⟨rfl,hb⟩
  have hb:=bl_tr (bl_al (Below.refl _ w4) _) hb
  have HK:=Lib.hid (HK.out.le hb)
  have HL:=Lib.hid (bl_tr HL.out hb)
  clear hb i0 i1
  have i0:w5.cell? ⟨b,0,none⟩=some (.int .i64 46):=HK.out.cell rfl
  have i1:w5.cell? ⟨b,1,none⟩=some (.int .i64 0):=HK.out.cell rfl
  go_wp2_with fail
  refine (of_lit [(33,2),(46,0)] w5.heap.size _ (130,0,0) ofZ_5 (by decide) (InB.new w5 #[.int .i64 33,.int .i64 2,.int .i64 46,.int .i64 0] _)).mono ?_
  rintro e w6 ⟨rfl,hb⟩
  have hb:=bl_tr (bl_al (Below.refl _ w5) _) hb
  have HK:=Lib.hid (HK.out.le hb)
  have HL:=Lib.hid (bl_tr HL.out hb)
  clear hb i0 i1
  have i0:w6.cell? ⟨b,0,none⟩=some (.int .i64 46):=HK.out.cell rfl
  have i1:w6.cell? ⟨b,1,none⟩=some (.int .i64 0):=HK.out.cell rfl
  go_wp2_with fail
  refine (of_lit [(99,0),(46,0)] w6.heap.size _ (100,0,0) ofZ_6 (by decide) (InB.new w6 #[.int .i64 99,.int .i64 0,.int .i64 46,.int .i64 0] _)).mono ?_
  rintro e w7 ⟨rfl,hb⟩
  have hb:=bl_tr (bl_al (Below.refl _ w6) _) hb
  have HK:=Lib.hid (HK.out.le hb)
  have HL:=Lib.hid (bl_tr HL.out hb)
  clear hb i0 i1
  go_wp2
  go_ret
  exact ⟨rfl,by first | exact HL.out | (rw [← HBB.out];exact HL.out)⟩
end Go.Proofs.Ythjkbfamkogoiaa
namespace Go.Proofs.Ythjkbfamkogoiaa
open Go Go.RowKit Go.Proofs.Mm Go.Sort
theorem chk_zero {ng na nh:Nat} {arrs:List (Int × Int)} {fs:List FnM} (h:chkE ng na nh arrs fs=(0,0,0)):(tabI ng na nh fs.length arrs).2=0∧∀ j,j<fs.length→(fnE ng na nh fs j).2=0:=by
  have h1:(tabI ng na nh fs.length arrs).2=0:=by
    by_cases e:(tabI ng na nh fs.length arrs).2=0
    · exact e
    · rw [chkE,if_pos e] at h
      have:=congrArg (fun x=>x.2.1) h
      simp at this
  refine ⟨h1,?_⟩
  rw [chkE,if_neg (by rw [h1];simp)] at h
  cases hf:fstB (fun j=>decide ((fnE ng na nh fs j).2 ≠ 0)) fs.length with
  | none =>
    intro j hj
    have:=none_fst hf j hj
    simpa using this
  | some k =>
    rw [hf] at h
    have h2:=congrArg (fun x=>x.1) h
    unfold fstB at hf
    have h3:=List.find?_some hf
    simp at h2 h3
    exact absurd h2 h3
theorem fn_zero {ng na nh:Nat} {fs:List FnM} {j:Nat} (hj:j<fs.length) (h:(fnE ng na nh fs j).2=0):sizI fs[j].params.length fs[j].results.length fs[j].locals fs[j].stack fs[j].code.length=0∧∀ a,a<fs[j].code.length→insE ng na nh fs j fs[j].code.length fs[j].code a=0:=by
  have h1:sizI fs[j].params.length fs[j].results.length fs[j].locals fs[j].stack fs[j].code.length=0:=by
    by_cases e:sizI fs[j].params.length fs[j].results.length fs[j].locals fs[j].stack fs[j].code.length=0
    · exact e
    · rw [fnE_siz hj rfl e] at h
      exact absurd h e
  refine ⟨h1,?_⟩
  rw [fnE_cod hj h1,codE] at h
  cases hf:fstB (fun a=>decide (insE ng na nh fs j fs[j].code.length fs[j].code a ≠ 0)) fs[j].code.length with
  | none =>
    intro a ha
    have:=none_fst hf a ha
    simpa using this
  | some k =>
    rw [hf] at h
    unfold fstB at hf
    have h3:=List.find?_some hf
    simp at h h3
    exact absurd h h3
theorem ins_zero {ng na nh:Nat} {fs:List FnM} {j nc a:Nat} {code:List (Int × Int)} (ha:a<code.length) (h:insE ng na nh fs j nc code a=0):insI ng na nh fs j code[a].1 code[a].2=0∧(a+1=nc→code[a].1=43 ∨ code[a].1=46):=by
  unfold insE at h
  rw [getA_at ha] at h
  by_cases e:insI ng na nh fs j code[a].1 code[a].2=0
  · refine ⟨e,fun hn=>?_⟩
    rw [if_neg (by rw [e];simp)] at h
    by_cases h3:code[a].1=43
    · exact .inl h3
    · by_cases h4:code[a].1=46
      · exact .inr h4
      · rw [if_pos ⟨hn,h3,h4⟩] at h
        exact absurd h (by decide)
  · rw [if_pos e] at h
    exact absurd h e
theorem ins_jump {ng na nh:Nat} {fs:List FnM} {j:Nat} (hj:j<fs.length) {op av:Int} (h:insI ng na nh fs j op av=0) (ho:op=43 ∨ op=44):0≤av∧av<fs[j].code.length:=by
  unfold insI at h
  rw [if_neg (by rw [show fnI fs.length (j:Int)=true from decide_eq_true (by omega)];simp),if_neg (by rcases ho with rfl | rfl <;> decide)] at h
  have e:opnI ng na nh fs j op av=blI av fs[j].code.length:=by
    unfold opnI
    rw [if_neg (by omega),if_neg (by omega),if_neg (by omega),if_neg (by omega),if_pos (by omega),getD_at hj]
  rw [e] at h
  by_cases hb:0≤av∧av<fs[j].code.length
  · exact hb
  · rw [if_pos (show blI av fs[j].code.length=false from decide_eq_false hb)] at h
    exact absurd h (by decide)
end Go.Proofs.Ythjkbfamkogoiaa
