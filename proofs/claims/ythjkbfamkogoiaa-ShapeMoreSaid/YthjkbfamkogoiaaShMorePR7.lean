/- ShapeMore: the law's walk. -/
import Derived.Test.YthjkbfamkogoiaaShMorePR6
namespace Go.Proofs.Ythjkbfamkogoiaa
open Go Go.RowKit Go.Proofs.Mm Go.Sort
attribute [local go_sem] eqFlt' neFlt'
def TX (w W:World) (b bt:Nat) (p4:Option Addr) (n4 d4:Nat) (fs:List FnM) (bx:Array Value):Prop:=∃ p1 n1 d1 p2 n2 d2 p3 n3 d3 arrs,TS w W bt p1 n1 d1 p2 n2 d2 p3 n3 d3 p4 n4 d4 arrs fs ∧
  chkE n1 n2 n3 arrs fs=(0,0,0)∧arrs.length=n2∧n2≤140737488351232∧InB W b bx 26
theorem tx_mk {w W:World} {b bt:Nat} {p4:Option Addr} {n4 d4:Nat} {fs:List FnM} {bx:Array Value} {p1:Option Addr} {n1 d1:Nat} {p2:Option Addr} {n2 d2:Nat} {p3:Option Addr} {n3 d3:Nat} {arrs:List (Int × Int)} (h1:TS w W bt p1 n1 d1 p2 n2 d2 p3 n3 d3 p4 n4 d4 arrs fs)
    (h2:chkE n1 n2 n3 arrs fs=(0,0,0)) (h3:arrs.length=n2) (h4:n2≤140737488351232) (h5:InB W b bx 26):TX w W b bt p4 n4 d4 fs bx:=⟨_,_,_,_,_,_,_,_,_,_,h1,h2,h3,h4,h5⟩
set_option maxRecDepth 100000 in
set_option maxHeartbeats 8000000 in
theorem more_law {m:MoM} {v:Value} {w:World} (h:MoR false (wC w) v m) (lb f:Int) :
    Calls Try.prog 6 #[v,.int .u64 lb,.int .i64 f] w fun e w'=>e=.returned (.bool true)∧Below w.heap.size w w':=by
  have HL:=Lib.hid (fun W (hb:Below w.heap.size w W)=>lentModule_any (h.le (below_cle hb)) (m:=fun _=>none) (show Has W (fun _=>none) from fun k o e=>by cases e))
  have HI:=Lib.hid (fun W (hb:Below w.heap.size w W)=>show MoR false (wC W) v m from h.le (below_cle hb))
  obtain ⟨q1,c1,q2,c2,q3,c3,q4,c4,rfl,-,-,-,hl2,-,hl4⟩:=mo_open h
  clear h
  obtain ⟨n1,hn1⟩:∃ n,m.globals.length=n:=⟨_,rfl⟩
  obtain ⟨n2,hn2⟩:∃ n,m.arrays.length=n:=⟨_,rfl⟩
  obtain ⟨n3,hn3⟩:∃ n,m.channels.length=n:=⟨_,rfl⟩
  obtain ⟨n4,hn4⟩:∃ n,m.funcs.length=n:=⟨_,rfl⟩
  rw [hn2] at hl2
  rw [hn4] at hl4
  have HL2:=Lib.hid hl2
  have HL4:=Lib.hid hl4
  have H1:=Lib.hid hn1
  have H2:=Lib.hid hn2
  have H3:=Lib.hid hn3
  have H4:=Lib.hid hn4
  rw [hn1,hn2,hn3,hn4] at HL HI ⊢
  clear hl2 hl4 hn1 hn2 hn3 hn4
  have HFN:=Lib.hid (fun W (hb:Below w.heap.size w W)=>(mo_parts (HI.out W hb)).2)
  obtain ⟨b,hb⟩:∃ b,w.heap.size=b:=⟨_,rfl⟩
  have HBB:=Lib.hid hb
  go_enter Try.func6,Try.ntmps6
  go_upto_region 1 with (fail)
  obtain ⟨W0,hW0⟩:∃ W0,w.alloc (.cells #[.slice q1 n1 c1,.slice q2 n2 c2,.slice q3 n3 c3,.slice q4 n4 c4] 26)=W0:=⟨_,rfl⟩
  have HX0:=Lib.hid (show InB W0 b #[.slice q1 n1 c1,.slice q2 n2 c2,.slice q3 n3 c3,.slice q4 n4 c4] 26 by rw [← hW0];exact InB.new' _ _ hb)
  have HB0:=Lib.hid (show Below w.heap.size w W0 by rw [← hW0];exact bl_al (Below.refl _ w) _)
  rw [hW0]
  try rw [hb]
  clear hW0 hb
  go_wp2_with fail
  refine (known_any W0).mono ?_
  rintro e w1 ⟨rfl,hb⟩
  have HX1:=Lib.hid (HX0.out.le hb)
  have HB1:=Lib.hid (bl_tr HB0.out hb)
  clear hb HX0 HB0
  have k0:w1.cell? ⟨b,0,none⟩=some (.slice q1 n1 c1):=HX1.out.cell rfl
  have k1:w1.cell? ⟨b,1,none⟩=some (.slice q2 n2 c2):=HX1.out.cell rfl
  have k2:w1.cell? ⟨b,2,none⟩=some (.slice q3 n3 c3):=HX1.out.cell rfl
  have k3:w1.cell? ⟨b,3,none⟩=some (.slice q4 n4 c4):=HX1.out.cell rfl
  go_wp2_with fail
  refine (HL.out w1 HB1.out).mono ?_
  rintro e w2 ⟨v',m',rfl,hb1,hmo,hH,hM⟩
  have hM1:MoR true (wC w2) v' m:=hM.le (has_cle hH)
  have HX2:=Lib.hid (HX1.out.le hb1)
  have HB2:=Lib.hid (bl_tr HB1.out hb1)
  obtain ⟨p1,d1,p2,d2,p3,d3,p4,d4,rfl,-⟩:=mo_open hM1
  rw [H1.out,H2.out,H3.out,H4.out] at hM1 ⊢
  obtain ⟨x,y,z,hx⟩:∃ x y z,chkE n1 n2 n3 m.arrays m.funcs=(x,y,z):=⟨_,_,_,rfl⟩
  have HC:=Lib.hid (show Calls Try.prog 8 #[moV p1 n1 d1 p2 n2 d2 p3 n3 d3 p4 n4 d4] w2 fun e w'=>e=.returned (.agg #[.int .i64 x,.int .i64 y,.int .i64 z])∧Below w2.heap.size w2 w' from by
    have h:=Check_any p1 n1 d1 p2 n2 d2 p3 n3 d3 p4 n4 d4 H4.out H2.out HL2.out HL4.out (mo_parts hM1).2 (mo_parts hM1).1
    rw [hx] at h
    exact h)
  have HX:=Lib.hid hx
  clear hM hM1 hH hmo hb1 HX1 HB1 k0 k1 k2 k3 hx
  by_cases hz:x=0∧y=0∧z=0
  · obtain ⟨rfl,rfl,rfl⟩:=hz
    have HNE:=Lib.hid (good_ne H2.out HX.out)
    go_wp2_with fail
    refine HC.out.mono ?_
    rintro e w3 ⟨rfl,hb⟩
    have HX3:=Lib.hid (HX2.out.le hb)
    have HB3:=Lib.hid (bl_tr HB2.out hb)
    clear hb HX2 HB2 HC
    have k0:w3.cell? ⟨b,0,none⟩=some (.slice q1 n1 c1):=HX3.out.cell rfl
    have k1:w3.cell? ⟨b,1,none⟩=some (.slice q2 n2 c2):=HX3.out.cell rfl
    have k2:w3.cell? ⟨b,2,none⟩=some (.slice q3 n3 c3):=HX3.out.cell rfl
    have k3:w3.cell? ⟨b,3,none⟩=some (.slice q4 n4 c4):=HX3.out.cell rfl
    go_wp2_with fail
    refine (HL.out w3 HB3.out).mono ?_
    rintro e w4 ⟨v',m',rfl,hb1,hmo,hH,hM⟩
    have HX4:=Lib.hid (HX3.out.le hb1)
    have HB4:=Lib.hid (bl_tr HB3.out hb1)
    obtain ⟨p1,d1,p2,d2,p3,d3,p4,d4,rfl,-⟩:=mo_open hM
    rw [H1.out,H2.out,H3.out,H4.out] at hM ⊢
    obtain ⟨⟨gg,og,rfl,hd1,lg,mg⟩,⟨ga,oa,rfl,hd2,la,ma⟩,⟨gh,oh,rfl,hd3,lh,mh⟩,har,hfn,hfz⟩:=lent_state hmo hH hM
    have h3s:=HB3.out.size
    obtain ⟨bt,hbt⟩:∃ bt,w4.heap.size=bt:=⟨_,rfl⟩
    have hbt1:=hb1.size
    clear hM hH hmo HL k0 k1 k2 k3 hb1
    go_upto_region 6 with (fail)
    obtain ⟨W5,hW5⟩:∃ W5,w4.alloc (.cells #[.slice (some ⟨gg,og,none⟩) n1 d1,.slice (some ⟨ga,oa,none⟩) n2 d2,.slice (some ⟨gh,oh,none⟩) n3 d3,.slice p4 n4 d4] 26)=W5:=⟨_,rfl⟩
    have hs5:SameB w4 W5 bt:=by rw [← hW5];exact SameB.al _ (by omega)
    have HS:=Lib.hid (show TS w W5 bt (some ⟨gg,og,none⟩) n1 d1 (some ⟨ga,oa,none⟩) n2 d2 (some ⟨gh,oh,none⟩) n3 d3 p4 n4 d4 m.arrays m.funcs from by
      refine ⟨by rw [← hW5];exact bl_al HB4.out _,by omega,by rw [← hW5];exact InB.new' _ _ hbt,?_,?_,fun j hj=>?_⟩
      · rw [hs5.rc,← hbt];exact har
      · rw [hs5.rc,← hbt];exact hfn
      · obtain ⟨g,o,e,f1,f2,f3⟩:=hfz j hj
        exact ⟨g,o,e,by omega,by omega,by rw [hs5.free (by show g<bt;omega)];exact f3⟩)
    have HMG:=Lib.hid (MkU.same (hbt ▸ mg) hs5)
    have HMA:=Lib.hid (MkA.same (hbt ▸ ma) hs5)
    have HMH:=Lib.hid (MkU.same (hbt ▸ mh) hs5)
    have hb3:=HX3.out.lt
    have HLW:=Lib.hid (show b<gg∧b<ga∧b<gh from ⟨by omega,by omega,by omega⟩)
    have HX5:=Lib.hid (show InB W5 b #[.slice q1 n1 c1,.slice q2 n2 c2,.slice q3 n3 c3,.slice q4 n4 c4] 26 from by rw [← hW5];exact HX4.out.le (bl_al (Below.refl _ _) _))
    have HBT:=Lib.hid (show b<bt from by rw [← hbt];exact HX4.out.lt)
    have HDD:=Lib.hid (And.intro hd1 (And.intro hd2 hd3))
    try rw [hW5]
    try rw [hbt]
    clear hW5 hs5 har hfn hfz mg ma mh lg la lh h3s hbt1 hbt hd1 hd2 hd3 HX4 HB4 HX3 hb3
    have a0:W5.cell? ⟨bt,0,none⟩=some (.slice (some ⟨gg,og,none⟩) n1 d1):=HS.out.box.cell rfl
    have a1:W5.cell? ⟨bt,1,none⟩=some (.slice (some ⟨ga,oa,none⟩) n2 d2):=HS.out.box.cell rfl
    have a2:W5.cell? ⟨bt,2,none⟩=some (.slice (some ⟨gh,oh,none⟩) n3 d3):=HS.out.box.cell rfl
    go_cut [35] (fun c wx=>wx=W5∧∃ B:Bool,c=.bool B∧Hid (B=true→n1<32∧n2<16∧n3<16))
    case first =>
      by_cases g1:(n1:Int)<32
      · by_cases g2:(n2:Int)<16
        · by_cases g3:(n3:Int)<16
          · have HG:=Lib.hid (show n1<32∧n2<16∧n3<16 from ⟨by omega,by omega,by omega⟩)
            go_wp2_with fail
            go_meet
            exact ⟨rfl,_,rfl,Lib.hid (fun _=>HG.out)⟩
          · skip
            go_wp2_with fail
            go_meet
            exact ⟨rfl,_,rfl,Lib.hid (fun h=>by cases h)⟩
        · skip
          go_wp2_with fail
          go_meet
          exact ⟨rfl,_,rfl,Lib.hid (fun h=>by cases h)⟩
      · skip
        go_wp2_with fail
        go_meet
        exact ⟨rfl,_,rfl,Lib.hid (fun h=>by cases h)⟩
    case rest =>
      obtain ⟨rfl,B,rfl,HG⟩:=hcut
      generalize wc=W5 at *
      clear a0 a1 a2
      go_upto_if 35 with (fail)
      go_cut [] (fun wx=>Hid (TX w wx b bt p4 n4 d4 m.funcs #[.slice q1 n1 c1,.slice q2 n2 c2,.slice q3 n3 c3,.slice q4 n4 c4]))
      case first =>
        cases B with
        | false =>
          go_wp2
          go_meet
          exact Lib.hid (tx_mk HS.out HX.out H2.out HL2.out HX5.out)
        | true =>
          obtain ⟨y1,y2,y3⟩:=HG.out rfl
          obtain ⟨dd1,dd2,dd3⟩:=HDD.out
          obtain ⟨lw1,lw2,lw3⟩:=HLW.out
          obtain ⟨iL,hiL,hzL,hsL,hbL⟩:=infoL
          obtain ⟨iA,hiA,hzA,hsA,hbA⟩:=infoA
          obtain ⟨ne1,ne2⟩:=HNE.out
          have HNE1:=Lib.hid ne1
          have HNE2:=Lib.hid ne2
          have hbb:=HBB.out
          clear ne1 ne2
          have a0:W5.cell? ⟨bt,0,none⟩=some (.slice (some ⟨gg,og,none⟩) n1 d1):=HS.out.box.cell rfl
          have hnew:=row_new W5 [.int .u64 lb] 42
          have hS1:=HS.out.le (bl_al (Below.refl W5.heap.size W5) (.cells #[.int .u64 lb] 42))
          have hsm:=HS.out.same (bl_al (Below.refl W5.heap.size W5) (.cells #[.int .u64 lb] 42))
          have hM:=MkU.same HMG.out hsm
          have hsp:∀ j,j<[Value.int .u64 lb].length→((W5.alloc (.cells #[.int .u64 lb] 42)).cell? ⟨gg,og+n1 * 1+j,none⟩).isSome=true∧(W5.alloc (.cells #[.int .u64 lb] 42)).frozen? ⟨gg,og+n1 * 1+j,none⟩=false:=fun j hj=>by
            obtain rfl:j=0:=by simpa using hj
            obtain ⟨_,⟨x,hx⟩,hf⟩:=hM
            rw [Nat.mul_one,Nat.add_zero,hx]
            exact ⟨rfl,hf⟩
          have hone:∀ u ∈ [Value.int .u64 lb],u.oneCell'=true:=by intro u hu;simp at hu;subst hu;rfl
          go_upto_region 8 with (at_builtin;refine wpList_roomV _ rfl _ _ 22 rfl 42 iL 1 und_L hiL hsL gg og n1 d1 rfl ⟨W5.heap.size,0,none⟩ 1 1 [.int .u64 lb] rfl rfl hnew hone dd1 hsp ?_)
          intro V7 hV
          have hV':V7=(W5.alloc (.cells #[.int .u64 lb] 42)).setCell ⟨gg,og+n1,none⟩ (.int .u64 lb):=by rw [hV.out];rfl
          clear hV
          have hS2:=hS1.lab hM (by omega:w.heap.size≤gg) lb HNE1.out HNE2.out
          rw [← hV'] at hS2
          have hMA:=(MkA.same HMA.out hsm).keep hM lb
          have hMH:=(MkU.same HMH.out hsm).keep hM lb
          rw [← hV'] at hMA hMH
          have hX7:InB V7 b #[.slice q1 n1 c1,.slice q2 n2 c2,.slice q3 n3 c3,.slice q4 n4 c4] 26:=by rw [hV'];exact heap_other (HX5.out.le (bl_al (Below.refl _ _) _)) (by omega)
          have a0:V7.cell? ⟨bt,0,none⟩=some (.slice (some ⟨gg,og,none⟩) n1 d1):=hS2.box.cell rfl
          have z0:V7.frozen? ⟨bt,0,none⟩=false:=free_of hS2.box
          have HS7:=Lib.hid (hS2.put 0 (.slice (some ⟨gg,og,none⟩) (n1+1) d1) rfl rfl)
          have HMA7:=Lib.hid (hMA.same (TS.sameSet (W:=V7) 0 (.slice (some ⟨gg,og,none⟩) (n1+1) d1)))
          have HMH7:=Lib.hid (hMH.same (TS.sameSet (W:=V7) 0 (.slice (some ⟨gg,og,none⟩) (n1+1) d1)))
          have HX7:=Lib.hid (show InB (V7.setCell ⟨bt,0,none⟩ (.slice (some ⟨gg,og,none⟩) (n1+1) d1)) b #[.slice q1 n1 c1,.slice q2 n2 c2,.slice q3 n3 c3,.slice q4 n4 c4] 26 from heap_other hX7 (by have:=HBT.out;omega:b ≠ bt))
          clear hV' hS1 hsm hM hS2 hMA hMH hX7 hsp hone hnew
          go_upto_region 8 with (fail)
          obtain ⟨W8,hW8⟩:∃ W8,V7.setCell ⟨bt,0,none⟩ (.slice (some ⟨gg,og,none⟩) (n1+1) d1)=W8:=⟨_,rfl⟩
          rw [hW8] at HS7 HMA7 HMH7 HX7
          try rw [hW8]
          clear hW8 a0 z0
          have a0:W8.cell? ⟨bt,1,none⟩=some (.slice (some ⟨ga,oa,none⟩) n2 d2):=HS7.out.box.cell rfl
          have hnew:=row_new W8 [.int .i64 1,.int .u64 lb] 49
          have hS1:=HS7.out.le (bl_al (Below.refl W8.heap.size W8) (.cells #[.int .i64 1,.int .u64 lb] 49))
          have hsm:=HS7.out.same (bl_al (Below.refl W8.heap.size W8) (.cells #[.int .i64 1,.int .u64 lb] 49))
          have hM:=MkA.same HMA7.out hsm
          have hsp:∀ j,j<[Value.int .i64 1,Value.int .u64 lb].length→((W8.alloc (.cells #[.int .i64 1,.int .u64 lb] 49)).cell? ⟨ga,oa+n2 * 2+j,none⟩).isSome=true∧(W8.alloc (.cells #[.int .i64 1,.int .u64 lb] 49)).frozen? ⟨ga,oa+n2 * 2+j,none⟩=false:=fun j hj=>by
            obtain ⟨_,hx0,⟨x,hx⟩,hf0,hf1⟩:=hM
            have hj2:j<2:=hj
            match j,hj2 with
            | 0,_=>rw [Nat.add_zero,hx0];exact ⟨rfl,hf0⟩
            | 1,_=>rw [hx];exact ⟨rfl,hf1⟩
          have hone:∀ u ∈ [Value.int .i64 1,Value.int .u64 lb],u.oneCell'=true:=by intro u hu;simp at hu;rcases hu with rfl | rfl <;> rfl
          go_upto_region 9 with (at_builtin;refine wpList_roomV _ rfl _ _ 23 rfl 49 iA 2 und_A hiA hsA ga oa n2 d2 rfl ⟨W8.heap.size,0,none⟩ 1 1 [.int .i64 1,.int .u64 lb] rfl rfl hnew hone dd2 hsp ?_)
          intro V8 hV
          have hV':V8=((W8.alloc (.cells #[.int .i64 1,.int .u64 lb] 49)).setCell ⟨ga,oa+n2 * 2,none⟩ (.int .i64 1)).setCell ⟨ga,oa+n2 * 2+1,none⟩ (.int .u64 lb):=by rw [hV.out];rfl
          clear hV
          have hS2:=hS1.arr H2.out hM (by omega:w.heap.size≤ga) lb HNE1.out HNE2.out
          rw [← hV'] at hS2
          have hMH:=(MkU.same HMH7.out hsm).keepA hM lb
          rw [← hV'] at hMH
          have hX7:InB V8 b #[.slice q1 n1 c1,.slice q2 n2 c2,.slice q3 n3 c3,.slice q4 n4 c4] 26:=by rw [hV'];exact heap_other (heap_other (HX7.out.le (bl_al (Below.refl _ _) _)) (by omega)) (by omega)
          have a0:V8.cell? ⟨bt,1,none⟩=some (.slice (some ⟨ga,oa,none⟩) n2 d2):=hS2.box.cell rfl
          have z0:V8.frozen? ⟨bt,1,none⟩=false:=free_of hS2.box
          have HS8:=Lib.hid (hS2.put 1 (.slice (some ⟨ga,oa,none⟩) (n2+1) d2) rfl rfl)
          have HMH8:=Lib.hid (hMH.same (TS.sameSet (W:=V8) 1 (.slice (some ⟨ga,oa,none⟩) (n2+1) d2)))
          have HX8:=Lib.hid (show InB (V8.setCell ⟨bt,1,none⟩ (.slice (some ⟨ga,oa,none⟩) (n2+1) d2)) b #[.slice q1 n1 c1,.slice q2 n2 c2,.slice q3 n3 c3,.slice q4 n4 c4] 26 from heap_other hX7 (by have:=HBT.out;omega:b ≠ bt))
          clear hV' hS1 hsm hM hS2 hMH hX7 hsp hone hnew
          go_upto_region 9 with (fail)
          obtain ⟨W9,hW9⟩:∃ W9,V8.setCell ⟨bt,1,none⟩ (.slice (some ⟨ga,oa,none⟩) (n2+1) d2)=W9:=⟨_,rfl⟩
          rw [hW9] at HS8 HMH8 HX8
          try rw [hW9]
          clear hW9 a0 z0 HS7 HMA7 HMH7 HX7
          have HNE3:=Lib.hid (show ∀ x ∈ m.arrays++[((1:Int),lb)],x.1 ≠ -71 from fun x hx=>by
            rcases List.mem_append.1 hx with h | h
            · exact HNE1.out x h
            · simp at h;subst h;show (1:Int) ≠ -71;decide)
          have a0:W9.cell? ⟨bt,2,none⟩=some (.slice (some ⟨gh,oh,none⟩) n3 d3):=HS8.out.box.cell rfl
          have hnew:=row_new W9 [.int .u64 lb] 42
          have hS1:=HS8.out.le (bl_al (Below.refl W9.heap.size W9) (.cells #[.int .u64 lb] 42))
          have hsm:=HS8.out.same (bl_al (Below.refl W9.heap.size W9) (.cells #[.int .u64 lb] 42))
          have hM:=MkU.same HMH8.out hsm
          have hsp:∀ j,j<[Value.int .u64 lb].length→((W9.alloc (.cells #[.int .u64 lb] 42)).cell? ⟨gh,oh+n3 * 1+j,none⟩).isSome=true∧(W9.alloc (.cells #[.int .u64 lb] 42)).frozen? ⟨gh,oh+n3 * 1+j,none⟩=false:=fun j hj=>by
            obtain rfl:j=0:=by simpa using hj
            obtain ⟨_,⟨x,hx⟩,hf⟩:=hM
            rw [Nat.mul_one,Nat.add_zero,hx]
            exact ⟨rfl,hf⟩
          have hone:∀ u ∈ [Value.int .u64 lb],u.oneCell'=true:=by intro u hu;simp at hu;subst hu;rfl
          go_upto_region 10 with (at_builtin;refine wpList_roomV _ rfl _ _ 22 rfl 42 iL 1 und_L hiL hsL gh oh n3 d3 rfl ⟨W9.heap.size,0,none⟩ 1 1 [.int .u64 lb] rfl rfl hnew hone dd3 hsp ?_)
          intro V9 hV
          have hV':V9=(W9.alloc (.cells #[.int .u64 lb] 42)).setCell ⟨gh,oh+n3,none⟩ (.int .u64 lb):=by rw [hV.out];rfl
          clear hV
          have hS2:=hS1.lab hM (by omega:w.heap.size≤gh) lb HNE3.out HNE2.out
          rw [← hV'] at hS2
          have hX7:InB V9 b #[.slice q1 n1 c1,.slice q2 n2 c2,.slice q3 n3 c3,.slice q4 n4 c4] 26:=by rw [hV'];exact heap_other (HX8.out.le (bl_al (Below.refl _ _) _)) (by omega)
          have a0:V9.cell? ⟨bt,2,none⟩=some (.slice (some ⟨gh,oh,none⟩) n3 d3):=hS2.box.cell rfl
          have z0:V9.frozen? ⟨bt,2,none⟩=false:=free_of hS2.box
          have HS9:=Lib.hid (hS2.put 2 (.slice (some ⟨gh,oh,none⟩) (n3+1) d3) rfl rfl)
          have HX9:=Lib.hid (show InB (V9.setCell ⟨bt,2,none⟩ (.slice (some ⟨gh,oh,none⟩) (n3+1) d3)) b #[.slice q1 n1 c1,.slice q2 n2 c2,.slice q3 n3 c3,.slice q4 n4 c4] 26 from heap_other hX7 (by have:=HBT.out;omega:b ≠ bt))
          clear hV' hS1 hsm hM hS2 hX7 hsp hone hnew
          go_upto_region 10 with (fail)
          obtain ⟨WA,hWA⟩:∃ WA,V9.setCell ⟨bt,2,none⟩ (.slice (some ⟨gh,oh,none⟩) (n3+1) d3)=WA:=⟨_,rfl⟩
          rw [hWA] at HS9 HX9
          try rw [hWA]
          clear hWA a0 z0 HS8 HMH8 HX8
          have a0:WA.cell? ⟨bt,0,none⟩=some (.slice (some ⟨gg,og,none⟩) (n1+1) d1):=HS9.out.box.cell rfl
          have a1:WA.cell? ⟨bt,1,none⟩=some (.slice (some ⟨ga,oa,none⟩) (n2+1) d2):=HS9.out.box.cell rfl
          have a2:WA.cell? ⟨bt,2,none⟩=some (.slice (some ⟨gh,oh,none⟩) (n3+1) d3):=HS9.out.box.cell rfl
          have a3:WA.cell? ⟨bt,3,none⟩=some (.slice p4 n4 d4):=HS9.out.box.cell rfl
          have HCZ:=Lib.hid (show chkE (n1+1) (n2+1) (n3+1) (m.arrays++[((1:Int),lb)]) m.funcs=(0,0,0) from by
            have h:=more_rows (ng:=n1) (nh:=n3) (arrs:=m.arrays) (fs:=m.funcs) lb (by rw [H2.out];exact HX.out) y1 (by rw [H2.out];exact y2) y3
            rw [H2.out] at h
            exact h)
          have HLN:=Lib.hid (show (m.arrays++[((1:Int),lb)]).length=n2+1 by rw [List.length_append,H2.out];rfl)
          have HCC:=Lib.hid (show Calls Try.prog 8 #[moV (some ⟨gg,og,none⟩) (n1+1) d1 (some ⟨ga,oa,none⟩) (n2+1) d2 (some ⟨gh,oh,none⟩) (n3+1) d3 p4 n4 d4] WA fun e w'=>e=.returned (.agg #[.int .i64 0,.int .i64 0,.int .i64 0])∧Below WA.heap.size WA w' from by
            have h:=Check_s (some ⟨gg,og,none⟩) (n1+1) d1 (some ⟨ga,oa,none⟩) (n2+1) d2 (some ⟨gh,oh,none⟩) (n3+1) d3 p4 n4 d4 H4.out HLN.out (by omega) HL4.out (HS9.out.fn.le (rC_le _ _)) (HS9.out.ar.le (rC_le _ _))
            rw [HCZ.out] at h
            exact h)
          go_wp2_with fail
          refine HCC.out.mono ?_
          rintro e WB ⟨rfl,hb⟩
          have HSB:=Lib.hid (HS9.out.le hb)
          have HXB:=Lib.hid (HX9.out.le hb)
          clear hb a0 a1 a2 a3
          go_wp2_with fail
          go_meet
          exact Lib.hid (tx_mk HSB.out HCZ.out HLN.out (by omega) HXB.out)
      case rest =>
        obtain ⟨P1,N1,D1,P2,N2,D2,P3,N3,D3,arrs,hT,hZ,hL,hN,hXb⟩:=hcut.out
        generalize wc=wL at *
        have HT:=Lib.hid hT
        have HZ:=Lib.hid hZ
        have HL:=Lib.hid hL
        have HN:=Lib.hid hN
        have HXb:=Lib.hid hXb
        clear hT hZ hL hN hXb hcut HS HMG HMA HMH HX5 HDD
        have k3:wL.cell? ⟨b,3,none⟩=some (.slice q4 n4 c4):=HXb.out.cell rfl
        by_cases f0:f<0
        · go_wp2_with fail
          go_ret
          exact ⟨rfl,by first | exact HT.out.bl | (rw [← HBB.out];exact HT.out.bl)⟩
        by_cases f1:f ≥ (n4:Int)
        · go_wp2_with fail
          go_ret
          exact ⟨rfl,by first | exact HT.out.bl | (rw [← HBB.out];exact HT.out.bl)⟩
        obtain ⟨k,rfl⟩:∃ k:Nat,f=(k:Int):=⟨f.toNat,by omega⟩
        have hk1:k<m.funcs.length:=by rw [H4.out];omega
        have HK1:=Lib.hid hk1
        obtain ⟨g,o,qp,cp,qr,cr,qc,cc,rfl,hK,hcd,-,-,hmc⟩:=fn_at (HFN.out _ HT.out.bl) hk1
        obtain ⟨code,hcode⟩:∃ code,(m.funcs[k]'hk1).code=code:=⟨_,rfl⟩
        have hOK:∀ a (ha:a<code.length),insI n1 n2 n3 m.funcs k code[a].1 code[a].2=0:=by
          subst hcode
          exact fun a ha=>(((chk_ok.1 HX.out).2 k hk1).2 a ha).1
        have hJ:∀ a (ha:a<code.length),code[a].1=43 ∨ code[a].1=44→0≤code[a].2∧code[a].2<code.length:=by
          have h:=fun a ha=>ins_jump hk1 (hOK a ha)
          rw [hcode] at h
          exact h
        rw [hcode] at hK hcd hmc
        obtain ⟨nc,hnc⟩:∃ nc,code.length=nc:=⟨_,rfl⟩
        have HCODE:=Lib.hid hcode
        have HNC:=Lib.hid hnc
        rw [hnc] at hK hcd hmc
        have HJ:=Lib.hid (show ∀ a (ha:a<code.length),code[a].1=43 ∨ code[a].1=44→0≤code[a].2∧code[a].2<(nc:Int) from fun a ha ho=>by have:=hJ a ha ho;omega)
        have HMC:=Lib.hid hmc
        have HCD:=Lib.hid (fun W (hb:Below wL.heap.size wL W)=>show InAt (wC W) qc code from (hcd.le (below_cle hb)).cells)
        have HK5:=Lib.hid hK.a5
        clear hJ hmc hcd hOK hnc hcode hK
        have a5:wL.cell? ⟨g,o+k * 6+5,none⟩=some (.slice qc nc cc):=HK5.out
        have hki:(k:Int)<(n4:Int):=by omega
        by_cases f2:(nc:Int) ≥ 2048
        · go_wp2_with fail
          go_ret
          exact ⟨rfl,by first | exact HT.out.bl | (rw [← HBB.out];exact HT.out.bl)⟩
        have HN2:=Lib.hid (show nc<2048 by omega)
        go_wp2_with fail
        clear a5 k3 f0 f1 f2
        have HOWN:=Lib.hid (World.ownsRow_lit (base:=wL.heap.size) (e:=35) (size:=2) wL #[.int .i64 42,.int .i64 0] 1 (Nat.le_refl _) (by unfold maxLen;omega) rfl)
        have HBW:=Lib.hid (bl_al (Below.refl wL.heap.size wL) (.cells #[.int .i64 42,.int .i64 0] 35))
        go_loopw [8,9] (fun vc i wr=>∃ (a:Nat) (q:Option Addr) (c:Nat),a≤nc∧i=.int .i64 a∧vc=.slice q (a+1) c∧Hid (wr.ownsRow wL.heap.size 35 2 (.slice q (a+1) c) (a+1) (codC ((42,0) :: (code.map bump).take a)))∧Hid (Below wL.heap.size wL wr)) (fun _ i _=>nc - (intOf i).toNat)
        case atStart=>exact ⟨0,_,_,Nat.zero_le _,rfl,rfl,HOWN,HBW⟩
        case round =>
          obtain ⟨a,q,c,ha,rfl,rfl,HO,HB⟩:=hrel
          have k3:wr.cell? ⟨b,3,none⟩=some (.slice (some ⟨g,o,none⟩) n4 c4):=(HXb.out.le HB.out).cell rfl
          have a5:wr.cell? ⟨g,o+k * 6+5,none⟩=some (.slice qc nc cc):=cell_b HK5.out HB.out
          by_cases hlt:a<nc
          · have ha1:a<code.length:=by rw [HNC.out];exact hlt
            obtain ⟨g2,o2,rfl,x0,x1⟩:=HCD.out wr HB.out a ha1
            have c0:wr.cell? ⟨g2,o2+a * 2,none⟩=some (.int .i64 code[a].1):=x0
            have c1:wr.cell? ⟨g2,o2+a * 2+1,none⟩=some (.int .i64 code[a].2):=x1
            have HCS1:=Lib.hid (codC_step code a ha1)
            have HJA:=Lib.hid (HJ.out a ha1)
            have HBU:=Lib.hid (show (bump code[a]).2=if code[a].1=43 ∨ code[a].1=44 then code[a].2+1 else code[a].2 from by unfold bump;split <;> rfl)
            clear x0 x1
            rw [HBU.out] at HCS1
            generalize code[a].1=op at *
            generalize code[a].2=av at *
            clear ha1 HBU
            by_cases e1:op=43
            · have HCS0:=HCS1
              rw [if_pos (Or.inl e1)] at HCS0
              clear HCS1
              subst e1
              obtain ⟨j1,j2⟩:=HJA.out (by simp)
              have HCS:=Lib.hid (show codC ((42,0) :: (code.map bump).take (a+1))=codC ((42,0) :: (code.map bump).take a)++[.int .i64 43,.int .i64 (av+1)] from HCS0.out)
              have hai:(a:Int)<(nc:Int):=by omega
              go_upto_region 19 with (fail)
              obtain ⟨bx,hbx⟩:∃ bx,wr.heap.size=bx:=⟨_,rfl⟩
              have HI5:=Lib.hid (show InB (wr.alloc (.cells #[.int .i64 43,.int .i64 av] 35)) bx #[.int .i64 43,.int .i64 av] 35 from InB.new' _ _ hbx)
              have HB5:=Lib.hid (HB.out.trans ((Below.refl wr.heap.size wr).alloc (Nat.le_refl _) (.cells #[.int .i64 43,.int .i64 av] 35) |>.mono HB.out.size))
              have HO5:=Lib.hid (HO.out.alloc (.cells #[.int .i64 43,.int .i64 av] 35))
              have HLT:=Lib.hid (fun k hk=>hbx ▸ (HO.out.lt k hk).2)
              have HBX:=Lib.hid (show wL.heap.size≤bx from hbx ▸ HB.out.size)
              generalize wr.alloc (.cells #[.int .i64 43,.int .i64 av] 35)=W5 at *
              try rw [hbx]
              clear hbx c0 c1 a5 k3
              have i0:W5.cell? ⟨bx,0,none⟩=some (.int .i64 43):=HI5.out.cell rfl
              have i1:W5.cell? ⟨bx,1,none⟩=some (.int .i64 av):=HI5.out.cell rfl
              have z1:W5.frozen? ⟨bx,1,none⟩=false:=free_of HI5.out
              have hn2:=HN2.out
              go_upto_region 21 with (fail)
              obtain ⟨W6,hW6⟩:∃ W6,W5.setCell ⟨bx,1,none⟩ (.int .i64 (av+1))=W6:=⟨_,rfl⟩
              have HI6:=Lib.hid (show InB W6 bx #[.int .i64 43,.int .i64 (av+1)] 35 by rw [← hW6];exact heap_set HI5.out 1 _)
              have HB6:=Lib.hid (show Below wL.heap.size wL W6 by rw [← hW6];exact HB5.out.setCell HBX.out _)
              have HO6:=Lib.hid (show W6.ownsRow wL.heap.size 35 2 (.slice q (a+1) c) (a+1) (codC ((42,0) :: (code.map bump).take a)) by rw [← hW6];exact own_set HO5.out (fun k hk=>by have:=HLT.out k hk;omega))
              try rw [hW6]
              clear hW6 i0 i1 z1 hn2 j1 j2
              have i0:W6.cell? ⟨bx,0,none⟩=some (.int .i64 43):=HI6.out.cell rfl
              have i1:W6.cell? ⟨bx,1,none⟩=some (.int .i64 (av+1)):=HI6.out.cell rfl
              have hR:=HO6.out.alloc (.cells #[.int .i64 43,.int .i64 (av+1)] 35)
              have hr:RowIn (W6.alloc (.cells #[.int .i64 43,.int .i64 (av+1)] 35)) (some ⟨W6.heap.size,0,none⟩) 1 1 2 [.int .i64 43,.int .i64 (av+1)]:=⟨rfl,by intro u hu;simp at hu;(rcases hu with rfl | rfl <;> rfl),.inr ⟨_,rfl,row_new W6 [.int .i64 43,.int .i64 (av+1)] 35⟩⟩
              have hsz:=HB6.out.size
              have hn2:=HN2.out
              go_wp2_with (at_builtin;refine wpList_app rfl _ _ 43 rfl wL.heap.size 35 (.agg #[.int .i64 0,.int .i64 0]) 2 16 und_I infoI rfl (by decide) _ (a+1) _ rfl hR _ 1 1 _ rfl hr (by unfold maxLen;omega) (by omega) (by simp;omega) ?_)
              intro v' w' hR' hg
              have HB7:=Lib.hid (HB6.out.trans (((Below.refl W6.heap.size W6).alloc (Nat.le_refl _) _ |>.mono hsz).trans (below_own hg (by simp;omega) (fun j hj=>(hR.lt j hj).1))))
              rw [← HCS.out] at hR'
              obtain ⟨q',c',rfl⟩:=own_shape hR'
              have HO7:=Lib.hid hR'
              clear i0 i1 hR hr hg hR'
              have hmm:=HMC.out
              go_wp2_with fail
              exact ⟨⟨a+1,q',c',by omega,by go_num,rfl,HO7,HB7⟩,by simp [intOf];omega⟩
            · by_cases e2:op=44
              · have HCS0:=HCS1
                rw [if_pos (Or.inr e2)] at HCS0
                clear HCS1 e1
                subst e2
                obtain ⟨j1,j2⟩:=HJA.out (by simp)
                have HCS:=Lib.hid (show codC ((42,0) :: (code.map bump).take (a+1))=codC ((42,0) :: (code.map bump).take a)++[.int .i64 44,.int .i64 (av+1)] from HCS0.out)
                have hai:(a:Int)<(nc:Int):=by omega
                go_upto_region 19 with (fail)
                obtain ⟨bx,hbx⟩:∃ bx,wr.heap.size=bx:=⟨_,rfl⟩
                have HI5:=Lib.hid (show InB (wr.alloc (.cells #[.int .i64 44,.int .i64 av] 35)) bx #[.int .i64 44,.int .i64 av] 35 from InB.new' _ _ hbx)
                have HB5:=Lib.hid (HB.out.trans ((Below.refl wr.heap.size wr).alloc (Nat.le_refl _) (.cells #[.int .i64 44,.int .i64 av] 35) |>.mono HB.out.size))
                have HO5:=Lib.hid (HO.out.alloc (.cells #[.int .i64 44,.int .i64 av] 35))
                have HLT:=Lib.hid (fun k hk=>hbx ▸ (HO.out.lt k hk).2)
                have HBX:=Lib.hid (show wL.heap.size≤bx from hbx ▸ HB.out.size)
                generalize wr.alloc (.cells #[.int .i64 44,.int .i64 av] 35)=W5 at *
                try rw [hbx]
                clear hbx c0 c1 a5 k3
                have i0:W5.cell? ⟨bx,0,none⟩=some (.int .i64 44):=HI5.out.cell rfl
                have i1:W5.cell? ⟨bx,1,none⟩=some (.int .i64 av):=HI5.out.cell rfl
                have z1:W5.frozen? ⟨bx,1,none⟩=false:=free_of HI5.out
                have hn2:=HN2.out
                go_upto_region 21 with (fail)
                obtain ⟨W6,hW6⟩:∃ W6,W5.setCell ⟨bx,1,none⟩ (.int .i64 (av+1))=W6:=⟨_,rfl⟩
                have HI6:=Lib.hid (show InB W6 bx #[.int .i64 44,.int .i64 (av+1)] 35 by rw [← hW6];exact heap_set HI5.out 1 _)
                have HB6:=Lib.hid (show Below wL.heap.size wL W6 by rw [← hW6];exact HB5.out.setCell HBX.out _)
                have HO6:=Lib.hid (show W6.ownsRow wL.heap.size 35 2 (.slice q (a+1) c) (a+1) (codC ((42,0) :: (code.map bump).take a)) by rw [← hW6];exact own_set HO5.out (fun k hk=>by have:=HLT.out k hk;omega))
                try rw [hW6]
                clear hW6 i0 i1 z1 hn2 j1 j2
                have i0:W6.cell? ⟨bx,0,none⟩=some (.int .i64 44):=HI6.out.cell rfl
                have i1:W6.cell? ⟨bx,1,none⟩=some (.int .i64 (av+1)):=HI6.out.cell rfl
                have hR:=HO6.out.alloc (.cells #[.int .i64 44,.int .i64 (av+1)] 35)
                have hr:RowIn (W6.alloc (.cells #[.int .i64 44,.int .i64 (av+1)] 35)) (some ⟨W6.heap.size,0,none⟩) 1 1 2 [.int .i64 44,.int .i64 (av+1)]:=⟨rfl,by intro u hu;simp at hu;(rcases hu with rfl | rfl <;> rfl),.inr ⟨_,rfl,row_new W6 [.int .i64 44,.int .i64 (av+1)] 35⟩⟩
                have hsz:=HB6.out.size
                have hn2:=HN2.out
                go_wp2_with (at_builtin;refine wpList_app rfl _ _ 43 rfl wL.heap.size 35 (.agg #[.int .i64 0,.int .i64 0]) 2 16 und_I infoI rfl (by decide) _ (a+1) _ rfl hR _ 1 1 _ rfl hr (by unfold maxLen;omega) (by omega) (by simp;omega) ?_)
                intro v' w' hR' hg
                have HB7:=Lib.hid (HB6.out.trans (((Below.refl W6.heap.size W6).alloc (Nat.le_refl _) _ |>.mono hsz).trans (below_own hg (by simp;omega) (fun j hj=>(hR.lt j hj).1))))
                rw [← HCS.out] at hR'
                obtain ⟨q',c',rfl⟩:=own_shape hR'
                have HO7:=Lib.hid hR'
                clear i0 i1 hR hr hg hR'
                have hmm:=HMC.out
                go_wp2_with fail
                exact ⟨⟨a+1,q',c',by omega,by go_num,rfl,HO7,HB7⟩,by simp [intOf];omega⟩
              · have HCS:=HCS1
                rw [if_neg (by omega)] at HCS
                have b1:(op == 43)=false:=eqb e1
                have b2:(op == 44)=false:=eqb e2
                clear HCS1 e1 e2
                have hai:(a:Int)<(nc:Int):=by omega
                go_upto_region 19 with (fail)
                obtain ⟨bx,hbx⟩:∃ bx,wr.heap.size=bx:=⟨_,rfl⟩
                have HI5:=Lib.hid (show InB (wr.alloc (.cells #[.int .i64 op,.int .i64 av] 35)) bx #[.int .i64 op,.int .i64 av] 35 from InB.new' _ _ hbx)
                have HB5:=Lib.hid (HB.out.trans ((Below.refl wr.heap.size wr).alloc (Nat.le_refl _) (.cells #[.int .i64 op,.int .i64 av] 35) |>.mono HB.out.size))
                have HO5:=Lib.hid (HO.out.alloc (.cells #[.int .i64 op,.int .i64 av] 35))
                have HLT:=Lib.hid (fun k hk=>hbx ▸ (HO.out.lt k hk).2)
                have HBX:=Lib.hid (show wL.heap.size≤bx from hbx ▸ HB.out.size)
                generalize wr.alloc (.cells #[.int .i64 op,.int .i64 av] 35)=W5 at *
                try rw [hbx]
                clear hbx c0 c1 a5 k3
                have i0:W5.cell? ⟨bx,0,none⟩=some (.int .i64 op):=HI5.out.cell rfl
                have i1:W5.cell? ⟨bx,1,none⟩=some (.int .i64 av):=HI5.out.cell rfl
                have z1:W5.frozen? ⟨bx,1,none⟩=false:=free_of HI5.out
                go_upto_region 21 with (fail)
                have HI6:=HI5
                have HB6:=HB5
                have HO6:=HO5
                generalize W5=W6 at *
                clear i0 i1 z1 b1 b2
                have i0:W6.cell? ⟨bx,0,none⟩=some (.int .i64 op):=HI6.out.cell rfl
                have i1:W6.cell? ⟨bx,1,none⟩=some (.int .i64 (av)):=HI6.out.cell rfl
                have hR:=HO6.out.alloc (.cells #[.int .i64 op,.int .i64 (av)] 35)
                have hr:RowIn (W6.alloc (.cells #[.int .i64 op,.int .i64 (av)] 35)) (some ⟨W6.heap.size,0,none⟩) 1 1 2 [.int .i64 op,.int .i64 (av)]:=⟨rfl,by intro u hu;simp at hu;(rcases hu with rfl | rfl <;> rfl),.inr ⟨_,rfl,row_new W6 [.int .i64 op,.int .i64 (av)] 35⟩⟩
                have hsz:=HB6.out.size
                have hn2:=HN2.out
                go_wp2_with (at_builtin;refine wpList_app rfl _ _ 43 rfl wL.heap.size 35 (.agg #[.int .i64 0,.int .i64 0]) 2 16 und_I infoI rfl (by decide) _ (a+1) _ rfl hR _ 1 1 _ rfl hr (by unfold maxLen;omega) (by omega) (by simp;omega) ?_)
                intro v' w' hR' hg
                have HB7:=Lib.hid (HB6.out.trans (((Below.refl W6.heap.size W6).alloc (Nat.le_refl _) _ |>.mono hsz).trans (below_own hg (by simp;omega) (fun j hj=>(hR.lt j hj).1))))
                rw [← HCS.out] at hR'
                obtain ⟨q',c',rfl⟩:=own_shape hR'
                have HO7:=Lib.hid hR'
                clear i0 i1 hR hr hg hR'
                have hmm:=HMC.out
                go_wp2_with fail
                exact ⟨⟨a+1,q',c',by omega,by go_num,rfl,HO7,HB7⟩,by simp [intOf];omega⟩
          · obtain rfl:a=nc:=by omega
            have hTr:=HT.out.le HB.out
            have HCO:=Lib.hid (show (nopF (m.funcs[k]'hk1)).code=(42,0) :: code.map bump from by show (42,0) :: (m.funcs[k]'hk1).code.map bump=_;rw [HCODE.out])
            have HLE:=Lib.hid (show ((42,0) :: code.map bump).length=a+1 by rw [List.length_cons,List.length_map,HNC.out])
            have HIN:=Lib.hid (show InS (wC wr) q ((42,0) :: code.map bump) from by
              have h:=HO.out
              rw [List.take_of_length_le (by rw [List.length_map,HNC.out];exact Nat.le_refl _)] at h
              exact own_ins HLE.out (by omega) h)
            obtain ⟨gf,of,rfl,lf,lw,fz⟩:=hTr.fz k hk1
            obtain ⟨g',o',lv,qp',cp',qr',cr',qc',cc',e,_,_,_,_,_,x5,_⟩:=hTr.fn k hk1
            injection e with e
            injection e with e6 e7
            subst e6 e7
            obtain ⟨_,x5⟩:=rC_of x5
            have HX5:=Lib.hid x5
            have b3:wr.cell? ⟨bt,3,none⟩=some (.slice (some ⟨gf,of,none⟩) n4 d4):=hTr.box.cell rfl
            have HTr:=Lib.hid hTr
            have HLF:=Lib.hid (And.intro lf lw)
            clear hTr
            go_upto_region 23 with (fail)
            obtain ⟨U,hU⟩:∃ U,wr.setCell ⟨gf,of+k * 6+5,none⟩ (.slice q (a+1) c)=U:=⟨_,rfl⟩
            have HUF:=Lib.hid (show FnS (wC U) (some ⟨gf,of,none⟩) (m.funcs.set k (nopF (m.funcs[k]'hk1))) from by
              rw [← hU]
              exact fn_store HTr.out.fn hk1 (by rw [HCO.out];exact HLE.out) (by have:=HN2.out;omega) (by rw [HCO.out];exact HIN.out))
            have HUA:=Lib.hid (show ArS (wC U) P2 arrs from by rw [← hU];exact arS_store HTr.out.ar HX5.out)
            have HUB:=Lib.hid (show InB U bt #[.slice P1 N1 D1,.slice P2 N2 D2,.slice P3 N3 D3,.slice (some ⟨gf,of,none⟩) n4 d4] 26 from by rw [← hU];exact heap_other HTr.out.box (by have:=HLF.out.1;omega))
            have HUL:=Lib.hid (show Below w.heap.size w U from by rw [← hU];exact HTr.out.bl.setCell HLF.out.2 _)
            try rw [hU]
            clear hU b3 x5 fz k3 a5
            have b0:U.cell? ⟨bt,0,none⟩=some (.slice P1 N1 D1):=HUB.out.cell rfl
            have b1:U.cell? ⟨bt,1,none⟩=some (.slice P2 N2 D2):=HUB.out.cell rfl
            have b2:U.cell? ⟨bt,2,none⟩=some (.slice P3 N3 D3):=HUB.out.cell rfl
            have b3:U.cell? ⟨bt,3,none⟩=some (.slice (some ⟨gf,of,none⟩) n4 d4):=HUB.out.cell rfl
            have HCC:=Lib.hid (show Calls Try.prog 8 #[moV P1 N1 D1 P2 N2 D2 P3 N3 D3 (some ⟨gf,of,none⟩) n4 d4] U fun e w'=>e=.returned (.agg #[.int .i64 0,.int .i64 0,.int .i64 0])∧Below U.heap.size U w' from by
              have h:=Check_s P1 N1 D1 P2 N2 D2 P3 N3 D3 (some ⟨gf,of,none⟩) n4 d4 (by rw [List.length_set];exact H4.out) HL.out HN.out HL4.out HUF.out HUA.out
              rw [more_nop hk1 HZ.out (by rw [HCODE.out,HNC.out];exact HN2.out)] at h
              exact h)
            go_wp2_with fail
            refine HCC.out.mono ?_
            rintro e WB ⟨rfl,hb⟩
            have HBZ:=Lib.hid (bl_tr HUL.out hb)
            clear hb b0 b1 b2 b3
            go_wp2_with fail
            go_ret
            exact ⟨rfl,by first | exact HBZ.out | (rw [← HBB.out];exact HBZ.out)⟩
  by_cases hx:x=0
  · by_cases hy:y=0
    · have e1:(z == 0)=false:=eqb (fun e=>hz ⟨hx,hy,e⟩)
      subst hx hy
      clear hz
      go_wp2_with fail
      refine HC.out.mono ?_
      rintro e w3 ⟨rfl,hb⟩
      have HB3:=Lib.hid (bl_tr HB2.out hb)
      clear hb
      go_wp2_with fail
      go_ret
      exact ⟨rfl,by first | exact HB3.out | (rw [← HBB.out];exact HB3.out)⟩
    · have e1:(y == 0)=false:=eqb hy
      subst hx
      clear hz hy
      go_wp2_with fail
      refine HC.out.mono ?_
      rintro e w3 ⟨rfl,hb⟩
      have HB3:=Lib.hid (bl_tr HB2.out hb)
      clear hb
      go_wp2_with fail
      go_ret
      exact ⟨rfl,by first | exact HB3.out | (rw [← HBB.out];exact HB3.out)⟩
  · have e1:(x == 0)=false:=eqb hx
    clear hz hx
    go_wp2_with fail
    refine HC.out.mono ?_
    rintro e w3 ⟨rfl,hb⟩
    have HB3:=Lib.hid (bl_tr HB2.out hb)
    clear hb
    go_wp2_with fail
    go_ret
    exact ⟨rfl,by first | exact HB3.out | (rw [← HBB.out];exact HB3.out)⟩
end Go.Proofs.Ythjkbfamkogoiaa
