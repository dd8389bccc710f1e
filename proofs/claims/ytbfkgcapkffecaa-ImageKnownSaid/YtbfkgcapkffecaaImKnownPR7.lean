/- Has a module a form? The sum: of parts, of bytes; the eight bytes of it. The eight bytes of the sum; the writer's module; Write. Write, of whatever module. The reader: opened. -/
import Derived.Test.YtbfkgcapkffecaaImKnownPR6
import Derived.Laws.Bits64
import Derived.Lib.SlBytesConst
import Derived.Test.YtbfkgcapkffecaaImKnownPR5
import Derived.Defers
import Derived.Recover
namespace Go.Proofs.Ytbfkgcapkffecaa
open Go Go.RowKit Go.Proofs.Mm Go.Sort
section
variable {lt:Bool} {w:World}
abbrev arOkB (x:Int × Int):Bool:=decide (0≤x.1)
abbrev inOkB (x:Int × Int):Bool:=mayI x.1 x.2
set_option maxRecDepth 100000 in
theorem isOddArray_any (w:World) (x:Int × Int):Calls Try.prog 55 #[.agg #[.int .i64 x.1,.int .u64 x.2]] w fun e w'=>e=.returned (.bool (!(arOkB x)))∧Below w.heap.size w w':=by
  obtain ⟨a,b⟩:=x
  have e1:decide (a<0)=!decide (0≤a):=by
    by_cases h:a<0
    · rw [decide_eq_true h,decide_eq_false (by omega)];rfl
    · rw [decide_eq_false h,decide_eq_true (by omega)];rfl
  go_enter Try.func55,Try.ntmps55
  go_wp2
  go_ret
  exact ⟨by simp [e1],bl_al (Below.refl _ _) _⟩
set_option maxRecDepth 100000 in
theorem isOddInstr_any (w:World) (x:Int × Int):Calls Try.prog 84 #[inV x.1 x.2] w fun e w'=>e=.returned (.bool (!(inOkB x)))∧Below w.heap.size w w':=by
  obtain ⟨a,b⟩:=x
  have HM:=Lib.hid (May_any a b)
  go_enter Try.func84,Try.ntmps84
  go_wp2_with fail
  refine (HM.out _).mono ?_
  rintro e w2 ⟨rfl,hb⟩
  have HB:=Lib.hid (bl_tr (bl_al (Below.refl _ w) _) hb)
  clear hb
  go_wp2
  go_ret
  exact ⟨by simp,HB.out⟩
set_option maxRecDepth 100000 in
set_option maxHeartbeats 2000000 in
theorem idxA_any {q:Option Addr} {c:Nat} (xs:List (Int × Int)) (hA:ArAt (wC w) q xs) (hm:xs.length<9223372036854775808) :
    Calls Try.prog 81 #[.slice q xs.length c,.func (.func 55) #[] #[]] w fun e w'=>∃ z:Int,e=.returned (.int .i64 z)∧decide (0≤z)=!(xs.all arOkB)∧Below w.heap.size w w':=by
  obtain ⟨n,hn⟩:∃ n,xs.length=n:=⟨_,rfl⟩
  have HN:=Lib.hid hn
  have HA:=Lib.hid hA
  rw [hn] at hm ⊢
  clear hA hn
  go_enter Try.func81,Try.ntmps81
  go_wp2_with fail
  go_loopw [8] (fun i wr=>∃ (j:Nat),j≤n∧i=.int .i64 j∧(xs.take j).all arOkB=true∧Below w.heap.size w wr) (fun i _=>n - (intOf i).toNat)
  case atStart=>exact ⟨0,Nat.zero_le _,rfl,by simp,Below.refl _ _⟩
  case round =>
    obtain ⟨j,hj,rfl,hP,hbl⟩:=hrel
    have HP:=Lib.hid hP
    have HB:=Lib.hid hbl
    clear hP
    by_cases hlt:j<n
    · have hj':j<xs.length:=by rw [HN.out];exact hlt
      obtain ⟨g,o,rfl,a1,a2⟩:=HA.out j hj'
      have x1:=cell_b a1 hbl
      have x2:=cell_b a2 hbl
      clear a1 a2
      have HTK:=Lib.hid (show (xs.take (j+1)).all arOkB=((xs.take j).all arOkB && arOkB xs[j]) from by rw [List.take_succ_eq_append_getElem hj',List.all_append];simp)
      have HMM:=Lib.hid (List.getElem_mem hj')
      generalize xs[j]=x at *
      
      have hji:(j:Int)<(n:Int):=by omega
      have HC:=Lib.hid (isOddArray_any wr x)
      clear hbl
      cases hx:arOkB x
      · rw [hx] at HC
        go_wp2_with fail
        refine HC.out.mono ?_
        rintro e w2 ⟨rfl,hb2⟩
        have HB2:=Lib.hid (bl_tr HB.out hb2)
        clear hb2
        go_wp2
        go_ret
        refine ⟨_,rfl,?_,HB2.out⟩
        rw [decide_eq_true (by omega),(show xs.all arOkB=false from by
          rw [Bool.eq_false_iff];intro h;rw [List.all_eq_true] at h;rw [h x HMM.out] at hx;cases hx)]
        rfl
      · rw [hx] at HC
        go_wp2_with fail
        refine HC.out.mono ?_
        rintro e w2 ⟨rfl,hb2⟩
        have HB2:=Lib.hid (bl_tr HB.out hb2)
        clear hb2
        go_wp2
        refine ⟨⟨j+1,by omega,by go_num,?_,HB2.out⟩,by simp [intOf];omega⟩
        rw [HTK.out,HP.out,hx];rfl
    · obtain rfl:j=n:=by omega
      clear hbl
      go_wp2
      go_ret
      refine ⟨_,rfl,?_,HB.out⟩
      have h:=HP.out
      rw [← HN.out,List.take_length] at h
      rw [h];rfl
set_option maxRecDepth 100000 in
theorem hasA_any {q:Option Addr} {c:Nat} (xs:List (Int × Int)) (hA:ArAt (wC w) q xs) (hm:xs.length<9223372036854775808) :
    Calls Try.prog 54 #[.slice q xs.length c,.func (.func 55) #[] #[]] w fun e w'=>e=.returned (.bool (!(xs.all arOkB)))∧Below w.heap.size w w':=by
  have HI:=Lib.hid (idxA_any (c:=c) xs hA hm)
  obtain ⟨n,hn⟩:∃ n,xs.length=n:=⟨_,rfl⟩
  rw [hn] at HI ⊢
  generalize xs.all arOkB=r at *
  clear hA hm hn
  go_enter Try.func54,Try.ntmps54
  go_wp2_with fail
  refine HI.out.mono ?_
  rintro e w2 ⟨z,rfl,hz,hb⟩
  have HB:=Lib.hid hb
  have HZ:=Lib.hid hz
  clear hb hz
  go_wp2
  go_ret
  exact ⟨by simp [HZ.out],HB.out⟩
set_option maxRecDepth 100000 in
set_option maxHeartbeats 2000000 in
theorem idxI_any {q:Option Addr} {c:Nat} (xs:List (Int × Int)) (hA:InAt (wC w) q xs) (hm:xs.length<9223372036854775808) :
    Calls Try.prog 99 #[.slice q xs.length c,.func (.func 84) #[] #[]] w fun e w'=>∃ z:Int,e=.returned (.int .i64 z)∧decide (0≤z)=!(xs.all inOkB)∧Below w.heap.size w w':=by
  obtain ⟨n,hn⟩:∃ n,xs.length=n:=⟨_,rfl⟩
  have HN:=Lib.hid hn
  have HA:=Lib.hid hA
  rw [hn] at hm ⊢
  clear hA hn
  go_enter Try.func99,Try.ntmps99
  go_wp2_with fail
  go_loopw [8] (fun i wr=>∃ (j:Nat),j≤n∧i=.int .i64 j∧(xs.take j).all inOkB=true∧Below w.heap.size w wr) (fun i _=>n - (intOf i).toNat)
  case atStart=>exact ⟨0,Nat.zero_le _,rfl,by simp,Below.refl _ _⟩
  case round =>
    obtain ⟨j,hj,rfl,hP,hbl⟩:=hrel
    have HP:=Lib.hid hP
    have HB:=Lib.hid hbl
    clear hP
    by_cases hlt:j<n
    · have hj':j<xs.length:=by rw [HN.out];exact hlt
      obtain ⟨g,o,rfl,a1,a2⟩:=HA.out j hj'
      have x1:=cell_b a1 hbl
      have x2:=cell_b a2 hbl
      clear a1 a2
      have HTK:=Lib.hid (show (xs.take (j+1)).all inOkB=((xs.take j).all inOkB && inOkB xs[j]) from by rw [List.take_succ_eq_append_getElem hj',List.all_append];simp)
      have HMM:=Lib.hid (List.getElem_mem hj')
      generalize xs[j]=x at *
      
      have hji:(j:Int)<(n:Int):=by omega
      have HC:=Lib.hid (isOddInstr_any wr x)
      clear hbl
      cases hx:inOkB x
      · rw [hx] at HC
        go_wp2_with fail
        refine HC.out.mono ?_
        rintro e w2 ⟨rfl,hb2⟩
        have HB2:=Lib.hid (bl_tr HB.out hb2)
        clear hb2
        go_wp2
        go_ret
        refine ⟨_,rfl,?_,HB2.out⟩
        rw [decide_eq_true (by omega),(show xs.all inOkB=false from by
          rw [Bool.eq_false_iff];intro h;rw [List.all_eq_true] at h;rw [h x HMM.out] at hx;cases hx)]
        rfl
      · rw [hx] at HC
        go_wp2_with fail
        refine HC.out.mono ?_
        rintro e w2 ⟨rfl,hb2⟩
        have HB2:=Lib.hid (bl_tr HB.out hb2)
        clear hb2
        go_wp2
        refine ⟨⟨j+1,by omega,by go_num,?_,HB2.out⟩,by simp [intOf];omega⟩
        rw [HTK.out,HP.out,hx];rfl
    · obtain rfl:j=n:=by omega
      clear hbl
      go_wp2
      go_ret
      refine ⟨_,rfl,?_,HB.out⟩
      have h:=HP.out
      rw [← HN.out,List.take_length] at h
      rw [h];rfl
set_option maxRecDepth 100000 in
theorem hasI_any {q:Option Addr} {c:Nat} (xs:List (Int × Int)) (hA:InAt (wC w) q xs) (hm:xs.length<9223372036854775808) :
    Calls Try.prog 83 #[.slice q xs.length c,.func (.func 84) #[] #[]] w fun e w'=>e=.returned (.bool (!(xs.all inOkB)))∧Below w.heap.size w w':=by
  have HI:=Lib.hid (idxI_any (c:=c) xs hA hm)
  obtain ⟨n,hn⟩:∃ n,xs.length=n:=⟨_,rfl⟩
  rw [hn] at HI ⊢
  generalize xs.all inOkB=r at *
  clear hA hm hn
  go_enter Try.func83,Try.ntmps83
  go_wp2_with fail
  refine HI.out.mono ?_
  rintro e w2 ⟨z,rfl,hz,hb⟩
  have HB:=Lib.hid hb
  have HZ:=Lib.hid hz
  clear hb hz
  go_wp2
  go_ret
  exact ⟨by simp [HZ.out],HB.out⟩
set_option maxRecDepth 100000 in
set_option maxHeartbeats 2000000 in
theorem isOddFunction_any {w:World} {vp vr vc:Value} (f:FnM) (hA:FnR1 lt (wC w) [.int .u64 f.level,vp,vr,.int .i64 f.locals,.int .i64 f.stack,vc] f) :
    Calls Try.prog 57 #[.agg #[.int .u64 f.level,vp,vr,.int .i64 f.locals,.int .i64 f.stack,vc]] w fun e w'=>e=.returned (.bool (!(fnOk f)))∧Below w.heap.size w w':=by
  obtain ⟨vp',vr',vc',e0,z1,z2,z3⟩:=hA
  injection e0 with _ e0;injection e0 with e1 e0;injection e0 with e2 e0;injection e0 with _ e0;injection e0 with _ e0;injection e0 with e3 _
  subst e1 e2 e3
  have hm:=slx_bytes z3
  obtain ⟨qp,cp,rfl⟩:=slx_shape z1
  obtain ⟨qr,cr,rfl⟩:=slx_shape z2
  obtain ⟨qc,cc,rfl⟩:=slx_shape z3
  obtain ⟨np,hnp⟩:∃ n,f.params.length=n:=⟨_,rfl⟩
  obtain ⟨nr,hnr⟩:∃ n,f.results.length=n:=⟨_,rfl⟩
  obtain ⟨nc,hnc⟩:∃ n,f.code.length=n:=⟨_,rfl⟩
  obtain ⟨lv,hlv⟩:∃ n,f.level=n:=⟨_,rfl⟩
  obtain ⟨lo,hlo⟩:∃ n,f.locals=n:=⟨_,rfl⟩
  obtain ⟨stk,hst⟩:∃ n,f.stack=n:=⟨_,rfl⟩
  have hfo:fnOk f=(decide (0≤lo) && (decide (0≤stk) && f.code.all inOkB)):=by unfold fnOk;rw [hlo,hst]
  rw [hfo]
  have HC:=Lib.hid (fun (W:World) (hb:Below w.heap.size w W)=>hasI_any (w:=W) (c:=cc) f.code ((z3.le (below_cle hb)).cells) (by omega))
  rw [hnc] at HC
  rw [hlv,hlo,hst,hnp,hnr,hnc]
  generalize f.code.all inOkB=r at *
  clear z1 z2 z3 hm hfo hlv hlo hst hnp hnr hnc
  by_cases h1:0≤lo
  · by_cases h2:0≤stk
    · have e1:decide (lo<0)=false:=decide_eq_false (by omega)
      have e2:decide (stk<0)=false:=decide_eq_false (by omega)
      have e3:decide (0≤lo)=true:=decide_eq_true h1
      have e4:decide (0≤stk)=true:=decide_eq_true h2
      go_enter Try.func57,Try.ntmps57
      go_wp2_with fail
      refine (HC.out _ (bl_al (Below.refl _ _) _)).mono ?_
      rintro e w2 ⟨rfl,hb⟩
      have HB:=Lib.hid (bl_tr (bl_al (Below.refl _ w) _) hb)
      clear hb
      go_wp2
      go_ret
      exact ⟨by simp [e3,e4],HB.out⟩
    · have e1:decide (lo<0)=false:=decide_eq_false (by omega)
      have e2:decide (stk<0)=true:=decide_eq_true (by omega)
      have e3:decide (0≤lo)=true:=decide_eq_true h1
      have e4:decide (0≤stk)=false:=decide_eq_false h2
      go_enter Try.func57,Try.ntmps57
      go_wp2
      go_ret
      exact ⟨by simp [e3,e4],bl_al (Below.refl _ _) _⟩
  · have e1:decide (lo<0)=true:=decide_eq_true (by omega)
    have e3:decide (0≤lo)=false:=decide_eq_false h1
    go_enter Try.func57,Try.ntmps57
    go_wp2
    go_ret
    exact ⟨by simp [e3],bl_al (Below.refl _ _) _⟩
set_option maxRecDepth 100000 in
set_option maxHeartbeats 2000000 in
theorem idxF_any {q:Option Addr} {c:Nat} (xs:List (FnM)) (hA:FnAt lt (wC w) q xs) (hm:xs.length<9223372036854775808) :
    Calls Try.prog 82 #[.slice q xs.length c,.func (.func 57) #[] #[]] w fun e w'=>∃ z:Int,e=.returned (.int .i64 z)∧decide (0≤z)=!(xs.all fnOk)∧Below w.heap.size w w':=by
  obtain ⟨n,hn⟩:∃ n,xs.length=n:=⟨_,rfl⟩
  have HN:=Lib.hid hn
  have HA:=Lib.hid hA
  rw [hn] at hm ⊢
  clear hA hn
  go_enter Try.func82,Try.ntmps82
  go_wp2_with fail
  go_loopw [8] (fun i wr=>∃ (j:Nat),j≤n∧i=.int .i64 j∧(xs.take j).all fnOk=true∧Below w.heap.size w wr) (fun i _=>n - (intOf i).toNat)
  case atStart=>exact ⟨0,Nat.zero_le _,rfl,by simp,Below.refl _ _⟩
  case round =>
    obtain ⟨j,hj,rfl,hP,hbl⟩:=hrel
    have HP:=Lib.hid hP
    have HB:=Lib.hid hbl
    clear hP
    by_cases hlt:j<n
    · have hj':j<xs.length:=by rw [HN.out];exact hlt
      obtain ⟨g,o,vp,vr,vc,rfl,a0,a1,a2,a3,a4,a5,a6⟩:=HA.out j hj'
      have HFR:=Lib.hid (a0.le (below_cle hbl))
      have x1:=cell_b a1 hbl
      have x2:=cell_b a2 hbl
      have x3:=cell_b a3 hbl
      have x4:=cell_b a4 hbl
      have x5:=cell_b a5 hbl
      have x6:=cell_b a6 hbl
      clear a0 a1 a2 a3 a4 a5 a6
      have HTK:=Lib.hid (show (xs.take (j+1)).all fnOk=((xs.take j).all fnOk && fnOk xs[j]) from by rw [List.take_succ_eq_append_getElem hj',List.all_append];simp)
      have HMM:=Lib.hid (List.getElem_mem hj')
      generalize xs[j]=x at *
      obtain ⟨qp,np,cp,qr,nr,cr,qc,nc,cc,rfl,rfl,rfl⟩:=fn_shapes HFR.out
      have hji:(j:Int)<(n:Int):=by omega
      have HC:=Lib.hid (isOddFunction_any x HFR.out)
      clear hbl
      cases hx:fnOk x
      · rw [hx] at HC
        go_wp2_with fail
        refine HC.out.mono ?_
        rintro e w2 ⟨rfl,hb2⟩
        have HB2:=Lib.hid (bl_tr HB.out hb2)
        clear hb2
        go_wp2
        go_ret
        refine ⟨_,rfl,?_,HB2.out⟩
        rw [decide_eq_true (by omega),(show xs.all fnOk=false from by
          rw [Bool.eq_false_iff];intro h;rw [List.all_eq_true] at h;rw [h x HMM.out] at hx;cases hx)]
        rfl
      · rw [hx] at HC
        go_wp2_with fail
        refine HC.out.mono ?_
        rintro e w2 ⟨rfl,hb2⟩
        have HB2:=Lib.hid (bl_tr HB.out hb2)
        clear hb2
        go_wp2
        refine ⟨⟨j+1,by omega,by go_num,?_,HB2.out⟩,by simp [intOf];omega⟩
        rw [HTK.out,HP.out,hx];rfl
    · obtain rfl:j=n:=by omega
      clear hbl
      go_wp2
      go_ret
      refine ⟨_,rfl,?_,HB.out⟩
      have h:=HP.out
      rw [← HN.out,List.take_length] at h
      rw [h];rfl
set_option maxRecDepth 100000 in
theorem hasF_any {q:Option Addr} {c:Nat} (xs:List (FnM)) (hA:FnAt lt (wC w) q xs) (hm:xs.length<9223372036854775808) :
    Calls Try.prog 56 #[.slice q xs.length c,.func (.func 57) #[] #[]] w fun e w'=>e=.returned (.bool (!(xs.all fnOk)))∧Below w.heap.size w w':=by
  have HI:=Lib.hid (idxF_any (c:=c) xs hA hm)
  obtain ⟨n,hn⟩:∃ n,xs.length=n:=⟨_,rfl⟩
  rw [hn] at HI ⊢
  generalize xs.all fnOk=r at *
  clear hA hm hn
  go_enter Try.func56,Try.ntmps56
  go_wp2_with fail
  refine HI.out.mono ?_
  rintro e w2 ⟨z,rfl,hz,hb⟩
  have HB:=Lib.hid hb
  have HZ:=Lib.hid hz
  clear hb hz
  go_wp2
  go_ret
  exact ⟨by simp [HZ.out],HB.out⟩
set_option maxRecDepth 100000 in
set_option maxHeartbeats 2000000 in
theorem hasForm_any {w:World} {v:Value} {m:MoM} (h:MoR lt (wC w) v m):Calls Try.prog 32 #[v] w fun e w'=>e=.returned (.bool (moOk m))∧Below w.heap.size w w':=by
  obtain ⟨v1,v2,v3,v4,rfl,z1,z2,z3,z4⟩:=h
  have hm2:=slx_bytes z2
  have hm4:=slx_bytes z4
  obtain ⟨q1,c1,rfl⟩:=slx_shape z1
  obtain ⟨q2,c2,rfl⟩:=slx_shape z2
  obtain ⟨q3,c3,rfl⟩:=slx_shape z3
  obtain ⟨q4,c4,rfl⟩:=slx_shape z4
  have HC2:=Lib.hid (fun (W:World) (hb:Below w.heap.size w W)=>hasA_any (w:=W) (c:=c2) m.arrays ((z2.le (below_cle hb)).cells) (by omega))
  have HC4:=Lib.hid (fun (W:World) (hb:Below w.heap.size w W)=>hasF_any (w:=W) (c:=c4) m.funcs ((z4.le (below_cle hb)).cells) (by omega))
  have hmo:moOk m=(m.arrays.all arOkB && m.funcs.all fnOk):=rfl
  rw [hmo]
  obtain ⟨n1,hn1⟩:∃ n,m.globals.length=n:=⟨_,rfl⟩
  obtain ⟨n2,hn2⟩:∃ n,m.arrays.length=n:=⟨_,rfl⟩
  obtain ⟨n3,hn3⟩:∃ n,m.channels.length=n:=⟨_,rfl⟩
  obtain ⟨n4,hn4⟩:∃ n,m.funcs.length=n:=⟨_,rfl⟩
  rw [hn1,hn2,hn3,hn4]
  rw [hn2] at HC2
  rw [hn4] at HC4
  generalize m.arrays.all arOkB=r2 at *
  generalize m.funcs.all fnOk=r4 at *
  clear z1 z2 z3 z4 hm2 hm4 hmo hn1 hn2 hn3 hn4
  have hI:=InB.new w #[.slice q1 n1 c1,.slice q2 n2 c2,.slice q3 n3 c3,.slice q4 n4 c4] 26
  have HI:=Lib.hid hI
  clear hI
  cases r2
  · go_enter Try.func32,Try.ntmps32
    go_wp2_with fail
    refine (HC2.out _ (bl_al (Below.refl _ _) _)).mono ?_
    rintro e w2 ⟨rfl,hb⟩
    have HB:=Lib.hid (bl_tr (bl_al (Below.refl _ w) _) hb)
    clear hb
    go_wp2
    go_ret
    exact ⟨by simp,HB.out⟩
  · go_enter Try.func32,Try.ntmps32
    go_wp2_with fail
    refine (HC2.out _ (bl_al (Below.refl _ _) _)).mono ?_
    rintro e w2 ⟨rfl,hb⟩
    have hI2:=HI.out.le hb
    have x3:=hI2.cell (j:=3) rfl
    have HB:=Lib.hid (bl_tr (bl_al (Below.refl _ w) _) hb)
    clear hb hI2
    go_wp2_with fail
    refine (HC4.out _ HB.out).mono ?_
    rintro e w3 ⟨rfl,hb⟩
    have HB3:=Lib.hid (bl_tr HB.out hb)
    clear hb
    go_wp2
    go_ret
    exact ⟨by simp,HB3.out⟩
end
end Go.Proofs.Ytbfkgcapkffecaa
namespace Go.Proofs.Ytbfkgcapkffecaa
open Go Go.RowKit Go.Proofs.Mm Go.Sort
def sumS (n x:Nat):Nat:=(n ^^^ x) * 1099511628211 % W64
theorem sumF_append (n:Nat):∀ (l m:List Nat),sumF n (l++m)=sumF (sumF n l) m
  | [],_=>rfl
  | x :: l,m=>by rw [List.cons_append,sumF,sumF,sumF_append]
theorem sumF_lt (n:Nat) (h:n<W64):∀ l,sumF n l<W64
  | []=>h
  | x :: l=>by rw [sumF];exact sumF_lt _ (Nat.mod_lt _ (by decide)) l
theorem sumF_succ {n j:Nat} {l:List Nat} (h:j<l.length):sumF n (l.take (j+1))=sumS (sumF n (l.take j)) l[j]:=by
  rw [List.take_succ_eq_append_getElem h,sumF_append];rfl
theorem sum0_lt:sum0<W64:=by decide
theorem sumStep {n x:Nat} (hn:n<W64) (hx:x<256):IntKind.u64.wrap (bits .xor .u64 (n:Int) (x:Int) * 1099511628211)=((sumS n x:Nat):Int):=by
  unfold W64 at hn
  rw [bits_xor_u64_nat n x hn (by omega),wrapU64]
  unfold sumS W64
  omega
def PtsAt (w:World) (qp:Option Addr) (ps:List (List Nat)):Prop:=∀ i (hi:i<ps.length),∃ g o q c,qp=some ⟨g,o,none⟩∧w.cell? ⟨g,o+i,none⟩=some (.slice q ps[i].length c)∧ByIn w.heap.size w q ps[i]∧bytesL ps[i]∧ps[i].length≤maxLen
section
variable {w:World}
theorem byin_at {B:Nat} {q:Option Addr} {l:List Nat} (h:ByIn B w q l) {i:Nat} (hi:i<l.length):∃ b o,q=some ⟨b,o,none⟩∧w.cell? ⟨b,o+i,none⟩=some (.int .u8 (l[i]:Nat)):=by
  obtain ⟨b,o,h1,h2,h3⟩:=h i hi
  refine ⟨b,o,h1,?_⟩
  rw [List.getD_eq_getElem?_getD,List.getElem?_eq_getElem hi] at h3
  exact h3
set_option maxRecDepth 100000 in
set_option maxHeartbeats 2000000 in
theorem Sum_any {qp:Option Addr} {cp:Nat} (ps:List (List Nat)) (hA:PtsAt w qp ps) (hm:ps.length≤maxLen) :
    Calls Try.prog 23 #[.slice qp ps.length cp] w fun e w'=>e=.returned (.int .u64 ((sumF sum0 ps.flatten:Nat):Int))∧w'=w:=by
  obtain ⟨n,hn⟩:∃ n,ps.length=n:=⟨_,rfl⟩
  have HN:=Lib.hid hn
  have HA:=Lib.hid hA
  have hs0:((sum0:Nat):Int)=14695981039346656037:=rfl
  rw [hn] at hm ⊢
  unfold maxLen at hm
  clear hA hn
  go_enter Try.func23,Try.ntmps23
  go_wp2_with fail
  go_loopw [3,10] (fun s i wr=>∃ (j:Nat),j≤n∧i=.int .i64 j∧s=.int .u64 ((sumF sum0 (ps.take j).flatten:Nat):Int)∧wr=w) (fun _ i _=>n - (intOf i).toNat)
  case atStart=>exact ⟨0,Nat.zero_le _,rfl,rfl,rfl⟩
  case round =>
    obtain ⟨j,hj,rfl,rfl,rfl⟩:=hrel
    by_cases hlt:j<n
    · have hj':j<ps.length:=by rw [HN.out];exact hlt
      obtain ⟨g,o,q,c,rfl,a1,a2,a3,a4⟩:=HA.out j hj'
      have HTK:=Lib.hid (show sumF sum0 (ps.take (j+1)).flatten=sumF (sumF sum0 (ps.take j).flatten) ps[j] from by rw [List.take_succ_eq_append_getElem hj',List.flatten_append,sumF_append];simp)
      have HLT:=Lib.hid (sumF_lt sum0 sum0_lt (ps.take j).flatten)
      generalize ps[j]=x at *
      have HB:=Lib.hid a2
      have HX:=Lib.hid a3
      clear a2 a3
      obtain ⟨S,hS⟩:∃ S,sumF sum0 (ps.take j).flatten=S:=⟨_,rfl⟩
      rw [hS] at HTK HLT ⊢
      clear hS
      obtain ⟨m,hm2⟩:∃ m,x.length=m:=⟨_,rfl⟩
      have HM:=Lib.hid hm2
      rw [hm2] at a1 a4
      unfold maxLen at a4
      clear hm2
      have hji:(j:Int)<(n:Int):=by omega
      go_wp2_with fail
      go_loopw [3,16] (fun s i wi=>∃ (k:Nat),k≤m∧i=.int .i64 k∧s=.int .u64 ((sumF S (x.take k):Nat):Int)∧wi=wr) (fun _ i _=>m - (intOf i).toNat)
      case atStart=>exact ⟨0,Nat.zero_le _,rfl,rfl,rfl⟩
      case round =>
        obtain ⟨k,hk,rfl,rfl,rfl⟩:=hrel
        by_cases hlt2:k<m
        · have hk':k<x.length:=by rw [HM.out];exact hlt2
          obtain ⟨b2,o2,rfl,b1⟩:=byin_at HB.out hk'
          have HTK2:=Lib.hid (sumF_succ (n:=S) hk')
          have hst:=sumStep (sumF_lt S HLT.out (x.take k)) (HX.out _ (List.getElem_mem hk'))
          have hwy:IntKind.u64.wrap ((x[k]:Nat):Int)=((x[k]:Nat):Int):=by have:=HX.out _ (List.getElem_mem hk');rw [wrapU64];omega
          generalize sumF S (x.take k)=T at *
          generalize x[k]=y at *
          have hki:(k:Int)<(m:Int):=by omega
          go_wp2
          exact ⟨⟨k+1,by omega,by go_num,by rw [HTK2.out],trivial⟩,by simp [intOf];omega⟩
        · obtain rfl:k=m:=by omega
          go_wp2
          refine ⟨⟨j+1,by omega,by go_num,?_,trivial⟩,by simp [intOf];omega⟩
          rw [HTK.out,← HM.out,List.take_length]
    · obtain rfl:j=n:=by omega
      go_wp2
      go_ret
      rw [← HN.out,List.take_length]
      exact ⟨rfl,rfl⟩
end
end Go.Proofs.Ytbfkgcapkffecaa
namespace Go.Proofs.Ytbfkgcapkffecaa
open Go Go.RowKit Go.Proofs.Mm Go.Sort
def sealL (S j:Nat):Nat:=S / 2 ^ (56 - 8 * j) % 256
theorem sealF_eq (l:List Nat):sealF l=(List.range 8).map (sealL (sumF sum0 l)):=rfl
theorem sealF_len (l:List Nat):(sealF l).length=8:=by simp [sealF]
theorem sealR_succ (S j:Nat):(List.range (j+1)).map (sealL S)=(List.range j).map (sealL S)++[sealL S j]:=by simp [List.range_succ]
theorem sealByte (S s:Nat):IntKind.u8.wrap (((S / 2 ^ s:Nat)):Int)=((S / 2 ^ s % 256:Nat):Int):=byteU _
theorem shrN (S s:Nat):(S:Int) / 2 ^ s=((S / 2 ^ s:Nat):Int):=by rw [Int.natCast_ediv,Int.natCast_pow];rfl
theorem shrOp (S s:Nat) (yk:IntKind) (h:s≤64):Op.shift .shr .u64 (S:Int) yk (s:Int)=pure (.int .u64 ((S / 2 ^ s:Nat):Int)):=by
  rw [shift_shr_u64 yk (S:Int) (s:Int) (by omega) (by omega),Int.toNat_natCast,shrN]
section
variable {lt:Bool} {w:World}
theorem pts_one {q:Option Addr} {c:Nat} {l:List Nat} (hA:ByIn w.heap.size w q l) (hx:bytesL l) (hm:l.length≤maxLen) :
    PtsAt (w.alloc (.cells #[.slice q l.length c] 28)) (some ⟨w.heap.size,0,none⟩) [l]:=by
  intro i hi
  obtain rfl:i=0:=by simp at hi;omega
  exact ⟨_,0,q,c,rfl,(InB.new w #[.slice q l.length c] 28).cell (j:=0) rfl,hA.below ((Below.refl _ _).alloc (Nat.le_refl _) _) (Nat.le_refl _) (by simp),hx,hm⟩
set_option maxRecDepth 100000 in
set_option maxHeartbeats 2000000 in
theorem sumOf_any {q:Option Addr} {c:Nat} (l:List Nat) (hA:ByIn w.heap.size w q l) (hx:bytesL l) (hm:l.length≤maxLen) :
    Calls Try.prog 35 #[.slice q l.length c] w fun e w'=>∃ v,e=.returned v∧OwnB w.heap.size w' v (sealF l)∧Below w.heap.size w w':=by
  have HS:=Lib.hid (Sum_any (w:=w.alloc (.cells #[.slice q l.length c] 28)) (cp:=1) [l] (pts_one hA hx hm) (by unfold maxLen;simp))
  have HLT:=Lib.hid (sumF_lt sum0 sum0_lt l)
  rw [sealF_eq]
  rw [show [l].flatten=l by simp,show [l].length=1 from rfl] at HS
  obtain ⟨n,hn⟩:∃ n,l.length=n:=⟨_,rfl⟩
  rw [hn] at HS ⊢
  generalize sumF sum0 l=S at *
  clear hA hx hm hn
  go_enter Try.func35,Try.ntmps35
  go_wp2_with fail
  refine HS.out.mono ?_
  rintro e w1 ⟨rfl,hw1⟩
  have hb0:Below w.heap.size w w1:=by rw [hw1];exact bl_al (Below.refl _ _) _
  clear hw1 HS
  go_wp2_with fail
  go_loopw [4,5] (fun b m wr=>∃ j:Nat,j≤8∧m=.int .i64 (56 - 8 * (j:Int))∧OwnB w.heap.size wr b ((List.range j).map (sealL S))∧Below w.heap.size w wr) (fun _ m _=>((intOf m)+8).toNat)
  case atStart=>exact ⟨0,by omega,rfl,World.ownsRow_nil _ _ _ _,hb0⟩
  case round =>
    obtain ⟨j,hj,rfl,hO,hb⟩:=hrel
    obtain ⟨q',c',rfl⟩:=hO.slice
    by_cases hj8:j<8
    · obtain ⟨s,hs⟩:∃ s:Nat,56 - 8 * j=s:=⟨_,rfl⟩
      have hs2:(56:Int) - 8 * (j:Int)=(s:Int):=by omega
      rw [hs2]
      have hs64:(s:Int)≤64:=by omega
      have hmin:min s 64=s:=by omega
      have hsh:=shrN S s
      have hsf:=shrOp S s .i64 (by omega)
      have hby:=sealByte S s
      have HV:=Lib.hid (show S / 2 ^ s % 256=sealL S j from by unfold sealL;rw [hs])
      generalize S / 2 ^ s=X at *
      generalize X % 256=x at *
      have hA2:=hO.alloc (.cells #[.int .u8 (x:Int)] 5)
      have hlen:((List.range j).map (sealL S)).length=j:=by simp
      rw [hlen] at hA2 ⊢
      have HBL:=Lib.hid hb
      have hbs:=hb.size
      clear hO hs
      go_wp2_with (at_builtin;refine wpList_bytes rfl _ _ rfl w.heap.size _ ((List.range j).map (sealL S)) rfl hA2 ⟨_,0,none⟩ 1 [x] rfl (one_cells _ x) (by rw [hlen];simp;omega) (by simp;omega) ?_)
      intro v2 w2 hO2 hgr _
      have HO2:=Lib.hid (show OwnB w.heap.size w2 v2 ((List.range (j+1)).map (sealL S)) from by rw [sealR_succ,← HV.out];exact hO2)
      have HB2:=Lib.hid (show Below w.heap.size w w2 from (bl_al HBL.out _).trans (below_own hgr (by simp;omega) (fun t ht=>(hA2.lt t ht).1)))
      clear hO2 hgr hA2 hb
      go_wp2
      refine ⟨⟨j+1,by omega,by go_num,HO2.out,HB2.out⟩,by simp [intOf];omega⟩
    · obtain rfl:j=8:=by omega
      have HO:=Lib.hid hO
      have HB:=Lib.hid hb
      clear hO hb
      go_wp2
      go_ret
      exact ⟨_,rfl,HO.out,HB.out⟩
set_option maxRecDepth 100000 in
set_option maxHeartbeats 4000000 in
theorem wmodule_any {B wb:Nat} {l:List Nat} (hW:WrS B wb w l) {v:Value} (m:MoM) (hA:MoR lt (lowC B w) v m) (hf:moW m) (hok:moOk m=true) (hl:l.length≤100) :
    Calls Try.prog 33 #[.pointer (some ⟨wb,0,none⟩),v] w (WrE B wb w l (bdF m) 400):=by
  obtain ⟨v1,v2,v3,v4,rfl,z1,z2,z3,z4⟩:=hA
  have hm4:=slx_bytes z4
  have hm2:=slx_bytes z2
  obtain ⟨q1,c1,rfl⟩:=slx_shape z1
  obtain ⟨q2,c2,rfl⟩:=slx_shape z2
  obtain ⟨q3,c3,rfl⟩:=slx_shape z3
  obtain ⟨q4,c4,rfl⟩:=slx_shape z4
  unfold moOk at hok
  rw [Bool.and_eq_true,List.all_eq_true,List.all_eq_true] at hok
  obtain ⟨⟨f1,f2⟩,⟨f3,f4⟩,⟨f5,f6⟩,⟨f7,f8⟩⟩:=hf
  have HF:=Lib.hid (fun x hx=>(⟨f8 x hx,hok.2 x hx⟩:fnW x∧fnOk x=true))
  have HF2:=Lib.hid f2
  have HF4:=Lib.hid (fun x hx=>(f4 x hx).2)
  have HF6:=Lib.hid f6
  have HAR:=Lib.hid f4
  have HN:=Lib.hid (And.intro f1 (And.intro f3 (And.intro f5 f7)))
  obtain ⟨n1,hn1⟩:∃ n,m.globals.length=n:=⟨_,rfl⟩
  obtain ⟨n2,hn2⟩:∃ n,m.arrays.length=n:=⟨_,rfl⟩
  obtain ⟨n3,hn3⟩:∃ n,m.channels.length=n:=⟨_,rfl⟩
  obtain ⟨n4,hn4⟩:∃ n,m.funcs.length=n:=⟨_,rfl⟩
  have HN1:=Lib.hid hn1
  have HN2:=Lib.hid hn2
  have HN3:=Lib.hid hn3
  have HN4:=Lib.hid hn4
  rw [hn1,hn2,hn3,hn4]
  have HIB:=Lib.hid (InB.new w #[.slice q1 n1 c1,.slice q2 n2 c2,.slice q3 n3 c3,.slice q4 n4 c4] 26)
  have HW0:=Lib.hid (hW.alloc (.cells #[.slice q1 n1 c1,.slice q2 n2 c2,.slice q3 n3 c3,.slice q4 n4 c4] 26))
  have HA0:=Lib.hid (show Wrk B wb w (w.alloc (.cells #[.slice q1 n1 c1,.slice q2 n2 c2,.slice q3 n3 c3,.slice q4 n4 c4] 26)) from (Wrk.refl w).alloc _)
  have HB0:=Lib.hid (show Below B w (w.alloc (.cells #[.slice q1 n1 c1,.slice q2 n2 c2,.slice q3 n3 c3,.slice q4 n4 c4] 26)) from (Below.refl _ _).alloc hW.size _)
  have HZ1:=Lib.hid z1
  have HZ2:=Lib.hid z2
  have HZ3:=Lib.hid z3
  have HZ4:=Lib.hid z4
  have HNE:=Lib.hid (show w.heap.size ≠ wb from by have:=hW.lt;omega)
  have HLE:=Lib.hid hW.le
  have HSZ:=Lib.hid hW.size
  have HL:=Lib.hid hl
  clear hW hl z1 z2 z3 z4 hok f1 f2 f3 f4 f5 f6 f7 f8 hn1 hn2 hn3 hn4 hm2 hm4
  have C1:=Lib.hid (eachL_any HW0.out (c:=c1) m.globals ((HZ1.out.le (lowC.le HB0.out)).cells) HF2.out HN.out.1 (by have:=HL.out;omega))
  rw [HN1.out] at C1
  go_enter Try.func33,Try.ntmps33
  go_wp2_with fail
  refine C1.out.mono ?_
  rintro e w1 ⟨rfl,l1,h1⟩
  have P1:=Lib.hid (h1.before HA0.out)
  have I1:=Lib.hid (wkeep HIB.out h1.kp (by decide) HNE.out)
  clear h1 C1
  have x1:=I1.out.cell (j:=1) rfl
  have C2:=Lib.hid (eachA_any P1.out.st (c:=c2) m.arrays ((HZ2.out.le (lowC.le (P1.out.kp.below HLE.out HSZ.out))).cells) HAR.out HN.out.2.1 (by have:=P1.out.len;have:=HL.out;omega))
  rw [HN2.out] at C2
  go_wp2_with fail
  refine C2.out.mono ?_
  rintro e w2 ⟨rfl,l2,h2⟩
  have P2:=Lib.hid (P1.out.trans h2)
  have I2:=Lib.hid (wkeep I1.out h2.kp (by decide) HNE.out)
  clear h2 C2 x1
  have x2:=I2.out.cell (j:=2) rfl
  have C3:=Lib.hid (eachL_any P2.out.st (c:=c3) m.channels ((HZ3.out.le (lowC.le (P2.out.kp.below HLE.out HSZ.out))).cells) HF6.out HN.out.2.2.1 (by have:=P2.out.len;have:=HL.out;omega))
  rw [HN3.out] at C3
  go_wp2_with fail
  refine C3.out.mono ?_
  rintro e w3 ⟨rfl,l3,h3⟩
  have P3:=Lib.hid (P2.out.trans h3)
  have I3:=Lib.hid (wkeep I2.out h3.kp (by decide) HNE.out)
  clear h3 C3 x2
  have x3:=I3.out.cell (j:=3) rfl
  have C4:=Lib.hid (eachF_any P3.out.st (c:=c4) m.funcs ((HZ4.out.le (lowC.le (P3.out.kp.below HLE.out HSZ.out))).cells) HF.out HN.out.2.2.2 (by have:=P3.out.len;have:=HL.out;omega))
  rw [HN4.out] at C4
  go_wp2_with fail
  refine C4.out.mono ?_
  rintro e w4 ⟨rfl,l4,h4⟩
  have P4:=Lib.hid (P3.out.trans h4)
  clear h4 C4 x3
  go_wp2
  go_end0
  refine ⟨rfl,l4,P4.out.st,?_,by have:=P4.out.len;omega,P4.out.kp⟩
  have h:=P4.out.wr
  unfold bdF
  simpa only [List.append_assoc] using h
end
end Go.Proofs.Ytbfkgcapkffecaa
namespace Go.Proofs.Ytbfkgcapkffecaa
open Go Go.RowKit Go.Proofs.Mm Go.Sort
theorem listF_bytes {α:Type} {f:α→List Nat} (h:∀ x,bytesL (f x)) (l:List α):bytesL (listF f l):=by
  refine bytesL_append (putU_bytes _) ?_
  intro x hx
  obtain ⟨y,_,hy⟩:=List.mem_flatMap.1 hx
  exact h y x hy
theorem labF_bytes (x:Int):bytesL (labF x):=putU_bytes _
theorem szF_bytes (x:Int):bytesL (szF x):=putU_bytes _
theorem arF_bytes (x:Int × Int):bytesL (arF x):=bytesL_append (szF_bytes _) (labF_bytes _)
theorem inF_bytes (x:Int × Int):bytesL (inF x):=putI_bytes _ _
theorem fnF_bytes (f:FnM):bytesL (fnF f):=bytesL_append (labF_bytes _) (bytesL_append (listF_bytes labF_bytes _) (bytesL_append (listF_bytes labF_bytes _) (bytesL_append (szF_bytes _) (bytesL_append (szF_bytes _) (listF_bytes inF_bytes _)))))
theorem bdF_bytes (m:MoM):bytesL (bdF m):=bytesL_append (listF_bytes labF_bytes _) (bytesL_append (listF_bytes arF_bytes _) (bytesL_append (listF_bytes labF_bytes _) (listF_bytes fnF_bytes _)))
theorem moF_bytes (m:MoM):bytesL (moF m):=bytesL_append (by intro x hx;simp [headF] at hx;omega) (bdF_bytes m)
theorem sealF_bytes (l:List Nat):bytesL (sealF l):=by
  intro x hx
  obtain ⟨j,_,rfl⟩:=List.mem_map.1 hx
  exact Nat.mod_lt _ (by decide)
theorem imF_bytes (m:MoM):bytesL (imF m):=bytesL_append (moF_bytes m) (sealF_bytes _)
theorem imF_len (m:MoM):(imF m).length=(moF m).length+8:=by unfold imF;rw [List.length_append,sealF_len]
structure WriteR (w:World) (m:MoM) (e:Ending) (w':World):Prop where
  val:∃ v,OwnB w.heap.size w' v (if moOk m=true∧(imF m).length≤262144 then imF m else [])∧(¬ (moOk m=true∧(imF m).length≤262144)→v=.slice none 0 0) ∧
    e=.returned (.tuple #[v,.int .i64 (if moOk m=true then (if (imF m).length≤262144 then 0 else 3) else 1)])
  bl:Below w.heap.size w w'
section
variable {lt:Bool} {w:World}
theorem wr_start {B:Nat} (w1:World) (hB:B≤w1.heap.size):WrS B (w1.heap.size+1) ((w1.alloc (.cells #[.int .u8 76,.int .u8 86,.int .u8 82,.int .u8 1] 5 (4,5))).alloc (.cells #[.slice (some ⟨w1.heap.size,0,none⟩) 4 4] 68)) headF:=by
  have h1:InB ((w1.alloc (.cells #[.int .u8 76,.int .u8 86,.int .u8 82,.int .u8 1] 5 (4,5))).alloc (.cells #[.slice (some ⟨w1.heap.size,0,none⟩) 4 4] 68)) (w1.heap.size+1) #[.slice (some ⟨w1.heap.size,0,none⟩) 4 4] 68:=InB.new' _ _ (by simp)
  have h2:((w1.alloc (.cells #[.int .u8 76,.int .u8 86,.int .u8 82,.int .u8 1] 5 (4,5))).alloc (.cells #[.slice (some ⟨w1.heap.size,0,none⟩) 4 4] 68)).heap[w1.heap.size]?=some (.cells #[.int .u8 76,.int .u8 86,.int .u8 82,.int .u8 1] 5 (4,5)):=by
    have:=heap_alloc_new w1 (.cells #[.int .u8 76,.int .u8 86,.int .u8 82,.int .u8 1] 5 (4,5))
    exact heap_new _ _ this
  exact ⟨⟨some ⟨w1.heap.size,0,none⟩,4,h1,.inr ⟨w1.heap.size,_,_,rfl,hB,h2,rfl⟩⟩,by omega,by simp;omega⟩
set_option maxRecDepth 100000 in
set_option maxHeartbeats 4000000 in
theorem Write_any {v:Value} {m:MoM} (h:MoR lt (wC w) v m) (hf:moW m):Calls Try.prog 11 #[v] w (WriteR w m):=by
  have HF:=Lib.hid (fun (W:World) (hb:Below w.heap.size w W)=>hasForm_any (w:=W) (h.le (below_cle hb)))
  have HL:=Lib.hid (h.le (lowC.of w))
  have HFW:=Lib.hid hf
  obtain ⟨v1,v2,v3,v4,hv,z1,z2,z3,z4⟩:=h
  obtain ⟨q1,c1,rfl⟩:=slx_shape z1
  obtain ⟨q2,c2,rfl⟩:=slx_shape z2
  obtain ⟨q3,c3,rfl⟩:=slx_shape z3
  obtain ⟨q4,c4,rfl⟩:=slx_shape z4
  obtain ⟨n1,hn1⟩:∃ n,m.globals.length=n:=⟨_,rfl⟩
  obtain ⟨n2,hn2⟩:∃ n,m.arrays.length=n:=⟨_,rfl⟩
  obtain ⟨n3,hn3⟩:∃ n,m.channels.length=n:=⟨_,rfl⟩
  obtain ⟨n4,hn4⟩:∃ n,m.funcs.length=n:=⟨_,rfl⟩
  rw [hn1,hn2,hn3,hn4] at hv
  subst hv
  clear z1 z2 z3 z4 hn1 hn2 hn3 hn4 hf
  have HIB:=Lib.hid (InB.new w #[.slice q1 n1 c1,.slice q2 n2 c2,.slice q3 n3 c3,.slice q4 n4 c4] 26)
  have HA0:=Lib.hid (show Below w.heap.size w (w.alloc (.cells #[.slice q1 n1 c1,.slice q2 n2 c2,.slice q3 n3 c3,.slice q4 n4 c4] 26)) from bl_al (Below.refl _ _) _)
  have HF0:=Lib.hid (HF.out _ HA0.out)
  cases hok:moOk m
  · rw [hok] at HF0
    have HOK:=Lib.hid hok
    clear hok
    go_enter Try.func11,Try.ntmps11
    go_wp2_with fail
    refine HF0.out.mono ?_
    rintro e w1 ⟨rfl,hb⟩
    have HB:=Lib.hid (bl_tr HA0.out hb)
    clear hb
    go_wp2
    go_ret2
    refine ⟨⟨_,?_,fun _=>rfl,by rw [HOK.out];rfl⟩,HB.out⟩
    rw [HOK.out]
    exact World.ownsRow_nil _ _ _ _
  · rw [hok] at HF0
    have HOK:=Lib.hid hok
    clear hok
    go_enter Try.func11,Try.ntmps11
    go_wp2_with fail
    refine HF0.out.mono ?_
    rintro e w1 ⟨rfl,hb⟩
    have HB:=Lib.hid (bl_tr HA0.out hb)
    have hI1:=HIB.out.le hb
    have x0:=hI1.cell (j:=0) rfl
    have x1:=hI1.cell (j:=1) rfl
    have x2:=hI1.cell (j:=2) rfl
    have x3:=hI1.cell (j:=3) rfl
    have HZ:=Lib.hid HB.out.size
    have hsz1:=heap_lt hI1
    clear hb hI1
    have HS:=Lib.hid (wr_start w1 HZ.out)
    have HB2:=Lib.hid (bl_al (bl_al HB.out (.cells #[.int .u8 76,.int .u8 86,.int .u8 82,.int .u8 1] 5 (4,5))) (.cells #[.slice (some ⟨w1.heap.size,0,none⟩) 4 4] 68))
    have HM:=Lib.hid (wmodule_any HS.out m (HL.out.le (lowC.le HB2.out)) HFW.out HOK.out (by simp [headF]))
    have hcv:=Lib.run_convert_bytes_const (P:=Try.prog) w1 28 5 #[.int .u8 76,.int .u8 86,.int .u8 82,.int .u8 1] 4 4 Try.underlying28 Try.underlying5
    go_wp2_with fail
    refine HM.out.mono ?_
    rintro e w2 ⟨rfl,l2,h2⟩
    have H2:=Lib.hid h2
    clear h2 x0 x1 x2 x3 hcv
    have hlen:l2.length≤1000000:=by have:=H2.out.len;have:headF.length=4:=rfl;omega
    have HT:=Lib.hid (isTooLong_any H2.out.st hlen)
    have HLE:=Lib.hid (show (imF m).length=(headF++bdF m).length+8 from imF_len m)
    by_cases hbig:262136<l2.length
    · have hT:=HT.out
      rw [decide_eq_true hbig] at hT
      have HT2:=Lib.hid hT
      clear hT HT
      have HNO:=Lib.hid (show ¬ (imF m).length≤262144 from by
        rw [HLE.out]
        rcases H2.out.wr with h | ⟨_,h⟩
        · rw [h] at hbig;omega
        · rw [List.length_append];omega)
      go_wp2_with fail
      refine HT2.out.mono ?_
      rintro e w3 ⟨rfl,rfl⟩
      go_wp2
      go_ret2
      refine ⟨⟨_,?_,fun _=>rfl,by rw [HOK.out,if_pos rfl,if_neg HNO.out];rfl⟩,HB2.out.trans (H2.out.kp.below HS.out.le HS.out.size)⟩
      rw [if_neg (fun h=>HNO.out h.2)]
      exact World.ownsRow_nil _ _ _ _
    · have hT:=HT.out
      rw [decide_eq_false hbig] at hT
      have HT2:=Lib.hid hT
      clear hT HT
      have hl2:l2=moF m:=by
        rcases H2.out.wr with h | ⟨h,_⟩
        · exact h
        · exact absurd h hbig
      subst hl2
      have HYES:=Lib.hid (show (imF m).length≤262144 from by rw [imF_len];omega)
      obtain ⟨q,c,k1,k2⟩:=H2.out.st.ex
      obtain ⟨ln,hln⟩:∃ k,(moF m).length=k:=⟨_,rfl⟩
      rw [hln] at k1 k2 hbig
      have hc:=cell_of (j:=0) k1 rfl
      have HBW:=Lib.hid (show Below w.heap.size w w2 from HB2.out.trans (H2.out.kp.below HS.out.le HS.out.size))
      have HC:=Lib.hid (fun (W:World) (hb:Below w2.heap.size w2 W)=>show Calls Try.prog 35 #[.slice q ln c] W fun e w'=>∃ v,e=.returned v∧OwnB W.heap.size w' v (sealF (moF m))∧Below W.heap.size W w' from by
        have:=sumOf_any (w:=W) (q:=q) (c:=c) (moF m) ((k2.stay hb).in) (moF_bytes m) (by rw [hln];unfold maxLen;omega)
        rw [hln] at this
        exact this)
      have HK:=Lib.hid (fun (W:World) (hb:Below w2.heap.size w2 W)=>(⟨k2.stay hb,cell_of (j:=0) ((hb.block _ (heap_lt k1)).trans k1) rfl⟩:RowW w.heap.size W (.slice q ln c) (moF m)∧W.cell? ⟨w1.heap.size+1,0,none⟩=some (.slice q ln c)))
      have HGR:=Lib.hid (fun (W w9:World) (hb:Below w2.heap.size w2 W) (hg:W.grownBy w9 (Value.ownBlock (.slice q ln c)))=>(show Below w.heap.size w w9 from (HBW.out.trans (hb.mono HBW.out.size)).trans (below_own hg (Nat.le_trans HBW.out.size hb.size) (fun t ht=>((k2.stay hb).lt t ht).1))))
      have HS8:=Lib.hid (sealF_len (moF m))
      clear k1 k2
      go_wp2_with fail
      refine HT2.out.mono ?_
      rintro e w3 ⟨rfl,hw3⟩
      have hw4:=hw3.symm
      clear hw3
      subst hw4
      go_upto_region 7 with (fail)
      go_region_law
        (first
          | (go_simp;go_at_call 35;refine (HC.out _ (be_drew (Below.refl _ _))).mono ?_;rintro e w4 ⟨v,rfl,hO,hb⟩;obtain ⟨g,cp,rfl,hg0⟩:=row_form hO (by rw [HS8.out];omega);have hbw:Below w2.heap.size w2 w4:=Below.trans (be_drew (Below.refl _ _)) hb;have hcl:=by_cells hO.in;obtain ⟨hown1,j1⟩:=HK.out w4 hbw)
          | (refine step_bytes rfl (.tmp 15) (.tmp 18) rfl w.heap.size (.slice q ln c) (moF m) (by simp [Act.eval]) hown1 ⟨g,0,none⟩ cp (sealF (moF m)) (by rw [HS8.out];omega) (by simp [Act.eval]) hcl (by rw [HS8.out];omega) (Nat.le_trans HBW.out.size hbw.size) ?_;intro v9 w9 h9 hg9;obtain ⟨q9,c9,rfl⟩:=h9.slice))
      all_goals
        go_wp2
        try simp only [Act.put,List.setIfInBounds_toArray,List.set_cons_zero,List.set_cons_succ,List.getElem_toArray,List.getElem_cons_zero,List.getElem_cons_succ]
        go_ret2
        rw [List.length_append,hln] at h9
        refine ⟨⟨_,?_,fun h=>absurd ⟨HOK.out,HYES.out⟩ h,by rw [HOK.out,if_pos rfl,if_pos HYES.out];rfl⟩,HGR.out _ _ hbw hg9⟩
        rw [if_pos ⟨HOK.out,HYES.out⟩]
        exact h9
end
end Go.Proofs.Ytbfkgcapkffecaa
namespace Go.Proofs.Ytbfkgcapkffecaa
open Go Go.RowKit Go.Proofs.Mm Go.Sort
def errI (d:List Nat):Nat:=if 262144<d.length then 3 else if d.length<12 ∨ d.take 4 ≠ headF then 120 else if d.drop (d.length - 8)=sealF (d.take (d.length - 8)) then 0 else 121
def bodyI (d:List Nat):List Nat:=(d.take (d.length - 8)).drop 4
def OpR (w:World) (d:List Nat) (e:Ending) (w':World):Prop:=Below w.heap.size w w' ∧
  ((errI d ≠ 0∧e=.panicked (rfV (errI d:Nat))) ∨ (errI d=0∧∃ q c,e=.returned (.slice q (bodyI d).length c)∧ByIn w.heap.size w q (bodyI d)∧(bodyI d).length≤c∧c≤maxLen))
theorem strHead:strOfNums (headF.map Int.ofNat)=⟨#[76,86,82,1]⟩:=by decide +kernel
theorem headF_bytes:bytesL headF:=by intro x hx;simp [headF] at hx;omega
section
variable {w:World}
set_option maxRecDepth 100000 in
set_option maxHeartbeats 4000000 in
theorem opened_any {q:Option Addr} {c:Nat} (d:List Nat) (hp:ByIn w.heap.size w q d) (hx:bytesL d) (hl:d.length≤c) (hm:c≤maxLen) :
    Calls Try.prog 41 #[.slice q d.length c] w (OpR w d):=by
  obtain ⟨n,hn⟩:∃ n,d.length=n:=⟨_,rfl⟩
  have hm':=hm
  unfold maxLen at hm
  by_cases h1:262144<n
  · have HE:=Lib.hid (show errI d=3 from by unfold errI;rw [hn,if_pos h1])
    rw [hn]
    have hi:(262144:Int)<(n:Int):=by omega
    clear hp hx hl hm hn hm'
    go_enter Try.func41,Try.ntmps41
    go_wp2_with fail
    refine (refuse_any _ _).mono ?_
    rintro e w1 ⟨rfl,rfl⟩
    exact ⟨rfl,Below.refl _ _,.inl ⟨by rw [HE.out];decide,by rw [HE.out];rfl⟩⟩
  · have hi:¬ (262144:Int)<(n:Int):=by omega
    by_cases h2:n<12
    · have HE:=Lib.hid (show errI d=120 from by unfold errI;rw [hn,if_neg h1,if_pos (.inl h2)])
      rw [hn]
      have hi2:(n:Int)<12:=by omega
      clear hp hx hl hm hn hm'
      go_enter Try.func41,Try.ntmps41
      go_wp2_with fail
      refine (refuse_any _ _).mono ?_
      rintro e w1 ⟨rfl,rfl⟩
      exact ⟨rfl,Below.refl _ _,.inl ⟨by rw [HE.out];decide,by rw [HE.out];rfl⟩⟩
    · have hi2:¬ (n:Int)<12:=by omega
      obtain ⟨b,o,rfl,hb,_⟩:=hp 0 (by omega)
      have h4:(d.take 4).length=4:=by rw [List.length_take];omega
      have hcv:=conv_run w (some ⟨b,o,none⟩) c (d.take 4) w.heap.size (hp.take 4)
      rw [h4] at hcv
      by_cases h3:d.take 4=headF
      · rw [h3,strHead] at hcv
        obtain ⟨N,hnN⟩:∃ N,n=N+8:=⟨n - 8,by omega⟩
        have hN:(n:Int) - 8=(N:Int):=by omega
        have hn8:n - 8=N:=by omega
        have HA1:=Lib.hid (show ByIn w.heap.size w (some ⟨b,o+N,none⟩) (d.drop N) from by have:=by_drop (k:=N) hp;simpa [Addr.add,show N ≠ 0 by omega] using this)
        have HA2:=Lib.hid (hp.take N)
        have HA3:=Lib.hid (show ByIn w.heap.size w (some ⟨b,o+4,none⟩) (bodyI d) from by have:=by_drop (k:=4) (hp.take N);unfold bodyI;rw [hn,hn8];simpa [Addr.add] using this)
        have HL1:=Lib.hid (show (d.drop N).length=8 from by rw [List.length_drop];omega)
        have HL2:=Lib.hid (show (d.take N).length=N from by rw [List.length_take];omega)
        have HL3:=Lib.hid (show (bodyI d).length=N - 4 from by unfold bodyI;rw [hn,hn8,List.length_drop,List.length_take];omega)
        have HB1:=Lib.hid (bytesL_drop hx N)
        have HB2:=Lib.hid (bytesL_take hx N)
        have HE:=Lib.hid (show errI d=if d.drop N=sealF (d.take N) then 0 else 121 from by unfold errI;rw [hn,if_neg h1,if_neg (by rintro (h | h);exact h2 h;exact h h3),hn8])
        have HS:=Lib.hid (fun (W:World) (hb:Below w.heap.size w W)=>show Calls Try.prog 35 #[.slice (some ⟨b,o,none⟩) N c] W fun e w'=>∃ g cp,e=.returned (.slice (some ⟨g,0,none⟩) 8 cp)∧ByIn w'.heap.size w' (some ⟨g,0,none⟩) (sealF (d.take N))∧Below W.heap.size W w' from by
          have:=sumOf_any (w:=W) (q:=some ⟨b,o,none⟩) (c:=c) (d.take N) ((HA2.out).below hb (Nat.le_refl _) hb.size) HB2.out (by rw [HL2.out];unfold maxLen;omega)
          rw [HL2.out] at this
          refine this.mono ?_
          rintro e w' ⟨v,rfl,hO,hb'⟩
          obtain ⟨g,cp,rfl,_⟩:=row_form hO (by rw [sealF_len];omega)
          have:=hO.in
          rw [sealF_len]
          exact ⟨g,cp,rfl,this,hb'⟩)
        obtain ⟨eqv,heq⟩:∃ v,decide (d.drop N=sealF (d.take N))=v:=⟨_,rfl⟩
        have HEQ:=Lib.hid heq
        have HQ:=Lib.hid (fun (W:World) (g cp cd:Nat) (hb:Below w.heap.size w W) (hs:ByIn W.heap.size W (some ⟨g,0,none⟩) (sealF (d.take N)))=>show Calls Try.prog 71 #[.slice (some ⟨b,o+N,none⟩) 8 cd,.slice (some ⟨g,0,none⟩) 8 cp] W fun e w'=>e=.returned (.bool eqv)∧w'=W from by
          have:=equal_any (some ⟨b,o+N,none⟩) (some ⟨g,0,none⟩) cd cp (d.drop N) (sealF (d.take N)) HB1.out (sealF_bytes _) W.heap.size W ((HA1.out).below hb (Nat.le_refl _) hb.size) hs
          rw [HL1.out,sealF_len,HEQ.out] at this
          exact this)
        have hcN:N+8≤c:=by omega
        have hcN1:(N:Int)≤(c:Int):=by omega
        have h4N:(4:Int)≤(N:Int):=by omega
        have h4c:(4:Int)≤(c:Int):=by omega
        have hN8:(N:Int)≤(n:Int):=by omega
        have hne1:¬ c=N:=by omega
        have hne2:¬ c=4:=by omega
        have hne3:¬ c=0:=by omega
        have hs8:n - N=8:=by omega
        have HNN:=Lib.hid hnN
        rw [hn]
        clear hp hx hl h4 h3 heq hnN hn8
        go_enter Try.func41,Try.ntmps41
        go_upto_region 6 with (fail)
        have hNN:¬ (N:Int)<0:=by omega
        go_region_law
          (first
            | (go_simp;go_at_call 35;refine (HS.out _ (be_drew (Below.refl _ _))).mono ?_;rintro e w1 ⟨g,cp,rfl,hs,hb1⟩)
            | (go_simp;go_at_call 71;refine (HQ.out _ g cp _ (Below.trans (be_drew (Below.refl _ _)) hb1) hs).mono ?_;rintro e w2 ⟨rfl,hw2⟩;have hw3:=hw2.symm;clear hw2;subst hw3))
        all_goals
          have HBL:=Lib.hid (show Below w.heap.size w w1 from Below.trans (be_drew (Below.refl _ _)) hb1)
          clear hs hb1 hcv
          try simp only [Act.put,List.setIfInBounds_toArray,List.set_cons_zero,List.set_cons_succ,List.getElem_toArray,List.getElem_cons_zero,List.getElem_cons_succ]
          cases eqv
          · have HE2:=Lib.hid (show errI d=121 from by rw [HE.out,if_neg (of_decide_eq_false HEQ.out)])
            go_wp2_with fail
            refine (refuse_any _ _).mono ?_
            rintro e w3 ⟨rfl,rfl⟩
            exact ⟨rfl,HBL.out,.inl ⟨by rw [HE2.out];decide,by rw [HE2.out];rfl⟩⟩
          · have HE2:=Lib.hid (show errI d=0 from by rw [HE.out,if_pos (of_decide_eq_true HEQ.out)])
            have h4n:(4:Int)≤(N:Int):=h4N
            go_wp2
            go_ret
            refine ⟨HBL.out,.inr ⟨HE2.out,some ⟨b,o+4,none⟩,c - 4,?_,HA3.out,by rw [HL3.out];omega,by omega⟩⟩
            rw [HL3.out]
            rfl
      · have HE:=Lib.hid (show errI d=120 from by unfold errI;rw [hn,if_neg h1,if_pos (.inr h3)])
        have hne:=bytesOf_eq (bytesL_take hx 4) headF_bytes
        rw [decide_eq_false h3,← Lib.strOfNums_toList,← Lib.strOfNums_toList,strHead,show (⟨#[76,86,82,1]⟩:ByteArray).toList=[76,86,82,1] from by decide +kernel] at hne
        generalize strOfNums ((d.take 4).map Int.ofNat)=T at *
        have h4c:(4:Int)≤(c:Int):=by omega
        have hne3:¬ c=0:=by omega
        rw [hn]
        clear hp hx hl hm hn hm' h4
        go_enter Try.func41,Try.ntmps41
        go_wp2_with fail
        refine (refuse_any _ _).mono ?_
        rintro e w1 ⟨rfl,rfl⟩
        exact ⟨rfl,Below.refl _ _,.inl ⟨by rw [HE.out];decide,by rw [HE.out];rfl⟩⟩
end
end Go.Proofs.Ytbfkgcapkffecaa
