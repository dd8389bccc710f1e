/- What Check goes through: the first of a row, a function's head, the module's tables. Tables and one function: what package shape finds. One function: what package shape finds. Check: package shape's. -/
import Derived.Test.YthjkbfamkogoiaaShChecksPR4
import Derived.WalkMore
namespace Go.Proofs.Ythjkbfamkogoiaa
open Go Go.RowKit Go.Proofs.Mm Go.Sort
def fstB (p:Nat→Bool) (n:Nat):Option Nat:=(List.range n).find? p
theorem fst_some {p:Nat→Bool} {n k:Nat} (h:∀ j,j<k→p j=false) (hk:k<n) (hp:p k=true):fstB p n=some k:=by
  unfold fstB
  rw [List.find?_range_eq_some]
  exact ⟨hp,List.mem_range.2 hk,fun j hj=>by simp [h j hj]⟩
theorem fst_none {p:Nat→Bool} {n:Nat} (h:∀ j,j<n→p j=false):fstB p n=none:=by
  unfold fstB
  rw [List.find?_range_eq_none]
  intro j hj
  simp [h j hj]
def optI:Option Nat→Int
  | some k=>k
  | none=>-1
def oddI (l:List (Int × Int)) (j:Nat):Bool:=decide ((l.getD j default).1<1 ∨ (l.getD j default).1 > 256)
theorem getA_at {α:Type} [Inhabited α] {l:List α} {j:Nat} (hj:j<l.length):l.getD j default=l[j]:=by rw [List.getD_eq_getElem?_getD,List.getElem?_eq_getElem hj];rfl
theorem step_no {p:Nat→Bool} {k:Nat} (h:∀ j,j<k→p j=false) (hp:p k=false):∀ j,j<k+1→p j=false:=fun j hj=>by
  by_cases e:j=k
  · rw [e];exact hp
  · exact h j (by omega)
set_option maxRecDepth 100000 in
set_option maxHeartbeats 2000000 in
theorem ixOdd_any {w:World} {q:Option Addr} {c:Nat} (l:List (Int × Int)) (hl:l.length≤9223372036854775807) (ha:ArAt (wC w) q l) :
    Calls Try.prog 29 #[.slice q l.length c,.func (.func 30) #[] #[]] w fun e w'=>e=.returned (.int .i64 (optI (fstB (oddI l) l.length)))∧Below w.heap.size w w':=by
  obtain ⟨n,hn⟩:∃ n,l.length=n:=⟨_,rfl⟩
  have HN:=Lib.hid hn
  have HA:=Lib.hid ha
  rw [hn] at hl ⊢
  clear ha hn
  go_enter Try.func29,Try.ntmps29
  go_wp2
  go_loopw [8] (fun i wr=>∃ k:Nat,k≤n∧i=.int .i64 k∧Hid (Below w.heap.size w wr)∧Hid (∀ j,j<k→oddI l j=false)) (fun i _=>n - (intOf i).toNat)
  case atStart=>exact ⟨0,Nat.zero_le _,rfl,Lib.hid (Below.refl _ _),Lib.hid (fun j hj=>absurd hj (by omega))⟩
  case round =>
    obtain ⟨k,hk,rfl,HB,HT⟩:=hrel
    by_cases hlt:k<n
    · have hk1:k<l.length:=by rw [HN.out];exact hlt
      obtain ⟨g,o,rfl,a0,a1⟩:=HA.out k hk1
      have e0:=below_cle HB.out _ _ a0
      have e1:=below_cle HB.out _ _ a1
      unfold wC at e0 e1
      have HO:=Lib.hid (show oddI l k=decide (l[k].1<1 ∨ l[k].1 > 256) from by unfold oddI;rw [getA_at hk1])
      clear a0 a1
      generalize l[k].1=z0 at *
      generalize l[k].2=z1 at *
      clear hk1
      have hki:(k:Int)<(n:Int):=by omega
      by_cases hz:z0<1 ∨ z0 > 256
      · have HS:=Lib.hid (fst_some HT.out hlt (HO.out.trans (decide_eq_true hz)))
        have hd:=decide_eq_true hz
        clear hz
        go_wp2_with fail
        refine (isOdd_any z0 z1 wr).mono ?_
        rintro e w2 ⟨rfl,hbel⟩
        rw [hd]
        have HB3:=Lib.hid (bl_tr HB.out hbel)
        clear hbel e0 e1 hd
        go_wp2_with fail
        go_ret
        exact ⟨by rw [HS.out];rfl,HB3.out⟩
      · have HS:=Lib.hid (step_no HT.out (HO.out.trans (decide_eq_false hz)))
        have hd:=decide_eq_false hz
        clear hz
        go_wp2_with fail
        refine (isOdd_any z0 z1 wr).mono ?_
        rintro e w2 ⟨rfl,hbel⟩
        rw [hd]
        have HB3:=Lib.hid (bl_tr HB.out hbel)
        clear hbel e0 e1 hd
        go_wp2_with fail
        exact ⟨⟨k+1,by omega,by go_num,HB3,HS⟩,by simp [intOf];omega⟩
    · have HS:=Lib.hid (fst_none (n:=n) (fun j hj=>HT.out j (by omega)))
      go_wp2
      go_ret
      exact ⟨by rw [HS.out];rfl,HB.out⟩
def sizI (np nr:Nat) (lo st:Int) (nc:Nat):Int :=
  if (np:Int) > 8 ∨ (nr:Int) > 4 ∨ (nc:Int) > 2048 ∨ lo > 32 ∨ st > 64 then 74 else if lo<0 ∨ st<0 then 130 else if nc=0 then 132 else 0
abbrev fnV (lv:Int) (qp:Option Addr) (np cp:Nat) (qr:Option Addr) (nr cr:Nat) (lo st:Int) (qc:Option Addr) (nc cc:Nat):Value :=
  .agg #[.int .u64 lv,.slice qp np cp,.slice qr nr cr,.int .i64 lo,.int .i64 st,.slice qc nc cc]
set_option maxRecDepth 100000 in
set_option maxHeartbeats 2000000 in
theorem sizes_any (lv:Int) (qp:Option Addr) (np cp:Nat) (qr:Option Addr) (nr cr:Nat) (lo st:Int) (qc:Option Addr) (nc cc:Nat) (w:World) :
    Calls Try.prog 31 #[fnV lv qp np cp qr nr cr lo st qc nc cc] w fun e w'=>e=.returned (.int .i64 (sizI np nr lo st nc))∧Below w.heap.size w w':=by
  by_cases h1:(np:Int) > 8
  · rw [show sizI np nr lo st nc=74 from if_pos (by omega)]
    go_enter Try.func31,Try.ntmps31
    go_wp2
    go_ret
    exact ⟨rfl,bl_al (Below.refl _ w) _⟩
  by_cases h2:(nr:Int) > 4
  · rw [show sizI np nr lo st nc=74 from if_pos (by omega)]
    go_enter Try.func31,Try.ntmps31
    go_wp2
    go_ret
    exact ⟨rfl,bl_al (Below.refl _ w) _⟩
  by_cases h3:(nc:Int) > 2048
  · rw [show sizI np nr lo st nc=74 from if_pos (by omega)]
    go_enter Try.func31,Try.ntmps31
    go_wp2
    go_ret
    exact ⟨rfl,bl_al (Below.refl _ w) _⟩
  by_cases h4:lo > 32
  · rw [show sizI np nr lo st nc=74 from if_pos (by omega)]
    go_enter Try.func31,Try.ntmps31
    go_wp2
    go_ret
    exact ⟨rfl,bl_al (Below.refl _ w) _⟩
  by_cases h5:st > 64
  · rw [show sizI np nr lo st nc=74 from if_pos (by omega)]
    go_enter Try.func31,Try.ntmps31
    go_wp2
    go_ret
    exact ⟨rfl,bl_al (Below.refl _ w) _⟩
  by_cases h6:lo<0
  · rw [show sizI np nr lo st nc=130 from by rw [sizI,if_neg (by omega),if_pos (by omega)]]
    go_enter Try.func31,Try.ntmps31
    go_wp2
    go_ret
    exact ⟨rfl,bl_al (Below.refl _ w) _⟩
  by_cases h7:st<0
  · rw [show sizI np nr lo st nc=130 from by rw [sizI,if_neg (by omega),if_pos (by omega)]]
    go_enter Try.func31,Try.ntmps31
    go_wp2
    go_ret
    exact ⟨rfl,bl_al (Below.refl _ w) _⟩
  by_cases h8:nc=0
  · subst h8
    rw [show sizI np nr lo st 0=132 from by rw [sizI,if_neg (by omega),if_neg (by omega),if_pos rfl]]
    go_enter Try.func31,Try.ntmps31
    go_wp2
    go_ret
    exact ⟨rfl,bl_al (Below.refl _ w) _⟩
  · rw [show sizI np nr lo st nc=0 from by rw [sizI,if_neg (by omega),if_neg (by omega),if_neg (by omega)]]
    have h9:((nc:Int) == 0)=false:=eqb (by omega)
    go_enter Try.func31,Try.ntmps31
    go_wp2
    go_ret
    exact ⟨rfl,bl_al (Below.refl _ w) _⟩
end Go.Proofs.Ythjkbfamkogoiaa
namespace Go.Proofs.Ythjkbfamkogoiaa
open Go Go.RowKit Go.Proofs.Mm Go.Sort
def tabI (ng na nh nf:Nat) (arrs:List (Int × Int)):Int × Int :=
  if (ng:Int) > 32 ∨ (na:Int) > 16 ∨ (nh:Int) > 16 ∨ (nf:Int) > 32 then (0,74) else match fstB (oddI arrs) na with | some k=>(k,130) | none=>(0,0)
def insE (ng na nh:Nat) (fs:List FnM) (j nc:Nat) (code:List (Int × Int)) (a:Nat):Int :=
  if insI ng na nh fs j (code.getD a default).1 (code.getD a default).2 ≠ 0 then insI ng na nh fs j (code.getD a default).1 (code.getD a default).2
  else if a+1=nc∧(code.getD a default).1 ≠ 43∧(code.getD a default).1 ≠ 46 then 131 else 0
def codE (ng na nh:Nat) (fs:List FnM) (j nc:Nat) (code:List (Int × Int)):Int × Int :=
  match fstB (fun a=>decide (insE ng na nh fs j nc code a ≠ 0)) nc with | some a=>(a,insE ng na nh fs j nc code a) | none=>((nc:Int) - 1,0)
def fnE (ng na nh:Nat) (fs:List FnM) (j:Nat):Int × Int :=
  if sizI (fs.getD j default).params.length (fs.getD j default).results.length (fs.getD j default).locals (fs.getD j default).stack (fs.getD j default).code.length ≠ 0
  then (-1,sizI (fs.getD j default).params.length (fs.getD j default).results.length (fs.getD j default).locals (fs.getD j default).stack (fs.getD j default).code.length)
  else codE ng na nh fs j (fs.getD j default).code.length (fs.getD j default).code
def chkE (ng na nh:Nat) (arrs:List (Int × Int)) (fs:List FnM):Int × Int × Int :=
  if (tabI ng na nh fs.length arrs).2 ≠ 0 then ((tabI ng na nh fs.length arrs).2,-1,(tabI ng na nh fs.length arrs).1)
  else match fstB (fun j=>decide ((fnE ng na nh fs j).2 ≠ 0)) fs.length with | some j=>((fnE ng na nh fs j).2,j,(fnE ng na nh fs j).1) | none=>(0,0,0)
section
variable (qg:Option Addr) (ng cg:Nat) (qa:Option Addr) (na ca:Nat) (qh:Option Addr) (nh ch:Nat) (qf:Option Addr) (nf cf:Nat)
set_option maxRecDepth 100000 in
set_option maxHeartbeats 2000000 in
theorem tables_any {w:World} (arrs:List (Int × Int)) (hl:arrs.length=na) (hm:na≤140737488351232) (ha:ArAt (wC w) qa arrs) :
    Calls Try.prog 19 #[moV qg ng cg qa na ca qh nh ch qf nf cf] w fun e w'=>e=.returned (.tuple #[.int .i64 (tabI ng na nh nf arrs).1,.int .i64 (tabI ng na nh nf arrs).2])∧Below w.heap.size w w':=by
  by_cases h1:(ng:Int) > 32
  · rw [show tabI ng na nh nf arrs=(0,74) from if_pos (by omega)]
    clear ha hl
    go_enter Try.func19,Try.ntmps19
    go_wp2
    go_ret2
    exact ⟨rfl,bl_al (Below.refl _ w) _⟩
  by_cases h2:(na:Int) > 16
  · rw [show tabI ng na nh nf arrs=(0,74) from if_pos (by omega)]
    clear ha hl
    go_enter Try.func19,Try.ntmps19
    go_wp2
    go_ret2
    exact ⟨rfl,bl_al (Below.refl _ w) _⟩
  by_cases h3:(nh:Int) > 16
  · rw [show tabI ng na nh nf arrs=(0,74) from if_pos (by omega)]
    clear ha hl
    go_enter Try.func19,Try.ntmps19
    go_wp2
    go_ret2
    exact ⟨rfl,bl_al (Below.refl _ w) _⟩
  by_cases h4:(nf:Int) > 32
  · rw [show tabI ng na nh nf arrs=(0,74) from if_pos (by omega)]
    clear ha hl
    go_enter Try.func19,Try.ntmps19
    go_wp2
    go_ret2
    exact ⟨rfl,bl_al (Below.refl _ w) _⟩
  have e:tabI ng na nh nf arrs=match fstB (oddI arrs) na with | some k=>((k:Int),(130:Int)) | none=>(0,0):=if_neg (by omega)
  rw [e]
  clear e
  have HC:=Lib.hid (fun W (hb:Below w.heap.size w W)=>hl ▸ ixOdd_any (c:=ca) arrs (by omega) (ha.le (below_cle hb)))
  clear ha
  cases hr:fstB (oddI arrs) na with
  | none =>
    have HR:=Lib.hid (show optI (fstB (oddI arrs) na)=-1 by rw [hr];rfl)
    clear hr hl hm
    go_enter Try.func19,Try.ntmps19
    go_wp2_with fail
    refine (HC.out _ (bl_al (Below.refl _ w) _)).mono ?_
    rintro e w1 ⟨rfl,hb⟩
    rw [HR.out]
    have HB:=Lib.hid (bl_tr (bl_al (Below.refl _ w) _) hb)
    clear hb
    go_wp2_with fail
    go_ret2
    exact ⟨rfl,HB.out⟩
  | some k =>
    have HR:=Lib.hid (show optI (fstB (oddI arrs) na)=k by rw [hr];rfl)
    have hk:(k:Int) ≥ 0:=by omega
    clear hr hl hm
    go_enter Try.func19,Try.ntmps19
    go_wp2_with fail
    refine (HC.out _ (bl_al (Below.refl _ w) _)).mono ?_
    rintro e w1 ⟨rfl,hb⟩
    rw [HR.out]
    have HB:=Lib.hid (bl_tr (bl_al (Below.refl _ w) _) hb)
    clear hb
    go_wp2_with fail
    go_ret2
    exact ⟨rfl,HB.out⟩
end
end Go.Proofs.Ythjkbfamkogoiaa
namespace Go.Proofs.Ythjkbfamkogoiaa
open Go Go.RowKit Go.Proofs.Mm Go.Sort
theorem codE_hit {ng na nh:Nat} {fs:List FnM} {j nc k:Nat} {code:List (Int × Int)} {ev:Int} (ht:∀ a,a<k→decide (insE ng na nh fs j nc code a ≠ 0)=false) (hk:k<nc) (he:insE ng na nh fs j nc code k=ev) (hz:ev ≠ 0):codE ng na nh fs j nc code=((k:Int),ev):=by
  rw [codE,fst_some (k:=k) ht hk (by rw [he];exact decide_eq_true hz),← he]
theorem codE_no {ng na nh:Nat} {fs:List FnM} {j nc:Nat} {code:List (Int × Int)} (ht:∀ a,a<nc→decide (insE ng na nh fs j nc code a ≠ 0)=false):codE ng na nh fs j nc code=((nc:Int) - 1,0):=by
  rw [codE,fst_none ht]
section
variable (qg:Option Addr) (ng cg:Nat) (qa:Option Addr) (na ca:Nat) (qh:Option Addr) (nh ch:Nat) (qf:Option Addr) (nf cf:Nat)
structure BxF (w:World) (b:Nat) (m0 m1 m2 m3:Value) (lv:Int) (qp:Option Addr) (np cp:Nat) (qr:Option Addr) (nr cr:Nat) (lo st:Int) (qc:Option Addr) (nc cc:Nat) (W:World):Prop where
  bl:Below w.heap.size w W
  m:InB W w.heap.size #[m0,m1,m2,m3] 26
  f:InB W b #[.int .u64 lv,.slice qp np cp,.slice qr nr cr,.int .i64 lo,.int .i64 st,.slice qc nc cc] 45
theorem BxF.le {w:World} {b:Nat} {m0 m1 m2 m3:Value} {lv:Int} {qp:Option Addr} {np cp:Nat} {qr:Option Addr} {nr cr:Nat} {lo st:Int} {qc:Option Addr} {nc cc:Nat} {W V:World} (h:BxF w b m0 m1 m2 m3 lv qp np cp qr nr cr lo st qc nc cc W) (hb:Below W.heap.size W V):BxF w b m0 m1 m2 m3 lv qp np cp qr nr cr lo st qc nc cc V :=
  ⟨bl_tr h.bl hb,h.m.le hb,h.f.le hb⟩
theorem BxF.new' {w W0:World} {m0 m1 m2 m3:Value} (hb:Below w.heap.size w W0) (hm:InB W0 w.heap.size #[m0,m1,m2,m3] 26) (lv:Int) (qp:Option Addr) (np cp:Nat) (qr:Option Addr) (nr cr:Nat) (lo st:Int) (qc:Option Addr) (nc cc:Nat):BxF w W0.heap.size m0 m1 m2 m3 lv qp np cp qr nr cr lo st qc nc cc (W0.alloc (.cells #[.int .u64 lv,.slice qp np cp,.slice qr nr cr,.int .i64 lo,.int .i64 st,.slice qc nc cc] 45)) :=
  ⟨bl_al hb _,hm.le (bl_al (Below.refl _ _) _),InB.new _ _ _⟩
set_option maxRecDepth 100000 in
set_option maxHeartbeats 4000000 in
theorem function_any {lt:Bool} {fs:List FnM} (hn:fs.length=nf) {w:World} (hF:FnAt lt (wC w) qf fs) (j:Nat) (hj:j<nf) :
    Calls Try.prog 20 #[moV qg ng cg qa na ca qh nh ch qf nf cf,.int .i64 j] w fun e w'=>e=.returned (.tuple #[.int .i64 (fnE ng na nh fs j).1,.int .i64 (fnE ng na nh fs j).2])∧Below w.heap.size w w':=by
  have HI:=Lib.hid (fun W (hb:Below w.heap.size w W) op a=>Instr_any qg ng cg qa na ca qh nh ch qf nf cf hn (w:=W) (hF.le (below_cle hb)) j op a)
  have hj':j<fs.length:=by omega
  have hjn:(j:Int)<(nf:Int):=by omega
  obtain ⟨g,o,qp,cp,qr,cr,qc,cc,rfl,hK,hcd,_,_,hm⟩:=fn_at hF hj'
  have HCD:=Lib.hid hcd.cells
  clear hcd
  unfold fnE
  rw [getA_at hj']
  obtain ⟨s,hs⟩:∃ s,sizI fs[j].params.length fs[j].results.length fs[j].locals fs[j].stack fs[j].code.length=s:=⟨_,rfl⟩
  rw [hs]
  have h0:s=0→0<fs[j].code.length:=fun e=>by
    rw [e] at hs
    unfold sizI at hs
    split at hs
    · omega
    · split at hs
      · omega
      · split at hs <;> omega
  obtain ⟨code,hcode⟩:∃ code,fs[j].code=code:=⟨_,rfl⟩
  rw [hcode] at hK HCD hs hm h0 ⊢
  clear hcode
  generalize fs[j].params.length=np at *
  generalize fs[j].results.length=nr at *
  obtain ⟨nc,hnc⟩:∃ nc,code.length=nc:=⟨_,rfl⟩
  have HNC:=Lib.hid hnc
  rw [hnc] at hK hs h0 hm ⊢
  clear hnc
  generalize fs[j].locals=lo at *
  generalize fs[j].level=lv at *
  generalize fs[j].stack=st at *
  obtain ⟨a0,a1,a2,a3,a4,a5⟩:=hK.le (bl_al (Below.refl _ w) (.cells #[.slice qg ng cg,.slice qa na ca,.slice qh nh ch,.slice (some ⟨g,o,none⟩) nf cf] 26))
  have HS:=Lib.hid hs
  have HZ:=Lib.hid h0
  have HM:=Lib.hid hm
  clear hF hn hj hj' hK hs h0 hm
  by_cases hz:s=0
  · subst hz
    rw [if_neg (by simp)]
    obtain ⟨r1,hr1⟩:∃ r,(codE ng na nh fs j nc code).1=r:=⟨_,rfl⟩
    obtain ⟨r2,hr2⟩:∃ r,(codE ng na nh fs j nc code).2=r:=⟨_,rfl⟩
    rw [hr1,hr2]
    have HR:=Lib.hid (And.intro hr1 hr2)
    clear hr1 hr2
    go_enter Try.func20,Try.ntmps20
    go_wp2_with fail
    go_step3
    go_upto_region 1 with (fail)
    have HX0:=Lib.hid (InB.new w #[.slice qg ng cg,.slice qa na ca,.slice qh nh ch,.slice (some ⟨g,o,none⟩) nf cf] 26)
    have HB0:=Lib.hid (bl_al (Below.refl _ w) (.cells #[.slice qg ng cg,.slice qa na ca,.slice qh nh ch,.slice (some ⟨g,o,none⟩) nf cf] 26))
    generalize w.alloc (.cells #[.slice qg ng cg,.slice qa na ca,.slice qh nh ch,.slice (some ⟨g,o,none⟩) nf cf] 26)=W0 at *
    have m3:W0.cell? ⟨w.heap.size,3,none⟩=some (.slice (some ⟨g,o,none⟩) nf cf):=HX0.out.cell rfl
    go_wp2_with fail
    have HX:=Lib.hid (BxF.new' HB0.out HX0.out lv qp np cp qr nr cr lo st qc nc cc)
    generalize W0.alloc (.cells #[.int .u64 lv,.slice qp np cp,.slice qr nr cr,.int .i64 lo,.int .i64 st,.slice qc nc cc] 45)=W1 at *
    clear m3 HX0 HB0
    clear a0 a1 a2 a3 a4 a5
    refine (sizes_any _ _ _ _ _ _ _ _ _ _ _ _ _).mono ?_
    rintro e w1 ⟨rfl,hb⟩
    rw [HS.out]
    have HX1:=Lib.hid (HX.out.le hb)
    clear hb HX
    have f5:w1.cell? ⟨W0.heap.size,5,none⟩=some (.slice qc nc cc):=HX1.out.f.cell rfl
    go_wp2_with fail
    go_step3
    go_wp2_with fail
    go_loopw [8,9,24] (fun at9 er i wr=>∃ (k:Nat) (z:Int),k≤nc∧i=.int .i64 k∧er=.int .i64 0∧at9=.int .i64 z∧Hid ((k=0∧z=0) ∨ z+1=k)∧Hid (Below w1.heap.size w1 wr)∧Hid (∀ a,a<k→decide (insE ng na nh fs j nc code a ≠ 0)=false)) (fun _ _ i _=>nc - (intOf i).toNat)
    case atStart=>exact ⟨0,0,Nat.zero_le _,rfl,rfl,rfl,Lib.hid (.inl ⟨rfl,rfl⟩),Lib.hid (Below.refl _ _),Lib.hid (fun a h=>absurd h (by omega))⟩
    case round =>
      obtain ⟨k,z,hk,rfl,rfl,rfl,HZZ,HB,HT⟩:=hrel
      by_cases hlt:k<nc
      · have hk1:k<code.length:=by rw [HNC.out];exact hlt
        have HX2:=Lib.hid (HX1.out.le HB.out)
        obtain ⟨g2,o2,rfl,a0,a1⟩:=HCD.out k hk1
        have c0:=below_cle HX2.out.bl _ _ a0
        have c1:=below_cle HX2.out.bl _ _ a1
        unfold wC at c0 c1
        have HE:=Lib.hid (show insE ng na nh fs j nc code k=if insI ng na nh fs j code[k].1 code[k].2 ≠ 0 then insI ng na nh fs j code[k].1 code[k].2 else if k+1=nc∧code[k].1 ≠ 43∧code[k].1 ≠ 46 then 131 else 0 from by unfold insE;rw [getA_at hk1])
        clear a0 a1 f5
        generalize code[k].1=op at *
        generalize code[k].2=av at *
        clear hk1
        have hki:(k:Int)<(nc:Int):=by omega
        have f5:wr.cell? ⟨W0.heap.size,5,none⟩=some (.slice (some ⟨g2,o2,none⟩) nc cc):=HX2.out.f.cell rfl
        go_upto_region 10 with (fail)
        have HX3:=Lib.hid (HX2.out.le (bl_al (Below.refl _ wr) (.cells #[.int .i64 op,.int .i64 av] 35)))
        have HI3:=Lib.hid (InB.new wr #[.int .i64 op,.int .i64 av] 35)
        have HB3:=Lib.hid (bl_tr HB.out (bl_al (Below.refl _ wr) (.cells #[.int .i64 op,.int .i64 av] 35)))
        generalize wr.alloc (.cells #[.int .i64 op,.int .i64 av] 35)=W3 at *
        obtain ⟨bi,hbi⟩:∃ bi,wr.heap.size=bi:=⟨_,rfl⟩
        rw [hbi] at HI3 ⊢
        clear hbi c0 c1 f5
        have m0:W3.cell? ⟨w.heap.size,0,none⟩=some (.slice qg ng cg):=HX3.out.m.cell rfl
        have m1:W3.cell? ⟨w.heap.size,1,none⟩=some (.slice qa na ca):=HX3.out.m.cell rfl
        have m2:W3.cell? ⟨w.heap.size,2,none⟩=some (.slice qh nh ch):=HX3.out.m.cell rfl
        have m3:W3.cell? ⟨w.heap.size,3,none⟩=some (.slice (some ⟨g,o,none⟩) nf cf):=HX3.out.m.cell rfl
        have i0:W3.cell? ⟨bi,0,none⟩=some (.int .i64 op):=HI3.out.cell rfl
        have i1:W3.cell? ⟨bi,1,none⟩=some (.int .i64 av):=HI3.out.cell rfl
        obtain ⟨ev,hev⟩:∃ ev,insI ng na nh fs j op av=ev:=⟨_,rfl⟩
        have HC:=Lib.hid (HI.out _ HX3.out.bl op av)
        rw [hev] at HC HE
        clear hev
        by_cases hz:ev=0
        · subst hz
          rw [if_neg (by simp)] at HE
          have hne:((0:Int) != 0)=false:=by decide
          by_cases hL:k+1=nc
          · have hl:((k:Int) == (nc:Int) - 1)=true:=by simp;omega
            have hw:wrap64 ((nc:Int) - 1)=(nc:Int) - 1:=by have:=HM.out;unfold wrap64;omega
            by_cases hG:op ≠ 43∧op ≠ 46
            · have hg:=decide_eq_true hG
              have HD:=Lib.hid (codE_hit HT.out hlt (ev:=131) (by rw [HE.out,if_pos ⟨hL,hG⟩]) (by decide))
              clear hG hL hlt hki
              go_wp2_with fail
              refine HC.out.mono ?_
              rintro e w4 ⟨rfl,hb⟩
              have HX4:=Lib.hid (HX3.out.le hb)
              have i0:w4.cell? ⟨bi,0,none⟩=some (.int .i64 op):=(HI3.out.le hb).cell rfl
              have i1:w4.cell? ⟨bi,1,none⟩=some (.int .i64 av):=(HI3.out.le hb).cell rfl
              have f5:w4.cell? ⟨W0.heap.size,5,none⟩=some (.slice (some ⟨g2,o2,none⟩) nc cc):=HX4.out.f.cell rfl
              have HB4:=Lib.hid (bl_tr HB3.out hb)
              clear hb m0 m1 m2 m3
              go_wp2_with fail
              refine (goesOn_any op av w4).mono ?_
              rintro e w5 ⟨rfl,hb⟩
              rw [hg]
              have HX5:=Lib.hid (HX4.out.le hb)
              have HB5:=Lib.hid (bl_tr HB4.out hb)
              clear hb i0 i1 f5
              go_wp2_with fail
              rw [Exit.noGoto_ret]
              go_ret2
              obtain ⟨u1,u2⟩:=HR.out
              rw [HD.out] at u1 u2
              subst u1 u2
              exact ⟨rfl,HX5.out.bl⟩
            · have hg:=decide_eq_false hG
              have HN:=Lib.hid (step_no HT.out (show decide (insE ng na nh fs j nc code k ≠ 0)=false from by rw [HE.out,if_neg (fun h=>hG h.2)];rfl))
              clear hG hL
              go_wp2_with fail
              refine HC.out.mono ?_
              rintro e w4 ⟨rfl,hb⟩
              have HX4:=Lib.hid (HX3.out.le hb)
              have i0:w4.cell? ⟨bi,0,none⟩=some (.int .i64 op):=(HI3.out.le hb).cell rfl
              have i1:w4.cell? ⟨bi,1,none⟩=some (.int .i64 av):=(HI3.out.le hb).cell rfl
              have f5:w4.cell? ⟨W0.heap.size,5,none⟩=some (.slice (some ⟨g2,o2,none⟩) nc cc):=HX4.out.f.cell rfl
              have HB4:=Lib.hid (bl_tr HB3.out hb)
              clear hb m0 m1 m2 m3
              have hmm:=HM.out
              go_wp2_with fail
              refine (goesOn_any op av w4).mono ?_
              rintro e w5 ⟨rfl,hb⟩
              rw [hg]
              have HX5:=Lib.hid (HX4.out.le hb)
              have HB5:=Lib.hid (bl_tr HB4.out hb)
              clear hb i0 i1 f5
              go_wp2_with fail
              clear hw hl
              exact ⟨⟨k+1,k,by omega,by go_num,rfl,rfl,Lib.hid (.inr (by omega)),HB5,HN⟩,by simp [intOf];omega⟩
          · have hl:((k:Int) == (nc:Int) - 1)=false:=eqb (by omega)
            have hw:wrap64 ((nc:Int) - 1)=(nc:Int) - 1:=by have:=HM.out;unfold wrap64;omega
            have HN:=Lib.hid (step_no HT.out (show decide (insE ng na nh fs j nc code k ≠ 0)=false from by rw [HE.out,if_neg (fun h=>hL h.1)];rfl))
            clear hL
            go_wp2_with fail
            refine HC.out.mono ?_
            rintro e w4 ⟨rfl,hb⟩
            have HX4:=Lib.hid (HX3.out.le hb)
            have i0:w4.cell? ⟨bi,0,none⟩=some (.int .i64 op):=(HI3.out.le hb).cell rfl
            have i1:w4.cell? ⟨bi,1,none⟩=some (.int .i64 av):=(HI3.out.le hb).cell rfl
            have f5:w4.cell? ⟨W0.heap.size,5,none⟩=some (.slice (some ⟨g2,o2,none⟩) nc cc):=HX4.out.f.cell rfl
            have HB4:=Lib.hid (bl_tr HB3.out hb)
            clear hb m0 m1 m2 m3
            have hmm:=HM.out
            go_wp2_with fail
            clear hw hl
            exact ⟨⟨k+1,k,by omega,by go_num,rfl,rfl,Lib.hid (.inr (by omega)),HB4,HN⟩,by simp [intOf];omega⟩
        · have hne:(ev != 0)=true:=by simpa using hz
          have HD:=Lib.hid (codE_hit HT.out hlt (by rw [HE.out,if_pos hz]) hz)
          clear hz
          go_wp2_with fail
          refine HC.out.mono ?_
          rintro e w4 ⟨rfl,hb⟩
          have HX4:=Lib.hid (HX3.out.le hb)
          clear hb m0 m1 m2 m3 i0 i1
          go_wp2_with fail
          rw [Exit.noGoto_ret]
          go_ret2
          obtain ⟨u1,u2⟩:=HR.out
          rw [HD.out] at u1 u2
          subst u1 u2
          exact ⟨rfl,HX4.out.bl⟩
      · obtain rfl:k=nc:=by omega
        have HD:=Lib.hid (codE_no HT.out)
        have HX4:=Lib.hid (HX1.out.le HB.out)
        have HZ2:=Lib.hid (show z=(k:Int) - 1 from by have:=HZ.out trivial;rcases HZZ.out with ⟨h,_⟩ | h <;> omega)
        clear hlt hk
        go_wp2_with fail
        rw [Exit.noGoto_ret]
        go_ret2
        obtain ⟨u1,u2⟩:=HR.out
        rw [HD.out] at u1 u2
        subst u1 u2
        exact ⟨by rw [HZ2.out];rfl,HX4.out.bl⟩
  · have hne:(s != 0)=true:=by simpa using hz
    rw [if_pos hz]
    clear hz HZ
    go_enter Try.func20,Try.ntmps20
    go_wp2_with fail
    go_step3
    go_upto_region 1 with (fail)
    have HX0:=Lib.hid (InB.new w #[.slice qg ng cg,.slice qa na ca,.slice qh nh ch,.slice (some ⟨g,o,none⟩) nf cf] 26)
    have HB0:=Lib.hid (bl_al (Below.refl _ w) (.cells #[.slice qg ng cg,.slice qa na ca,.slice qh nh ch,.slice (some ⟨g,o,none⟩) nf cf] 26))
    generalize w.alloc (.cells #[.slice qg ng cg,.slice qa na ca,.slice qh nh ch,.slice (some ⟨g,o,none⟩) nf cf] 26)=W0 at *
    have m3:W0.cell? ⟨w.heap.size,3,none⟩=some (.slice (some ⟨g,o,none⟩) nf cf):=HX0.out.cell rfl
    go_wp2_with fail
    have HX:=Lib.hid (BxF.new' HB0.out HX0.out lv qp np cp qr nr cr lo st qc nc cc)
    generalize W0.alloc (.cells #[.int .u64 lv,.slice qp np cp,.slice qr nr cr,.int .i64 lo,.int .i64 st,.slice qc nc cc] 45)=W1 at *
    clear m3 HX0 HB0 a0 a1 a2 a3 a4 a5
    refine (sizes_any _ _ _ _ _ _ _ _ _ _ _ _ _).mono ?_
    rintro e w1 ⟨rfl,hb⟩
    rw [HS.out]
    have HX1:=Lib.hid (HX.out.le hb)
    clear hb HX
    go_wp2_with fail
    rw [Exit.noGoto_ret]
    go_ret2
    exact ⟨rfl,HX1.out.bl⟩
end
end Go.Proofs.Ythjkbfamkogoiaa
namespace Go.Proofs.Ythjkbfamkogoiaa
open Go Go.RowKit Go.Proofs.Mm Go.Sort
def faA (x:Int × Int × Int):Array Value:=#[.int .i64 x.1,.int .i64 x.2.1,.int .i64 x.2.2]
theorem chk_tab {ng na nh:Nat} {arrs:List (Int × Int)} {fs:List FnM} {a e:Int} (h:tabI ng na nh fs.length arrs=(a,e)) (he:e ≠ 0):chkE ng na nh arrs fs=(e,-1,a):=by
  rw [chkE,h,if_pos he]
theorem chk_hit {ng na nh:Nat} {arrs:List (Int × Int)} {fs:List FnM} {a a1 e1:Int} {k:Nat} (h:tabI ng na nh fs.length arrs=(a,0)) (ht:∀ j,j<k→decide ((fnE ng na nh fs j).2 ≠ 0)=false) (hk:k<fs.length) (he:fnE ng na nh fs k=(a1,e1)) (hz:e1 ≠ 0):chkE ng na nh arrs fs=(e1,(k:Int),a1):=by
  rw [chkE,h,if_neg (by simp),fst_some (k:=k) ht hk (by rw [he];exact decide_eq_true hz)]
  simp only [he]
theorem chk_none {ng na nh:Nat} {arrs:List (Int × Int)} {fs:List FnM} {a:Int} (h:tabI ng na nh fs.length arrs=(a,0)) (ht:∀ j,j<fs.length→decide ((fnE ng na nh fs j).2 ≠ 0)=false):chkE ng na nh arrs fs=(0,0,0):=by
  rw [chkE,h,if_neg (by simp),fst_none ht]
section
variable (qg:Option Addr) (ng cg:Nat) (qa:Option Addr) (na ca:Nat) (qh:Option Addr) (nh ch:Nat) (qf:Option Addr) (nf cf:Nat)
set_option maxRecDepth 100000 in
set_option maxHeartbeats 4000000 in
theorem Check_any {lt:Bool} {fs:List FnM} {arrs:List (Int × Int)} (hn:fs.length=nf) (hna:arrs.length=na) (hm:na≤140737488351232) (hmf:nf≤140737488351232) {w:World} (hF:FnAt lt (wC w) qf fs) (hA:ArAt (wC w) qa arrs) :
    Calls Try.prog 8 #[moV qg ng cg qa na ca qh nh ch qf nf cf] w fun e w'=>e=.returned (.agg (faA (chkE ng na nh arrs fs)))∧Below w.heap.size w w':=by
  have HT:=Lib.hid (fun W (hb:Below w.heap.size w W)=>tables_any qg ng cg qa na ca qh nh ch qf nf cf (w:=W) arrs hna hm (hA.le (below_cle hb)))
  have HF:=Lib.hid (fun W (hb:Below w.heap.size w W) j hj=>function_any qg ng cg qa na ca qh nh ch qf nf cf hn (w:=W) (hF.le (below_cle hb)) j hj)
  have HN:=Lib.hid hn
  obtain ⟨R,hR⟩:∃ R,chkE ng na nh arrs fs=R:=⟨_,rfl⟩
  have HR:=Lib.hid hR
  rw [hR]
  clear hF hA hR hna hm hn
  obtain ⟨b,hb⟩:∃ b,w.heap.size=b:=⟨_,rfl⟩
  obtain ⟨ta,te,htt⟩:∃ ta te,tabI ng na nh nf arrs=(ta,te):=⟨_,_,rfl⟩
  have HTT:=Lib.hid (show tabI ng na nh fs.length arrs=(ta,te) by rw [HN.out];exact htt)
  rw [htt] at HT
  clear htt
  go_enter Try.func8,Try.ntmps8
  go_wp2_with fail
  have hbA:Below w.heap.size w ((w.alloc (.cells #[.slice qg ng cg,.slice qa na ca,.slice qh nh ch,.slice qf nf cf] 26)).alloc (.cells #[.int .i64 0,.int .i64 0,.int .i64 0] 30)):=bl_al (bl_al (Below.refl _ w) _) _
  have j0:InB ((w.alloc (.cells #[.slice qg ng cg,.slice qa na ca,.slice qh nh ch,.slice qf nf cf] 26)).alloc (.cells #[.int .i64 0,.int .i64 0,.int .i64 0] 30)) b #[.slice qg ng cg,.slice qa na ca,.slice qh nh ch,.slice qf nf cf] 26:=hb ▸ (InB.new _ _ _).le (bl_al (Below.refl _ _) _)
  have j1:InB ((w.alloc (.cells #[.slice qg ng cg,.slice qa na ca,.slice qh nh ch,.slice qf nf cf] 26)).alloc (.cells #[.int .i64 0,.int .i64 0,.int .i64 0] 30)) (b+1) #[.int .i64 0,.int .i64 0,.int .i64 0] 30:=InB.new' _ _ (by simp [hb])
  generalize (w.alloc (.cells #[.slice qg ng cg,.slice qa na ca,.slice qh nh ch,.slice qf nf cf] 26)).alloc (.cells #[.int .i64 0,.int .i64 0,.int .i64 0] 30)=w0 at *
  try rw [hb]
  have HBB:=Lib.hid hb
  have HBA:=Lib.hid hbA
  have HJ0:=Lib.hid j0
  have HJ1:=Lib.hid j1
  clear hbA j0 j1
  go_at_call 19
  refine (HT.out _ HBA.out).mono ?_
  rintro e w1 ⟨rfl,hb1⟩
  have HB1:=Lib.hid hb1
  clear hb1 HT
  by_cases hte:te=0
  · subst hte
    have k3:w1.cell? ⟨b,3,none⟩=some (.slice qf nf cf):=(HJ0.out.le HB1.out).cell rfl
    have hne:((0:Int) != 0)=false:=by decide
    go_wp2_with fail
    clear k3
    go_loopw [21] (fun i wr=>∃ k:Nat,k≤nf∧i=.int .i64 k∧Hid (Below w0.heap.size w0 wr)∧Hid (∀ j,j<k→decide ((fnE ng na nh fs j).2 ≠ 0)=false)) (fun i _=>nf - (intOf i).toNat)
    case atStart=>exact ⟨0,Nat.zero_le _,rfl,HB1,Lib.hid (fun j h=>absurd h (by omega))⟩
    case round =>
      obtain ⟨k,hk,rfl,HB,HTT2⟩:=hrel
      have HY:=Lib.hid (HJ1.out.le HB.out)
      by_cases hlt:k<nf
      · have HC:=Lib.hid (HF.out wr (bl_tr HBA.out HB.out) k hlt)
        obtain ⟨fa,fe,hff⟩:∃ fa fe,fnE ng na nh fs k=(fa,fe):=⟨_,_,rfl⟩
        have HFF:=Lib.hid hff
        rw [hff] at HC
        clear hff
        have k0:wr.cell? ⟨b,0,none⟩=some (.slice qg ng cg):=(HJ0.out.le HB.out).cell rfl
        have k1:wr.cell? ⟨b,1,none⟩=some (.slice qa na ca):=(HJ0.out.le HB.out).cell rfl
        have k2:wr.cell? ⟨b,2,none⟩=some (.slice qh nh ch):=(HJ0.out.le HB.out).cell rfl
        have k3:wr.cell? ⟨b,3,none⟩=some (.slice qf nf cf):=(HJ0.out.le HB.out).cell rfl
        have hki:(k:Int)<(nf:Int):=by omega
        go_wp2_with fail
        refine HC.out.mono ?_
        rintro e w2 ⟨rfl,hb2⟩
        have HB2:=Lib.hid (bl_tr HB.out hb2)
        have HY:=Lib.hid (HY.out.le hb2)
        clear hb2 HC k0 k1 k2 k3
        by_cases hfe:fe=0
        · subst hfe
          have HS:=Lib.hid (step_no HTT2.out (show decide ((fnE ng na nh fs k).2 ≠ 0)=false from by rw [HFF.out];rfl))
          go_wp2_with fail
          exact ⟨⟨k+1,by omega,by go_num,HB2,HS⟩,by simp [intOf];omega⟩
        · have hne:(fe != 0)=true:=by simpa using hfe
          have HD:=Lib.hid (HR.out.symm.trans (chk_hit HTT.out HTT2.out (by rw [HN.out];exact hlt) HFF.out hfe))
          clear hfe hlt hki hk
          have r0:w2.cell? ⟨b+1,0,none⟩=some (.int .i64 0):=HY.out.cell rfl
          have r1:w2.cell? ⟨b+1,1,none⟩=some (.int .i64 0):=HY.out.cell rfl
          have r2:w2.cell? ⟨b+1,2,none⟩=some (.int .i64 0):=HY.out.cell rfl
          have g0:w2.frozen? ⟨b+1,0,none⟩=false:=free_of HY.out
          have g1:w2.frozen? ⟨b+1,1,none⟩=false:=free_of HY.out
          have g2:w2.frozen? ⟨b+1,2,none⟩=false:=free_of HY.out
          go_wp2
          have hW:=heap_set (heap_set (heap_set HY.out 0 (.int .i64 (fe))) 1 (.int .i64 ((k:Int)))) 2 (.int .i64 (fa))
          have hbs:=HBB.out
          have hWB:=(((bl_tr HBA.out HB2.out).setCell (p:=⟨b+1,0,none⟩) (by show w.heap.size≤b+1;omega) (.int .i64 (fe))).setCell (p:=⟨b+1,1,none⟩) (by show w.heap.size≤b+1;omega) (.int .i64 ((k:Int)))).setCell (p:=⟨b+1,2,none⟩) (by show w.heap.size≤b+1;omega) (.int .i64 (fa))
          generalize ((World.setCell _ _ _).setCell _ _).setCell _ _=wE at *
          have c0:=cell_of (j:=0) hW rfl
          have c1:=cell_of (j:=1) hW rfl
          have c2:=cell_of (j:=2) hW rfl
          exact bodyPost_ret (v:=.agg #[.int .i64 (fe),.int .i64 ((k:Int)),.int .i64 (fa)]) (by simp [results,Try.results8,go_sem,c0,c1,c2]) rfl ⟨by rw [HD.out];rfl,hWB⟩
      · have HD:=Lib.hid (HR.out.symm.trans (chk_none HTT.out (fun j hj=>HTT2.out j (by have:=HN.out;omega))))
        have r0:wr.cell? ⟨b+1,0,none⟩=some (.int .i64 0):=HY.out.cell rfl
        have r1:wr.cell? ⟨b+1,1,none⟩=some (.int .i64 0):=HY.out.cell rfl
        have r2:wr.cell? ⟨b+1,2,none⟩=some (.int .i64 0):=HY.out.cell rfl
        have g0:wr.frozen? ⟨b+1,0,none⟩=false:=free_of HY.out
        have g1:wr.frozen? ⟨b+1,1,none⟩=false:=free_of HY.out
        have g2:wr.frozen? ⟨b+1,2,none⟩=false:=free_of HY.out
        go_wp2
        have hW:=heap_set (heap_set (heap_set HY.out 0 (.int .i64 (0))) 1 (.int .i64 (0))) 2 (.int .i64 (0))
        have hbs:=HBB.out
        have hWB:=(((bl_tr HBA.out HB.out).setCell (p:=⟨b+1,0,none⟩) (by show w.heap.size≤b+1;omega) (.int .i64 (0))).setCell (p:=⟨b+1,1,none⟩) (by show w.heap.size≤b+1;omega) (.int .i64 (0))).setCell (p:=⟨b+1,2,none⟩) (by show w.heap.size≤b+1;omega) (.int .i64 (0))
        generalize ((World.setCell _ _ _).setCell _ _).setCell _ _=wE at *
        have c0:=cell_of (j:=0) hW rfl
        have c1:=cell_of (j:=1) hW rfl
        have c2:=cell_of (j:=2) hW rfl
        exact bodyPost_ret (v:=.agg #[.int .i64 (0),.int .i64 (0),.int .i64 (0)]) (by simp [results,Try.results8,go_sem,c0,c1,c2]) rfl ⟨by rw [HD.out];rfl,hWB⟩
  · have hne:(te != 0)=true:=by simpa using hte
    have HD:=Lib.hid (HR.out.symm.trans (chk_tab HTT.out hte))
    have HY:=Lib.hid (HJ1.out.le HB1.out)
    clear hte
    have r0:w1.cell? ⟨b+1,0,none⟩=some (.int .i64 0):=HY.out.cell rfl
    have r1:w1.cell? ⟨b+1,1,none⟩=some (.int .i64 0):=HY.out.cell rfl
    have r2:w1.cell? ⟨b+1,2,none⟩=some (.int .i64 0):=HY.out.cell rfl
    have g0:w1.frozen? ⟨b+1,0,none⟩=false:=free_of HY.out
    have g1:w1.frozen? ⟨b+1,1,none⟩=false:=free_of HY.out
    have g2:w1.frozen? ⟨b+1,2,none⟩=false:=free_of HY.out
    go_wp2
    have hW:=heap_set (heap_set (heap_set HY.out 0 (.int .i64 (te))) 1 (.int .i64 (-1))) 2 (.int .i64 (ta))
    have hbs:=HBB.out
    have hWB:=(((bl_tr HBA.out HB1.out).setCell (p:=⟨b+1,0,none⟩) (by show w.heap.size≤b+1;omega) (.int .i64 (te))).setCell (p:=⟨b+1,1,none⟩) (by show w.heap.size≤b+1;omega) (.int .i64 (-1))).setCell (p:=⟨b+1,2,none⟩) (by show w.heap.size≤b+1;omega) (.int .i64 (ta))
    generalize ((World.setCell _ _ _).setCell _ _).setCell _ _=wE at *
    have c0:=cell_of (j:=0) hW rfl
    have c1:=cell_of (j:=1) hW rfl
    have c2:=cell_of (j:=2) hW rfl
    exact bodyPost_ret (v:=.agg #[.int .i64 (te),.int .i64 (-1),.int .i64 (ta)]) (by simp [results,Try.results8,go_sem,c0,c1,c2]) rfl ⟨by rw [HD.out];rfl,hWB⟩
end
end Go.Proofs.Ythjkbfamkogoiaa
