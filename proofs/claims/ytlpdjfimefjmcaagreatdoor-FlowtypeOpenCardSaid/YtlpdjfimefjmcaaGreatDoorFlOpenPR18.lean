/- Package flowtype: Levels. (Written by a program.) -/
import Derived.Test.YtlpdjfimefjmcaaGreatDoorFlOpenPR15
import Derived.Test.YtlpdjfimefjmcaaGreatDoorFlOpenPR11
import Derived.Test.YtlpdjfimefjmcaaGreatDoorFlOpenPR3
open Go.Lib (hid)
namespace Go.Proofs.YtlpdjfimefjmcaaGreatDoor
open Go Go.RowKit Go.Proofs.Mm
theorem und_lbs:Tryz.prog.underlying 40=some (.slice 29):=by kernel_rfl
theorem infoLb:∃i,Tryz.prog.info? 29=some i∧i.zero=some (.int .u64 0)∧i.size=1∧i.bytes=8:=infoOf (by kernel_rfl)
def labs (L:List Nat):List Value:=L.map fun x=>Value.int .u64 (x:Nat)
theorem labs_snoc (L:List Nat) (x:Nat):labs (L++[x])=labs L++[.int .u64 (x:Nat)]:=by unfold labs;simp
theorem labs_len (L:List Nat):(labs L).length=L.length:=by unfold labs;simp
theorem labs_take (L:List Nat) (n:Nat):(labs L).take n=labs (L.take n):=by unfold labs;rw [List.map_take]
theorem own_cut {w:World} {B n m c:Nat} {E:TypeId} {q:Option Addr} {xs:List Value} (h:w.ownsRow B E 1 (.slice q n c) n xs) (hm:m≤n) (hp:0<m):w.ownsRow B E 1 (.slice q m c) m (xs.take m):=by
 obtain ⟨h1,⟨h2,h3⟩|⟨g,cap,cur,h2,h3,h4,h5,h6,h7,h8⟩⟩:=h
 ·omega
 ·injection h2 with a b e
  subst e
  refine ⟨by rw [List.length_take];omega,.inr ⟨g,c,cur,by rw [a],h3,h4,by omega,h6,h7,?_⟩⟩
  rw [←h8,List.take_take]
  congr 1
  omega
theorem own_cap {w:World} {B n c:Nat} {E:TypeId} {a:Addr} {xs:List Value} (h:w.ownsRow B E 1 (.slice (some a) n c) n xs):n≤c:=by
 obtain ⟨h1,⟨h2,h3⟩|⟨g,cap,cur,h2,h3,h4,h5,h6,h7,h8⟩⟩:=h
 ·injection h2 with a b e
  cases a
 ·injection h2 with a b e
  subst e
  omega
theorem own_lab {w:World} {B n c:Nat} {E:TypeId} {q:Option Addr} {L:List Nat} (h:w.ownsRow B E 1 (.slice q n c) n (labs L)) {j:Nat} (hj:j<L.length):∃g,q=some ⟨g,0,none⟩∧w.cell? ⟨g,j,none⟩=some (.int .u64 ((L.getD j 0:Nat):Int)):=by
 rcases own_rd h with ⟨_,_,_,h4⟩|⟨g,e,hc⟩
 ·have:=congrArg List.length h4
  rw [labs_len,List.length_nil] at this
  omega
 ·exact ⟨g,e,hc j _ (by unfold labs;simp [hj])⟩
structure TwoL (w:World) (n1 n2:Nat) (xs ys:List Value) (l k:Value) (w':World):Prop where
 one:w'.ownsRow w.heap.size 29 1 l n1 xs
 two:w'.ownsRow w.heap.size 29 1 k n2 ys
 apart:∀b,l.ownBlock=some b→k.ownBlock≠some b
 below:Below w.heap.size w w'
section
variable {w w' w'' w9:World} {n1 n2:Nat} {xs ys:List Value} {l k l' k':Value}
theorem TwoL.le (h:TwoL w n1 n2 xs ys l k w') (hb:Below w'.heap.size w' w''):TwoL w n1 n2 xs ys l k w'' :=
 ⟨own_chg h.one (Below.chg hb (Nat.le_refl _) (fun _=>False)) (fun _ _ e=>e),own_chg h.two (Below.chg hb (Nat.le_refl _) (fun _=>False)) (fun _ _ e=>e),h.apart,bl_tr h.below hb⟩
theorem TwoL.first (h:TwoL w n1 n2 xs ys l k w') {m1:Nat} {xs':List Value} (hR:w''.ownsRow w.heap.size 29 1 l' m1 xs') (hg:w'.grownBy w'' l.ownBlock) (hat:l'.ownBlock=l.ownBlock∨l'.ownBlock=some w'.heap.size):TwoL w m1 n2 xs' ys l' k w'':=by
 have hC:Chg (fun b=>l.ownBlock=some b) w' w'':=grown_chg hg (fun b hb=>.inl hb)
 refine ⟨hR,own_chg h.two hC (fun b hb hl=>h.apart b hl hb),fun b hb hk=>?_,?_⟩
 ·rcases hat with hat|hat
  ·exact h.apart b (hat ▸ hb) hk
  ·have h1:=hat.symm.trans hb
   injection h1 with h1
   have h2:=(h.two.lt b hk).2
   omega
 ·exact h.below.trans ⟨hg.os,hg.tape,hg.output,hg.size,fun b hb=>hg.block b (Nat.lt_of_lt_of_le hb h.below.size) (fun e=>absurd ((h.one.lt b e.symm).1) (by omega))⟩
theorem TwoL.second (h:TwoL w n1 n2 xs ys l k w') {m2:Nat} {ys':List Value} (hR:w''.ownsRow w.heap.size 29 1 k' m2 ys') (hg:w'.grownBy w'' k.ownBlock) (hat:k'.ownBlock=k.ownBlock∨k'.ownBlock=some w'.heap.size):TwoL w n1 m2 xs ys' l k' w'':=by
 have hC:Chg (fun b=>k.ownBlock=some b) w' w'':=grown_chg hg (fun b hb=>.inl hb)
 refine ⟨own_chg h.one hC (fun b hb hk=>h.apart b hb hk),hR,fun b hb hk=>?_,?_⟩
 ·rcases hat with hat|hat
  ·exact h.apart b hb (hat ▸ hk)
  ·have h1:=hat.symm.trans hk
   injection h1 with h1
   have h2:=(h.one.lt b hb).2
   omega
 ·exact h.below.trans ⟨hg.os,hg.tape,hg.output,hg.size,fun b hb=>hg.block b (Nat.lt_of_lt_of_le hb h.below.size) (fun e=>absurd ((h.two.lt b e.symm).1) (by omega))⟩
end
theorem TwoL.cut {w w':World} {n1 n2 c:Nat} {xs ys:List Value} {l:Value} {q:Option Addr} (h:TwoL w n1 n2 xs ys l (.slice q n2 c) w') {m:Nat} (hm:m≤n2) (hp:0<m):TwoL w n1 m xs (ys.take m) l (.slice q m c) w' :=
 ⟨h.one,own_cut h.two hm hp,fun b hb hk=>h.apart b hb (by cases q <;> exact hk),h.below⟩
open Syn in
theorem nest_step {x:StZ} {l:List StZ} {st:List Bool} (h:nest (((x::l).map StZ.kind).map Int.toNat) st=some []):∃st',nest ((l.map StZ.kind).map Int.toNat) st'=some []∧(if x.kind=5∨x.kind=7 then st'.length=st.length+1 else if x.kind=8 then st.length=st'.length+1 else st'.length=st.length)∧(x.kind=6→0<st.length):=by
 rw [List.map_cons,List.map_cons] at h
 generalize (l.map StZ.kind).map Int.toNat=ks at *
 generalize x.kind=z at *
 unfold nest at h
 have e5:z.toNat=5↔z=5:=by omega
 have e7:z.toNat=7↔z=7:=by omega
 have e6:z.toNat=6↔z=6:=by omega
 have e8:z.toNat=8↔z=8:=by omega
 simp only [e5,e6,e7,e8] at h
 by_cases h5:z=5
 ·subst h5;exact ⟨true::st,by simpa using h,by simp,by simp⟩
 rw [if_neg h5] at h
 by_cases h7:z=7
 ·subst h7;exact ⟨false::st,by simpa using h,by simp,by simp⟩
 rw [if_neg h7] at h
 by_cases h6:z=6
 ·subst h6
  rw [if_pos rfl] at h
  cases st with
  | nil=>cases h
  | cons b st =>
   cases b with
   | false=>cases h
   | true=>exact ⟨false::st,h,by simp,by simp⟩
 rw [if_neg h6] at h
 by_cases h8:z=8
 ·subst h8
  rw [if_pos rfl] at h
  cases st with
  | nil=>cases h
  | cons b st=>exact ⟨st,h,by simp,by simp⟩
 rw [if_neg h8] at h
 exact ⟨st,h,by simp [h5,h7,h8],fun e=>absurd e h6⟩
section
variable {W:World} {lt:Bool} {C:Cl} {s:SoZ} {q1:Option Addr} {c1:Nat} {q2:Option Addr} {c2:Nat} {q3:Option Addr} {c3:Nat} {q4:Option Addr} {c4:Nat} {q5:Option Addr} {c5:Nat}
def LvO (W:World) (R:List Nat) (e:Ending) (w':World):Prop:=∃v,e=.returned v∧Below W.heap.size W w'∧w'.ownsRow W.heap.size 29 1 v R.length (labs R)
theorem LvO.nil {w':World} (h:Below W.heap.size W w'):LvO W [] (.returned (.slice none 0 0)) w':=⟨_,rfl,h,World.ownsRow_nil _ _ _ _⟩
set_option maxRecDepth 100000 in
set_option maxHeartbeats 8000000 in
theorem levels_p (h:SrcO lt C s q1 c1 q2 c2 q3 c3 q4 c4 q5 c5) (hC:CLe C (wC W)) (f:Nat) (hf:f<s.funcs.length) :
 Calls Tryz.prog 11 #[.agg (srV s q1 c1 q2 c2 q3 c3 q4 c4 q5 c5),.int .i64 (f:Int)] W (LvO W (levelsZ s f)):=by
 have HXS:=hid (fun (w:World) (hw:Below W.heap.size W w) (l:List (List TmZ)) (q:Option Addr) (c m:Nat) (hm:m=l.length) (he:ExW lt C w q l) (hln:l.length<9223372036854775807)=>show Calls Tryz.prog 26 #[.agg (srV s q1 c1 q2 c2 q3 c3 q4 c4 q5 c5),.int .i64 (f:Int),.slice q m c] w (RetB (.int .u64 ((exsL s f l:Nat):Int)) w) from by
  subst hm;exact exprs_p (W:=w) h (hC.trans (below_cle hw)) f l he hln)
 have HXL:=hid (fun (l:List (List TmZ))=>show exsL s f l<u64B from exs_lt h f l 0 (by decide))
 have HIF:=hid (fun (w:World) (n1 n2 n3 n4 n5:Nat)=>isFunc_p (W:=w) (q1:=q1) (q2:=q2) (q3:=q3) (q4:=q4) (q5:=q5) (c1:=c1) (c2:=c2) (c3:=c3) (c4:=c4) (c5:=c5) n1 n2 n3 n4 n5 (f:Int))
 have HC:=hid hC
 obtain ⟨g,o,qp,cp,qr,cr,qv,cv,qb,cb,rfl,a0,a1,a2,a3,a4,a5,hlv,hp,hrr,hv,hb⟩:=h.fn.cells f hf
 have HBD:=hid hb.cells
 have hlb:=slx_len hb
 have HEN:=hid (fun (w:World) (hw:Below W.heap.size W w) (c n:Nat) (hn:s.funcs[f].body.length=n)=>ends_any (w:=w) (q:=qb) (c:=c) (n:=n) (s.funcs[f].body.map StZ.kind) (by rw [List.length_map];exact hn) (hb.cells.body (hC.trans (below_cle hw))) (by omega))
 have HR:=hid (show levelsZ s f=if nstZ (s.funcs[f].body.map StZ.kind) then lvF s f s.funcs[f].body [s.funcs[f].level] else [] from by
  unfold levelsZ;rw [List.getElem?_eq_getElem hf])
 have e0:W.cell? ⟨g,o+f*6,none⟩=some (.string s.funcs[f].name):=hC _ _ a0
 have e1:W.cell? ⟨g,o+f*6+1,none⟩=some (.int .u64 (s.funcs[f].level:Nat)):=hC _ _ a1
 have e2:W.cell? ⟨g,o+f*6+2,none⟩=some (.slice qp s.funcs[f].params.length cp):=hC _ _ a2
 have e3:W.cell? ⟨g,o+f*6+3,none⟩=some (.slice qr s.funcs[f].results.length cr):=hC _ _ a3
 have e4:W.cell? ⟨g,o+f*6+4,none⟩=some (.slice qv s.funcs[f].vars.length cv):=hC _ _ a4
 have e5:W.cell? ⟨g,o+f*6+5,none⟩=some (.slice qb s.funcs[f].body.length cb):=hC _ _ a5
 have hfi:(f:Int)<(s.funcs.length:Int):=by omega
 unfold srV at HXS ⊢
 unfold nstZ at HR
 generalize levelsZ s f=R at *
 clear a0 a1 a2 a3 a4 a5 hp hrr hv hb h hC
 generalize s.funcs[f]=d at *
 clear hf
 generalize s.principals.length=n1 at *
 generalize s.globals.length=n2 at *
 generalize s.arrays.length=n3 at *
 generalize s.channels.length=n4 at *
 generalize s.funcs.length=n5 at *
 generalize d.params.length=np at *
 generalize d.results.length=nr at *
 generalize d.vars.length=nv at *
 obtain ⟨n,hn⟩:∃n,d.body.length=n:=⟨_,rfl⟩
 have HN:=hid hn
 have HEN2:=hid (fun w hw c=>HEN.out w hw c n hn)
 rw [hn] at e5 hlb
 clear hn HEN
 obtain ⟨b,hb⟩:∃b,W.heap.size=b:=⟨_,rfl⟩
 have hglt:=World.block_lt_of_cell? _ _ e0
 go_enter Tryz.func11,Tryz.ntmps11
 go_wp2_with fail
 have hbA:=bl_al (Below.refl W.heap.size W) (.cells #[.slice q1 n1 c1,.slice q2 n2 c2,.slice q3 n3 c3,.slice q4 n4 c4,.slice (some ⟨g,o,none⟩) n5 c5] 27)
 have j0:=InB.new' (w:=W) #[.slice q1 n1 c1,.slice q2 n2 c2,.slice q3 n3 c3,.slice q4 n4 c4,.slice (some ⟨g,o,none⟩) n5 c5] 27 hb
 try rw [hb]
 generalize W.alloc (.cells #[.slice q1 n1 c1,.slice q2 n2 c2,.slice q3 n3 c3,.slice q4 n4 c4,.slice (some ⟨g,o,none⟩) n5 c5] 27)=w0 at *
 have HBA:=hid hbA
 have HJ0:=hid j0
 have HBN:=hid hb
 clear hb hbA j0
 go_at_call 24
 refine (HIF.out _ n1 n2 n3 n4 n5).mono ?_
 rintro e' w1 ⟨rfl,hb1⟩
 have HB1:=hid (bl_tr HBA.out hb1)
 have HJ1:=hid (HJ0.out.le hb1)
 clear hb1
 have hd:decide ((0:Int)≤f∧(f:Int)<n5)=true:=decide_eq_true (by omega)
 rw [hd]
 clear hd
 have y0:=cell_b e0 HB1.out
 have y1:=cell_b e1 HB1.out
 have y2:=cell_b e2 HB1.out
 have y3:=cell_b e3 HB1.out
 have y4:=cell_b e4 HB1.out
 have y5:=cell_b e5 HB1.out
 have hgl1:=World.block_lt_of_cell? _ _ y0
 obtain ⟨x0,x1,x2,x3,x4⟩:=five_cells' HJ1.out
 have hj1:=HJ1.out.lt
 have HB2:=hid (bl_al HB1.out (.cells #[.string d.name,.int .u64 (d.level:Nat),.slice qp np cp,.slice qr nr cr,.slice qv nv cv,.slice qb n cb] 43))
 have HJ2:=hid (HJ1.out.le (bl_al (Below.refl _ _) (.cells #[.string d.name,.int .u64 (d.level:Nat),.slice qp np cp,.slice qr nr cr,.slice qv nv cv,.slice qb n cb] 43)))
 have HI2:=hid (InB.new w1 #[.string d.name,.int .u64 (d.level:Nat),.slice qp np cp,.slice qr nr cr,.slice qv nv cv,.slice qb n cb] 43)
 obtain ⟨w2,hw2⟩:∃w2,w1.alloc (.cells #[.string d.name,.int .u64 (d.level:Nat),.slice qp np cp,.slice qr nr cr,.slice qv nv cv,.slice qb n cb] 43)=w2:=⟨_,rfl⟩
 rw [hw2] at HB2 HJ2 HI2
 go_upto_region 4 with fail
 try rw [hw2]
 obtain ⟨b5,hb5⟩:∃b5,w1.heap.size=b5:=⟨_,rfl⟩
 rw [hb5] at HI2
 try rw [hb5]
 clear hw2 hb5 y0 y1 y2 y3 y4 y5 hgl1 x0 x1 x2 x3 x4 hj1 e0 e1 e2 e3 e4 e5 hglt
 have z5:=HI2.out.cell (j:=5) rfl
 have hi2:=HI2.out.lt
 go_wp2_with fail
 go_at_call 12
 refine (HEN2.out _ HB2.out cb).mono ?_
 rintro e' w3 ⟨hb3,hr⟩
 have HB3:=hid (bl_tr HB2.out hb3)
 have HJ3:=hid (HJ2.out.le hb3)
 have HI3:=hid (HI2.out.le hb3)
 clear hb3 z5 hi2 HJ2 HI2
 cases hE:Syn.endsM ((d.body.map StZ.kind).map Int.toNat) with
 | none =>
  rw [hE] at hr
  obtain rfl:e'=_:=hr
  have HRR:=hid (show R=[] by rw [HR.out,hE];rfl)
  clear hE
  go_wp2
  go_ret
  rw [HRR.out]
  exact LvO.nil HB3.out
 | some p =>
 obtain ⟨es,ls⟩:=p
 rw [hE] at hr
 obtain ⟨qe,ce,qf,cf,H,rfl,-⟩:=hr
 have HNS:=hid (show Syn.nest ((d.body.drop 0 |>.map StZ.kind).map Int.toNat) []=some [] from by
  rw [List.drop_zero];exact (Syn.endsM_nest _).1 (by rw [hE];rfl))
 have HRR:=hid (show R=[]++lvF s f (d.body.drop 0) [d.level] by rw [HR.out,hE];rfl)
 clear hE HR
 have z1:=HI3.out.cell (j:=1) rfl
 have hi3:=HI3.out.lt
 have HB4:=hid (bl_al HB3.out (.cells #[.int .u64 (d.level:Nat)] 29))
 have HJ4:=hid (HJ3.out.le (bl_al (Below.refl _ _) (.cells #[.int .u64 (d.level:Nat)] 29)))
 have HI4:=hid (HI3.out.le (bl_al (Below.refl _ _) (.cells #[.int .u64 (d.level:Nat)] 29)))
 have HN4:=hid (InB.new w3 #[.int .u64 (d.level:Nat)] 29)
 have HTW:=hid (show TwoL w3 0 1 [] (labs [d.level]) (.slice none 0 0) (.slice (some ⟨w3.heap.size,0,none⟩) 1 1) (w3.alloc (.cells #[.int .u64 (d.level:Nat)] 29)) from
  ⟨World.ownsRow_nil _ _ _ _,⟨rfl,.inr ⟨w3.heap.size,1,_,rfl,Nat.le_refl _,World.alloc_heap_new _ _,Nat.le_refl _,by decide,rfl,rfl⟩⟩,(fun b hb=>nomatch hb),bl_al (Below.refl _ _) _⟩)
 obtain ⟨i1,hi1,hz1,hs1,hb1⟩:=infoLb
 go_upto_region 9 with fail
 obtain ⟨w4,hw4⟩:∃w4,w3.alloc (.cells #[.int .u64 (d.level:Nat)] 29)=w4:=⟨_,rfl⟩
 rw [hw4] at HB4 HJ4 HI4 HN4 HTW
 try rw [hw4]
 clear hw4 z1 hi3 HI3 HN4
 have z5:=HI4.out.cell (j:=5) rfl
 have hi4:=HI4.out.lt
 go_wp2_with fail
 clear z5 hi4
 go_loopw [9,10,39] (fun l r i wr=>∃(k:Nat) (row done:List Nat) (st:List Bool) (m:Nat) (qL:Option Addr) (cL:Nat) (qR:Option Addr) (cR:Nat),k≤n∧i=.int .i64 k∧l=.slice qL k cL∧r=.slice qR m cR∧Hid (m=row.length)∧m=st.length+1∧m≤k+1∧Hid (done.length=k)∧Hid (∀x∈row,x<u64B)∧Hid (Syn.nest ((d.body.drop k |>.map StZ.kind).map Int.toNat) st=some [])∧Hid (R=done++lvF s f (d.body.drop k) row)∧Hid (TwoL w3 k m (labs done) (labs row) (.slice qL k cL) (.slice qR m cR) wr)) (fun _ _ i _=>n - (intOf i).toNat)
 case atStart=>exact ⟨0,[d.level],[],[],1,none,0,_,1,Nat.zero_le _,rfl,rfl,rfl,hid rfl,rfl,by omega,hid rfl,hid (by intro x hx;rw [List.mem_singleton.1 hx];exact hlv),HNS,HRR,HTW⟩
 case round =>
  clear HTW HNS HRR
  obtain ⟨k,row,done,st,m,qL,cL,qR,cR,hk,rfl,rfl,rfl,HML,hst,hmk,HDL,HU,HNS,HRR,HTW⟩:=hrel
  obtain ⟨V,h9⟩:∃w,w=wr:=⟨_,rfl⟩
  subst h9
  have HBV:=hid (bl_tr HB3.out HTW.out.below)
  have hkb:n≤1954687339000:=by omega
  by_cases hlt:k<n
  ·have hk1:k<d.body.length:=by rw [HN.out];exact hlt
   obtain ⟨gb,ob,qt,ct,qe,ce,rfl,a0,a1,a2,a3,ht,he⟩:=HBD.out k hk1
   have hle:=HC.out.trans (below_cle HBV.out)
   have y0:=hle _ _ a0
   have y1:=hle _ _ a1
   have y2:=hle _ _ a2
   have y3:=hle _ _ a3
   unfold wC at y0 y1 y2 y3
   have hgb:=World.block_lt_of_cell? _ _ y0
   have HSL:=slx_len he
   have HEX:=hid (fun (w:World) (hw:Below W.heap.size W w)=>show ExW lt C w qe d.body[k].exprs from fun j hj=>by
    obtain ⟨g,o,q9,c9,e,b0,b1⟩:=he.cells j hj
    exact ⟨g,o,q9,c9,e,below_cle hw _ _ (HC.out _ _ b0),b1⟩)
   have HDR:=hid (show d.body.drop k=d.body[k]::d.body.drop (k+1) from List.drop_eq_getElem_cons hk1)
   have HNS2:=hid (nest_step (x:=d.body[k]) (l:=d.body.drop (k+1)) (st:=st) (by rw [←HDR.out];exact HNS.out))
   have HR2:=hid (show R=(done++[lvZ1 d.body[k] row])++lvF s f (d.body.drop (k+1)) (rowZ s f d.body[k] row) by rw [HRR.out,HDR.out,lvF,List.append_assoc];rfl)
   have HXX:=hid (fun w hw c=>HXS.out w hw d.body[k].exprs qe c d.body[k].exprs.length rfl (HEX.out w hw) (by omega))
   have HXL2:=hid (HXL.out d.body[k].exprs)
   have HLZ:=hid (show lvZ1 d.body[k] row=row.getD (arZ d.body[k] row - 1) 0 from rfl)
   have HAZ:=hid (show arZ d.body[k] row=if d.body[k].kind=6∨d.body[k].kind=8 then row.length - 1 else row.length from rfl)
   have HRZ:=hid (show rowZ s f d.body[k] row=if d.body[k].kind=5∨d.body[k].kind=7 then row++[lvZ1 d.body[k] row ||| exsL s f d.body[k].exprs] else if d.body[k].kind=8 then row.take (arZ d.body[k] row) else row from rfl)
   generalize rowZ s f d.body[k] row=row2 at *
   generalize lvZ1 d.body[k] row=lv at *
   generalize arZ d.body[k] row=ar at *
   generalize exsL s f d.body[k].exprs=ex at *
   clear a0 a1 a2 a3 ht he hle HEX HDR HNS HRR HSL
   obtain ⟨x,hx⟩:∃x,d.body[k]=x:=⟨_,rfl⟩
   rw [hx] at y0 y1 y2 y3 HNS2 HXX HAZ HRZ
   clear hx hk1
   obtain ⟨kd,xn,ts,es'⟩:=x
   simp only at y0 y1 y2 y3 HNS2 HXX HAZ HRZ
   generalize ts.length=nt at *
   generalize es'.length=ne at *
   have hki:(k:Int)<(n:Int):=by omega
   obtain ⟨st2,hn2,hs2,hs6⟩:=HNS2.out
   have HNS3:=hid hn2
   clear hn2 HNS2
   have HBX:=hid (bl_al HBV.out (.cells #[.int .i64 kd,.string xn,.slice qt nt ct,.slice qe ne ce] 47))
   have HIX:=hid (InB.new V #[.int .i64 kd,.string xn,.slice qt nt ct,.slice qe ne ce] 47)
   have HTX:=hid (HTW.out.le (bl_al (Below.refl _ _) (.cells #[.int .i64 kd,.string xn,.slice qt nt ct,.slice qe ne ce] 47)))
   obtain ⟨V2,hV2⟩:∃V2,V.alloc (.cells #[.int .i64 kd,.string xn,.slice qt nt ct,.slice qe ne ce] 47)=V2:=⟨_,rfl⟩
   have HLT:=hid (fun b (hb:(Value.slice qL k cL).ownBlock=some b)=>(HTW.out.one.lt b hb).2)
   obtain ⟨bx,hbx⟩:∃bx,V.heap.size=bx:=⟨_,rfl⟩
   rw [hV2] at HBX HIX HTX
   rw [hbx] at HIX HLT
   go_upto_region 12 with fail
   try rw [hV2]
   try rw [hbx]
   clear hV2 hbx y0 y1 y2 y3 hgb HTW HBV
   have z0:=HIX.out.cell (j:=0) (v:=.int .i64 kd) rfl
   have hxl:=HIX.out.lt
   subst hst
   have HTM:=hid (show st.length<row.length by rw [←HML.out];omega)
   have HLB:=hid (fun j (hj:j<row.length)=>show row.getD j 0<u64B from by rw [List.getD_eq_getElem?_getD,List.getElem?_eq_getElem hj];exact HU.out _ (List.getElem_mem hj))
   by_cases h5:kd=5∨kd=7
   ·rw [if_pos h5] at hs2
    have har:ar=st.length+1:=by rw [HAZ.out,if_neg (by omega),HML.out]
    obtain ⟨gR,eR,hcR⟩:=own_lab HTX.out.two HTM.out
    rw [show row.getD st.length 0=lv by rw [HLZ.out,har];rfl] at hcR
    have hgR:=World.block_lt_of_cell? _ _ hcR
    subst eR
    rcases h5 with rfl|rfl
    ·have HTA:=hid (HTX.out.le (bl_al (Below.refl _ _) (.cells #[.int .u64 (lv:Nat)] 29)))
     have HBA2:=hid (bl_al HBX.out (.cells #[.int .u64 (lv:Nat)] 29))
     have HNL:=hid (row_new V2 [.int .u64 (lv:Nat)] 29)
     have hbse:=HTA.out.below.size
     have hz3:=HIX.out.cell (j:=3) (v:=.slice qe ne ce) rfl
     have HZ:=hid (fun (V4:World) (hC:Chg (fun b=>(Value.slice qL k cL).ownBlock=some b) (V2.alloc (.cells #[.int .u64 (lv:Nat)] 29)) V4)=>And.intro (hC.cell (below_cle (bl_al (Below.refl _ _) _) _ _ z0) (fun e=>absurd (HLT.out _ e) (Nat.lt_irrefl _))) (hC.cell (below_cle (bl_al (Below.refl _ _) _) _ _ hz3) (fun e=>absurd (HLT.out _ e) (Nat.lt_irrefl _))))
     clear hz3
     go_wp2_with (at_builtin;refine wpList_append_own_at _ rfl _ _ 40 rfl w3.heap.size 29 i1 _ 1 8 und_lbs hi1 hz1 hs1 hb1 rfl (by decide) _ _ _ rfl HTA.out.one ⟨V2.heap.size,0,none⟩ 1 1 [.int .u64 (lv:Nat)] rfl rfl HNL.out (by intro u hu;obtain rfl:=List.mem_singleton.1 hu;rfl) (by unfold maxLen;omega) (by omega) hbse ?_)
     intro v4 V4 ho4 hg4 _ hat4
     obtain ⟨qM,cM,rfl⟩:=own_shape ho4
     have HT4:=hid (HTA.out.first ho4 hg4 (by rw [World.size_alloc];exact hat4))
     obtain ⟨z0',z3'⟩:=HZ.out V4 (grown_chg hg4 (fun b hb=>.inl hb))
     have HB5:=hid (bl_tr HB3.out HT4.out.below)
     have hxl4:=World.block_lt_of_cell? _ _ z0'
     clear ho4 hg4 hat4 HZ HNL HTA HBA2 hbse z0 hxl HTX HBX HIX HLT hgR hcR
     have HJ5:=hid (HJ3.out.le HT4.out.below)
     obtain ⟨x0,x1,x2,x3,x4⟩:=five_cells' HJ5.out
     have hj5:=HJ5.out.lt
     go_wp2_with fail
     refine (HXX.out V4 HB5.out ce).mono ?_
     rintro e' V5 ⟨rfl,hb5⟩
     have HT5:=hid (HT4.out.le hb5)
     have hlvb:lv<u64B:=by rw [HLZ.out,har];exact HLB.out _ HTM.out
     have hexb:=HXL2.out
     have hor:=or_lt hlvb hexb
     have HJN:=hid (join2_p lv ex hlvb hexb V5.heap.size (V5.alloc (.cells #[.int .u64 (lv:Nat),.int .u64 (ex:Nat)] 29)) (InB.new _ _ _))
     clear x0 x1 x2 x3 x4 hj5 hb5 z0' z3' hxl4 HJ5 HT4
     go_wp2_with fail
     go_at_call 25
     refine HJN.out.mono ?_
     rintro e' V6 ⟨rfl,rfl⟩
     have HT6:=hid (HT5.out.le (bl_al (bl_al (Below.refl _ _) (.cells #[.int .u64 (lv:Nat),.int .u64 (ex:Nat)] 29)) (.cells #[.int .u64 ((lv ||| ex:Nat):Int)] 29)))
     have HN6:=hid (row_new (V5.alloc (.cells #[.int .u64 (lv:Nat),.int .u64 (ex:Nat)] 29)) [.int .u64 ((lv ||| ex:Nat):Int)] 29)
     rw [World.size_alloc] at HN6
     have hbse:=HT6.out.below.size
     clear HJN
     go_wp2_with (at_builtin;refine wpList_append_own_at _ rfl _ _ 40 rfl w3.heap.size 29 i1 _ 1 8 und_lbs hi1 hz1 hs1 hb1 rfl (by decide) _ _ _ rfl HT6.out.two ⟨V5.heap.size+1,0,none⟩ 1 1 [.int .u64 ((lv ||| ex:Nat):Int)] rfl rfl HN6.out (by intro u hu;obtain rfl:=List.mem_singleton.1 hu;rfl) (by unfold maxLen;omega) (by omega) hbse ?_)
     intro v7 V7 ho7 hg7 _ hat7
     obtain ⟨qN,cN,rfl⟩:=own_shape ho7
     have HT7:=hid (HT6.out.second ho7 hg7 (by simpa only [World.size_alloc] using hat7))
     have hrz:row2=row++[lv ||| ex]:=by rw [HRZ.out];simp
     clear ho7 hg7 hat7 HT6 HN6 hbse
     go_wp2
     exact ⟨⟨k+1,row2,done++[lv],st2,st.length+1+1,qM,cM,qN,cN,by omega,by go_num,rfl,(by first|rfl|rw [hs2]),hid (by rw [hrz,List.length_append,←HML.out];rfl),by omega,by omega,hid (by rw [List.length_append,HDL.out];rfl),hid (by intro x hx;rw [hrz] at hx;rcases List.mem_append.1 hx with hx|hx;exact HU.out x hx;rw [List.mem_singleton.1 hx];exact hor),HNS3,hid (HR2.out),hid (by rw [labs_snoc];exact (by rw [hrz,labs_snoc];exact HT7.out))⟩,by simp [intOf];omega⟩
    ·have HTA:=hid (HTX.out.le (bl_al (Below.refl _ _) (.cells #[.int .u64 (lv:Nat)] 29)))
     have HBA2:=hid (bl_al HBX.out (.cells #[.int .u64 (lv:Nat)] 29))
     have HNL:=hid (row_new V2 [.int .u64 (lv:Nat)] 29)
     have hbse:=HTA.out.below.size
     have hz3:=HIX.out.cell (j:=3) (v:=.slice qe ne ce) rfl
     have HZ:=hid (fun (V4:World) (hC:Chg (fun b=>(Value.slice qL k cL).ownBlock=some b) (V2.alloc (.cells #[.int .u64 (lv:Nat)] 29)) V4)=>And.intro (hC.cell (below_cle (bl_al (Below.refl _ _) _) _ _ z0) (fun e=>absurd (HLT.out _ e) (Nat.lt_irrefl _))) (hC.cell (below_cle (bl_al (Below.refl _ _) _) _ _ hz3) (fun e=>absurd (HLT.out _ e) (Nat.lt_irrefl _))))
     clear hz3
     go_wp2_with (at_builtin;refine wpList_append_own_at _ rfl _ _ 40 rfl w3.heap.size 29 i1 _ 1 8 und_lbs hi1 hz1 hs1 hb1 rfl (by decide) _ _ _ rfl HTA.out.one ⟨V2.heap.size,0,none⟩ 1 1 [.int .u64 (lv:Nat)] rfl rfl HNL.out (by intro u hu;obtain rfl:=List.mem_singleton.1 hu;rfl) (by unfold maxLen;omega) (by omega) hbse ?_)
     intro v4 V4 ho4 hg4 _ hat4
     obtain ⟨qM,cM,rfl⟩:=own_shape ho4
     have HT4:=hid (HTA.out.first ho4 hg4 (by rw [World.size_alloc];exact hat4))
     obtain ⟨z0',z3'⟩:=HZ.out V4 (grown_chg hg4 (fun b hb=>.inl hb))
     have HB5:=hid (bl_tr HB3.out HT4.out.below)
     have hxl4:=World.block_lt_of_cell? _ _ z0'
     clear ho4 hg4 hat4 HZ HNL HTA HBA2 hbse z0 hxl HTX HBX HIX HLT hgR hcR
     have HJ5:=hid (HJ3.out.le HT4.out.below)
     obtain ⟨x0,x1,x2,x3,x4⟩:=five_cells' HJ5.out
     have hj5:=HJ5.out.lt
     go_wp2_with fail
     refine (HXX.out V4 HB5.out ce).mono ?_
     rintro e' V5 ⟨rfl,hb5⟩
     have HT5:=hid (HT4.out.le hb5)
     have hlvb:lv<u64B:=by rw [HLZ.out,har];exact HLB.out _ HTM.out
     have hexb:=HXL2.out
     have hor:=or_lt hlvb hexb
     have HJN:=hid (join2_p lv ex hlvb hexb V5.heap.size (V5.alloc (.cells #[.int .u64 (lv:Nat),.int .u64 (ex:Nat)] 29)) (InB.new _ _ _))
     clear x0 x1 x2 x3 x4 hj5 hb5 z0' z3' hxl4 HJ5 HT4
     go_wp2_with fail
     go_at_call 25
     refine HJN.out.mono ?_
     rintro e' V6 ⟨rfl,rfl⟩
     have HT6:=hid (HT5.out.le (bl_al (bl_al (Below.refl _ _) (.cells #[.int .u64 (lv:Nat),.int .u64 (ex:Nat)] 29)) (.cells #[.int .u64 ((lv ||| ex:Nat):Int)] 29)))
     have HN6:=hid (row_new (V5.alloc (.cells #[.int .u64 (lv:Nat),.int .u64 (ex:Nat)] 29)) [.int .u64 ((lv ||| ex:Nat):Int)] 29)
     rw [World.size_alloc] at HN6
     have hbse:=HT6.out.below.size
     clear HJN
     go_wp2_with (at_builtin;refine wpList_append_own_at _ rfl _ _ 40 rfl w3.heap.size 29 i1 _ 1 8 und_lbs hi1 hz1 hs1 hb1 rfl (by decide) _ _ _ rfl HT6.out.two ⟨V5.heap.size+1,0,none⟩ 1 1 [.int .u64 ((lv ||| ex:Nat):Int)] rfl rfl HN6.out (by intro u hu;obtain rfl:=List.mem_singleton.1 hu;rfl) (by unfold maxLen;omega) (by omega) hbse ?_)
     intro v7 V7 ho7 hg7 _ hat7
     obtain ⟨qN,cN,rfl⟩:=own_shape ho7
     have HT7:=hid (HT6.out.second ho7 hg7 (by simpa only [World.size_alloc] using hat7))
     have hrz:row2=row++[lv ||| ex]:=by rw [HRZ.out];simp
     clear ho7 hg7 hat7 HT6 HN6 hbse
     go_wp2
     exact ⟨⟨k+1,row2,done++[lv],st2,st.length+1+1,qM,cM,qN,cN,by omega,by go_num,rfl,(by first|rfl|rw [hs2]),hid (by rw [hrz,List.length_append,←HML.out];rfl),by omega,by omega,hid (by rw [List.length_append,HDL.out];rfl),hid (by intro x hx;rw [hrz] at hx;rcases List.mem_append.1 hx with hx|hx;exact HU.out x hx;rw [List.mem_singleton.1 hx];exact hor),HNS3,hid (HR2.out),hid (by rw [labs_snoc];exact (by rw [hrz,labs_snoc];exact HT7.out))⟩,by simp [intOf];omega⟩
   rw [if_neg h5] at hs2
   by_cases h6:kd=6
   ·subst h6
    have hp:=hs6 rfl
    have hs2:st2.length=st.length:=by simpa using hs2
    have har:ar=st.length:=by rw [HAZ.out,if_pos (.inl rfl),←HML.out];rfl
    have htm:=HTM.out
    obtain ⟨gR,eR,hcR⟩:=own_lab HTX.out.two (show st.length - 1<row.length by omega)
    rw [show row.getD (st.length - 1) 0=lv by rw [HLZ.out,har]] at hcR
    have hgR:=World.block_lt_of_cell? _ _ hcR
    subst eR
    have HTA:=hid (HTX.out.le (bl_al (Below.refl _ _) (.cells #[.int .u64 (lv:Nat)] 29)))
    have HBA2:=hid (bl_al HBX.out (.cells #[.int .u64 (lv:Nat)] 29))
    have HNL:=hid (row_new V2 [.int .u64 (lv:Nat)] 29)
    have hbse:=HTA.out.below.size
    have hz3:=HIX.out.cell (j:=3) (v:=.slice qe ne ce) rfl
    have HZ:=hid (fun (V4:World) (hC:Chg (fun b=>(Value.slice qL k cL).ownBlock=some b) (V2.alloc (.cells #[.int .u64 (lv:Nat)] 29)) V4)=>And.intro (hC.cell (below_cle (bl_al (Below.refl _ _) _) _ _ z0) (fun e=>absurd (HLT.out _ e) (Nat.lt_irrefl _))) (hC.cell (below_cle (bl_al (Below.refl _ _) _) _ _ hz3) (fun e=>absurd (HLT.out _ e) (Nat.lt_irrefl _))))
    clear hz3
    go_wp2_with (at_builtin;refine wpList_append_own_at _ rfl _ _ 40 rfl w3.heap.size 29 i1 _ 1 8 und_lbs hi1 hz1 hs1 hb1 rfl (by decide) _ _ _ rfl HTA.out.one ⟨V2.heap.size,0,none⟩ 1 1 [.int .u64 (lv:Nat)] rfl rfl HNL.out (by intro u hu;obtain rfl:=List.mem_singleton.1 hu;rfl) (by unfold maxLen;omega) (by omega) hbse ?_)
    intro v4 V4 ho4 hg4 _ hat4
    obtain ⟨qM,cM,rfl⟩:=own_shape ho4
    have HT4:=hid (HTA.out.first ho4 hg4 (by rw [World.size_alloc];exact hat4))
    obtain ⟨z0',z3'⟩:=HZ.out V4 (grown_chg hg4 (fun b hb=>.inl hb))
    have HB5:=hid (bl_tr HB3.out HT4.out.below)
    have hxl4:=World.block_lt_of_cell? _ _ z0'
    clear ho4 hg4 hat4 HZ HNL HTA HBA2 hbse z0 hxl HTX HBX HIX HLT hgR hcR
    have hrz:row2=row:=by rw [HRZ.out];simp
    go_wp2
    exact ⟨⟨k+1,row,done++[lv],st2,st.length+1,qM,cM,some ⟨gR,0,none⟩,cR,by omega,by go_num,rfl,(by first|rfl|rw [hs2]),hid (HML.out),by omega,by omega,hid (by rw [List.length_append,HDL.out];rfl),hid (HU.out),HNS3,hid (by rw [←hrz];exact HR2.out),hid (by rw [labs_snoc];exact HT4.out)⟩,by simp [intOf];omega⟩
   by_cases h8:kd=8
   ·subst h8
    rw [if_pos rfl] at hs2
    have har:ar=st.length:=by rw [HAZ.out,if_pos (.inr rfl),←HML.out];rfl
    have htm:=HTM.out
    obtain ⟨gR,eR,hcR⟩:=own_lab HTX.out.two (show st2.length<row.length by omega)
    rw [show row.getD st2.length 0=lv by rw [HLZ.out,har,hs2];rfl] at hcR
    have hgR:=World.block_lt_of_cell? _ _ hcR
    subst eR
    have HTA:=hid (HTX.out.le (bl_al (Below.refl _ _) (.cells #[.int .u64 (lv:Nat)] 29)))
    have HBA2:=hid (bl_al HBX.out (.cells #[.int .u64 (lv:Nat)] 29))
    have HNL:=hid (row_new V2 [.int .u64 (lv:Nat)] 29)
    have hbse:=HTA.out.below.size
    have hz3:=HIX.out.cell (j:=3) (v:=.slice qe ne ce) rfl
    have HZ:=hid (fun (V4:World) (hC:Chg (fun b=>(Value.slice qL k cL).ownBlock=some b) (V2.alloc (.cells #[.int .u64 (lv:Nat)] 29)) V4)=>And.intro (hC.cell (below_cle (bl_al (Below.refl _ _) _) _ _ z0) (fun e=>absurd (HLT.out _ e) (Nat.lt_irrefl _))) (hC.cell (below_cle (bl_al (Below.refl _ _) _) _ _ hz3) (fun e=>absurd (HLT.out _ e) (Nat.lt_irrefl _))))
    clear hz3
    go_wp2_with (at_builtin;refine wpList_append_own_at _ rfl _ _ 40 rfl w3.heap.size 29 i1 _ 1 8 und_lbs hi1 hz1 hs1 hb1 rfl (by decide) _ _ _ rfl HTA.out.one ⟨V2.heap.size,0,none⟩ 1 1 [.int .u64 (lv:Nat)] rfl rfl HNL.out (by intro u hu;obtain rfl:=List.mem_singleton.1 hu;rfl) (by unfold maxLen;omega) (by omega) hbse ?_)
    intro v4 V4 ho4 hg4 _ hat4
    obtain ⟨qM,cM,rfl⟩:=own_shape ho4
    have HT4:=hid (HTA.out.first ho4 hg4 (by rw [World.size_alloc];exact hat4))
    obtain ⟨z0',z3'⟩:=HZ.out V4 (grown_chg hg4 (fun b hb=>.inl hb))
    have HB5:=hid (bl_tr HB3.out HT4.out.below)
    have hxl4:=World.block_lt_of_cell? _ _ z0'
    clear ho4 hg4 hat4 HZ HNL HTA HBA2 hbse z0 hxl HTX HBX HIX HLT hgR hcR
    have hcp:=own_cap HT4.out.two
    have hrz:row2=row.take st.length:=by rw [HRZ.out,har];simp
    go_wp2
    exact ⟨⟨k+1,row2,done++[lv],st2,st.length,qM,cM,some ⟨gR,0,none⟩,cR,by omega,by go_num,rfl,(by first|rfl|rw [hs2]),hid (by rw [hrz,List.length_take];omega),by omega,by omega,hid (by rw [List.length_append,HDL.out];rfl),hid (by intro x hx;rw [hrz] at hx;exact HU.out x (List.mem_of_mem_take hx)),HNS3,hid (HR2.out),hid (by rw [labs_snoc];exact (by rw [hrz,←labs_take];exact HT4.out.cut (by omega) (by omega)))⟩,by simp [intOf];omega⟩
   rw [if_neg h8] at hs2
   have har:ar=st.length+1:=by rw [HAZ.out,if_neg (by omega),HML.out]
   obtain ⟨gR,eR,hcR⟩:=own_lab HTX.out.two HTM.out
   rw [show row.getD st.length 0=lv by rw [HLZ.out,har];rfl] at hcR
   have hgR:=World.block_lt_of_cell? _ _ hcR
   subst eR
   have n5:¬kd=5:=fun e=>h5 (.inl e)
   have n7:¬kd=7:=fun e=>h5 (.inr e)
   have e5:(kd == 5)=false:=by simpa using n5
   have e7:(kd == 7)=false:=by simpa using n7
   have e6:(kd == 6)=false:=by simpa using h6
   have e8:(kd == 8)=false:=by simpa using h8
   have HTA:=hid (HTX.out.le (bl_al (Below.refl _ _) (.cells #[.int .u64 (lv:Nat)] 29)))
   have HBA2:=hid (bl_al HBX.out (.cells #[.int .u64 (lv:Nat)] 29))
   have HNL:=hid (row_new V2 [.int .u64 (lv:Nat)] 29)
   have hbse:=HTA.out.below.size
   have hz3:=HIX.out.cell (j:=3) (v:=.slice qe ne ce) rfl
   have HZ:=hid (fun (V4:World) (hC:Chg (fun b=>(Value.slice qL k cL).ownBlock=some b) (V2.alloc (.cells #[.int .u64 (lv:Nat)] 29)) V4)=>And.intro (hC.cell (below_cle (bl_al (Below.refl _ _) _) _ _ z0) (fun e=>absurd (HLT.out _ e) (Nat.lt_irrefl _))) (hC.cell (below_cle (bl_al (Below.refl _ _) _) _ _ hz3) (fun e=>absurd (HLT.out _ e) (Nat.lt_irrefl _))))
   clear hz3
   go_wp2_with (at_builtin;refine wpList_append_own_at _ rfl _ _ 40 rfl w3.heap.size 29 i1 _ 1 8 und_lbs hi1 hz1 hs1 hb1 rfl (by decide) _ _ _ rfl HTA.out.one ⟨V2.heap.size,0,none⟩ 1 1 [.int .u64 (lv:Nat)] rfl rfl HNL.out (by intro u hu;obtain rfl:=List.mem_singleton.1 hu;rfl) (by unfold maxLen;omega) (by omega) hbse ?_)
   intro v4 V4 ho4 hg4 _ hat4
   obtain ⟨qM,cM,rfl⟩:=own_shape ho4
   have HT4:=hid (HTA.out.first ho4 hg4 (by rw [World.size_alloc];exact hat4))
   obtain ⟨z0',z3'⟩:=HZ.out V4 (grown_chg hg4 (fun b hb=>.inl hb))
   have HB5:=hid (bl_tr HB3.out HT4.out.below)
   have hxl4:=World.block_lt_of_cell? _ _ z0'
   clear ho4 hg4 hat4 HZ HNL HTA HBA2 hbse z0 hxl HTX HBX HIX HLT hgR hcR
   have hrz:row2=row:=by rw [HRZ.out];simp [n5,n7,h8]
   go_wp2
   exact ⟨⟨k+1,row,done++[lv],st2,st.length+1,qM,cM,some ⟨gR,0,none⟩,cR,by omega,by go_num,rfl,(by first|rfl|rw [hs2]),hid (HML.out),by omega,by omega,hid (by rw [List.length_append,HDL.out];rfl),hid (HU.out),HNS3,hid (by rw [←hrz];exact HR2.out),hid (by rw [labs_snoc];exact HT4.out)⟩,by simp [intOf];omega⟩
  ·obtain rfl:n=k:=by omega
   have HF:=hid (show R=done by rw [HRR.out,List.drop_of_length_le (by rw [HN.out];exact Nat.le_refl _)];simp [lvF])
   go_wp2
   go_ret
   refine ⟨_,rfl,HBV.out,?_⟩
   rw [HF.out,HDL.out]
   exact own_lower HTW.out.one HB3.out.size
end
end Go.Proofs.YtlpdjfimefjmcaaGreatDoor
