/- Package names: what a name stands for. Package names: Find. Package names: checks in a row. Package names: labels in order, a name where it is declared. Package names: a name outside of functions. Package names: the checks of one declaration, kind by kind. Package names: the checks of one declaratio -/
import Derived.Test.YtlpdjfimefjmcaaGreatDoorFlOpenPR5
import Derived.BigQuiet
import Derived.Deep.QuietTactic
import Derived.Laws.ResultCell
import Derived.RangeFuncRecord
import Derived.Laws.EntriesVeiled
import Derived.Laws.StructEq
import Derived.Deep.RegionHeldLaw
open Go.Lib (hid)
namespace Go.Proofs.YtlpdjfimefjmcaaGreatDoor
open Go Go.RowKit Go.Proofs.Mm
structure SrcO (lt:Bool) (C:Cl) (s:SoZ) (q1:Option Addr) (c1:Nat) (q2:Option Addr) (c2:Nat) (q3:Option Addr) (c3:Nat) (q4:Option Addr) (c4:Nat) (q5:Option Addr) (c5:Nat):Prop where
 pr:StrR lt C (.slice q1 s.principals.length c1) s.principals
 gl:DesR lt C (.slice q2 s.globals.length c2) s.globals
 ar:ArsR lt C (.slice q3 s.arrays.length c3) s.arrays
 ch:DesR lt C (.slice q4 s.channels.length c4) s.channels
 fn:FnsR lt C (.slice q5 s.funcs.length c5) s.funcs
theorem SrcR.opened {lt:Bool} {C:Cl} {v:Value} {s:SoZ} (h:SrcR lt C v s):∃q1 c1 q2 c2 q3 c3 q4 c4 q5 c5,v=.agg #[.slice q1 s.principals.length c1,.slice q2 s.globals.length c2,.slice q3 s.arrays.length c3,.slice q4 s.channels.length c4,.slice q5 s.funcs.length c5]∧SrcO lt C s q1 c1 q2 c2 q3 c3 q4 c4 q5 c5:=by
 obtain ⟨v1,v2,v3,v4,v5,rfl,h1,h2,h3,h4,h5⟩:=h
 obtain ⟨q1,c1,rfl⟩:=slx_shape h1
 obtain ⟨q2,c2,rfl⟩:=slx_shape h2
 obtain ⟨q3,c3,rfl⟩:=slx_shape h3
 obtain ⟨q4,c4,rfl⟩:=slx_shape h4
 obtain ⟨q5,c5,rfl⟩:=slx_shape h5
 exact ⟨q1,c1,q2,c2,q3,c3,q4,c4,q5,c5,rfl,⟨h1,h2,h3,h4,h5⟩⟩
theorem locZ_neg {s:SoZ} {f:Int} {n:ByteArray} (h:f<0):locZ s f n=none:=by unfold locZ;rw [if_pos h]
theorem locZ_out {s:SoZ} {j:Nat} {n:ByteArray} (h:s.funcs.length≤j):locZ s (j:Int) n=none:=by
 unfold locZ
 rw [if_neg (by omega),List.getElem?_eq_none (by simpa using h)]
theorem locZ_at {s:SoZ} {j:Nat} {n:ByteArray} (h:j<s.funcs.length):locZ s (j:Int) n=match idxZ (s.funcs[j].params.map DeZ.name) n with
 | some k=>some k
 | none=>(idxZ (s.funcs[j].vars.map DeZ.name) n).map (·+s.funcs[j].params.length):=by
 unfold locZ
 rw [if_neg (by omega),Int.toNat_natCast,List.getElem?_eq_getElem h]
 rfl
theorem idx_lt {l:List ByteArray} {n:ByteArray} {k:Nat} (h:idxZ l n=some k):k<l.length:=by
 unfold idxZ at h
 exact (List.findIdx?_eq_some_iff_getElem.1 h).1
theorem ret_i {a b:Int} (h:a=b):Ending.returned (.int .i64 a)=.returned (.int .i64 b):=by rw [h]
section
variable {lt:Bool} {C:Cl} {W:World} {s:SoZ} {q1:Option Addr} {c1:Nat} {q2:Option Addr} {c2:Nat} {q3:Option Addr} {c3:Nat} {q4:Option Addr} {c4:Nat} {q5:Option Addr} {c5:Nat}
set_option maxRecDepth 100000 in
set_option maxHeartbeats 2000000 in
theorem local_p (h:SrcO lt C s q1 c1 q2 c2 q3 c3 q4 c4 q5 c5) (hC:CLe C (wC W)) (f:Int) (nm:ByteArray) :
 Calls Tryz.prog 53 #[.agg #[.slice q1 s.principals.length c1,.slice q2 s.globals.length c2,.slice q3 s.arrays.length c3,.slice q4 s.channels.length c4,.slice q5 s.funcs.length c5],.int .i64 f,.string nm] W (RetB (.int .i64 (ixI (locZ s f nm))) W):=by
 by_cases h0:f<0
 ·rw [locZ_neg h0]
  go_enter Tryz.func53,Tryz.ntmps53
  go_wp2
  go_ret
  exact ⟨rfl,bl_al (Below.refl _ _) _⟩
 obtain ⟨j,rfl⟩:∃j:Nat,f=j:=⟨f.toNat,by omega⟩
 by_cases h1:s.funcs.length≤j
 ·rw [locZ_out h1]
  have h1':(s.funcs.length:Int)≤(j:Int):=by omega
  have h2':¬(j:Int)<(s.funcs.length:Int):=by omega
  clear h h1
  go_enter Tryz.func53,Tryz.ntmps53
  go_wp2
  go_ret
  exact ⟨rfl,bl_al (Below.refl _ _) _⟩
 have h1':¬(s.funcs.length:Int)≤(j:Int):=by omega
 have h2':(j:Int)<(s.funcs.length:Int):=by omega
 have hj:j<s.funcs.length:=by omega
 rw [locZ_at hj]
 obtain ⟨g,o,qp,cp,qr,cr,qv,cv,qb,cb,rfl,a0,a1,a2,a3,a4,a5,hl,hp,hr,hv,hb⟩:=h.fn.cells j hj
 generalize s.funcs[j]=d at *
 have HP:=hid (fun w (hb:Below W.heap.size W w)=>firstDe_p (W:=w) hp (hC.trans (below_cle hb)) nm)
 have HV:=hid (fun w (hb:Below W.heap.size W w)=>firstDe_p (W:=w) hv (hC.trans (below_cle hb)) nm)
 have e0:W.cell? ⟨g,o+j*6,none⟩=_:=hC _ _ a0
 have e1:W.cell? ⟨g,o+j*6+1,none⟩=_:=hC _ _ a1
 have e2:W.cell? ⟨g,o+j*6+2,none⟩=_:=hC _ _ a2
 have e3:W.cell? ⟨g,o+j*6+3,none⟩=_:=hC _ _ a3
 have e4:W.cell? ⟨g,o+j*6+4,none⟩=_:=hC _ _ a4
 have e5:W.cell? ⟨g,o+j*6+5,none⟩=_:=hC _ _ a5
 have hg:g<W.heap.size:=cell_lt e0
 have HPL:=hid (show d.params.length≤140737488351232 from by have:=slx_len hp;omega)
 have HVL:=hid (show d.vars.length≤140737488351232 from by have:=slx_len hv;omega)
 have HVI:=hid (fun k (h:idxZ (d.vars.map DeZ.name) nm=some k)=>show k<d.vars.length from by have:=idx_lt h;simpa using this)
 clear h hC a0 a1 a2 a3 a4 a5 hl hp hr hv hb h0 h1 hj
 generalize d.params.length=np at *
 generalize d.vars.length=nv at *
 generalize d.name=z0 at *
 generalize d.level=z1 at *
 generalize d.results.length=nr at *
 generalize d.body.length=nb at *
 generalize idxZ (d.params.map DeZ.name) nm=X at *
 generalize idxZ (d.vars.map DeZ.name) nm=Y at *
 generalize s.funcs.length=n5 at *
 generalize s.principals.length=n1 at *
 generalize s.globals.length=n2 at *
 generalize s.arrays.length=n3 at *
 generalize s.channels.length=n4 at *
 have hg2:∀o:Obj,g<(W.alloc o).heap.size:=fun o=>by simp;omega
 go_enter Tryz.func53,Tryz.ntmps53
 go_wp2_with fail
 go_quiet (fail)
 go_wp2_with fail
 go_at_call 54
 refine (HP.out _ (by repeat (first|exact Below.refl _ _|refine bl_al ?_ _|refine bl_dr ?_|refine bl_dN ?_ _))).mono ?_
 rintro e w1 ⟨rfl,hb1⟩
 have HB:=hid (bl_tr (by repeat (first|exact Below.refl _ _|refine bl_al ?_ _|refine bl_dr ?_|refine bl_dN ?_ _):Below W.heap.size W _) hb1)
 clear hb1
 cases X with
 | some k =>
  have ix1:ixI (some k)=(k:Int):=rfl
  have hk:(0:Int)≤(k:Int):=by omega
  rw [ix1]
  go_wp2
  go_ret
  exact ⟨rfl,HB.out⟩
 | none =>
  have ix1:ixI none=-1:=rfl
  rw [ix1]
  go_wp2_with fail
  go_at_call 54
  refine (HV.out _ HB.out).mono ?_
  rintro e w2 ⟨rfl,hb2⟩
  have HB2:=hid (bl_tr HB.out hb2)
  clear hb2
  cases Y with
  | none =>
   rw [ix1]
   go_wp2
   go_ret
   exact ⟨rfl,HB2.out⟩
  | some k =>
   have ix2:ixI (some k)=(k:Int):=rfl
   have hk:(0:Int)≤(k:Int):=by omega
   rw [ix2]
   go_wp2
   go_ret
   have h3:=HVI.out k rfl
   have h4:=HPL.out
   have h5:=HVL.out
   refine ⟨ret_i ?_,HB2.out⟩
   show wrap64 ((np:Int)+(k:Int))=((k+np:Nat):Int)
   unfold wrap64
   omega
def plZ (s:SoZ) (f:Int) (n:ByteArray) (k:Nat):Option Nat :=
 if k=1 then locZ s f n else if k=2 then idxZ (s.globals.map DeZ.name) n else if k=3 then idxZ (s.arrays.map ArZ.name) n else if k=4 then idxZ (s.channels.map DeZ.name) n else idxZ (s.funcs.map FnZ.name) n
theorem fnd_hit {s:SoZ} {f:Int} {n:ByteArray} {k x:Nat} (h1:1≤k) (h2:k≤5) (h:∀i,1≤i→i<k→plZ s f n i=none) (hx:plZ s f n k=some x):fndZ s f n=some (k,x):=by
 have hk:k=1∨k=2∨k=3∨k=4∨k=5:=by omega
 unfold plZ at h hx
 unfold fndZ
 rcases hk with rfl|rfl|rfl|rfl|rfl
 ·simp only [if_true] at hx
  rw [hx]
 ·have a1:=h 1 (by omega) (by omega)
  simp at a1 hx
  simp only [a1,hx]
 ·have a1:=h 1 (by omega) (by omega)
  have a2:=h 2 (by omega) (by omega)
  simp at a1 a2 hx
  simp only [a1,a2,hx]
 ·have a1:=h 1 (by omega) (by omega)
  have a2:=h 2 (by omega) (by omega)
  have a3:=h 3 (by omega) (by omega)
  simp at a1 a2 a3 hx
  simp only [a1,a2,a3,hx]
 ·have a1:=h 1 (by omega) (by omega)
  have a2:=h 2 (by omega) (by omega)
  have a3:=h 3 (by omega) (by omega)
  have a4:=h 4 (by omega) (by omega)
  simp at a1 a2 a3 a4 hx
  simp only [a1,a2,a3,a4,hx,Option.map_some]
theorem fnd_no {s:SoZ} {f:Int} {n:ByteArray} (h:∀i,1≤i→i<6→plZ s f n i=none):fndZ s f n=none:=by
 have a1:=h 1 (by omega) (by omega)
 have a2:=h 2 (by omega) (by omega)
 have a3:=h 3 (by omega) (by omega)
 have a4:=h 4 (by omega) (by omega)
 have a5:=h 5 (by omega) (by omega)
 unfold plZ at a1 a2 a3 a4 a5
 unfold fndZ
 simp at a1 a2 a3 a4 a5
 simp only [a1,a2,a3,a4,a5,Option.map_none]
set_option maxRecDepth 100000 in
set_option maxHeartbeats 2000000 in
theorem place_p (h:SrcO lt C s q1 c1 q2 c2 q3 c3 q4 c4 q5 c5) (hC:CLe C (wC W)) (f:Int) (nm:ByteArray) (k:Nat) (h1:1≤k) (h2:k≤5) :
 Calls Tryz.prog 29 #[.agg #[.slice q1 s.principals.length c1,.slice q2 s.globals.length c2,.slice q3 s.arrays.length c3,.slice q4 s.channels.length c4,.slice q5 s.funcs.length c5],.int .i64 f,.int .i64 (k:Int),.string nm] W (RetB (.int .i64 (ixI (plZ s f nm k))) W):=by
 have H1:=hid (fun w (hb:Below W.heap.size W w)=>local_p (W:=w) h (hC.trans (below_cle hb)) f nm)
 have H2:=hid (fun w (hb:Below W.heap.size W w)=>firstDe_p (W:=w) h.gl (hC.trans (below_cle hb)) nm)
 have H3:=hid (fun w (hb:Below W.heap.size W w)=>firstAr_p (W:=w) h.ar (hC.trans (below_cle hb)) nm)
 have H4:=hid (fun w (hb:Below W.heap.size W w)=>firstDe_p (W:=w) h.ch (hC.trans (below_cle hb)) nm)
 have H5:=hid (fun w (hb:Below W.heap.size W w)=>firstFn_p (W:=w) h.fn (hC.trans (below_cle hb)) nm)
 clear h hC
 have hk:k=1∨k=2∨k=3∨k=4∨k=5:=by omega
 clear h1 h2
 unfold plZ
 generalize s.principals.length=n1 at *
 generalize s.globals.length=n2 at *
 generalize s.arrays.length=n3 at *
 generalize s.channels.length=n4 at *
 generalize s.funcs.length=n5 at *
 rcases hk with rfl|rfl|rfl|rfl|rfl
 ·simp only [if_true]
  show Calls Tryz.prog 29 #[.agg #[.slice q1 n1 c1,.slice q2 n2 c2,.slice q3 n3 c3,.slice q4 n4 c4,.slice q5 n5 c5],.int .i64 f,.int .i64 1,.string nm] W _
  go_enter Tryz.func29,Tryz.ntmps29
  go_wp2_with (go_at_call 53;refine (H1.out _ (by repeat (first|exact Below.refl _ _|refine bl_al ?_ _))).mono ?_;rintro e w1 ⟨rfl,hb1⟩)
  go_ret
  exact ⟨rfl,bl_tr (by repeat (first|exact Below.refl _ _|refine bl_al ?_ _)) hb1⟩
 ·simp only [show ¬(2=1) from by decide,if_true,if_false]
  show Calls Tryz.prog 29 #[.agg #[.slice q1 n1 c1,.slice q2 n2 c2,.slice q3 n3 c3,.slice q4 n4 c4,.slice q5 n5 c5],.int .i64 f,.int .i64 2,.string nm] W _
  go_enter Tryz.func29,Tryz.ntmps29
  go_wp2_with (go_at_call 54;refine (H2.out _ (by repeat (first|exact Below.refl _ _|refine bl_al ?_ _))).mono ?_;rintro e w1 ⟨rfl,hb1⟩)
  go_ret
  exact ⟨rfl,bl_tr (by repeat (first|exact Below.refl _ _|refine bl_al ?_ _)) hb1⟩
 ·simp only [show ¬(3=1) from by decide,show ¬(3=2) from by decide,if_true,if_false]
  show Calls Tryz.prog 29 #[.agg #[.slice q1 n1 c1,.slice q2 n2 c2,.slice q3 n3 c3,.slice q4 n4 c4,.slice q5 n5 c5],.int .i64 f,.int .i64 3,.string nm] W _
  go_enter Tryz.func29,Tryz.ntmps29
  go_wp2_with (go_at_call 56;refine (H3.out _ (by repeat (first|exact Below.refl _ _|refine bl_al ?_ _))).mono ?_;rintro e w1 ⟨rfl,hb1⟩)
  go_ret
  exact ⟨rfl,bl_tr (by repeat (first|exact Below.refl _ _|refine bl_al ?_ _)) hb1⟩
 ·simp only [show ¬(4=1) from by decide,show ¬(4=2) from by decide,show ¬(4=3) from by decide,if_true,if_false]
  show Calls Tryz.prog 29 #[.agg #[.slice q1 n1 c1,.slice q2 n2 c2,.slice q3 n3 c3,.slice q4 n4 c4,.slice q5 n5 c5],.int .i64 f,.int .i64 4,.string nm] W _
  go_enter Tryz.func29,Tryz.ntmps29
  go_wp2_with (go_at_call 54;refine (H4.out _ (by repeat (first|exact Below.refl _ _|refine bl_al ?_ _))).mono ?_;rintro e w1 ⟨rfl,hb1⟩)
  go_ret
  exact ⟨rfl,bl_tr (by repeat (first|exact Below.refl _ _|refine bl_al ?_ _)) hb1⟩
 ·simp only [show ¬(5=1) from by decide,show ¬(5=2) from by decide,show ¬(5=3) from by decide,show ¬(5=4) from by decide,if_false]
  show Calls Tryz.prog 29 #[.agg #[.slice q1 n1 c1,.slice q2 n2 c2,.slice q3 n3 c3,.slice q4 n4 c4,.slice q5 n5 c5],.int .i64 f,.int .i64 5,.string nm] W _
  go_enter Tryz.func29,Tryz.ntmps29
  go_wp2_with (go_at_call 58;refine (H5.out _ (by repeat (first|exact Below.refl _ _|refine bl_al ?_ _))).mono ?_;rintro e w1 ⟨rfl,hb1⟩)
  go_ret
  exact ⟨rfl,bl_tr (by repeat (first|exact Below.refl _ _|refine bl_al ?_ _)) hb1⟩
end
def refV:Option (Nat × Nat)→Value
 | some (k,x)=>.tuple #[.agg #[.int .i64 (k:Int),.int .i64 (x:Int)],.bool true]
 | none=>.tuple #[.agg #[.int .i64 0,.int .i64 0],.bool false]
section
variable {lt:Bool} {C:Cl} {W:World} {s:SoZ} {q1:Option Addr} {c1:Nat} {q2:Option Addr} {c2:Nat} {q3:Option Addr} {c3:Nat} {q4:Option Addr} {c4:Nat} {q5:Option Addr} {c5:Nat}
set_option maxRecDepth 100000 in
set_option maxHeartbeats 4000000 in
theorem find_p (h:SrcO lt C s q1 c1 q2 c2 q3 c3 q4 c4 q5 c5) (hC:CLe C (wC W)) (f:Int) (nm:ByteArray) :
 Calls Tryz.prog 13 #[.agg #[.slice q1 s.principals.length c1,.slice q2 s.globals.length c2,.slice q3 s.arrays.length c3,.slice q4 s.channels.length c4,.slice q5 s.funcs.length c5],.int .i64 f,.string nm] W (RetB (refV (fndZ s f nm)) W):=by
 have HP:=hid (fun (k:Nat) (hk:1≤k∧k≤5) w (hb:Below W.heap.size W w)=>place_p (W:=w) h (hC.trans (below_cle hb)) f nm k hk.1 hk.2)
 have HH:=hid (fun (k x:Nat) (hk:1≤k∧k≤5)=>fnd_hit (s:=s) (f:=f) (n:=nm) (x:=x) hk.1 hk.2)
 have HN:=hid (fnd_no (s:=s) (f:=f) (n:=nm))
 clear h hC
 generalize s.principals.length=n1 at *
 generalize s.globals.length=n2 at *
 generalize s.arrays.length=n3 at *
 generalize s.channels.length=n4 at *
 generalize s.funcs.length=n5 at *
 generalize fndZ s f nm=R at *
 generalize plZ s f nm=P at *
 obtain ⟨b,hb⟩:∃b,W.heap.size=b:=⟨_,rfl⟩
 go_enter Tryz.func13,Tryz.ntmps13
 go_wp2_with fail
 obtain ⟨W2,hW2⟩:∃W2,(W.alloc (.cells #[.slice q1 n1 c1,.slice q2 n2 c2,.slice q3 n3 c3,.slice q4 n4 c4,.slice q5 n5 c5] 27)).alloc (.cells #[.int .i64 0,.int .i64 0] 54)=W2:=⟨_,rfl⟩
 have x0:W2.heap[b]?=some (.cells #[.slice q1 n1 c1,.slice q2 n2 c2,.slice q3 n3 c3,.slice q4 n4 c4,.slice q5 n5 c5] 27 (0,0)):=by
  rw [←hW2];exact heap_new _ _ (by rw [←hb];exact World.alloc_heap_new _ _)
 have x1:W2.heap[b+1]?=some (.cells #[.int .i64 0,.int .i64 0] 54 (0,0)):=by
  rw [←hW2,←hb]
  have:=World.alloc_heap_new (W.alloc (.cells #[.slice q1 n1 c1,.slice q2 n2 c2,.slice q3 n3 c3,.slice q4 n4 c4,.slice q5 n5 c5] 27)) (.cells #[.int .i64 0,.int .i64 0] 54)
  rw [World.size_alloc] at this
  exact this
 have HB2:=hid (show Below W.heap.size W W2 by rw [←hW2];exact bl_al (bl_al (Below.refl _ _) _) _)
 have hs2:W2.heap.size=b+2:=by rw [←hW2];simp [hb]
 have X0:=hid x0
 have X1:=hid x1
 rw [hW2]
 try rw [hb]
 clear x0 x1
 go_loopw [8] (fun i wr=>∃k:Nat,1≤k∧k≤6∧i=.int .i64 k∧Hid (Below W2.heap.size W2 wr)∧Hid (∀i,1≤i→i<k→P i=none)) (fun i _=>6 - (intOf i).toNat)
 case atStart=>exact ⟨1,by omega,by omega,rfl,hid (Below.refl _ _),hid (fun i h1 h2=>by omega)⟩
 case round =>
  obtain ⟨k,hk1,hk6,rfl,HB,HPN⟩:=hrel
  have hlt2:b+1<W2.heap.size:=by omega
  have y0:=(HB.out.block b (by omega)).trans X0.out
  have y1:=(HB.out.block (b+1) (by omega)).trans X1.out
  have z0:=cell_of (j:=0) y0 rfl
  have z1:=cell_of (j:=1) y0 rfl
  have z2:=cell_of (j:=2) y0 rfl
  have z3:=cell_of (j:=3) y0 rfl
  have z4:=cell_of (j:=4) y0 rfl
  clear y0
  have r0:=cell_of (j:=0) y1 rfl
  have r1:=cell_of (j:=1) y1 rfl
  by_cases hk5:k≤5
  ·have hki:(k:Int)≤5:=by omega
   have HK:=hid (And.intro hk1 hk5)
   go_wp2_with fail
   go_at_call 29
   refine (HP.out k HK.out _ (bl_tr HB2.out HB.out)).mono ?_
   rintro e w1 ⟨rfl,hb1⟩
   have HB3:=hid (bl_tr HB.out hb1)
   clear hb1
   cases hp:P k with
   | none =>
    have HPN2:=hid (show ∀i,1≤i→i<k+1→P i=none from fun i h1 h2=>by
     rcases Nat.lt_or_ge i k with h|h
     ·exact HPN.out i h1 h
     ·obtain rfl:i=k:=by omega
      exact hp)
    clear hp
    have ix1:ixI none=-1:=rfl
    rw [ix1]
    go_wp2
    exact ⟨⟨k+1,by omega,by omega,by go_num,HB3,HPN2⟩,by simp [intOf];omega⟩
   | some x =>
    have HR:=hid (HH.out k x HK.out HPN.out hp)
    clear hp
    have ix1:ixI (some x)=(x:Int):=rfl
    have hx0:(0:Int)≤(x:Int):=by omega
    rw [ix1]
    have y1':=(HB3.out.block (b+1) (by omega)).trans X1.out
    have r0':=cell_of (j:=0) y1' rfl
    have r1':=cell_of (j:=1) y1' rfl
    have f0:w1.frozen? ⟨b+1,0,none⟩=false:=free_of y1'
    have f1:w1.frozen? ⟨b+1,1,none⟩=false:=free_of y1'
    have HY:=hid y1'
    clear y1' y1 z0 z1 z2 z3 z4 r0 r1
    go_wp2
    have hW:=heap_set (heap_set HY.out 0 (.int .i64 (k:Int))) 1 (.int .i64 (x:Int))
    have hWB:=((bl_tr HB2.out HB3.out).setCell (p:=⟨b+1,0,none⟩) (by show W.heap.size≤b+1;omega) (.int .i64 (k:Int))).setCell (p:=⟨b+1,1,none⟩) (by show W.heap.size≤b+1;omega) (.int .i64 (x:Int))
    generalize (w1.setCell _ _).setCell _ _=wE at *
    have c0:=cell_of (j:=0) hW rfl
    have c1:=cell_of (j:=1) hW rfl
    exact bodyPost_ret (v:=refV (some (k,x))) (by simp [results,Tryz.results13,go_sem,refV,c0,c1]) rfl ⟨by rw [HR.out],hWB⟩
  ·obtain rfl:k=6:=by omega
   have HR:=hid (HN.out HPN.out)
   have f0:wr.frozen? ⟨b+1,0,none⟩=false:=free_of y1
   have f1:wr.frozen? ⟨b+1,1,none⟩=false:=free_of y1
   have HY:=hid y1
   clear z0 z1 z2 z3 z4 y1
   go_wp2
   have hW:=heap_set (heap_set HY.out 0 (.int .i64 0)) 1 (.int .i64 0)
   have hWB:=((bl_tr HB2.out HB.out).setCell (p:=⟨b+1,0,none⟩) (by show W.heap.size≤b+1;omega) (.int .i64 0)).setCell (p:=⟨b+1,1,none⟩) (by show W.heap.size≤b+1;omega) (.int .i64 0)
   generalize (wr.setCell _ _).setCell _ _=wE at *
   have c0:=cell_of (j:=0) hW rfl
   have c1:=cell_of (j:=1) hW rfl
   exact bodyPost_ret (v:=refV none) (by simp [results,Tryz.results13,go_sem,refV,c0,c1]) rfl ⟨by rw [HR.out],hWB⟩
end
def FunV (W:World) (u v:Value):Prop:=∃K ca,u=.func (.func K) #[] ca∧Ent K∧∀w,Below W.heap.size W w→Calls Tryz.prog K ca w (RetB v w)
theorem FunV.le {W W':World} {u v:Value} (h:FunV W u v) (hb:Below W.heap.size W W'):FunV W' u v:=by
 obtain ⟨K,ca,h1,h2,h3⟩:=h
 exact ⟨K,ca,h1,h2,fun w h=>h3 w (bl_tr hb h)⟩
def Makes (v:Value) (W:World) (e:Ending) (w':World):Prop:=∃u,e=.returned u∧Below W.heap.size W w'∧FunV w' u v
section
variable {W:World}
theorem unless_p (b:Bool) (x:Int) (W:World):Calls Tryz.prog 78 #[.bool b,.int .i64 x] W fun e w'=>e=.returned (.int .i64 (if b then 0 else x))∧W=w':=by
 cases b
 ·go_enter Tryz.func78,Tryz.ntmps78
  go_wp2
  go_ret
  exact ⟨rfl,rfl⟩
 ·go_enter Tryz.func78,Tryz.ntmps78
  go_wp2
  go_ret
  exact ⟨rfl,rfl⟩
set_option maxRecDepth 100000 in
set_option maxHeartbeats 1000000 in
theorem newNameC_p (n:ByteArray) (t:Bool) (b1 b2:Nat) (u:Value) (h1:W.cell? ⟨b1,0,none⟩=some (.string n)) (h2:W.cell? ⟨b2,0,none⟩=some u) (hu:FunV W u (.bool t)) :
 Calls Tryz.prog 120 #[.pointer (some ⟨b1,0,none⟩),.pointer (some ⟨b2,0,none⟩)] W (RetB (.int .i64 ((newE n t:Nat):Int)) W):=by
 obtain ⟨K,ca,rfl,ek,hc⟩:=hu
 unfold Ent at ek
 have HC:=hid (hc W (Below.refl _ _))
 have HN:=hid (name_p n W)
 unfold newE
 clear hc
 cases hz:nameZ n
 ·have HN2:=hid (hz ▸ HN.out)
  clear hz
  go_enter Tryz.func120,Tryz.ntmps120
  go_wp2_with (go_at_call 121;refine HN2.out.mono ?_;rintro e w1 ⟨rfl,rfl⟩)
  go_ret
  exact ⟨rfl,Below.refl _ _⟩
 ·have HN2:=hid (hz ▸ HN.out)
  clear hz
  go_enter Tryz.func120,Tryz.ntmps120
  go_wp2_with (go_at_call 121;refine HN2.out.mono ?_;rintro e w1 ⟨rfl,rfl⟩)
  refine HC.out.mono ?_
  rintro e w1 ⟨rfl,hb⟩
  have HB:=hid hb
  clear hb
  cases t
  ·go_wp2_with (go_at_call 78;refine (unless_p _ _ _).mono ?_;rintro e w2 ⟨rfl,rfl⟩)
   go_ret
   exact ⟨rfl,HB.out⟩
  ·go_wp2_with (go_at_call 78;refine (unless_p _ _ _).mono ?_;rintro e w2 ⟨rfl,rfl⟩)
   go_ret
   exact ⟨rfl,HB.out⟩
set_option maxRecDepth 100000 in
theorem newName_p (n:ByteArray) (t:Bool) (uv:Value) (hu:FunV W uv (.bool t)):Calls Tryz.prog 68 #[.string n,uv] W (Makes (.int .i64 ((newE n t:Nat):Int)) W):=by
 have hmf:∀(fn:Fn) (first cap:Array Value) (w:World),(Instr.makeFunc fn first cap).run Tryz.prog w=.ok (.func fn first cap) w:=fun _ _ _ _=>rfl
 have ek:Ent 120:=ent_of Tryz.func120 (by kernel_rfl) rfl
 have HU:=hid hu
 obtain ⟨K,ca,rfl,-,-⟩:=hu
 go_enter Tryz.func68,Tryz.ntmps68
 go_wp2
 go_ret
 have hb:Below W.heap.size W ((W.alloc (.cells #[.string n] 9)).alloc (.cells #[.func (.func K) #[] ca] 30)):=bl_al (bl_al (Below.refl _ _) _) _
 have k1:((W.alloc (.cells #[.string n] 9)).alloc (.cells #[.func (.func K) #[] ca] 30)).cell? ⟨W.heap.size,0,none⟩=some (.string n):=cell_b (new_cell W _ _) (bl_al (Below.refl _ _) _)
 have k2:((W.alloc (.cells #[.string n] 9)).alloc (.cells #[.func (.func K) #[] ca] 30)).cell? ⟨W.heap.size+1,0,none⟩=some (.func (.func K) #[] ca):=new_cell' _ _ (by simp)
 exact ⟨_,rfl,hb,_,_,rfl,ek,fun w h=>newNameC_p n t _ _ _ (cell_b k1 h) (cell_b k2 h) ((HU.out.le hb).le h)⟩
set_option maxRecDepth 100000 in
theorem lengthC_p (x:Int) (b1:Nat) (h1:W.cell? ⟨b1,0,none⟩=some (.int .i64 x)):Calls Tryz.prog 123 #[.pointer (some ⟨b1,0,none⟩)] W (RetB (.int .i64 ((unl (decide (1≤x∧x≤256)) 1:Nat):Int)) W):=by
 by_cases hx:1≤x
 ·by_cases hy:x≤256
  ·rw [decide_eq_true ⟨hx,hy⟩]
   go_enter Tryz.func123,Tryz.ntmps123
   go_wp2_with (go_at_call 78;refine (unless_p _ _ _).mono ?_;rintro e w2 ⟨rfl,rfl⟩)
   go_ret
   exact ⟨rfl,Below.refl _ _⟩
  ·rw [decide_eq_false (by omega)]
   go_enter Tryz.func123,Tryz.ntmps123
   go_wp2_with (go_at_call 78;refine (unless_p _ _ _).mono ?_;rintro e w2 ⟨rfl,rfl⟩)
   go_ret
   exact ⟨rfl,Below.refl _ _⟩
 ·rw [decide_eq_false (by omega)]
  go_enter Tryz.func123,Tryz.ntmps123
  go_wp2_with (go_at_call 78;refine (unless_p _ _ _).mono ?_;rintro e w2 ⟨rfl,rfl⟩)
  go_ret
  exact ⟨rfl,Below.refl _ _⟩
set_option maxRecDepth 100000 in
theorem length_p (x:Int):Calls Tryz.prog 74 #[.int .i64 x] W (Makes (.int .i64 ((unl (decide (1≤x∧x≤256)) 1:Nat):Int)) W):=by
 have hmf:∀(fn:Fn) (first cap:Array Value) (w:World),(Instr.makeFunc fn first cap).run Tryz.prog w=.ok (.func fn first cap) w:=fun _ _ _ _=>rfl
 have ek:Ent 123:=ent_of Tryz.func123 (by kernel_rfl) rfl
 go_enter Tryz.func74,Tryz.ntmps74
 go_wp2
 go_ret
 exact ⟨_,rfl,bl_al (Below.refl _ _) _,_,_,rfl,ek,fun w h=>lengthC_p x _ (cell_b (new_cell W _ _) h)⟩
def ChkRow (W:World) (q:Option Addr) (es:List Nat):Prop:=∀j (hj:j<es.length),(∀i (hi:i<es.length),i<j→es[i]=0)→∃g o K ca,q=some ⟨g,o,none⟩∧W.cell? ⟨g,o+j,none⟩=some (.func (.func K) #[] ca)∧FunV W (.func (.func K) #[] ca) (.int .i64 ((es[j]:Nat):Int))
theorem fst0_hit:∀{es:List Nat} {j:Nat} (hj:j<es.length),(∀i (hi:i<es.length),i<j→es[i]=0)→es[j]≠0→fst0 es=es[j]
 | e::es,0,_,_,hn=>by
  simp only [List.getElem_cons_zero] at hn ⊢
  unfold fst0;rw [if_neg hn]
 | e::es,j+1,hj,h,hn=>by
  have h0:=h 0 (by simp) (by omega)
  simp only [List.getElem_cons_zero] at h0
  simp only [List.getElem_cons_succ] at hn ⊢
  unfold fst0;rw [if_pos h0]
  exact fst0_hit (by simpa using hj) (fun i hi h3=>by have:=h (i+1) (by simpa using hi) (by omega);simpa using this) hn
theorem fst0_no:∀{es:List Nat},(∀i (hi:i<es.length),i<es.length→es[i]=0)→fst0 es=0
 | [],_=>rfl
 | e::es,h=>by
  have h0:=h 0 (by simp) (by simp)
  simp only [List.getElem_cons_zero] at h0
  unfold fst0;rw [if_pos h0]
  exact fst0_no (fun i hi _=>by have:=h (i+1) (by simpa using hi) (by simpa using hi);simpa using this)
set_option maxRecDepth 100000 in
set_option maxHeartbeats 2000000 in
theorem first_p (es:List Nat) (hl:es.length≤1000) {q:Option Addr} {c:Nat} (h:ChkRow W q es):Calls Tryz.prog 37 #[.slice q es.length c] W (RetB (.int .i64 ((fst0 es:Nat):Int)) W):=by
 obtain ⟨n,hn⟩:∃n,es.length=n:=⟨_,rfl⟩
 have HN:=hid hn
 have HR:=hid h
 rw [hn] at hl ⊢
 clear h hn
 go_enter Tryz.func37,Tryz.ntmps37
 go_wp2
 go_loopw [8] (fun i wr=>∃k:Nat,k≤n∧i=.int .i64 k∧Hid (Below W.heap.size W wr)∧Hid (∀i (hi:i<es.length),i<k→es[i]=0)) (fun i _=>n - (intOf i).toNat)
 case atStart=>exact ⟨0,Nat.zero_le _,rfl,hid (Below.refl _ _),hid (fun i _ h=>absurd h (by omega))⟩
 case round =>
  obtain ⟨k,hk,rfl,HB,HT⟩:=hrel
  by_cases hlt:k<n
  ·have hk1:k<es.length:=by rw [HN.out];exact hlt
   have HK:=hid hk1
   obtain ⟨g,o,K,ca,rfl,e0,hf⟩:=HR.out k hk1 HT.out
   have e1:=cell_b e0 HB.out
   obtain ⟨K',ca',e2,ek,hc⟩:=hf
   obtain ⟨rfl,rfl⟩:K=K'∧ca=ca':=by simpa using e2
   have HC:=hid (hc wr HB.out)
   unfold Ent at ek
   clear e0 e2 hc
   generalize hx:es[k]=x at HC
   have HS0:=hid (fun h:x=0=>show ∀i (hi:i<es.length),i<k+1→es[i]=0 from fun i hi h2=>by
    rcases Nat.lt_or_ge i k with h3|h3
    ·exact HT.out i hi h3
    ·have e:i=k:=by omega
     subst e
     exact hx.trans h)
   have HS1:=hid (fun h:x≠0=>show fst0 es=x from (fst0_hit HK.out HT.out (fun e=>h (hx.symm.trans e))).trans hx)
   clear hx hk1
   have hki:(k:Int)<(n:Int):=by omega
   go_wp2_with fail
   refine HC.out.mono ?_
   rintro e w1 ⟨rfl,hb⟩
   have HB3:=hid (bl_tr HB.out hb)
   clear hb HC
   by_cases h0:x=0
   ·have HT2:=hid (HS0.out h0)
    subst h0
    go_wp2_with fail
    exact ⟨⟨k+1,by omega,by go_num,HB3,HT2⟩,by simp [intOf];omega⟩
   ·have HT2:=hid (HS1.out h0)
    have hne:(((x:Nat):Int) != 0)=true:=by simpa using h0
    have hne2:(((x:Nat):Int) == 0)=false:=by simpa using h0
    go_wp2
    go_ret
    exact ⟨by rw [HT2.out];rfl,HB3.out⟩
  ·have HT2:=hid (fst0_no (es:=es) (fun i hi _=>HT.out i hi (by have:=HN.out;omega)))
   go_wp2
   go_ret
   exact ⟨by rw [HT2.out];rfl,HB.out⟩
end
theorem shr_eq {l n:Nat} (hl:l<u64B):((l:Int) / 2 ^ min n 64 == 0)=(l >>> n == 0):=by
 have h1:((l:Int) / 2 ^ min n 64)=((l / 2 ^ min n 64:Nat):Int):=by norm_cast
 rw [h1,Nat.shiftRight_eq_div_pow]
 rcases Nat.lt_or_ge 64 n with h|h
 ·rw [Nat.min_eq_right (by omega)]
  have h2:l / 2 ^ 64=0:=Nat.div_eq_of_lt (by unfold u64B at hl;omega)
  have h3:l / 2 ^ n=0:=Nat.div_eq_of_lt (Nat.lt_of_lt_of_le (show l<2 ^ 64 by unfold u64B at hl;omega) (Nat.pow_le_pow_right (by decide) (by omega)))
  rw [h2,h3];rfl
 ·rw [Nat.min_eq_left h,Bool.eq_iff_iff]
  simp only [beq_iff_eq]
  omega
section
variable {W:World}
set_option maxRecDepth 100000 in
theorem labC_p (l n:Nat) (hl:l<u64B) (b:Nat) (q:Option Addr) (c:Nat) (h1:W.cell? ⟨b,0,none⟩=some (.slice q n c)) :
 Calls Tryz.prog 79 #[.int .u64 (l:Nat),.pointer (some ⟨b,0,none⟩)] W (RetB (.bool (l >>> n == 0)) W):=by
 have hn:¬((n:Int)<0):=by omega
 go_enter Tryz.func79,Tryz.ntmps79
 go_wp2
 go_ret
 exact ⟨ret_bool (shr_eq hl),Below.refl _ _⟩
def lbsU (n:Nat) (l:List Nat):Nat:=unl (l.all fun x=>x >>> n == 0) 10
set_option maxRecDepth 100000 in
theorem labelsC_p (l:List Nat) (n:Nat) (b0 b1 b2:Nat) (q1:Option Addr) (c1:Nat) {q:Option Addr} {c:Nat} (hl:l.length≤9223372036854775807) (hrow:LaAt (wC W) q l)
 (h0:W.cell? ⟨b0,0,none⟩=some (.slice q1 n c1)) (h1:W.cell? ⟨b1,0,none⟩=some (.slice q l.length c)) (h2:W.cell? ⟨b2,0,none⟩=some (.func (.func 79) #[] #[.pointer (some ⟨b0,0,none⟩)])) :
 Calls Tryz.prog 80 #[.pointer (some ⟨b1,0,none⟩),.pointer (some ⟨b2,0,none⟩)] W (RetB (.int .i64 ((lbsU n l:Nat):Int)) W):=by
 have ek:Ent 79:=ent_of Tryz.func79 (by kernel_rfl) rfl
 have HI:=hid (allLa_p (c:=c) hl hrow (CLe.refl _) ek (ca:=#[.pointer (some ⟨b0,0,none⟩)]) (fun x=>x >>> n == 0) (fun k hk w hb=>labC_p _ n (by obtain ⟨_,_,_,_,h⟩:=hrow k hk;exact h) b0 q1 c1 (cell_b h0 hb)))
 have HU:=hid (show lbsU n l=unl (l.all fun x=>x >>> n == 0) 10 from rfl)
 clear hrow
 generalize l.length=m at *
 generalize lbsU n l=U at *
 generalize (l.all fun x=>x >>> n == 0)=r at *
 go_enter Tryz.func80,Tryz.ntmps80
 go_wp2_with fail
 go_at_call 81
 refine HI.out.mono ?_
 rintro e w1 ⟨rfl,hb⟩
 have HB:=hid hb
 clear hb
 cases r
 all_goals
  go_wp2_with (go_at_call 78;refine (unless_p _ _ _).mono ?_;rintro e w2 ⟨rfl,rfl⟩)
  go_ret
  exact ⟨by rw [HU.out];rfl,HB.out⟩
set_option maxRecDepth 100000 in
set_option maxHeartbeats 1000000 in
theorem labels_p (l:List Nat) (n:Nat) (q1:Option Addr) (c1:Nat) {q2 q3 q4 q5:Option Addr} {n2 n3 n4 n5 c2 c3 c4 c5:Nat} {q:Option Addr} {c:Nat} (hl:l.length≤9223372036854775807) (hrow:LaAt (wC W) q l) :
 Calls Tryz.prog 39 #[.agg #[.slice q1 n c1,.slice q2 n2 c2,.slice q3 n3 c3,.slice q4 n4 c4,.slice q5 n5 c5],.slice q l.length c] W (Makes (.int .i64 ((lbsU n l:Nat):Int)) W):=by
 have hmf:∀(fn:Fn) (first cap:Array Value) (w:World),(Instr.makeFunc fn first cap).run Tryz.prog w=.ok (.func fn first cap) w:=fun _ _ _ _=>rfl
 have ek2:Ent 80:=ent_of Tryz.func80 (by kernel_rfl) rfl
 have HR:=hid hrow
 clear hrow
 obtain ⟨m,hm⟩:∃m,l.length=m:=⟨_,rfl⟩
 have HM:=hid hm
 rw [hm] at hl ⊢
 clear hm
 go_enter Tryz.func39,Tryz.ntmps39
 go_wp2
 go_ret
 have hb:Below W.heap.size W (((W.alloc (.cells #[.slice q1 n c1,.slice q2 n2 c2,.slice q3 n3 c3,.slice q4 n4 c4,.slice q5 n5 c5] 27)).alloc (.cells #[.slice q m c] 40)).alloc (.cells #[.func (.func 79) #[] #[.pointer (some ⟨W.heap.size,0,none⟩)]] 125)):=bl_al (bl_al (bl_al (Below.refl _ _) _) _) _
 have k0:(W.alloc (.cells #[.slice q1 n c1,.slice q2 n2 c2,.slice q3 n3 c3,.slice q4 n4 c4,.slice q5 n5 c5] 27)).cell? ⟨W.heap.size,0,none⟩=some (.slice q1 n c1):=by rw [World.cell?_alloc_new];rfl
 have k1:((W.alloc (.cells #[.slice q1 n c1,.slice q2 n2 c2,.slice q3 n3 c3,.slice q4 n4 c4,.slice q5 n5 c5] 27)).alloc (.cells #[.slice q m c] 40)).cell? ⟨W.heap.size+1,0,none⟩=some (.slice q m c):=new_cell' _ _ (by simp)
 have k2:(((W.alloc (.cells #[.slice q1 n c1,.slice q2 n2 c2,.slice q3 n3 c3,.slice q4 n4 c4,.slice q5 n5 c5] 27)).alloc (.cells #[.slice q m c] 40)).alloc (.cells #[.func (.func 79) #[] #[.pointer (some ⟨W.heap.size,0,none⟩)]] 125)).cell? ⟨W.heap.size+2,0,none⟩=some (.func (.func 79) #[] #[.pointer (some ⟨W.heap.size,0,none⟩)]):=new_cell' _ _ (by simp)
 refine ⟨_,rfl,hb,_,_,rfl,ek2,fun w h=>?_⟩
 refine labelsC_p l n W.heap.size (W.heap.size+1) (W.heap.size+2) q1 c1 (q:=q) (c:=c) (by rw [HM.out];exact hl) (fun j hj=>?_) (cell_b (cell_b k0 (bl_al (bl_al (Below.refl _ _) _) _)) h) (by rw [HM.out];exact cell_b (cell_b k1 (bl_al (Below.refl _ _) _)) h) (cell_b k2 h)
 obtain ⟨g,o,e1,e2,e3⟩:=HR.out j hj
 exact ⟨g,o,e1,below_cle (bl_tr hb h) _ _ e2,e3⟩
end
def srV (s:SoZ) (q1:Option Addr) (c1:Nat) (q2:Option Addr) (c2:Nat) (q3:Option Addr) (c3:Nat) (q4:Option Addr) (c4:Nat) (q5:Option Addr) (c5:Nat):Array Value:=#[.slice q1 s.principals.length c1,.slice q2 s.globals.length c2,.slice q3 s.arrays.length c3,.slice q4 s.channels.length c4,.slice q5 s.funcs.length c5]
def InB (w:World) (b:Nat) (cs:Array Value) (T:TypeId):Prop:=w.heap[b]?=some (.cells cs T (0,0))
theorem InB.le {w w':World} {b:Nat} {cs:Array Value} {T:TypeId} (h:InB w b cs T) (hb:Below w.heap.size w w'):InB w' b cs T:=(hb.block b (heap_lt h)).trans h
theorem InB.cell {w:World} {b:Nat} {cs:Array Value} {T:TypeId} (h:InB w b cs T) {j:Nat} {v:Value} (hv:cs[j]?=some v):w.cell? ⟨b,j,none⟩=some v:=cell_of h hv
theorem InB.lt {w:World} {b:Nat} {cs:Array Value} {T:TypeId} (h:InB w b cs T):b<w.heap.size:=heap_lt h
theorem InB.new (w:World) (cs:Array Value) (T:TypeId):InB (w.alloc (.cells cs T)) w.heap.size cs T:=World.alloc_heap_new _ _
theorem InB.new' {w:World} {b:Nat} (cs:Array Value) (T:TypeId) (h:w.heap.size=b):InB (w.alloc (.cells cs T)) b cs T:=by subst h;exact InB.new _ _ _
theorem eqRef (a b c d:Int) (w:World):(Op.equalIn 10000 54 (.agg #[.int .i64 a,.int .i64 b]) (.agg #[.int .i64 c,.int .i64 d])).run Tryz.prog w=.ok (a == c && b == d) w:=by
 have u3:=Tryz.underlying3
 have hS:Tryz.prog.underlying 54=some (.struct (Tryz.prog.fieldsOf 54)):=by kernel_rfl
 have hp:Tryz.prog.stoodInHeld 54=false:=by kernel_rfl
 rw [show (10000:Nat)=9999+1 from rfl,run_equalIn_agg w 9999 54 _ _ hS hp]
 simp only [Program.fieldsOf,Tryz.underlying54]
 go_simp
 by_cases h1:a=c <;> by_cases h2:b=d <;> simp [h1,h2]
theorem neRef (a b c d:Int) (w:World):(binOp .neq 54 (.agg #[.int .i64 a,.int .i64 b]) (.agg #[.int .i64 c,.int .i64 d])).run Tryz.prog w=.ok (.bool (!(a == c && b == d))) w:=by
 rw [run_neq_struct,eqRef];rfl
section
variable {lt:Bool} {C:Cl} {W:World} {s:SoZ} {q1:Option Addr} {c1:Nat} {q2:Option Addr} {c2:Nat} {q3:Option Addr} {c3:Nat} {q4:Option Addr} {c4:Nat} {q5:Option Addr} {c5:Nat}
theorem find_q (h:SrcO lt C s q1 c1 q2 c2 q3 c3 q4 c4 q5 c5) (hC:CLe C (wC W)) (f:Int) (nm:ByteArray) :
 Calls Tryz.prog 13 #[.agg (srV s q1 c1 q2 c2 q3 c3 q4 c4 q5 c5),.int .i64 f,.string nm] W (RetB (refV (fndZ s f nm)) W):=find_p h hC f nm
theorem srV_cells {b:Nat} (h:InB W b (srV s q1 c1 q2 c2 q3 c3 q4 c4 q5 c5) 27):W.cell? ⟨b,0,none⟩=some (.slice q1 s.principals.length c1)∧W.cell? ⟨b,1,none⟩=some (.slice q2 s.globals.length c2)∧W.cell? ⟨b,2,none⟩=some (.slice q3 s.arrays.length c3)∧W.cell? ⟨b,3,none⟩=some (.slice q4 s.channels.length c4)∧W.cell? ⟨b,4,none⟩=some (.slice q5 s.funcs.length c5) :=
 ⟨h.cell rfl,h.cell rfl,h.cell rfl,h.cell rfl,h.cell rfl⟩
theorem two_cells {b:Nat} {x y:Value} {T:TypeId} (h:InB W b #[x,y] T):W.cell? ⟨b,0,none⟩=some x∧W.cell? ⟨b,1,none⟩=some y:=⟨h.cell rfl,h.cell rfl⟩
set_option maxRecDepth 100000 in
set_option maxHeartbeats 2000000 in
theorem declaredC_p (h:SrcO lt C s q1 c1 q2 c2 q3 c3 q4 c4 q5 c5) (hC:CLe C (wC W)) (nm:ByteArray) (kd k:Nat) (hk:1≤kd) (b0 b1 b2:Nat)
 (h0:InB W b0 (srV s q1 c1 q2 c2 q3 c3 q4 c4 q5 c5) 27) (h1:W.cell? ⟨b1,0,none⟩=some (.string nm)) (h2:InB W b2 #[.int .i64 (kd:Int),.int .i64 (k:Int)] 54) :
 Calls Tryz.prog 122 #[.pointer (some ⟨b0,0,none⟩),.pointer (some ⟨b1,0,none⟩),.pointer (some ⟨b2,0,none⟩)] W (RetB (.bool (fndZ s (-1) nm != some (kd,k))) W):=by
 have HF:=hid (find_q h hC (-1) nm)
 obtain ⟨x0,x1,x2,x3,x4⟩:=srV_cells h0
 have H2:=hid h2
 clear h hC h0 h2
 unfold srV at HF
 generalize s.principals.length=n1 at *
 generalize s.globals.length=n2 at *
 generalize s.arrays.length=n3 at *
 generalize s.channels.length=n4 at *
 generalize s.funcs.length=n5 at *
 generalize fndZ s (-1) nm=R at *
 go_enter Tryz.func122,Tryz.ntmps122
 go_wp2_with fail
 go_at_call 13
 refine HF.out.mono ?_
 rintro e w1 ⟨rfl,hb⟩
 have HB:=hid hb
 obtain ⟨y0,y1⟩:=two_cells (H2.out.le hb)
 have hlt:=(H2.out.le hb).lt
 clear hb x0 x1 x2 x3 x4
 cases R with
 | none =>
  unfold refV
  have hne:=neRef
  go_wp2
  go_ret
  refine ⟨ret_bool ?_,?_⟩
  ·have:((0:Int) == (kd:Int))=false:=by rw [beq_eq_false_iff_ne];omega
   rw [this];rfl
  ·repeat (first|exact HB.out|refine bl_al ?_ _|refine bl_dr ?_)
 | some x =>
  obtain ⟨k1,x1⟩:=x
  unfold refV
  have hne:=neRef
  go_wp2
  go_ret
  refine ⟨ret_bool ?_,?_⟩
  ·rw [Bool.eq_iff_iff]
   simp
   omega
  ·repeat (first|exact HB.out|refine bl_al ?_ _|refine bl_dr ?_)
set_option maxRecDepth 100000 in
set_option maxHeartbeats 2000000 in
theorem declared_p (h:SrcO lt C s q1 c1 q2 c2 q3 c3 q4 c4 q5 c5) (hC:CLe C (wC W)) (nm:ByteArray) (kd k:Nat) (hk:1≤kd) :
 Calls Tryz.prog 72 #[.agg (srV s q1 c1 q2 c2 q3 c3 q4 c4 q5 c5),.string nm,.agg #[.int .i64 (kd:Int),.int .i64 (k:Int)]] W (Makes (.int .i64 ((decE s nm (kd,k):Nat):Int)) W):=by
 have hmf:∀(fn:Fn) (first cap:Array Value) (w:World),(Instr.makeFunc fn first cap).run Tryz.prog w=.ok (.func fn first cap) w:=fun _ _ _ _=>rfl
 have ek:Ent 122:=ent_of Tryz.func122 (by kernel_rfl) rfl
 have HD:=hid (fun (w:World) (b0 b1 b2:Nat) (hb:Below W.heap.size W w)=>declaredC_p (W:=w) h (hC.trans (below_cle hb)) nm kd k hk b0 b1 b2)
 have HE:=hid (show decE s nm (kd,k)=newE nm (fndZ s (-1) nm != some (kd,k)) from rfl)
 clear h hC
 generalize decE s nm (kd,k)=E at *
 generalize (fndZ s (-1) nm != some (kd,k))=r at *
 unfold srV at HD ⊢
 generalize s.principals.length=n1 at *
 generalize s.globals.length=n2 at *
 generalize s.arrays.length=n3 at *
 generalize s.channels.length=n4 at *
 generalize s.funcs.length=n5 at *
 go_enter Tryz.func72,Tryz.ntmps72
 go_wp2_with fail
 have hb:Below W.heap.size W (((W.alloc (.cells #[.slice q1 n1 c1,.slice q2 n2 c2,.slice q3 n3 c3,.slice q4 n4 c4,.slice q5 n5 c5] 27)).alloc (.cells #[.string nm] 9)).alloc (.cells #[.int .i64 (kd:Int),.int .i64 (k:Int)] 54)):=bl_al (bl_al (bl_al (Below.refl _ _) _) _) _
 have i0:InB (((W.alloc (.cells #[.slice q1 n1 c1,.slice q2 n2 c2,.slice q3 n3 c3,.slice q4 n4 c4,.slice q5 n5 c5] 27)).alloc (.cells #[.string nm] 9)).alloc (.cells #[.int .i64 (kd:Int),.int .i64 (k:Int)] 54)) W.heap.size #[.slice q1 n1 c1,.slice q2 n2 c2,.slice q3 n3 c3,.slice q4 n4 c4,.slice q5 n5 c5] 27:=(InB.new _ _ _).le (bl_al (bl_al (Below.refl _ _) _) _)
 have i1:(((W.alloc (.cells #[.slice q1 n1 c1,.slice q2 n2 c2,.slice q3 n3 c3,.slice q4 n4 c4,.slice q5 n5 c5] 27)).alloc (.cells #[.string nm] 9)).alloc (.cells #[.int .i64 (kd:Int),.int .i64 (k:Int)] 54)).cell? ⟨W.heap.size+1,0,none⟩=some (.string nm):=cell_b (new_cell' _ _ (by simp)) (bl_al (Below.refl _ _) _)
 have i2:InB (((W.alloc (.cells #[.slice q1 n1 c1,.slice q2 n2 c2,.slice q3 n3 c3,.slice q4 n4 c4,.slice q5 n5 c5] 27)).alloc (.cells #[.string nm] 9)).alloc (.cells #[.int .i64 (kd:Int),.int .i64 (k:Int)] 54)) (W.heap.size+2) #[.int .i64 (kd:Int),.int .i64 (k:Int)] 54:=InB.new' _ _ (by simp)
 generalize ((W.alloc _).alloc _).alloc _=w0 at *
 have HB0:=hid hb
 have HF:=hid (show FunV w0 (.func (.func 122) #[] #[.pointer (some ⟨W.heap.size,0,none⟩),.pointer (some ⟨W.heap.size+1,0,none⟩),.pointer (some ⟨W.heap.size+2,0,none⟩)]) (.bool r) from
  ⟨_,_,rfl,ek,fun w hw=>HD.out w _ _ _ (bl_tr hb hw) (i0.le hw) (cell_b i1 hw) (i2.le hw)⟩)
 clear hb i0 i1 i2 HD ek
 go_at_call 68
 refine (newName_p nm r _ HF.out).mono ?_
 rintro e w1 ⟨u,rfl,hb1,hf1⟩
 have HB1:=hid (bl_tr HB0.out hb1)
 have HF1:=hid hf1
 clear hb1 hf1
 go_wp2
 go_ret
 exact ⟨u,rfl,HB1.out,by rw [HE.out];exact HF1.out⟩
end
def Rows1 (x:Nat) (W:World) (e:Ending) (w':World):Prop:=∃q c es,e=.returned (.slice q (List.length es) c)∧Below W.heap.size W w'∧ChkRow w' q es∧es.length≤1000∧fst0 es=x
theorem lb_eq (s:SoZ) (l:Nat):lbsU s.principals.length [l]=lblE s l:=by unfold lbsU lblE;simp
theorem chk1 {w:World} {b:Nat} {u:Value} {x:Nat} (h0:w.cell? ⟨b,0,none⟩=some u) (f0:FunV w u (.int .i64 ((x:Nat):Int))):ChkRow w (some ⟨b,0,none⟩) [x]:=by
 intro j hj _
 obtain rfl:j=0:=by simp at hj;omega
 obtain ⟨K,ca,rfl,hr⟩:=f0
 exact ⟨b,0,K,ca,rfl,h0,K,ca,rfl,hr⟩
theorem chk2 {w:World} {b:Nat} {u v:Value} {x y:Nat} (h:w.cell? ⟨b,0,none⟩=some u∧w.cell? ⟨b,1,none⟩=some v) (f0:FunV w u (.int .i64 ((x:Nat):Int))) (f1:FunV w v (.int .i64 ((y:Nat):Int))):ChkRow w (some ⟨b,0,none⟩) [x,y]:=by
 intro j hj _
 have hj2:j=0∨j=1:=by simp at hj;omega
 obtain ⟨K,ca,rfl,hr⟩:=f0
 obtain ⟨K',ca',rfl,hr'⟩:=f1
 rcases hj2 with rfl|rfl
 ·exact ⟨b,0,K,ca,rfl,h.1,K,ca,rfl,hr⟩
 ·exact ⟨b,0,K',ca',rfl,h.2,K',ca',rfl,hr'⟩
theorem chk3 {w:World} {b:Nat} {u v t:Value} {x y z:Nat} (h:w.cell? ⟨b,0,none⟩=some u∧w.cell? ⟨b,1,none⟩=some v∧w.cell? ⟨b,2,none⟩=some t) (f0:FunV w u (.int .i64 ((x:Nat):Int))) (f1:FunV w v (.int .i64 ((y:Nat):Int))) (f2:FunV w t (.int .i64 ((z:Nat):Int))):ChkRow w (some ⟨b,0,none⟩) [x,y,z]:=by
 intro j hj _
 have hj2:j=0∨j=1∨j=2:=by simp at hj;omega
 obtain ⟨K,ca,rfl,hr⟩:=f0
 obtain ⟨K',ca',rfl,hr'⟩:=f1
 obtain ⟨K2,ca2,rfl,hr2⟩:=f2
 rcases hj2 with rfl|rfl|rfl
 ·exact ⟨b,0,K,ca,rfl,h.1,K,ca,rfl,hr⟩
 ·exact ⟨b,0,K',ca',rfl,h.2.1,K',ca',rfl,hr'⟩
 ·exact ⟨b,0,K2,ca2,rfl,h.2.2,K2,ca2,rfl,hr2⟩
theorem Makes.fn {v:Value} {W:World} {e:Ending} {w':World} (h:Makes v W e w'):∃K ca,e=.returned (.func (.func K) #[] ca)∧Below W.heap.size W w'∧FunV w' (.func (.func K) #[] ca) v:=by
 obtain ⟨u,rfl,hb,K,ca,rfl,hr⟩:=h
 exact ⟨K,ca,rfl,hb,K,ca,rfl,hr⟩
theorem new_cell_d {W:World} {n:Nat} (v:Value) (T:TypeId) (h:W.heap.size=n):((W.alloc (.cells #[v] T)).drew).cell? ⟨n,0,none⟩=some v:=new_cell' v T h
theorem la_one {w:World} {b l:Nat} (h:w.cell? ⟨b,0,none⟩=some (.int .u64 (l:Nat))) (hl:l<u64B):LaAt (wC w) (some ⟨b,0,none⟩) [l]:=by
 intro j hj
 obtain rfl:j=0:=by simp at hj;omega
 exact ⟨b,0,rfl,h,hl⟩
section
variable {lt:Bool} {C:Cl} {W:World} {s:SoZ} {q1:Option Addr} {c1:Nat} {q2:Option Addr} {c2:Nat} {q3:Option Addr} {c3:Nat} {q4:Option Addr} {c4:Nat} {q5:Option Addr} {c5:Nat}
end
section
variable {lt:Bool} {C:Cl} {W:World} {s:SoZ} {q1:Option Addr} {c1:Nat} {q2:Option Addr} {c2:Nat} {q3:Option Addr} {c3:Nat} {q4:Option Addr} {c4:Nat} {q5:Option Addr} {c5:Nat}
set_option maxRecDepth 100000 in
set_option maxHeartbeats 16000000 in
theorem group2_p (h:SrcO lt C s q1 c1 q2 c2 q3 c3 q4 c4 q5 c5) (hC:CLe C (wC W)) (b0:Nat) (h0:InB W b0 (srV s q1 c1 q2 c2 q3 c3 q4 c4 q5 c5) 27) (k:Nat) (hk:k<s.globals.length) :
 Calls Tryz.prog 71 #[.int .i64 (k:Int),.pointer (some ⟨b0,0,none⟩)] W (Rows1 (glE s 2 s.globals k) W):=by
 have HD:=hid (fun (w:World) (hb:Below W.heap.size W w) nm=>declared_p (W:=w) h (hC.trans (below_cle hb)) nm 2 k (by decide))
 have HE:=hid (show glE s 2 s.globals k=fst0 [decE s s.globals[k].name (2,k),lblE s s.globals[k].label] by unfold glE;rw [List.getElem?_eq_getElem hk])
 have HLB:=hid (lb_eq s s.globals[k].label)
 obtain ⟨g,o,rfl,a0,a1,hlab⟩:=h.gl.cells k hk
 have e0:W.cell? ⟨g,o+k*2,none⟩=some (.string s.globals[k].name):=hC _ _ a0
 have e1:W.cell? ⟨g,o+k*2+1,none⟩=some (.int .u64 (s.globals[k].label:Nat)):=hC _ _ a1
 obtain ⟨x0,x1,x2,x3,x4⟩:=srV_cells h0
 have hki:(k:Int)<(s.globals.length:Int):=by omega
 generalize glE s 2 s.globals k=E at *
 generalize s.globals[k]=d at *
 obtain ⟨nm,lab⟩:=d
 simp only at *
 have HD2:=hid (fun w hb=>HD.out w hb nm)
 generalize decE s nm (2,k)=e1' at *
 generalize lblE s lab=e2' at *
 have hg:g<W.heap.size:=cell_lt e0
 have hb0:b0<W.heap.size:=h0.lt
 clear h hC a0 a1 h0 hk HD
 unfold srV at HD2
 generalize s.principals.length=n1 at *
 generalize s.globals.length=n2 at *
 generalize s.arrays.length=n3 at *
 generalize s.channels.length=n4 at *
 generalize s.funcs.length=n5 at *
 go_enter Tryz.func71,Tryz.ntmps71
 go_wp2_with fail
 have HBW:=hid (show Below W.heap.size W (W.alloc (.cells #[.string nm,.int .u64 (lab:Nat)] 37)) from bl_al (Below.refl _ _) _)
 have i4:InB (W.alloc (.cells #[.string nm,.int .u64 (lab:Nat)] 37)) W.heap.size #[.string nm,.int .u64 (lab:Nat)] 37:=InB.new _ _ _
 obtain ⟨b4,hb4⟩:∃b,W.heap.size=b:=⟨_,rfl⟩
 rw [hb4] at i4
 try rw [hb4]
 have z0:=cell_b x0 HBW.out
 have z1:=cell_b x1 HBW.out
 have z2:=cell_b x2 HBW.out
 have z3:=cell_b x3 HBW.out
 have z4:=cell_b x4 HBW.out
 have y0:=i4.cell (j:=0) (v:=.string nm) rfl
 have y1:=i4.cell (j:=1) (v:=.int .u64 (lab:Nat)) rfl
 generalize W.alloc (.cells #[.string nm,.int .u64 (lab:Nat)] 37)=w0 at *
 have HS:=hid (fun w' (hb:Below w0.heap.size w0 w')=>show w'.cell? ⟨b0,0,none⟩=some (.slice q1 n1 c1)∧w'.cell? ⟨b0,1,none⟩=some (.slice (some ⟨g,o,none⟩) n2 c2)∧w'.cell? ⟨b0,2,none⟩=some (.slice q3 n3 c3)∧w'.cell? ⟨b0,3,none⟩=some (.slice q4 n4 c4)∧w'.cell? ⟨b0,4,none⟩=some (.slice q5 n5 c5)∧w'.cell? ⟨b4,0,none⟩=some (.string nm)∧w'.cell? ⟨b4,1,none⟩=some (.int .u64 (lab:Nat)) from
  ⟨cell_b z0 hb,cell_b z1 hb,cell_b z2 hb,cell_b z3 hb,cell_b z4 hb,cell_b y0 hb,cell_b y1 hb⟩)
 have HHB:=hid hb4
 clear x0 x1 x2 x3 x4 e0 e1 i4 hb4 z0 z1 z2 z3 z4 y0 y1 hb0 hg
 go_region_held_law (fun w'=>w'.cell? ⟨b0,0,none⟩=some (.slice q1 n1 c1)∧w'.cell? ⟨b0,1,none⟩=some (.slice (some ⟨g,o,none⟩) n2 c2)∧w'.cell? ⟨b0,2,none⟩=some (.slice q3 n3 c3)∧w'.cell? ⟨b0,3,none⟩=some (.slice q4 n4 c4)∧w'.cell? ⟨b0,4,none⟩=some (.slice q5 n5 c5)∧w'.cell? ⟨b4,0,none⟩=some (.string nm)∧w'.cell? ⟨b4,1,none⟩=some (.int .u64 (lab:Nat)))
  ((refine HS.out _ ?_;repeat (first | exact Below.refl _ _ | refine bl_al ?_ _ | refine bl_dr ?_ | refine bl_tr ?_ hbl | refine bl_tr ?_ hbn | refine bl_tr ?_ hbd)))
  (first | (go_at_call 72;refine (HD2.out _ ?hbw).mono ?_;(case hbw=>refine bl_tr HBW.out ?_;repeat (first | exact Below.refl _ _ | refine bl_al ?_ _ | refine bl_dr ?_ | refine bl_tr ?_ hbl | refine bl_tr ?_ hbn | refine bl_tr ?_ hbd));rintro e wd hmk;obtain ⟨Kd,cd,rfl,hbd,hfd⟩:=hmk.fn) | (go_at_call 39;refine (labels_p [lab] n1 q1 c1 (by simp) ?hrow).mono ?_;(case hrow=>refine la_one ?_ hlab;first | exact new_cell' _ _ rfl | exact new_cell_d _ _ rfl | exact cell_b (new_cell' _ _ rfl) hbn | exact cell_b (new_cell_d _ _ rfl) hbn | exact cell_b (new_cell' _ _ rfl) hbd | exact cell_b (new_cell_d _ _ rfl) hbd | exact cell_b (cell_b (new_cell' _ _ rfl) hbd) hbn | exact cell_b (cell_b (new_cell_d _ _ rfl) hbd) hbn | exact cell_b (cell_b (new_cell' _ _ rfl) hbd) (bl_tr (bl_dr (Below.refl _ _)) hbn));rintro e wl hmk;obtain ⟨Kl,cl,rfl,hbl,hfl⟩:=hmk.fn))
 all_goals
  go_wp2
  go_ret
  have i9:InB (wl.alloc (.cells #[.func (.func Kd) #[] cd,.func (.func Kl) #[] cl] 90)) wl.heap.size _ _:=InB.new _ _ _
  refine ⟨_,2,[e1',e2'],rfl,?_,chk2 (two_cells i9) (hfd.le ?_) ?_,by simp,by rw [HE.out]⟩
  ·refine bl_tr HBW.out ?_
   repeat (first|exact Below.refl _ _|refine bl_al ?_ _|refine bl_dr ?_|refine bl_tr ?_ hbl|refine bl_tr ?_ hbn|refine bl_tr ?_ hbd)
  ·repeat (first|exact Below.refl _ _|refine bl_al ?_ _|refine bl_dr ?_|refine bl_tr ?_ hbl|refine bl_tr ?_ hbn|refine bl_tr ?_ hbd)
  ·rw [HLB.out] at hfl
   refine hfl.le ?_
   repeat (first|exact Below.refl _ _|refine bl_al ?_ _|refine bl_dr ?_|refine bl_tr ?_ hbl|refine bl_tr ?_ hbn|refine bl_tr ?_ hbd)
end
section
variable {lt:Bool} {C:Cl} {W:World} {s:SoZ} {q1:Option Addr} {c1:Nat} {q2:Option Addr} {c2:Nat} {q3:Option Addr} {c3:Nat} {q4:Option Addr} {c4:Nat} {q5:Option Addr} {c5:Nat}
set_option maxRecDepth 100000 in
set_option maxHeartbeats 16000000 in
theorem group4_p (h:SrcO lt C s q1 c1 q2 c2 q3 c3 q4 c4 q5 c5) (hC:CLe C (wC W)) (b0:Nat) (h0:InB W b0 (srV s q1 c1 q2 c2 q3 c3 q4 c4 q5 c5) 27) (k:Nat) (hk:k<s.channels.length) :
 Calls Tryz.prog 75 #[.int .i64 (k:Int),.pointer (some ⟨b0,0,none⟩)] W (Rows1 (glE s 4 s.channels k) W):=by
 have HD:=hid (fun (w:World) (hb:Below W.heap.size W w) nm=>declared_p (W:=w) h (hC.trans (below_cle hb)) nm 4 k (by decide))
 have HE:=hid (show glE s 4 s.channels k=fst0 [decE s s.channels[k].name (4,k),lblE s s.channels[k].label] by unfold glE;rw [List.getElem?_eq_getElem hk])
 have HLB:=hid (lb_eq s s.channels[k].label)
 obtain ⟨g,o,rfl,a0,a1,hlab⟩:=h.ch.cells k hk
 have e0:W.cell? ⟨g,o+k*2,none⟩=some (.string s.channels[k].name):=hC _ _ a0
 have e1:W.cell? ⟨g,o+k*2+1,none⟩=some (.int .u64 (s.channels[k].label:Nat)):=hC _ _ a1
 obtain ⟨x0,x1,x2,x3,x4⟩:=srV_cells h0
 have hki:(k:Int)<(s.channels.length:Int):=by omega
 generalize glE s 4 s.channels k=E at *
 generalize s.channels[k]=d at *
 obtain ⟨nm,lab⟩:=d
 simp only at *
 have HD2:=hid (fun w hb=>HD.out w hb nm)
 generalize decE s nm (4,k)=e1' at *
 generalize lblE s lab=e2' at *
 have hg:g<W.heap.size:=cell_lt e0
 have hb0:b0<W.heap.size:=h0.lt
 clear h hC a0 a1 h0 hk HD
 unfold srV at HD2
 generalize s.principals.length=n1 at *
 generalize s.globals.length=n2 at *
 generalize s.arrays.length=n3 at *
 generalize s.channels.length=n4 at *
 generalize s.funcs.length=n5 at *
 go_enter Tryz.func75,Tryz.ntmps75
 go_wp2_with fail
 have HBW:=hid (show Below W.heap.size W (W.alloc (.cells #[.string nm,.int .u64 (lab:Nat)] 37)) from bl_al (Below.refl _ _) _)
 have i4:InB (W.alloc (.cells #[.string nm,.int .u64 (lab:Nat)] 37)) W.heap.size #[.string nm,.int .u64 (lab:Nat)] 37:=InB.new _ _ _
 obtain ⟨b4,hb4⟩:∃b,W.heap.size=b:=⟨_,rfl⟩
 rw [hb4] at i4
 try rw [hb4]
 have z0:=cell_b x0 HBW.out
 have z1:=cell_b x1 HBW.out
 have z2:=cell_b x2 HBW.out
 have z3:=cell_b x3 HBW.out
 have z4:=cell_b x4 HBW.out
 have y0:=i4.cell (j:=0) (v:=.string nm) rfl
 have y1:=i4.cell (j:=1) (v:=.int .u64 (lab:Nat)) rfl
 generalize W.alloc (.cells #[.string nm,.int .u64 (lab:Nat)] 37)=w0 at *
 have HS:=hid (fun w' (hb:Below w0.heap.size w0 w')=>show w'.cell? ⟨b0,0,none⟩=some (.slice q1 n1 c1)∧w'.cell? ⟨b0,1,none⟩=some (.slice q2 n2 c2)∧w'.cell? ⟨b0,2,none⟩=some (.slice q3 n3 c3)∧w'.cell? ⟨b0,3,none⟩=some (.slice (some ⟨g,o,none⟩) n4 c4)∧w'.cell? ⟨b0,4,none⟩=some (.slice q5 n5 c5)∧w'.cell? ⟨b4,0,none⟩=some (.string nm)∧w'.cell? ⟨b4,1,none⟩=some (.int .u64 (lab:Nat)) from
  ⟨cell_b z0 hb,cell_b z1 hb,cell_b z2 hb,cell_b z3 hb,cell_b z4 hb,cell_b y0 hb,cell_b y1 hb⟩)
 have HHB:=hid hb4
 clear x0 x1 x2 x3 x4 e0 e1 i4 hb4 z0 z1 z2 z3 z4 y0 y1 hb0 hg
 go_region_held_law (fun w'=>w'.cell? ⟨b0,0,none⟩=some (.slice q1 n1 c1)∧w'.cell? ⟨b0,1,none⟩=some (.slice q2 n2 c2)∧w'.cell? ⟨b0,2,none⟩=some (.slice q3 n3 c3)∧w'.cell? ⟨b0,3,none⟩=some (.slice (some ⟨g,o,none⟩) n4 c4)∧w'.cell? ⟨b0,4,none⟩=some (.slice q5 n5 c5)∧w'.cell? ⟨b4,0,none⟩=some (.string nm)∧w'.cell? ⟨b4,1,none⟩=some (.int .u64 (lab:Nat)))
  ((refine HS.out _ ?_;repeat (first | exact Below.refl _ _ | refine bl_al ?_ _ | refine bl_dr ?_ | refine bl_tr ?_ hbl | refine bl_tr ?_ hbn | refine bl_tr ?_ hbd)))
  (first | (go_at_call 72;refine (HD2.out _ ?hbw).mono ?_;(case hbw=>refine bl_tr HBW.out ?_;repeat (first | exact Below.refl _ _ | refine bl_al ?_ _ | refine bl_dr ?_ | refine bl_tr ?_ hbl | refine bl_tr ?_ hbn | refine bl_tr ?_ hbd));rintro e wd hmk;obtain ⟨Kd,cd,rfl,hbd,hfd⟩:=hmk.fn) | (go_at_call 39;refine (labels_p [lab] n1 q1 c1 (by simp) ?hrow).mono ?_;(case hrow=>refine la_one ?_ hlab;first | exact new_cell' _ _ rfl | exact new_cell_d _ _ rfl | exact cell_b (new_cell' _ _ rfl) hbn | exact cell_b (new_cell_d _ _ rfl) hbn | exact cell_b (new_cell' _ _ rfl) hbd | exact cell_b (new_cell_d _ _ rfl) hbd | exact cell_b (cell_b (new_cell' _ _ rfl) hbd) hbn | exact cell_b (cell_b (new_cell_d _ _ rfl) hbd) hbn | exact cell_b (cell_b (new_cell' _ _ rfl) hbd) (bl_tr (bl_dr (Below.refl _ _)) hbn));rintro e wl hmk;obtain ⟨Kl,cl,rfl,hbl,hfl⟩:=hmk.fn))
 all_goals
  go_wp2
  go_ret
  have i9:InB (wl.alloc (.cells #[.func (.func Kd) #[] cd,.func (.func Kl) #[] cl] 90)) wl.heap.size _ _:=InB.new _ _ _
  refine ⟨_,2,[e1',e2'],rfl,?_,chk2 (two_cells i9) (hfd.le ?_) ?_,by simp,by rw [HE.out]⟩
  ·refine bl_tr HBW.out ?_
   repeat (first|exact Below.refl _ _|refine bl_al ?_ _|refine bl_dr ?_|refine bl_tr ?_ hbl|refine bl_tr ?_ hbn|refine bl_tr ?_ hbd)
  ·repeat (first|exact Below.refl _ _|refine bl_al ?_ _|refine bl_dr ?_|refine bl_tr ?_ hbl|refine bl_tr ?_ hbn|refine bl_tr ?_ hbd)
  ·rw [HLB.out] at hfl
   refine hfl.le ?_
   repeat (first|exact Below.refl _ _|refine bl_al ?_ _|refine bl_dr ?_|refine bl_tr ?_ hbl|refine bl_tr ?_ hbn|refine bl_tr ?_ hbd)
end
end Go.Proofs.YtlpdjfimefjmcaaGreatDoor
