/- slices.Concat of parameters and vars. (Written by a program.) Package names: is a local's name taken. (Written by a program.) Package names: what a name that is used stands for. Package names: counts of a call, of a return. (Written by a program.) -/
import Derived.Test.YtlpdjfimefjmcaaGreatDoorFlOpenPR8
import Derived.Maps.AppendAt
import Derived.Lib.AppendZeros
import Derived.Test.YtlpdjfimefjmcaaGreatDoorFlOpenPR6
import Derived.Deep.RegionHeldLaw
import Derived.BigQuiet
import Derived.Deep.QuietTactic
open Go.Lib (hid)
namespace Go.Proofs.YtlpdjfimefjmcaaGreatDoor
open Go Go.RowKit Go.Proofs.Mm
theorem infoDe:∃i,Tryz.prog.info? 37=some i∧i.zero=some (.agg #[.string ⟨#[]⟩,.int .u64 0])∧i.size=2∧i.bytes=24:=by
 have h:(Tryz.prog.info? 37).map (fun i=>(i.zero,i.size,i.bytes))=some (some (.agg #[.string ⟨#[]⟩,.int .u64 0]),2,24):=by kernel_rfl
 cases hi:Tryz.prog.info? 37 with
 | none=>rw [hi] at h;cases h
 | some i =>
  rw [hi] at h
  simp only [Option.map_some,Option.some.injEq,Prod.mk.injEq] at h
  exact ⟨i,rfl,h.1,h.2.1,h.2.2⟩
theorem undDes:Tryz.prog.underlying 23=some (.slice 37):=by kernel_rfl
def deCs (l:List DeZ):List Value:=l.flatMap deZ
theorem deCs_len (l:List DeZ):(deCs l).length=l.length*2:=by
 unfold deCs
 induction l with
 | nil=>rfl
 | cons p l ih=>rw [List.flatMap_cons,List.length_append,ih,List.length_cons];show 2+_=_;omega
theorem deCs_app (a b:List DeZ):deCs (a++b)=deCs a++deCs b:=List.flatMap_append
theorem deCs_one (l:List DeZ):∀u∈deCs l,u.oneCell'=true:=by
 intro u hu
 obtain ⟨p,_,hp⟩:=List.mem_flatMap.1 hu
 simp only [deZ,List.mem_cons,List.not_mem_nil,or_false] at hp
 rcases hp with rfl|rfl <;> rfl
theorem deCs_enc:∀{l:List DeZ} {cs:List Value},Enc (fun c d=>c=deZ d∧d.label<u64B) cs l→cs=deCs l
 | [],cs,h=>h
 | x::l,cs,h=>by
  obtain ⟨c,r,rfl,⟨rfl,_⟩,h2⟩:=h
  rw [deCs_enc h2];rfl
theorem add_none (g o j:Nat):((⟨g,o,none⟩:Addr).add j)=⟨g,o+j,none⟩:=by unfold Addr.add;split <;> simp_all
section
variable {lt:Bool} {C:Cl} {W:World}
theorem DesR.raw {q:Option Addr} {n c:Nat} {l:List DeZ} (h:DesR lt C (.slice q n c) l):(q=none∧n=0∧c=0∧l=[])∨∃ad,q=some ad∧n=l.length∧∀j u,(deCs l)[j]?=some u→C (ad.add j)=some u:=by
 obtain ⟨q',c',cs,h1,h2,h3,h4,h5,h6,h7,h8⟩:=h
 obtain ⟨rfl,rfl,rfl⟩:q=q'∧n=l.length∧c=c':=by injection h1 with a b c;exact ⟨a,b,c⟩
 rw [deCs_enc h4] at h3
 cases q with
 | none =>
  have h0:=h7 rfl
  subst h0
  have hl:l.length=0:=by omega
  exact .inl ⟨rfl,hl,rfl,List.eq_nil_of_length_eq_zero hl⟩
 | some ad =>
  refine .inr ⟨ad,rfl,rfl,fun j u hu=>?_⟩
  rcases h3 with h3|⟨g,o,e,h3⟩
  ·have:=(List.append_eq_nil_iff.1 h3).1
   rw [this] at hu
   simp at hu
  ·injection e with e
   subst e
   rw [add_none]
   exact h3 j u (by rw [List.getElem?_append_left ((List.getElem?_eq_some_iff.1 hu).1)];exact hu)
theorem zc_len (z:Array Value) (k:Nat) (hz:z.size=2):(Builtin.zeroCells z k).size=k*2:=by rw [size_zeroCells,hz]
def DcO (B:Nat) (w:World) (v:Value) (l:List DeZ):Prop:=w.ownsRow B 37 2 v l.length (deCs l)
set_option maxRecDepth 100000 in
set_option maxHeartbeats 2000000 in
theorem growDe (n:Nat) (hn:n≤1000) (W:World):Calls Tryz.prog 126 #[.slice none 0 0,.int .i64 (n:Int)] W fun e w'=>∃v,e=.returned v∧DcO W.heap.size w' v []∧Below W.heap.size W w':=by
 by_cases h0:0<n
 ·obtain ⟨i,hi,hz,hs,hb⟩:=infoDe
  have hr:=fun ty=>Lib.run_append_nil_zeros (P:=Tryz.prog) W 23 3 ty 37 i _ .i64 .i64 Tryz.underlying23 Tryz.underlying3 hi hz n h0 (by rw [hs];decide) (by omega) (by rw [hb];omega)
  have hge:=grownCap_ge W n 0 37
  have hcm:=grownCap_le_maxLen W n 0 37 (by unfold maxLen;omega)
  obtain ⟨G,hG⟩:∃G,G=grownCap W n 0 37:=⟨_,rfl⟩
  rw [←hG] at hr hge hcm
  have hown:(W.drew.alloc (.cells (Builtin.zeroCells (Value.agg #[.string ⟨#[]⟩,.int .u64 0]).cells n++Builtin.zeroCells (Value.agg #[.string ⟨#[]⟩,.int .u64 0]).cells (G - n)) 37)).ownsRow W.heap.size 37 2 (.slice (some ⟨W.heap.size,0,none⟩) 0 G) 0 [] :=
   World.ownsRow_made W.drew _ G (Nat.le_refl _) hcm (by rw [Array.size_append,zc_len _ _ rfl,zc_len _ _ rfl];omega)
  have HO:=hid hown
  have HBB:=hid (show Below W.heap.size W (W.drew.alloc (.cells (Builtin.zeroCells (Value.agg #[.string ⟨#[]⟩,.int .u64 0]).cells n++Builtin.zeroCells (Value.agg #[.string ⟨#[]⟩,.int .u64 0]).cells (G - n)) 37)) from ((Below.refl _ W).drew).alloc (Nat.le_refl _) _)
  have hG63:G≤9223372036854775807:=by unfold maxLen at hcm;omega
  have h1:¬((n:Int)<0):=by omega
  have h3:wrap64 (n:Int)=(n:Int):=by unfold wrap64;omega
  have h4:(n:Int) > 0:=by omega
  clear hown hG hge hcm
  go_enter Tryz.func126,Tryz.ntmps126
  go_wp2_with (at_builtin;refine Lib.wpList_append_run _ rfl _ _ _ _ rfl _ _ rfl rfl _ _ (hr _) ?_)
  go_ret
  exact ⟨_,rfl,HO.out,HBB.out⟩
 ·obtain rfl:n=0:=by omega
  go_enter Tryz.func126,Tryz.ntmps126
  go_wp2
  go_ret
  exact ⟨_,rfl,World.ownsRow_nil _ _ _ _,Below.refl _ _⟩
set_option maxRecDepth 100000 in
set_option maxHeartbeats 8000000 in
theorem concatDe (ps vs:List DeZ) (h1:ps.length≤8) (h2:vs.length≤32) {qp:Option Addr} {cp:Nat} {qv:Option Addr} {cv:Nat} (hp:DesR lt C (.slice qp ps.length cp) ps) (hv:DesR lt C (.slice qv vs.length cv) vs) (hC:CLe C (wC W)) (G:Nat) (hG:InB W G #[.slice qp ps.length cp,.slice qv vs.length cv] 23) :
 Calls Tryz.prog 83 #[.slice (some ⟨G,0,none⟩) 2 2] W fun e w'=>∃v,e=.returned v∧Below W.heap.size W w'∧DcO W.heap.size w' v (ps++vs):=by
 obtain ⟨i,hi,hz,hs,hb⟩:=infoDe
 have HGR:=hid (fun W'=>growDe (ps.length+vs.length) (by omega) W')
 have HP:=hid hp.raw
 have HV:=hid hv.raw
 have HCC:=hid hC
 have HGG:=hid hG
 have k0:=hG.cell (j:=0) (v:=.slice qp ps.length cp) rfl
 have k1:=hG.cell (j:=1) (v:=.slice qv vs.length cv) rfl
 have HLP:=hid (deCs_len ps)
 have HLV:=hid (deCs_len vs)
 have HOP:=hid (deCs_one ps)
 have HOV:=hid (deCs_one vs)
 have HNIL:=hid (show DcO W.heap.size W (.slice none 0 0) [] from World.ownsRow_nil _ _ _ _)
 unfold DcO at HGR
 have HAA:=hid (fun (B:Nat) (w:World) (v:Value)=>show DcO B w v (ps++vs)=w.ownsRow B 37 2 v (ps.length+vs.length) (deCs ps++deCs vs) from by unfold DcO;rw [List.length_append,deCs_app])
 clear hp hv hC hG
 generalize ps.length=np at *
 generalize vs.length=nv at *
 have w1:wrap64 ((0:Int)+(np:Int))=(np:Int):=by unfold wrap64;omega
 have w2:wrap64 ((np:Int)+(nv:Int))=((np+nv:Nat):Int):=by unfold wrap64;omega
 have n1:¬((np:Int)<0):=by omega
 have n2:¬(((np+nv:Nat):Int)<0):=by omega
 go_enter Tryz.func83,Tryz.ntmps83
 go_wp2
 go_loopw [3,11] (fun s i wr=>wr=W∧((i=.int .i64 0∧s=.int .i64 0)∨(i=.int .i64 1∧s=.int .i64 (np:Int))∨(i=.int .i64 2∧s=.int .i64 ((np+nv:Nat):Int)))) (fun _ i _=>2 - (intOf i).toNat)
 case atStart=>exact ⟨rfl,.inl ⟨rfl,rfl⟩⟩
 case round =>
  obtain ⟨hW,⟨rfl,rfl⟩|⟨rfl,rfl⟩|⟨rfl,rfl⟩⟩:=hrel
  ·subst wr
   go_wp2
   exact ⟨⟨by first|rfl|trivial,.inr (.inl ⟨rfl,by first|rfl|(congr 1;omega)⟩)⟩,by simp [intOf]⟩
  ·subst wr
   go_wp2
   exact ⟨⟨by first|rfl|trivial,.inr (.inr ⟨rfl,by first|rfl|(congr 1;omega)⟩)⟩,by simp [intOf]⟩
  ·subst wr
   go_wp2_with fail
   go_at_call 126
   refine (HGR.out _).mono ?_
   rintro e w0 ⟨v0,rfl,ho0,hb0⟩
   have HO0:=hid ho0
   have HB0:=hid hb0
   obtain ⟨q0,c0,rfl⟩:=own_shape ho0
   clear ho0 hb0 w1 w2 n1 n2
   simp only [List.length_nil] at HO0
   go_wp2_with fail
   go_loopw [6,27] (fun v i wr=>∃q c m L,v=.slice q m c∧Hid (Below W.heap.size W wr)∧Hid (wr.ownsRow W.heap.size 37 2 (.slice q m c) m L)∧((i=.int .i64 0∧0=m∧[]=L)∨(i=.int .i64 1∧np=m∧deCs ps=L)∨(i=.int .i64 2∧np+nv=m∧deCs ps++deCs vs=L))) (fun _ i _=>2 - (intOf i).toNat)
   case atStart=>exact ⟨q0,c0,0,[],rfl,HB0,HO0,.inl ⟨rfl,rfl,rfl⟩⟩
   case round =>
    obtain ⟨q,c,m,L,rfl,HB,HO,hcase⟩:=hrel
    have z0:=(HGG.out.le HB.out).cell (j:=0) (v:=.slice qp np cp) rfl
    have z1:=(HGG.out.le HB.out).cell (j:=1) (v:=.slice qv nv cv) rfl
    have hm:=HB.out.size
    have ho:=HO.out
    have HLT:=hid ho.lt
    rcases hcase with ⟨rfl,rfl,rfl⟩|⟨rfl,rfl,rfl⟩|⟨rfl,rfl,rfl⟩
    ·rcases HP.out with ⟨hq,hn0,hc0,hl0⟩|⟨ad,hq,hnn,hcl⟩
     ·subst hq hn0 hc0
      have HZ:=hid hl0
      clear hl0
      go_wp2_with (at_builtin;refine wpList_append_own_none rfl _ _ 23 rfl W.heap.size 37 i 2 undDes hi _ 0 [] rfl ho rfl ?_)
      clear ho
      go_wp2
      exact ⟨⟨_,_,_,⟨_,_,_,rfl,_,HO,.inr (.inl ⟨rfl,by omega,by rw [HZ.out];simp [deCs]⟩)⟩,rfl,rfl,rfl⟩,by simp [intOf]⟩
     ·subst hq
      have hnew:∀j u,(deCs ps)[j]?=some u→wr.cell? (ad.add j)=some u:=fun j u hu=>below_cle HB.out _ _ (HCC.out _ _ (hcl j u hu))
      have hll:=HLP.out
      clear hcl hnn
      go_wp2_with (at_builtin;refine wpList_append_own_at _ rfl _ _ 23 rfl W.heap.size 37 i _ 2 24 undDes hi hz hs hb rfl (by decide) _ 0 [] rfl ho ad np cp (deCs ps) rfl hll hnew HOP.out ?c1 ?c2 ?c3 ?_)
      case c1=>unfold maxLen;omega
      case c2=>omega
      case c3=>exact hm
      intro v9 w9 hown9 hgrow9 _ _
      obtain ⟨q9,c9,rfl⟩:=own_shape hown9
      have HO9:=hid hown9
      have HB9:=hid (HB.out.grown hgrow9 hm (fun r hr=>(HLT.out r hr).1))
      clear hown9 hgrow9 ho hnew
      go_wp2
      exact ⟨⟨_,_,_,_,rfl,HB9,HO9,.inr (.inl ⟨rfl,by omega,by simp⟩)⟩,by simp [intOf]⟩
    ·rcases HV.out with ⟨hq,hn0,hc0,hl0⟩|⟨ad,hq,hnn,hcl⟩
     ·subst hq hn0 hc0
      have HZ:=hid hl0
      clear hl0
      go_wp2_with (at_builtin;refine wpList_append_own_none rfl _ _ 23 rfl W.heap.size 37 i 2 undDes hi _ np (deCs ps) rfl ho rfl ?_)
      clear ho
      go_wp2
      exact ⟨⟨_,_,_,⟨_,_,_,rfl,_,HO,.inr (.inr ⟨rfl,by omega,by rw [HZ.out];simp [deCs]⟩)⟩,rfl,rfl,rfl⟩,by simp [intOf]⟩
     ·subst hq
      have hnew:∀j u,(deCs vs)[j]?=some u→wr.cell? (ad.add j)=some u:=fun j u hu=>below_cle HB.out _ _ (HCC.out _ _ (hcl j u hu))
      have hll:=HLV.out
      clear hcl hnn
      go_wp2_with (at_builtin;refine wpList_append_own_at _ rfl _ _ 23 rfl W.heap.size 37 i _ 2 24 undDes hi hz hs hb rfl (by decide) _ np (deCs ps) rfl ho ad nv cv (deCs vs) rfl hll hnew HOV.out ?c1 ?c2 ?c3 ?_)
      case c1=>unfold maxLen;omega
      case c2=>omega
      case c3=>exact hm
      intro v9 w9 hown9 hgrow9 _ _
      obtain ⟨q9,c9,rfl⟩:=own_shape hown9
      have HO9:=hid hown9
      have HB9:=hid (HB.out.grown hgrow9 hm (fun r hr=>(HLT.out r hr).1))
      clear hown9 hgrow9 ho hnew
      go_wp2
      exact ⟨⟨_,_,_,_,rfl,HB9,HO9,.inr (.inr ⟨rfl,by omega,by simp⟩)⟩,by simp [intOf]⟩
    ·have HR:=HO
     clear ho
     go_wp2
     go_ret
     exact ⟨_,rfl,HB.out,by rw [HAA.out];exact HR.out⟩
end
section
variable {lt:Bool} {C:Cl} {W:World} {s:SoZ} {q1:Option Addr} {c1:Nat} {q2:Option Addr} {c2:Nat} {q3:Option Addr} {c3:Nat} {q4:Option Addr} {c4:Nat} {q5:Option Addr} {c5:Nat}
theorem local_q (h:SrcO lt C s q1 c1 q2 c2 q3 c3 q4 c4 q5 c5) (hC:CLe C (wC W)) (f:Int) (nm:ByteArray) :
 Calls Tryz.prog 53 #[.agg (srV s q1 c1 q2 c2 q3 c3 q4 c4 q5 c5),.int .i64 f,.string nm] W (RetB (.int .i64 (ixI (locZ s f nm))) W):=local_p h hC f nm
theorem ne_ix2 (x:Option Nat) (k:Nat):(ixI x != (k:Int))=(x != some k):=by
 rw [Bool.eq_iff_iff]
 cases x with
 | none=>simp [ixI]
 | some j=>simp [ixI];omega
set_option maxRecDepth 100000 in
set_option maxHeartbeats 8000000 in
theorem takenLoc_p (h:SrcO lt C s q1 c1 q2 c2 q3 c3 q4 c4 q5 c5) (hC:CLe C (wC W)) (f:Nat) (nm:ByteArray) (lab k:Nat) (b0 b1 b2 b3:Nat)
 (i0:InB W b0 (srV s q1 c1 q2 c2 q3 c3 q4 c4 q5 c5) 27) (i1:InB W b1 #[.string nm,.int .u64 (lab:Nat)] 37) (i2:W.cell? ⟨b2,0,none⟩=some (.int .i64 (f:Int))) (i3:W.cell? ⟨b3,0,none⟩=some (.int .i64 (k:Int))) :
 Calls Tryz.prog 84 #[.pointer (some ⟨b0,0,none⟩),.pointer (some ⟨b1,0,none⟩),.pointer (some ⟨b2,0,none⟩),.pointer (some ⟨b3,0,none⟩)] W (RetB (.bool ((fndZ s (-1) nm).isSome || locZ s f nm != some k)) W):=by
 have HF:=hid (find_q (W:=W) h hC (-1) nm)
 have HL:=hid (fun (w:World) (hw:Below W.heap.size W w)=>local_q (W:=w) h (hC.trans (below_cle hw)) f nm)
 obtain ⟨x0,x1,x2,x3,x4⟩:=srV_cells i0
 obtain ⟨y0,y1⟩:=two_cells i1
 have HNX:=hid (ne_ix2 (locZ s f nm) k)
 clear h hC i0 i1
 unfold srV at HF HL
 generalize fndZ s (-1) nm=X at *
 generalize locZ s f nm=Y at *
 generalize s.principals.length=n1 at *
 generalize s.globals.length=n2 at *
 generalize s.arrays.length=n3 at *
 generalize s.channels.length=n4 at *
 generalize s.funcs.length=n5 at *
 cases X with
 | some z =>
  obtain ⟨kz,iz⟩:=z
  unfold refV at HF
  go_enter Tryz.func84,Tryz.ntmps84
  go_wp2_with fail
  go_at_call 13
  refine HF.out.mono ?_
  rintro e w1 ⟨rfl,hb1⟩
  have HB1:=hid (bl_al hb1 (.cells #[.int .i64 (kz:Int),.int .i64 (iz:Int)] 54))
  clear hb1 x0 x1 x2 x3 x4 y0 y1 i2 i3
  go_wp2_with fail
  generalize w1.alloc (.cells #[.int .i64 (kz:Int),.int .i64 (iz:Int)] 54)=w0 at *
  go_quiet (fail)
  go_wp2
  go_ret
  exact ⟨rfl,by repeat (first|exact HB1.out|refine bl_dN ?_ _|refine bl_dr ?_)⟩
 | none =>
  unfold refV at HF
  go_enter Tryz.func84,Tryz.ntmps84
  go_wp2_with fail
  go_at_call 13
  refine HF.out.mono ?_
  rintro e w1 ⟨rfl,hb1⟩
  have hbA:=bl_al hb1 (.cells #[.int .i64 0,.int .i64 0] 54)
  have HBA:=hid hbA
  have HS:=hid (fun w' (hb:Below (w1.alloc (.cells #[.int .i64 0,.int .i64 0] 54)).heap.size (w1.alloc (.cells #[.int .i64 0,.int .i64 0] 54)) w')=>show w'.cell? ⟨b0,0,none⟩=some (.slice q1 n1 c1)∧w'.cell? ⟨b0,1,none⟩=some (.slice q2 n2 c2)∧w'.cell? ⟨b0,2,none⟩=some (.slice q3 n3 c3)∧w'.cell? ⟨b0,3,none⟩=some (.slice q4 n4 c4)∧w'.cell? ⟨b0,4,none⟩=some (.slice q5 n5 c5)∧w'.cell? ⟨b1,0,none⟩=some (.string nm)∧w'.cell? ⟨b1,1,none⟩=some (.int .u64 (lab:Nat))∧w'.cell? ⟨b2,0,none⟩=some (.int .i64 (f:Int))∧w'.cell? ⟨b3,0,none⟩=some (.int .i64 (k:Int)) from
   ⟨cell_b (cell_b x0 hbA) hb,cell_b (cell_b x1 hbA) hb,cell_b (cell_b x2 hbA) hb,cell_b (cell_b x3 hbA) hb,cell_b (cell_b x4 hbA) hb,cell_b (cell_b y0 hbA) hb,cell_b (cell_b y1 hbA) hb,cell_b (cell_b i2 hbA) hb,cell_b (cell_b i3 hbA) hb⟩)
  clear x0 x1 x2 x3 x4 y0 y1 i2 i3 hbA hb1
  go_wp2_with fail
  generalize w1.alloc (.cells #[.int .i64 0,.int .i64 0] 54)=w0 at *
  go_region_held_law (fun w'=>w'.cell? ⟨b0,0,none⟩=some (.slice q1 n1 c1)∧w'.cell? ⟨b0,1,none⟩=some (.slice q2 n2 c2)∧w'.cell? ⟨b0,2,none⟩=some (.slice q3 n3 c3)∧w'.cell? ⟨b0,3,none⟩=some (.slice q4 n4 c4)∧w'.cell? ⟨b0,4,none⟩=some (.slice q5 n5 c5)∧w'.cell? ⟨b1,0,none⟩=some (.string nm)∧w'.cell? ⟨b1,1,none⟩=some (.int .u64 (lab:Nat))∧w'.cell? ⟨b2,0,none⟩=some (.int .i64 (f:Int))∧w'.cell? ⟨b3,0,none⟩=some (.int .i64 (k:Int)))
   ((refine HS.out _ ?_;repeat (first | exact Below.refl _ _ | refine bl_al ?_ _ | refine bl_dr ?_ | refine bl_dN ?_ _ | refine bl_tr ?_ hbs)))
   ((go_at_call 53;refine (HL.out _ ?hbw).mono ?_;(case hbw=>refine bl_tr HBA.out ?_;repeat (first | exact Below.refl _ _ | refine bl_al ?_ _ | refine bl_dr ?_ | refine bl_dN ?_ _ | refine bl_tr ?_ hbs));rintro e ws ⟨rfl,hbs⟩))
  all_goals
   go_wp2
   go_ret
   refine ⟨ret_bool ?_,bl_tr HBA.out ?_⟩
   ·rw [HNX.out];rfl
   ·repeat (first|exact Below.refl _ _|refine bl_al ?_ _|refine bl_dr ?_|refine bl_dN ?_ _|refine bl_tr ?_ hbs)
end
section
variable {lt:Bool} {C:Cl} {W:World} {s:SoZ} {q1:Option Addr} {c1:Nat} {q2:Option Addr} {c2:Nat} {q3:Option Addr} {c3:Nat} {q4:Option Addr} {c4:Nat} {q5:Option Addr} {c5:Nat}
set_option maxRecDepth 100000 in
theorem allows_p (nm:ByteArray) (ku k:Nat) (W:World):Calls Tryz.prog 95 #[.agg #[.string nm,.int .i64 (ku:Int)],.int .i64 (k:Int)] W (RetB (.bool (k == ku || (ku == 2 && k == 1))) W):=by
 by_cases h1:k=ku
 ·have e1:((k:Int) == (ku:Int))=true:=by rw [beq_iff_eq];omega
  have e2:(k == ku || (ku == 2 && k == 1))=true:=by simp [h1]
  rw [e2]
  clear e2 h1
  go_enter Tryz.func95,Tryz.ntmps95
  go_wp2
  go_ret
  exact ⟨rfl,bl_al (Below.refl _ _) _⟩
 have e1:((k:Int) == (ku:Int))=false:=by rw [beq_eq_false_iff_ne];omega
 by_cases h2:ku=2
 ·subst h2
  by_cases h3:k=1
  ·subst h3
   clear h1
   go_enter Tryz.func95,Tryz.ntmps95
   go_wp2
   go_ret
   exact ⟨rfl,bl_al (Below.refl _ _) _⟩
  ·have e3:((k:Int) == 1)=false:=by rw [beq_eq_false_iff_ne];omega
   have e2:(k == 2 || ((2:Nat) == 2 && k == 1))=false:=by simp [h1,h3]
   rw [e2]
   have e1:((k:Int) == 2)=false:=by rw [beq_eq_false_iff_ne];omega
   clear e2 h1 h3
   go_enter Tryz.func95,Tryz.ntmps95
   go_wp2
   go_ret
   exact ⟨rfl,bl_al (Below.refl _ _) _⟩
 ·have e3:((ku:Int) == 2)=false:=by rw [beq_eq_false_iff_ne];omega
  have e2:(k == ku || (ku == 2 && k == 1))=false:=by simp [h1,h2]
  rw [e2]
  clear e2 h1 h2
  go_enter Tryz.func95,Tryz.ntmps95
  go_wp2
  go_ret
  exact ⟨rfl,bl_al (Below.refl _ _) _⟩
theorem fst0_hit2 {e:Nat} {r:List Nat} (h:¬e=0):fst0 (e::r)=e:=by unfold fst0;rw [if_neg h]
theorem fst0_next {e:Nat} {r:List Nat} (h:e=0):fst0 (e::r)=fst0 r:=by rw [fst0,if_pos h]
def UsOk (x:StZ):Prop:=x.targets.length≤8796093021952∧x.exprs.length≤8∧∀e∈x.exprs,e.length≤48
theorem usesZ_len {x:StZ} (h:UsOk x):(usesZ x).length≤8796093021952+1+384:=by
 unfold usesZ
 rw [List.length_append,List.length_append,List.length_map]
 have h1:=usesE_len x.exprs h.2.2
 have h2:=h.1
 have h3:=h.2.1
 have h4:(if x.kind=2 then [(x.name,3)] else if x.kind=3 then [(x.name,4)] else if x.kind=4 then [(x.name,5)] else []:List (ByteArray × Nat)).length≤1:=by
  split
  ·simp
  ·split
   ·simp
   ·split <;> simp
 omega
set_option maxRecDepth 100000 in
set_option maxHeartbeats 8000000 in
theorem usesC_p (h:SrcO lt C s q1 c1 q2 c2 q3 c3 q4 c4 q5 c5) (hC:CLe C (wC W)) (f:Nat) (x:StZ) {qt:Option Addr} {ct:Nat} {qe:Option Addr} {ce:Nat} (ht:StrR lt C (.slice qt x.targets.length ct) x.targets) (he:ExsR lt C (.slice qe x.exprs.length ce) x.exprs) (hok:UsOk x)
 (b0 b1 b2:Nat) (i0:InB W b0 (stA x qt ct qe ce) 47) (i1:InB W b1 (srV s q1 c1 q2 c2 q3 c3 q4 c4 q5 c5) 27) (i2:W.cell? ⟨b2,0,none⟩=some (.int .i64 (f:Int))) :
 Calls Tryz.prog 93 #[.pointer (some ⟨b0,0,none⟩),.pointer (some ⟨b1,0,none⟩),.pointer (some ⟨b2,0,none⟩)] W (RetB (.int .i64 ((usesE s f x:Nat):Int)) W):=by
 have HU:=hid (usesOf_p (W:=W) x ht he hC hok.1 hok.2.1 hok.2.2)
 have HF:=hid (fun (w:World) (hw:Below W.heap.size W w) nm=>find_q (W:=w) h (hC.trans (below_cle hw)) f nm)
 have HUL:=hid (usesZ_len hok)
 have HR:=hid (show usesE s f x=fst0 (((usesZ x).drop 0).map (useE s f)) from rfl)
 have HUE:=hid (fun (u:ByteArray × Nat)=>show useE s f u=match fndZ s f u.1 with | none=>71 | some (k,_)=>unl (k == u.2 || (u.2 == 2 && k == 1)) 72 from rfl)
 have HI1:=hid i1
 have HI2:=hid i2
 obtain ⟨kd,nm,ts,es⟩:=x
 unfold stA at HU
 have y0:=i0.cell (j:=0) (v:=.int .i64 kd) rfl
 have y1:=i0.cell (j:=1) (v:=.string nm) rfl
 have y2:=i0.cell (j:=2) (v:=.slice qt ts.length ct) rfl
 have y3:=i0.cell (j:=3) (v:=.slice qe es.length ce) rfl
 clear h hC ht he hok i0 i1 i2
 generalize usesE s f ⟨kd,nm,ts,es⟩=R at *
 generalize usesZ ⟨kd,nm,ts,es⟩=U at *
 simp only at HU
 generalize ts.length=nt at *
 generalize es.length=ne at *
 go_enter Tryz.func93,Tryz.ntmps93
 go_wp2_with fail
 go_at_call 94
 refine HU.out.mono ?_
 rintro e w0 ⟨v,rfl,hb0,ho0⟩
 have HB0:=hid hb0
 unfold UsO at ho0
 obtain ⟨qu,cu,rfl⟩:=own_shape ho0
 have HO0:=hid ho0
 obtain ⟨n,hn⟩:∃n,U.length=n:=⟨_,rfl⟩
 have HN:=hid hn
 have HRD:=hid (own_rd ho0)
 have hnb:n≤8796093022337:=by rw [←hn];exact HUL.out
 rw [hn] at HRD ⊢
 clear hb0 ho0 hn y0 y1 y2 y3 HU
 go_wp2_with fail
 go_loopw [11] (fun i wr=>∃k:Nat,k≤n∧i=.int .i64 k∧Hid (Below w0.heap.size w0 wr)∧Hid (R=fst0 ((U.drop k).map (useE s f)))) (fun i _=>n - (intOf i).toNat)
 case atStart=>exact ⟨0,Nat.zero_le _,rfl,hid (Below.refl _ _),HR⟩
 case round =>
  obtain ⟨k,hk,rfl,HB,HT⟩:=hrel
  by_cases hlt:k<n
  ·have hk1:k<U.length:=by rw [HN.out];exact hlt
   have HT2:=hid (show R=fst0 (useE s f U[k]::(U.drop (k+1)).map (useE s f)) by rw [HT.out,drop_next hk1,List.map_cons])
   have HCL:=hid (show ∃g,qu=some ⟨g,0,none⟩∧w0.cell? ⟨g,k*2,none⟩=some (.string U[k].1)∧w0.cell? ⟨g,k*2+1,none⟩=some (.int .i64 (U[k].2:Int)) from by
    rcases HRD.out with ⟨_,h0,_,_⟩|⟨g,e,hc⟩
    ·omega
    ·have key:∀r,r<2→(usCs U)[k*2+r]?=(usC U[k])[r]?:=by
      intro r hr
      have e2:(usCs (U.take k)).length=k*2:=by rw [usCs_len,List.length_take];rw [Nat.min_eq_left (by omega)]
      have e4:usCs (U.drop k)=usC U[k]++usCs (U.drop (k+1)):=by rw [drop_next hk1];rfl
      have e3:usCs U=usCs (U.take k)++(usC U[k]++usCs (U.drop (k+1))):=by rw [←e4,←usCs_app,List.take_append_drop]
      rw [e3,List.getElem?_append_right (by omega),e2,Nat.add_sub_cancel_left,List.getElem?_append_left (by simp [usC];omega)]
     exact ⟨g,e,hc _ _ (by have:=key 0 (by decide);simpa [usC] using this),hc _ _ (by have:=key 1 (by decide);simpa [usC] using this)⟩)
   obtain ⟨g,rfl,g0,g1⟩:=HCL.out
   have e0:=cell_b g0 HB.out
   have e1:=cell_b g1 HB.out
   have hg:g<wr.heap.size:=cell_lt e0
   have HUE2:=hid (HUE.out U[k])
   clear g0 g1 HCL
   generalize U[k]=u at *
   obtain ⟨un,uk⟩:=u
   simp only at e0 e1 HUE2
   clear hk1
   have hki:(k:Int)<(n:Int):=by omega
   have HBW:=hid (bl_tr HB0.out HB.out)
   have HF2:=hid (fun (w:World) (hw:Below W.heap.size W w)=>HF.out w hw un)
   unfold srV at HF2
   obtain ⟨x0,x1,x2,x3,x4⟩:=srV_cells (HI1.out.le HBW.out)
   have xf:=cell_b HI2.out HBW.out
   have hb1:=(HI1.out.le HBW.out).lt
   have hb2:=cell_lt xf
   have HB1:=hid (bl_al HBW.out (.cells #[.string un,.int .i64 (uk:Int)] 136))
   have HBx:=hid (bl_al HB.out (.cells #[.string un,.int .i64 (uk:Int)] 136))
   have HIX:=hid (InB.new wr #[.string un,.int .i64 (uk:Int)] 136)
   simp only at hb2
   generalize useE s f (un,uk)=E at *
   generalize fndZ s f un=X at *
   generalize s.principals.length=n1 at *
   generalize s.globals.length=n2 at *
   generalize s.arrays.length=n3 at *
   generalize s.channels.length=n4 at *
   generalize s.funcs.length=n5 at *
   go_wp2_with fail
   generalize hw9:wr.alloc (.cells #[.string un,.int .i64 (uk:Int)] 136)=w9 at *
   go_at_call 13
   refine (HF2.out _ HB1.out).mono ?_
   rintro e w2 ⟨rfl,hb2x⟩
   have HB2:=hid (bl_tr HBx.out hb2x)
   have HIX2:=hid (HIX.out.le hb2x)
   clear hb2x x0 x1 x2 x3 x4 xf hb1 hb2 e0 e1 hg
   have u0:=HIX2.out.cell (j:=0) (v:=.string un) rfl
   have u1:=HIX2.out.cell (j:=1) (v:=.int .i64 (uk:Int)) rfl
   have ul:=HIX2.out.lt
   cases X with
   | none =>
    have HX:=hid (show R=71 by
     have he:E=71:=HUE2.out
     rw [HT2.out,he];exact fst0_hit2 (by decide))
    unfold refV
    go_wp2
    go_ret
    refine ⟨by rw [HX.out];rfl,bl_tr HB0.out ?_⟩
    repeat (first|exact HB2.out|refine bl_al ?_ _)
   | some z =>
    obtain ⟨kz,iz⟩:=z
    have HAL:=hid (allows_p un uk kz)
    have HE:=hid (show E=unl (kz == uk || (uk == 2 && kz == 1)) 72 from HUE2.out)
    generalize (kz == uk || (uk == 2 && kz == 1))=r at *
    unfold refV
    go_wp2_with fail
    go_at_call 95
    refine (HAL.out _).mono ?_
    rintro e w3 ⟨rfl,hb3⟩
    have HB3:=hid (bl_tr (bl_al HB2.out _) hb3)
    clear hb3 u0 u1 ul
    cases r
    ·have HX:=hid (show R=72 by
      have he:E=72:=HE.out
      rw [HT2.out,he];exact fst0_hit2 (by decide))
     go_wp2
     go_ret
     exact ⟨by rw [HX.out];rfl,bl_tr HB0.out HB3.out⟩
    ·have HX:=hid (show R=fst0 ((U.drop (k+1)).map (useE s f)) by
      have he:E=0:=HE.out
      rw [HT2.out,he];exact fst0_next rfl)
     go_wp2
     exact ⟨⟨k+1,by omega,by go_num,HB3,HX⟩,by simp [intOf];omega⟩
  ·obtain rfl:k=n:=by omega
   have HR2:=hid (show R=0 by rw [HT.out,List.drop_of_length_le (by rw [HN.out];exact Nat.le_refl _)];rfl)
   go_wp2
   go_ret
   exact ⟨by rw [HR2.out];rfl,bl_tr HB0.out HB.out⟩
end
theorem fnd5_lt {s:SoZ} {f:Int} {n:ByteArray} {i:Nat} (h:fndZ s f n=some (5,i)):i<s.funcs.length:=by
 unfold fndZ at h
 split at h
 ·simp at h
 split at h
 ·simp at h
 split at h
 ·simp at h
 split at h
 ·simp at h
 cases hx:idxZ (s.funcs.map FnZ.name) n with
 | none=>rw [hx] at h;simp at h
 | some k =>
  rw [hx] at h
  simp at h
  subst h
  have:=idx_lt hx
  simpa using this
theorem fst0_mem:∀{l:List Nat},fst0 l=0→∀x∈l,x=0
 | [],_,x,hx=>by cases hx
 | e::l,h,x,hx=>by
  unfold fst0 at h
  split at h
  ·rename_i h0
   rcases List.mem_cons.1 hx with rfl|hx
   ·exact h0
   ·exact fst0_mem h x hx
  ·rename_i h0;exact absurd h h0
theorem uses_call {s:SoZ} {f:Nat} {x:StZ} (h:usesE s f x=0) (hk:x.kind=4):∃i,fndZ s f x.name=some (5,i)∧i<s.funcs.length:=by
 have h1:=fst0_mem h (useE s f (x.name,5)) (List.mem_map.2 ⟨(x.name,5),by unfold usesZ;rw [hk];simp,rfl⟩)
 unfold useE at h1
 split at h1
 ·cases h1
 ·rename_i k i he
  simp only at he
  have hk5:k=5:=by
   unfold unl at h1
   split at h1
   ·rename_i hc
    simpa using hc
   ·cases h1
  subst hk5
  exact ⟨i,he,fnd5_lt he⟩
def suitZ (x:StZ) (d:FnZ):Bool:=x.exprs.length == d.params.length && (x.targets.length == 0 || x.targets.length == d.results.length)
theorem cntE_call {s:SoZ} {f:Nat} {x:StZ} {i:Nat} (hk:x.kind=4) (hf:fndZ s f x.name=some (5,i)) (hi:i<s.funcs.length):cntE s f x=unl (suitZ x s.funcs[i]) 73:=by
 unfold cntE
 rw [if_pos hk,hf]
 simp only [Option.getD_some,List.getElem?_eq_getElem hi]
 rfl
theorem cntE_ret {s:SoZ} {f:Nat} {x:StZ} (hk:x.kind=9) (hf:f<s.funcs.length):cntE s f x=unl (x.exprs.length == s.funcs[f].results.length) 73:=by
 unfold cntE
 rw [if_neg (by omega),if_pos hk,List.getElem?_eq_getElem hf]
theorem cntE_no {s:SoZ} {f:Nat} {x:StZ} (h4:¬x.kind=4) (h9:¬x.kind=9):cntE s f x=0:=by
 unfold cntE
 rw [if_neg h4,if_neg h9]
section
variable {W:World} {qp:Option Addr} {cp:Nat} {qr:Option Addr} {cr:Nat} {qv:Option Addr} {cv:Nat} {qb:Option Addr} {cb:Nat} {qt:Option Addr} {ct:Nat} {qe:Option Addr} {ce:Nat}
set_option maxRecDepth 100000 in
set_option maxHeartbeats 4000000 in
theorem suits_p (x:StZ) (d:FnZ) (W:World):Calls Tryz.prog 97 #[.agg (stA x qt ct qe ce),.agg (fdA d qp cp qr cr qv cv qb cb)] W (RetB (.bool (suitZ x d)) W):=by
 have HZ:=hid (show suitZ x d=(x.exprs.length == d.params.length && (x.targets.length == 0 || x.targets.length == d.results.length)) from rfl)
 unfold stA fdA
 generalize suitZ x d=R at *
 generalize x.exprs.length=ne at *
 generalize x.targets.length=nt at *
 generalize d.params.length=np at *
 generalize d.results.length=nr at *
 by_cases h1:ne=np
 ·have e1:((ne:Int) == (np:Int))=true:=by rw [beq_iff_eq];omega
  by_cases h2:nt=0
  ·subst h2
   have HR:=hid (show R=true by rw [HZ.out,h1];simp)
   clear h1
   go_enter Tryz.func97,Tryz.ntmps97
   go_wp2
   go_ret
   exact ⟨ret_bool HR.out.symm,bl_al (bl_al (Below.refl _ _) _) _⟩
  ·have e2:((nt:Int) == 0)=false:=by rw [beq_eq_false_iff_ne];omega
   by_cases h3:nt=nr
   ·have e3:((nt:Int) == (nr:Int))=true:=by rw [beq_iff_eq];omega
    have HR:=hid (show R=true by rw [HZ.out,h1,h3];simp)
    clear h1 h2 h3
    go_enter Tryz.func97,Tryz.ntmps97
    go_wp2
    go_ret
    exact ⟨ret_bool HR.out.symm,bl_al (bl_al (Below.refl _ _) _) _⟩
   ·have e3:((nt:Int) == (nr:Int))=false:=by rw [beq_eq_false_iff_ne];omega
    have HR:=hid (show R=false by rw [HZ.out];simp [h2,h3])
    clear h1 h2 h3
    go_enter Tryz.func97,Tryz.ntmps97
    go_wp2
    go_ret
    exact ⟨ret_bool HR.out.symm,bl_al (bl_al (Below.refl _ _) _) _⟩
 ·have e1:((ne:Int) == (np:Int))=false:=by rw [beq_eq_false_iff_ne];omega
  have HR:=hid (show R=false by rw [HZ.out];simp [h1])
  clear h1
  go_enter Tryz.func97,Tryz.ntmps97
  go_wp2
  go_ret
  exact ⟨ret_bool HR.out.symm,bl_al (bl_al (Below.refl _ _) _) _⟩
end
section
variable {lt:Bool} {C:Cl} {W:World} {s:SoZ} {q1:Option Addr} {c1:Nat} {q2:Option Addr} {c2:Nat} {q3:Option Addr} {c3:Nat} {q4:Option Addr} {c4:Nat} {q5:Option Addr} {c5:Nat} {qt:Option Addr} {ct:Nat} {qe:Option Addr} {ce:Nat}
set_option maxRecDepth 100000 in
set_option maxHeartbeats 16000000 in
theorem countsC_p (h:SrcO lt C s q1 c1 q2 c2 q3 c3 q4 c4 q5 c5) (hC:CLe C (wC W)) (f:Nat) (hf:f<s.funcs.length) (x:StZ) (hu:usesE s f x=0)
 (b0 b1 b2:Nat) (i0:InB W b0 (stA x qt ct qe ce) 47) (i1:InB W b1 (srV s q1 c1 q2 c2 q3 c3 q4 c4 q5 c5) 27) (i2:W.cell? ⟨b2,0,none⟩=some (.int .i64 (f:Int))) :
 Calls Tryz.prog 96 #[.pointer (some ⟨b0,0,none⟩),.pointer (some ⟨b1,0,none⟩),.pointer (some ⟨b2,0,none⟩)] W (RetB (.int .i64 ((cntE s f x:Nat):Int)) W):=by
 have y0:=i0.cell (j:=0) (v:=.int .i64 x.kind) rfl
 have y1:=i0.cell (j:=1) (v:=.string x.name) rfl
 have y2:=i0.cell (j:=2) (v:=.slice qt x.targets.length ct) rfl
 have y3:=i0.cell (j:=3) (v:=.slice qe x.exprs.length ce) rfl
 obtain ⟨x0,x1,x2,x3,x4⟩:=srV_cells i1
 by_cases h4:x.kind=4
 ·obtain ⟨i,hfi,hil⟩:=uses_call hu h4
  have HCN:=hid (cntE_call h4 hfi hil)
  have HF:=hid (find_q (W:=W) h hC f x.name)
  rw [hfi] at HF
  obtain ⟨g,o,qp,cp,qr,cr,qv,cv,qb,cb,rfl,a0,a1,a2,a3,a4,a5,-⟩:=h.fn.cells i hil
  have e0:W.cell? ⟨g,o+i*6,none⟩=some (.string s.funcs[i].name):=hC _ _ a0
  have e1:W.cell? ⟨g,o+i*6+1,none⟩=some (.int .u64 (s.funcs[i].level:Nat)):=hC _ _ a1
  have e2:W.cell? ⟨g,o+i*6+2,none⟩=some (.slice qp s.funcs[i].params.length cp):=hC _ _ a2
  have e3:W.cell? ⟨g,o+i*6+3,none⟩=some (.slice qr s.funcs[i].results.length cr):=hC _ _ a3
  have e4:W.cell? ⟨g,o+i*6+4,none⟩=some (.slice qv s.funcs[i].vars.length cv):=hC _ _ a4
  have e5:W.cell? ⟨g,o+i*6+5,none⟩=some (.slice qb s.funcs[i].body.length cb):=hC _ _ a5
  have hii:(i:Int)<(s.funcs.length:Int):=by omega
  have HSU:=hid (fun W=>suits_p (qt:=qt) (ct:=ct) (qe:=qe) (ce:=ce) (qp:=qp) (cp:=cp) (qr:=qr) (cr:=cr) (qv:=qv) (cv:=cv) (qb:=qb) (cb:=cb) x s.funcs[i] W)
  unfold srV refV at HF
  clear h hC a0 a1 a2 a3 a4 a5 i0 i1 hu hf hfi
  generalize cntE s f x=E at *
  generalize s.funcs[i]=d at *
  generalize suitZ x d=r at *
  unfold stA fdA at HSU
  obtain ⟨kd,nm,ts,es⟩:=x
  obtain ⟨dn,dl,dp,dr,dv,db⟩:=d
  simp only at *
  subst h4
  clear hil
  generalize s.principals.length=n1 at *
  generalize s.globals.length=n2 at *
  generalize s.arrays.length=n3 at *
  generalize s.channels.length=n4 at *
  generalize s.funcs.length=n5 at *
  generalize ts.length=nt at *
  generalize es.length=ne at *
  generalize dp.length=np at *
  generalize dr.length=nr at *
  generalize dv.length=nv at *
  generalize db.length=nb at *
  go_enter Tryz.func96,Tryz.ntmps96
  go_wp2_with fail
  go_at_call 13
  refine HF.out.mono ?_
  rintro e w1 ⟨rfl,hb1⟩
  have hbA:=bl_al hb1 (.cells #[.int .i64 5,.int .i64 (i:Int)] 54)
  have HBA:=hid hbA
  have HIR:=hid (InB.new w1 #[.int .i64 5,.int .i64 (i:Int)] 54)
  have HS:=hid (fun w' (hb:Below (w1.alloc (.cells #[.int .i64 5,.int .i64 (i:Int)] 54)).heap.size (w1.alloc (.cells #[.int .i64 5,.int .i64 (i:Int)] 54)) w')=>show w'.cell? ⟨b0,0,none⟩=some (.int .i64 4)∧w'.cell? ⟨b0,1,none⟩=some (.string nm)∧w'.cell? ⟨b0,2,none⟩=some (.slice qt nt ct)∧w'.cell? ⟨b0,3,none⟩=some (.slice qe ne ce)∧w'.cell? ⟨b1,4,none⟩=some (.slice (some ⟨g,o,none⟩) n5 c5)∧w'.cell? ⟨w1.heap.size,1,none⟩=some (.int .i64 (i:Int))∧w'.cell? ⟨g,o+i*6,none⟩=some (.string dn)∧w'.cell? ⟨g,o+i*6+1,none⟩=some (.int .u64 (dl:Nat))∧w'.cell? ⟨g,o+i*6+2,none⟩=some (.slice qp np cp)∧w'.cell? ⟨g,o+i*6+3,none⟩=some (.slice qr nr cr)∧w'.cell? ⟨g,o+i*6+4,none⟩=some (.slice qv nv cv)∧w'.cell? ⟨g,o+i*6+5,none⟩=some (.slice qb nb cb) from
   ⟨cell_b (cell_b y0 hbA) hb,cell_b (cell_b y1 hbA) hb,cell_b (cell_b y2 hbA) hb,cell_b (cell_b y3 hbA) hb,cell_b (cell_b x4 hbA) hb,(HIR.out.le hb).cell (j:=1) rfl,cell_b (cell_b e0 hbA) hb,cell_b (cell_b e1 hbA) hb,cell_b (cell_b e2 hbA) hb,cell_b (cell_b e3 hbA) hb,cell_b (cell_b e4 hbA) hb,cell_b (cell_b e5 hbA) hb⟩)
  clear y0 y1 y2 y3 x0 x1 x2 x3 x4 e0 e1 e2 e3 e4 e5 i2 hbA HIR hb1
  go_wp2_with fail
  obtain ⟨bx,hbx⟩:∃bx,w1.heap.size=bx:=⟨_,rfl⟩
  have HBX:=hid hbx
  try rw [hbx]
  rw [hbx] at HS
  clear hbx
  generalize w1.alloc (.cells #[.int .i64 5,.int .i64 (i:Int)] 54)=w0 at *
  cases r
  all_goals
   go_region_held_law (fun w'=>w'.cell? ⟨b0,0,none⟩=some (.int .i64 4)∧w'.cell? ⟨b0,1,none⟩=some (.string nm)∧w'.cell? ⟨b0,2,none⟩=some (.slice qt nt ct)∧w'.cell? ⟨b0,3,none⟩=some (.slice qe ne ce)∧w'.cell? ⟨b1,4,none⟩=some (.slice (some ⟨g,o,none⟩) n5 c5)∧w'.cell? ⟨bx,1,none⟩=some (.int .i64 (i:Int))∧w'.cell? ⟨g,o+i*6,none⟩=some (.string dn)∧w'.cell? ⟨g,o+i*6+1,none⟩=some (.int .u64 (dl:Nat))∧w'.cell? ⟨g,o+i*6+2,none⟩=some (.slice qp np cp)∧w'.cell? ⟨g,o+i*6+3,none⟩=some (.slice qr nr cr)∧w'.cell? ⟨g,o+i*6+4,none⟩=some (.slice qv nv cv)∧w'.cell? ⟨g,o+i*6+5,none⟩=some (.slice qb nb cb))
    ((refine HS.out _ ?_;repeat (first | exact Below.refl _ _ | refine bl_al ?_ _ | refine bl_dr ?_ | refine bl_dN ?_ _ | refine bl_tr ?_ hbs)))
    (first | (go_at_call 97;refine (HSU.out _).mono ?_;rintro e ws ⟨rfl,hbs⟩) | (go_at_call 78;refine (unless_p _ _ _).mono ?_;rintro e w2 ⟨rfl,rfl⟩))
   all_goals
    go_wp2
    go_ret
    refine ⟨?_,bl_tr HBA.out ?_⟩
    ·rw [HCN.out];rfl
    ·repeat (first|exact Below.refl _ _|refine bl_al ?_ _|refine bl_dr ?_|refine bl_dN ?_ _|refine bl_tr ?_ hbs)
 by_cases h9:x.kind=9
 ·have HCN:=hid (cntE_ret h9 hf)
  obtain ⟨g,o,qp,cp,qr,cr,qv,cv,qb,cb,rfl,a0,a1,a2,a3,a4,a5,-⟩:=h.fn.cells f hf
  have e3:W.cell? ⟨g,o+f*6+3,none⟩=some (.slice qr s.funcs[f].results.length cr):=hC _ _ a3
  have hii:(f:Int)<(s.funcs.length:Int):=by omega
  clear h hC a0 a1 a2 a3 a4 a5 i0 i1 hu h4
  generalize cntE s f x=E at *
  generalize s.funcs[f]=d at *
  obtain ⟨kd,nm,ts,es⟩:=x
  simp only at *
  subst h9
  clear hf
  generalize s.principals.length=n1 at *
  generalize s.globals.length=n2 at *
  generalize s.arrays.length=n3 at *
  generalize s.channels.length=n4 at *
  generalize s.funcs.length=n5 at *
  generalize ts.length=nt at *
  generalize es.length=ne at *
  generalize d.results.length=nr at *
  have HS:=hid (fun w' (hb:Below W.heap.size W w')=>show w'.cell? ⟨b0,3,none⟩=some (.slice qe ne ce)∧w'.cell? ⟨b1,4,none⟩=some (.slice (some ⟨g,o,none⟩) n5 c5)∧w'.cell? ⟨b2,0,none⟩=some (.int .i64 (f:Int))∧w'.cell? ⟨g,o+f*6+3,none⟩=some (.slice qr nr cr) from ⟨cell_b y3 hb,cell_b x4 hb,cell_b i2 hb,cell_b e3 hb⟩)
  have k4:((9:Int) == 4)=false:=rfl
  by_cases hq:ne=nr
  ·have hq1:((ne:Int) == (nr:Int))=true:=by rw [beq_iff_eq];omega
   have HX:=hid (show E=0 by rw [HCN.out,hq];simp [unl])
   clear hq
   go_enter Tryz.func96,Tryz.ntmps96
   go_wp2_with fail
   clear y0 y1 y2 y3 x0 x1 x2 x3 x4 e3 i2
   go_region_held_law (fun w'=>w'.cell? ⟨b0,3,none⟩=some (.slice qe ne ce)∧w'.cell? ⟨b1,4,none⟩=some (.slice (some ⟨g,o,none⟩) n5 c5)∧w'.cell? ⟨b2,0,none⟩=some (.int .i64 (f:Int))∧w'.cell? ⟨g,o+f*6+3,none⟩=some (.slice qr nr cr))
    ((refine HS.out _ ?_;repeat (first | exact Below.refl _ _ | refine bl_al ?_ _ | refine bl_dr ?_ | refine bl_dN ?_ _ | refine bl_tr ?_ hbs)))
    ((go_at_call 78;refine (unless_p _ _ _).mono ?_;rintro e w2 ⟨rfl,rfl⟩))
   all_goals
    go_wp2
    go_ret
    refine ⟨by rw [HX.out];rfl,?_⟩
    repeat (first|exact Below.refl _ _|refine bl_al ?_ _|refine bl_dr ?_|refine bl_dN ?_ _|refine bl_tr ?_ hbs)
  ·have hq1:((ne:Int) == (nr:Int))=false:=by rw [beq_eq_false_iff_ne];omega
   have HX:=hid (show E=73 by rw [HCN.out];simp [unl,hq])
   clear hq
   go_enter Tryz.func96,Tryz.ntmps96
   go_wp2_with fail
   clear y0 y1 y2 y3 x0 x1 x2 x3 x4 e3 i2
   go_region_held_law (fun w'=>w'.cell? ⟨b0,3,none⟩=some (.slice qe ne ce)∧w'.cell? ⟨b1,4,none⟩=some (.slice (some ⟨g,o,none⟩) n5 c5)∧w'.cell? ⟨b2,0,none⟩=some (.int .i64 (f:Int))∧w'.cell? ⟨g,o+f*6+3,none⟩=some (.slice qr nr cr))
    ((refine HS.out _ ?_;repeat (first | exact Below.refl _ _ | refine bl_al ?_ _ | refine bl_dr ?_ | refine bl_dN ?_ _ | refine bl_tr ?_ hbs)))
    ((go_at_call 78;refine (unless_p _ _ _).mono ?_;rintro e w2 ⟨rfl,rfl⟩))
   all_goals
    go_wp2
    go_ret
    refine ⟨by rw [HX.out];rfl,?_⟩
    repeat (first|exact Below.refl _ _|refine bl_al ?_ _|refine bl_dr ?_|refine bl_dN ?_ _|refine bl_tr ?_ hbs)
 ·rw [cntE_no h4 h9]
  have e4':(x.kind == 4)=false:=by rw [beq_eq_false_iff_ne];exact h4
  have e9':(x.kind == 9)=false:=by rw [beq_eq_false_iff_ne];exact h9
  clear h4 h9 h hC hu hf i0 i1 i2
  go_enter Tryz.func96,Tryz.ntmps96
  go_wp2
  go_ret
  exact ⟨rfl,Below.refl _ _⟩
end
end Go.Proofs.YtlpdjfimefjmcaaGreatDoor
