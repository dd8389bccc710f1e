/- Read, of whatever bytes. The kit's compare of functions, of modules: those that are the same are the same. There and back, plain; the law's known module, its bytes, bytes with their sum. Bytes with their sum; awake. ImageBack: the law's walk. Plain: with one byte another one, one less or one more, a -/
import Derived.Test.YtbfkgcapkffecaaImKnownPR7
import Derived.Test.YtbfkgcapkffecaaImKnownPR4
namespace Go.Proofs.Ytbfkgcapkffecaa
open Go Go.RowKit Go.Proofs.Mm Go.Sort
theorem rf_assert (er:Int) (w:World):(Instr.typeAssert (.iface 74 (.agg #[.int .i64 er])) 20 74 false).run Try.prog w=.ok (.agg #[.int .i64 er]) w:=by kernel_rfl
theorem rf_field (er:Int) (w:World):(Instr.field 74 (.agg #[.int .i64 er]) 0).run Try.prog w=.ok (.int .i64 er) w:=by kernel_rfl
theorem catch_fail (b:Nat) (x:Value) (er:Int) (w:World) (h:w.heap[b]?=some (.cells #[x] 29 (0,0))) :
    CallsD Try.prog 40 #[.pointer (some ⟨b,0,none⟩)] (.panicking (rfV er)) w fun e u' w' =>
      e=.returned (.tuple #[])∧u'=.panicking [{ v:=.iface 74 (.agg #[.int .i64 er]),recovered:=true }]∧w'=w.setCell ⟨b,0,none⟩ (.int .i64 er):=by
  have f0:=free_of (j:=0) h
  have c0:=cell_of (j:=0) h rfl
  refine callsD_of_wpS Try.func40 rfl fun c₀ cs hu=>?_
  unfold rfV at hu
  apply wpS_seq
  apply wpS_region
  simp [wpOpsS,go_sem,recoverD,hu,Try.ntmps40,Exit.thenS]
  apply wpS_seq
  apply wpS_region
  simp [wpOpsS,go_sem,Exit.thenS]
  refine wpS_cond (t:=true) (by simp [Act.eval]) ?_
  simp only [if_true]
  apply wpS_region
  simp [wpOpsS,go_sem,rf_assert,rf_field,c0,f0,bodyPostS,results,Try.results40]
theorem catch_idle (b:Nat) (w:World) :
    CallsD Try.prog 40 #[.pointer (some ⟨b,0,none⟩)] .returning w fun e u' w'=>e=.returned (.tuple #[])∧u'=.returning∧w'=w:=by
  refine callsD_of_wpS Try.func40 rfl fun c₀ cs hu=>?_
  apply wpS_seq
  apply wpS_region
  simp [wpOpsS,go_sem,recoverD,hu,Try.ntmps40,Exit.thenS]
  apply wpS_seq
  apply wpS_region
  simp [wpOpsS,go_sem,Exit.thenS]
  refine wpS_cond (t:=false) (by simp [Act.eval]) ?_
  simp only [Bool.false_eq_true,if_false]
  refine wpS_of_wp (wp_skip ?_)
  cases c₀
  simp_all [bodyPostS,results,Try.results40]
def imgOf (d:List Nat) (mo:MoM):Prop:=errI d=0∧rdMo (bodyI d)=some (mo,[])
def errR (d:List Nat):Nat:=if errI d=0 then 120 else errI d
def zeroMo:Value:=.agg #[.slice none 0 0,.slice none 0 0,.slice none 0 0,.slice none 0 0]
def ReadR (w:World) (m0:Mem) (d:List Nat) (e:Ending) (w':World):Prop:=Below w.heap.size w w' ∧
  ((∃ mo v m',imgOf d mo∧e=.returned (.tuple #[v,.int .i64 0])∧m0.More w m'∧Has w' m'∧MoR false (mC m') v mo) ∨ ((∀ mo,¬ imgOf d mo)∧e=.returned (.tuple #[zeroMo,.int .i64 (errR d:Nat)])))
abbrev moZ:Obj:=.cells #[.slice none 0 0,.slice none 0 0,.slice none 0 0,.slice none 0 0] 26
abbrev erZ:Obj:=.cells #[.int .i64 0] 29
theorem resultsR (tmps:Array Value) (w:World) (b2 b3:Nat) (x0 x1 x2 x3 y0:Value) (T2 T3:TypeId) (h2:tmps[2]?.getD undef=.pointer (some ⟨b2,0,none⟩)) (h3:tmps[3]?.getD undef=.pointer (some ⟨b3,0,none⟩))
    (c2:w.heap[b2]?=some (.cells #[x0,x1,x2,x3] T2 (0,0))) (c3:w.heap[b3]?=some (.cells #[y0] T3 (0,0))) :
    (results Try.f18 tmps).run Try.prog w=.ok (.tuple #[.agg #[x0,x1,x2,x3],y0]) w:=by
  have p0:=cell_of (j:=0) c2 rfl
  have p1:=cell_of (j:=1) c2 rfl
  have p2:=cell_of (j:=2) c2 rfl
  have p3:=cell_of (j:=3) c2 rfl
  have q0:=cell_of (j:=0) c3 rfl
  simp [results,Try.results18,go_sem,h2,h3,p0,p1,p2,p3,q0]
section
variable {w:World}
set_option maxRecDepth 100000 in
set_option maxHeartbeats 4000000 in
theorem Read_any {q:Option Addr} {c:Nat} (d:List Nat) (hp:ByIn w.heap.size w q d) (hx:bytesL d) (hl:d.length≤c) (hm:c≤maxLen) {m0:Mem} (hh:Has w m0) :
    Calls Try.prog 18 #[.slice q d.length c] w (ReadR w m0 d):=by
  have hmf:∀ (fn:Fn) (first cap:Array Value) (w:World),(Instr.makeFunc fn first cap).run Try.prog w=.ok (.func fn first cap) w:=fun _ _ _ _=>rfl
  have hb0:Below w.heap.size w ((w.alloc moZ).alloc erZ):=bl_al (bl_al (Below.refl _ _) _) _
  have hsz:((w.alloc moZ).alloc erZ).heap.size=w.heap.size+2:=by simp
  have hOP:=opened_any (w:=(w.alloc moZ).alloc erZ) (q:=q) (c:=c) d (hp.below hb0 (Nat.le_refl _) hb0.size) hx hl hm
  have HBX:=Lib.hid hx
  have HR:=Lib.hid (show ((w.alloc moZ).alloc erZ).heap[w.heap.size]?=some moZ from heap_new _ _ (World.alloc_heap_new w moZ))
  have HF:=Lib.hid (show ((w.alloc moZ).alloc erZ).heap[w.heap.size+1]?=some erZ from by have:=World.alloc_heap_new (w.alloc moZ) erZ;rwa [World.size_alloc] at this)
  have HB0:=Lib.hid hb0
  have HSZ:=Lib.hid hsz
  have HH:=Lib.hid hh
  obtain ⟨n,hn⟩:∃ n,d.length=n:=⟨_,rfl⟩
  rw [hn] at hOP ⊢
  clear hp hx hl hm hh hb0 hn
  go_enter_defers Try.func18,Try.ntmps18
  go_wp2_with fail
  go_at_call 41
  change Calls Try.prog _ _ ((w.alloc moZ).alloc erZ) _
  generalize (w.alloc moZ).alloc erZ=W0 at *
  refine hOP.mono ?_
  rintro e w1 ⟨hb1,⟨he,rfl⟩ | ⟨he,q1,c1,rfl,hby,hl1,hm1⟩⟩
  · have hf:=(hb1.block _ (heap_lt HF.out)).trans HF.out
    have hr:=(hb1.block _ (heap_lt HR.out)).trans HR.out
    have HB1:=Lib.hid (HB0.out.trans (hb1.mono HB0.out.size))
    have HR1:=Lib.hid hr
    have HF1:=Lib.hid hf
    have HE:=Lib.hid he
    clear hb1 hOP
    go_wp2_with fail
    refine leaves_cons (f:=40) (args:=#[.pointer (some ⟨w.heap.size+1,0,none⟩)]) (by simp) (by simp [go_sem]) ?_
    refine (catch_fail (w.heap.size+1) _ _ w1 hf).mono ?_
    rintro e u' w' ⟨rfl,rfl,rfl⟩
    exact ⟨_,resultsR _ _ _ _ _ _ _ _ _ _ _ rfl rfl (heap_other HR1.out (by omega)) (heap_set HF1.out 0 _),HB1.out.setCell (by simp) _,.inr ⟨fun mo h=>HE.out h.1,by unfold errR;rw [if_neg HE.out];rfl⟩⟩
  · have HE:=Lib.hid he
    obtain ⟨k,hk⟩:∃ k,(bodyI d).length=k:=⟨_,rfl⟩
    have HBL:=Lib.hid (bytesL_drop (bytesL_take HBX.out (d.length - 8)) 4:bytesL (bodyI d))
    have hd8:(bodyI d).length≤262144:=by
      have h3:¬ 262144<d.length:=fun h=>by unfold errI at he;rw [if_pos h] at he;cases he
      unfold bodyI
      rw [List.length_drop,List.length_take]
      omega
    have hs1:=hb1.size
    have HB1:=Lib.hid (HB0.out.trans (hb1.mono HB0.out.size))
    have hRS:RdS w1.heap.size (w1.alloc (.cells #[.slice q1 k c1] 76)) (bodyI d):=by
      refine ⟨⟨q1,c1,by rw [hk];exact World.alloc_heap_new w1 _,?_,hl1,hm1⟩,HBL.out⟩
      exact ((hby.below hb1 (Nat.le_refl _) hs1).below ((Below.refl _ _).alloc (Nat.le_refl _) _) (Nat.le_refl _) (Nat.le_refl _))
    have hHW:Has (w1.alloc (.cells #[.slice q1 k c1] 76)) m0:=has_grown HH.out (bl_al HB1.out _)
    have HM:=Lib.hid (rmodule_any hRS hd8 hHW (HH.out.lt (by omega)))
    have HR1:=Lib.hid (show (w1.alloc (.cells #[.slice q1 k c1] 76)).heap[w.heap.size]?=some moZ from heap_new _ _ ((hb1.block _ (heap_lt HR.out)).trans HR.out))
    have HF1:=Lib.hid (show (w1.alloc (.cells #[.slice q1 k c1] 76)).heap[w.heap.size+1]?=some erZ from heap_new _ _ ((hb1.block _ (heap_lt HF.out)).trans HF.out))
    have HS1:=Lib.hid hs1
    rw [hk]
    clear hOP hby hl1 hm1 hRS hHW hd8 hk he hb1
    go_wp2_with fail
    go_at_call 42
    refine HM.out.mono ?_
    rintro e w2 ⟨hc,⟨mo,v,m',hmo,rfl,hMo,hHm,hMR⟩ | ⟨hno,rfl⟩⟩
    · obtain ⟨v1,v2,v3,v4,rfl,z1,z2,z3,z4⟩:=hMR
      obtain ⟨a1,n1,d1,rfl⟩:∃ q n c,v1=.slice q n c:=let ⟨q,c,e⟩:=slx_shape z1;⟨q,_,c,e⟩
      obtain ⟨a2,n2,d2,rfl⟩:∃ q n c,v2=.slice q n c:=let ⟨q,c,e⟩:=slx_shape z2;⟨q,_,c,e⟩
      obtain ⟨a3,n3,d3,rfl⟩:∃ q n c,v3=.slice q n c:=let ⟨q,c,e⟩:=slx_shape z3;⟨q,_,c,e⟩
      obtain ⟨a4,n4,d4,rfl⟩:∃ q n c,v4=.slice q n c:=let ⟨q,c,e⟩:=slx_shape z4;⟨q,_,c,e⟩
      have hr:=hc.heap HR1.out (fun e=>by have:=HS1.out;have:=HSZ.out;omega)
      have hf:=hc.heap HF1.out (fun e=>by have:=HS1.out;have:=HSZ.out;omega)
      have f0:=free_of (j:=0) hr
      have f1:=free_of (j:=1) hr
      have f2:=free_of (j:=2) hr
      have f3:=free_of (j:=3) hr
      have o0:=cell_of (j:=0) hr rfl
      have o1:=cell_of (j:=1) hr rfl
      have o2:=cell_of (j:=2) hr rfl
      have o3:=cell_of (j:=3) hr rfl
      have g0:=free_of (j:=0) hf
      have y0:=cell_of (j:=0) hf rfl
      have HR2:=Lib.hid hr
      have HF2:=Lib.hid hf
      have HC:=Lib.hid hc
      have HMV:=Lib.hid (show MoR false (mC m') (.agg #[.slice a1 n1 d1,.slice a2 n2 d2,.slice a3 n3 d3,.slice a4 n4 d4]) mo from ⟨_,_,_,_,rfl,z1,z2,z3,z4⟩)
      have HMO:=Lib.hid hmo
      have HHM:=Lib.hid hHm
      have HMM:=Lib.hid hMo
      clear z1 z2 z3 z4 hr hf hc hmo hHm hMo
      go_wp2_with fail
      refine leaves_cons (f:=40) (args:=#[.pointer (some ⟨w.heap.size+1,0,none⟩)]) (by simp) (by simp [go_sem]) ?_
      refine (catch_idle (w.heap.size+1) _).mono ?_
      rintro e u' w' ⟨rfl,rfl,rfl⟩
      have hCC:Chg (fun k=>k=w.heap.size ∨ k=w.heap.size+1) w2 (((((w2.setCell ⟨w.heap.size,0,none⟩ (.slice a1 n1 d1)).setCell ⟨w.heap.size,1,none⟩ (.slice a2 n2 d2)).setCell ⟨w.heap.size,2,none⟩ (.slice a3 n3 d3)).setCell ⟨w.heap.size,3,none⟩ (.slice a4 n4 d4)).setCell ⟨w.heap.size+1,0,none⟩ (.int .i64 0)) :=
        (((((Chg.refl (fun k=>k=w.heap.size ∨ k=w.heap.size+1) w2).setCell (p:=⟨w.heap.size,0,none⟩) (.inl (.inl rfl)) _).setCell (p:=⟨w.heap.size,1,none⟩) (.inl (.inl rfl)) _).setCell (p:=⟨w.heap.size,2,none⟩) (.inl (.inl rfl)) _).setCell (p:=⟨w.heap.size,3,none⟩) (.inl (.inl rfl)) _).setCell (p:=⟨w.heap.size+1,0,none⟩) (.inl (.inr rfl)) _
      have hW2:Below w.heap.size w w2:=(bl_al HB1.out (.cells #[.slice q1 k c1] 76)).trans (HC.out.below (B:=w.heap.size) (by have:=HS1.out;have:=HSZ.out;simp;omega) (fun i e=>by have:=HS1.out;have:=HSZ.out;omega))
      refine ⟨_,resultsR _ _ w.heap.size (w.heap.size+1) (.slice a1 n1 d1) (.slice a2 n2 d2) (.slice a3 n3 d3) (.slice a4 n4 d4) (.int .i64 0) 26 29 rfl rfl ?_ ?_,hW2.trans (hCC.below hW2.size (fun i e=>by omega)),.inl ⟨mo,_,m',⟨HE.out,HMO.out⟩,rfl,HMM.out.from (by have:=HS1.out;have:=HSZ.out;simp;omega),HHM.out.chg hCC (fun t e=>HMM.out.new t (HH.out.lt (by omega)) (by have:=HS1.out;have:=HSZ.out;simp;omega)),HMV.out⟩⟩
      · exact heap_other (heap_set (heap_set (heap_set (heap_set HR2.out 0 _) 1 _) 2 _) 3 _) (by omega)
      · exact heap_set (heap_other (heap_other (heap_other (heap_other HF2.out (by omega)) (by omega)) (by omega)) (by omega)) 0 _
    · have hr:=hc.heap HR1.out (fun e=>by have:=HS1.out;have:=HSZ.out;omega)
      have hf:=hc.heap HF1.out (fun e=>by have:=HS1.out;have:=HSZ.out;omega)
      have HR2:=Lib.hid hr
      have HF2:=Lib.hid hf
      have HNO:=Lib.hid hno
      have HB2:=Lib.hid ((bl_al HB1.out (.cells #[.slice q1 k c1] 76)).trans (hc.below (B:=w.heap.size) (by have:=HS1.out;have:=HSZ.out;simp;omega) (fun i e=>by have:=HS1.out;have:=HSZ.out;omega)))
      clear hr hc hno
      go_wp2_with fail
      refine leaves_cons (f:=40) (args:=#[.pointer (some ⟨w.heap.size+1,0,none⟩)]) (by simp) (by simp [go_sem]) ?_
      refine (catch_fail (w.heap.size+1) _ _ w2 hf).mono ?_
      rintro e u' w' ⟨rfl,rfl,rfl⟩
      exact ⟨_,resultsR _ _ _ _ _ _ _ _ _ _ _ rfl rfl (heap_other HR2.out (by omega)) (heap_set HF2.out 0 _),HB2.out.setCell (by simp) _,.inr ⟨fun mo h=>HNO.out mo h.2,by unfold errR;rw [if_pos HE.out];rfl⟩⟩
end
end Go.Proofs.Ytbfkgcapkffecaa
namespace Go.Proofs.Ytbfkgcapkffecaa
open Go Go.RowKit Go.Proofs.Mm
set_option maxRecDepth 100000 in
set_option maxHeartbeats 2000000 in
theorem kfunction_true {w:World} {cs cs':List Value} {f:FnM} {la lb:Bool} (ha:FnR1 la (wC w) cs f) (hb:FnR1 lb (wC w) cs' f):Calls Try.prog 48 #[.agg cs.toArray,.agg cs'.toArray] w fun e w'=>e=.returned (.bool true)∧Below w.heap.size w w':=by
  obtain ⟨vp,vr,vc,rfl,hp,hr,hc⟩:=ha
  obtain ⟨vp',vr',vc',rfl,hp',hr',hc'⟩:=hb
  have mp:=slx_max hp
  have mr:=slx_max hr
  have mc:=slx_max hc
  unfold maxLen at mp mr mc
  obtain ⟨qp,cp,rfl⟩:=slx_shape hp
  obtain ⟨qr,cr,rfl⟩:=slx_shape hr
  obtain ⟨qc,cc,rfl⟩:=slx_shape hc
  obtain ⟨qp',cp',rfl⟩:=slx_shape hp'
  obtain ⟨qr',cr',rfl⟩:=slx_shape hr'
  obtain ⟨qc',cc',rfl⟩:=slx_shape hc'
  have K1:=Lib.hid (fun W (h:Below w.heap.size w W)=>labels_same (w:=W) (c:=cp) (c':=cp') f.params ((hp.le (below_cle h)).cells) ((hp'.le (below_cle h)).cells) (by omega))
  have K2:=Lib.hid (fun W (h:Below w.heap.size w W)=>labels_same (w:=W) (c:=cr) (c':=cr') f.results ((hr.le (below_cle h)).cells) ((hr'.le (below_cle h)).cells) (by omega))
  have K3:=Lib.hid (fun W (h:Below w.heap.size w W)=>code_same (w:=W) (c:=cc) (c':=cc') f.code ((hc.le (below_cle h)).cells) ((hc'.le (below_cle h)).cells) (by omega))
  generalize f.level=lv at *
  generalize f.locals=lo at *
  generalize f.stack=stk at *
  generalize f.params.length=np at *
  generalize f.results.length=nr at *
  generalize f.code.length=nc at *
  clear hp hr hc hp' hr' hc' mp mr mc
  have b1:(lv == lv)=true:=by simp
  have b2:(lo == lo)=true:=by simp
  have b3:(stk == stk)=true:=by simp
  go_enter Try.func48,Try.ntmps48
  go_wp2_with fail
  obtain ⟨W0,hW0⟩:∃ W0,(w.alloc (.cells #[.int .u64 lv,(.slice qp np cp),(.slice qr nr cr),.int .i64 lo,.int .i64 stk,(.slice qc nc cc)] 60)).alloc (.cells #[.int .u64 lv,(.slice qp' np cp'),(.slice qr' nr cr'),.int .i64 lo,.int .i64 stk,(.slice qc' nc cc')] 60)=W0:=⟨_,rfl⟩
  have HB0:=Lib.hid (show Below w.heap.size w W0 by rw [← hW0];exact ((Below.refl _ w).alloc (Nat.le_refl _) _).alloc (by simp) _)
  have hX:W0.heap[w.heap.size]?=some (.cells #[.int .u64 lv,(.slice qp np cp),(.slice qr nr cr),.int .i64 lo,.int .i64 stk,(.slice qc nc cc)] 60 (0,0)):=by rw [← hW0];exact heap_new _ _ (World.alloc_heap_new _ _)
  have hY:W0.heap[w.heap.size+1]?=some (.cells #[.int .u64 lv,(.slice qp' np cp'),(.slice qr' nr cr'),.int .i64 lo,.int .i64 stk,(.slice qc' nc cc')] 60 (0,0)):=by
    have h9:=World.alloc_heap_new (w.alloc (.cells #[.int .u64 lv,(.slice qp np cp),(.slice qr nr cr),.int .i64 lo,.int .i64 stk,(.slice qc nc cc)] 60)) (.cells #[.int .u64 lv,(.slice qp' np cp'),(.slice qr' nr cr'),.int .i64 lo,.int .i64 stk,(.slice qc' nc cc')] 60)
    rwa [show (w.alloc (.cells #[.int .u64 lv,(.slice qp np cp),(.slice qr nr cr),.int .i64 lo,.int .i64 stk,(.slice qc nc cc)] 60)).heap.size=w.heap.size+1 by simp,hW0] at h9
  rw [hW0]
  clear hW0
  have x0:=cell_of (j:=0) hX rfl
  have y0:=cell_of (j:=0) hY rfl
  have x1:=cell_of (j:=1) hX rfl
  have y1:=cell_of (j:=1) hY rfl
  have x3:=cell_of (j:=3) hX rfl
  have y3:=cell_of (j:=3) hY rfl
  have x4:=cell_of (j:=4) hX rfl
  have y4:=cell_of (j:=4) hY rfl
  have x2:=cell_of (j:=2) hX rfl
  have x5:=cell_of (j:=5) hX rfl
  have y2:=cell_of (j:=2) hY rfl
  have y5:=cell_of (j:=5) hY rfl
  clear hX hY
  go_at_call 47
  refine (K1.out W0 HB0.out).mono ?_
  rintro e w2 ⟨rfl,k1,rfl⟩
  go_wp2_with fail
  go_at_call 47
  refine (K2.out (W0.drewN k1) (HB0.out.drewK k1)).mono ?_
  rintro e w2 ⟨rfl,k2,rfl⟩
  go_wp2_with fail
  go_at_call 80
  refine (K3.out (W0.drewN (k1+k2)) (HB0.out.drewK (k1+k2))).mono ?_
  rintro e w2 ⟨rfl,k3,rfl⟩
  go_wp2
  go_ret
  exact ⟨rfl,HB0.out.drewK _⟩
set_option maxRecDepth 100000 in
set_option maxHeartbeats 4000000 in
theorem kmodule_true {w:World} {v v':Value} {s:MoM} {la lb:Bool} (ha:MoR la (wC w) v s) (hb:MoR lb (wC w) v' s) :
    Calls Try.prog 20 #[v,v'] w fun e w'=>e=.returned (.bool true)∧Below w.heap.size w w':=by
  obtain ⟨v1,v2,v3,v4,rfl,h1,h2,h3,h4⟩:=ha
  obtain ⟨u1,u2,u3,u4,rfl,g1,g2,g3,g4⟩:=hb
  obtain ⟨q1,c1,rfl⟩:=slx_shape h1
  obtain ⟨q2,c2,rfl⟩:=slx_shape h2
  obtain ⟨q3,c3,rfl⟩:=slx_shape h3
  obtain ⟨q4,c4,rfl⟩:=slx_shape h4
  obtain ⟨r1,e1,rfl⟩:=slx_shape g1
  obtain ⟨r2,e2,rfl⟩:=slx_shape g2
  obtain ⟨r3,e3,rfl⟩:=slx_shape g3
  obtain ⟨r4,e4,rfl⟩:=slx_shape g4
  have hm2:=slx_max h2
  have hm4:=slx_max h4
  have hm1:=slx_max h1
  have hm3:=slx_max h3
  unfold maxLen at hm1 hm2 hm3 hm4
  have HA:=Lib.hid h2.cells
  have HA':=Lib.hid g2.cells
  have HF:=Lib.hid h4.cells
  have HF':=Lib.hid g4.cells
  have K1:=Lib.hid (fun W (h:Below w.heap.size w W)=>labels_same (w:=W) (c:=c1) (c':=e1) s.globals ((h1.le (below_cle h)).cells) ((g1.le (below_cle h)).cells) (by omega))
  have K3:=Lib.hid (fun W (h:Below w.heap.size w W)=>labels_same (w:=W) (c:=c3) (c':=e3) s.channels ((h3.le (below_cle h)).cells) ((g3.le (below_cle h)).cells) (by omega))
  obtain ⟨n1,hn1⟩:∃ n,s.globals.length=n:=⟨_,rfl⟩
  obtain ⟨n2,hn2⟩:∃ n,s.arrays.length=n:=⟨_,rfl⟩
  obtain ⟨n3,hn3⟩:∃ n,s.channels.length=n:=⟨_,rfl⟩
  obtain ⟨n4,hn4⟩:∃ n,s.funcs.length=n:=⟨_,rfl⟩
  clear h1 h2 h3 h4 g1 g2 g3 g4
  rw [hn1] at K1 ⊢
  clear hm1 hm3
  rw [hn2] at hm2 ⊢
  rw [hn3] at K3 ⊢
  rw [hn4] at hm4 ⊢
  have HN2:=Lib.hid hn2
  have HN4:=Lib.hid hn4
  have hneq2:((n2:Int) != (n2:Int))=false:=by simp
  have hneq4:((n4:Int) != (n4:Int))=false:=by simp
  clear hn1 hn2 hn3 hn4
  go_enter Try.func20,Try.ntmps20
  go_wp2_with fail
  obtain ⟨W0,hW0⟩:∃ W0,(w.alloc (.cells #[.slice q1 n1 c1,.slice q2 n2 c2,.slice q3 n3 c3,.slice q4 n4 c4] 26)).alloc (.cells #[.slice r1 n1 e1,.slice r2 n2 e2,.slice r3 n3 e3,.slice r4 n4 e4] 26)=W0:=⟨_,rfl⟩
  have HB0:=Lib.hid (show Below w.heap.size w W0 by rw [← hW0];exact ((Below.refl _ w).alloc (Nat.le_refl _) _).alloc (by simp) _)
  have hX:W0.heap[w.heap.size]?=some (.cells #[.slice q1 n1 c1,.slice q2 n2 c2,.slice q3 n3 c3,.slice q4 n4 c4] 26 (0,0)):=by rw [← hW0];exact heap_new _ _ (World.alloc_heap_new _ _)
  have hY:W0.heap[w.heap.size+1]?=some (.cells #[.slice r1 n1 e1,.slice r2 n2 e2,.slice r3 n3 e3,.slice r4 n4 e4] 26 (0,0)):=by
    have h9:=World.alloc_heap_new (w.alloc (.cells #[.slice q1 n1 c1,.slice q2 n2 c2,.slice q3 n3 c3,.slice q4 n4 c4] 26)) (.cells #[.slice r1 n1 e1,.slice r2 n2 e2,.slice r3 n3 e3,.slice r4 n4 e4] 26)
    rwa [show (w.alloc (.cells #[.slice q1 n1 c1,.slice q2 n2 c2,.slice q3 n3 c3,.slice q4 n4 c4] 26)).heap.size=w.heap.size+1 by simp,hW0] at h9
  rw [hW0]
  clear hW0
  have x0:=cell_of (j:=0) hX rfl
  have y0:=cell_of (j:=0) hY rfl
  have x1:=cell_of (j:=1) hX rfl
  have y1:=cell_of (j:=1) hY rfl
  have x2:=cell_of (j:=2) hX rfl
  have y2:=cell_of (j:=2) hY rfl
  have x3:=cell_of (j:=3) hX rfl
  have y3:=cell_of (j:=3) hY rfl
  have HX:=Lib.hid hX
  have HY:=Lib.hid hY
  clear hX hY
  go_at_call 47
  refine (K1.out W0 HB0.out).mono ?_
  rintro e w2 ⟨rfl,k1,rfl⟩
  go_wp2_with fail
  go_at_call 47
  refine (K3.out (W0.drewN k1) (HB0.out.drewK k1)).mono ?_
  rintro e w2 ⟨rfl,k2,rfl⟩
  go_wp2_with fail
  have HB1:=Lib.hid (HB0.out.drewK (k1+k2))
  have HX1:=Lib.hid (show (W0.drewN (k1+k2)).heap[w.heap.size]?=_ from HX.out)
  have HY1:=Lib.hid (show (W0.drewN (k1+k2)).heap[w.heap.size+1]?=_ from HY.out)
  clear x0 x1 x2 x3 y0 y1 y2 y3 HX HY HB0 K1 K3
  generalize W0.drewN (k1+k2)=W1 at *
  have x1:=cell_of (j:=1) HX1.out rfl
  have y1:=cell_of (j:=1) HY1.out rfl
  have HLE:=Lib.hid (below_cle HB1.out)
  go_loopw [5] (fun i wr=>∃ k nq:Nat,k≤n2∧i=.int .i64 k∧wr=W1.drewN nq) (fun i _=>n2 - (intOf i).toNat)
  case atStart=>exact ⟨0,0,Nat.zero_le _,rfl,rfl⟩
  case round =>
    obtain ⟨k,nq,hk,rfl,rfl⟩:=hrel
    by_cases hlt:k<n2
    · have hk':k<s.arrays.length:=by rw [HN2.out];exact hlt
      obtain ⟨ga,oa,rfl,a1,a2⟩:=HA.out k hk'
      obtain ⟨g',o',rfl,b1,b2⟩:=HA'.out k hk'
      have z1:W1.cell? ⟨ga,oa+k * 2,none⟩=some (.int .i64 s.arrays[k].1):=HLE.out _ _ a1
      have z2:W1.cell? ⟨ga,oa+k * 2+1,none⟩=some (.int .u64 s.arrays[k].2):=HLE.out _ _ a2
      have z3:W1.cell? ⟨g',o'+k * 2,none⟩=some (.int .i64 s.arrays[k].1):=HLE.out _ _ b1
      have z4:W1.cell? ⟨g',o'+k * 2+1,none⟩=some (.int .u64 s.arrays[k].2):=HLE.out _ _ b2
      clear a1 a2 b1 b2
      generalize s.arrays[k].1=m1 at *
      generalize s.arrays[k].2=m2 at *
      have hki:(k:Int)<(n2:Int):=by omega
      have hne:∀ W,(binOp .neq 55 (.agg #[.int .i64 m1,.int .u64 m2]) (.agg #[.int .i64 m1,.int .u64 m2])).run Try.prog W=.ok (.bool false) W:=fun W=>by rw [neArr'];simp
      go_wp2
      go_quiet (fail)
      go_wp2
      exact ⟨⟨k+1,_,by omega,by go_num,rfl⟩,by simp [intOf];omega⟩
    · go_wp2_with fail
      obtain rfl:k=n2:=by omega
      have HB2:=Lib.hid (HB1.out.drewK nq)
      have HX2:=Lib.hid (show (W1.drewN nq).heap[w.heap.size]?=_ from HX1.out)
      have HY2:=Lib.hid (show (W1.drewN nq).heap[w.heap.size+1]?=_ from HY1.out)
      clear x1 y1 HX1 HY1 HB1 HLE
      generalize W1.drewN nq=W2 at *
      go_loopw [6] (fun i wr=>∃ j:Nat,j≤n4∧i=.int .i64 j∧Hid (Below W2.heap.size W2 wr)) (fun i _=>n4 - (intOf i).toNat)
      case atStart=>exact ⟨0,Nat.zero_le _,rfl,Lib.hid (Below.refl _ _)⟩
      case round =>
        obtain ⟨j,hj,rfl,HBV⟩:=hrel
        generalize wr=V at *
        have HXV:=Lib.hid ((HBV.out.block _ (heap_lt HX2.out)).trans HX2.out)
        have HYV:=Lib.hid ((HBV.out.block _ (heap_lt HY2.out)).trans HY2.out)
        have HBW:=Lib.hid (show Below w.heap.size w V from HB2.out.trans (HBV.out.mono HB2.out.size))
        have HLV:=Lib.hid (below_cle HBW.out)
        have x1:=cell_of (j:=1) HXV.out rfl
        have x3:=cell_of (j:=3) HXV.out rfl
        have y3:=cell_of (j:=3) HYV.out rfl
        by_cases hlt4:j<n4
        · have hj':j<s.funcs.length:=by rw [HN4.out];exact hlt4
          obtain ⟨gf,of',vp,vr,vc,rfl,hf,a0,a1,a2,a3,a4,a5⟩:=HF.out j hj'
          obtain ⟨g',o',vp',vr',vc',rfl,hf',b0,b1,b2,b3,b4,b5⟩:=HF'.out j hj'
          have HKEP:=Lib.hid (fun W (h:Below w.heap.size w W)=>kfunction_true (w:=W) (hf.le (below_cle h)) (hf'.le (below_cle h)))
          have z0:=HLV.out _ _ a0
          have z1:=HLV.out _ _ a1
          have z2:=HLV.out _ _ a2
          have z3:=HLV.out _ _ a3
          have z4:=HLV.out _ _ a4
          have z5:=HLV.out _ _ a5
          have t0:=HLV.out _ _ b0
          have t1:=HLV.out _ _ b1
          have t2:=HLV.out _ _ b2
          have t3:=HLV.out _ _ b3
          have t4:=HLV.out _ _ b4
          have t5:=HLV.out _ _ b5
          unfold wC at z0 z1 z2 z3 z4 z5 t0 t1 t2 t3 t4 t5
          clear a0 a1 a2 a3 a4 a5 b0 b1 b2 b3 b4 b5 hf hf'
          generalize s.funcs[j].level=lv at *
          generalize s.funcs[j].locals=lo at *
          generalize s.funcs[j].stack=stk at *
          have hji:(j:Int)<(n4:Int):=by omega
          go_wp2_with fail
          have hmx:Try.prog.follows .mixedOrders=true:=by kernel_rfl
          have HBY:=Lib.hid (be_drew (Below.refl V.heap.size V))
          refine wp_region_held_drew (S:=fun x=>Below V.heap.size V x) hmx HBY.out (fun hHeld=>?_)
          generalize V.drew=Y at *
          refine wpAnyH_take (i:=0) (v:=.pointer (some ⟨w.heap.size,3,none⟩)) rfl (by kernel_rfl) (by kernel_rfl) (by kernel_rfl) (fun _ _ _ h=>h) (Or.inl ⟨by rfl,fun w hSw=>by (skip);go_simp⟩) (by assumption) ?_
          try simp only [Act.put,List.setIfInBounds_toArray,List.set_cons_zero,List.set_cons_succ,List.getElem_toArray,List.getElem_cons_zero,List.getElem_cons_succ]
          refine wpAnyH_take (i:=1) (v:=.slice (some ⟨gf,of',none⟩) n4 c4) rfl (by kernel_rfl) (by kernel_rfl) (by kernel_rfl) (fun _ _ _ h=>h) (Or.inl ⟨by rfl,fun w hSw=>by (have s0:w.cell? _=some _:=below_cle hSw _ _ x3);go_simp⟩) (by assumption) ?_
          try simp only [Act.put,List.setIfInBounds_toArray,List.set_cons_zero,List.set_cons_succ,List.getElem_toArray,List.getElem_cons_zero,List.getElem_cons_succ]
          refine wpAnyH_take (i:=2) (v:=.int .i64 (j:Int)) rfl (by kernel_rfl) (by kernel_rfl) (by kernel_rfl) (fun _ _ _ h=>h) (Or.inl ⟨by rfl,fun w hSw=>by (skip);go_simp⟩) (by assumption) ?_
          try simp only [Act.put,List.setIfInBounds_toArray,List.set_cons_zero,List.set_cons_succ,List.getElem_toArray,List.getElem_cons_zero,List.getElem_cons_succ]
          refine wpAnyH_take (i:=3) (v:=.pointer (some ⟨gf,of'+j * 6,none⟩)) rfl (by kernel_rfl) (by kernel_rfl) (by kernel_rfl) (fun _ _ _ h=>h) (Or.inl ⟨by rfl,fun w hSw=>by (skip);go_simp⟩) (by assumption) ?_
          try simp only [Act.put,List.setIfInBounds_toArray,List.set_cons_zero,List.set_cons_succ,List.getElem_toArray,List.getElem_cons_zero,List.getElem_cons_succ]
          refine wpAnyH_take (i:=4) (v:=.agg #[.int .u64 lv,vp,vr,.int .i64 lo,.int .i64 stk,vc]) rfl (by kernel_rfl) (by kernel_rfl) (by kernel_rfl) (fun _ _ _ h=>h) (Or.inl ⟨by rfl,fun w hSw=>by (have s0:w.cell? _=some _:=below_cle hSw _ _ z0;have s1:w.cell? _=some _:=below_cle hSw _ _ z1;have s2:w.cell? _=some _:=below_cle hSw _ _ z2;have s3:w.cell? _=some _:=below_cle hSw _ _ z3;have s4:w.cell? _=some _:=below_cle hSw _ _ z4;have s5:w.cell? _=some _:=below_cle hSw _ _ z5);go_simp⟩) (by assumption) ?_
          try simp only [Act.put,List.setIfInBounds_toArray,List.set_cons_zero,List.set_cons_succ,List.getElem_toArray,List.getElem_cons_zero,List.getElem_cons_succ]
          refine wpAnyH_take (i:=5) (v:=.pointer (some ⟨w.heap.size+1,3,none⟩)) rfl (by kernel_rfl) (by kernel_rfl) (by kernel_rfl) (fun _ _ _ h=>h) (Or.inl ⟨by rfl,fun w hSw=>by (skip);go_simp⟩) (by assumption) ?_
          try simp only [Act.put,List.setIfInBounds_toArray,List.set_cons_zero,List.set_cons_succ,List.getElem_toArray,List.getElem_cons_zero,List.getElem_cons_succ]
          refine wpAnyH_take (i:=6) (v:=.slice (some ⟨g',o',none⟩) n4 e4) rfl (by kernel_rfl) (by kernel_rfl) (by kernel_rfl) (fun _ _ _ h=>h) (Or.inl ⟨by rfl,fun w hSw=>by (have s0:w.cell? _=some _:=below_cle hSw _ _ y3);go_simp⟩) (by assumption) ?_
          try simp only [Act.put,List.setIfInBounds_toArray,List.set_cons_zero,List.set_cons_succ,List.getElem_toArray,List.getElem_cons_zero,List.getElem_cons_succ]
          refine wpAnyH_take (i:=7) (v:=.int .i64 (j:Int)) rfl (by kernel_rfl) (by kernel_rfl) (by kernel_rfl) (fun _ _ _ h=>h) (Or.inl ⟨by rfl,fun w hSw=>by (skip);go_simp⟩) (by assumption) ?_
          try simp only [Act.put,List.setIfInBounds_toArray,List.set_cons_zero,List.set_cons_succ,List.getElem_toArray,List.getElem_cons_zero,List.getElem_cons_succ]
          refine wpAnyH_take (i:=8) (v:=.pointer (some ⟨g',o'+j * 6,none⟩)) rfl (by kernel_rfl) (by kernel_rfl) (by kernel_rfl) (fun _ _ _ h=>h) (Or.inl ⟨by rfl,fun w hSw=>by (skip);go_simp⟩) (by assumption) ?_
          try simp only [Act.put,List.setIfInBounds_toArray,List.set_cons_zero,List.set_cons_succ,List.getElem_toArray,List.getElem_cons_zero,List.getElem_cons_succ]
          refine wpAnyH_take (i:=9) (v:=.agg #[.int .u64 lv,vp',vr',.int .i64 lo,.int .i64 stk,vc']) rfl (by kernel_rfl) (by kernel_rfl) (by kernel_rfl) (fun _ _ _ h=>h) (Or.inl ⟨by rfl,fun w hSw=>by (have s0:w.cell? _=some _:=below_cle hSw _ _ t0;have s1:w.cell? _=some _:=below_cle hSw _ _ t1;have s2:w.cell? _=some _:=below_cle hSw _ _ t2;have s3:w.cell? _=some _:=below_cle hSw _ _ t3;have s4:w.cell? _=some _:=below_cle hSw _ _ t4;have s5:w.cell? _=some _:=below_cle hSw _ _ t5);go_simp⟩) (by assumption) ?_
          try simp only [Act.put,List.setIfInBounds_toArray,List.set_cons_zero,List.set_cons_succ,List.getElem_toArray,List.getElem_cons_zero,List.getElem_cons_succ]
          refine wpAnyH_ready (rs:=[10]) (by kernel_rfl) (by simp) ?_
          refine AllReadyH.cons rfl (fun K1 hK1=>?_) AllReadyH.nil
          go_simp
          go_at_call 48
          refine (HKEP.out Y (HBW.out.trans (HBY.out.mono HBW.out.size))).mono ?_
          rintro e wk ⟨rfl,hbk⟩
          have HBK:=Lib.hid (be_le HBY.out hbk)
          refine hK1.out _ _ HBK.out (fun hHeld=>?_)
          clear hK1 K1 hbk
          try simp only [Act.put,List.setIfInBounds_toArray,List.set_cons_zero,List.set_cons_succ,List.getElem_toArray,List.getElem_cons_zero,List.getElem_cons_succ]
          refine wpAnyH_take (i:=11) (v:=.bool false) rfl (by kernel_rfl) (by kernel_rfl) (by kernel_rfl) (fun _ _ _ h=>h) (Or.inl ⟨by rfl,fun w hSw=>by (skip);go_simp⟩) (by assumption) ?_
          try simp only [Act.put,List.setIfInBounds_toArray,List.set_cons_zero,List.set_cons_succ,List.getElem_toArray,List.getElem_cons_zero,List.getElem_cons_succ]
          refine wpAnyH_done (by kernel_rfl) ?_ _
          clear x1 x3 y3 z0 z1 z2 z3 z4 z5 t0 t1 t2 t3 t4 t5 hHeld
          go_wp2
          exact ⟨⟨j+1,by omega,by go_num,Lib.hid (be_le HBV.out HBK.out)⟩,by simp [intOf];omega⟩
        · obtain rfl:j=n4:=by omega
          go_wp2
          go_ret
          exact ⟨rfl,HBW.out⟩
end Go.Proofs.Ytbfkgcapkffecaa
namespace Go.Proofs.Ytbfkgcapkffecaa
open Go Go.RowKit Go.Proofs.Mm Go.Sort
theorem bodyI_im (m:MoM):bodyI (imF m)=bdF m:=by
  unfold bodyI
  rw [imF_len,Nat.add_sub_cancel]
  unfold imF
  rw [List.take_left]
  rfl
theorem errI_im {m:MoM} (h:(imF m).length≤262144):errI (imF m)=0:=by
  have hl:=imF_len m
  have h4:(imF m).take 4=headF:=by unfold imF moF headF;rfl
  have h12:12≤(imF m).length:=by
    have:(moF m).length=4+(bdF m).length:=by unfold moF;rw [List.length_append];rfl
    omega
  unfold errI
  rw [if_neg (by omega),if_neg (by rintro (h | h);omega;exact h h4),hl,Nat.add_sub_cancel]
  unfold imF
  rw [List.drop_left,List.take_left,if_pos rfl]
theorem img_im {m:MoM} (hw:moW m) (ho:moOk m=true) (hl:(imF m).length≤262144):imgOf (imF m) m:=by
  refine ⟨errI_im hl,?_⟩
  rw [bodyI_im]
  have:=rt_mo m [] (moP_of hw ho)
  rwa [List.append_nil] at this
theorem img_one {d:List Nat} {a b:MoM} (h:imgOf d a) (k:imgOf d b):a=b:=by
  have:=h.2.symm.trans k.2
  injection this with this
  injection this
theorem img_is {d:List Nat} {m:MoM} (h:imgOf d m):moP m∧imF m=d∧d.length≤262144:=by
  obtain ⟨h1,h2⟩:=h
  obtain ⟨p,e⟩:=rb_mo _ _ _ h2
  rw [List.append_nil] at e
  unfold errI at h1
  split at h1
  · cases h1
  rename_i k1
  split at h1
  · cases h1
  rename_i k2
  split at h1
  · rename_i k3
    have k4:d.take 4=headF:=Classical.byContradiction fun h=>k2 (.inr h)
    have k5:¬ d.length<12:=fun h=>k2 (.inl h)
    have hmo:d.take (d.length - 8)=moF m:=by
      unfold moF
      rw [← e]
      unfold bodyI
      have h4:(d.take (d.length - 8)).take 4=headF:=by rw [List.take_take,Nat.min_eq_left (by omega)];exact k4
      rw [← h4,List.take_append_drop]
    refine ⟨p,?_,by omega⟩
    unfold imF
    rw [← hmo,← k3,List.take_append_drop]
  · cases h1
def gvM:MoM:=⟨[3],[(2,0)],[],[⟨1,[],[0],2,4,[(32,7),(46,0)]⟩]⟩
def formL:List Nat:=[76,86,82,1,1,3,1,2,0,0,1,1,0,1,0,2,4,2,32,7,46]
theorem putI_7:putI 32 7=[32,7]:=by
  unfold putI
  rw [if_pos (mayI_const 7),if_pos rfl,putS_small (by omega)]
  rfl
theorem putI_46:putI 46 0=[46]:=by
  have h1:mayI 46 0=true:=by decide
  have h2:opdI 46=false:=by decide
  unfold putI
  rw [if_pos h1,if_neg (by decide),h2]
  rfl
theorem moF_gv:moF gvM=formL:=by
  simp [moF,bdF,listF,labF,arF,szF,fnF,inF,headF,gvM,putI_7,putI_46,putU_small,formL]
theorem gv_ok:moOk gvM=true:=by decide
theorem gv_W:moW gvM:=by
  refine ⟨⟨by decide,?_⟩,⟨by decide,?_⟩,⟨by decide,?_⟩,⟨by decide,?_⟩⟩
  · intro x hx;simp [gvM] at hx;subst hx;unfold labW;omega
  · intro x hx;simp [gvM] at hx;subst hx;unfold arW szW labW;simp
  · intro x hx;simp [gvM] at hx
  · intro f hf
    simp [gvM] at hf
    subst hf
    refine ⟨by unfold labW;simp,⟨by decide,by simp⟩,⟨by decide,?_⟩,by unfold szW;simp,by unfold szW;simp,⟨by decide,?_⟩⟩
    · intro x hx;simp at hx;subst hx;unfold labW;omega
    · intro x hx;simp at hx;rcases hx with rfl | rfl <;> (unfold inW szW;simp)
theorem gv_len:(imF gvM).length=29:=by rw [imF_len,moF_gv];rfl
section
variable {w:World}
theorem sl_lit {α:Type} {bs:Nat} {R:List Value→α→Prop} {g:Nat} {cs:List Value} {T:TypeId} {l:List α} (h:InB w g cs.toArray T) (he:Enc R cs l) (hb:l.length * bs≤140737488351232) (hm:l.length≤maxLen):SlX [] bs (wC w) R (.slice (some ⟨g,0,none⟩) l.length l.length) l:=by
  refine ⟨some ⟨g,0,none⟩,l.length,cs,rfl,.inl rfl,.inr ⟨g,0,rfl,fun j u hu=>?_⟩,he,hb,hm,(fun h=>by cases h),Nat.le_refl _⟩
  rw [List.append_nil] at hu
  rw [Nat.zero_add]
  exact h.cell (by simpa using hu)
theorem sl_nil {α:Type} {bs:Nat} {C:Cl} {R:List Value→α→Prop}:SlX [] bs C R (.slice none 0 0) ([]:List α) :=
  ⟨none,0,[],rfl,.inl rfl,.inl rfl,Enc.nil,by simp,by unfold maxLen;omega,fun _=>rfl,by simp⟩
theorem inb_al {b:Nat} {cs:Array Value} {T:TypeId} (h:InB w b cs T) (o:Obj):InB (w.alloc o) b cs T:=heap_new _ _ h
set_option maxRecDepth 100000 in
set_option maxHeartbeats 2000000 in
theorem given_any (w:World):Calls Try.prog 27 #[] w fun e w'=>∃ v,e=.returned v∧MoR false (wC w') v gvM∧Below w.heap.size w w':=by
  go_enter Try.func27,Try.ntmps27
  go_wp2
  refine bodyPost_ret (results_cell_row rfl _ _ w.heap.size 26 #[.slice (some ⟨w.heap.size+1,0,none⟩) 1 1,.slice (some ⟨w.heap.size+1+1,0,none⟩) 1 1,.slice none 0 0,.slice (some ⟨w.heap.size+1+1+1+1+1,0,none⟩) 1 1] (0,0) _ rfl (inb_al (inb_al (inb_al (inb_al (inb_al (InB.new _ _ _) _) _) _) _) _) Try.underlying26 rfl (by kernel_rfl)) rfl ?_
  refine ⟨_,rfl,?_,bl_al (bl_al (bl_al (bl_al (bl_al (bl_al (Below.refl _ _) _) _) _) _) _) _⟩
  refine ⟨_,_,_,_,rfl,?_,?_,sl_nil,?_⟩
  · exact sl_lit (l:=[3]) (inb_al (inb_al (inb_al (inb_al (InB.new' _ _ (by simp)) _) _) _) _) (Enc.one rfl) (by decide) (by decide)
  · exact sl_lit (l:=[(2,0)]) (inb_al (inb_al (inb_al (InB.new' _ _ (by simp)) _) _) _) (Enc.one rfl) (by decide) (by decide)
  · have hi:=InB.new (((((w.alloc (Obj.cells #[.slice (some ⟨w.heap.size+1,0,none⟩) 1 1,.slice (some ⟨w.heap.size+1+1,0,none⟩) 1 1,.slice none 0 0,.slice (some ⟨w.heap.size+1+1+1+1+1,0,none⟩) 1 1] 26)).alloc (Obj.cells #[.int .u64 3] 53)).alloc (Obj.cells #[.int .i64 2,.int .u64 0] 55)).alloc (Obj.cells #[.int .u64 0] 53)).alloc (Obj.cells #[.int .i64 32,.int .i64 7,.int .i64 46,.int .i64 0] 57)) #[.int .u64 1,.slice none 0 0,.slice (some ⟨w.heap.size+1+1+1,0,none⟩) 1 1,.int .i64 2,.int .i64 4,.slice (some ⟨w.heap.size+1+1+1+1,0,none⟩) 2 2] 60
    simp only [World.size_alloc] at hi
    refine sl_lit (R:=FnR1 false _) (cs:=[.int .u64 1,.slice none 0 0,.slice (some ⟨w.heap.size+1+1+1,0,none⟩) 1 1,.int .i64 2,.int .i64 4,.slice (some ⟨w.heap.size+1+1+1+1,0,none⟩) 2 2]) (l:=[⟨1,[],[0],2,4,[(32,7),(46,0)]⟩]) hi (Enc.one ⟨_,_,_,rfl,sl_nil,?_,?_⟩) (by decide) (by decide)
    · exact sl_lit (l:=[0]) (inb_al (inb_al (InB.new' _ _ (by simp)) _) _) (Enc.one rfl) (by decide) (by decide)
    · exact sl_lit (l:=[(32,7),(46,0)]) (inb_al (InB.new' _ _ (by simp)) _) ⟨[.int .i64 32,.int .i64 7],[.int .i64 46,.int .i64 0],rfl,rfl,Enc.one rfl⟩ (by decide) (by decide)
set_option maxRecDepth 100000 in
theorem form_any (w:World):Calls Try.prog 28 #[] w fun e w'=>e=.returned (.slice (some ⟨w.heap.size,0,none⟩) 21 21)∧OwnB w.heap.size w' (.slice (some ⟨w.heap.size,0,none⟩) 21 21) formL∧Below w.heap.size w w':=by
  go_enter Try.func28,Try.ntmps28
  go_wp2
  go_ret
  refine ⟨rfl,?_,bl_al (Below.refl _ _) _⟩
  exact World.ownsRow_lit w _ 21 (Nat.le_refl _) (by unfold maxLen;omega) rfl
end
end Go.Proofs.Ytbfkgcapkffecaa
namespace Go.Proofs.Ytbfkgcapkffecaa
open Go Go.RowKit Go.Proofs.Mm Go.Sort
section
variable {w:World}
set_option maxRecDepth 100000 in
set_option maxHeartbeats 2000000 in
theorem sealed_any {ad:Addr} {c:Nat} (l:List Nat) (hA:ByIn w.heap.size w (some ad) l) (hx:bytesL l) (hm:l.length≤1000000) :
    Calls Try.prog 25 #[.slice (some ad) l.length c] w fun e w'=>∃ g cp,e=.returned (.slice (some ⟨g,0,none⟩) (l.length+8) cp)∧OwnB w.heap.size w' (.slice (some ⟨g,0,none⟩) (l.length+8) cp) (l++sealF l)∧Below w.heap.size w w':=by
  have HS:=Lib.hid (Sum_any (w:=w.alloc (.cells #[.slice (some ad) l.length c] 28)) (cp:=1) [l] (pts_one hA hx (by unfold maxLen;omega)) (by unfold maxLen;simp))
  have HLT:=Lib.hid (sumF_lt sum0 sum0_lt l)
  have HCL:=Lib.hid (by_cells (hA.below (bl_al (Below.refl _ _) (.cells #[.slice (some ad) l.length c] 28)) (Nat.le_refl _) (Nat.le_refl _)))
  have hsl:=sealF_eq l
  rw [show [l].flatten=l by simp,show [l].length=1 from rfl] at HS
  generalize sumF sum0 l=S at *
  have HSL:=Lib.hid hsl
  have HM:=Lib.hid hm
  clear hA hx hsl
  obtain ⟨n,hn⟩:∃ n,l.length=n:=⟨_,rfl⟩
  have HN:=Lib.hid hn
  rw [hn] at HS hm HCL ⊢
  clear hn
  go_enter Try.func25,Try.ntmps25
  go_wp2_with fail
  refine HS.out.mono ?_
  rintro e w1 ⟨rfl,hw1⟩
  subst hw1
  have hb0:Below w.heap.size w (w.alloc (.cells #[.slice (some ad) n c] 28)):=bl_al (Below.refl _ _) _
  clear HS
  have hnil:OwnB w.heap.size (w.alloc (.cells #[.slice (some ad) n c] 28)) (.slice none 0 0) []:=World.ownsRow_nil _ _ _ _
  go_wp2_with (at_builtin;refine wpList_bytes rfl _ _ rfl w.heap.size _ [] rfl hnil ad c l (by rw [HN.out];rfl) HCL.out (by rw [HN.out];simp;omega) (by simp) ?_)
  intro v2 w2 hO2 hgr _
  have hO2:OwnB w.heap.size w2 v2 l:=hO2
  have hb2:Below w.heap.size w w2:=hb0.trans (below_own hgr (by simp) (fun t ht=>by cases ht))
  clear hgr hnil hb0
  go_wp2_with fail
  go_loopw [4,5] (fun b m wr=>∃ j:Nat,j≤8∧m=.int .i64 (7 - (j:Int))∧OwnB w.heap.size wr b (l++(List.range j).map (sealL S))∧Below w.heap.size w wr) (fun _ m _=>((intOf m)+1).toNat)
  case atStart=>exact ⟨0,by omega,rfl,by simpa using hO2,hb2⟩
  case round =>
    obtain ⟨j,hj,rfl,hO,hb⟩:=hrel
    obtain ⟨q',c',rfl⟩:=hO.slice
    have hlen:(l++(List.range j).map (sealL S)).length=n+j:=by rw [List.length_append,HN.out];simp
    by_cases hj8:j<8
    · obtain ⟨s,hs⟩:∃ s:Nat,56 - 8 * j=s:=⟨_,rfl⟩
      obtain ⟨i7,hi7⟩:∃ i7:Nat,7 - j=i7:=⟨_,rfl⟩
      have hs2:(7:Int) - (j:Int)=(i7:Int):=by omega
      rw [hs2]
      have hs64:(s:Int)≤64:=by omega
      have hmul:wrap64 (8 * (i7:Int))=(s:Int):=by rw [wrap_id (by omega) (by omega)];omega
      have hmul2:IntKind.i64.wrap (8 * (i7:Int))=(s:Int):=by rw [wrap_i64];exact hmul
      have hcv:IntKind.u64.wrap (s:Int)=(s:Int):=by rw [wrapU64];omega
      have h8s:(8:Int) * (i7:Int)=(s:Int):=by omega
      have hsh:=shrN S s
      have hsf:=shrOp S s .u64 (by omega)
      have hby:=sealByte S s
      have HV:=Lib.hid (show S / 2 ^ s % 256=sealL S j from by unfold sealL;rw [hs])
      generalize S / 2 ^ s=X at *
      generalize X % 256=x at *
      have hA2:=hO.alloc (.cells #[.int .u8 (x:Int)] 5)
      rw [hlen] at hA2 ⊢
      have HBL:=Lib.hid hb
      have hbs:=hb.size
      have hi7n:¬ (i7:Int)<0:=by omega
      clear hO hs hi7
      go_wp2_with (at_builtin;refine wpList_bytes rfl _ _ rfl w.heap.size _ (l++(List.range j).map (sealL S)) rfl hA2 ⟨_,0,none⟩ 1 [x] rfl (one_cells _ x) (by rw [hlen];simp;omega) (by simp;omega) ?_)
      intro v3 w3 hO3 hgr _
      have HO3:=Lib.hid (show OwnB w.heap.size w3 v3 (l++(List.range (j+1)).map (sealL S)) from by rw [sealR_succ,← HV.out];simpa using hO3)
      have HB3:=Lib.hid (show Below w.heap.size w w3 from (bl_al HBL.out _).trans (below_own hgr (by simp;omega) (fun t ht=>(hA2.lt t ht).1)))
      clear hO3 hgr hA2 hb
      go_wp2
      refine ⟨⟨j+1,by omega,by go_num,HO3.out,HB3.out⟩,by simp [intOf] <;> omega⟩
    · obtain rfl:j=8:=by omega
      rw [← HSL.out] at hO hlen ⊢
      obtain ⟨g,cp,hv,_⟩:=row_form hO (by rw [List.length_append,sealF_len];omega)
      rw [hlen] at hO hv ⊢
      injection hv with hv1 _ hv2
      subst hv1 hv2
      have HO:=Lib.hid hO
      have HB:=Lib.hid hb
      clear hO hb
      go_wp2
      go_ret
      exact ⟨_,_,rfl,HO.out,HB.out⟩
theorem sum_61:sumF sum0 [97]=12638187200555641996:=by decide
set_option maxRecDepth 100000 in
set_option maxHeartbeats 1000000 in
theorem awake_any (w:World):Calls Try.prog 16 #[] w fun e w'=>e=.returned (.bool true)∧Below w.heap.size w w':=by
  have HIM:=Lib.hid (img_im gv_W gv_ok (by rw [gv_len];omega))
  have HEX:=Lib.hid (show imF gvM=formL++sealF formL from by unfold imF;rw [moF_gv])
  go_enter Try.func16,Try.ntmps16
  go_wp2_with fail
  refine (given_any w).mono ?_
  rintro e w1 ⟨v,rfl,hM,hb⟩
  have HB1:=Lib.hid hb
  have HW:=Lib.hid (Write_any hM gv_W)
  clear hM hb
  go_wp2_with fail
  refine HW.out.mono ?_
  rintro e w2 ⟨⟨v2,hO,_,rfl⟩,hb⟩
  rw [if_pos ⟨gv_ok,by rw [gv_len];omega⟩] at hO
  rw [if_pos gv_ok,if_pos (by rw [gv_len];omega)]
  obtain ⟨q2,c2,rfl⟩:=hO.slice
  have hcap:(imF gvM).length≤c2∧c2≤maxLen:=by
    obtain ⟨g,cp,hv,_⟩:=row_form hO (by rw [gv_len];omega)
    injection hv with hv1 _ hv2
    subst hv1 hv2
    exact row_cap hO
  have HB2:=Lib.hid (bl_tr HB1.out hb)
  have HO2:=Lib.hid hO
  have HR:=Lib.hid (Read_any (w:=w2) (q:=q2) (c:=c2) (imF gvM) hO.in (imF_bytes _) hcap.1 hcap.2 (m0:=fun _=>none) (fun _ _ h=>by cases h))
  rw [gv_len] at HR ⊢
  rw [gv_len] at HO2
  clear hb hO hcap HW
  go_wp2_with fail
  refine HR.out.mono ?_
  rintro e w3 ⟨hb,⟨mo,v3,m3,him,rfl,_,hH,hMR⟩ | ⟨hno,rfl⟩⟩
  · have hmg:=img_one him HIM.out
    subst hmg
    obtain ⟨u1,u2,u3,u4,rfl,z1,z2,z3,z4⟩:=hMR
    obtain ⟨a1,n1,d1,rfl⟩:∃ q n c,u1=.slice q n c:=let ⟨q,c,e⟩:=slx_shape z1;⟨q,_,c,e⟩
    obtain ⟨a2,n2,d2,rfl⟩:∃ q n c,u2=.slice q n c:=let ⟨q,c,e⟩:=slx_shape z2;⟨q,_,c,e⟩
    obtain ⟨a3,n3,d3,rfl⟩:∃ q n c,u3=.slice q n c:=let ⟨q,c,e⟩:=slx_shape z3;⟨q,_,c,e⟩
    obtain ⟨a4,n4,d4,rfl⟩:∃ q n c,u4=.slice q n c:=let ⟨q,c,e⟩:=slx_shape z4;⟨q,_,c,e⟩
    have HMR:=Lib.hid (show MoR false (wC w3) (.agg #[.slice a1 n1 d1,.slice a2 n2 d2,.slice a3 n3 d3,.slice a4 n4 d4]) gvM from ⟨_,_,_,_,rfl,z1.le (has_cle hH),z2.le (has_cle hH),z3.le (has_cle hH),z4.le (has_cle hH)⟩)
    have HB3:=Lib.hid (bl_tr HB2.out hb)
    have HBB:=Lib.hid hb
    have HI:=Lib.hid (InB.new w3 #[.slice a1 n1 d1,.slice a2 n2 d2,.slice a3 n3 d3,.slice a4 n4 d4] 26)
    clear z1 z2 z3 z4 hH hb him HR
    obtain ⟨FL,hFL⟩:∃ L,formL=L:=⟨_,rfl⟩
    obtain ⟨FS,hFS⟩:∃ L,formL++sealF formL=L:=⟨_,rfl⟩
    have HFM:=Lib.hid (fun (W:World)=>show Calls Try.prog 28 #[] W (fun e w'=>∃ g,e=.returned (.slice (some ⟨g,0,none⟩) 21 21)∧OwnB W.heap.size w' (.slice (some ⟨g,0,none⟩) 21 21) FL∧Below W.heap.size W w') from (form_any W).mono fun e w' h=>⟨_,h.1,hFL ▸ h.2.1,h.2.2⟩)
    have HSE:=Lib.hid (fun (W:World) (b:Nat) (h:ByIn W.heap.size W (some ⟨b,0,none⟩) FL)=>show Calls Try.prog 25 #[.slice (some ⟨b,0,none⟩) 21 21] W (fun e w'=>∃ g cp,e=.returned (.slice (some ⟨g,0,none⟩) 29 cp)∧OwnB W.heap.size w' (.slice (some ⟨g,0,none⟩) 29 cp) FS∧Below W.heap.size W w') from by
      rw [← hFL] at h
      have:=sealed_any (w:=W) (c:=21) formL h (by intro x hx;simp [formL] at hx;omega) (by decide)
      rw [hFS] at this
      exact this)
    have HBY:=Lib.hid (fun (W:World) (g cp:Nat) (hb:Below w2.heap.size w2 W) (h:ByIn W.heap.size W (some ⟨g,0,none⟩) FS)=>show Calls Try.prog 13 #[.slice q2 29 c2,.slice (some ⟨g,0,none⟩) 29 cp] W (fun e w'=>e=.returned (.bool true)∧Below W.heap.size W w') from by
      have h29:FS.length=29:=by rw [← hFS,← HEX.out,gv_len]
      have h1:ByIn W.heap.size W q2 FS:=by
        have:=(HO2.out.in).below hb (Nat.le_refl _) hb.size
        rwa [HEX.out,hFS] at this
      have:=bytes_any q2 (some ⟨g,0,none⟩) c2 cp FS FS (by rw [h29];decide) W h1 h
      rw [decide_eq_true rfl,h29] at this
      exact this)
    clear hFL hFS
    have HSU:=Lib.hid (fun (W:World)=>show Calls Try.prog 23 #[.slice (some ⟨W.heap.size+1,0,none⟩) 1 1] ((W.alloc (.cells #[.int .u8 97] 5)).alloc (.cells #[.slice (some ⟨W.heap.size,0,none⟩) 1 1] 28)) (fun e w'=>e=.returned (.int .u64 12638187200555641996)∧w'=((W.alloc (.cells #[.int .u8 97] 5)).alloc (.cells #[.slice (some ⟨W.heap.size,0,none⟩) 1 1] 28))) from by
      have h1:=(one_own W 97).in
      have h2:=pts_one (c:=1) h1 (by intro x hx;simp at hx;omega) (by decide)
      have:=Sum_any (cp:=1) [[97]] h2 (by decide)
      rw [show ([[97]]:List (List Nat)).flatten=[97] from rfl,sum_61,World.size_alloc] at this
      exact this)
    have SK:=Lib.hid (fun (x y:World) (h:x.cell? ⟨w3.heap.size,0,none⟩=some (.slice a1 n1 d1)∧x.cell? ⟨w3.heap.size,1,none⟩=some (.slice a2 n2 d2)∧x.cell? ⟨w3.heap.size,2,none⟩=some (.slice a3 n3 d3)∧x.cell? ⟨w3.heap.size,3,none⟩=some (.slice a4 n4 d4)∧Below w3.heap.size w3 x) (hb:Below x.heap.size x y)=>show y.cell? ⟨w3.heap.size,0,none⟩=some (.slice a1 n1 d1)∧y.cell? ⟨w3.heap.size,1,none⟩=some (.slice a2 n2 d2)∧y.cell? ⟨w3.heap.size,2,none⟩=some (.slice a3 n3 d3)∧y.cell? ⟨w3.heap.size,3,none⟩=some (.slice a4 n4 d4)∧Below w3.heap.size w3 y from
      ⟨cell_b h.1 hb,cell_b h.2.1 hb,cell_b h.2.2.1 hb,cell_b h.2.2.2.1 hb,bl_tr h.2.2.2.2 hb⟩)
    have S0:=Lib.hid (show (w3.alloc (.cells #[.slice a1 n1 d1,.slice a2 n2 d2,.slice a3 n3 d3,.slice a4 n4 d4] 26)).drew.cell? ⟨w3.heap.size,0,none⟩=some (.slice a1 n1 d1)∧(w3.alloc (.cells #[.slice a1 n1 d1,.slice a2 n2 d2,.slice a3 n3 d3,.slice a4 n4 d4] 26)).drew.cell? ⟨w3.heap.size,1,none⟩=some (.slice a2 n2 d2)∧(w3.alloc (.cells #[.slice a1 n1 d1,.slice a2 n2 d2,.slice a3 n3 d3,.slice a4 n4 d4] 26)).drew.cell? ⟨w3.heap.size,2,none⟩=some (.slice a3 n3 d3)∧(w3.alloc (.cells #[.slice a1 n1 d1,.slice a2 n2 d2,.slice a3 n3 d3,.slice a4 n4 d4] 26)).drew.cell? ⟨w3.heap.size,3,none⟩=some (.slice a4 n4 d4)∧Below w3.heap.size w3 (w3.alloc (.cells #[.slice a1 n1 d1,.slice a2 n2 d2,.slice a3 n3 d3,.slice a4 n4 d4] 26)).drew from ⟨HI.out.cell (j:=0) rfl,HI.out.cell (j:=1) rfl,HI.out.cell (j:=2) rfl,HI.out.cell (j:=3) rfl,be_drew (bl_al (Below.refl _ _) _)⟩)
    obtain ⟨GM,hGM⟩:∃ G,gvM=G:=⟨_,rfl⟩
    have HGV:=Lib.hid (fun (W:World)=>show Calls Try.prog 27 #[] W (fun e w'=>∃ v,e=.returned v∧MoR false (wC w') v GM∧Below W.heap.size W w') from hGM ▸ given_any W)
    rw [hGM] at HMR
    clear hGM HEX HO2 HIM
    go_upto_region 3 with (fail)
    go_region_held3 (fun x=>x.cell? ⟨w3.heap.size,0,none⟩=some (.slice a1 n1 d1)∧x.cell? ⟨w3.heap.size,1,none⟩=some (.slice a2 n2 d2)∧x.cell? ⟨w3.heap.size,2,none⟩=some (.slice a3 n3 d3)∧x.cell? ⟨w3.heap.size,3,none⟩=some (.slice a4 n4 d4)∧Below w3.heap.size w3 x)
      (first | exact S0.out | assumption | exact SK.out _ _ (SK.out _ _ (by assumption) (bl_al (Below.refl _ _) _)) (bl_al (Below.refl _ _) _) | exact SK.out _ _ (by assumption) (bl_al (Below.refl _ _) _))
      (first
        | (go_at_call 28;refine (HFM.out _).mono ?_;rintro e y1 ⟨g1,rfl,o1,b1⟩;have hk1:=SK.out _ _ (by assumption) b1)
        | (go_at_call 25;refine (HSE.out _ _ o1.in).mono ?_;rintro e y2 ⟨g2,cp2,rfl,o2,b2⟩;have hk2:=SK.out _ _ hk1 b2)
        | (go_at_call 13;refine (HBY.out _ g2 cp2 (bl_tr HBB.out hk2.2.2.2.2) o2.in).mono ?_;rintro e y3 ⟨rfl,b3⟩;have hk3:=SK.out _ _ hk2 b3)
        | (go_at_call 27;refine (HGV.out _).mono ?_;rintro e y4 ⟨v4,rfl,m4,b4⟩;obtain ⟨r1,e1,r2,e2,r3,e3,r4,e4,rfl⟩:=mod_shape m4;have hk4:=SK.out _ _ hk3 b4)
        | (go_at_call 20;refine (kmodule_true (HMR.out.le (below_cle hk4.2.2.2.2)) m4).mono ?_;rintro e y5 ⟨rfl,b5⟩;have hk5:=SK.out _ _ hk4 b5)
        | (go_at_call 23;refine (HSU.out y5).mono ?_;rintro e y6 ⟨rfl,hy6⟩;have hk6:=SK.out _ _ (SK.out _ _ hk5 (bl_al (Below.refl _ _) (.cells #[.int .u8 97] 5))) (bl_al (Below.refl _ _) (.cells #[.slice (some ⟨y5.heap.size,0,none⟩) 1 1] 28));subst hy6))
    all_goals
      go_wp2
      go_ret
      exact ⟨rfl,bl_tr HB3.out hk6.2.2.2.2⟩
  · exact absurd HIM.out (hno gvM)
end
end Go.Proofs.Ytbfkgcapkffecaa
namespace Go.Proofs.Ytbfkgcapkffecaa
open Go Go.RowKit Go.Proofs.Mm Go.Sort
abbrev WC (m:MoM):Prop:=moOk m=true∧(imF m).length≤262144
theorem WriteR.yes {w w':World} {m:MoM} {e:Ending} (h:WriteR w m e w') (hc:WC m):∃ g c,e=.returned (.tuple #[.slice (some ⟨g,0,none⟩) (imF m).length c,.int .i64 0])∧OwnB w.heap.size w' (.slice (some ⟨g,0,none⟩) (imF m).length c) (imF m)∧(imF m).length≤c∧c≤maxLen∧Below w.heap.size w w':=by
  obtain ⟨⟨v,hO,_,he⟩,hb⟩:=h
  rw [if_pos hc] at hO
  rw [if_pos hc.1,if_pos hc.2] at he
  obtain ⟨g,c,rfl,_⟩:=row_form hO (by rw [imF_len];omega)
  exact ⟨g,c,he,hO,(row_cap hO).1,(row_cap hO).2,hb⟩
theorem WriteR.no {w w':World} {m:MoM} {e:Ending} (h:WriteR w m e w') (hc:¬ WC m):∃ z:Int,e=.returned (.tuple #[.slice none 0 0,.int .i64 z])∧z ≠ 0∧(moOk m=false→z=1)∧(moOk m=true→z=3)∧Below w.heap.size w w':=by
  obtain ⟨⟨v,hO,hv,he⟩,hb⟩:=h
  obtain rfl:=hv hc
  refine ⟨_,he,?_,?_,?_,hb⟩
  · by_cases h1:moOk m=true
    · rw [if_pos h1,if_neg (fun h2=>hc ⟨h1,h2⟩)];decide
    · rw [if_neg h1];decide
  · intro h1
    rw [if_neg (by rw [h1];simp)]
  · intro h1
    rw [if_pos h1,if_neg (fun h2=>hc ⟨h1,h2⟩)]
theorem errR_ne (d:List Nat):errR d ≠ 0:=by
  unfold errR
  split
  · decide
  · assumption
theorem zero_mo {C:Cl}:MoR false C zeroMo ⟨[],[],[],[]⟩:=⟨_,_,_,_,rfl,sl_nil,sl_nil,sl_nil,sl_nil⟩
theorem zero_W:moW ⟨[],[],[],[]⟩:=⟨⟨by decide,by simp⟩,⟨by decide,by simp⟩,⟨by decide,by simp⟩,⟨by decide,by simp⟩⟩
theorem MoR.read {w:World} {m:Mem} {v:Value} {mo:MoM} (h:MoR false (mC m) v mo) (hm:Has w m):∃ a1 n1 d1 a2 n2 d2 a3 n3 d3 a4 n4 d4,v=.agg #[.slice a1 n1 d1,.slice a2 n2 d2,.slice a3 n3 d3,.slice a4 n4 d4]∧MoR false (wC w) (.agg #[.slice a1 n1 d1,.slice a2 n2 d2,.slice a3 n3 d3,.slice a4 n4 d4]) mo:=by
  have h2:=h.le (has_cle hm)
  obtain ⟨q1,c1,q2,c2,q3,c3,q4,c4,rfl⟩:=mod_shape h2
  exact ⟨_,_,_,_,_,_,_,_,_,_,_,_,rfl,h2⟩
section
variable {w:World}
end
end Go.Proofs.Ytbfkgcapkffecaa
namespace Go.Proofs.Ytbfkgcapkffecaa
open Go Go.RowKit Go.Proofs.Mm Go.Sort
theorem app_len {a b c d:List Nat} (h:a++b=c++d) (hl:b.length=d.length):a=c∧b=d:=by
  have:=congrArg List.length h
  rw [List.length_append,List.length_append] at this
  exact List.append_inj h (by omega)
section
variable {m:MoM} (hw:moW m) (hC:WC m)
include hw hC
end
end Go.Proofs.Ytbfkgcapkffecaa
