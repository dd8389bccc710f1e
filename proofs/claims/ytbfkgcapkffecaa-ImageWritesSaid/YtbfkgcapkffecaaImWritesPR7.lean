/- The kit's kept module. Modules in memory: what stays. The reader: take, number, label, size, instr, array. The reader: number, label, size, instr, array. The reader: an instruction, an array. -/
import Derived.Test.YtbfkgcapkffecaaImWritesPR6
import Derived.Laws.StructEq
import Derived.BigQuiet
import Derived.Test.YtbfkgcapkffecaaImWritesPR5
import Derived.Test.YtbfkgcapkffecaaImWritesPR4
namespace Go.Proofs.Ytbfkgcapkffecaa
open Go Go.RowKit Go.Proofs.Mm
theorem eqArr (a b c d:Int) (w:World):(Op.equalIn 10000 55 (.agg #[.int .i64 a,.int .u64 b]) (.agg #[.int .i64 c,.int .u64 d])).run Try.prog w=.ok (a == c && b == d) w:=by
  have u3:=Try.underlying3
  have u2:=Try.underlying53
  have hS:Try.prog.underlying 55=some (.struct (Try.prog.fieldsOf 55)):=by kernel_rfl
  have hp:Try.prog.stoodInHeld 55=false:=by kernel_rfl
  rw [show (10000:Nat)=9999+1 from rfl,run_equalIn_agg w 9999 55 _ _ hS hp]
  simp only [Program.fieldsOf,Try.underlying55]
  go_simp
  by_cases h1:a=c <;> by_cases h2:b=d <;> simp [h1,h2]
theorem neArr' (a b c d:Int) (w:World):(binOp .neq 55 (.agg #[.int .i64 a,.int .u64 b]) (.agg #[.int .i64 c,.int .u64 d])).run Try.prog w=.ok (.bool (!(a == c && b == d))) w:=by
  rw [run_neq_struct,eqArr];rfl
set_option maxRecDepth 100000 in
set_option maxHeartbeats 4000000 in
theorem keptModule_true {w:World} {v v':Value} {s:MoM} (ha:MoR true (wC w) v s) (hb:MoR false (wC w) v' s) :
    Calls Try.prog 14 #[v,v'] w fun e w'=>e=.returned (.bool true)∧Below w.heap.size w w':=by
  obtain ⟨v1,v2,v3,v4,rfl,h1,h2,h3,h4⟩:=ha
  obtain ⟨u1,u2,u3,u4,rfl,g1,g2,g3,g4⟩:=hb
  obtain ⟨q1,c1,rfl⟩:=slx_shape h1
  obtain ⟨q2,c2,rfl⟩:=slx_shape h2
  obtain ⟨q3,c3,rfl⟩:=slx_shape h3
  obtain ⟨q4,c4,rfl⟩:=slx_shape h4
  obtain ⟨r1,e1,rfl⟩:=slx_shape g1
  obtain ⟨r2,e2,rfl⟩:=slx_shape g2
  obtain ⟨r3,e3,rfl⟩:=slx_shape g3
  obtain ⟨r4,e4,rfl⟩:=slx_shape g4
  have hm2:=slx_max h2
  have hm4:=slx_max h4
  unfold maxLen at hm2 hm4
  obtain ⟨_,hc2,hx2,ga,oa,rfl,hka⟩:=slx_mark (size:=2) h2 (by decide) ar_len (by simp [mkA])
  obtain ⟨_,hc4,hx4,gf,of',rfl,hkf⟩:=slx_mark (size:=6) h4 (by decide) fn_len (by simp [mkF])
  unfold maxLen at hx2 hx4
  have HA:=Lib.hid h2.cells
  have HA':=Lib.hid g2.cells
  have HF:=Lib.hid h4.cells
  have HF':=Lib.hid g4.cells
  have K1:=Lib.hid (fun W (h:Below w.heap.size w W)=>keptLabels_true (w:=W) (h1.le (below_cle h)) (g1.le (below_cle h)))
  have K3:=Lib.hid (fun W (h:Below w.heap.size w W)=>keptLabels_true (w:=W) (h3.le (below_cle h)) (g3.le (below_cle h)))
  obtain ⟨n1,hn1⟩:∃ n,s.globals.length=n:=⟨_,rfl⟩
  obtain ⟨n2,hn2⟩:∃ n,s.arrays.length=n:=⟨_,rfl⟩
  obtain ⟨n3,hn3⟩:∃ n,s.channels.length=n:=⟨_,rfl⟩
  obtain ⟨n4,hn4⟩:∃ n,s.funcs.length=n:=⟨_,rfl⟩
  clear h1 h2 h3 h4 g1 g2 g3 g4
  rw [hn1] at K1 ⊢
  rw [hn2] at hm2 hc2 hka ⊢
  rw [hn3] at K3 ⊢
  rw [hn4] at hm4 hc4 hkf ⊢
  have HN2:=Lib.hid hn2
  have HN4:=Lib.hid hn4
  have HKA:=Lib.hid (show wC w ⟨ga,oa+n2 * 2,none⟩=some (.int .i64 (-71))∧wC w ⟨ga,oa+n2 * 2+1,none⟩=some (.int .u64 0) from ⟨by have:=hka 0 _ rfl;simpa using this,hka 1 _ rfl⟩)
  have HKF:=Lib.hid (show wC w ⟨gf,of'+n4 * 6,none⟩=some (.int .u64 0)∧wC w ⟨gf,of'+n4 * 6+1,none⟩=some (.slice none 0 0)∧wC w ⟨gf,of'+n4 * 6+2,none⟩=some (.slice none 0 0)∧wC w ⟨gf,of'+n4 * 6+3,none⟩=some (.int .i64 0)∧wC w ⟨gf,of'+n4 * 6+4,none⟩=some (.int .i64 (-71))∧wC w ⟨gf,of'+n4 * 6+5,none⟩=some (.slice none 0 0) from ⟨by have:=hkf 0 _ rfl;simpa using this,hkf 1 _ rfl,hkf 2 _ rfl,hkf 3 _ rfl,hkf 4 _ rfl,hkf 5 _ rfl⟩)
  have hneq2:((n2:Int) != (n2:Int))=false:=by simp
  have hneq4:((n4:Int) != (n4:Int))=false:=by simp
  have hi2:(n2:Int)<(n2:Int)+1:=by omega
  have hi4:(n4:Int)<(n4:Int)+1:=by omega
  have hcc2:(n2:Int)+1≤(c2:Int):=by omega
  have hcc4:(n4:Int)+1≤(c4:Int):=by omega
  clear hka hkf hn1 hn2 hn3 hn4
  go_enter Try.func14,Try.ntmps14
  go_wp2_with fail
  obtain ⟨W0,hW0⟩:∃ W0,(w.alloc (.cells #[.slice q1 n1 c1,.slice (some ⟨ga,oa,none⟩) n2 c2,.slice q3 n3 c3,.slice (some ⟨gf,of',none⟩) n4 c4] 26)).alloc (.cells #[.slice r1 n1 e1,.slice r2 n2 e2,.slice r3 n3 e3,.slice r4 n4 e4] 26)=W0:=⟨_,rfl⟩
  have HB0:=Lib.hid (show Below w.heap.size w W0 by rw [← hW0];exact ((Below.refl _ w).alloc (Nat.le_refl _) _).alloc (by simp) _)
  have hX:W0.heap[w.heap.size]?=some (.cells #[.slice q1 n1 c1,.slice (some ⟨ga,oa,none⟩) n2 c2,.slice q3 n3 c3,.slice (some ⟨gf,of',none⟩) n4 c4] 26 (0,0)):=by rw [← hW0];exact heap_new _ _ (World.alloc_heap_new _ _)
  have hY:W0.heap[w.heap.size+1]?=some (.cells #[.slice r1 n1 e1,.slice r2 n2 e2,.slice r3 n3 e3,.slice r4 n4 e4] 26 (0,0)):=by
    have h9:=World.alloc_heap_new (w.alloc (.cells #[.slice q1 n1 c1,.slice (some ⟨ga,oa,none⟩) n2 c2,.slice q3 n3 c3,.slice (some ⟨gf,of',none⟩) n4 c4] 26)) (.cells #[.slice r1 n1 e1,.slice r2 n2 e2,.slice r3 n3 e3,.slice r4 n4 e4] 26)
    rwa [show (w.alloc (.cells #[.slice q1 n1 c1,.slice (some ⟨ga,oa,none⟩) n2 c2,.slice q3 n3 c3,.slice (some ⟨gf,of',none⟩) n4 c4] 26)).heap.size=w.heap.size+1 by simp,hW0] at h9
  rw [hW0]
  clear hW0
  have x0:=cell_of (j:=0) hX rfl
  have y0:=cell_of (j:=0) hY rfl
  have x1:=cell_of (j:=1) hX rfl
  have y1:=cell_of (j:=1) hY rfl
  have x2:=cell_of (j:=2) hX rfl
  have y2:=cell_of (j:=2) hY rfl
  have x3:=cell_of (j:=3) hX rfl
  have y3:=cell_of (j:=3) hY rfl
  have HX:=Lib.hid hX
  have HY:=Lib.hid hY
  clear hX hY
  go_at_call 38
  refine (K1.out W0 HB0.out).mono ?_
  rintro e w2 ⟨rfl,k1,rfl⟩
  go_wp2_with fail
  go_at_call 38
  refine (K3.out (W0.drewN k1) (HB0.out.drewK k1)).mono ?_
  rintro e w2 ⟨rfl,k2,rfl⟩
  go_wp2_with fail
  have HB1:=Lib.hid (HB0.out.drewK (k1+k2))
  have HX1:=Lib.hid (show (W0.drewN (k1+k2)).heap[w.heap.size]?=_ from HX.out)
  have HY1:=Lib.hid (show (W0.drewN (k1+k2)).heap[w.heap.size+1]?=_ from HY.out)
  clear x0 x1 x2 x3 y0 y1 y2 y3 HX HY HB0 K1 K3
  generalize W0.drewN (k1+k2)=W1 at *
  have x1:=cell_of (j:=1) HX1.out rfl
  have y1:=cell_of (j:=1) HY1.out rfl
  have HLE:=Lib.hid (below_cle HB1.out)
  go_loopw [5] (fun i wr=>∃ k nq:Nat,k≤n2∧i=.int .i64 k∧wr=W1.drewN nq) (fun i _=>n2 - (intOf i).toNat)
  case atStart=>exact ⟨0,0,Nat.zero_le _,rfl,rfl⟩
  case round =>
    obtain ⟨k,nq,hk,rfl,rfl⟩:=hrel
    by_cases hlt:k<n2
    · have hk':k<s.arrays.length:=by rw [HN2.out];exact hlt
      obtain ⟨g,o,hq,a1,a2⟩:=HA.out k hk'
      obtain ⟨rfl,rfl⟩:ga=g∧oa=o:=by injection hq with hq;injection hq with hq1 hq2;exact ⟨hq1,hq2⟩
      obtain ⟨g',o',rfl,b1,b2⟩:=HA'.out k hk'
      have z1:W1.cell? ⟨ga,oa+k * 2,none⟩=some (.int .i64 s.arrays[k].1):=HLE.out _ _ a1
      have z2:W1.cell? ⟨ga,oa+k * 2+1,none⟩=some (.int .u64 s.arrays[k].2):=HLE.out _ _ a2
      have z3:W1.cell? ⟨g',o'+k * 2,none⟩=some (.int .i64 s.arrays[k].1):=HLE.out _ _ b1
      have z4:W1.cell? ⟨g',o'+k * 2+1,none⟩=some (.int .u64 s.arrays[k].2):=HLE.out _ _ b2
      clear a1 a2 b1 b2 hq
      generalize s.arrays[k].1=m1 at *
      generalize s.arrays[k].2=m2 at *
      have hki:(k:Int)<(n2:Int):=by omega
      have hne:∀ W,(binOp .neq 55 (.agg #[.int .i64 m1,.int .u64 m2]) (.agg #[.int .i64 m1,.int .u64 m2])).run Try.prog W=.ok (.bool false) W:=fun W=>by rw [neArr'];simp
      go_wp2
      go_quiet (fail)
      go_wp2
      exact ⟨⟨k+1,_,by omega,by go_num,rfl⟩,by simp [intOf];omega⟩
    · go_wp2_with fail
      obtain rfl:k=n2:=by omega
      have HB2:=Lib.hid (HB1.out.drewK nq)
      have HX2:=Lib.hid (show (W1.drewN nq).heap[w.heap.size]?=_ from HX1.out)
      have HY2:=Lib.hid (show (W1.drewN nq).heap[w.heap.size+1]?=_ from HY1.out)
      clear x1 y1 HX1 HY1 HB1 HLE
      generalize W1.drewN nq=W2 at *
      go_loopw [6] (fun i wr=>∃ j:Nat,j≤n4∧i=.int .i64 j∧Hid (Below W2.heap.size W2 wr)) (fun i _=>n4 - (intOf i).toNat)
      case atStart=>exact ⟨0,Nat.zero_le _,rfl,Lib.hid (Below.refl _ _)⟩
      case round =>
        obtain ⟨j,hj,rfl,HBV⟩:=hrel
        generalize wr=V at *
        have HXV:=Lib.hid ((HBV.out.block _ (heap_lt HX2.out)).trans HX2.out)
        have HYV:=Lib.hid ((HBV.out.block _ (heap_lt HY2.out)).trans HY2.out)
        have HBW:=Lib.hid (show Below w.heap.size w V from HB2.out.trans (HBV.out.mono HB2.out.size))
        have HLV:=Lib.hid (below_cle HBW.out)
        have x1:=cell_of (j:=1) HXV.out rfl
        have x3:=cell_of (j:=3) HXV.out rfl
        have y3:=cell_of (j:=3) HYV.out rfl
        by_cases hlt4:j<n4
        · have hj':j<s.funcs.length:=by rw [HN4.out];exact hlt4
          obtain ⟨g,o,vp,vr,vc,hq,hf,a0,a1,a2,a3,a4,a5⟩:=HF.out j hj'
          obtain ⟨rfl,rfl⟩:gf=g∧of'=o:=by injection hq with hq;injection hq with hq1 hq2;exact ⟨hq1,hq2⟩
          obtain ⟨g',o',vp',vr',vc',rfl,hf',b0,b1,b2,b3,b4,b5⟩:=HF'.out j hj'
          have HKEP:=Lib.hid (fun W (h:Below w.heap.size w W)=>keptFunction_true (w:=W) (hf.le (below_cle h)) (hf'.le (below_cle h)))
          have z0:=HLV.out _ _ a0
          have z1:=HLV.out _ _ a1
          have z2:=HLV.out _ _ a2
          have z3:=HLV.out _ _ a3
          have z4:=HLV.out _ _ a4
          have z5:=HLV.out _ _ a5
          have t0:=HLV.out _ _ b0
          have t1:=HLV.out _ _ b1
          have t2:=HLV.out _ _ b2
          have t3:=HLV.out _ _ b3
          have t4:=HLV.out _ _ b4
          have t5:=HLV.out _ _ b5
          unfold wC at z0 z1 z2 z3 z4 z5 t0 t1 t2 t3 t4 t5
          clear a0 a1 a2 a3 a4 a5 b0 b1 b2 b3 b4 b5 hf hf' hq
          generalize s.funcs[j].level=lv at *
          generalize s.funcs[j].locals=lo at *
          generalize s.funcs[j].stack=stk at *
          have hji:(j:Int)<(n4:Int):=by omega
          go_wp2_with fail
          have hmx:Try.prog.follows .mixedOrders=true:=by kernel_rfl
          have HBY:=Lib.hid (be_drew (Below.refl V.heap.size V))
          refine wp_region_held_drew (S:=fun x=>Below V.heap.size V x) hmx HBY.out (fun hHeld=>?_)
          generalize V.drew=Y at *
          refine wpAnyH_take (i:=0) (v:=.pointer (some ⟨w.heap.size,3,none⟩)) rfl (by kernel_rfl) (by kernel_rfl) (by kernel_rfl) (fun _ _ _ h=>h) (Or.inl ⟨by rfl,fun w hSw=>by (skip);go_simp⟩) (by assumption) ?_
          try simp only [Act.put,List.setIfInBounds_toArray,List.set_cons_zero,List.set_cons_succ,List.getElem_toArray,List.getElem_cons_zero,List.getElem_cons_succ]
          refine wpAnyH_take (i:=1) (v:=.slice (some ⟨gf,of',none⟩) n4 c4) rfl (by kernel_rfl) (by kernel_rfl) (by kernel_rfl) (fun _ _ _ h=>h) (Or.inl ⟨by rfl,fun w hSw=>by (have s0:w.cell? _=some _:=below_cle hSw _ _ x3);go_simp⟩) (by assumption) ?_
          try simp only [Act.put,List.setIfInBounds_toArray,List.set_cons_zero,List.set_cons_succ,List.getElem_toArray,List.getElem_cons_zero,List.getElem_cons_succ]
          refine wpAnyH_take (i:=2) (v:=.int .i64 (j:Int)) rfl (by kernel_rfl) (by kernel_rfl) (by kernel_rfl) (fun _ _ _ h=>h) (Or.inl ⟨by rfl,fun w hSw=>by (skip);go_simp⟩) (by assumption) ?_
          try simp only [Act.put,List.setIfInBounds_toArray,List.set_cons_zero,List.set_cons_succ,List.getElem_toArray,List.getElem_cons_zero,List.getElem_cons_succ]
          refine wpAnyH_take (i:=3) (v:=.pointer (some ⟨gf,of'+j * 6,none⟩)) rfl (by kernel_rfl) (by kernel_rfl) (by kernel_rfl) (fun _ _ _ h=>h) (Or.inl ⟨by rfl,fun w hSw=>by (skip);go_simp⟩) (by assumption) ?_
          try simp only [Act.put,List.setIfInBounds_toArray,List.set_cons_zero,List.set_cons_succ,List.getElem_toArray,List.getElem_cons_zero,List.getElem_cons_succ]
          refine wpAnyH_take (i:=4) (v:=.agg #[.int .u64 lv,vp,vr,.int .i64 lo,.int .i64 stk,vc]) rfl (by kernel_rfl) (by kernel_rfl) (by kernel_rfl) (fun _ _ _ h=>h) (Or.inl ⟨by rfl,fun w hSw=>by (have s0:w.cell? _=some _:=below_cle hSw _ _ z0;have s1:w.cell? _=some _:=below_cle hSw _ _ z1;have s2:w.cell? _=some _:=below_cle hSw _ _ z2;have s3:w.cell? _=some _:=below_cle hSw _ _ z3;have s4:w.cell? _=some _:=below_cle hSw _ _ z4;have s5:w.cell? _=some _:=below_cle hSw _ _ z5);go_simp⟩) (by assumption) ?_
          try simp only [Act.put,List.setIfInBounds_toArray,List.set_cons_zero,List.set_cons_succ,List.getElem_toArray,List.getElem_cons_zero,List.getElem_cons_succ]
          refine wpAnyH_take (i:=5) (v:=.pointer (some ⟨w.heap.size+1,3,none⟩)) rfl (by kernel_rfl) (by kernel_rfl) (by kernel_rfl) (fun _ _ _ h=>h) (Or.inl ⟨by rfl,fun w hSw=>by (skip);go_simp⟩) (by assumption) ?_
          try simp only [Act.put,List.setIfInBounds_toArray,List.set_cons_zero,List.set_cons_succ,List.getElem_toArray,List.getElem_cons_zero,List.getElem_cons_succ]
          refine wpAnyH_take (i:=6) (v:=.slice (some ⟨g',o',none⟩) n4 e4) rfl (by kernel_rfl) (by kernel_rfl) (by kernel_rfl) (fun _ _ _ h=>h) (Or.inl ⟨by rfl,fun w hSw=>by (have s0:w.cell? _=some _:=below_cle hSw _ _ y3);go_simp⟩) (by assumption) ?_
          try simp only [Act.put,List.setIfInBounds_toArray,List.set_cons_zero,List.set_cons_succ,List.getElem_toArray,List.getElem_cons_zero,List.getElem_cons_succ]
          refine wpAnyH_take (i:=7) (v:=.int .i64 (j:Int)) rfl (by kernel_rfl) (by kernel_rfl) (by kernel_rfl) (fun _ _ _ h=>h) (Or.inl ⟨by rfl,fun w hSw=>by (skip);go_simp⟩) (by assumption) ?_
          try simp only [Act.put,List.setIfInBounds_toArray,List.set_cons_zero,List.set_cons_succ,List.getElem_toArray,List.getElem_cons_zero,List.getElem_cons_succ]
          refine wpAnyH_take (i:=8) (v:=.pointer (some ⟨g',o'+j * 6,none⟩)) rfl (by kernel_rfl) (by kernel_rfl) (by kernel_rfl) (fun _ _ _ h=>h) (Or.inl ⟨by rfl,fun w hSw=>by (skip);go_simp⟩) (by assumption) ?_
          try simp only [Act.put,List.setIfInBounds_toArray,List.set_cons_zero,List.set_cons_succ,List.getElem_toArray,List.getElem_cons_zero,List.getElem_cons_succ]
          refine wpAnyH_take (i:=9) (v:=.agg #[.int .u64 lv,vp',vr',.int .i64 lo,.int .i64 stk,vc']) rfl (by kernel_rfl) (by kernel_rfl) (by kernel_rfl) (fun _ _ _ h=>h) (Or.inl ⟨by rfl,fun w hSw=>by (have s0:w.cell? _=some _:=below_cle hSw _ _ t0;have s1:w.cell? _=some _:=below_cle hSw _ _ t1;have s2:w.cell? _=some _:=below_cle hSw _ _ t2;have s3:w.cell? _=some _:=below_cle hSw _ _ t3;have s4:w.cell? _=some _:=below_cle hSw _ _ t4;have s5:w.cell? _=some _:=below_cle hSw _ _ t5);go_simp⟩) (by assumption) ?_
          try simp only [Act.put,List.setIfInBounds_toArray,List.set_cons_zero,List.set_cons_succ,List.getElem_toArray,List.getElem_cons_zero,List.getElem_cons_succ]
          refine wpAnyH_ready (rs:=[10]) (by kernel_rfl) (by simp) ?_
          refine AllReadyH.cons rfl (fun K1 hK1=>?_) AllReadyH.nil
          go_simp
          go_at_call 39
          refine (HKEP.out Y (HBW.out.trans (HBY.out.mono HBW.out.size))).mono ?_
          rintro e wk ⟨rfl,hbk⟩
          have HBK:=Lib.hid (be_le HBY.out hbk)
          refine hK1.out _ _ HBK.out (fun hHeld=>?_)
          clear hK1 K1 hbk
          try simp only [Act.put,List.setIfInBounds_toArray,List.set_cons_zero,List.set_cons_succ,List.getElem_toArray,List.getElem_cons_zero,List.getElem_cons_succ]
          refine wpAnyH_take (i:=11) (v:=.bool false) rfl (by kernel_rfl) (by kernel_rfl) (by kernel_rfl) (fun _ _ _ h=>h) (Or.inl ⟨by rfl,fun w hSw=>by (skip);go_simp⟩) (by assumption) ?_
          try simp only [Act.put,List.setIfInBounds_toArray,List.set_cons_zero,List.set_cons_succ,List.getElem_toArray,List.getElem_cons_zero,List.getElem_cons_succ]
          refine wpAnyH_done (by kernel_rfl) ?_ _
          clear x1 x3 y3 z0 z1 z2 z3 z4 z5 t0 t1 t2 t3 t4 t5 hHeld
          go_wp2
          exact ⟨⟨j+1,by omega,by go_num,Lib.hid (be_le HBV.out HBK.out)⟩,by simp [intOf];omega⟩
        · obtain rfl:j=n4:=by omega
          have z0:=HLV.out _ _ HKA.out.1
          have z1:=HLV.out _ _ HKA.out.2
          have t0:=HLV.out _ _ HKF.out.1
          have t1:=HLV.out _ _ HKF.out.2.1
          have t2:=HLV.out _ _ HKF.out.2.2.1
          have t3:=HLV.out _ _ HKF.out.2.2.2.1
          have t4:=HLV.out _ _ HKF.out.2.2.2.2.1
          have t5:=HLV.out _ _ HKF.out.2.2.2.2.2
          unfold wC at z0 z1 t0 t1 t2 t3 t4 t5
          go_wp2
          go_ret
          exact ⟨rfl,HBW.out⟩
end Go.Proofs.Ytbfkgcapkffecaa
namespace Go.Proofs.Ytbfkgcapkffecaa
open Go Go.RowKit Go.Proofs.Mm Go.Sort
theorem MoR.le {lt:Bool} {C D:Cl} {v:Value} {m:MoM} (h:MoR lt C v m) (hc:CLe C D):MoR lt D v m:=by
  obtain ⟨v1,v2,v3,v4,rfl,h1,h2,h3,h4⟩:=h
  exact ⟨v1,v2,v3,v4,rfl,h1.le hc,h2.le hc,h3.le hc,h4.le hc⟩
theorem mod_shape {lt:Bool} {C:Cl} {v:Value} {m:MoM} (h:MoR lt C v m):∃ q1 c1 q2 c2 q3 c3 q4 c4,v=.agg #[.slice q1 m.globals.length c1,.slice q2 m.arrays.length c2,.slice q3 m.channels.length c3,.slice q4 m.funcs.length c4]:=by
  obtain ⟨v1,v2,v3,v4,rfl,h1,h2,h3,h4⟩:=h
  obtain ⟨q1,c1,rfl⟩:=slx_shape h1
  obtain ⟨q2,c2,rfl⟩:=slx_shape h2
  obtain ⟨q3,c3,rfl⟩:=slx_shape h3
  obtain ⟨q4,c4,rfl⟩:=slx_shape h4
  exact ⟨q1,c1,q2,c2,q3,c3,q4,c4,rfl⟩
end Go.Proofs.Ytbfkgcapkffecaa
namespace Go.Proofs.Ytbfkgcapkffecaa
open Go Go.RowKit Go.Proofs.Mm Go.Sort
def rfV (er:Int):List PanicEntry:=[{ v:=.iface 74 (.agg #[.int .i64 er]),recovered:=false }]
abbrev Rdk (rb:Nat) (w w':World):Prop:=Chg (fun k=>k=rb) w w'
structure RdS (rb:Nat) (w:World) (l:List Nat):Prop where
  ex:∃ q c,w.heap[rb]?=some (.cells #[.slice q l.length c] 76 (0,0))∧ByIn rb w q l∧l.length≤c∧c≤maxLen
  bs:bytesL l
section
variable {rb:Nat} {w w':World} {l:List Nat}
theorem by_chg {B:Nat} {S:Nat→Prop} {q:Option Addr} (h:ByIn B w q l) (hc:Chg S w w') (hS:∀ k,S k→B≤k):ByIn B w' q l:=by
  intro i hi
  obtain ⟨b,o,h1,h2,h3⟩:=h i hi
  exact ⟨b,o,h1,h2,hc.cell h3 (fun e=>by have:=hS _ e;simp at this;omega)⟩
theorem by_drop {B:Nat} {q:Option Addr} {k:Nat} (h:ByIn B w q l):ByIn B w (q.map (·.add k)) (l.drop k):=by
  intro i hi
  rw [List.length_drop] at hi
  obtain ⟨b,o,h1,h2,h3⟩:=h (k+i) (by omega)
  refine ⟨b,o+k,by rw [h1];simp [Addr.add],h2,?_⟩
  rw [List.getD_eq_getElem?_getD,List.getElem?_drop,← List.getD_eq_getElem?_getD,Nat.add_assoc]
  exact h3
theorem RdS.lt (h:RdS rb w l):rb<w.heap.size:=by obtain ⟨q,c,h1,_⟩:=h.ex;exact heap_lt h1
theorem RdS.stay (h:RdS rb w l) (hb:Below w.heap.size w w'):RdS rb w' l:=by
  obtain ⟨q,c,h1,h2,h3⟩:=h.ex
  exact ⟨⟨q,c,(hb.block _ (heap_lt h1)).trans h1,h2.below hb (Nat.le_of_lt h.lt) (Nat.le_refl _),h3⟩,h.bs⟩
theorem Rdk.of_below (h:Below w.heap.size w w'):Rdk rb w w':=Below.chg h (Nat.le_refl _) _
theorem RdS.take {k:Nat} (h:RdS rb w l) {w1:World} (hb:Below w.heap.size w w1) (hk:k≤l.length) {q:Option Addr} {c:Nat} (hq:w.heap[rb]?=some (.cells #[.slice q l.length c] 76 (0,0))) :
    RdS rb (w1.setCell ⟨rb,0,none⟩ (.slice (if c=k then q else q.map (·.add k)) (l.length - k) (c - k))) (l.drop k)∧Rdk rb w (w1.setCell ⟨rb,0,none⟩ (.slice (if c=k then q else q.map (·.add k)) (l.length - k) (c - k))):=by
  obtain ⟨q',c',h1,h2,h3,h4⟩:=h.ex
  obtain ⟨rfl,rfl⟩:q'=q∧c'=c:=by
    rw [hq] at h1
    injection h1 with h1
    injection h1 with h1 _ _
    have h1:=congrArg Array.toList h1
    simp at h1
    exact ⟨h1.1.symm,h1.2.symm⟩
  have hs:Rdk rb w (w1.setCell ⟨rb,0,none⟩ (.slice (if c'=k then q' else q'.map (·.add k)) (l.length - k) (c' - k))):=(Rdk.of_below hb).setCell (p:=⟨rb,0,none⟩) (.inl rfl) _
  refine ⟨⟨⟨if c'=k then q' else q'.map (·.add k),c' - k,?_,?_,?_,by omega⟩,bytesL_drop h.bs k⟩,hs⟩
  · rw [heap_set ((hb.block _ (heap_lt h1)).trans h1) 0 _,List.length_drop];rfl
  · have:=by_drop (k:=k) (by_chg h2 hs (fun k e=>by omega))
    by_cases hck:c'=k
    · rw [if_pos hck]
      have hnil:l.drop k=[]:=List.drop_eq_nil_of_le (by omega)
      rw [hnil]
      exact ByIn.nil _ _ _
    · rw [if_neg hck] at this ⊢
      exact this
  · rw [List.length_drop];omega
def RdP {α:Type} (rb:Nat) (w:World) (l:List Nat) (f:List Nat→Option (α × List Nat)) (val:α→Value) (e:Ending) (w':World):Prop :=
  Rdk rb w w'∧match f l with
  | none=>e=.panicked (rfV 120)
  | some (x,r)=>e=.returned (val x)∧RdS rb w' r
theorem RdP.bad {α:Type} {f:List Nat→Option (α × List Nat)} {val:α→Value} (h:f l=none) (hc:Rdk rb w w'):RdP rb w l f val (.panicked (rfV 120)) w':=⟨hc,by rw [h]⟩
theorem RdP.good {α:Type} {f:List Nat→Option (α × List Nat)} {val:α→Value} {x:α} {r:List Nat} (h:f l=some (x,r)) (hc:Rdk rb w w') (hs:RdS rb w' r):RdP rb w l f val (.returned (val x)) w':=⟨hc,by rw [h];exact ⟨rfl,hs⟩⟩
set_option maxRecDepth 100000 in
theorem refuse_any (er:Int) (w:World):Calls Try.prog 70 #[.int .i64 er] w fun e w'=>e=.panicked (rfV er)∧w'=w:=by
  go_enter Try.func70,Try.ntmps70
  go_wp2
  exact ⟨rfl,rfl,rfl⟩
set_option maxRecDepth 100000 in
set_option maxHeartbeats 2000000 in
theorem takeU_any (h:RdS rb w l):Calls Try.prog 103 #[.pointer (some ⟨rb,0,none⟩),.func (.func 104) #[] #[]] w (RdP rb w l rdU (fun n=>.int .u64 (n:Int))):=by
  have hbs:=h.bs
  obtain ⟨q,c,h1,h2,h3,h4⟩:=h.ex
  have HT:=Lib.hid (fun (w1:World) (k:Nat) (hb:Below w.heap.size w w1) (hk:k≤l.length)=>h.take hb hk h1)
  have HG:=Lib.hid (Get_any q c l hbs h3 h4 w (h2.wider (by have:=h.lt;omega)))
  have hc:=cell_of (j:=0) h1 rfl
  obtain ⟨ln,hln⟩:∃ n,l.length=n:=⟨_,rfl⟩
  have HLN:=Lib.hid hln
  have HH1:=Lib.hid h1
  rcases getU_cases l with h0 | h0
  · obtain ⟨k1,k2,k3⟩:=getU_is h0
    have HR:=Lib.hid (show rdU l=some ((getU l).1,l.drop (getU l).2.1) from by unfold rdU;rw [if_pos h0])
    rw [h0] at HG
    generalize (getU l).1=n at *
    generalize (getU l).2.1=k at *
    rw [hln] at HG hc k2 h3
    clear h h1 h2 hbs h0 k1 hln
    go_enter Try.func103,Try.ntmps103
    go_wp2_with fail
    refine HG.out.mono ?_
    rintro e w1 ⟨rfl,hb⟩
    have HB:=Lib.hid hb
    have x0:w1.cell? ⟨rb,0,none⟩=some (.slice q ln c):=(hb.cell (World.block_lt_of_cell? _ _ hc)).trans hc
    have x1:w1.frozen? ⟨rb,0,none⟩=false:=free_of ((hb.block _ (heap_lt HH1.out)).trans HH1.out)
    have HX:=Lib.hid (HT.out w1 k hb (by rw [HLN.out];exact k2))
    rw [HLN.out] at HX
    clear hb hc
    have hk0:(k:Int)≤(ln:Int):=by omega
    by_cases hck:c=k
    · rw [if_pos hck] at HX
      subst hck
      have hz:ln - c=0:=by omega
      rw [hz] at HX
      go_wp2
      go_ret
      exact RdP.good HR.out (by simpa using HX.out.2) (by simpa using HX.out.1)
    · rw [if_neg hck] at HX
      go_wp2
      go_ret
      exact RdP.good HR.out (by simpa using HX.out.2) (by simpa using HX.out.1)
  · have HR:=Lib.hid (show rdU l=none from by unfold rdU;rcases h0 with h0 | h0 <;> rw [h0] <;> rfl)
    obtain ⟨er,her,h5⟩:∃ er:Nat,er ≠ 0∧getU l=(0,0,er):=by rcases h0 with h0 | h0 <;> exact ⟨_,by decide,h0⟩
    rw [h5] at HG
    rw [hln] at HG hc
    clear h h1 h2 hbs h0 hln h5 HT
    have hne:¬ (er:Int)=0:=by omega
    go_enter Try.func103,Try.ntmps103
    go_wp2_with fail
    refine HG.out.mono ?_
    rintro e w1 ⟨rfl,hb⟩
    have HB:=Lib.hid hb
    clear hb
    go_wp2_with fail
    refine (refuse_any _ _).mono ?_
    rintro e w2 ⟨rfl,rfl⟩
    exact ⟨rfl,RdP.bad HR.out (Rdk.of_below HB.out)⟩
end
end Go.Proofs.Ytbfkgcapkffecaa
namespace Go.Proofs.Ytbfkgcapkffecaa
open Go Go.RowKit Go.Proofs.Mm Go.Sort
section
variable {rb:Nat} {w w':World} {l:List Nat}
theorem RdP.none {α:Type} {f:List Nat→Option (α × List Nat)} {val:α→Value} {e:Ending} (h:RdP rb w l f val e w') (hf:f l=none):Rdk rb w w'∧e=.panicked (rfV 120):=by
  obtain ⟨h1,h2⟩:=h
  rw [hf] at h2
  exact ⟨h1,h2⟩
theorem RdP.some {α:Type} {f:List Nat→Option (α × List Nat)} {val:α→Value} {e:Ending} {x:α} {r:List Nat} (h:RdP rb w l f val e w') (hf:f l=some (x,r)):Rdk rb w w'∧e=.returned (val x)∧RdS rb w' r:=by
  obtain ⟨h1,h2⟩:=h
  rw [hf] at h2
  exact ⟨h1,h2⟩
theorem rdLab_none (h:rdU l=none):rdLab l=none:=by unfold rdLab;rw [h]
theorem rdLab_some {n:Nat} {r:List Nat} (h:rdU l=some (n,r)):rdLab l=some ((n:Int),r):=by unfold rdLab;rw [h]
theorem rdSz_none (h:rdU l=none):rdSz l=none:=by unfold rdSz;rw [h]
theorem rdSz_big {n:Nat} {r:List Nat} (h:rdU l=some (n,r)) (hn:9223372036854775807<n):rdSz l=none:=by unfold rdSz;rw [h];simp only;rw [if_pos hn]
theorem rdSz_some {n:Nat} {r:List Nat} (h:rdU l=some (n,r)) (hn:¬ 9223372036854775807<n):rdSz l=some ((n:Int),r):=by unfold rdSz;rw [h];simp only;rw [if_neg hn]
set_option maxRecDepth 100000 in
theorem rnumber_any (h:RdS rb w l):Calls Try.prog 92 #[.pointer (some ⟨rb,0,none⟩)] w (RdP rb w l rdU (fun n=>.int .u64 (n:Int))):=by
  have HT:=Lib.hid (takeU_any h)
  clear h
  cases hu:rdU l with
  | none =>
    have HU:=Lib.hid hu
    clear hu
    go_enter Try.func92,Try.ntmps92
    go_wp2_with fail
    refine HT.out.mono ?_
    rintro e w1 hp
    obtain ⟨h1,rfl⟩:=hp.none HU.out
    exact ⟨rfl,RdP.bad HU.out h1⟩
  | some x =>
    obtain ⟨n,r⟩:=x
    have HU:=Lib.hid hu
    clear hu
    go_enter Try.func92,Try.ntmps92
    go_wp2_with fail
    refine HT.out.mono ?_
    rintro e w1 hp
    obtain ⟨h1,rfl,h2⟩:=hp.some HU.out
    have HP:=Lib.hid (RdP.good (val:=fun n:Nat=>Value.int .u64 (n:Int)) HU.out h1 h2)
    clear h1 h2 hp
    go_wp2
    go_ret
    exact HP.out
set_option maxRecDepth 100000 in
theorem rlabel_any (h:RdS rb w l):Calls Try.prog 73 #[.pointer (some ⟨rb,0,none⟩)] w (RdP rb w l rdLab (fun n=>.int .u64 n)):=by
  have HT:=Lib.hid (rnumber_any h)
  clear h
  cases hu:rdU l with
  | none =>
    have HU:=Lib.hid hu
    clear hu
    go_enter Try.func73,Try.ntmps73
    go_wp2_with fail
    refine HT.out.mono ?_
    rintro e w1 hp
    obtain ⟨h1,rfl⟩:=hp.none HU.out
    exact ⟨rfl,RdP.bad (rdLab_none HU.out) h1⟩
  | some x =>
    obtain ⟨n,r⟩:=x
    have HU:=Lib.hid hu
    clear hu
    go_enter Try.func73,Try.ntmps73
    go_wp2_with fail
    refine HT.out.mono ?_
    rintro e w1 hp
    obtain ⟨h1,rfl,h2⟩:=hp.some HU.out
    have HP:=Lib.hid (RdP.good (val:=fun n:Int=>Value.int .u64 n) (rdLab_some HU.out) h1 h2)
    clear h1 h2 hp
    go_wp2
    go_ret
    exact HP.out
set_option maxRecDepth 100000 in
theorem rsize_any (h:RdS rb w l):Calls Try.prog 93 #[.pointer (some ⟨rb,0,none⟩)] w (RdP rb w l rdSz (fun n=>.int .i64 n)):=by
  have HT:=Lib.hid (rnumber_any h)
  clear h
  cases hu:rdU l with
  | none =>
    have HU:=Lib.hid hu
    clear hu
    go_enter Try.func93,Try.ntmps93
    go_wp2_with fail
    refine HT.out.mono ?_
    rintro e w1 hp
    obtain ⟨h1,rfl⟩:=hp.none HU.out
    exact ⟨rfl,RdP.bad (rdSz_none HU.out) h1⟩
  | some x =>
    obtain ⟨n,r⟩:=x
    have HU:=Lib.hid hu
    clear hu
    by_cases hn:9223372036854775807<n
    · have hi:(9223372036854775807:Int)<(n:Int):=by omega
      go_enter Try.func93,Try.ntmps93
      go_wp2_with fail
      refine HT.out.mono ?_
      rintro e w1 hp
      obtain ⟨h1,rfl,h2⟩:=hp.some HU.out
      have HP:=Lib.hid h1
      clear h1 h2 hp
      go_wp2_with fail
      refine (refuse_any _ _).mono ?_
      rintro e w2 ⟨rfl,rfl⟩
      exact ⟨rfl,RdP.bad (rdSz_big HU.out hn) HP.out⟩
    · have hi:¬ (9223372036854775807:Int)<(n:Int):=by omega
      have hwr:IntKind.i64.wrap (n:Int)=(n:Int):=by rw [wrap_i64];exact wrap_id (by omega) (by omega)
      go_enter Try.func93,Try.ntmps93
      go_wp2_with fail
      refine HT.out.mono ?_
      rintro e w1 hp
      obtain ⟨h1,rfl,h2⟩:=hp.some HU.out
      have HP:=Lib.hid (RdP.good (val:=fun n:Int=>Value.int .i64 n) (rdSz_some HU.out hn) h1 h2)
      clear h1 h2 hp
      go_wp2
      go_ret
      exact HP.out
end
end Go.Proofs.Ytbfkgcapkffecaa
namespace Go.Proofs.Ytbfkgcapkffecaa
open Go Go.RowKit Go.Proofs.Mm Go.Sort
section
variable {rb:Nat} {w w':World} {l:List Nat}
theorem RdS.alloc (h:RdS rb w l) (o:Obj):RdS rb (w.alloc o) l:=h.stay ((Below.refl _ _).alloc (Nat.le_refl _) o)
theorem RdP.before {α:Type} {f:List Nat→Option (α × List Nat)} {val:α→Value} {w0:World} {e:Ending} (hb:Rdk rb w0 w) (h:RdP rb w l f val e w'):RdP rb w0 l f val e w':=⟨hb.then h.1,h.2⟩
theorem RdS.chg (h:RdS rb w l) (hc:Chg (fun k=>w.heap.size≤k) w w'):RdS rb w' l:=h.stay (hc.below (Nat.le_refl _) (fun _ e=>e))
theorem own_blk {b:Nat} {cs:Array Value} {T:TypeId} (h:InB w b cs T) (hc:Rdk rb w w') (hn:b ≠ rb):InB w' b cs T:=hc.heap h hn
theorem set_new2 {w0 W:World} {S:Nat→Prop} (h:Chg S w0 W) {b i j:Nat} (hb:w0.heap.size≤b) (x y:Value):Chg S w0 ((W.setCell ⟨b,i,none⟩ x).setCell ⟨b,j,none⟩ y) :=
  (h.setCell (p:=⟨b,i,none⟩) (.inr hb) x).setCell (p:=⟨b,j,none⟩) (.inr hb) y
theorem rds_set2 (h:RdS rb w l) {b i j:Nat} (hb:b ≠ rb) (hr:rb≤b) (x y:Value):RdS rb ((w.setCell ⟨b,i,none⟩ x).setCell ⟨b,j,none⟩ y) l:=by
  obtain ⟨q,c,h1,h2,h3⟩:=h.ex
  have hc:Chg (fun k=>k=b) w ((w.setCell ⟨b,i,none⟩ x).setCell ⟨b,j,none⟩ y):=((Chg.refl (fun k=>k=b) w).setCell (p:=⟨b,i,none⟩) (.inl rfl) x).setCell (p:=⟨b,j,none⟩) (.inl rfl) y
  exact ⟨⟨q,c,hc.heap h1 (fun e=>hb e.symm),by_chg h2 hc (fun k e=>by omega),h3⟩,h.bs⟩
set_option maxRecDepth 100000 in
set_option maxHeartbeats 2000000 in
theorem takeI_any (h:RdS rb w l):Calls Try.prog 105 #[.pointer (some ⟨rb,0,none⟩),.func (.func 106) #[] #[]] w (RdP rb w l rdIn (fun x=>inV x.1 x.2)):=by
  have hbs:=h.bs
  have hA:=h.alloc (.cells #[.int .i64 0,.int .i64 0] 57)
  have hlt:=h.lt
  obtain ⟨q,c,h1,h2,h3,h4⟩:=hA.ex
  have HT:=Lib.hid (fun (w1:World) (k:Nat) (hb:Below (w.alloc (.cells #[.int .i64 0,.int .i64 0] 57)).heap.size (w.alloc (.cells #[.int .i64 0,.int .i64 0] 57)) w1) (hk:k≤l.length)=>hA.take hb hk h1)
  have HG:=Lib.hid (cGet_any q c l hbs h3 h4 _ (h2.wider (by have:=hA.lt;omega)))
  have hc:=cell_of (j:=0) h1 rfl
  obtain ⟨ln,hln⟩:∃ n,l.length=n:=⟨_,rfl⟩
  have HLN:=Lib.hid hln
  have HH1:=Lib.hid h1
  have HIB:=Lib.hid (InB.new w #[.int .i64 0,.int .i64 0] 57)
  have HAL:=Lib.hid (show Rdk rb w (w.alloc (.cells #[.int .i64 0,.int .i64 0] 57)) from (Chg.refl _ w).alloc _)
  have hLT:=Lib.hid hlt
  by_cases h0:(getI l).2.2.2=0
  · obtain ⟨k1,k2,k3,_⟩:=getI_is h0
    have HR:=Lib.hid (show rdIn l=some (((getI l).1,(getI l).2.1),l.drop (getI l).2.2.1) from by unfold rdIn;rw [if_pos h0])
    unfold gtV at HG
    rw [h0] at HG
    generalize (getI l).1=op at *
    generalize (getI l).2.1=a at *
    generalize (getI l).2.2.1=k at *
    rw [hln] at HG hc k3 h3
    clear h hA h1 h2 hbs h0 k1 k2 hln hlt
    go_enter Try.func105,Try.ntmps105
    go_wp2_with fail
    refine HG.out.mono ?_
    rintro e w1 ⟨rfl,hb⟩
    have HB:=Lib.hid hb
    have x0:w1.cell? ⟨rb,0,none⟩=some (.slice q ln c):=(hb.cell (World.block_lt_of_cell? _ _ hc)).trans hc
    have x1:w1.frozen? ⟨rb,0,none⟩=false:=free_of ((hb.block _ (heap_lt HH1.out)).trans HH1.out)
    have hI:=HIB.out.le hb
    have d0:=hI.free 0
    have d1:=hI.free 1
    have e0:=hI.cell (j:=0) rfl
    have e1:=hI.cell (j:=1) rfl
    have hs1:w.heap.size<w1.heap.size:=hI.lt
    have hrs:rb<w1.heap.size:=by have:=hLT.out;omega
    have hne:w.heap.size ≠ rb:=by have:=hLT.out;omega
    have HX:=Lib.hid (HT.out w1 k hb (by rw [HLN.out];exact k3))
    rw [HLN.out] at HX
    have HI:=Lib.hid hI
    clear hb hc hI
    have hk0:(k:Int)≤(ln:Int):=by omega
    by_cases hck:c=k
    · rw [if_pos hck] at HX
      subst hck
      have hz:ln - c=0:=by omega
      rw [hz,Nat.sub_self] at HX
      go_wp2
      refine bodyPost_ret (results_cell_row rfl _ _ w.heap.size 57 #[.int .i64 op,.int .i64 a] (0,0) _ rfl (heap_new _ _ (heap_set (heap_set (heap_other HI.out hne) 0 _) 1 _)) Try.underlying57 rfl (by kernel_rfl)) rfl ?_
      exact RdP.good (val:=fun x:Int × Int=>inV x.1 x.2) HR.out ((set_new2 (HAL.out.then HX.out.2) (Nat.le_refl _) _ _).alloc _) ((rds_set2 HX.out.1 hne (by have:=hLT.out;omega) _ _).alloc _)
    · rw [if_neg hck] at HX
      go_wp2
      refine bodyPost_ret (results_cell_row rfl _ _ w.heap.size 57 #[.int .i64 op,.int .i64 a] (0,0) _ rfl (heap_new _ _ (heap_set (heap_set (heap_other HI.out hne) 0 _) 1 _)) Try.underlying57 rfl (by kernel_rfl)) rfl ?_
      exact RdP.good (val:=fun x:Int × Int=>inV x.1 x.2) HR.out ((set_new2 (HAL.out.then HX.out.2) (Nat.le_refl _) _ _).alloc _) ((rds_set2 HX.out.1 hne (by have:=hLT.out;omega) _ _).alloc _)
  · have HR:=Lib.hid (show rdIn l=none from by unfold rdIn;rw [if_neg h0])
    obtain ⟨er,her⟩:∃ er,(getI l).2.2.2=er:=⟨_,rfl⟩
    unfold gtV at HG
    rw [her] at HG h0
    generalize (getI l).1=op at *
    generalize (getI l).2.1=a at *
    generalize (getI l).2.2.1=k at *
    rw [hln] at HG hc h3
    clear h hA h1 h2 hbs her hln hlt HT
    have hne2:¬ (er:Int)=0:=by omega
    go_enter Try.func105,Try.ntmps105
    go_wp2_with fail
    refine HG.out.mono ?_
    rintro e w1 ⟨rfl,hb⟩
    have HB:=Lib.hid (HAL.out.then (Rdk.of_below hb))
    clear hb hc
    go_wp2_with fail
    refine (refuse_any _ _).mono ?_
    rintro e w2 ⟨rfl,rfl⟩
    exact ⟨rfl,RdP.bad HR.out (HB.out.alloc _)⟩
set_option maxRecDepth 100000 in
set_option maxHeartbeats 2000000 in
theorem rinstr_any (h:RdS rb w l):Calls Try.prog 95 #[.pointer (some ⟨rb,0,none⟩)] w (RdP rb w l rdIn (fun x=>inV x.1 x.2)):=by
  have HT:=Lib.hid (takeI_any (h.alloc (.cells #[.int .i64 0,.int .i64 0] 57)))
  have HIB:=Lib.hid (InB.new w #[.int .i64 0,.int .i64 0] 57)
  have HAL:=Lib.hid (show Rdk rb w (w.alloc (.cells #[.int .i64 0,.int .i64 0] 57)) from (Chg.refl _ w).alloc _)
  have hLT:=Lib.hid h.lt
  clear h
  cases hu:rdIn l with
  | none =>
    have HU:=Lib.hid hu
    clear hu
    go_enter Try.func95,Try.ntmps95
    go_wp2_with fail
    refine HT.out.mono ?_
    rintro e w1 hp
    obtain ⟨h1,rfl⟩:=hp.none HU.out
    exact ⟨rfl,RdP.bad HU.out (HAL.out.then h1)⟩
  | some x =>
    obtain ⟨⟨op,a⟩,r⟩:=x
    have HU:=Lib.hid hu
    clear hu
    go_enter Try.func95,Try.ntmps95
    go_wp2_with fail
    refine HT.out.mono ?_
    rintro e w1 hp
    obtain ⟨h1,rfl,h2⟩:=hp.some HU.out
    have hne:w.heap.size ≠ rb:=by have:=hLT.out;omega
    have hI:=own_blk HIB.out h1 hne
    have d0:=hI.free 0
    have d1:=hI.free 1
    have e0:=hI.cell (j:=0) rfl
    have e1:=hI.cell (j:=1) rfl
    have HI:=Lib.hid hI
    have H1:=Lib.hid h1
    have H2:=Lib.hid h2
    clear h1 h2 hp hI
    go_wp2
    refine bodyPost_ret (results_cell_row rfl _ _ w.heap.size 57 #[.int .i64 op,.int .i64 a] (0,0) _ rfl (heap_set (heap_set HI.out 0 _) 1 _) Try.underlying57 rfl (by kernel_rfl)) rfl ?_
    exact RdP.good (val:=fun x:Int × Int=>inV x.1 x.2) HU.out (set_new2 (HAL.out.then H1.out) (Nat.le_refl _) _ _) (rds_set2 H2.out hne (by have:=hLT.out;omega) _ _)
theorem rdAr_none1 (h:rdSz l=none):rdAr l=none:=by unfold rdAr;rw [h]
theorem rdAr_none2 {n:Int} {r:List Nat} (h:rdSz l=some (n,r)) (h2:rdLab r=none):rdAr l=none:=by unfold rdAr;rw [h];simp only;rw [h2]
theorem rdAr_some {n b:Int} {r r':List Nat} (h:rdSz l=some (n,r)) (h2:rdLab r=some (b,r')):rdAr l=some ((n,b),r'):=by unfold rdAr;rw [h];simp only;rw [h2]
set_option maxRecDepth 100000 in
set_option maxHeartbeats 2000000 in
theorem rarray_any (h:RdS rb w l):Calls Try.prog 75 #[.pointer (some ⟨rb,0,none⟩)] w (RdP rb w l rdAr (fun x=>.agg #[.int .i64 x.1,.int .u64 x.2])):=by
  have HT:=Lib.hid (rsize_any (h.alloc (.cells #[.int .i64 0,.int .u64 0] 55)))
  have HIB:=Lib.hid (InB.new w #[.int .i64 0,.int .u64 0] 55)
  have HAL:=Lib.hid (show Rdk rb w (w.alloc (.cells #[.int .i64 0,.int .u64 0] 55)) from (Chg.refl _ w).alloc _)
  have hLT:=Lib.hid h.lt
  clear h
  cases hu:rdSz l with
  | none =>
    have HU:=Lib.hid hu
    clear hu
    go_enter Try.func75,Try.ntmps75
    go_wp2_with fail
    refine HT.out.mono ?_
    rintro e w1 hp
    obtain ⟨h1,rfl⟩:=hp.none HU.out
    exact ⟨rfl,RdP.bad (rdAr_none1 HU.out) (HAL.out.then h1)⟩
  | some x =>
    obtain ⟨n,r⟩:=x
    have HU:=Lib.hid hu
    clear hu
    cases hv:rdLab r with
    | none =>
      have HV:=Lib.hid hv
      clear hv
      go_enter Try.func75,Try.ntmps75
      go_wp2_with fail
      refine HT.out.mono ?_
      rintro e w1 hp
      obtain ⟨h1,rfl,h2⟩:=hp.some HU.out
      have HT2:=Lib.hid (rlabel_any h2)
      have H1:=Lib.hid h1
      clear hp h1 h2
      go_wp2_with fail
      refine HT2.out.mono ?_
      rintro e w2 hp
      obtain ⟨h1,rfl⟩:=hp.none HV.out
      exact ⟨rfl,RdP.bad (rdAr_none2 HU.out HV.out) ((HAL.out.then H1.out).then h1)⟩
    | some y =>
      obtain ⟨b,r'⟩:=y
      have HV:=Lib.hid hv
      clear hv
      go_enter Try.func75,Try.ntmps75
      go_wp2_with fail
      refine HT.out.mono ?_
      rintro e w1 hp
      obtain ⟨h1,rfl,h2⟩:=hp.some HU.out
      have HT2:=Lib.hid (rlabel_any h2)
      have H1:=Lib.hid h1
      clear hp h1 h2
      go_wp2_with fail
      refine HT2.out.mono ?_
      rintro e w2 hp
      obtain ⟨h1,rfl,h2⟩:=hp.some HV.out
      have hne:w.heap.size ≠ rb:=by have:=hLT.out;omega
      have hI:=own_blk (own_blk HIB.out H1.out hne) h1 hne
      have d0:=hI.free 0
      have d1:=hI.free 1
      have e0:=hI.cell (j:=0) rfl
      have e1:=hI.cell (j:=1) rfl
      have HI:=Lib.hid hI
      have H3:=Lib.hid h1
      have H2:=Lib.hid h2
      clear h1 h2 hp hI
      go_wp2
      refine bodyPost_ret (results_cell_row rfl _ _ w.heap.size 55 #[.int .i64 n,.int .u64 b] (0,0) _ rfl (heap_set (heap_set HI.out 0 _) 1 _) Try.underlying55 rfl (by kernel_rfl)) rfl ?_
      exact RdP.good (val:=fun x:Int × Int=>Value.agg #[.int .i64 x.1,.int .u64 x.2]) (rdAr_some HU.out HV.out) (set_new2 ((HAL.out.then H1.out).then H3.out) (Nat.le_refl _) _ _) (rds_set2 H2.out hne (by have:=hLT.out;omega) _ _)
end
end Go.Proofs.Ytbfkgcapkffecaa
