/- A source while it is read: its block and the five rows. -/
import Derived.Test.YtlpdjfimefjmcaaGreatDoorFlOpenPR31
import Derived.Test.YtlpdjfimefjmcaaGreatDoorFlOpenPR32
namespace Go.Proofs.YtlpdjfimefjmcaaGreatDoor.Q
open Go Go.RowKit Go.Proofs.Mm
def arV3 (d:Syn.Ar):List Value:=[.string (sb d.name),.int .i64 (d.len:Nat),.int .u64 (d.label:Nat)]
def ArR (_:Mem) (c:List Value) (d:Syn.Ar):Prop:=c=arV3 d∧d.label<18446744073709551616
theorem ArR.le:∀m m':Mem,m.le m'→∀c x,ArR m c x→ArR m' c x:=fun _ _ _ _ _ h=>h
theorem FnM.le:∀m m':Mem,m.le m'→∀c x,FnM m c x→FnM m' c x:=fun _ _ hm _ _ ⟨a,b,d,e,h1,h2,⟨c1,p1,p2⟩,⟨c2,p3,p4⟩,⟨c3,p5,p6⟩,⟨c4,p7,p8⟩⟩ =>
 ⟨a,b,d,e,h1,h2,⟨c1,p1.le hm,p2.mono (DeR.le _ _ hm)⟩,⟨c2,p3.le hm,p4.mono (LaR.le _ _ hm)⟩,⟨c3,p5.le hm,p6.mono (DeR.le _ _ hm)⟩,⟨c4,p7.le hm,p8.mono (fun _ _ h=>h.le hm)⟩⟩
theorem tys_sde:Tys 27 37:=⟨by decide,by decide,by decide,by decide,by decide,by decide,by decide,by decide,by decide⟩
theorem tys_sar:Tys 27 39:=⟨by decide,by decide,by decide,by decide,by decide,by decide,by decide,by decide,by decide⟩
theorem tys_sfn:Tys 27 43:=⟨by decide,by decide,by decide,by decide,by decide,by decide,by decide,by decide,by decide⟩
theorem infoAr:∃i,Tryz.prog.info? 39=some i∧i.zero=some (.agg #[.string ⟨#[]⟩,.int .i64 0,.int .u64 0])∧i.size=3∧i.bytes=32:=info_of (by kernel_rfl)
theorem infoFn:∃i,Tryz.prog.info? 43=some i∧i.zero=some (.agg #[.string ⟨#[]⟩,.int .u64 0,.slice none 0 0,.slice none 0 0,.slice none 0 0,.slice none 0 0])∧i.size=6∧i.bytes=120:=info_of (by kernel_rfl)
section
variable {ys:List It} {len bp bw i:Nat} {vp:Value} {w:World} {ns:List (List Nat)} {α:Type}
def SoM (m:Mem) (c:List Value) (s:Syn.So):Prop:=∃p a b d e,c=[p,a,b,d,e]∧RowM m 9 1 p s.principals.length (strC s.principals) ∧
 (∃cs,RowM m 37 2 a s.globals.length cs∧Enc (DeR m) cs s.globals)∧(∃cs,RowM m 39 3 b s.arrays.length cs∧Enc (ArR m) cs s.arrays) ∧
 (∃cs,RowM m 37 2 d s.channels.length cs∧Enc (DeR m) cs s.channels)∧∃cs,RowM m 43 6 e s.funcs.length cs∧Enc (FnM m) cs s.funcs
structure SJ (ys:List It) (len bp bw:Nat) (vp:Value) (ns:List (List Nat)) (g B:Nat) (m0:Mem) (w0:World) (s:Syn.So) (j:Nat) (m:Mem) (G A C D:Value) (csG csA csC csD:List Value) (W:World):Prop where
 blk:W.heap[g]?=some (.cells #[vp,G,A,C,D] 27 (0,0))
 rG:W.ownsRow B 37 2 G s.globals.length csG
 eG:Enc (DeR m) csG s.globals
 rA:W.ownsRow B 39 3 A s.arrays.length csA
 eA:Enc (ArR m) csA s.arrays
 rC:W.ownsRow B 37 2 C s.channels.length csC
 eC:Enc (DeR m) csC s.channels
 rD:W.ownsRow B 43 6 D s.funcs.length csD
 eD:Enc (FnM m) csD s.funcs
 has:Has W m
 more:m0.More w0 m
 mg:m g=none
 mb:m bp=none
 nV:∀k,vp.ownBlock=some k→m k=none
 nG:∀k,G.ownBlock=some k→m k=none
 nA:∀k,A.ownBlock=some k→m k=none
 nC:∀k,C.ownBlock=some k→m k=none
 nD:∀k,D.ownBlock=some k→m k=none
 gc:∀k,G.ownBlock=some k→¬C.ownBlock=some k
 sz:w0.heap.size≤W.heap.size
 nr:NR W vp ns
 pr:s.principals=ns
 ps:PS ys len bp bw vp W j
variable {g B:Nat} {m0 m m1:Mem} {w0 W W' w1 w9:World} {s:Syn.So} {j j':Nat} {G A C D:Value} {csG csA csC csD:List Value}
theorem SJ.gb (h:SJ ys len bp bw vp ns g B m0 w0 s j m G A C D csG csA csC csD W):¬g=bp:=by
 obtain ⟨x,hx⟩:=h.ps.blk
 exact blk_ne h.blk hx (by decide)
theorem SJ.next (h:SJ ys len bp bw vp ns g B m0 w0 s j m G A C D csG csA csC csD W) (hc:Chg (fun k=>k=bp) W W') (hp:PS ys len bp bw vp W' j'):SJ ys len bp bw vp ns g B m0 w0 s j' m G A C D csG csA csC csD W':=by
 obtain ⟨x,hx⟩:=h.ps.blk
 have hno:∀{E:TypeId} {size n:Nat} {v:Value} {cs:List Value},W.ownsRow B E size v n cs→E≠165→W'.ownsRow B E size v n cs:=fun hr he=>own_chg hr hc (fun k hk e=>by subst e;exact blk_own hx hr he.symm hk)
 exact ⟨hc.heap h.blk h.gb,hno h.rG (by decide),h.eG,hno h.rA (by decide),h.eA,hno h.rC (by decide),h.eC,hno h.rD (by decide),h.eD,h.has.chg hc (fun k e=>by rw [e];exact h.mb),h.more,h.mg,h.mb,h.nV,h.nG,h.nA,h.nC,h.nD,h.gc,Nat.le_trans h.sz hc.size,nr_next h.nr h.ps hc,h.pr,hp⟩
theorem sj_row {E':TypeId} {size' n':Nat} {v v':Value} {cs':List Value} (h:SJ ys len bp bw vp ns g B m0 w0 s j m G A C D csG csA csC csD W) (hr:W.ownsRow B E' size' v' n' cs') (h1:E'≠165) (h2:E'≠27) (hc:Chg (GS bp g v) W W') (hap:∀k,v'.ownBlock=some k→¬v.ownBlock=some k):W'.ownsRow B E' size' v' n' cs':=by
 obtain ⟨x,hx⟩:=h.ps.blk
 refine own_chg hr hc (fun k hk e=>?_)
 rcases e with e|e|e
 ·subst e;exact blk_own hx hr h1.symm hk
 ·subst e;exact blk_own h.blk hr h2.symm hk
 ·exact hap k hk e
theorem sj_new {v:Value} {n size:Nat} {E:TypeId} {cs:List Value} {m':Mem} (hr:W.ownsRow B E size v n cs) (hn:∀k,v.ownBlock=some k→m k=none) (hm:m.More W m'):∀k,v.ownBlock=some k→m' k=none:=fun k hk=>hm.new k (hn k hk) (hr.lt k hk).2
theorem SJ.addG {q q9:Option Addr} {c c9:Nat} {x:Syn.De} {news:List Value} {o:Obj} (h:SJ ys len bp bw vp ns g B m0 w0 s j m (.slice q s.globals.length c) A C D csG csA csC csD W) (hB:B≤g)
 (hcc:Chg (fun k=>k=bp) W w1) (a1:m.More W m1) (a2:Has w1 m1) (a3:DeR m1 news x) (a4:PS ys len bp bw vp w1 j') (a5:NR w1 vp ns)
 (hown9:w9.ownsRow B 37 2 (.slice q9 (s.globals.length+1) c9) (s.globals.length+1) (csG++news)) (hgrow9:(w1.alloc o).grownBy w9 (Value.ownBlock (.slice q s.globals.length c)))
 (hat9:Value.ownBlock (.slice q9 (s.globals.length+1) c9)=Value.ownBlock (.slice q s.globals.length c)∨Value.ownBlock (.slice q9 (s.globals.length+1) c9)=some (w1.heap.size+1)) :
 ∃m' cs',SJ ys len bp bw vp ns g B m0 w0 { s with globals:=s.globals++[x] } j' m' (.slice q9 (s.globals.length+1) c9) A C D cs' csA csC csD (w9.setCell ⟨g,1,none⟩ (.slice q9 (s.globals.length+1) c9))∧Chg (SB bp B) W (w9.setCell ⟨g,1,none⟩ (.slice q9 (s.globals.length+1) c9)):=by
 have hgb:=h.gb
 obtain ⟨r1,⟨q',c',cs',m',g1,g2,g3,g4,g5,g6,g7,g8,g9,g10⟩,r3⟩:=gj_end (arr:=fun v=>#[vp,v,A,C,D]) (kf:=1) tys_sde (fun _ _=>rfl) h.ps h.blk h.rG h.eG h.has (Mem.More.refl W m) h.mg h.mb h.nG (Nat.le_refl _) DeR.le hcc a1 a2 a3 a4 a5 hown9 hgrow9 hat9
 have e1:=heap_set (gj_mid h.rG hcc hgrow9 h.blk (by decide) hgb) 1 (.slice q9 (s.globals.length+1) c9)
 rw [List.length_append,List.length_singleton] at g1 g2 g8
 obtain ⟨rfl,rfl⟩:q'=q9∧c'=c9:=by
  have:=g1.symm.trans e1
  simpa using this
 refine ⟨m',cs',⟨g1,by show World.ownsRow _ _ _ _ _ _ _;rw [List.length_append,List.length_singleton];exact g2,g3,(sj_row h h.rA (by decide) (by decide) r1 (own_own h.rA h.rG (by decide))),(h.eA.mono (ArR.le _ _ g5.le)),(sj_row h h.rC (by decide) (by decide) r1 (fun k hk e=>h.gc k e hk)),(h.eC.mono (DeR.le _ _ g5.le)),(sj_row h h.rD (by decide) (by decide) r1 (own_own h.rD h.rG (by decide))),(h.eD.mono (FnM.le _ _ g5.le)),g4,h.more.trans g5 h.sz,g6,g7,sj_new h.nr.1 h.nV g5,g8,(sj_new h.rA h.nA g5),(sj_new h.rC h.nC g5),(sj_new h.rD h.nD g5),(fun k hk e=>by
  rcases hat9 with e2|e2
  ·rw [e2] at hk;exact h.gc k hk e
  ·rw [e2] at hk;injection hk with hk;have:=(h.rC.lt k e).2;have:=hcc.size;omega),Nat.le_trans h.sz r1.size,g10,h.pr,r3⟩,gs_sb hB h.rG r1⟩
theorem SJ.addA {q q9:Option Addr} {c c9:Nat} {x:Syn.Ar} {news:List Value} {o:Obj} (h:SJ ys len bp bw vp ns g B m0 w0 s j m G (.slice q s.arrays.length c) C D csG csA csC csD W) (hB:B≤g)
 (hcc:Chg (fun k=>k=bp) W w1) (a1:m.More W m1) (a2:Has w1 m1) (a3:ArR m1 news x) (a4:PS ys len bp bw vp w1 j') (a5:NR w1 vp ns)
 (hown9:w9.ownsRow B 39 3 (.slice q9 (s.arrays.length+1) c9) (s.arrays.length+1) (csA++news)) (hgrow9:(w1.alloc o).grownBy w9 (Value.ownBlock (.slice q s.arrays.length c)))
 (hat9:Value.ownBlock (.slice q9 (s.arrays.length+1) c9)=Value.ownBlock (.slice q s.arrays.length c)∨Value.ownBlock (.slice q9 (s.arrays.length+1) c9)=some (w1.heap.size+1)) :
 ∃m' cs',SJ ys len bp bw vp ns g B m0 w0 { s with arrays:=s.arrays++[x] } j' m' G (.slice q9 (s.arrays.length+1) c9) C D csG cs' csC csD (w9.setCell ⟨g,2,none⟩ (.slice q9 (s.arrays.length+1) c9))∧Chg (SB bp B) W (w9.setCell ⟨g,2,none⟩ (.slice q9 (s.arrays.length+1) c9)):=by
 have hgb:=h.gb
 obtain ⟨r1,⟨q',c',cs',m',g1,g2,g3,g4,g5,g6,g7,g8,g9,g10⟩,r3⟩:=gj_end (arr:=fun v=>#[vp,G,v,C,D]) (kf:=2) tys_sar (fun _ _=>rfl) h.ps h.blk h.rA h.eA h.has (Mem.More.refl W m) h.mg h.mb h.nA (Nat.le_refl _) ArR.le hcc a1 a2 a3 a4 a5 hown9 hgrow9 hat9
 have e1:=heap_set (gj_mid h.rA hcc hgrow9 h.blk (by decide) hgb) 2 (.slice q9 (s.arrays.length+1) c9)
 rw [List.length_append,List.length_singleton] at g1 g2 g8
 obtain ⟨rfl,rfl⟩:q'=q9∧c'=c9:=by
  have:=g1.symm.trans e1
  simpa using this
 refine ⟨m',cs',⟨g1,(sj_row h h.rG (by decide) (by decide) r1 (own_own h.rG h.rA (by decide))),(h.eG.mono (DeR.le _ _ g5.le)),by show World.ownsRow _ _ _ _ _ _ _;rw [List.length_append,List.length_singleton];exact g2,g3,(sj_row h h.rC (by decide) (by decide) r1 (own_own h.rC h.rA (by decide))),(h.eC.mono (DeR.le _ _ g5.le)),(sj_row h h.rD (by decide) (by decide) r1 (own_own h.rD h.rA (by decide))),(h.eD.mono (FnM.le _ _ g5.le)),g4,h.more.trans g5 h.sz,g6,g7,sj_new h.nr.1 h.nV g5,(sj_new h.rG h.nG g5),g8,(sj_new h.rC h.nC g5),(sj_new h.rD h.nD g5),h.gc,Nat.le_trans h.sz r1.size,g10,h.pr,r3⟩,gs_sb hB h.rA r1⟩
theorem SJ.addC {q q9:Option Addr} {c c9:Nat} {x:Syn.De} {news:List Value} {o:Obj} (h:SJ ys len bp bw vp ns g B m0 w0 s j m G A (.slice q s.channels.length c) D csG csA csC csD W) (hB:B≤g)
 (hcc:Chg (fun k=>k=bp) W w1) (a1:m.More W m1) (a2:Has w1 m1) (a3:DeR m1 news x) (a4:PS ys len bp bw vp w1 j') (a5:NR w1 vp ns)
 (hown9:w9.ownsRow B 37 2 (.slice q9 (s.channels.length+1) c9) (s.channels.length+1) (csC++news)) (hgrow9:(w1.alloc o).grownBy w9 (Value.ownBlock (.slice q s.channels.length c)))
 (hat9:Value.ownBlock (.slice q9 (s.channels.length+1) c9)=Value.ownBlock (.slice q s.channels.length c)∨Value.ownBlock (.slice q9 (s.channels.length+1) c9)=some (w1.heap.size+1)) :
 ∃m' cs',SJ ys len bp bw vp ns g B m0 w0 { s with channels:=s.channels++[x] } j' m' G A (.slice q9 (s.channels.length+1) c9) D csG csA cs' csD (w9.setCell ⟨g,3,none⟩ (.slice q9 (s.channels.length+1) c9))∧Chg (SB bp B) W (w9.setCell ⟨g,3,none⟩ (.slice q9 (s.channels.length+1) c9)):=by
 have hgb:=h.gb
 obtain ⟨r1,⟨q',c',cs',m',g1,g2,g3,g4,g5,g6,g7,g8,g9,g10⟩,r3⟩:=gj_end (arr:=fun v=>#[vp,G,A,v,D]) (kf:=3) tys_sde (fun _ _=>rfl) h.ps h.blk h.rC h.eC h.has (Mem.More.refl W m) h.mg h.mb h.nC (Nat.le_refl _) DeR.le hcc a1 a2 a3 a4 a5 hown9 hgrow9 hat9
 have e1:=heap_set (gj_mid h.rC hcc hgrow9 h.blk (by decide) hgb) 3 (.slice q9 (s.channels.length+1) c9)
 rw [List.length_append,List.length_singleton] at g1 g2 g8
 obtain ⟨rfl,rfl⟩:q'=q9∧c'=c9:=by
  have:=g1.symm.trans e1
  simpa using this
 refine ⟨m',cs',⟨g1,(sj_row h h.rG (by decide) (by decide) r1 (fun k hk e=>h.gc k hk e)),(h.eG.mono (DeR.le _ _ g5.le)),(sj_row h h.rA (by decide) (by decide) r1 (own_own h.rA h.rC (by decide))),(h.eA.mono (ArR.le _ _ g5.le)),by show World.ownsRow _ _ _ _ _ _ _;rw [List.length_append,List.length_singleton];exact g2,g3,(sj_row h h.rD (by decide) (by decide) r1 (own_own h.rD h.rC (by decide))),(h.eD.mono (FnM.le _ _ g5.le)),g4,h.more.trans g5 h.sz,g6,g7,sj_new h.nr.1 h.nV g5,(sj_new h.rG h.nG g5),(sj_new h.rA h.nA g5),g8,(sj_new h.rD h.nD g5),(fun k hk e=>by
  rcases hat9 with e2|e2
  ·rw [e2] at e;exact h.gc k hk e
  ·rw [e2] at e;injection e with e;have:=(h.rG.lt k hk).2;have:=hcc.size;omega),Nat.le_trans h.sz r1.size,g10,h.pr,r3⟩,gs_sb hB h.rC r1⟩
theorem SJ.addD {q q9:Option Addr} {c c9:Nat} {x:Syn.Fn} {news:List Value} {o:Obj} (h:SJ ys len bp bw vp ns g B m0 w0 s j m G A C (.slice q s.funcs.length c) csG csA csC csD W) (hB:B≤g)
 (hcc:Chg (fun k=>k=bp) W w1) (a1:m.More W m1) (a2:Has w1 m1) (a3:FnM m1 news x) (a4:PS ys len bp bw vp w1 j') (a5:NR w1 vp ns)
 (hown9:w9.ownsRow B 43 6 (.slice q9 (s.funcs.length+1) c9) (s.funcs.length+1) (csD++news)) (hgrow9:(w1.alloc o).grownBy w9 (Value.ownBlock (.slice q s.funcs.length c)))
 (hat9:Value.ownBlock (.slice q9 (s.funcs.length+1) c9)=Value.ownBlock (.slice q s.funcs.length c)∨Value.ownBlock (.slice q9 (s.funcs.length+1) c9)=some (w1.heap.size+1)) :
 ∃m' cs',SJ ys len bp bw vp ns g B m0 w0 { s with funcs:=s.funcs++[x] } j' m' G A C (.slice q9 (s.funcs.length+1) c9) csG csA csC cs' (w9.setCell ⟨g,4,none⟩ (.slice q9 (s.funcs.length+1) c9))∧Chg (SB bp B) W (w9.setCell ⟨g,4,none⟩ (.slice q9 (s.funcs.length+1) c9)):=by
 have hgb:=h.gb
 obtain ⟨r1,⟨q',c',cs',m',g1,g2,g3,g4,g5,g6,g7,g8,g9,g10⟩,r3⟩:=gj_end (arr:=fun v=>#[vp,G,A,C,v]) (kf:=4) tys_sfn (fun _ _=>rfl) h.ps h.blk h.rD h.eD h.has (Mem.More.refl W m) h.mg h.mb h.nD (Nat.le_refl _) FnM.le hcc a1 a2 a3 a4 a5 hown9 hgrow9 hat9
 have e1:=heap_set (gj_mid h.rD hcc hgrow9 h.blk (by decide) hgb) 4 (.slice q9 (s.funcs.length+1) c9)
 rw [List.length_append,List.length_singleton] at g1 g2 g8
 obtain ⟨rfl,rfl⟩:q'=q9∧c'=c9:=by
  have:=g1.symm.trans e1
  simpa using this
 refine ⟨m',cs',⟨g1,(sj_row h h.rG (by decide) (by decide) r1 (own_own h.rG h.rD (by decide))),(h.eG.mono (DeR.le _ _ g5.le)),(sj_row h h.rA (by decide) (by decide) r1 (own_own h.rA h.rD (by decide))),(h.eA.mono (ArR.le _ _ g5.le)),(sj_row h h.rC (by decide) (by decide) r1 (own_own h.rC h.rD (by decide))),(h.eC.mono (DeR.le _ _ g5.le)),by show World.ownsRow _ _ _ _ _ _ _;rw [List.length_append,List.length_singleton];exact g2,g3,g4,h.more.trans g5 h.sz,g6,g7,sj_new h.nr.1 h.nV g5,(sj_new h.rG h.nG g5),(sj_new h.rA h.nA g5),(sj_new h.rC h.nC g5),g8,h.gc,Nat.le_trans h.sz r1.size,g10,h.pr,r3⟩,gs_sb hB h.rD r1⟩
theorem done_none {v:Value} {m m':Mem} (h:∀k,m' k≠none→m k≠none∨v.ownBlock=some k) {k:Nat} (h1:m k=none) (h2:¬v.ownBlock=some k):m' k=none:=by
 cases e:m' k with
 | none=>rfl
 | some o=>rcases h k (by rw [e];simp) with e2 | e2;exact (e2 h1).elim;exact (h2 e2).elim
theorem SJ.done (h:SJ ys len bp bw vp ns g B m0 w0 s j m G A C D csG csA csC csD W) (hB:w0.heap.size≤B) (hv:∀k,vp.ownBlock=some k→w0.heap.size≤k) :
 ∃m2,m0.More w0 m2∧Has W m2∧m2 g=none∧m2 bp=none∧SoM m2 [vp,G,A,C,D] s:=by
 obtain ⟨x,hx⟩:=h.ps.blk
 obtain ⟨m1,l1,n1,k1,r1⟩:=RowM.done h.rG h.has h.nG
 obtain ⟨m2,l2,n2,k2,r2⟩:=RowM.done h.rA k1 (fun k hk=>done_none n1 (h.nA k hk) (own_own h.rA h.rG (by decide) k hk))
 obtain ⟨m3,l3,n3,k3,r3⟩:=RowM.done h.rC k2 (fun k hk=>done_none n2 (done_none n1 (h.nC k hk) (fun e=>h.gc k e hk)) (own_own h.rC h.rA (by decide) k hk))
 obtain ⟨m4,l4,n4,k4,r4⟩:=RowM.done h.rD k3 (fun k hk=>done_none n3 (done_none n2 (done_none n1 (h.nD k hk) (own_own h.rD h.rG (by decide) k hk)) (own_own h.rD h.rA (by decide) k hk)) (own_own h.rD h.rC (by decide) k hk))
 obtain ⟨m5,l5,n5,k5,r5⟩:=RowM.done h.nr.1 k4 (fun k hk=>done_none n4 (done_none n3 (done_none n2 (done_none n1 (h.nV k hk) (own_own h.nr.1 h.rG (by decide) k hk)) (own_own h.nr.1 h.rA (by decide) k hk)) (own_own h.nr.1 h.rC (by decide) k hk)) (own_own h.nr.1 h.rD (by decide) k hk))
 have hno:∀{k:Nat},m k=none→¬G.ownBlock=some k→¬A.ownBlock=some k→¬C.ownBlock=some k→¬D.ownBlock=some k→¬vp.ownBlock=some k→m5 k=none:=fun h0 a b c d e =>
  done_none n5 (done_none n4 (done_none n3 (done_none n2 (done_none n1 h0 a) b) c) d) e
 have t2:=l2.trans (l3.trans (l4.trans l5))
 refine ⟨m5,h.more.trans ⟨l1.trans t2,fun k e hk=>hno e ?_ ?_ ?_ ?_ ?_⟩ (Nat.le_refl _),k5,hno h.mg (blk_own h.blk h.rG (by decide)) (blk_own h.blk h.rA (by decide)) (blk_own h.blk h.rC (by decide)) (blk_own h.blk h.rD (by decide)) (blk_own h.blk h.nr.1 (by decide)),
  hno h.mb (blk_own hx h.rG (by decide)) (blk_own hx h.rA (by decide)) (blk_own hx h.rC (by decide)) (blk_own hx h.rD (by decide)) (blk_own hx h.nr.1 (by decide)),
  _,_,_,_,_,rfl,by rw [h.pr];exact r5,⟨_,r1.le t2,h.eG.mono (DeR.le _ _ (l1.trans t2))⟩,⟨_,r2.le (l3.trans (l4.trans l5)),h.eA.mono (ArR.le _ _ (l1.trans t2))⟩,⟨_,r3.le (l4.trans l5),h.eC.mono (DeR.le _ _ (l1.trans t2))⟩,⟨_,r4.le l5,h.eD.mono (FnM.le _ _ (l1.trans t2))⟩⟩
 ·intro q;have:=(h.rG.lt k q).1;omega
 ·intro q;have:=(h.rA.lt k q).1;omega
 ·intro q;have:=(h.rC.lt k q).1;omega
 ·intro q;have:=(h.rD.lt k q).1;omega
 ·intro q;have:=hv k q;omega
end
end Go.Proofs.YtlpdjfimefjmcaaGreatDoor.Q
