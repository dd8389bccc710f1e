/- The kit's lent statements. One block that is written step by step, beside what is known; a row that is taken over whole. The kit's lent source, the row of its functions apart from all that it leads to. (Written by a program.) Plain: names of a source: what a name stands for, whether a statement fits -/
import Derived.Test.YtlpdjfimefjmcaaGreatDoorFlFewerPR3
import Derived.RangeFuncRecord
import Derived.Laws.Rows
namespace Go.Proofs.YtlpdjfimefjmcaaGreatDoor
open Go Go.RowKit Go.Proofs.Mm
theorem SlX.shape {α:Type} {mk:List Value} {bs:Nat} {C:Cl} {R:List Value→α→Prop} {v:Value} {l:List α} (h:SlX mk bs C R v l):∃ q c,v=.slice q l.length c:=let ⟨q,c,_,e,_⟩:=h;⟨q,c,e⟩
def RwI {α:Type} (E:TypeId) (size:Nat) (R:Mem→List Value→α→Prop) (w:World) (m:Mem) (n:Nat) (l:List α) (vF iV:Value) (wr:World):Prop :=
  ∃ k q c cs m',k≤n∧iV=.int .i64 (k:Nat)∧vF=.slice q k c∧Hid (wr.ownsRow w.heap.size E size (.slice q k c) k cs)∧Hid (Enc (R m') cs (l.take k))∧Hid (Has wr m')∧Hid (m.More w m')∧Hid (∀ b,(Value.slice q k c).ownBlock=some b→m' b=none)∧Hid (Below w.heap.size w wr)
theorem RwI.start {α:Type} {E:TypeId} {size:Nat} {R:Mem→List Value→α→Prop} {w:World} {m:Mem} {n:Nat} {l:List α} (h:Has w m):RwI E size R w m n l (.slice none 0 0) (.int .i64 0) w :=
  ⟨0,none,0,[],m,Nat.zero_le _,rfl,rfl,Lib.hid (World.ownsRow_nil _ _ _ _),Lib.hid Enc.nil,Lib.hid h,Lib.hid (Mem.More.refl _ _),Lib.hid (fun b hb=>by cases hb),Lib.hid (Below.refl _ _)⟩
theorem rw_step {α:Type} {E:TypeId} {size:Nat} {R:Mem→List Value→α→Prop} {w wr w' w9:World} {m m' m'':Mem} {k c:Nat} {q:Option Addr} {l:List α} {cs news:List Value} {v9:Value} {o:Obj} (hk:k<l.length)
    (hE:Enc (R m') cs (l.take k)) (hMo:m.More w m') (hFr:∀ b,(Value.slice q k c).ownBlock=some b→m' b=none) (hB:Below w.heap.size w wr) (hrow:wr.ownsRow w.heap.size E size (.slice q k c) k cs)
    (hb:Below wr.heap.size wr w') (hmo:m'.More wr m'') (hH:Has w' m'') (hR:∀ m m':Mem,m.le m'→∀ c x,R m c x→R m' c x) (hx:R m'' news l[k])
    (hown:w9.ownsRow w.heap.size E size v9 (k+1) (cs++news)) (hg:(w'.alloc o).grownBy w9 (Value.slice q k c).ownBlock) (hat:v9.ownBlock=(Value.slice q k c).ownBlock ∨ v9.ownBlock=some (w'.heap.size+1)) :
    ∃ q9 c9,v9=.slice q9 (k+1) c9∧Hid (w9.ownsRow w.heap.size E size (.slice q9 (k+1) c9) (k+1) (cs++news))∧Hid (Enc (R m'') (cs++news) (l.take (k+1)))∧Hid (Has w9 m'')∧Hid (m.More w m'')∧Hid (∀ b,(Value.slice q9 (k+1) c9).ownBlock=some b→m'' b=none)∧Hid (Below w.heap.size w w9):=by
  obtain ⟨q9,c9,rfl⟩:=own_shape hown
  have h1:=hB.size
  have h2:=hb.size
  have hfr:∀ b,(Value.slice q k c).ownBlock=some b→m'' b=none:=fun b e=>hmo.new b (hFr b e) (hrow.lt b e).2
  have hC:Chg (fun b=>(Value.slice q k c).ownBlock=some b) w' w9:=((Chg.refl _ w').alloc _).then (grown_chg hg (fun b hb=>.inl hb))
  refine ⟨q9,c9,rfl,Lib.hid hown,Lib.hid ?_,Lib.hid (hH.chg hC hfr),Lib.hid (hMo.trans hmo h1),Lib.hid (fun b hb=>?_),Lib.hid ?_⟩
  · rw [List.take_succ_eq_append_getElem hk]
    exact (hE.mono (hR _ _ hmo.le)).app (Enc.one hx)
  · rcases hat with hat | hat
    · exact hfr b (hat.symm.trans hb)
    · have:=hat.symm.trans hb
      injection this with this
      exact hH.lt (by omega)
  · exact grown_below ((hB.trans (hb.mono h1)).alloc (by omega) _) (by simp;omega) hg (fun j hj=>(hrow.lt j hj).1)
theorem rw_end {α:Type} {E:TypeId} {size bs:Nat} {R:Mem→List Value→α→Prop} {w wr w9:World} {m m':Mem} {n c:Nat} {q:Option Addr} {l:List α} {cs mk:List Value} {v9:Value} {o:Obj} (hn:l.length=n)
    (hE:Enc (R m') cs (l.take n)) (hMo:m.More w m') (hFr:∀ b,(Value.slice q n c).ownBlock=some b→m' b=none) (hB:Below w.heap.size w wr) (hrow:wr.ownsRow w.heap.size E size (.slice q n c) n cs) (hH:Has wr m') (hR:∀ m m':Mem,m.le m'→∀ c x,R m c x→R m' c x)
    (hown:w9.ownsRow w.heap.size E size v9 (n+1) (cs++mk)) (hg:(wr.alloc o).grownBy w9 (Value.slice q n c).ownBlock) (hat:v9.ownBlock=(Value.slice q n c).ownBlock ∨ v9.ownBlock=some (wr.heap.size+1)) (hb:n * bs≤140737488351232) :
    ∃ q9 c9,v9=.slice q9 (n+1) c9∧n+1≤c9∧(∃ g9,q9=some ⟨g9,0,none⟩)∧Hid (∃ m9,m.More w m9∧Has w9 m9∧SlX mk bs (mC m9) (R m9) (.slice q9 n c9) l)∧Hid (Below w.heap.size w w9):=by
  obtain ⟨q9,c9,rfl⟩:=own_shape hown
  have h1:=hB.size
  have hC:Chg (fun b=>(Value.slice q n c).ownBlock=some b) wr w9:=((Chg.refl _ wr).alloc _).then (grown_chg hg (fun b hb=>.inl hb))
  have hcap:n+1≤c9∧∃ g9,q9=some ⟨g9,0,none⟩:=by
    rcases hown.2 with ⟨_,h0⟩ | ⟨g',cap',cur,h0,_,_,h1,_,_⟩
    · omega
    · injection h0 with h3 _ h4
      exact ⟨by omega,g',h3⟩
  obtain ⟨m9,d1,d2,d3⟩:=lent_done (w:=w) (bs:=bs) (R:=R) (hH.chg hC hFr) (fun b hb=>by
    rcases hat with hat | hat
    · exact hFr b (hat.symm.trans hb)
    · have:=hat.symm.trans hb
      injection this with this
      exact hH.lt (by omega)) hown hn (by rwa [List.take_of_length_le (by omega)] at hE) hR hb
  exact ⟨q9,c9,rfl,hcap.1,hcap.2,Lib.hid ⟨m9,hMo.trans d1 (Nat.le_refl _),d2,d3⟩,Lib.hid (grown_below (hB.alloc h1 _) (by simp;omega) hg (fun j hj=>(hrow.lt j hj).1))⟩
theorem stR_mono:∀ m m':Mem,m.le m'→∀ c x,StR1 true (mC m) c x→StR1 true (mC m') c x:=fun _ _ h _ _ e=>e.le (mle_cle h)
theorem exR_mono:∀ m m':Mem,m.le m'→∀ c x,ExR1 true (mC m) c x→ExR1 true (mC m') c x:=fun _ _ h _ _ e=>e.le (mle_cle h)
set_option maxRecDepth 100000 in
set_option maxHeartbeats 8000000 in
theorem lentStmts_any {w:World} {v:Value} {l:List StZ} (h:BdR false (wC w) v l) {m:Mem} (hm:Has w m) :
    Calls Tryz.prog 22 #[v] w fun e w'=>∃ v' m',e=.returned v'∧(∃ g c,v'=.slice (some ⟨g,0,none⟩) l.length c)∧Below w.heap.size w w'∧m.More w m'∧Has w' m'∧BdR true (mC m') v' l:=by
  have hB:=h
  obtain ⟨q,c,rfl,_,hmax,_,ha,_⟩:=h.at (by decide) st_len
  obtain ⟨n,hn⟩:∃ n,l.length=n:=⟨_,rfl⟩
  have HBD:=Lib.hid (show n * 72≤140737488351232 from by obtain ⟨_,_,_,_,_,_,_,h5,_⟩:=hB;rw [← hn];exact h5)
  have HA:=Lib.hid ha
  have HN:=Lib.hid hn
  have HM:=Lib.hid hm
  rw [hn] at hmax ⊢
  clear h hB ha hn hm
  obtain ⟨i1,hi1,hz1,hs1,hb1⟩:=infoSz
  obtain ⟨i2,hi2,hz2,hs2,hb2⟩:=infoEz
  go_enter Tryz.func22,Tryz.ntmps22
  go_wp2_with fail
  go_loopw [3,4] (RwI 47 4 (fun m=>StR1 true (mC m)) w m n l) (fun _ i _=>n - (intOf i).toNat)
  case atStart=>exact RwI.start HM.out
  case round =>
    obtain ⟨k,qF,cF,cs,m1,hk,rfl,rfl,HF,HE,HM1,HMo,HFr,HB⟩:=hrel
    generalize wr=V at *
    by_cases hlt:k<n
    · have hkl:k<l.length:=by rw [HN.out];exact hlt
      obtain ⟨g,o,e,rfl,⟨vt,ve,rfl,ht,he⟩,a1⟩:=HA.out k hkl
      obtain ⟨qt,ct,hvt⟩:=SlX.shape ht
      obtain ⟨qe,ce,hve⟩:=SlX.shape he
      obtain ⟨nt,hnt⟩:∃ nt,l[k].targets.length=nt:=⟨_,rfl⟩
      obtain ⟨ne,hne⟩:∃ ne,l[k].exprs.length=ne:=⟨_,rfl⟩
      have HNT:=Lib.hid hnt
      have HNE:=Lib.hid hne
      rw [hnt] at hvt
      rw [hne] at hve
      subst hvt hve
      clear hnt hne
      have HX0:=Lib.hid (show w.cell? ⟨g,o+k * 4,none⟩=some (.int .i64 l[k].kind)∧w.cell? ⟨g,o+k * 4+1,none⟩=some (.string l[k].name)∧w.cell? ⟨g,o+k * 4+2,none⟩=some (.slice qt nt ct)∧w.cell? ⟨g,o+k * 4+3,none⟩=some (.slice qe ne ce) from by
        refine ⟨a1 0 _ (by decide) rfl,?_,?_,?_⟩
        · have:=a1 1 _ (by decide) rfl;rwa [← Nat.add_assoc] at this
        · have:=a1 2 _ (by decide) rfl;rwa [← Nat.add_assoc] at this
        · have:=a1 3 _ (by decide) rfl;rwa [← Nat.add_assoc] at this)
      have HST:=Lib.hid (show StrR false (wC w) (.slice qt nt ct) l[k].targets from ht)
      have HEX:=Lib.hid (show ExsR false (wC w) (.slice qe ne ce) l[k].exprs from he)
      clear ht he a1
      have hle:=below_cle HB.out
      have x0:=hle _ _ HX0.out.1
      have x1:=hle _ _ HX0.out.2.1
      have x2:=hle _ _ HX0.out.2.2.1
      have x3:=hle _ _ HX0.out.2.2.2
      unfold wC at x0 x1 x2 x3
      have hglt:g<V.heap.size:=World.block_lt_of_cell? _ _ x0
      clear hle
      have hki:(k:Int)<(n:Int):=by omega
      obtain ⟨kd,hkd⟩:∃ kd,l[k].kind=kd:=⟨_,rfl⟩
      obtain ⟨nm,hnm⟩:∃ nm,l[k].name=nm:=⟨_,rfl⟩
      rw [hkd] at x0
      rw [hnm] at x1
      have HKD:=Lib.hid hkd
      have HNM:=Lib.hid hnm
      clear hkd hnm
      have hfz0:(V.alloc (.cells #[.int .i64 kd,.string nm,.slice qt nt ct,.slice qe ne ce] 47)).heap[V.heap.size]?=some (.cells #[.int .i64 kd,.string nm,.slice qt nt ct,.slice qe ne ce] 47 (0,0)):=World.alloc_heap_new _ _
      go_wp2_with fail
      obtain ⟨W1,hW1⟩:∃ W1,V.alloc (.cells #[.int .i64 kd,.string nm,.slice qt nt ct,.slice qe ne ce] 47)=W1:=⟨_,rfl⟩
      have hb1:Below V.heap.size V W1:=by rw [← hW1];exact (Below.refl _ _).alloc (Nat.le_refl _) _
      have hsz1:W1.heap.size=V.heap.size+1:=by rw [← hW1];simp
      rw [hW1] at hfz0 ⊢
      obtain ⟨bx,hbx⟩:∃ bx,V.heap.size=bx:=⟨_,rfl⟩
      have HBW:=Lib.hid hbx
      go_at_call 19
      refine (lentStrings_any (HST.out.le ((below_cle HB.out).trans (below_cle hb1))) (has_grown HM1.out hb1)).mono ?_
      rintro e w2 ⟨v2,m2,rfl,hb2,hmo2,hH2,hS2⟩
      obtain ⟨qs,cs2,rfl⟩:=SlX.shape hS2
      rw [HNT.out]
      rw [HNT.out] at hS2
      have hx2:w2.heap[bx]?=some (.cells #[.int .i64 kd,.string nm,.slice qt nt ct,.slice qe ne ce] 47 (0,0)):=by rw [hb2.block _ (by omega),← hbx];exact hfz0
      have hm2x:m2 bx=none:=hmo2.new bx (HM1.out.lt (by omega)) (by omega)
      have hbb:Below bx V w2:=by rw [← hbx];exact hb1.trans (hb2.mono (by omega))
      rw [hbx]
      have hfr2:w2.frozen? ⟨bx,2,none⟩=false:=free_of hx2
      have hc2:w2.cell? ⟨bx,2,none⟩=some (.slice qt nt ct):=cell_of hx2 rfl
      have HX2:=Lib.hid hx2
      have HH2:=Lib.hid hH2
      have HS2:=Lib.hid hS2
      have HMO2:=Lib.hid (show m1.More V m2 from ⟨hmo2.le,fun b hb hl=>hmo2.new b hb (by omega)⟩)
      have HBB:=Lib.hid hbb
      clear hx2 hH2 hS2 hmo2 hb2 hbb hb1 hfz0 x0 x1 x2 x3 hglt
      obtain ⟨W3,hW3⟩:∃ W3,w2.setCell ⟨bx,2,none⟩ (.slice qs nt cs2)=W3:=⟨_,rfl⟩
      have HX3:=Lib.hid (show W3.heap[bx]?=some (.cells #[.int .i64 kd,.string nm,.slice qs nt cs2,.slice qe ne ce] 47 (0,0)) by rw [← hW3];exact heap_set HX2.out 2 _)
      have HH3:=Lib.hid (show Has W3 m2 by rw [← hW3];exact HH2.out.chg ((Chg.refl (fun b=>b=bx) w2).setCell (.inl rfl) _) (fun b e=>by rw [e];exact hm2x))
      have HB3:=Lib.hid (show Below bx V W3 by rw [← hW3];exact HBB.out.setCell (Nat.le_refl _) _)
      have HB4:=Lib.hid (show Below w.heap.size w W3 from HB.out.trans (HB3.out.mono (by have:=HB.out.size;omega)))
      have y0:=below_cle HB4.out _ _ HX0.out.2.2.2
      unfold wC at y0
      obtain ⟨qe',ce',heq,_,hmaxe,_,hae,_⟩:=HEX.out.at (by decide) ex_len
      have hq1:qe=qe':=by injection heq
      clear heq
      subst hq1
      have HAE:=Lib.hid hae
      rw [HNE.out] at hmaxe
      have hbe:ne * 24≤140737488351232:=by obtain ⟨_,_,_,_,_,_,_,h5,_⟩:=HEX.out;rw [← HNE.out];exact h5
      have hmx:bx<W3.heap.size:=heap_lt HX3.out
      clear hae HX2 HH2
      go_wp2_with fail
      clear hfr2 hc2
      try rw [hW3]
      clear hW3
      go_loopw [6,7] (RwI 97 1 (fun m=>ExR1 true (mC m)) W3 m2 ne l[k].exprs) (fun _ i _=>ne - (intOf i).toNat)
      case atStart=>exact RwI.start HH3.out
      case round =>
        obtain ⟨j,qE,cE,cs3,m3,hj,rfl,rfl,GF,GE,GM,GMo,GFr,GB⟩:=hrel
        have HB5:=Lib.hid (show Below w.heap.size w wr from HB4.out.trans (GB.out.mono HB4.out.size))
        have z0:=below_cle HB5.out _ _ HX0.out.2.2.2
        unfold wC at z0
        by_cases hjl:j<ne
        · have hje:j<l[k].exprs.length:=by rw [HNE.out];exact hjl
          obtain ⟨ge,oe,e2,rfl,⟨u,rfl,hu⟩,a2⟩:=HAE.out j hje
          have hu0:=below_cle HB5.out _ _ (a2 0 _ (by decide) rfl)
          unfold wC at hu0
          rw [Nat.mul_one,Nat.add_zero] at hu0
          have HU:=Lib.hid (hu.le (below_cle HB5.out))
          have hji:(j:Int)<(ne:Int):=by omega
          clear a2 hu
          go_wp2_with fail
          go_at_call 46
          refine (lentTerms_any HU.out GM.out).mono ?_
          rintro e w4 ⟨v4,m4,rfl,hb4,hmo4,hH4,hT4⟩
          obtain ⟨q4,c4,rfl⟩:=SlX.shape hT4
          have hrow:=own_chg GF.out (Below.chg hb4 (Nat.le_refl _) (fun _=>False)) (fun _ _ e=>e)
          have hnew:=row_new w4 [.slice q4 l[k].exprs[j].length c4] 97
          have hone:∀ u ∈ [Value.slice q4 l[k].exprs[j].length c4],u.oneCell'=true:=by intro u hu;rw [List.mem_singleton.1 hu];rfl
          have hs4:=hb4.size
          have hs3:=GB.out.size
          have HB44:=Lib.hid hb4
          have HMO4:=Lib.hid hmo4
          have HH4:=Lib.hid hH4
          have HT4:=Lib.hid hT4
          clear hb4 hmo4 hH4 hT4
          go_wp2_with (at_builtin;refine wpList_append_own_at _ rfl _ _ 45 rfl W3.heap.size 97 i2 _ 1 24 und_exs hi2 hz2 hs2 hb2 rfl (by decide) _ _ _ rfl (hrow.alloc _) ⟨w4.heap.size,0,none⟩ 1 1 [.slice q4 l[k].exprs[j].length c4] rfl rfl hnew hone (by unfold maxLen;omega) (by omega) (by simp;omega) ?_)
          intro v9 w9 hR9 hg9 _ hat
          obtain ⟨q9,c9,rfl,r1,r2,r3,r4,r5,r6⟩:=rw_step hje GE.out GMo.out GFr.out GB.out GF.out HB44.out HMO4.out HH4.out exR_mono ⟨_,rfl,HT4.out⟩ hR9 hg9 (by simpa using hat)
          clear hR9 hg9 hat hrow
          go_wp2_with fail
          exact ⟨⟨j+1,q9,c9,_,m4,by omega,by go_num,rfl,r1,r2,r3,r4,r5,r6⟩,by simp [intOf];omega⟩
        · obtain rfl:j=ne:=by omega
          have hrow:=GF.out
          have hnew:=row_new wr [.slice none 0 0] 97
          have hone:∀ u ∈ [Value.slice none 0 0],u.oneCell'=true:=by intro u hu;rw [List.mem_singleton.1 hu];rfl
          have hs3:=GB.out.size
          go_wp2_with (at_builtin;refine wpList_append_own_at _ rfl _ _ 45 rfl W3.heap.size 97 i2 _ 1 24 und_exs hi2 hz2 hs2 hb2 rfl (by decide) _ _ _ rfl (hrow.alloc _) ⟨wr.heap.size,0,none⟩ 1 1 [.slice none 0 0] rfl rfl hnew hone (by unfold maxLen;omega) (by omega) (by simp;omega) ?_)
          intro v9 w9 hR9 hg9 _ hat
          obtain ⟨q9,c9,rfl,hcap,-,HD,HB9⟩:=rw_end (m:=m2) HNE.out GE.out GMo.out GFr.out GB.out GF.out GM.out exR_mono hR9 hg9 (by simpa using hat) hbe
          clear hR9 hg9 hat hrow
          obtain ⟨m9,hmo9,hH9,hx9⟩:=HD.out
          have hX9:w9.heap[bx]?=some (.cells #[.int .i64 kd,.string nm,.slice qs nt cs2,.slice qe j ce] 47 (0,0)):=by rw [HB9.out.block _ hmx];exact HX3.out
          have hm9x:m9 bx=none:=hmo9.new bx hm2x hmx
          have HB10:=Lib.hid (HB4.out.trans (HB9.out.mono HB4.out.size))
          have z9:=below_cle HB10.out _ _ HX0.out.2.2.2
          unfold wC at z9
          have hfr9:w9.frozen? ⟨bx,3,none⟩=false:=free_of hX9
          have hc9:w9.cell? ⟨bx,3,none⟩=some (.slice qe j ce):=cell_of hX9 rfl
          obtain ⟨W5,hW5⟩:∃ W5,w9.setCell ⟨bx,3,none⟩ (.slice q9 j c9)=W5:=⟨_,rfl⟩
          have HX5:=Lib.hid (show W5.heap[bx]?=some (.cells #[.int .i64 kd,.string nm,.slice qs nt cs2,.slice q9 j c9] 47 (0,0)) by rw [← hW5];exact heap_set hX9 3 _)
          have HH5:=Lib.hid (show Has W5 m9 by rw [← hW5];exact hH9.chg ((Chg.refl (fun b=>b=bx) w9).setCell (.inl rfl) _) (fun b e=>by rw [e];exact hm9x))
          have HB5:=Lib.hid (show Below bx V W5 by rw [← hW5];exact (HB3.out.trans (HB9.out.mono (by omega))).setCell (Nat.le_refl _) _)
          have HS5:=Lib.hid (show StrR true (mC m9) (.slice qs nt cs2) l[k].targets from HS2.out.le (mle_cle hmo9.le))
          have HX6:=Lib.hid (show ExsR true (mC m9) (.slice q9 j c9) l[k].exprs from hx9)
          have HMO9:=Lib.hid (HMO2.out.trans hmo9 HB3.out.size)
          clear hmo9 hH9 hx9 hX9 HD
          have t0:W5.cell? ⟨bx,0,none⟩=some (.int .i64 kd):=cell_of HX5.out rfl
          have t1:W5.cell? ⟨bx,1,none⟩=some (.string nm):=cell_of HX5.out rfl
          have t2:W5.cell? ⟨bx,2,none⟩=some (.slice qs nt cs2):=cell_of HX5.out rfl
          have t3:W5.cell? ⟨bx,3,none⟩=some (.slice q9 j c9):=cell_of HX5.out rfl
          have hrow:=own_chg HF.out (Below.chg HB5.out (by rw [HBW.out];exact Nat.le_refl _) (fun _=>False)) (fun _ _ e=>e)
          have hnew:=row_new W5 [.int .i64 kd,.string nm,.slice qs nt cs2,.slice q9 j c9] 47
          have hone:∀ u ∈ [Value.int .i64 kd,.string nm,.slice qs nt cs2,.slice q9 j c9],u.oneCell'=true:=by
            intro u hu
            simp only [List.mem_cons,List.not_mem_nil,or_false] at hu
            rcases hu with rfl | rfl | rfl | rfl <;> rfl
          have hbd:=HBD.out
          have hs5:=HB5.out.size
          have hs6:=HB.out.size
          have hV:=HBW.out
          go_wp2_with (at_builtin;refine wpList_append_own_at _ rfl _ _ 41 rfl w.heap.size 47 i1 _ 4 72 und_sts hi1 hz1 hs1 hb1 rfl (by decide) _ _ _ rfl (hrow.alloc _) ⟨W5.heap.size,0,none⟩ 1 1 [.int .i64 kd,.string nm,.slice qs nt cs2,.slice q9 j c9] rfl rfl hnew hone (by unfold maxLen;omega) (by omega) (by simp;omega) ?_)
          intro v10 w10 hR10 hg10 _ hat
          obtain ⟨q10,c10,rfl,r1,r2,r3,r4,r5,r6⟩:=rw_step hkl HE.out HMo.out HFr.out HB.out HF.out (by rw [hV];exact HB5.out) HMO9.out HH5.out stR_mono ⟨_,_,by rw [HKD.out,HNM.out],HS5.out,HX6.out⟩ hR10 hg10 (by simpa using hat)
          clear hR10 hg10 hat hrow
          go_wp2_with fail
          exact ⟨⟨k+1,q10,c10,_,m9,by omega,by go_num,rfl,r1,r2,r3,r4,r5,r6⟩,by simp [intOf];omega⟩
    · obtain rfl:k=n:=by omega
      have hrow:=HF.out
      have hnew:=row_new V (mkB true) 47
      have hone:∀ u ∈ mkB true,u.oneCell'=true:=by intro u hu;simp only [mkB,if_true,List.mem_cons,List.not_mem_nil,or_false] at hu;rcases hu with rfl | rfl | rfl | rfl <;> rfl
      have hbd:=HBD.out
      have hws:=HB.out.size
      go_wp2_with (at_builtin;refine wpList_append_own_at _ rfl _ _ 41 rfl w.heap.size 47 i1 _ 4 72 und_sts hi1 hz1 hs1 hb1 rfl (by decide) _ _ _ rfl (hrow.alloc _) ⟨V.heap.size,0,none⟩ 1 1 (mkB true) rfl rfl hnew hone (by unfold maxLen;omega) (by omega) (by simp;omega) ?_)
      intro v2 w2 hR2 hg2 _ hat
      obtain ⟨q2,c2,rfl,hcap,⟨g2,hg2'⟩,HD,HB2⟩:=rw_end (m:=m) HN.out HE.out HMo.out HFr.out HB.out hrow HM1.out stR_mono hR2 hg2 (by simpa using hat) hbd
      clear hg2 hR2 hrow hat
      have HG2:=Lib.hid (show Value.slice q2 k c2=.slice (some ⟨g2,0,none⟩) k c2 by rw [hg2'])
      clear hg2'
      go_wp2
      go_ret
      obtain ⟨m',d1,d2,d3⟩:=HD.out
      exact ⟨_,m',rfl,⟨g2,c2,HG2.out⟩,HB2.out,d1,d2,d3⟩
end Go.Proofs.YtlpdjfimefjmcaaGreatDoor
namespace Go.Proofs.YtlpdjfimefjmcaaGreatDoor
open Go Go.RowKit Go.Proofs.Mm
theorem und_ars:Tryz.prog.underlying 24=some (.slice 39):=by kernel_rfl
theorem und_fns:Tryz.prog.underlying 25=some (.slice 43):=by kernel_rfl
theorem infoAz:∃ i,Tryz.prog.info? 39=some i∧i.zero=some (.agg #[.string ⟨#[]⟩,.int .i64 0,.int .u64 0])∧i.size=3∧i.bytes=32:=infoOf (by kernel_rfl)
theorem infoFz:∃ i,Tryz.prog.info? 43=some i∧i.zero=some (.agg #[.string ⟨#[]⟩,.int .u64 0,.slice none 0 0,.slice none 0 0,.slice none 0 0,.slice none 0 0])∧i.size=6∧i.bytes=120:=infoOf (by kernel_rfl)
theorem undOf {P:Program} {t:TypeId} (h:(P.underlying t).map (fun d=>match d with | .struct _ | .array _ _=>true | _=>false)=some true):∃ d,P.underlying t=some d∧(match d with | .struct _ | .array _ _=>true | _=>false)=true:=by
  cases hd:P.underlying t with
  | none=>rw [hd] at h;cases h
  | some d =>
    rw [hd] at h
    exact ⟨d,rfl,by simpa using h⟩
theorem undSo:∃ d,Tryz.prog.underlying 27=some d∧(match d with | .struct _ | .array _ _=>true | _=>false)=true:=undOf (by kernel_rfl)
theorem sizeSo:(Tryz.prog.info? 27).map (·.size)=some 5:=by kernel_rfl
section
variable {w w1 w2:World} {m m1 m2:Mem} {b:Nat} {cs:Array Value} {T:TypeId}
structure Kp (w:World) (m:Mem) (b:Nat) (cs:Array Value) (T:TypeId) (w':World) (m':Mem):Prop where
  below:Below w.heap.size w w'
  has:Has w' m'
  more:m.More w m'
  le:w.heap.size≤b
  lies:w'.heap[b]?=some (.cells cs T (0,0))
  new:m' b=none
theorem Kp.step (h:Kp w m b cs T w1 m1) (hb:Below w1.heap.size w1 w2) (hmo:m1.More w1 m2) (hH:Has w2 m2):Kp w m b cs T w2 m2 :=
  ⟨h.below.trans (hb.mono h.below.size),hH,h.more.trans hmo h.below.size,h.le,by rw [hb.block _ (heap_lt h.lies)];exact h.lies,hmo.new b h.new (heap_lt h.lies)⟩
theorem Kp.set (h:Kp w m b cs T w1 m1) (i:Nat) (v:Value):Kp w m b (cs.setIfInBounds i v) T (w1.setCell ⟨b,i,none⟩ v) m1 :=
  ⟨h.below.setCell h.le v,h.has.chg ((Chg.refl (fun k=>k=b) w1).setCell (.inl rfl) _) (fun k e=>by rw [e];exact h.new),h.more,h.le,heap_set h.lies i v,h.new⟩
theorem Kp.cell (h:Kp w m b cs T w1 m1) {i:Nat} {v:Value} (hv:cs[i]?=some v):w1.cell? ⟨b,i,none⟩=some v:=cell_of h.lies hv
theorem Kp.free (h:Kp w m b cs T w1 m1) (i:Nat):w1.frozen? ⟨b,i,none⟩=false:=free_of h.lies
theorem Kp.start (hm:Has w m) (cs:Array Value) (T:TypeId):Kp w m w.heap.size cs T (w.alloc (.cells cs T)) m :=
  ⟨(Below.refl _ w).alloc (Nat.le_refl _) _,has_grown hm ((Below.refl _ w).alloc (Nat.le_refl _) _),Mem.More.refl _ _,Nat.le_refl _,World.alloc_heap_new _ _,hm.lt (Nat.le_refl _)⟩
end
section
variable {P:Program}
theorem wpList_append_rd {ops:Array Oper} {rest:List Oper} {o:Oper} {a:Act} {w:World} {Q:Exit→Act→World→Prop} (hgd:o.guard=none) (s x:Operand) (t:TypeId)
    (ho:o.op=.call { callee:=.builtin .append,args:=#[s,x],argTypes:=#[t,t] })
    (e:TypeId) (i:TypeInfo) (z:Value) (size bytes:Nat) (ht:P.underlying t=some (.slice e)) (hi:P.info? e=some i) (hz:i.zero=some z)
    (hsize:i.size=size) (hby:i.bytes=bytes) (hzs:z.cells.size=size) (hsz:0<size)
    (hs:a.eval s=.slice none 0 0)
    (q:Option Addr) (m c:Nat) (news:List Value) (hx:a.eval x=.slice q m c) (hq:q=none→c=0) (hmc:m≤c) (hl:news.length=m * size) (hnews:∀ ad,q=some ad→∀ j u,news[j]?=some u→w.cell? (ad.add j)=some u) (h1:∀ u ∈ news,u.oneCell'=true)
    (h63:m≤maxLen) (hbytes:m * bytes≤140737488355328)
    (h:∀ q' c' w',w'.ownsRow w.heap.size e size (.slice q' m c') m news→Below w.heap.size w w'→wpList P ops Q rest (a.put o.dst (.slice q' m c')) w') :
    wpList P ops Q (o :: rest) a w:=by
  have hnil:=World.ownsRow_nil w w.heap.size e size
  rcases q with _ | ad
  · obtain rfl:c=0:=hq rfl
    obtain rfl:m=0:=by omega
    have hn:news=[]:=List.eq_nil_of_length_eq_zero (by simpa using hl)
    subst hn
    exact wpList_append_own_none hgd s x t ho w.heap.size e i size ht hi _ 0 [] hs hnil hx (h none 0 w hnil (Below.refl _ w))
  · refine wpList_append_own w hgd s x t ho w.heap.size e i z size bytes ht hi hz hsize hby hzs hsz _ 0 [] hs hnil ad m c news hx hl (hnews ad rfl) h1 (by omega) (by rwa [Nat.zero_add]) (Nat.le_refl _) ?_
    intro v' w' hR hg _
    rw [Nat.zero_add,List.nil_append] at hR
    obtain ⟨q',c',rfl⟩:=own_shape hR
    exact h q' c' w' hR (grown_below (Below.refl _ w) (Nat.le_refl _) hg (fun j hj=>by cases hj))
end
theorem one_Ar {l:List ArZ} {cs:List Value} (h:Enc (fun c s=>c=arZv s∧s.label<u64B) cs l):∀ u ∈ cs,u.oneCell'=true:=by
  induction l generalizing cs with
  | nil=>obtain rfl:cs=[]:=h;intro u hu;cases hu
  | cons x l ih =>
    obtain ⟨c,r,rfl,⟨rfl,_⟩,h2⟩:=h
    intro u hu
    rcases List.mem_append.1 hu with hu | hu
    · simp only [arZv,List.mem_cons,List.not_mem_nil,or_false] at hu
      rcases hu with rfl | rfl | rfl <;> rfl
    · exact ih h2 u hu
theorem ArsR.take {C:Cl} {q:Option Addr} {n c:Nat} {l:List ArZ} (h:ArsR false C (.slice q n c) l):∃ cs,l.length=n∧(q=none→c=0)∧n≤c∧cs.length=n * 3∧(∀ ad,q=some ad→∀ j u,cs[j]?=some u→C (ad.add j)=some u)∧(∀ u ∈ cs,u.oneCell'=true)∧n≤maxLen∧n * 32≤140737488351232∧Enc (fun c s=>c=arZv s∧s.label<u64B) cs l:=by
  obtain ⟨q',c',cs,e,_,hr,he,hb,hmax,hqn,hlc⟩:=h
  obtain ⟨rfl,rfl,rfl⟩:q=q'∧n=l.length∧c=c':=by injection e with a b c;exact ⟨a,b,c⟩
  obtain ⟨hcl,_⟩:=encZ_at ar_lenZ he
  refine ⟨cs,rfl,hqn,hlc,hcl,?_,one_Ar he,by omega,hb,he⟩
  intro ad hq
  rcases hr with hr | ⟨g,o,hq2,hr⟩
  · have:=(List.append_eq_nil_iff.1 hr).1
    subst this
    intro j u hu
    simp at hu
  · rw [hq] at hq2
    injection hq2 with hq2
    subst hq2
    exact enc_cells he (fun j u hu=>hr j u (by rw [List.getElem?_append_left ((List.getElem?_eq_some_iff.1 hu).1)];exact hu))
theorem fnR_mono:∀ m m':Mem,m.le m'→∀ c x,FnR1 true (mC m) c x→FnR1 true (mC m') c x:=fun _ _ h _ _ e=>e.le (mle_cle h)
end Go.Proofs.YtlpdjfimefjmcaaGreatDoor
namespace Go.Proofs.YtlpdjfimefjmcaaGreatDoor
open Go Go.RowKit Go.Proofs.Mm
set_option maxRecDepth 100000 in
set_option maxHeartbeats 8000000 in
theorem rw_apart {α:Type} {E:TypeId} {size:Nat} {R:Mem→List Value→α→Prop} {w wr w9:World} {m m':Mem} {n c:Nat} {q:Option Addr} {l:List α} {cs mk:List Value} {v9:Value} {o:Obj} (hn:l.length=n)
    (hE:Enc (R m') cs (l.take n)) (hMo:m.More w m') (hFr:∀ b,(Value.slice q n c).ownBlock=some b→m' b=none) (hB:Below w.heap.size w wr) (hrow:wr.ownsRow w.heap.size E size (.slice q n c) n cs) (hH:Has wr m')
    (hown:w9.ownsRow w.heap.size E size v9 (n+1) (cs++mk)) (hg:(wr.alloc o).grownBy w9 (Value.slice q n c).ownBlock) (hat:v9.ownBlock=(Value.slice q n c).ownBlock ∨ v9.ownBlock=some (wr.heap.size+1)) :
    ∃ g9 c9,v9=.slice (some ⟨g9,0,none⟩) (n+1) c9∧n+1≤c9∧c9≤maxLen∧Hid (Has w9 m'∧m' g9=none∧w.heap.size≤g9∧Enc (R m') cs l∧∃ cur,w9.heap[g9]?=some (.cells cur E (0,0))∧∀ (j:Nat) (u:Value),cs[j]?=some u→cur[j]?=some u)∧Hid (Below w.heap.size w w9):=by
  have h1:=hB.size
  have hC:Chg (fun b=>(Value.slice q n c).ownBlock=some b) wr w9:=((Chg.refl _ wr).alloc _).then (grown_chg hg (fun b hb=>.inl hb))
  obtain ⟨hlen,⟨_,h0⟩ | ⟨g9,c9,cur,rfl,hbg,hh,hle,hmx,hcs,htk⟩⟩:=hown
  · omega
  refine ⟨g9,c9,rfl,hle,hmx,Lib.hid ⟨hH.chg hC hFr,?_,hbg,by rwa [List.take_of_length_le (by omega)] at hE,cur,hh,fun j u hu=>?_⟩,Lib.hid (grown_below (hB.alloc h1 _) (by simp;omega) hg (fun j hj=>(hrow.lt j hj).1))⟩
  · rcases hat with hat | hat
    · exact hFr g9 hat.symm
    · have hat2:g9=wr.heap.size+1:=by injection hat
      exact hH.lt (by omega)
  · have h2:(cs++mk)[j]?=some u:=by rw [List.getElem?_append_left (List.getElem?_eq_some_iff.1 hu).1];exact hu
    rw [← htk,List.getElem?_take] at h2
    split at h2
    · simpa using h2
    · cases h2
set_option maxRecDepth 100000 in
set_option maxHeartbeats 8000000 in
theorem lentSource_fn {w:World} {v:Value} {s:SoZ} (h:SrcR false (wC w) v s) {m:Mem} (hm:Has w m) :
    Calls Tryz.prog 9 #[v] w fun e w'=>∃ p1 d1 p2 d2 p3 d3 p4 d4 g5 d5 m' cs,e=.returned (.agg #[.slice p1 s.principals.length d1,.slice p2 s.globals.length d2,.slice p3 s.arrays.length d3,.slice p4 s.channels.length d4,.slice (some ⟨g5,0,none⟩) s.funcs.length d5])∧Below w.heap.size w w'∧Has w' m'∧m' g5=none∧w.heap.size≤g5∧s.funcs.length+1≤d5∧d5≤maxLen ∧
      StrR true (mC m') (.slice p1 s.principals.length d1) s.principals∧DesR true (mC m') (.slice p2 s.globals.length d2) s.globals∧ArsR true (mC m') (.slice p3 s.arrays.length d3) s.arrays∧DesR true (mC m') (.slice p4 s.channels.length d4) s.channels∧Enc (FnR1 true (mC m')) cs s.funcs∧∃ cur,w'.heap[g5]?=some (.cells cur 43 (0,0))∧∀ (j:Nat) (u:Value),cs[j]?=some u→cur[j]?=some u:=by
  obtain ⟨v1,v2,v3,v4,v5,rfl,h1,h2,h3,h4,h5⟩:=h
  obtain ⟨q1,c1,rfl⟩:=SlX.shape h1
  obtain ⟨q2,c2,rfl⟩:=SlX.shape h2
  obtain ⟨q3,c3,rfl⟩:=SlX.shape h3
  obtain ⟨q4,c4,rfl⟩:=SlX.shape h4
  obtain ⟨q5,c5,rfl⟩:=SlX.shape h5
  have hl5:=slx_len h5
  obtain ⟨n1,hn1⟩:∃ n,s.principals.length=n:=⟨_,rfl⟩
  obtain ⟨n2,hn2⟩:∃ n,s.globals.length=n:=⟨_,rfl⟩
  obtain ⟨n3,hn3⟩:∃ n,s.arrays.length=n:=⟨_,rfl⟩
  obtain ⟨n4,hn4⟩:∃ n,s.channels.length=n:=⟨_,rfl⟩
  obtain ⟨n5,hn5⟩:∃ n,s.funcs.length=n:=⟨_,rfl⟩
  rw [hn1] at h1 ⊢
  rw [hn2] at h2 ⊢
  rw [hn3] at h3 ⊢
  rw [hn4] at h4 ⊢
  rw [hn5] at h5 hl5 ⊢
  obtain ⟨cs3,l3,hq3,hmc3,hcl3,hnw3,hon3,hmx3,hby3,he3⟩:=h3.take
  have H1:=Lib.hid (fun w' (hb:Below w.heap.size w w')=>show StrR false (wC w') (.slice q1 n1 c1) s.principals from StrR.le h1 (below_cle hb))
  have H2:=Lib.hid (fun w' (hb:Below w.heap.size w w')=>show DesR false (wC w') (.slice q2 n2 c2) s.globals from h2.le (below_cle hb))
  have H3:=Lib.hid (fun w' (hb:Below w.heap.size w w')=>show ∀ ad,q3=some ad→∀ j u,cs3[j]?=some u→w'.cell? (ad.add j)=some u from fun ad e j u hu=>below_cle hb _ _ (hnw3 ad e j u hu))
  have H4:=Lib.hid (fun w' (hb:Below w.heap.size w w')=>show DesR false (wC w') (.slice q4 n4 c4) s.channels from h4.le (below_cle hb))
  have HA5:=Lib.hid h5.cells
  have HN1:=Lib.hid hn1
  have HN2:=Lib.hid hn2
  have HN4:=Lib.hid hn4
  have HN5:=Lib.hid hn5
  have HE3:=Lib.hid he3
  have HL3:=Lib.hid l3
  have HM:=Lib.hid hm
  clear h1 h2 h3 h4 h5 hn1 hn2 hn3 hn4 hn5 he3 hnw3 l3 hm
  obtain ⟨i3,hi3,hz3,hs3,hbb3⟩:=infoAz
  obtain ⟨i5,hi5,hz5,hs5,hbb5⟩:=infoFz
  go_enter Tryz.func9,Tryz.ntmps9
  go_wp2_with fail
  obtain ⟨wA,hA⟩:∃ wA,(w.alloc (.cells #[.slice q1 n1 c1,.slice q2 n2 c2,.slice q3 n3 c3,.slice q4 n4 c4,.slice q5 n5 c5] 27)).alloc (.cells #[.slice none 0 0,.slice none 0 0,.slice none 0 0,.slice none 0 0,.slice none 0 0] 27)=wA:=⟨_,rfl⟩
  have hbA:Below w.heap.size w wA:=by rw [← hA];exact ((Below.refl _ w).alloc (Nat.le_refl _) _).alloc (by simp) _
  have hszA:wA.heap.size=w.heap.size+1+1:=by rw [← hA];simp
  have hX1:wA.heap[w.heap.size+1]?=some (.cells #[.slice none 0 0,.slice none 0 0,.slice none 0 0,.slice none 0 0,.slice none 0 0] 27 (0,0)):=by
    have h9:=World.alloc_heap_new (w.alloc (.cells #[.slice q1 n1 c1,.slice q2 n2 c2,.slice q3 n3 c3,.slice q4 n4 c4,.slice q5 n5 c5] 27)) (.cells #[.slice none 0 0,.slice none 0 0,.slice none 0 0,.slice none 0 0,.slice none 0 0] 27)
    rwa [show (w.alloc (.cells #[.slice q1 n1 c1,.slice q2 n2 c2,.slice q3 n3 c3,.slice q4 n4 c4,.slice q5 n5 c5] 27)).heap.size=w.heap.size+1 by simp,hA] at h9
  have hX0:wA.heap[w.heap.size]?=some (.cells #[.slice q1 n1 c1,.slice q2 n2 c2,.slice q3 n3 c3,.slice q4 n4 c4,.slice q5 n5 c5] 27 (0,0)):=by rw [← hA];exact heap_new _ _ (World.alloc_heap_new _ _)
  rw [hA]
  obtain ⟨W1,hW1⟩:∃ W1,wA.alloc (.cells #[.slice none 0 0,.slice none 0 0,.slice none 0 0,.slice none 0 0,.slice none 0 0] 27)=W1:=⟨_,rfl⟩
  have hK:Kp wA m (w.heap.size+1+1) #[.slice none 0 0,.slice none 0 0,.slice none 0 0,.slice none 0 0,.slice none 0 0] 27 W1 m:=by rw [← hW1,← hszA];exact Kp.start (has_grown HM.out hbA) _ _
  rw [hW1]
  clear hW1 hA
  have HBA:=Lib.hid (show ∀ w',Below wA.heap.size wA w'→Below w.heap.size w w' from fun w' hb=>hbA.trans (hb.mono hbA.size))
  have HS:=Lib.hid (fun w' (hb:Below wA.heap.size wA w')=>show w'.cell? ⟨w.heap.size,0,none⟩=some (.slice q1 n1 c1)∧w'.cell? ⟨w.heap.size,1,none⟩=some (.slice q2 n2 c2)∧w'.cell? ⟨w.heap.size,2,none⟩=some (.slice q3 n3 c3)∧w'.cell? ⟨w.heap.size,3,none⟩=some (.slice q4 n4 c4)∧w'.cell? ⟨w.heap.size,4,none⟩=some (.slice q5 n5 c5) from by
    have hx:w'.heap[w.heap.size]?=_:=(hb.block _ (by omega)).trans hX0
    exact ⟨cell_of hx rfl,cell_of hx rfl,cell_of hx rfl,cell_of hx rfl,cell_of hx rfl⟩)
  have HX1:=Lib.hid (fun w' (hb:Below wA.heap.size wA w')=>(hb.block (w.heap.size+1) (by omega)).trans hX1)
  have HSZ:=Lib.hid hszA
  clear hX0 hX1 hszA
  go_at_call 19
  refine (lentStrings_any (H1.out _ (HBA.out _ hK.below)) hK.has).mono ?_
  rintro e w2 ⟨x1,m1,rfl,hb2,hmo2,hH2,hS1⟩
  obtain ⟨p1,d1,rfl⟩:=SlX.shape hS1
  rw [HN1.out] at hS1 ⊢
  have HS1:=Lib.hid hS1
  have hK1:=hK.step hb2 hmo2 hH2
  clear hK hS1 hb2 hmo2 hH2
  have HK1:=Lib.hid (hK1.set 0 (.slice p1 n1 d1))
  have f0:=hK1.free 0
  have g0:=hK1.cell (i:=0) rfl
  have s1:=(HS.out _ hK1.below).2.1
  have hle1:=hK1.below.size
  clear hK1
  go_wp2_with fail
  go_at_call 20
  refine (lentDecls_any (H2.out _ (HBA.out _ HK1.out.below)) HK1.out.has).mono ?_
  rintro e w3 ⟨x2,m2,rfl,hb3,hmo3,hH3,hS2⟩
  obtain ⟨p2,d2,rfl⟩:=SlX.shape hS2
  rw [HN2.out] at hS2 ⊢
  have HS2:=Lib.hid hS2
  have hK2:=HK1.out.step hb3 hmo3 hH3
  have HLE2:=Lib.hid hmo3.le
  clear hS2 hb3 hmo3 hH3 f0 g0 s1 hle1 HK1
  have HK2:=Lib.hid (hK2.set 1 (.slice p2 n2 d2))
  have f1:=hK2.free 1
  have g1:=hK2.cell (i:=1) rfl
  have s3:=(HS.out _ hK2.below).2.2.2.1
  clear hK2
  go_wp2_with fail
  go_at_call 20
  refine (lentDecls_any (H4.out _ (HBA.out _ HK2.out.below)) HK2.out.has).mono ?_
  rintro e w4 ⟨x4,m3,rfl,hb4,hmo4,hH4,hS4⟩
  obtain ⟨p4,d4,rfl⟩:=SlX.shape hS4
  rw [HN4.out] at hS4 ⊢
  have HS4:=Lib.hid hS4
  have hK3:=HK2.out.step hb4 hmo4 hH4
  have HLE3:=Lib.hid hmo4.le
  clear hS4 hb4 hmo4 hH4 f1 g1 s3 HK2
  have HK3:=Lib.hid (hK3.set 3 (.slice p4 n4 d4))
  have f3:=hK3.free 3
  have g3:=hK3.cell (i:=3) rfl
  obtain ⟨u3,hu3⟩:∃ u3,Value.slice q3 n3 c3=u3:=⟨_,rfl⟩
  have HU3:=Lib.hid hu3.symm
  have s2:=(HS.out _ hK3.below).2.2.1
  rw [hu3] at s2
  clear hu3
  clear hK3
  go_wp2_with (at_builtin;refine wpList_append_rd rfl _ _ 24 rfl 39 i3 _ 3 32 und_ars hi3 hz3 hs3 hbb3 rfl (by decide) rfl q3 n3 c3 cs3 HU3.out hq3 hmc3 hcl3 (H3.out _ (HBA.out _ HK3.out.below)) hon3 hmx3 (by omega) ?_)
  intro q' c' w5 hR5 hb5
  clear f3 g3 s2
  obtain ⟨W4,hW4⟩:∃ W4,w4.setCell ⟨w.heap.size+1+1,3,none⟩ (.slice p4 n4 d4)=W4:=⟨_,rfl⟩
  have hWs:w4.heap.size=W4.heap.size:=by rw [← hW4];simp
  rw [hW4] at HK3 hb5
  rw [hWs] at hR5 hb5
  clear hW4 hWs
  have hnew:=row_new w5 (mkA true) 39
  have hone:∀ u ∈ mkA true,u.oneCell'=true:=by intro u hu;simp only [mkA,if_true,List.mem_cons,List.not_mem_nil,or_false] at hu;rcases hu with rfl | rfl | rfl <;> rfl
  have hz5:=hb5.size
  go_wp2_with (at_builtin;refine wpList_append_own_at _ rfl _ _ 24 rfl W4.heap.size 39 i3 _ 3 32 und_ars hi3 hz3 hs3 hbb3 rfl (by decide) _ n3 cs3 rfl (hR5.alloc _) ⟨w5.heap.size,0,none⟩ 1 1 (mkA true) rfl rfl hnew hone (by unfold maxLen;omega) (by omega) (by simp;omega) ?_)
  intro v6 w6 hR6 hg6 _ _
  obtain ⟨p3,d3,rfl⟩:=own_shape hR6
  have hb6:Below W4.heap.size W4 w6:=grown_below (hb5.alloc hz5 _) (by simp;omega) hg6 (fun j hj=>(hR5.lt j hj).1)
  have hcap:n3+1≤d3:=by
    rcases hR6.2 with ⟨_,h0⟩ | ⟨g',cap',cur,h0,_,_,h1,_,_⟩
    · omega
    · injection h0 with _ _ h4
      omega
  obtain ⟨m4,hmo6,hH6,hS3⟩:=lent_done (w:=W4) (bs:=32) (R:=fun _=>(fun c s=>c=arZv s∧s.label<u64B)) (has_grown HK3.out.has hb6) (fun k hk=>HK3.out.has.lt (hR6.lt k hk).1) hR6 HL3.out HE3.out (fun _ _ _ _ _ h=>h) hby3
  have HS3:=Lib.hid (show ArsR true (mC m4) (.slice p3 n3 d3) s.arrays from hS3)
  have hK4:=HK3.out.step hb6 hmo6 hH6
  have HLE4:=Lib.hid hmo6.le
  clear hS3 hb6 hmo6 hH6 hg6 hR6 hR5 hnew hone hz5 hb5 HK3
  have HK4:=Lib.hid (hK4.set 2 (.slice p3 n3 d3))
  have f2:=hK4.free 2
  have g2:=hK4.cell (i:=2) rfl
  have s2:=(HS.out _ hK4.below).2.2.1
  clear hK4
  go_wp2_with fail
  clear f2 g2 s2
  obtain ⟨W5,hW5⟩:∃ W5,w6.setCell ⟨w.heap.size+1+1,2,none⟩ (.slice p3 n3 d3)=W5:=⟨_,rfl⟩
  rw [hW5] at HK4
  try rw [hW5]
  clear hW5
  have HW5:=Lib.hid (show ∀ w',Below W5.heap.size W5 w'→Below wA.heap.size wA w' from fun w' hb=>HK4.out.below.trans (hb.mono HK4.out.below.size))
  go_loopw [5,6] (RwI 43 6 (fun m=>FnR1 true (mC m)) W5 m4 n5 s.funcs) (fun _ i _=>n5 - (intOf i).toNat)
  case atStart=>exact RwI.start HK4.out.has
  case round =>
    obtain ⟨k,qF,cF,cs,mm,hk,rfl,rfl,HF,HE,HM1,HMo,HFr,HB⟩:=hrel
    generalize wr=V at *
    have HBW:=Lib.hid (HW5.out _ HB.out)
    have s4:=(HS.out _ HBW.out).2.2.2.2
    by_cases hlt:k<n5
    · have hkl:k<s.funcs.length:=by rw [HN5.out];exact hlt
      obtain ⟨g,o,qp,cp,qr,cr,qv,cv,qb,cb,rfl,a0,a1,a2,a3,a4,a5,hfl⟩:=HA5.out k hkl
      have hle:=below_cle (HBA.out _ HBW.out)
      have x0:=hle _ _ a0
      have x1:=hle _ _ a1
      have x2:=hle _ _ a2
      have x3:=hle _ _ a3
      have x4:=hle _ _ a4
      have x5:=hle _ _ a5
      unfold wC at x0 x1 x2 x3 x4 x5
      clear a0 a1 a2 a3 a4 a5 hle
      have HBV:=Lib.hid (show ∀ w',Below V.heap.size V w'→Below w.heap.size w w' from fun w' hb=>HBA.out _ (HBW.out.trans (hb.mono HBW.out.size)))
      obtain ⟨hlv,hp,hr,hv,hbd⟩:=hfl
      obtain ⟨d,hd⟩:∃ d,s.funcs[k]=d:=⟨_,rfl⟩
      rw [hd] at x0 x1 x2 x3 x4 x5 hlv hp hr hv hbd
      have HDD:=Lib.hid hd
      clear hd
      obtain ⟨np,hnp⟩:∃ n,d.params.length=n:=⟨_,rfl⟩
      obtain ⟨nr,hnr⟩:∃ n,d.results.length=n:=⟨_,rfl⟩
      obtain ⟨nv,hnv⟩:∃ n,d.vars.length=n:=⟨_,rfl⟩
      obtain ⟨nb,hnb⟩:∃ n,d.body.length=n:=⟨_,rfl⟩
      rw [hnp] at x2 hp
      rw [hnr] at x3 hr
      rw [hnv] at x4 hv
      rw [hnb] at x5 hbd
      obtain ⟨nm,hnm⟩:∃ n,d.name=n:=⟨_,rfl⟩
      obtain ⟨lv,hlvl⟩:∃ n,d.level=n:=⟨_,rfl⟩
      rw [hnm] at x0
      rw [hlvl] at x1
      have HP:=Lib.hid hp
      have HR:=Lib.hid hr
      have HV:=Lib.hid hv
      have HBD:=Lib.hid hbd
      have HNP:=Lib.hid hnp
      have HNR:=Lib.hid hnr
      have HNV:=Lib.hid hnv
      have HNB:=Lib.hid hnb
      have HNM:=Lib.hid hnm
      have HLV:=Lib.hid hlvl
      have HLU:=Lib.hid hlv
      clear hp hr hv hbd hnp hnr hnv hnb hnm hlvl hlv
      have hglt:g<V.heap.size:=World.block_lt_of_cell? _ _ x0
      have hki:(k:Int)<(n5:Int):=by omega
      go_wp2_with fail
      obtain ⟨W6,hW6⟩:∃ W6,V.alloc (.cells #[.string nm,.int .u64 (lv:Nat),.slice qp np cp,.slice qr nr cr,.slice qv nv cv,.slice qb nb cb] 43)=W6:=⟨_,rfl⟩
      have HP0:=Lib.hid (show Kp V mm V.heap.size #[.string nm,.int .u64 (lv:Nat),.slice qp np cp,.slice qr nr cr,.slice qv nv cv,.slice qb nb cb] 43 W6 mm by rw [← hW6];exact Kp.start HM1.out _ _)
      rw [hW6]
      clear hW6 x0 x1 x2 x3 x4 x5 hglt s4
      go_at_call 20
      refine (lentDecls_any (HP.out.le (below_cle (HBV.out _ HP0.out.below))) HP0.out.has).mono ?_
      rintro e y1 ⟨x,e1,rfl,hb,hmo,hH,hS⟩
      obtain ⟨pp,dp,rfl⟩:=SlX.shape hS
      rw [HNP.out] at hS ⊢
      have HR1:=Lib.hid hS
      have hP:=HP0.out.step hb hmo hH
      have HLF1:=Lib.hid hmo.le
      clear hS hb hmo hH
      have HP1:=Lib.hid (hP.set 2 (.slice pp np dp))
      have ff:=hP.free 2
      have gg:=hP.cell (i:=2) rfl
      have jj:=hP.cell (i:=3) rfl
      have hle:=hP.below.size
      clear hP
      go_wp2_with fail
      clear ff gg hle jj
      go_at_call 21
      refine (lentLabels_any (HR.out.le (below_cle (HBV.out _ HP1.out.below))) HP1.out.has).mono ?_
      rintro e y2 ⟨x,e2,rfl,hb,hmo,hH,hS⟩
      obtain ⟨pr,dr,rfl⟩:=SlX.shape hS
      rw [HNR.out] at hS ⊢
      have HR2:=Lib.hid hS
      have hP:=HP1.out.step hb hmo hH
      have HLF2:=Lib.hid hmo.le
      clear hS hb hmo hH
      have HP2:=Lib.hid (hP.set 3 (.slice pr nr dr))
      have ff:=hP.free 3
      have gg:=hP.cell (i:=3) rfl
      have jj:=hP.cell (i:=4) rfl
      have hle:=hP.below.size
      clear hP
      go_wp2_with fail
      clear ff gg hle jj
      go_at_call 20
      refine (lentDecls_any (HV.out.le (below_cle (HBV.out _ HP2.out.below))) HP2.out.has).mono ?_
      rintro e y3 ⟨x,e3,rfl,hb,hmo,hH,hS⟩
      obtain ⟨pv,dv,rfl⟩:=SlX.shape hS
      rw [HNV.out] at hS ⊢
      have HR3:=Lib.hid hS
      have hP:=HP2.out.step hb hmo hH
      have HLF3:=Lib.hid hmo.le
      clear hS hb hmo hH
      have HP3:=Lib.hid (hP.set 4 (.slice pv nv dv))
      have ff:=hP.free 4
      have gg:=hP.cell (i:=4) rfl
      have jj:=hP.cell (i:=5) rfl
      have hle:=hP.below.size
      clear hP
      go_wp2_with fail
      clear ff gg hle jj
      go_at_call 22
      refine (lentStmts_any (HBD.out.le (below_cle (HBV.out _ HP3.out.below))) HP3.out.has).mono ?_
      rintro e y4 ⟨x,e4,rfl,⟨gb,db,rfl⟩,hb,hmo,hH,hS⟩
      rw [HNB.out] at hS ⊢
      have HR4:=Lib.hid hS
      have hP:=HP3.out.step hb hmo hH
      have HLF4:=Lib.hid hmo.le
      clear hS hb hmo hH
      have HP4:=Lib.hid (hP.set 5 (.slice (some ⟨gb,0,none⟩) nb db))
      have ff:=hP.free 5
      have gg:=hP.cell (i:=5) rfl
      have hle:=hP.below.size
      clear hP
      obtain ⟨W7,hW7⟩:∃ W7,y4.setCell ⟨V.heap.size,5,none⟩ (.slice (some ⟨gb,0,none⟩) nb db)=W7:=⟨_,rfl⟩
      rw [hW7] at HP4
      have t0:W7.cell? ⟨V.heap.size,0,none⟩=some (.string nm):=HP4.out.cell rfl
      have t1:W7.cell? ⟨V.heap.size,1,none⟩=some (.int .u64 (lv:Nat)):=HP4.out.cell rfl
      have t2:W7.cell? ⟨V.heap.size,2,none⟩=some (.slice pp np dp):=HP4.out.cell rfl
      have t3:W7.cell? ⟨V.heap.size,3,none⟩=some (.slice pr nr dr):=HP4.out.cell rfl
      have t4:W7.cell? ⟨V.heap.size,4,none⟩=some (.slice pv nv dv):=HP4.out.cell rfl
      have t5:W7.cell? ⟨V.heap.size,5,none⟩=some (.slice (some ⟨gb,0,none⟩) nb db):=HP4.out.cell rfl
      have hrow:=own_chg HF.out (Below.chg HP4.out.below (Nat.le_refl _) (fun _=>False)) (fun _ _ e=>e)
      have hnew:=row_new W7 [.string nm,.int .u64 (lv:Nat),.slice pp np dp,.slice pr nr dr,.slice pv nv dv,.slice (some ⟨gb,0,none⟩) nb db] 43
      have hone:∀ u ∈ [Value.string nm,.int .u64 (lv:Nat),.slice pp np dp,.slice pr nr dr,.slice pv nv dv,.slice (some ⟨gb,0,none⟩) nb db],u.oneCell'=true:=by
        intro u hu
        simp only [List.mem_cons,List.not_mem_nil,or_false] at hu
        rcases hu with rfl | rfl | rfl | rfl | rfl | rfl <;> rfl
      have hs7:=HP4.out.below.size
      have hs6:=HB.out.size
      go_wp2_with (at_builtin;refine wpList_append_own_at _ rfl _ _ 25 rfl W5.heap.size 43 i5 _ 6 120 und_fns hi5 hz5 hs5 hbb5 rfl (by decide) _ _ _ rfl (hrow.alloc _) ⟨W7.heap.size,0,none⟩ 1 1 [.string nm,.int .u64 (lv:Nat),.slice pp np dp,.slice pr nr dr,.slice pv nv dv,.slice (some ⟨gb,0,none⟩) nb db] rfl rfl hnew hone (by unfold maxLen;omega) (by omega) (by simp;omega) ?_)
      intro v10 w10 hR10 hg10 _ hat
      obtain ⟨q10,c10,rfl,r1,r2,r3,r4,r5,r6⟩:=rw_step hkl HE.out HMo.out HFr.out HB.out HF.out HP4.out.below HP4.out.more HP4.out.has fnR_mono (by
        rw [HDD.out]
        refine ⟨_,_,_,_,by rw [HNM.out,HLV.out],HLU.out,HR1.out.le (mle_cle (HLF2.out.trans (HLF3.out.trans HLF4.out))),HR2.out.le (mle_cle (HLF3.out.trans HLF4.out)),HR3.out.le (mle_cle HLF4.out),HR4.out⟩) hR10 hg10 (by simpa using hat)
      clear hR10 hg10 hat hrow t0 t1 t2 t3 t4 t5 hnew hone hs7 hs6
      go_wp2_with fail
      exact ⟨⟨k+1,q10,c10,_,e4,by omega,by go_num,rfl,r1,r2,r3,r4,r5,r6⟩,by simp [intOf];omega⟩
    · obtain rfl:k=n5:=by omega
      have hrow:=HF.out
      have hnew:=row_new V (mkF true) 43
      have hone:∀ u ∈ mkF true,u.oneCell'=true:=by intro u hu;simp only [mkF,if_true,List.mem_cons,List.not_mem_nil,or_false] at hu;rcases hu with rfl | rfl | rfl | rfl | rfl | rfl <;> rfl
      have hws:=HB.out.size
      go_wp2_with (at_builtin;refine wpList_append_own_at _ rfl _ _ 25 rfl W5.heap.size 43 i5 _ 6 120 und_fns hi5 hz5 hs5 hbb5 rfl (by decide) _ _ _ rfl (hrow.alloc _) ⟨V.heap.size,0,none⟩ 1 1 (mkF true) rfl rfl hnew hone (by unfold maxLen;omega) (by omega) (by simp;omega) ?_)
      intro v2 w8 hR2 hg2 _ hat
      obtain ⟨g5,d5,rfl,hcap5,hmx5,HD,HB2⟩:=rw_apart (m:=m4) (R:=fun m=>FnR1 true (mC m)) HN5.out HE.out HMo.out HFr.out HB.out hrow HM1.out hR2 hg2 (by simpa using hat)
      have HM4:=Lib.hid HMo.out
      clear hg2 hR2 hrow hat s4 hnew hone hws
      obtain ⟨hH,hm9,hg9,hen,cur5,hcur,hcc⟩:=HD.out
      have hK5:=HK4.out.step HB2.out HM4.out hH
      have HLE5:=Lib.hid HM4.out.le
      have HS5:=Lib.hid (And.intro hm9 (And.intro hg9 (And.intro hen (And.intro hcur hcc))))
      clear hH hm9 hg9 hen hcur hcc HD
      have HK5:=Lib.hid (hK5.set 4 (.slice (some ⟨g5,0,none⟩) k d5))
      have f4:=hK5.free 4
      have g4:=hK5.cell (i:=4) rfl
      have s4:=(HS.out _ hK5.below).2.2.2.2
      have j0:=hK5.cell (i:=0) rfl
      have j1:=hK5.cell (i:=1) rfl
      have j2:=hK5.cell (i:=2) rfl
      have j3:=hK5.cell (i:=3) rfl
      have hx1:=HX1.out _ hK5.below
      have k0:=cell_of (j:=0) hx1 rfl
      have k1:=cell_of (j:=1) hx1 rfl
      have k2:=cell_of (j:=2) hx1 rfl
      have k3:=cell_of (j:=3) hx1 rfl
      have k4:=cell_of (j:=4) hx1 rfl
      have l0:=free_of (j:=0) hx1
      have l1:=free_of (j:=1) hx1
      have l2:=free_of (j:=2) hx1
      have l3:=free_of (j:=3) hx1
      have l4:=free_of (j:=4) hx1
      clear hK5
      go_wp2
      (try simp only [Exit.inBlock,Exit.then])
      obtain ⟨d9,u1,u2⟩:=undSo
      have hx2:=heap_other (b:=w.heap.size+1+1) (j:=4) (v:=.slice (some ⟨g5,0,none⟩) k d5) hx1 (by omega)
      have hx3:=heap_set (heap_set (heap_set (heap_set (heap_set hx2 0 (.slice p1 n1 d1)) 1 (.slice p2 n2 d2)) 2 (.slice p3 n3 d3)) 3 (.slice p4 n4 d4)) 4 (.slice (some ⟨g5,0,none⟩) k d5)
      refine bodyPost_ret (results_cell_row rfl _ _ (w.heap.size+1) 27 _ (0,0) d9 rfl hx3 u1 (by cases d9 <;> first | rfl | cases u2) sizeSo) rfl ?_
      have hg5:=HS5.out.2.1
      have hsz5:w.heap.size+1+1<W5.heap.size:=heap_lt HK4.out.lies
      have h0:mm (w.heap.size+1)=none:=HK5.out.more.new _ (HM.out.lt (by omega)) (by rw [HSZ.out];omega)
      have st:∀ (W:World) i v,Has W mm→Has (W.setCell ⟨w.heap.size+1,i,none⟩ v) mm:=fun W i v h=>h.chg ((Chg.refl (fun k=>k=w.heap.size+1) W).setCell (.inl rfl) v) (fun k e=>by rw [e];exact h0)
      have hq:w.heap.size≤w.heap.size+1:=Nat.le_succ _
      have kp:∀ (W:World) (b i:Nat) v o,W.heap[g5]?=some o→b ≠ g5→(W.setCell ⟨b,i,none⟩ v).heap[g5]?=some o:=fun W b i v o h hb=>(Below.heap_setCell _ _ _ _ (Ne.symm hb)).trans h
      have hn1:w.heap.size+1 ≠ g5:=by omega
      have hn2:w.heap.size+1+1 ≠ g5:=by omega
      have hL4:=HLE5.out
      have hL3:=HLE4.out.trans hL4
      have hL2:=HLE3.out.trans hL3
      have hL1:=HLE2.out.trans hL2
      refine ⟨_,_,_,_,_,_,_,_,g5,d5,mm,cs,rfl,?_,st _ 4 _ (st _ 3 _ (st _ 2 _ (st _ 1 _ (st _ 0 _ HK5.out.has)))),HS5.out.1,by omega,hcap5,hmx5,StrR.le HS1.out (mle_cle hL1),HS2.out.le (mle_cle hL2),HS3.out.le (mle_cle hL4),HS4.out.le (mle_cle hL3),HS5.out.2.2.1,cur5,?_,HS5.out.2.2.2.2⟩
      · exact (((((HBA.out _ HK5.out.below).setCell hq _).setCell hq _).setCell hq _).setCell hq _).setCell hq _
      · exact kp _ _ _ _ _ (kp _ _ _ _ _ (kp _ _ _ _ _ (kp _ _ _ _ _ (kp _ _ _ _ _ (kp _ _ _ _ _ HS5.out.2.2.2.1 hn2) hn1) hn1) hn1) hn1) hn1
end Go.Proofs.YtlpdjfimefjmcaaGreatDoor
namespace Go.Proofs.YtlpdjfimefjmcaaGreatDoor
open Go
def nmB (c:Nat):Bool:=(decide (97≤c) && decide (c≤122)) || c == 95 || (decide (48≤c) && decide (c≤57))
def dgB (c:Nat):Bool:=decide (48≤c) && decide (c≤57)
def nameZ (s:ByteArray):Bool :=
  !(bl s).isEmpty && decide ((bl s).length≤32) && !((bl s).head?.any dgB) && !decide (bl s ∈ keysL) && (bl s).all nmB
def idxZ (l:List ByteArray) (n:ByteArray):Option Nat:=l.findIdx? fun x=>decide (x=n)
def locZ (s:SoZ) (f:Int) (n:ByteArray):Option Nat :=
  if f<0 then none else
  match s.funcs[f.toNat]? with
  | none=>none
  | some d=>match idxZ (d.params.map DeZ.name) n with
    | some k=>some k
    | none=>(idxZ (d.vars.map DeZ.name) n).map (·+d.params.length)
def fndZ (s:SoZ) (f:Int) (n:ByteArray):Option (Nat × Nat) :=
  match locZ s f n with
  | some k=>some (1,k)
  | none=>match idxZ (s.globals.map DeZ.name) n with
    | some k=>some (2,k)
    | none=>match idxZ (s.arrays.map ArZ.name) n with
      | some k=>some (3,k)
      | none=>match idxZ (s.channels.map DeZ.name) n with
        | some k=>some (4,k)
        | none=>(idxZ (s.funcs.map FnZ.name) n).map fun k=>(5,k)
def goodT (t:TmZ):Bool :=
  if t.kind=1 then decide (0≤t.value) && t.name.toList.isEmpty
  else if t.kind=2 ∨ t.kind=3 then decide (t.value=0) && nameZ t.name
  else if t.kind=4 then decide (15≤t.value∧t.value≤17) && t.name.toList.isEmpty
  else if t.kind=5 then decide (1≤t.value∧t.value≤14) && t.name.toList.isEmpty
  else false
def tkT (t:TmZ):Nat:=if t.kind=5 then 2 else if t.kind=3 ∨ t.kind=4 then 1 else 0
def whF:List TmZ→Nat→Bool
  | [],n=>n == 1
  | t :: l,n=>goodT t && decide (tkT t≤n) && whF l (n - tkT t+1)
def formZ (k:Int):Option (Bool × Option Nat × Option Nat) :=
  if k=1 then some (false,some 1,some 1) else if k=2 then some (true,some 0,some 2) else if k=3 then some (true,some 0,some 1)
  else if k=4 then some (true,none,none) else if k=5 ∨ k=7 then some (false,some 0,some 1) else if k=6 ∨ k=8 then some (false,some 0,some 0)
  else if k=9 then some (false,some 0,none) else none
def isC (n:Nat) (w:Option Nat):Bool:=match w with
  | none=>true
  | some m=>n == m
def fitZ (x:StZ):Bool:=match formZ x.kind with
  | none=>false
  | some (nd,tg,ex)=>(if nd then nameZ x.name else x.name.toList.isEmpty) && isC x.targets.length tg && isC x.exprs.length ex && x.targets.all nameZ && x.exprs.all fun e=>whF e 0
def fst0:List Nat→Nat
  | []=>0
  | e :: l=>if e=0 then fst0 l else e
def grpF (most:Nat) (e:Nat→Nat) (base:Nat):Nat→Nat→Option (Nat × Nat)
  | 0,_=>none
  | n+1,k=>if k=most then some (base+k,74) else if e k=0 then grpF most e base n (k+1) else some (base+k,e k)
def unl (b:Bool) (e:Nat):Nat:=if b then 0 else e
def lblE (s:SoZ) (l:Nat):Nat:=unl (l >>> s.principals.length == 0) 10
def newE (n:ByteArray) (taken:Bool):Nat:=if nameZ n then unl (!taken) 70 else 1
def decE (s:SoZ) (n:ByteArray) (here:Nat × Nat):Nat:=newE n (fndZ s (-1) n != some here)
def prE (s:SoZ) (k:Nat):Nat:=match s.principals[k]? with
  | some n=>newE n (idxZ s.principals n != some k)
  | none=>0
def glE (s:SoZ) (kd:Nat) (l:List DeZ) (k:Nat):Nat:=match l[k]? with
  | some d=>fst0 [decE s d.name (kd,k),lblE s d.label]
  | none=>0
def arE (s:SoZ) (k:Nat):Nat:=match s.arrays[k]? with
  | some d=>fst0 [decE s d.name (3,k),unl (decide (1≤d.len∧d.len≤256)) 1,lblE s d.label]
  | none=>0
def fuE (s:SoZ) (k:Nat):Nat:=match s.funcs[k]? with
  | some d=>decE s d.name (5,k)
  | none=>0
def orO {α:Type} (a b:Option α):Option α:=match a with
  | some x=>some x
  | none=>b
def declsZE (s:SoZ):Option (Nat × Nat) :=
  let n1:=s.principals.length
  let n2:=n1+s.globals.length
  let n3:=n2+s.arrays.length
  let n4:=n3+s.channels.length
  orO (grpF 64 (prE s) 0 n1 0) (orO (grpF 32 (glE s 2 s.globals) n1 s.globals.length 0) (orO (grpF 16 (arE s) n2 s.arrays.length 0) (orO (grpF 16 (glE s 4 s.channels) n3 s.channels.length 0) (grpF 32 (fuE s) n4 s.funcs.length 0))))
def locE (s:SoZ) (f:Nat):List DeZ→Nat→Nat
  | [],_=>0
  | d :: l,k=>fst0 [newE d.name ((fndZ s (-1) d.name).isSome || locZ s f d.name != some k),lblE s d.label,locE s f l (k+1)]
def deepZ:List StZ→Int→Int→Int
  | [],_,m=>m
  | x :: l,d,m=>if x.kind=5 ∨ x.kind=7 then deepZ l (d+1) (max m (d+1)) else if x.kind=8 then deepZ l (d - 1) m else deepZ l d m
def onceZ (b:List StZ):Bool:=match b.findIdx? fun x=>x.kind == 9 with
  | some k=>k+1 == b.length
  | none=>false
def usesT (l:List TmZ):List (ByteArray × Nat):=l.flatMap fun t=>if t.kind=2 then [(t.name,2)] else if t.kind=3 then [(t.name,3)] else []
def usesZ (x:StZ):List (ByteArray × Nat) :=
  x.targets.map (fun n=>(n,2))++((if x.kind=2 then [(x.name,3)] else if x.kind=3 then [(x.name,4)] else if x.kind=4 then [(x.name,5)] else [])++x.exprs.flatMap usesT)
def useE (s:SoZ) (f:Nat) (u:ByteArray × Nat):Nat:=match fndZ s f u.1 with
  | none=>71
  | some (k,_)=>unl (k == u.2 || (u.2 == 2 && k == 1)) 72
def usesE (s:SoZ) (f:Nat) (x:StZ):Nat:=fst0 ((usesZ x).map (useE s f))
def cntE (s:SoZ) (f:Nat) (x:StZ):Nat :=
  if x.kind=4 then
    match s.funcs[((fndZ s f x.name).getD (0,0)).2]? with
    | some d=>unl (x.exprs.length == d.params.length && (x.targets.length == 0 || x.targets.length == d.results.length)) 73
    | none=>0
  else if x.kind=9 then
    match s.funcs[f]? with
    | some d=>unl (x.exprs.length == d.results.length) 73
    | none=>0
  else 0
def stE (s:SoZ) (f:Nat) (x:StZ):Nat:=fst0 [unl (fitZ x) 50,unl (decide (x.exprs.length≤8) && x.exprs.all fun l=>decide (l.length≤48)) 74,usesE s f x,cntE s f x]
def bodyF (s:SoZ) (f:Nat):List StZ→Nat→Option (Int × Nat)
  | [],_=>none
  | x :: l,i=>if stE s f x=0 then bodyF s f l (i+1) else some (i,stE s f x)
def lbsE (s:SoZ):List Nat→Nat
  | []=>0
  | l :: r=>fst0 [lblE s l,lbsE s r]
section
variable (nest:List Int→Bool)
def fnE (s:SoZ) (f:Nat) (d:FnZ):Option (Int × Nat) :=
  let e:=fst0 [unl (decide (d.params.length≤8) && decide (d.results.length≤4) && decide (d.vars.length≤32) && decide (d.body.length≤256)) 74,lblE s d.level,locE s f (d.params++d.vars) 0,lbsE s d.results,unl (nest (d.body.map StZ.kind) && decide (deepZ d.body 0 0≤12) && onceZ d.body) 50]
  if e=0 then bodyF s f d.body 0 else some (-1,e)
def fnsF (s:SoZ):List FnZ→Nat→Option (Nat × Int × Nat)
  | [],_=>none
  | d :: l,f=>match fnE nest s f d with
    | some (a,e)=>some (f,a,e)
    | none=>fnsF s l (f+1)
def chkZ (s:SoZ):Int × Int × Int:=match declsZE s with
  | some (a,e)=>(e,-1,a)
  | none=>match fnsF nest s s.funcs 0 with
    | some (f,a,e)=>(e,f,a)
    | none=>(0,0,0)
end
end Go.Proofs.YtlpdjfimefjmcaaGreatDoor
