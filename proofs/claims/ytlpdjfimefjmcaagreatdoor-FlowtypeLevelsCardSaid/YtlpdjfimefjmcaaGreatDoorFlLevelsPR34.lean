/- The kit's lent statements. One block that is written step by step, beside what is known; a row that is taken over whole. -/
import Derived.Test.YtlpdjfimefjmcaaGreatDoorFlLevelsPR16
import Derived.RangeFuncRecord
import Derived.Laws.Rows
namespace Go.Proofs.YtlpdjfimefjmcaaGreatDoor
open Go Go.RowKit Go.Proofs.Mm
theorem SlX.shape {α:Type} {mk:List Value} {bs:Nat} {C:Cl} {R:List Value→α→Prop} {v:Value} {l:List α} (h:SlX mk bs C R v l):∃ q c,v=.slice q l.length c:=let ⟨q,c,_,e,_⟩:=h;⟨q,c,e⟩
def RwI {α:Type} (E:TypeId) (size:Nat) (R:Mem→List Value→α→Prop) (w:World) (m:Mem) (n:Nat) (l:List α) (vF iV:Value) (wr:World):Prop :=
  ∃ k q c cs m',k≤n∧iV=.int .i64 (k:Nat)∧vF=.slice q k c∧Hid (wr.ownsRow w.heap.size E size (.slice q k c) k cs)∧Hid (Enc (R m') cs (l.take k))∧Hid (Has wr m')∧Hid (m.More w m')∧Hid (∀ b,(Value.slice q k c).ownBlock=some b→m' b=none)∧Hid (Below w.heap.size w wr)
theorem RwI.start {α:Type} {E:TypeId} {size:Nat} {R:Mem→List Value→α→Prop} {w:World} {m:Mem} {n:Nat} {l:List α} (h:Has w m):RwI E size R w m n l (.slice none 0 0) (.int .i64 0) w :=
  ⟨0,none,0,[],m,Nat.zero_le _,rfl,rfl,Lib.hid (World.ownsRow_nil _ _ _ _),Lib.hid Enc.nil,Lib.hid h,Lib.hid (Mem.More.refl _ _),Lib.hid (fun b hb=>by cases hb),Lib.hid (Below.refl _ _)⟩
theorem rw_step {α:Type} {E:TypeId} {size:Nat} {R:Mem→List Value→α→Prop} {w wr w' w9:World} {m m' m'':Mem} {k c:Nat} {q:Option Addr} {l:List α} {cs news:List Value} {v9:Value} {o:Obj} (hk:k<l.length)
    (hE:Enc (R m') cs (l.take k)) (hMo:m.More w m') (hFr:∀ b,(Value.slice q k c).ownBlock=some b→m' b=none) (hB:Below w.heap.size w wr) (hrow:wr.ownsRow w.heap.size E size (.slice q k c) k cs)
    (hb:Below wr.heap.size wr w') (hmo:m'.More wr m'') (hH:Has w' m'') (hR:∀ m m':Mem,m.le m'→∀ c x,R m c x→R m' c x) (hx:R m'' news l[k])
    (hown:w9.ownsRow w.heap.size E size v9 (k+1) (cs++news)) (hg:(w'.alloc o).grownBy w9 (Value.slice q k c).ownBlock) (hat:v9.ownBlock=(Value.slice q k c).ownBlock ∨ v9.ownBlock=some (w'.heap.size+1)) :
    ∃ q9 c9,v9=.slice q9 (k+1) c9∧Hid (w9.ownsRow w.heap.size E size (.slice q9 (k+1) c9) (k+1) (cs++news))∧Hid (Enc (R m'') (cs++news) (l.take (k+1)))∧Hid (Has w9 m'')∧Hid (m.More w m'')∧Hid (∀ b,(Value.slice q9 (k+1) c9).ownBlock=some b→m'' b=none)∧Hid (Below w.heap.size w w9):=by
  obtain ⟨q9,c9,rfl⟩:=own_shape hown
  have h1:=hB.size
  have h2:=hb.size
  have hfr:∀ b,(Value.slice q k c).ownBlock=some b→m'' b=none:=fun b e=>hmo.new b (hFr b e) (hrow.lt b e).2
  have hC:Chg (fun b=>(Value.slice q k c).ownBlock=some b) w' w9:=((Chg.refl _ w').alloc _).then (grown_chg hg (fun b hb=>.inl hb))
  refine ⟨q9,c9,rfl,Lib.hid hown,Lib.hid ?_,Lib.hid (hH.chg hC hfr),Lib.hid (hMo.trans hmo h1),Lib.hid (fun b hb=>?_),Lib.hid ?_⟩
  · rw [List.take_succ_eq_append_getElem hk]
    exact (hE.mono (hR _ _ hmo.le)).app (Enc.one hx)
  · rcases hat with hat | hat
    · exact hfr b (hat.symm.trans hb)
    · have:=hat.symm.trans hb
      injection this with this
      exact hH.lt (by omega)
  · exact grown_below ((hB.trans (hb.mono h1)).alloc (by omega) _) (by simp;omega) hg (fun j hj=>(hrow.lt j hj).1)
theorem rw_end {α:Type} {E:TypeId} {size bs:Nat} {R:Mem→List Value→α→Prop} {w wr w9:World} {m m':Mem} {n c:Nat} {q:Option Addr} {l:List α} {cs mk:List Value} {v9:Value} {o:Obj} (hn:l.length=n)
    (hE:Enc (R m') cs (l.take n)) (hMo:m.More w m') (hFr:∀ b,(Value.slice q n c).ownBlock=some b→m' b=none) (hB:Below w.heap.size w wr) (hrow:wr.ownsRow w.heap.size E size (.slice q n c) n cs) (hH:Has wr m') (hR:∀ m m':Mem,m.le m'→∀ c x,R m c x→R m' c x)
    (hown:w9.ownsRow w.heap.size E size v9 (n+1) (cs++mk)) (hg:(wr.alloc o).grownBy w9 (Value.slice q n c).ownBlock) (hat:v9.ownBlock=(Value.slice q n c).ownBlock ∨ v9.ownBlock=some (wr.heap.size+1)) (hb:n * bs≤140737488351232) :
    ∃ q9 c9,v9=.slice q9 (n+1) c9∧n+1≤c9∧(∃ g9,q9=some ⟨g9,0,none⟩)∧Hid (∃ m9,m.More w m9∧Has w9 m9∧SlX mk bs (mC m9) (R m9) (.slice q9 n c9) l)∧Hid (Below w.heap.size w w9):=by
  obtain ⟨q9,c9,rfl⟩:=own_shape hown
  have h1:=hB.size
  have hC:Chg (fun b=>(Value.slice q n c).ownBlock=some b) wr w9:=((Chg.refl _ wr).alloc _).then (grown_chg hg (fun b hb=>.inl hb))
  have hcap:n+1≤c9∧∃ g9,q9=some ⟨g9,0,none⟩:=by
    rcases hown.2 with ⟨_,h0⟩ | ⟨g',cap',cur,h0,_,_,h1,_,_⟩
    · omega
    · injection h0 with h3 _ h4
      exact ⟨by omega,g',h3⟩
  obtain ⟨m9,d1,d2,d3⟩:=lent_done (w:=w) (bs:=bs) (R:=R) (hH.chg hC hFr) (fun b hb=>by
    rcases hat with hat | hat
    · exact hFr b (hat.symm.trans hb)
    · have:=hat.symm.trans hb
      injection this with this
      exact hH.lt (by omega)) hown hn (by rwa [List.take_of_length_le (by omega)] at hE) hR hb
  exact ⟨q9,c9,rfl,hcap.1,hcap.2,Lib.hid ⟨m9,hMo.trans d1 (Nat.le_refl _),d2,d3⟩,Lib.hid (grown_below (hB.alloc h1 _) (by simp;omega) hg (fun j hj=>(hrow.lt j hj).1))⟩
theorem stR_mono:∀ m m':Mem,m.le m'→∀ c x,StR1 true (mC m) c x→StR1 true (mC m') c x:=fun _ _ h _ _ e=>e.le (mle_cle h)
theorem exR_mono:∀ m m':Mem,m.le m'→∀ c x,ExR1 true (mC m) c x→ExR1 true (mC m') c x:=fun _ _ h _ _ e=>e.le (mle_cle h)
set_option maxRecDepth 100000 in
set_option maxHeartbeats 8000000 in
theorem lentStmts_any {w:World} {v:Value} {l:List StZ} (h:BdR false (wC w) v l) {m:Mem} (hm:Has w m) :
    Calls Tryz.prog 22 #[v] w fun e w'=>∃ v' m',e=.returned v'∧(∃ g c,v'=.slice (some ⟨g,0,none⟩) l.length c)∧Below w.heap.size w w'∧m.More w m'∧Has w' m'∧BdR true (mC m') v' l:=by
  have hB:=h
  obtain ⟨q,c,rfl,_,hmax,_,ha,_⟩:=h.at (by decide) st_len
  obtain ⟨n,hn⟩:∃ n,l.length=n:=⟨_,rfl⟩
  have HBD:=Lib.hid (show n * 72≤140737488351232 from by obtain ⟨_,_,_,_,_,_,_,h5,_⟩:=hB;rw [← hn];exact h5)
  have HA:=Lib.hid ha
  have HN:=Lib.hid hn
  have HM:=Lib.hid hm
  rw [hn] at hmax ⊢
  clear h hB ha hn hm
  obtain ⟨i1,hi1,hz1,hs1,hb1⟩:=infoSz
  obtain ⟨i2,hi2,hz2,hs2,hb2⟩:=infoEz
  go_enter Tryz.func22,Tryz.ntmps22
  go_wp2_with fail
  go_loopw [3,4] (RwI 47 4 (fun m=>StR1 true (mC m)) w m n l) (fun _ i _=>n - (intOf i).toNat)
  case atStart=>exact RwI.start HM.out
  case round =>
    obtain ⟨k,qF,cF,cs,m1,hk,rfl,rfl,HF,HE,HM1,HMo,HFr,HB⟩:=hrel
    generalize wr=V at *
    by_cases hlt:k<n
    · have hkl:k<l.length:=by rw [HN.out];exact hlt
      obtain ⟨g,o,e,rfl,⟨vt,ve,rfl,ht,he⟩,a1⟩:=HA.out k hkl
      obtain ⟨qt,ct,hvt⟩:=SlX.shape ht
      obtain ⟨qe,ce,hve⟩:=SlX.shape he
      obtain ⟨nt,hnt⟩:∃ nt,l[k].targets.length=nt:=⟨_,rfl⟩
      obtain ⟨ne,hne⟩:∃ ne,l[k].exprs.length=ne:=⟨_,rfl⟩
      have HNT:=Lib.hid hnt
      have HNE:=Lib.hid hne
      rw [hnt] at hvt
      rw [hne] at hve
      subst hvt hve
      clear hnt hne
      have HX0:=Lib.hid (show w.cell? ⟨g,o+k * 4,none⟩=some (.int .i64 l[k].kind)∧w.cell? ⟨g,o+k * 4+1,none⟩=some (.string l[k].name)∧w.cell? ⟨g,o+k * 4+2,none⟩=some (.slice qt nt ct)∧w.cell? ⟨g,o+k * 4+3,none⟩=some (.slice qe ne ce) from by
        refine ⟨a1 0 _ (by decide) rfl,?_,?_,?_⟩
        · have:=a1 1 _ (by decide) rfl;rwa [← Nat.add_assoc] at this
        · have:=a1 2 _ (by decide) rfl;rwa [← Nat.add_assoc] at this
        · have:=a1 3 _ (by decide) rfl;rwa [← Nat.add_assoc] at this)
      have HST:=Lib.hid (show StrR false (wC w) (.slice qt nt ct) l[k].targets from ht)
      have HEX:=Lib.hid (show ExsR false (wC w) (.slice qe ne ce) l[k].exprs from he)
      clear ht he a1
      have hle:=below_cle HB.out
      have x0:=hle _ _ HX0.out.1
      have x1:=hle _ _ HX0.out.2.1
      have x2:=hle _ _ HX0.out.2.2.1
      have x3:=hle _ _ HX0.out.2.2.2
      unfold wC at x0 x1 x2 x3
      have hglt:g<V.heap.size:=World.block_lt_of_cell? _ _ x0
      clear hle
      have hki:(k:Int)<(n:Int):=by omega
      obtain ⟨kd,hkd⟩:∃ kd,l[k].kind=kd:=⟨_,rfl⟩
      obtain ⟨nm,hnm⟩:∃ nm,l[k].name=nm:=⟨_,rfl⟩
      rw [hkd] at x0
      rw [hnm] at x1
      have HKD:=Lib.hid hkd
      have HNM:=Lib.hid hnm
      clear hkd hnm
      have hfz0:(V.alloc (.cells #[.int .i64 kd,.string nm,.slice qt nt ct,.slice qe ne ce] 47)).heap[V.heap.size]?=some (.cells #[.int .i64 kd,.string nm,.slice qt nt ct,.slice qe ne ce] 47 (0,0)):=World.alloc_heap_new _ _
      go_wp2_with fail
      obtain ⟨W1,hW1⟩:∃ W1,V.alloc (.cells #[.int .i64 kd,.string nm,.slice qt nt ct,.slice qe ne ce] 47)=W1:=⟨_,rfl⟩
      have hb1:Below V.heap.size V W1:=by rw [← hW1];exact (Below.refl _ _).alloc (Nat.le_refl _) _
      have hsz1:W1.heap.size=V.heap.size+1:=by rw [← hW1];simp
      rw [hW1] at hfz0 ⊢
      obtain ⟨bx,hbx⟩:∃ bx,V.heap.size=bx:=⟨_,rfl⟩
      have HBW:=Lib.hid hbx
      go_at_call 19
      refine (lentStrings_any (HST.out.le ((below_cle HB.out).trans (below_cle hb1))) (has_grown HM1.out hb1)).mono ?_
      rintro e w2 ⟨v2,m2,rfl,hb2,hmo2,hH2,hS2⟩
      obtain ⟨qs,cs2,rfl⟩:=SlX.shape hS2
      rw [HNT.out]
      rw [HNT.out] at hS2
      have hx2:w2.heap[bx]?=some (.cells #[.int .i64 kd,.string nm,.slice qt nt ct,.slice qe ne ce] 47 (0,0)):=by rw [hb2.block _ (by omega),← hbx];exact hfz0
      have hm2x:m2 bx=none:=hmo2.new bx (HM1.out.lt (by omega)) (by omega)
      have hbb:Below bx V w2:=by rw [← hbx];exact hb1.trans (hb2.mono (by omega))
      rw [hbx]
      have hfr2:w2.frozen? ⟨bx,2,none⟩=false:=free_of hx2
      have hc2:w2.cell? ⟨bx,2,none⟩=some (.slice qt nt ct):=cell_of hx2 rfl
      have HX2:=Lib.hid hx2
      have HH2:=Lib.hid hH2
      have HS2:=Lib.hid hS2
      have HMO2:=Lib.hid (show m1.More V m2 from ⟨hmo2.le,fun b hb hl=>hmo2.new b hb (by omega)⟩)
      have HBB:=Lib.hid hbb
      clear hx2 hH2 hS2 hmo2 hb2 hbb hb1 hfz0 x0 x1 x2 x3 hglt
      obtain ⟨W3,hW3⟩:∃ W3,w2.setCell ⟨bx,2,none⟩ (.slice qs nt cs2)=W3:=⟨_,rfl⟩
      have HX3:=Lib.hid (show W3.heap[bx]?=some (.cells #[.int .i64 kd,.string nm,.slice qs nt cs2,.slice qe ne ce] 47 (0,0)) by rw [← hW3];exact heap_set HX2.out 2 _)
      have HH3:=Lib.hid (show Has W3 m2 by rw [← hW3];exact HH2.out.chg ((Chg.refl (fun b=>b=bx) w2).setCell (.inl rfl) _) (fun b e=>by rw [e];exact hm2x))
      have HB3:=Lib.hid (show Below bx V W3 by rw [← hW3];exact HBB.out.setCell (Nat.le_refl _) _)
      have HB4:=Lib.hid (show Below w.heap.size w W3 from HB.out.trans (HB3.out.mono (by have:=HB.out.size;omega)))
      have y0:=below_cle HB4.out _ _ HX0.out.2.2.2
      unfold wC at y0
      obtain ⟨qe',ce',heq,_,hmaxe,_,hae,_⟩:=HEX.out.at (by decide) ex_len
      have hq1:qe=qe':=by injection heq
      clear heq
      subst hq1
      have HAE:=Lib.hid hae
      rw [HNE.out] at hmaxe
      have hbe:ne * 24≤140737488351232:=by obtain ⟨_,_,_,_,_,_,_,h5,_⟩:=HEX.out;rw [← HNE.out];exact h5
      have hmx:bx<W3.heap.size:=heap_lt HX3.out
      clear hae HX2 HH2
      go_wp2_with fail
      clear hfr2 hc2
      try rw [hW3]
      clear hW3
      go_loopw [6,7] (RwI 97 1 (fun m=>ExR1 true (mC m)) W3 m2 ne l[k].exprs) (fun _ i _=>ne - (intOf i).toNat)
      case atStart=>exact RwI.start HH3.out
      case round =>
        obtain ⟨j,qE,cE,cs3,m3,hj,rfl,rfl,GF,GE,GM,GMo,GFr,GB⟩:=hrel
        have HB5:=Lib.hid (show Below w.heap.size w wr from HB4.out.trans (GB.out.mono HB4.out.size))
        have z0:=below_cle HB5.out _ _ HX0.out.2.2.2
        unfold wC at z0
        by_cases hjl:j<ne
        · have hje:j<l[k].exprs.length:=by rw [HNE.out];exact hjl
          obtain ⟨ge,oe,e2,rfl,⟨u,rfl,hu⟩,a2⟩:=HAE.out j hje
          have hu0:=below_cle HB5.out _ _ (a2 0 _ (by decide) rfl)
          unfold wC at hu0
          rw [Nat.mul_one,Nat.add_zero] at hu0
          have HU:=Lib.hid (hu.le (below_cle HB5.out))
          have hji:(j:Int)<(ne:Int):=by omega
          clear a2 hu
          go_wp2_with fail
          go_at_call 46
          refine (lentTerms_any HU.out GM.out).mono ?_
          rintro e w4 ⟨v4,m4,rfl,hb4,hmo4,hH4,hT4⟩
          obtain ⟨q4,c4,rfl⟩:=SlX.shape hT4
          have hrow:=own_chg GF.out (Below.chg hb4 (Nat.le_refl _) (fun _=>False)) (fun _ _ e=>e)
          have hnew:=row_new w4 [.slice q4 l[k].exprs[j].length c4] 97
          have hone:∀ u ∈ [Value.slice q4 l[k].exprs[j].length c4],u.oneCell'=true:=by intro u hu;rw [List.mem_singleton.1 hu];rfl
          have hs4:=hb4.size
          have hs3:=GB.out.size
          have HB44:=Lib.hid hb4
          have HMO4:=Lib.hid hmo4
          have HH4:=Lib.hid hH4
          have HT4:=Lib.hid hT4
          clear hb4 hmo4 hH4 hT4
          go_wp2_with (at_builtin;refine wpList_append_own_at _ rfl _ _ 45 rfl W3.heap.size 97 i2 _ 1 24 und_exs hi2 hz2 hs2 hb2 rfl (by decide) _ _ _ rfl (hrow.alloc _) ⟨w4.heap.size,0,none⟩ 1 1 [.slice q4 l[k].exprs[j].length c4] rfl rfl hnew hone (by unfold maxLen;omega) (by omega) (by simp;omega) ?_)
          intro v9 w9 hR9 hg9 _ hat
          obtain ⟨q9,c9,rfl,r1,r2,r3,r4,r5,r6⟩:=rw_step hje GE.out GMo.out GFr.out GB.out GF.out HB44.out HMO4.out HH4.out exR_mono ⟨_,rfl,HT4.out⟩ hR9 hg9 (by simpa using hat)
          clear hR9 hg9 hat hrow
          go_wp2_with fail
          exact ⟨⟨j+1,q9,c9,_,m4,by omega,by go_num,rfl,r1,r2,r3,r4,r5,r6⟩,by simp [intOf];omega⟩
        · obtain rfl:j=ne:=by omega
          have hrow:=GF.out
          have hnew:=row_new wr [.slice none 0 0] 97
          have hone:∀ u ∈ [Value.slice none 0 0],u.oneCell'=true:=by intro u hu;rw [List.mem_singleton.1 hu];rfl
          have hs3:=GB.out.size
          go_wp2_with (at_builtin;refine wpList_append_own_at _ rfl _ _ 45 rfl W3.heap.size 97 i2 _ 1 24 und_exs hi2 hz2 hs2 hb2 rfl (by decide) _ _ _ rfl (hrow.alloc _) ⟨wr.heap.size,0,none⟩ 1 1 [.slice none 0 0] rfl rfl hnew hone (by unfold maxLen;omega) (by omega) (by simp;omega) ?_)
          intro v9 w9 hR9 hg9 _ hat
          obtain ⟨q9,c9,rfl,hcap,-,HD,HB9⟩:=rw_end (m:=m2) HNE.out GE.out GMo.out GFr.out GB.out GF.out GM.out exR_mono hR9 hg9 (by simpa using hat) hbe
          clear hR9 hg9 hat hrow
          obtain ⟨m9,hmo9,hH9,hx9⟩:=HD.out
          have hX9:w9.heap[bx]?=some (.cells #[.int .i64 kd,.string nm,.slice qs nt cs2,.slice qe j ce] 47 (0,0)):=by rw [HB9.out.block _ hmx];exact HX3.out
          have hm9x:m9 bx=none:=hmo9.new bx hm2x hmx
          have HB10:=Lib.hid (HB4.out.trans (HB9.out.mono HB4.out.size))
          have z9:=below_cle HB10.out _ _ HX0.out.2.2.2
          unfold wC at z9
          have hfr9:w9.frozen? ⟨bx,3,none⟩=false:=free_of hX9
          have hc9:w9.cell? ⟨bx,3,none⟩=some (.slice qe j ce):=cell_of hX9 rfl
          obtain ⟨W5,hW5⟩:∃ W5,w9.setCell ⟨bx,3,none⟩ (.slice q9 j c9)=W5:=⟨_,rfl⟩
          have HX5:=Lib.hid (show W5.heap[bx]?=some (.cells #[.int .i64 kd,.string nm,.slice qs nt cs2,.slice q9 j c9] 47 (0,0)) by rw [← hW5];exact heap_set hX9 3 _)
          have HH5:=Lib.hid (show Has W5 m9 by rw [← hW5];exact hH9.chg ((Chg.refl (fun b=>b=bx) w9).setCell (.inl rfl) _) (fun b e=>by rw [e];exact hm9x))
          have HB5:=Lib.hid (show Below bx V W5 by rw [← hW5];exact (HB3.out.trans (HB9.out.mono (by omega))).setCell (Nat.le_refl _) _)
          have HS5:=Lib.hid (show StrR true (mC m9) (.slice qs nt cs2) l[k].targets from HS2.out.le (mle_cle hmo9.le))
          have HX6:=Lib.hid (show ExsR true (mC m9) (.slice q9 j c9) l[k].exprs from hx9)
          have HMO9:=Lib.hid (HMO2.out.trans hmo9 HB3.out.size)
          clear hmo9 hH9 hx9 hX9 HD
          have t0:W5.cell? ⟨bx,0,none⟩=some (.int .i64 kd):=cell_of HX5.out rfl
          have t1:W5.cell? ⟨bx,1,none⟩=some (.string nm):=cell_of HX5.out rfl
          have t2:W5.cell? ⟨bx,2,none⟩=some (.slice qs nt cs2):=cell_of HX5.out rfl
          have t3:W5.cell? ⟨bx,3,none⟩=some (.slice q9 j c9):=cell_of HX5.out rfl
          have hrow:=own_chg HF.out (Below.chg HB5.out (by rw [HBW.out];exact Nat.le_refl _) (fun _=>False)) (fun _ _ e=>e)
          have hnew:=row_new W5 [.int .i64 kd,.string nm,.slice qs nt cs2,.slice q9 j c9] 47
          have hone:∀ u ∈ [Value.int .i64 kd,.string nm,.slice qs nt cs2,.slice q9 j c9],u.oneCell'=true:=by
            intro u hu
            simp only [List.mem_cons,List.not_mem_nil,or_false] at hu
            rcases hu with rfl | rfl | rfl | rfl <;> rfl
          have hbd:=HBD.out
          have hs5:=HB5.out.size
          have hs6:=HB.out.size
          have hV:=HBW.out
          go_wp2_with (at_builtin;refine wpList_append_own_at _ rfl _ _ 41 rfl w.heap.size 47 i1 _ 4 72 und_sts hi1 hz1 hs1 hb1 rfl (by decide) _ _ _ rfl (hrow.alloc _) ⟨W5.heap.size,0,none⟩ 1 1 [.int .i64 kd,.string nm,.slice qs nt cs2,.slice q9 j c9] rfl rfl hnew hone (by unfold maxLen;omega) (by omega) (by simp;omega) ?_)
          intro v10 w10 hR10 hg10 _ hat
          obtain ⟨q10,c10,rfl,r1,r2,r3,r4,r5,r6⟩:=rw_step hkl HE.out HMo.out HFr.out HB.out HF.out (by rw [hV];exact HB5.out) HMO9.out HH5.out stR_mono ⟨_,_,by rw [HKD.out,HNM.out],HS5.out,HX6.out⟩ hR10 hg10 (by simpa using hat)
          clear hR10 hg10 hat hrow
          go_wp2_with fail
          exact ⟨⟨k+1,q10,c10,_,m9,by omega,by go_num,rfl,r1,r2,r3,r4,r5,r6⟩,by simp [intOf];omega⟩
    · obtain rfl:k=n:=by omega
      have hrow:=HF.out
      have hnew:=row_new V (mkB true) 47
      have hone:∀ u ∈ mkB true,u.oneCell'=true:=by intro u hu;simp only [mkB,if_true,List.mem_cons,List.not_mem_nil,or_false] at hu;rcases hu with rfl | rfl | rfl | rfl <;> rfl
      have hbd:=HBD.out
      have hws:=HB.out.size
      go_wp2_with (at_builtin;refine wpList_append_own_at _ rfl _ _ 41 rfl w.heap.size 47 i1 _ 4 72 und_sts hi1 hz1 hs1 hb1 rfl (by decide) _ _ _ rfl (hrow.alloc _) ⟨V.heap.size,0,none⟩ 1 1 (mkB true) rfl rfl hnew hone (by unfold maxLen;omega) (by omega) (by simp;omega) ?_)
      intro v2 w2 hR2 hg2 _ hat
      obtain ⟨q2,c2,rfl,hcap,⟨g2,hg2'⟩,HD,HB2⟩:=rw_end (m:=m) HN.out HE.out HMo.out HFr.out HB.out hrow HM1.out stR_mono hR2 hg2 (by simpa using hat) hbd
      clear hg2 hR2 hrow hat
      have HG2:=Lib.hid (show Value.slice q2 k c2=.slice (some ⟨g2,0,none⟩) k c2 by rw [hg2'])
      clear hg2'
      go_wp2
      go_ret
      obtain ⟨m',d1,d2,d3⟩:=HD.out
      exact ⟨_,m',rfl,⟨g2,c2,HG2.out⟩,HB2.out,d1,d2,d3⟩
end Go.Proofs.YtlpdjfimefjmcaaGreatDoor
namespace Go.Proofs.YtlpdjfimefjmcaaGreatDoor
open Go Go.RowKit Go.Proofs.Mm
theorem und_ars:Tryz.prog.underlying 24=some (.slice 39):=by kernel_rfl
theorem und_fns:Tryz.prog.underlying 25=some (.slice 43):=by kernel_rfl
theorem infoAz:∃ i,Tryz.prog.info? 39=some i∧i.zero=some (.agg #[.string ⟨#[]⟩,.int .i64 0,.int .u64 0])∧i.size=3∧i.bytes=32:=infoOf (by kernel_rfl)
theorem infoFz:∃ i,Tryz.prog.info? 43=some i∧i.zero=some (.agg #[.string ⟨#[]⟩,.int .u64 0,.slice none 0 0,.slice none 0 0,.slice none 0 0,.slice none 0 0])∧i.size=6∧i.bytes=120:=infoOf (by kernel_rfl)
theorem undOf {P:Program} {t:TypeId} (h:(P.underlying t).map (fun d=>match d with | .struct _ | .array _ _=>true | _=>false)=some true):∃ d,P.underlying t=some d∧(match d with | .struct _ | .array _ _=>true | _=>false)=true:=by
  cases hd:P.underlying t with
  | none=>rw [hd] at h;cases h
  | some d =>
    rw [hd] at h
    exact ⟨d,rfl,by simpa using h⟩
theorem undSo:∃ d,Tryz.prog.underlying 27=some d∧(match d with | .struct _ | .array _ _=>true | _=>false)=true:=undOf (by kernel_rfl)
theorem sizeSo:(Tryz.prog.info? 27).map (·.size)=some 5:=by kernel_rfl
section
variable {w w1 w2:World} {m m1 m2:Mem} {b:Nat} {cs:Array Value} {T:TypeId}
structure Kp (w:World) (m:Mem) (b:Nat) (cs:Array Value) (T:TypeId) (w':World) (m':Mem):Prop where
  below:Below w.heap.size w w'
  has:Has w' m'
  more:m.More w m'
  le:w.heap.size≤b
  lies:w'.heap[b]?=some (.cells cs T (0,0))
  new:m' b=none
theorem Kp.step (h:Kp w m b cs T w1 m1) (hb:Below w1.heap.size w1 w2) (hmo:m1.More w1 m2) (hH:Has w2 m2):Kp w m b cs T w2 m2 :=
  ⟨h.below.trans (hb.mono h.below.size),hH,h.more.trans hmo h.below.size,h.le,by rw [hb.block _ (heap_lt h.lies)];exact h.lies,hmo.new b h.new (heap_lt h.lies)⟩
theorem Kp.set (h:Kp w m b cs T w1 m1) (i:Nat) (v:Value):Kp w m b (cs.setIfInBounds i v) T (w1.setCell ⟨b,i,none⟩ v) m1 :=
  ⟨h.below.setCell h.le v,h.has.chg ((Chg.refl (fun k=>k=b) w1).setCell (.inl rfl) _) (fun k e=>by rw [e];exact h.new),h.more,h.le,heap_set h.lies i v,h.new⟩
theorem Kp.cell (h:Kp w m b cs T w1 m1) {i:Nat} {v:Value} (hv:cs[i]?=some v):w1.cell? ⟨b,i,none⟩=some v:=cell_of h.lies hv
theorem Kp.free (h:Kp w m b cs T w1 m1) (i:Nat):w1.frozen? ⟨b,i,none⟩=false:=free_of h.lies
theorem Kp.start (hm:Has w m) (cs:Array Value) (T:TypeId):Kp w m w.heap.size cs T (w.alloc (.cells cs T)) m :=
  ⟨(Below.refl _ w).alloc (Nat.le_refl _) _,has_grown hm ((Below.refl _ w).alloc (Nat.le_refl _) _),Mem.More.refl _ _,Nat.le_refl _,World.alloc_heap_new _ _,hm.lt (Nat.le_refl _)⟩
end
section
variable {P:Program}
theorem wpList_append_rd {ops:Array Oper} {rest:List Oper} {o:Oper} {a:Act} {w:World} {Q:Exit→Act→World→Prop} (hgd:o.guard=none) (s x:Operand) (t:TypeId)
    (ho:o.op=.call { callee:=.builtin .append,args:=#[s,x],argTypes:=#[t,t] })
    (e:TypeId) (i:TypeInfo) (z:Value) (size bytes:Nat) (ht:P.underlying t=some (.slice e)) (hi:P.info? e=some i) (hz:i.zero=some z)
    (hsize:i.size=size) (hby:i.bytes=bytes) (hzs:z.cells.size=size) (hsz:0<size)
    (hs:a.eval s=.slice none 0 0)
    (q:Option Addr) (m c:Nat) (news:List Value) (hx:a.eval x=.slice q m c) (hq:q=none→c=0) (hmc:m≤c) (hl:news.length=m * size) (hnews:∀ ad,q=some ad→∀ j u,news[j]?=some u→w.cell? (ad.add j)=some u) (h1:∀ u ∈ news,u.oneCell'=true)
    (h63:m≤maxLen) (hbytes:m * bytes≤140737488355328)
    (h:∀ q' c' w',w'.ownsRow w.heap.size e size (.slice q' m c') m news→Below w.heap.size w w'→wpList P ops Q rest (a.put o.dst (.slice q' m c')) w') :
    wpList P ops Q (o :: rest) a w:=by
  have hnil:=World.ownsRow_nil w w.heap.size e size
  rcases q with _ | ad
  · obtain rfl:c=0:=hq rfl
    obtain rfl:m=0:=by omega
    have hn:news=[]:=List.eq_nil_of_length_eq_zero (by simpa using hl)
    subst hn
    exact wpList_append_own_none hgd s x t ho w.heap.size e i size ht hi _ 0 [] hs hnil hx (h none 0 w hnil (Below.refl _ w))
  · refine wpList_append_own w hgd s x t ho w.heap.size e i z size bytes ht hi hz hsize hby hzs hsz _ 0 [] hs hnil ad m c news hx hl (hnews ad rfl) h1 (by omega) (by rwa [Nat.zero_add]) (Nat.le_refl _) ?_
    intro v' w' hR hg _
    rw [Nat.zero_add,List.nil_append] at hR
    obtain ⟨q',c',rfl⟩:=own_shape hR
    exact h q' c' w' hR (grown_below (Below.refl _ w) (Nat.le_refl _) hg (fun j hj=>by cases hj))
end
theorem one_Ar {l:List ArZ} {cs:List Value} (h:Enc (fun c s=>c=arZv s∧s.label<u64B) cs l):∀ u ∈ cs,u.oneCell'=true:=by
  induction l generalizing cs with
  | nil=>obtain rfl:cs=[]:=h;intro u hu;cases hu
  | cons x l ih =>
    obtain ⟨c,r,rfl,⟨rfl,_⟩,h2⟩:=h
    intro u hu
    rcases List.mem_append.1 hu with hu | hu
    · simp only [arZv,List.mem_cons,List.not_mem_nil,or_false] at hu
      rcases hu with rfl | rfl | rfl <;> rfl
    · exact ih h2 u hu
theorem ArsR.take {C:Cl} {q:Option Addr} {n c:Nat} {l:List ArZ} (h:ArsR false C (.slice q n c) l):∃ cs,l.length=n∧(q=none→c=0)∧n≤c∧cs.length=n * 3∧(∀ ad,q=some ad→∀ j u,cs[j]?=some u→C (ad.add j)=some u)∧(∀ u ∈ cs,u.oneCell'=true)∧n≤maxLen∧n * 32≤140737488351232∧Enc (fun c s=>c=arZv s∧s.label<u64B) cs l:=by
  obtain ⟨q',c',cs,e,_,hr,he,hb,hmax,hqn,hlc⟩:=h
  obtain ⟨rfl,rfl,rfl⟩:q=q'∧n=l.length∧c=c':=by injection e with a b c;exact ⟨a,b,c⟩
  obtain ⟨hcl,_⟩:=encZ_at ar_lenZ he
  refine ⟨cs,rfl,hqn,hlc,hcl,?_,one_Ar he,by omega,hb,he⟩
  intro ad hq
  rcases hr with hr | ⟨g,o,hq2,hr⟩
  · have:=(List.append_eq_nil_iff.1 hr).1
    subst this
    intro j u hu
    simp at hu
  · rw [hq] at hq2
    injection hq2 with hq2
    subst hq2
    exact enc_cells he (fun j u hu=>hr j u (by rw [List.getElem?_append_left ((List.getElem?_eq_some_iff.1 hu).1)];exact hu))
theorem fnR_mono:∀ m m':Mem,m.le m'→∀ c x,FnR1 true (mC m) c x→FnR1 true (mC m') c x:=fun _ _ h _ _ e=>e.le (mle_cle h)
end Go.Proofs.YtlpdjfimefjmcaaGreatDoor
