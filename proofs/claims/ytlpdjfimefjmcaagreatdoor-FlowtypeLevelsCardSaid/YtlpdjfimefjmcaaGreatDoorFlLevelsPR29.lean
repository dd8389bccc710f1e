/- A row that grows in a field of a block of the call's own. The closures of function: parameters and results. principal of the parser. principalLine of the parser. -/
import Derived.Test.YtlpdjfimefjmcaaGreatDoorFlLevelsPR28
namespace Go.Proofs.YtlpdjfimefjmcaaGreatDoor.Q
open Go Go.RowKit Go.Proofs.Mm
section
variable {ys:List It} {len bp bw i:Nat} {vp:Value} {w:World} {ns:List (List Nat)} {α:Type}
structure Tys (T E:TypeId):Prop where
  te:T ≠ E
  es:E ≠ 9
  ts:T ≠ 9
  ew:E ≠ 163
  tw:T ≠ 163
  eb:E ≠ 119
  tb:T ≠ 119
  ep:E ≠ 165
  tp:T ≠ 165
theorem blk_ne {W:World} {a b:Nat} {x y:Array Value} {T T':TypeId} (h:W.heap[a]?=some (.cells x T (0,0))) (h':W.heap[b]?=some (.cells y T' (0,0))) (ht:T ≠ T'):a ≠ b:=by
  rintro rfl
  rw [h] at h'
  simp only [Option.some.injEq,Obj.cells.injEq] at h'
  exact ht h'.2.1
theorem blk_own {W:World} {a:Nat} {x:Array Value} {T E:TypeId} {B n size:Nat} {v:Value} {xs:List Value} (h:W.heap[a]?=some (.cells x T (0,0))) (h':W.ownsRow B E size v n xs) (ht:T ≠ E):¬ v.ownBlock=some a:=by
  intro e
  obtain ⟨cur,h2⟩:=own_type h' e
  exact blk_ne h h2 ht rfl
theorem own_own {W:World} {E E':TypeId} {B n size B' n' size':Nat} {v v':Value} {xs xs':List Value} (h:W.ownsRow B E size v n xs) (h':W.ownsRow B' E' size' v' n' xs') (ht:E ≠ E'):∀ k,v.ownBlock=some k→¬ v'.ownBlock=some k:=by
  intro k hk
  obtain ⟨cur,h2⟩:=own_type h hk
  exact blk_own h2 h' ht
theorem PS.blk (h:PS ys len bp bw vp w i):∃ x,w.heap[bp]?=some (.cells x 165 (0,0)):=by
  obtain ⟨c,h1,_⟩:=h.st
  exact ⟨_,h1⟩
theorem PS.tok (h:PS ys len bp bw vp w i):∃ x,w.heap[bw]?=some (.cells x 163 (0,0)):=by
  obtain ⟨c,h1,_⟩:=h.toks
  exact ⟨_,h1⟩
def GJ (R:Mem→List Value→α→Prop) (E:TypeId) (size:Nat) (T:TypeId) (arr:Value→Array Value) (bf bp B:Nat) (vp:Value) (ns:List (List Nat)) (m0:Mem) (w0:World) (acc:List α) (W:World):Prop :=
  ∃ q c cs m',W.heap[bf]?=some (.cells (arr (.slice q acc.length c)) T (0,0))∧W.ownsRow B E size (.slice q acc.length c) acc.length cs∧Enc (R m') cs acc∧Has W m'∧m0.More w0 m'∧m' bf=none∧m' bp=none∧(∀ k,Value.ownBlock (.slice q acc.length c)=some k→m' k=none)∧w0.heap.size≤W.heap.size∧NR W vp ns
def GS (bp bf:Nat) (v:Value):Nat→Prop:=fun k=>k=bp ∨ k=bf ∨ v.ownBlock=some k
variable {R:Mem→List Value→α→Prop} {E T:TypeId} {size:Nat} {arr:Value→Array Value} {bf B:Nat} {m0:Mem} {w0:World} {acc:List α} {W:World}
theorem GJ.next (h:GJ R E size T arr bf bp B vp ns m0 w0 acc W) (ht:Tys T E) (hp:PS ys len bp bw vp W i) {W':World} (hc:Chg (fun k=>k=bp) W W'):GJ R E size T arr bf bp B vp ns m0 w0 acc W':=by
  obtain ⟨q,c,cs,m',h1,h2,h3,h4,h5,h6,h7,h8,h9,h10⟩:=h
  have hsz:=hc.size
  obtain ⟨x,hx⟩:=hp.blk
  exact ⟨q,c,cs,m',hc.heap h1 (blk_ne h1 hx ht.tp),own_chg h2 hc (fun k hk e=>by subst e;exact blk_own hx h2 ht.ep.symm hk),h3,h4.chg hc (fun k e=>by subst e;exact h7),h5,h6,h7,h8,by omega,nr_next h10 hp hc⟩
theorem gj_mid {n:Nat} {v:Value} {cs:List Value} {w1 w9:World} {o:Obj} (h2:W.ownsRow B E size v n cs) (hcc:Chg (fun k=>k=bp) W w1) (hg:(w1.alloc o).grownBy w9 v.ownBlock) {k:Nat} {x:Array Value} {T':TypeId} (hk:W.heap[k]?=some (.cells x T' (0,0))) (hT:T' ≠ E) (hkb:¬ k=bp):w9.heap[k]?=some (.cells x T' (0,0)):=by
  have hc:Chg (fun k=>k=bp ∨ v.ownBlock=some k) W w9:=((hcc.alloc _).mono (fun k e=>.inl (.inl e))).then (grown_chg hg (fun k e=>.inl (.inr e)))
  exact hc.heap hk (fun e=>by
    rcases e with e | e
    · exact hkb e
    · exact blk_own hk h2 hT e)
theorem gj_end {w1 w9:World} {j kf c c9:Nat} {q q9:Option Addr} {x:α} {cs news:List Value} {m' m1:Mem} (ht:Tys T E) (harr:∀ v v',(arr v).setIfInBounds kf v'=arr v')
    (hp:PS ys len bp bw vp W i)
    (h1:W.heap[bf]?=some (.cells (arr (.slice q acc.length c)) T (0,0))) (h2:W.ownsRow B E size (.slice q acc.length c) acc.length cs) (h3:Enc (R m') cs acc) (_h4:Has W m') (h5:m0.More w0 m') (h6:m' bf=none) (h7:m' bp=none) (h8:∀ k,Value.ownBlock (.slice q acc.length c)=some k→m' k=none) (h9:w0.heap.size≤W.heap.size)
    (hR:∀ m m':Mem,m.le m'→∀ c x,R m c x→R m' c x)
    (hcc:Chg (fun k=>k=bp) W w1) (a1:m'.More W m1) (a2:Has w1 m1) (a3:R m1 news x) (a4:PS ys len bp bw vp w1 j) (a5:NR w1 vp ns)
    (hown9:w9.ownsRow B E size (.slice q9 (acc.length+1) c9) (acc.length+1) (cs++news)) {o:Obj} (hgrow9:(w1.alloc o).grownBy w9 (Value.ownBlock (.slice q acc.length c))) (hat9:Value.ownBlock (.slice q9 (acc.length+1) c9)=Value.ownBlock (.slice q acc.length c) ∨ Value.ownBlock (.slice q9 (acc.length+1) c9)=some (w1.heap.size+1)) :
    Chg (GS bp bf (.slice q acc.length c)) W (w9.setCell ⟨bf,kf,none⟩ (.slice q9 (acc.length+1) c9))∧GJ R E size T arr bf bp B vp ns m0 w0 (acc++[x]) (w9.setCell ⟨bf,kf,none⟩ (.slice q9 (acc.length+1) c9))∧PS ys len bp bw vp (w9.setCell ⟨bf,kf,none⟩ (.slice q9 (acc.length+1) c9)) j:=by
  have hs1:=hcc.size
  obtain ⟨xb,hxb⟩:=hp.blk
  obtain ⟨xt,hxt⟩:=hp.tok
  have hnb:¬ bf=bp:=blk_ne h1 hxb ht.tp
  have hC9:Chg (fun k=>k=bp ∨ Value.ownBlock (.slice q acc.length c)=some k) W w9:=((hcc.alloc _).mono (fun k e=>.inl (.inl e))).then (grown_chg hgrow9 (fun k e=>.inl (.inr e)))
  have hC:Chg (GS bp bf (.slice q acc.length c)) W (w9.setCell ⟨bf,kf,none⟩ (.slice q9 (acc.length+1) c9)):=(hC9.mono (fun k e=>.inl (by rcases e with e | e <;> simp [GS,e]))).setCell (p:=⟨bf,kf,none⟩) (.inl (.inr (.inl rfl))) _
  have hqlt:∀ k,Value.ownBlock (.slice q acc.length c)=some k→k<W.heap.size:=fun k hk=>(h2.lt k hk).2
  have hbal:=heap_lt h1
  have hCw:Chg (fun k=>Value.ownBlock (.slice q acc.length c)=some k ∨ k=bf) w1 (w9.setCell ⟨bf,kf,none⟩ (.slice q9 (acc.length+1) c9)) :=
    ((((Chg.refl _ w1).alloc _).then (grown_chg hgrow9 (fun k e=>.inl (.inl e)))).setCell (p:=⟨bf,kf,none⟩) (.inl (.inr rfl)) _)
  have g1:=gj_mid h2 hcc hgrow9 h1 ht.te hnb
  have g2:=own_chg hown9 ((Chg.refl (fun k=>k=bf) w9).setCell (p:=⟨bf,kf,none⟩) (.inl rfl) (.slice q9 (acc.length+1) c9)) (fun k hk e=>by subst e;exact blk_own g1 hown9 ht.te hk)
  have hH:Has (w9.setCell ⟨bf,kf,none⟩ (.slice q9 (acc.length+1) c9)) m1:=a2.chg hCw (fun k e=>by
    rcases e with e | rfl
    · exact a1.new k (h8 k e) (hqlt k e)
    · exact a1.new _ h6 hbal)
  have hvq:=hcc.heap h1 hnb
  have hN:NR (w9.setCell ⟨bf,kf,none⟩ (.slice q9 (acc.length+1) c9)) vp ns:=nr_chg a5 hCw (fun k hk e=>by
    obtain ⟨cur,hcu⟩:=own_type a5.1 hk
    rcases e with e | rfl
    · have h2':w1.ownsRow B E size (.slice q acc.length c) acc.length cs:=own_chg h2 hcc (fun k hk e=>by subst e;exact blk_own hxb h2 ht.ep.symm hk)
      exact blk_own hcu h2' ht.es.symm e
    · exact blk_ne hvq hcu ht.ts rfl)
  refine ⟨hC,⟨q9,c9,cs++news,m1,?_,?_,(h3.mono (hR _ _ a1.le)).app (Enc.one a3),hH,h5.trans a1 h9,a1.new _ h6 hbal,a1.new _ h7 (heap_lt hxb),?_,?_,hN⟩,?_⟩
  · rw [List.length_append,List.length_singleton]
    have:=heap_set g1 kf (.slice q9 (acc.length+1) c9)
    rwa [harr] at this
  · rw [List.length_append,List.length_singleton];exact g2
  · rw [List.length_append,List.length_singleton]
    intro k hk
    rcases hat9 with e | e
    · rw [e] at hk;exact a1.new k (h8 k hk) (hqlt k hk)
    · rw [e] at hk
      obtain rfl:w1.heap.size+1=k:=by simpa using hk
      exact a2.lt (by omega)
  · have:=hC.size;omega
  · obtain ⟨yb,hyb⟩:=a4.blk
    obtain ⟨yt,hyt⟩:=a4.tok
    have h2':w1.ownsRow B E size (.slice q acc.length c) acc.length cs:=own_chg h2 hcc (fun k hk e=>by subst e;exact blk_own hxb h2 ht.ep.symm hk)
    refine a4.chg hCw (fun e=>?_) (fun e=>?_)
    · rcases e with e | e
      · exact blk_own hyb h2' ht.ep.symm e
      · exact hnb e.symm
    · rcases e with e | e
      · exact blk_own hyt h2' ht.ew.symm e
      · exact blk_ne hvq hyt ht.tw e.symm
theorem gj_done (h:GJ R E size T arr bf bp B vp ns m0 w0 acc W) (ht:Tys T E) (hp:PS ys len bp bw vp W i) (hB:w0.heap.size≤B) (hR:∀ m m':Mem,m.le m'→∀ c x,R m c x→R m' c x) :
    ∃ q c cs m2,W.heap[bf]?=some (.cells (arr (.slice q acc.length c)) T (0,0))∧m0.More w0 m2∧Has W m2∧m2 bf=none∧m2 bp=none∧RowM m2 E size (.slice q acc.length c) acc.length cs∧Enc (R m2) cs acc∧NR W vp ns∧w0.heap.size≤W.heap.size:=by
  obtain ⟨q,c,cs,m',h1,h2,h3,h4,h5,h6,h7,h8,h9,h10⟩:=h
  obtain ⟨m2,d1,d2,d3,d4⟩:=RowM.done h2 h4 h8
  obtain ⟨xb,hxb⟩:=hp.blk
  have hno:∀ k,m' k=none→¬ Value.ownBlock (.slice q acc.length c)=some k→m2 k=none:=fun k e hk=>by
    cases e2:m2 k with
    | none=>rfl
    | some o =>
      rcases d2 k (by rw [e2];simp) with e3 | e3
      · exact (e3 e).elim
      · exact (hk e3).elim
  exact ⟨q,c,cs,m2,h1,⟨h5.le.trans d1,fun k e hk=>hno k (h5.new k e hk) (fun e3=>by have:=(h2.lt k e3).1;omega)⟩,d3,hno bf h6 (blk_own h1 h2 ht.te),hno bp h7 (blk_own hxb h2 ht.ep.symm),d4,h3.mono (hR _ _ d1),h10,h9⟩
end
end Go.Proofs.YtlpdjfimefjmcaaGreatDoor.Q
namespace Go.Proofs.YtlpdjfimefjmcaaGreatDoor.Q
open Go Go.RowKit Go.Proofs.Mm
theorem info_of {E:TypeId} {z:Value} {s b:Nat} (h:(Tryz.prog.info? E).map (fun i=>(i.zero,i.size,i.bytes))=some (some z,s,b)):∃ i,Tryz.prog.info? E=some i∧i.zero=some z∧i.size=s∧i.bytes=b:=by
  cases hi:Tryz.prog.info? E with
  | none=>rw [hi] at h;cases h
  | some i =>
    rw [hi] at h
    simp only [Option.map_some,Option.some.injEq,Prod.mk.injEq] at h
    obtain ⟨e1,e2,e3⟩:=h
    exact ⟨i,rfl,e1,e2,e3⟩
def deV (d:Syn.De):List Value:=[.string (sb d.name),.int .u64 (d.label:Nat)]
def DeR (_:Mem) (c:List Value) (d:Syn.De):Prop:=c=deV d∧d.label<18446744073709551616
def LaR (_:Mem) (c:List Value) (l:Nat):Prop:=c=[.int .u64 (l:Nat)]∧l<18446744073709551616
theorem DeR.le:∀ m m':Mem,m.le m'→∀ c x,DeR m c x→DeR m' c x:=fun _ _ _ _ _ h=>h
theorem LaR.le:∀ m m':Mem,m.le m'→∀ c x,LaR m c x→LaR m' c x:=fun _ _ _ _ _ h=>h
theorem tys_de:Tys 43 37:=⟨by decide,by decide,by decide,by decide,by decide,by decide,by decide,by decide,by decide⟩
theorem tys_la:Tys 43 29:=⟨by decide,by decide,by decide,by decide,by decide,by decide,by decide,by decide,by decide⟩
theorem infoDe:∃ i,Tryz.prog.info? 37=some i∧i.zero=some (.agg #[.string ⟨#[]⟩,.int .u64 0])∧i.size=2∧i.bytes=24:=info_of (by kernel_rfl)
theorem infoLa:∃ i,Tryz.prog.info? 29=some i∧i.zero=some (.int .u64 0)∧i.size=1∧i.bytes=8:=info_of (by kernel_rfl)
theorem one_de (s:ByteArray) (l:Nat):∀ u ∈ [Value.string s,.int .u64 (l:Nat)],u.oneCell'=true:=by
  intro u hu
  rcases List.mem_cons.1 hu with rfl | hu
  · rfl
  · rw [List.mem_singleton] at hu;subst hu;rfl
theorem one_la (l:Nat):∀ u ∈ [Value.int .u64 (l:Nat)],u.oneCell'=true:=by
  intro u hu
  rw [List.mem_singleton] at hu;subst hu;rfl
section
variable {ys:List It} {len bp bw i:Nat} {vp:Value} {w:World} {ns:List (List Nat)} {α:Type}
def GB (R:Mem→List Value→α→Prop) (E:TypeId) (size:Nat) (T:TypeId) (arr:Value→Array Value) (bf b1 bp B:Nat) (vp:Value) (ns:List (List Nat)) (m0:Mem) (w0:World) (acc:List α) (W:World):Prop :=
  GJ R E size T arr bf bp B vp ns m0 w0 acc W∧W.heap[b1]?=some (.cells #[.pointer (some ⟨bp,0,none⟩)] 119 (0,0))
theorem GB.next {R:Mem→List Value→α→Prop} {E T:TypeId} {size:Nat} {arr:Value→Array Value} {bf b1 B:Nat} {m0:Mem} {w0 W:World} {acc:List α} (h:GB R E size T arr bf b1 bp B vp ns m0 w0 acc W) (ht:Tys T E) (hp:PS ys len bp bw vp W i) {W':World} (hc:Chg (fun k=>k=bp) W W'):GB R E size T arr bf b1 bp B vp ns m0 w0 acc W':=by
  obtain ⟨x,hx⟩:=hp.blk
  exact ⟨h.1.next ht hp hc,hc.heap h.2 (blk_ne h.2 hx (by decide))⟩
theorem gs_sb {bf B n c:Nat} {q:Option Addr} {W W':World} {E:TypeId} {size:Nat} {cs:List Value} (hB:B≤bf) (h2:W.ownsRow B E size (.slice q n c) n cs) (h:Chg (GS bp bf (.slice q n c)) W W'):Chg (SB bp B) W W' :=
  h.mono fun k e=>by
    rcases e with e | e | e
    · exact .inl (.inl e)
    · subst e;exact .inl (.inr hB)
    · exact .inl (.inr (h2.lt k e).1)
set_option maxRecDepth 100000 in
set_option maxHeartbeats 1000000 in
theorem function1_any (hw:Ws ys) {m0:Mem} {w0:World} {bf b1 B:Nat} {nm lv xr xv xb:Value} (hB:B≤bf) :
    ItOk ys len bp bw B vp 148 #[.pointer (some ⟨bf,0,none⟩),.pointer (some ⟨b1,0,none⟩)] (GB DeR 37 2 43 (fun v=>#[nm,lv,v,xr,xv,xb]) bf b1 bp B vp ns m0 w0) (Syn.decl (Tk ys) (ys.length+1) ns):=by
  intro W i acc hJ hp hBW hb
  obtain ⟨⟨q,c,cs,m',h1,h2,h3,h4,h5,h6,h7,h8,h9,h10⟩,hbx⟩:=hJ
  obtain ⟨j0,hj0,hy0,hy1,hy2⟩:=infoDe
  obtain ⟨xp,hxp⟩:=hp.blk
  have hnb:¬ bf=bp:=blk_ne h1 hxp tys_de.tp
  have hnb1:¬ b1=bp:=blk_ne hbx hxp (by decide)
  have hc1:=cell_of (j:=2) h1 rfl
  have hc2:=cell_of (j:=0) hbx rfl
  have hlt1:=heap_lt h1
  have hlt2:=heap_lt hbx
  have hpd:PS ys len bp bw vp W.drew i:=hp.chg (S:=fun _=>False) (Chg.refl _ _).drew id id
  have hnd:NR W.drew vp ns:=nr_chg h10 ((Chg.refl (fun _=>False) W).drew) (fun _ _ e=>e)
  have hmx:Tryz.prog.follows .mixedOrders=true:=by kernel_rfl
  have HE:=Lib.hid (decl_any hw hpd hnd)
  cases hri:Syn.decl (Tk ys) (ys.length+1) ns i with
  | error q0 =>
    obtain ⟨er,k⟩:=q0
    have HRI:=Lib.hid hri
    clear hri
    have hS0:W.drew.cell? ⟨bf,2,none⟩=some (.slice q acc.length c)∧W.drew.cell? ⟨b1,0,none⟩=some (.pointer (some ⟨bp,0,none⟩)):=⟨hc1,hc2⟩
    go_enter Tryz.func148,Tryz.ntmps148
    refine wp_region_held_drew (S:=fun w'=>w'.cell? ⟨bf,2,none⟩=some (.slice q acc.length c)∧w'.cell? ⟨b1,0,none⟩=some (.pointer (some ⟨bp,0,none⟩))) hmx hS0 (fun hHeld=>?_)
    refine wpAnyH_take (i:=0) (v:=.pointer (some ⟨bf,2,none⟩)) rfl (by kernel_rfl) (by kernel_rfl) (by kernel_rfl) (fun _ _ _ h=>h) (Or.inl ⟨by rfl,fun w hSw=>by obtain ⟨s1,s2⟩:=hSw;go_simp⟩) (by assumption) ?_
    simp only [Act.put,List.setIfInBounds_toArray,List.set_cons_zero,List.set_cons_succ,List.getElem_toArray,List.getElem_cons_zero]
    refine wpAnyH_take (i:=1) (v:=.slice q acc.length c) rfl (by kernel_rfl) (by kernel_rfl) (by kernel_rfl) (fun _ _ _ h=>h) (Or.inl ⟨by rfl,fun w hSw=>by obtain ⟨s1,s2⟩:=hSw;go_simp⟩) (by assumption) ?_
    simp only [Act.put,List.setIfInBounds_toArray,List.set_cons_zero,List.set_cons_succ,List.getElem_toArray,List.getElem_cons_zero,List.getElem_cons_succ]
    refine wpAnyH_take (i:=2) (v:=.pointer (some ⟨bp,0,none⟩)) rfl (by kernel_rfl) (by kernel_rfl) (by kernel_rfl) (fun _ _ _ h=>h) (Or.inl ⟨by rfl,fun w hSw=>by obtain ⟨s1,s2⟩:=hSw;go_simp⟩) (by assumption) ?_
    simp only [Act.put,List.setIfInBounds_toArray,List.set_cons_zero,List.set_cons_succ,List.getElem_toArray,List.getElem_cons_zero,List.getElem_cons_succ]
    refine wpAnyH_ready (rs:=[3]) (by kernel_rfl) (by simp) ?_
    refine AllReadyH.cons rfl (fun K hK=>?_) AllReadyH.nil
    go_simp
    go_at_call 142
    refine HE.out.mono ?_
    rw [HRI.out]
    rintro e w' ⟨hcc,rfl⟩
    exact ⟨rfl,((Chg.refl (SB bp B) W).drew).then (sb_of hcc),rfl⟩
  | ok q0 =>
    obtain ⟨x,j⟩:=q0
    have HRI:=Lib.hid hri
    clear hri
    have h1d:W.drew.heap[bf]?=some (.cells #[nm,lv,.slice q acc.length c,xr,xv,xb] 43 (0,0)):=h1
    have hbxd:W.drew.heap[b1]?=some (.cells #[.pointer (some ⟨bp,0,none⟩)] 119 (0,0)):=hbx
    have h2d:W.drew.ownsRow B 37 2 (.slice q acc.length c) acc.length cs:=h2
    obtain ⟨xt,hxt⟩:=hpd.blk
    have HROW:=Lib.hid (fun w1 (hc:Chg (fun k=>k=bp) W.drew w1)=>own_chg h2d hc (fun k hk e=>by subst e;exact blk_own hxt h2d tys_de.ep.symm hk))
    have HAPP:=Lib.hid (fun w1 w9 (o:Obj) (hc:Chg (fun k=>k=bp) W.drew w1) (hg:(w1.alloc o).grownBy w9 (Value.ownBlock (.slice q acc.length c))) =>
      And.intro (gj_mid h2d hc hg h1d tys_de.te hnb) (gj_mid h2d hc hg hbxd (by decide) hnb1))
    go_enter Tryz.func148,Tryz.ntmps148
    go_region_law
      (first
        | (go_simp;go_at_call 142;refine HE.out.mono ?_;rw [HRI.out];rintro e w1 ⟨hcc,rfl,a1,a2,a3⟩;have k1:=hcc.cell (show W.drew.cell? ⟨bf,2,none⟩=_ from hc1) hnb;have k2:=hcc.cell (show W.drew.cell? ⟨b1,0,none⟩=_ from hc2) hnb1;have p1:=hcc.heap h1d hnb;have p2:=hcc.heap hbxd hnb1;have k3:=free_of (j:=2) p1;have kk:=And.intro (cell_of (j:=2) (heap_new _ (.cells #[.string (sb x.name),.int .u64 (x.label:Nat)] 37) p1) rfl) (And.intro (cell_of (j:=0) (heap_new _ (.cells #[.string (sb x.name),.int .u64 (x.label:Nat)] 37) p2) rfl) (free_of (j:=2) (heap_new _ (.cells #[.string (sb x.name),.int .u64 (x.label:Nat)] 37) p1))))
        | (refine step_append_mine rfl (.tmp 3) (.tmp 6) 23 rfl B 37 j0 (.agg #[.string ⟨#[]⟩,.int .u64 0]) 2 24 Tryz.underlying23 hj0 hy0 hy1 hy2 rfl (by decide) (.slice q acc.length c) acc.length cs (by simp [Act.eval]) ((HROW.out _ hcc).alloc _) ⟨_,0,none⟩ 1 1 [.string (sb x.name),.int .u64 (x.label:Nat)] (by simp [Act.eval]) rfl (row_new _ [.string (sb x.name),.int .u64 (x.label:Nat)] 37) (one_de _ _) (by unfold maxLen;omega) (by omega) (Nat.le_trans hBW (Nat.le_trans hcc.size (by simp))) ?_;intro v9 w9 hown9 hgrow9 hat9;obtain ⟨q9,c9,rfl⟩:=own_shape hown9;obtain ⟨g1,g2⟩:=HAPP.out _ _ _ hcc hgrow9;have k4:=cell_of (j:=2) g1 rfl;have k5:=cell_of (j:=0) g2 rfl;have k6:=free_of (j:=2) g1))
    all_goals
      go_end0
      have hcw:Chg (fun k=>k=bp) W w1:=((Chg.refl _ W).drew).then hcc
      obtain ⟨r1,r2,r3⟩:=gj_end (arr:=fun v=>#[nm,lv,v,xr,xv,xb]) (kf:=2) tys_de (fun _ _=>rfl) hp h1 h2 h3 h4 h5 h6 h7 h8 h9 DeR.le hcw (Mem.More.refl _ _) (h4.chg hcw (fun k e=>by subst e;exact h7)) (show DeR m' _ x from ⟨rfl,a1⟩) a2 a3 hown9 hgrow9 (by simpa using hat9)
      exact ⟨gs_sb hB h2 r1,⟨rfl,r2,by
        refine r1.heap hbx (fun e=>?_)
        rcases e with e | e | e
        · exact hnb1 e
        · exact blk_ne hbx h1 (by decide) e
        · exact blk_own hbx h2 (by decide) e⟩,r3⟩
set_option maxRecDepth 100000 in
set_option maxHeartbeats 1000000 in
theorem function2_any (hw:Ws ys) {m0:Mem} {w0:World} {bf b1 B:Nat} {nm lv xp0 xv xb:Value} (hB:B≤bf) :
    ItOk ys len bp bw B vp 149 #[.pointer (some ⟨bf,0,none⟩),.pointer (some ⟨b1,0,none⟩)] (GB LaR 29 1 43 (fun v=>#[nm,lv,xp0,v,xv,xb]) bf b1 bp B vp ns m0 w0) (Syn.label (Tk ys) (ys.length+1) ns):=by
  intro W i acc hJ hp hBW hb
  obtain ⟨⟨q,c,cs,m',h1,h2,h3,h4,h5,h6,h7,h8,h9,h10⟩,hbx⟩:=hJ
  obtain ⟨j0,hj0,hy0,hy1,hy2⟩:=infoLa
  obtain ⟨xp,hxp⟩:=hp.blk
  have hnb:¬ bf=bp:=blk_ne h1 hxp tys_la.tp
  have hnb1:¬ b1=bp:=blk_ne hbx hxp (by decide)
  have hc1:=cell_of (j:=3) h1 rfl
  have hc2:=cell_of (j:=0) hbx rfl
  have hlt1:=heap_lt h1
  have hlt2:=heap_lt hbx
  have hpd:PS ys len bp bw vp W.drew i:=hp.chg (S:=fun _=>False) (Chg.refl _ _).drew id id
  have hnd:NR W.drew vp ns:=nr_chg h10 ((Chg.refl (fun _=>False) W).drew) (fun _ _ e=>e)
  have hmx:Tryz.prog.follows .mixedOrders=true:=by kernel_rfl
  have HE:=Lib.hid (label_any hw hpd hnd)
  cases hri:Syn.label (Tk ys) (ys.length+1) ns i with
  | error q0 =>
    obtain ⟨er,k⟩:=q0
    have HRI:=Lib.hid hri
    clear hri
    have hS0:W.drew.cell? ⟨bf,3,none⟩=some (.slice q acc.length c)∧W.drew.cell? ⟨b1,0,none⟩=some (.pointer (some ⟨bp,0,none⟩)):=⟨hc1,hc2⟩
    go_enter Tryz.func149,Tryz.ntmps149
    refine wp_region_held_drew (S:=fun w'=>w'.cell? ⟨bf,3,none⟩=some (.slice q acc.length c)∧w'.cell? ⟨b1,0,none⟩=some (.pointer (some ⟨bp,0,none⟩))) hmx hS0 (fun hHeld=>?_)
    refine wpAnyH_take (i:=0) (v:=.pointer (some ⟨bf,3,none⟩)) rfl (by kernel_rfl) (by kernel_rfl) (by kernel_rfl) (fun _ _ _ h=>h) (Or.inl ⟨by rfl,fun w hSw=>by obtain ⟨s1,s2⟩:=hSw;go_simp⟩) (by assumption) ?_
    simp only [Act.put,List.setIfInBounds_toArray,List.set_cons_zero,List.set_cons_succ,List.getElem_toArray,List.getElem_cons_zero]
    refine wpAnyH_take (i:=1) (v:=.slice q acc.length c) rfl (by kernel_rfl) (by kernel_rfl) (by kernel_rfl) (fun _ _ _ h=>h) (Or.inl ⟨by rfl,fun w hSw=>by obtain ⟨s1,s2⟩:=hSw;go_simp⟩) (by assumption) ?_
    simp only [Act.put,List.setIfInBounds_toArray,List.set_cons_zero,List.set_cons_succ,List.getElem_toArray,List.getElem_cons_zero,List.getElem_cons_succ]
    refine wpAnyH_take (i:=2) (v:=.pointer (some ⟨bp,0,none⟩)) rfl (by kernel_rfl) (by kernel_rfl) (by kernel_rfl) (fun _ _ _ h=>h) (Or.inl ⟨by rfl,fun w hSw=>by obtain ⟨s1,s2⟩:=hSw;go_simp⟩) (by assumption) ?_
    simp only [Act.put,List.setIfInBounds_toArray,List.set_cons_zero,List.set_cons_succ,List.getElem_toArray,List.getElem_cons_zero,List.getElem_cons_succ]
    refine wpAnyH_ready (rs:=[3]) (by kernel_rfl) (by simp) ?_
    refine AllReadyH.cons rfl (fun K hK=>?_) AllReadyH.nil
    go_simp
    go_at_call 146
    refine HE.out.mono ?_
    rw [HRI.out]
    rintro e w' ⟨hcc,rfl⟩
    exact ⟨rfl,((Chg.refl (SB bp B) W).drew).then (sb_of hcc),rfl⟩
  | ok q0 =>
    obtain ⟨x,j⟩:=q0
    have HRI:=Lib.hid hri
    clear hri
    have h1d:W.drew.heap[bf]?=some (.cells #[nm,lv,xp0,.slice q acc.length c,xv,xb] 43 (0,0)):=h1
    have hbxd:W.drew.heap[b1]?=some (.cells #[.pointer (some ⟨bp,0,none⟩)] 119 (0,0)):=hbx
    have h2d:W.drew.ownsRow B 29 1 (.slice q acc.length c) acc.length cs:=h2
    obtain ⟨xt,hxt⟩:=hpd.blk
    have HROW:=Lib.hid (fun w1 (hc:Chg (fun k=>k=bp) W.drew w1)=>own_chg h2d hc (fun k hk e=>by subst e;exact blk_own hxt h2d tys_la.ep.symm hk))
    have HAPP:=Lib.hid (fun w1 w9 (o:Obj) (hc:Chg (fun k=>k=bp) W.drew w1) (hg:(w1.alloc o).grownBy w9 (Value.ownBlock (.slice q acc.length c))) =>
      And.intro (gj_mid h2d hc hg h1d tys_la.te hnb) (gj_mid h2d hc hg hbxd (by decide) hnb1))
    go_enter Tryz.func149,Tryz.ntmps149
    go_region_law
      (first
        | (go_simp;go_at_call 146;refine HE.out.mono ?_;rw [HRI.out];rintro e w1 ⟨hcc,rfl,a1,a2,a3⟩;have k1:=hcc.cell (show W.drew.cell? ⟨bf,3,none⟩=_ from hc1) hnb;have k2:=hcc.cell (show W.drew.cell? ⟨b1,0,none⟩=_ from hc2) hnb1;have p1:=hcc.heap h1d hnb;have p2:=hcc.heap hbxd hnb1;have k3:=free_of (j:=3) p1;have kk:=And.intro (cell_of (j:=3) (heap_new _ (.cells #[.int .u64 (x:Nat)] 29) p1) rfl) (And.intro (cell_of (j:=0) (heap_new _ (.cells #[.int .u64 (x:Nat)] 29) p2) rfl) (free_of (j:=3) (heap_new _ (.cells #[.int .u64 (x:Nat)] 29) p1))))
        | (refine step_append_mine rfl (.tmp 3) (.tmp 6) 40 rfl B 29 j0 (.int .u64 0) 1 8 Tryz.underlying40 hj0 hy0 hy1 hy2 rfl (by decide) (.slice q acc.length c) acc.length cs (by simp [Act.eval]) ((HROW.out _ hcc).alloc _) ⟨_,0,none⟩ 1 1 [.int .u64 (x:Nat)] (by simp [Act.eval]) rfl (row_new _ [.int .u64 (x:Nat)] 29) (one_la _) (by unfold maxLen;omega) (by omega) (Nat.le_trans hBW (Nat.le_trans hcc.size (by simp))) ?_;intro v9 w9 hown9 hgrow9 hat9;obtain ⟨q9,c9,rfl⟩:=own_shape hown9;obtain ⟨g1,g2⟩:=HAPP.out _ _ _ hcc hgrow9;have k4:=cell_of (j:=3) g1 rfl;have k5:=cell_of (j:=0) g2 rfl;have k6:=free_of (j:=3) g1))
    all_goals
      go_end0
      have hcw:Chg (fun k=>k=bp) W w1:=((Chg.refl _ W).drew).then hcc
      obtain ⟨r1,r2,r3⟩:=gj_end (arr:=fun v=>#[nm,lv,xp0,v,xv,xb]) (kf:=3) tys_la (fun _ _=>rfl) hp h1 h2 h3 h4 h5 h6 h7 h8 h9 LaR.le hcw (Mem.More.refl _ _) (h4.chg hcw (fun k e=>by subst e;exact h7)) (show LaR m' _ x from ⟨rfl,a1⟩) a2 a3 hown9 hgrow9 (by simpa using hat9)
      exact ⟨gs_sb hB h2 r1,⟨rfl,r2,by
        refine r1.heap hbx (fun e=>?_)
        rcases e with e | e | e
        · exact hnb1 e
        · exact blk_ne hbx h1 (by decide) e
        · exact blk_own hbx h2 (by decide) e⟩,r3⟩
end
end Go.Proofs.YtlpdjfimefjmcaaGreatDoor.Q
namespace Go.Proofs.YtlpdjfimefjmcaaGreatDoor.Q
open Go Go.RowKit Go.Proofs.Mm
section
variable {ys:List It} {len bp bw i:Nat} {vp:Value} {w:World} {ns:List (List Nat)} {α:Type}
def prinP (T:Nat→Option Syn.K) (ns:List (List Nat)) (i:Nat):Syn.R (List (List Nat)) :=
  (Syn.name T i).on fun s j=>if ns.length=64 then .error (74,i) else .ok (ns++[s],j)
def NOk (ys:List It) (len bp bw:Nat) (vp:Value) (w:World) (ns:List (List Nat)) (j:Nat) (e:Ending) (w':World):Prop:=e=.returned (.tuple #[])∧∃ vp',PS ys len bp bw vp' w' j∧NR w' vp' ns∧Ob vp w vp'
theorem prin_end {w1 w9:World} {j n c c9:Nat} {q q9:Option Addr} {s:ByteArray} {o:Obj} (hn:n=ns.length) (h1:PS ys len bp bw (.slice q n c) w1 j) (h2:NR w1 (.slice q n c) ns) (hl:n ≠ 64)
    (hown9:w9.ownsRow 0 9 1 (.slice q9 (n+1) c9) (n+1) (strC ns++[.string s])) (hgrow9:(w1.alloc o).grownBy w9 (Value.ownBlock (.slice q n c))) :
    Chg (TS bp (.slice q n c)) w1 (w9.setCell ⟨bp,1,none⟩ (.slice q9 (n+1) c9))∧PS ys len bp bw (.slice q9 (n+1) c9) (w9.setCell ⟨bp,1,none⟩ (.slice q9 (n+1) c9)) j∧NR (w9.setCell ⟨bp,1,none⟩ (.slice q9 (n+1) c9)) (.slice q9 (n+1) c9) (ns++[bl s]):=by
  subst hn
  have hC:Chg (fun k=>Value.ownBlock (.slice q ns.length c)=some k) w1 w9:=((Chg.refl _ w1).alloc _).then (grown_chg hgrow9 (fun k e=>.inl e))
  have hC2:Chg (TS bp (.slice q ns.length c)) w1 (w9.setCell ⟨bp,1,none⟩ (.slice q9 (ns.length+1) c9)):=(hC.mono (fun k e=>.inl (.inr e))).setCell (p:=⟨bp,1,none⟩) (.inl (.inl rfl)) _
  obtain ⟨⟨cw,a1,a2⟩,⟨arr,b1,b2⟩,h3,h4⟩:=h1
  have hb:=hC.heap a1 (blk_own a1 h2.1 (by decide))
  have hbt:=hC2.heap b1 (fun e=>by
    rcases e with e | e
    · exact blk_ne b1 a1 (by decide) e
    · exact blk_own b1 h2.1 (by decide) e)
  refine ⟨hC2,⟨⟨cw,heap_set hb 1 _,a2⟩,⟨arr,hbt,b2⟩,h3,h4⟩,?_,?_,?_⟩
  · rw [List.length_append,List.length_singleton]
    have:=own_chg hown9 ((Chg.refl (fun k=>k=bp) w9).setCell (p:=⟨bp,1,none⟩) (.inl rfl) (.slice q9 (ns.length+1) c9)) (fun k hk e=>by subst e;exact blk_own hb hown9 (by decide) hk)
    unfold strC at this ⊢
    rw [List.map_append,List.map_singleton,sb_bl];exact this
  · rw [List.length_append,List.length_singleton];have:=h2.2.1;omega
  · intro t ht
    rcases List.mem_append.1 ht with ht | ht
    · exact h2.2.2 t ht
    · rw [List.mem_singleton.1 ht,sb_bl]
set_option maxRecDepth 100000 in
set_option maxHeartbeats 2000000 in
theorem principal_any (_hw:Ws ys) (h:PS ys len bp bw vp w i) (hn:NR w vp ns) :
    Calls Tryz.prog 141 #[.pointer (some ⟨bp,0,none⟩)] w (Ret ys len (TS bp vp) w (prinP (Tk ys) ns i) (NOk ys len bp bw vp w)):=by
  obtain ⟨q,c,rfl⟩:=own_shape hn.1
  obtain ⟨j0,hj0,hy0,hy1,hy2⟩:=infoStr
  have hmx:Tryz.prog.follows .mixedOrders=true:=by kernel_rfl
  have hc1:=h.raw1
  obtain ⟨xb,hxb⟩:=h.blk
  have hf1:=free_of (j:=1) hxb
  have hTS:∀ {a b:World},Chg (fun k=>k=bp) a b→Chg (TS bp (.slice q ns.length c)) a b:=fun hc=>hc.mono fun _ e=>.inl (.inl e)
  have hK:=isKind_ps h 1
  rw [named_kind] at hK
  have hl64:=hn.2.1
  have hpd:PS ys len bp bw (.slice q ns.length c) w.drew i:=h.drewN 1
  have hS0:w.drew.cell? ⟨bp,1,none⟩=some (.slice q ns.length c):=hc1
  obtain ⟨n,hnn⟩:∃ n,ns.length=n:=⟨_,rfl⟩
  cases hx:Syn.named (Tk ys) i with
  | false =>
    rw [hx] at hK
    have HE:=Lib.hid (show prinP (Tk ys) ns i=.error (50,i) from by unfold prinP;rw [name_no hx];rfl)
    have HNO:=Lib.hid (name_none hpd hx (TS bp (.slice q ns.length c)) (.inl rfl))
    clear hx hnn
    go_enter Tryz.func141,Tryz.ntmps141
    go_wp2_with (go_at_call 167;refine hK.mono ?_;rintro e w' ⟨rfl,rfl⟩)
    refine wp_region_held_drew (S:=fun w'=>w'.cell? ⟨bp,1,none⟩=some (.slice q ns.length c)) hmx hS0 (fun hHeld=>?_)
    refine wpAnyH_take (i:=0) (v:=.pointer (some ⟨bp,0,none⟩)) rfl (by kernel_rfl) (by kernel_rfl) (by kernel_rfl) (fun _ _ _ h=>h) (Or.inl ⟨by rfl,fun w hSw=>by go_simp⟩) (by assumption) ?_
    try simp only [Act.put,List.setIfInBounds_toArray,List.set_cons_zero,List.set_cons_succ,List.getElem_toArray,List.getElem_cons_zero]
    refine wpAnyH_take (i:=1) (v:=.pointer (some ⟨bp,0,none⟩)) rfl (by kernel_rfl) (by kernel_rfl) (by kernel_rfl) (fun _ _ _ h=>h) (Or.inl ⟨by rfl,fun w hSw=>by go_simp⟩) (by assumption) ?_
    try simp only [Act.put,List.setIfInBounds_toArray,List.set_cons_zero,List.set_cons_succ,List.getElem_toArray,List.getElem_cons_zero,List.getElem_cons_succ]
    refine wpAnyH_take (i:=2) (v:=.pointer (some ⟨bp,0,none⟩)) rfl (by kernel_rfl) (by kernel_rfl) (by kernel_rfl) (fun _ _ _ h=>h) (Or.inl ⟨by rfl,fun w hSw=>by go_simp⟩) (by assumption) ?_
    try simp only [Act.put,List.setIfInBounds_toArray,List.set_cons_zero,List.set_cons_succ,List.getElem_toArray,List.getElem_cons_zero,List.getElem_cons_succ]
    refine wpAnyH_take (i:=3) (v:=.pointer (some ⟨bp,1,none⟩)) rfl (by kernel_rfl) (by kernel_rfl) (by kernel_rfl) (fun _ _ _ h=>h) (Or.inl ⟨by rfl,fun w hSw=>by go_simp⟩) (by assumption) ?_
    try simp only [Act.put,List.setIfInBounds_toArray,List.set_cons_zero,List.set_cons_succ,List.getElem_toArray,List.getElem_cons_zero,List.getElem_cons_succ]
    refine wpAnyH_take (i:=4) (v:=.slice q ns.length c) rfl (by kernel_rfl) (by kernel_rfl) (by kernel_rfl) (fun _ _ _ h=>h) (Or.inl ⟨by rfl,fun w hSw=>by go_simp⟩) (by assumption) ?_
    try simp only [Act.put,List.setIfInBounds_toArray,List.set_cons_zero,List.set_cons_succ,List.getElem_toArray,List.getElem_cons_zero,List.getElem_cons_succ]
    refine wpAnyH_take (i:=5) (v:=.pointer (some ⟨bp,0,none⟩)) rfl (by kernel_rfl) (by kernel_rfl) (by kernel_rfl) (fun _ _ _ h=>h) (Or.inl ⟨by rfl,fun w hSw=>by go_simp⟩) (by assumption) ?_
    try simp only [Act.put,List.setIfInBounds_toArray,List.set_cons_zero,List.set_cons_succ,List.getElem_toArray,List.getElem_cons_zero,List.getElem_cons_succ]
    refine wpAnyH_ready (rs:=[6]) (by kernel_rfl) (by simp) ?_
    refine AllReadyH.cons rfl (fun K hK=>?_) AllReadyH.nil
    go_simp
    go_at_call 144
    refine HNO.out.mono ?_
    rintro e w' ⟨rfl,hc⟩
    exact ⟨rfl,ret_err HE.out (((Chg.refl (TS bp (.slice q ns.length c)) w).drew).then hc)⟩
  | true =>
    rw [hx] at hK
    by_cases h64:n=64
    · have HE:=Lib.hid (show prinP (Tk ys) ns i=.error (74,i) from by unfold prinP;rw [name_yes len hx,on_ok',if_pos (hnn.trans h64)])
      have HF:=Lib.hid (fail_ps h 74 (TS bp (.slice q ns.length c)))
      have hq:((ns.length:Int) == 64)=true:=by rw [hnn,h64];rfl
      clear hx hnn
      go_enter Tryz.func141,Tryz.ntmps141
      go_wp2_with (go_at_call 167;refine hK.mono ?_;rintro e w' ⟨rfl,rfl⟩)
      go_at_call 138
      refine HF.out.mono ?_
      rintro e w' ⟨rfl,hc⟩
      exact ⟨rfl,ret_err HE.out hc⟩
    · have HE:=Lib.hid (show prinP (Tk ys) ns i=.ok (ns++[bl (tk ys len i).t],i+1) from by unfold prinP;rw [name_yes len hx,on_ok',if_neg (by rw [hnn];exact h64)])
      have hq:((ns.length:Int) == 64)=false:=by rw [beq_eq_false_iff_ne];omega
      have HN1:=Lib.hid (name_one hpd hx)
      have HN:=Lib.hid hn
      have HD:=Lib.hid (show NR w.drew (.slice q ns.length c) ns from nr_chg hn ((Chg.refl (fun _=>False) w).drew) (fun _ _ e=>e))
      have hnb:∀ k,Value.ownBlock (.slice q ns.length c)=some k→¬ k=bp:=nr_bp hn h
      have hxd:w.drew.heap[bp]?=some (.cells xb 165 (0,0)):=hxb
      have HROW:=Lib.hid (fun w1 (hc:Chg (fun k=>k=bp) w.drew w1)=>own_chg HD.out.1 hc hnb)
      have HAPP:=Lib.hid (fun (w1 w9:World) (o:Obj) (hp:PS ys len bp bw (.slice q ns.length c) w1 (i+1)) (hn:NR w1 (.slice q ns.length c) ns) (hg:(w1.alloc o).grownBy w9 (Value.ownBlock (.slice q ns.length c)))=>by
        have hC:Chg (fun k=>Value.ownBlock (.slice q ns.length c)=some k) w1 w9:=((Chg.refl _ w1).alloc _).then (grown_chg hg (fun k e=>.inl e))
        obtain ⟨c',a1,_⟩:=hp.st
        have hb:=hC.heap a1 (blk_own a1 hn.1 (by decide))
        exact (⟨cell_of (j:=1) hb rfl,free_of hb⟩:w9.cell? ⟨bp,1,none⟩=some (.slice q ns.length c)∧w9.frozen? ⟨bp,1,none⟩=false))
      have hm64:ns.length ≠ 64:=by rw [hnn];exact h64
      have hc1d:w.drew.cell? ⟨bp,1,none⟩=some (.slice q ns.length c):=hc1
      clear hx hnn h64
      go_enter Tryz.func141,Tryz.ntmps141
      go_wp2_with (go_at_call 167;refine hK.mono ?_;rintro e w' ⟨rfl,rfl⟩)
      go_region_law
        (first
          | (go_simp;go_at_call 144;refine HN1.out.mono ?_;rintro e w1 ⟨rfl,hcc,hp1⟩;have hn1:=nr_next HD.out hpd hcc;have k1:=hp1.raw1;have k2:=(hp1.alloc (.cells #[.string (tk ys len i).t] 9)).raw1)
          | (refine step_append_mine rfl (.tmp 18) (.tmp 21) 22 rfl 0 9 j0 (.string ⟨#[]⟩) 1 16 Tryz.underlying22 hj0 hy0 hy1 hy2 rfl (by decide) (.slice q ns.length c) ns.length (strC ns) (by simp [Act.eval]) (hn1.1.alloc _) ⟨_,0,none⟩ 1 1 [.string (tk ys len i).t] (by simp [Act.eval]) rfl (row_new _ [.string (tk ys len i).t] 9) (one_str _) (by unfold maxLen;omega) (by omega) (Nat.zero_le _) ?_;intro v9 w9 hown9 hgrow9 hat9;obtain ⟨q9,c9,rfl⟩:=own_shape hown9;obtain ⟨k4,k6⟩:=HAPP.out _ _ _ hp1 hn1 hgrow9))
      all_goals
        go_end0
        obtain ⟨r1,r2,r3⟩:=prin_end rfl hp1 hn1 hm64 hown9 hgrow9
        have hat:Value.ownBlock (.slice q9 (ns.length+1) c9)=Value.ownBlock (.slice q ns.length c) ∨ Value.ownBlock (.slice q9 (ns.length+1) c9)=some (w1.heap.size+1):=by simpa using hat9
        have hszw:w.heap.size≤w1.heap.size:=hcc.size
        exact ret_ok HE.out ((hTS (((Chg.refl (fun k=>k=bp) w).drew).then hcc)).then r1) ⟨rfl,_,r2,r3,fun k hk=>by
          rcases hat with e | e
          · rw [e] at hk;exact .inl hk
          · rw [e] at hk;injection hk with hk;right;omega⟩
end
end Go.Proofs.YtlpdjfimefjmcaaGreatDoor.Q
namespace Go.Proofs.YtlpdjfimefjmcaaGreatDoor.Q
open Go Go.RowKit Go.Proofs.Mm
section
variable (T:Nat→Option Syn.K)
def prinsP:Nat→List (List Nat)→Nat→Syn.R (List (List Nat))
  | 0,_,i=>.error (99,i)
  | f+1,l,i=>if Syn.is T i [59] then .ok (l,i+1) else (prinP T l i).on fun l i=>prinsP f l i
def prinLP (f:Nat) (l:List (List Nat)) (i:Nat):Syn.R (List (List Nat)):=(prinP T l i).on fun l i=>prinsP T f l i
def lineG (f:Nat) (l:List (List Nat)) (i:Nat):Syn.R (List (List Nat)):=(Syn.namesF T f l i).on fun l i=>(Syn.want T i [59]).on fun _ i=>.ok (l,i)
theorem line_eq:∀ (f:Nat) (l:List (List Nat)) (i:Nat),(∀ j,lineG T f l i ≠ .error (99,j))→prinLP T f l i=lineG T f l i
  | 0,l,i,h=>(h i rfl).elim
  | f+1,l,i,h=>by
    have hG:lineG T (f+1) l i=(Syn.name T i).on fun s j=>if l.length=64 then .error (74,i) else
        if Syn.named T j then lineG T f (l++[s]) j else (Syn.want T j [59]).on fun _ j=>.ok (l++[s],j):=by
      unfold lineG
      rw [Syn.namesF]
      cases Syn.name T i with
      | error e=>rfl
      | ok x =>
        obtain ⟨s,j⟩:=x
        simp only [Syn.R.on]
        by_cases h64:l.length=64
        · simp only [if_pos h64]
        · simp only [if_neg h64]
          cases Syn.named T j <;> rfl
    rw [hG] at h ⊢
    unfold prinLP prinP
    cases hs:Syn.name T i with
    | error e=>rfl
    | ok x =>
      obtain ⟨s,j⟩:=x
      rw [hs] at h
      simp only [Syn.R.on] at h ⊢
      by_cases h64:l.length=64
      · simp only [if_pos h64]
      · simp only [if_neg h64] at h ⊢
        rw [prinsP]
        cases hn:Syn.named T j with
        | true =>
          rw [hn,if_pos rfl] at h
          rw [Syn.not_is hn,if_neg (by simp),if_pos rfl]
          exact line_eq f (l++[s]) j h
        | false =>
          simp only [Bool.false_eq_true,if_false]
          unfold Syn.want
          cases hx:Syn.is T j [59] with
          | true=>rfl
          | false =>
            have hno:Syn.name T j=.error (50,j):=by
              unfold Syn.named at hn
              unfold Syn.name
              cases hT:T j with
              | none=>rfl
              | some k=>rw [hT] at hn;simp only at hn ⊢;exact if_neg (by simpa using hn)
            simp only [Bool.false_eq_true,if_false]
            unfold prinP
            rw [hno];rfl
theorem lineG_fit {T:Nat→Option Syn.K} {n:Nat} (hN:∀ i,n≤i→T i=none) (f:Nat) (l:List (List Nat)) (i:Nat) (h:i≤n) (hF:n<f+i):Syn.Fit n (lineG T f l i) :=
  (Syn.namesF_fit hN f l i h hF).on fun _ _j _ hj=>(Syn.want_fit hN [59] hj).on fun _ _ _ hk=>Syn.Fit.ok _ hk
end
section
variable {ys:List It} {len bp bw i:Nat} {vp:Value} {w:World} {ns:List (List Nat)}
theorem mk_59b:Mk (bl ⟨#[59]⟩)=true:=by decide
set_option maxRecDepth 100000 in
set_option maxHeartbeats 1000000 in
theorem principalLine_any (hw:Ws ys) (h:PS ys len bp bw vp w i) (hn:NR w vp ns) :
    Calls Tryz.prog 116 #[.pointer (some ⟨bp,0,none⟩)] w (Ret ys len (TS bp vp) w (lineG (Tk ys) (ys.length+1) ns i) (NOk ys len bp bw vp w)):=by
  have hfit:=lineG_fit (tk_nones ys) (ys.length+1) ns i h.le (by omega)
  obtain ⟨RR,hRR⟩:∃ RR,lineG (Tk ys) (ys.length+1) ns i=RR:=⟨_,rfl⟩
  have heq:=line_eq (Tk ys) (ys.length+1) ns i (fun j e=>by rw [e] at hfit;exact Syn.Fit.no99 hfit rfl)
  rw [hRR] at hfit heq ⊢
  have HR0:=Lib.hid heq
  have HFIT:=Lib.hid hfit
  have h1:=ret_cases (principal_any hw h hn)
  clear hRR hfit heq h hn
  go_enter Tryz.func116,Tryz.ntmps116
  go_wp2_with fail
  go_at_call 141
  refine h1.mono ?_
  rintro e w1 ⟨hc1,⟨er,k,hr,rfl⟩ | ⟨l1,j1,hr,rfl,v1,hp1,hn1,ho1⟩⟩
  · exact ⟨rfl,ret_err (by rw [← HR0.out];unfold prinLP;rw [hr];rfl) hc1⟩
  have HR1:=Lib.hid (show prinsP (Tk ys) (ys.length+1) l1 j1=RR from by rw [← HR0.out];unfold prinLP;rw [hr];rfl)
  have HN1:=Lib.hid hn1
  have C1:=Lib.hid hc1
  have HP1:=Lib.hid hp1
  have HO1:=Lib.hid ho1
  clear hc1 hr h1 hp1 hn1 ho1
  go_wp2_with fail
  go_loopw [5] (fun _ wr=>∃ f l j v,Hid (prinsP (Tk ys) f l j=RR)∧Hid (PS ys len bp bw v wr j)∧Hid (NR wr v l)∧Hid (Ob vp w v)∧Hid (Chg (TS bp vp) w wr))
    (fun _ wr=>posW bp wr)
  case atStart=>exact ⟨ys.length+1,l1,j1,v1,HR1,HP1,HN1,HO1,C1⟩
  case round =>
    obtain ⟨f,l,j,v,HF,HPr,HNr,HOr,HCr⟩:=hrel
    cases f with
    | zero=>exact (HFIT.out.no99 (j:=j) (by rw [← HF.out];rfl)).elim
    | succ f =>
      have HPOS:=Lib.hid HPr.out.pos
      have hF:=HF.out
      rw [prinsP] at hF
      cases hx:Syn.is (Tk ys) j [59] with
      | true =>
        have HE:=Lib.hid (show RR=.ok (l,j+1) from by rw [← hF,hx,if_pos rfl])
        have hsk:=skip_t hw HPr.out ⟨#[59]⟩ mk_59b hx
        clear hx hF
        go_wp2_with (go_at_call 115;refine hsk.mono ?_;rintro e w3 ⟨rfl,hc3,hp3⟩)
        go_end0
        exact ret_ok HE.out (HCr.out.then (hc3.mono (fun k e=>.inl (.inl e)))) ⟨rfl,v,hp3,nr_next HNr.out HPr.out hc3,HOr.out⟩
      | false =>
        have hsk:=skip_f hw HPr.out ⟨#[59]⟩ mk_59b hx
        have hmem:=ret_cases (principal_any hw HPr.out HNr.out)
        have HSTEP:=Lib.hid (show (prinP (Tk ys) l j).on (fun l i=>prinsP (Tk ys) f l i)=RR from by rw [← hF,hx,if_neg (by simp)])
        clear hx hF
        go_wp2_with (go_at_call 115;refine hsk.mono ?_;rintro e w3 ⟨rfl,rfl⟩)
        go_at_call 141
        refine hmem.mono ?_
        rintro e w4 ⟨hc4,⟨er,k,hr,rfl⟩ | ⟨l4,j4,hr,rfl,v4,hp4,hn4,ho4⟩⟩
        · exact ⟨rfl,ret_err (by rw [← HSTEP.out,hr];rfl) (HCr.out.trans hc4 (fun k e=>HOr.out.ts k e))⟩
        have HF4:=Lib.hid (show prinsP (Tk ys) f l4 j4=RR from by rw [← HSTEP.out,hr];rfl)
        have hj4:j<j4:=by
          unfold prinP at hr
          obtain ⟨s1,i1,g1,g2⟩:=Syn.R.on_ok hr
          have:=(Syn.name_ok g1).2.1
          split at g2
          · cases g2
          · injection g2 with g2;injection g2 with _ g2;omega
        have hle4:=hp4.le
        have hpos4:=hp4.pos
        have HP4:=Lib.hid hp4
        have HN4:=Lib.hid hn4
        have HO4:=Lib.hid (HOr.out.trans ho4 HCr.out.size)
        have HC4:=Lib.hid (HCr.out.trans hc4 (fun k e=>HOr.out.ts k e))
        clear hc4 hr hp4 hn4 hmem hsk ho4
        go_wp2
        refine ⟨⟨f,l4,j4,v4,HF4,HP4,HN4,HO4,HC4⟩,?_⟩
        rw [hpos4,HPOS.out];omega
end
end Go.Proofs.YtlpdjfimefjmcaaGreatDoor.Q
