/- The kit's lent labels and code: they read as what came in, with a mark behind, in memory of their own. Instructions compared. The kit's kept labels and code: what was lent out reads as it did. The kit's lent function. The kit's kept function. Rows that grow; a row that is taken over; the module's ro -/
import Derived.Test.YthjkbfamkogoiaaShMorePR1
import Derived.Laws.StructEq
import Derived.BigQuiet
import Derived.Laws.Rows
import Derived.RangeFuncBox
import Derived.RangeFuncRecord
namespace Go.Proofs.Ythjkbfamkogoiaa
open Go Go.RowKit Go.Proofs.Mm
theorem infoI:∃ i,Try.prog.info? 35=some i∧i.zero=some (.agg #[.int .i64 0,.int .i64 0])∧i.size=2∧i.bytes=16:=infoOf (by kernel_rfl)
theorem und_I:Try.prog.underlying 43=some (.slice 35):=by kernel_rfl
theorem in_one (c:List Value) (x:Int × Int) (h:inR c x):∀ u ∈ c,u.oneCell'=true:=by rw [h];intro u hu;simp at hu;rcases hu with rfl | rfl <;> rfl
theorem lent_done {α:Type} {w w':World} {m:Mem} {E:TypeId} {size bs n c:Nat} {q:Option Addr} {cs mk:List Value} {R:Mem→List Value→α→Prop} {l:List α} (hm:Has w' m) (hv:∀ k,(Value.slice q (n+1) c).ownBlock=some k→m k=none)
    (hrow:w'.ownsRow w.heap.size E size (.slice q (n+1) c) (n+1) (cs++mk)) (hl:l.length=n) (he:Enc (R m) cs l) (hR:∀ m m':Mem,m.le m'→∀ c x,R m c x→R m' c x) (hb:n * bs≤140737488351232) :
    ∃ m',m.More w m'∧Has w' m'∧SlX mk bs (mC m') (R m') (.slice q n c) l:=by
  have hcap:n+1≤c∧c≤maxLen∧q ≠ none:=by
    rcases hrow.2 with ⟨_,h0⟩ | ⟨g',cap',cur,h0,_,_,h1,h2,_⟩
    · omega
    · injection h0 with h3 _ h4
      subst h4
      exact ⟨h1,h2,by rw [h3];simp⟩
  obtain ⟨m',h1,h2,h3,h4⟩:=RowM.done hrow hm hv
  refine ⟨m',⟨h1,fun k hk hlt=>?_⟩,h3,q,c,cs,by rw [hl],.inr (by omega),RowM.rdO h4,he.mono (hR _ _ h1),by rw [hl];exact hb,hcap.2.1,fun h=>absurd h hcap.2.2,by omega⟩
  cases hx:m' k with
  | none=>rfl
  | some o =>
    rcases h2 k (by rw [hx];simp) with h | h
    · exact absurd hk h
    · have:=(hrow.lt k h).1
      omega
theorem has_grown {w w':World} {m:Mem} (h:Has w m) (hb:Below w.heap.size w w'):Has w' m:=fun k o e=>by
  have:=h k o e
  rw [hb.block k (heap_lt this)];exact this
theorem enc_cells {α:Type} {C:Cl} {R:List Value→α→Prop} {l:List α} {cs:List Value} {g o:Nat} (_h:Enc R cs l) (hr:∀ j u,cs[j]?=some u→C ⟨g,o+j,none⟩=some u):∀ j u,cs[j]?=some u→C ((⟨g,o,none⟩:Addr).add j)=some u:=by
  intro j u hu
  rw [show ((⟨g,o,none⟩:Addr).add j)=⟨g,o+j,none⟩ from by unfold Addr.add;split <;> simp_all]
  exact hr j u hu
set_option maxRecDepth 100000 in
set_option maxHeartbeats 2000000 in
theorem lentLabels_any {w:World} {v:Value} {l:List Int} (h:LasR false (wC w) v l) {m:Mem} (hm:Has w m) :
    Calls Try.prog 18 #[v] w fun e w'=>∃ v' m',e=.returned v'∧Below w.heap.size w w'∧m.More w m'∧Has w' m'∧LasR true (mC m') v' l:=by
  obtain ⟨q,c,cs,rfl,_,hr,he,hb,hmax,hqn,hlc⟩:=h
  obtain ⟨n,hn⟩:∃ n,l.length=n:=⟨_,rfl⟩
  obtain ⟨hcl,_⟩:=encZ_at la_len he
  have hon:=one_enc la_one he
  have HE:=Lib.hid he
  have HN:=Lib.hid hn
  have HM:=Lib.hid hm
  rw [hn] at hb hcl hlc ⊢
  clear he hn hm
  obtain ⟨i2,h2,h3,h4,h5⟩:=infoL
  have hnil:=World.ownsRow_nil w w.heap.size 42 1
  have HF:=Lib.hid (show ∀ k,w.heap.size≤k→m k=none from fun k hk=>HM.out.lt hk)
  have hone:∀ u ∈ mkL true,u.oneCell'=true:=by intro u hu;simp only [mkL,if_true,List.mem_cons,List.not_mem_nil,or_false] at hu;(subst hu;rfl)
  rcases q with _ | ad
  · obtain rfl:c=0:=hqn rfl
    obtain rfl:n=0:=by omega
    have hc0:cs=[]:=List.eq_nil_of_length_eq_zero (by simpa using hcl)
    subst hc0
    have hR1:=hnil.alloc (.cells (mkL true).toArray 42)
    have hnew:=row_new w (mkL true) 42
    go_enter Try.func18,Try.ntmps18
    go_wp2_with (first | (at_builtin;refine wpList_append_own_none rfl _ _ 22 rfl w.heap.size 42 i2 1 und_L h2 _ 0 [] rfl hnil rfl ?_) | (at_builtin;refine wpList_append_own _ rfl _ _ 22 rfl w.heap.size 42 i2 _ 1 8 und_L h2 h3 h4 h5 rfl (by decide) _ 0 [] rfl hR1 ⟨w.heap.size,0,none⟩ 1 1 (mkL true) rfl rfl hnew hone (by unfold maxLen;omega) (by omega) (by simp) ?_))
    intro v2 w2 hR2 hg2 _
    obtain ⟨q2,c2,rfl⟩:=own_shape hR2
    have hB2:Below w.heap.size w w2:=grown_below ((Below.refl _ w).alloc (Nat.le_refl _) _) (by simp) hg2 (fun j hj=>(hR1.lt j hj).1)
    have HD:=Lib.hid (lent_done (w:=w) (bs:=8) (R:=fun _=>laR) (has_grown HM.out hB2) (fun k hk=>HF.out k (hR2.lt k hk).1) (by simpa using hR2) HN.out HE.out (fun _ _ _ _ _ h=>h) (by omega))
    have HB:=Lib.hid hB2
    have hcap:1≤c2:=by
      rcases hR2.2 with ⟨_,h0⟩ | ⟨g',cap',cur,h0,_,_,h1,_,_⟩
      · omega
      · injection h0 with _ _ h4
        omega
    clear hg2 hR1 hnil hB2 hR2
    go_wp2
    go_ret
    obtain ⟨m',d1,d2,d3⟩:=HD.out
    exact ⟨_,m',rfl,HB.out,d1,d2,d3⟩
  · have hcl2:∀ j u,cs[j]?=some u→w.cell? (ad.add j)=some u:=by
      rcases hr with hr | ⟨g,o,hq,hr⟩
      · have:=(List.append_eq_nil_iff.1 hr).1
        subst this
        intro j u hu
        simp at hu
      · injection hq with hq
        subst hq
        exact enc_cells HE.out (fun j u hu=>hr j u (by rw [List.getElem?_append_left ((List.getElem?_eq_some_iff.1 hu).1)];exact hu))
    clear hr
    go_enter Try.func18,Try.ntmps18
    go_wp2_with (at_builtin;refine wpList_append_own _ rfl _ _ 22 rfl w.heap.size 42 i2 _ 1 8 und_L h2 h3 h4 h5 rfl (by decide) _ 0 [] rfl hnil ad n c cs rfl hcl hcl2 hon (by unfold maxLen;omega) (by omega) (Nat.le_refl _) ?_)
    intro v1 w1 hR1 hg1 _
    obtain ⟨q1,c1,rfl⟩:=own_shape hR1
    have hB1:Below w.heap.size w w1:=grown_below (Below.refl _ w) (Nat.le_refl _) hg1 (fun j hj=>by cases hj)
    have hw1:=hB1.size
    have hR1':=hR1.alloc (.cells (mkL true).toArray 42)
    have hnew:=row_new w1 (mkL true) 42
    try simp only [Nat.zero_add,List.nil_append] at hR1 hR1'
    clear hg1 hnil hcl2 hon hR1
    go_wp2_with (at_builtin;refine wpList_append_own _ rfl _ _ 22 rfl w.heap.size 42 i2 _ 1 8 und_L h2 h3 h4 h5 rfl (by decide) _ n cs rfl hR1' ⟨w1.heap.size,0,none⟩ 1 1 (mkL true) rfl rfl hnew hone (by unfold maxLen;omega) (by omega) (by simp <;> omega) ?_)
    intro v2 w2 hR2 hg2 _
    obtain ⟨q2,c2,rfl⟩:=own_shape hR2
    have hB2:Below w.heap.size w w2:=grown_below (hB1.alloc hw1 _) (by simp;omega) hg2 (fun j hj=>(hR1'.lt j hj).1)
    have HD:=Lib.hid (lent_done (w:=w) (bs:=8) (R:=fun _=>laR) (has_grown HM.out hB2) (fun k hk=>HF.out k (hR2.lt k hk).1) hR2 HN.out HE.out (fun _ _ _ _ _ h=>h) (by omega))
    have HB:=Lib.hid hB2
    have hcap:n+1≤c2:=by
      rcases hR2.2 with ⟨_,h0⟩ | ⟨g',cap',cur,h0,_,_,h1,_,_⟩
      · omega
      · injection h0 with _ _ h4
        omega
    clear hg2 hR1' hB2 hR2 hB1
    go_wp2
    go_ret
    obtain ⟨m',d1,d2,d3⟩:=HD.out
    exact ⟨_,m',rfl,HB.out,d1,d2,d3⟩
set_option maxRecDepth 100000 in
set_option maxHeartbeats 2000000 in
theorem lentCode_any {w:World} {v:Value} {l:List (Int × Int)} (h:CdR false (wC w) v l) {m:Mem} (hm:Has w m) :
    Calls Try.prog 28 #[v] w fun e w'=>∃ v' m',e=.returned v'∧Below w.heap.size w w'∧m.More w m'∧Has w' m'∧CdR true (mC m') v' l:=by
  obtain ⟨q,c,cs,rfl,_,hr,he,hb,hmax,hqn,hlc⟩:=h
  obtain ⟨n,hn⟩:∃ n,l.length=n:=⟨_,rfl⟩
  obtain ⟨hcl,_⟩:=encZ_at in_len he
  have hon:=one_enc in_one he
  have HE:=Lib.hid he
  have HN:=Lib.hid hn
  have HM:=Lib.hid hm
  rw [hn] at hb hcl hlc ⊢
  clear he hn hm
  obtain ⟨i2,h2,h3,h4,h5⟩:=infoI
  have hnil:=World.ownsRow_nil w w.heap.size 35 2
  have HF:=Lib.hid (show ∀ k,w.heap.size≤k→m k=none from fun k hk=>HM.out.lt hk)
  have hone:∀ u ∈ mkI true,u.oneCell'=true:=by intro u hu;simp only [mkI,if_true,List.mem_cons,List.not_mem_nil,or_false] at hu;(rcases hu with rfl | rfl <;> rfl)
  rcases q with _ | ad
  · obtain rfl:c=0:=hqn rfl
    obtain rfl:n=0:=by omega
    have hc0:cs=[]:=List.eq_nil_of_length_eq_zero (by simpa using hcl)
    subst hc0
    have hR1:=hnil.alloc (.cells (mkI true).toArray 35)
    have hnew:=row_new w (mkI true) 35
    go_enter Try.func28,Try.ntmps28
    go_wp2_with (first | (at_builtin;refine wpList_append_own_none rfl _ _ 43 rfl w.heap.size 35 i2 2 und_I h2 _ 0 [] rfl hnil rfl ?_) | (at_builtin;refine wpList_append_own _ rfl _ _ 43 rfl w.heap.size 35 i2 _ 2 16 und_I h2 h3 h4 h5 rfl (by decide) _ 0 [] rfl hR1 ⟨w.heap.size,0,none⟩ 1 1 (mkI true) rfl rfl hnew hone (by unfold maxLen;omega) (by omega) (by simp) ?_))
    intro v2 w2 hR2 hg2 _
    obtain ⟨q2,c2,rfl⟩:=own_shape hR2
    have hB2:Below w.heap.size w w2:=grown_below ((Below.refl _ w).alloc (Nat.le_refl _) _) (by simp) hg2 (fun j hj=>(hR1.lt j hj).1)
    have HD:=Lib.hid (lent_done (w:=w) (bs:=16) (R:=fun _=>inR) (has_grown HM.out hB2) (fun k hk=>HF.out k (hR2.lt k hk).1) (by simpa using hR2) HN.out HE.out (fun _ _ _ _ _ h=>h) (by omega))
    have HB:=Lib.hid hB2
    have hcap:1≤c2:=by
      rcases hR2.2 with ⟨_,h0⟩ | ⟨g',cap',cur,h0,_,_,h1,_,_⟩
      · omega
      · injection h0 with _ _ h4
        omega
    clear hg2 hR1 hnil hB2 hR2
    go_wp2
    go_ret
    obtain ⟨m',d1,d2,d3⟩:=HD.out
    exact ⟨_,m',rfl,HB.out,d1,d2,d3⟩
  · have hcl2:∀ j u,cs[j]?=some u→w.cell? (ad.add j)=some u:=by
      rcases hr with hr | ⟨g,o,hq,hr⟩
      · have:=(List.append_eq_nil_iff.1 hr).1
        subst this
        intro j u hu
        simp at hu
      · injection hq with hq
        subst hq
        exact enc_cells HE.out (fun j u hu=>hr j u (by rw [List.getElem?_append_left ((List.getElem?_eq_some_iff.1 hu).1)];exact hu))
    clear hr
    go_enter Try.func28,Try.ntmps28
    go_wp2_with (at_builtin;refine wpList_append_own _ rfl _ _ 43 rfl w.heap.size 35 i2 _ 2 16 und_I h2 h3 h4 h5 rfl (by decide) _ 0 [] rfl hnil ad n c cs rfl hcl hcl2 hon (by unfold maxLen;omega) (by omega) (Nat.le_refl _) ?_)
    intro v1 w1 hR1 hg1 _
    obtain ⟨q1,c1,rfl⟩:=own_shape hR1
    have hB1:Below w.heap.size w w1:=grown_below (Below.refl _ w) (Nat.le_refl _) hg1 (fun j hj=>by cases hj)
    have hw1:=hB1.size
    have hR1':=hR1.alloc (.cells (mkI true).toArray 35)
    have hnew:=row_new w1 (mkI true) 35
    try simp only [Nat.zero_add,List.nil_append] at hR1 hR1'
    clear hg1 hnil hcl2 hon hR1
    go_wp2_with (at_builtin;refine wpList_append_own _ rfl _ _ 43 rfl w.heap.size 35 i2 _ 2 16 und_I h2 h3 h4 h5 rfl (by decide) _ n cs rfl hR1' ⟨w1.heap.size,0,none⟩ 1 1 (mkI true) rfl rfl hnew hone (by unfold maxLen;omega) (by omega) (by simp <;> omega) ?_)
    intro v2 w2 hR2 hg2 _
    obtain ⟨q2,c2,rfl⟩:=own_shape hR2
    have hB2:Below w.heap.size w w2:=grown_below (hB1.alloc hw1 _) (by simp;omega) hg2 (fun j hj=>(hR1'.lt j hj).1)
    have HD:=Lib.hid (lent_done (w:=w) (bs:=16) (R:=fun _=>inR) (has_grown HM.out hB2) (fun k hk=>HF.out k (hR2.lt k hk).1) hR2 HN.out HE.out (fun _ _ _ _ _ h=>h) (by omega))
    have HB:=Lib.hid hB2
    have hcap:n+1≤c2:=by
      rcases hR2.2 with ⟨_,h0⟩ | ⟨g',cap',cur,h0,_,_,h1,_,_⟩
      · omega
      · injection h0 with _ _ h4
        omega
    clear hg2 hR1' hB2 hR2 hB1
    go_wp2
    go_ret
    obtain ⟨m',d1,d2,d3⟩:=HD.out
    exact ⟨_,m',rfl,HB.out,d1,d2,d3⟩
end Go.Proofs.Ythjkbfamkogoiaa
namespace Go.Proofs.Ythjkbfamkogoiaa
open Go Go.RowKit
end Go.Proofs.Ythjkbfamkogoiaa
namespace Go.Proofs.Ythjkbfamkogoiaa
open Go Go.RowKit Go.Proofs.Mm
section
variable {lt:Bool} {C:Cl} {q:Option Addr} {n c:Nat}
def LaAt (C:Cl) (q:Option Addr) (l:List Int):Prop:=∀ j (hj:j<l.length),∃ g o,q=some ⟨g,o,none⟩∧C ⟨g,o+j,none⟩=some (.int .u64 l[j])
def InAt (C:Cl) (q:Option Addr) (l:List (Int × Int)):Prop:=∀ j (hj:j<l.length),∃ g o,q=some ⟨g,o,none⟩∧C ⟨g,o+j * 2,none⟩=some (.int .i64 l[j].1)∧C ⟨g,o+j * 2+1,none⟩=some (.int .i64 l[j].2)
def ArAt (C:Cl) (q:Option Addr) (l:List (Int × Int)):Prop:=∀ j (hj:j<l.length),∃ g o,q=some ⟨g,o,none⟩∧C ⟨g,o+j * 2,none⟩=some (.int .i64 l[j].1)∧C ⟨g,o+j * 2+1,none⟩=some (.int .u64 l[j].2)
theorem LasR.cells {l:List Int} (h:LasR lt C (.slice q n c) l):LaAt C q l:=by
  intro j hj
  obtain ⟨g,o,e,h1,rfl,h3⟩:=slx_at (size:=1) h (by decide) la_len j hj
  refine ⟨g,o,h1,?_⟩
  have:=h3 0 _ (by decide) rfl
  simpa using this
theorem CdR.cells {l:List (Int × Int)} (h:CdR lt C (.slice q n c) l):InAt C q l:=by
  intro j hj
  obtain ⟨g,o,e,h1,rfl,h3⟩:=slx_at (size:=2) h (by decide) in_len j hj
  exact ⟨g,o,h1,h3 0 _ (by decide) rfl,h3 1 _ (by decide) rfl⟩
theorem ArsR.cells {l:List (Int × Int)} (h:ArsR lt C (.slice q n c) l):ArAt C q l:=by
  intro j hj
  obtain ⟨g,o,e,h1,rfl,h3⟩:=slx_at (size:=2) h (by decide) ar_len j hj
  exact ⟨g,o,h1,h3 0 _ (by decide) rfl,h3 1 _ (by decide) rfl⟩
theorem slx_mark {α:Type} {mk:List Value} {bs:Nat} {R:List Value→α→Prop} {l:List α} {size:Nat} (h:SlX mk (bs+1) C R (.slice q n c) l) (hs:0<size) (hR:∀ c x,R c x→c.length=size) (hmk:mk ≠ []) :
    n=l.length∧n+1≤c∧c≤maxLen∧∃ g o,q=some ⟨g,o,none⟩∧∀ r u,mk[r]?=some u→C ⟨g,o+n * size+r,none⟩=some u:=by
  obtain ⟨q',c',e1,h2,_,h4,_,h6⟩:=h.at hs hR
  injection e1 with e1 e2 e3
  subst e1 e2 e3
  obtain ⟨g,o,hq,hm⟩:=h6.resolve_left hmk
  exact ⟨rfl,h2.resolve_left hmk,h4,g,o,hq,fun r u hu=>by rw [Nat.add_assoc];exact hm r u hu⟩
end
end Go.Proofs.Ythjkbfamkogoiaa
namespace Go.Proofs.Ythjkbfamkogoiaa
open Go Go.RowKit Go.Proofs.Mm
theorem undOf {P:Program} {t:TypeId} (h:(P.underlying t).map (fun d=>match d with | .struct _ | .array _ _=>true | _=>false)=some true):∃ d,P.underlying t=some d∧(match d with | .struct _ | .array _ _=>true | _=>false)=true:=by
  cases hd:P.underlying t with
  | none=>rw [hd] at h;cases h
  | some d =>
    rw [hd] at h
    exact ⟨d,rfl,by simpa using h⟩
section
variable {w w1 w2:World} {m m1 m2:Mem} {b:Nat} {cs:Array Value} {T:TypeId}
structure Kp (w:World) (m:Mem) (b:Nat) (cs:Array Value) (T:TypeId) (w':World) (m':Mem):Prop where
  below:Below w.heap.size w w'
  has:Has w' m'
  more:m.More w m'
  le:w.heap.size≤b
  lies:w'.heap[b]?=some (.cells cs T (0,0))
  new:m' b=none
theorem Kp.step (h:Kp w m b cs T w1 m1) (hb:Below w1.heap.size w1 w2) (hmo:m1.More w1 m2) (hH:Has w2 m2):Kp w m b cs T w2 m2 :=
  ⟨h.below.trans (hb.mono h.below.size),hH,h.more.trans hmo h.below.size,h.le,by rw [hb.block _ (heap_lt h.lies)];exact h.lies,hmo.new b h.new (heap_lt h.lies)⟩
theorem Kp.set (h:Kp w m b cs T w1 m1) (i:Nat) (v:Value):Kp w m b (cs.setIfInBounds i v) T (w1.setCell ⟨b,i,none⟩ v) m1 :=
  ⟨h.below.setCell h.le v,h.has.chg ((Chg.refl (fun k=>k=b) w1).setCell (.inl rfl) _) (fun k e=>by rw [e];exact h.new),h.more,h.le,heap_set h.lies i v,h.new⟩
theorem Kp.cell (h:Kp w m b cs T w1 m1) {i:Nat} {v:Value} (hv:cs[i]?=some v):w1.cell? ⟨b,i,none⟩=some v:=cell_of h.lies hv
theorem Kp.free (h:Kp w m b cs T w1 m1) (i:Nat):w1.frozen? ⟨b,i,none⟩=false:=free_of h.lies
theorem Kp.start (hm:Has w m) (cs:Array Value) (T:TypeId):Kp w m w.heap.size cs T (w.alloc (.cells cs T)) m :=
  ⟨(Below.refl _ w).alloc (Nat.le_refl _) _,has_grown hm ((Below.refl _ w).alloc (Nat.le_refl _) _),Mem.More.refl _ _,Nat.le_refl _,World.alloc_heap_new _ _,hm.lt (Nat.le_refl _)⟩
end
theorem undFn:∃ d,Try.prog.underlying 45=some d∧(match d with | .struct _ | .array _ _=>true | _=>false)=true:=undOf (by kernel_rfl)
theorem sizeFn:(Try.prog.info? 45).map (·.size)=some 6:=by kernel_rfl
set_option maxRecDepth 100000 in
set_option maxHeartbeats 4000000 in
theorem lentFunction_any {w:World} {cs:List Value} {f:FnM} (h:FnR1 false (wC w) cs f) {m:Mem} (hm:Has w m) :
    Calls Try.prog 17 #[.agg cs.toArray] w fun e w'=>∃ cs' m',e=.returned (.agg cs'.toArray)∧Below w.heap.size w w'∧m.More w m'∧Has w' m'∧FnR1 true (mC m') cs' f:=by
  obtain ⟨vp,vr,vc,rfl,hp,hr,hc⟩:=h
  obtain ⟨qp,cp,rfl⟩:=slx_shape hp
  obtain ⟨qr,cr,rfl⟩:=slx_shape hr
  obtain ⟨qc,cc,rfl⟩:=slx_shape hc
  obtain ⟨np,hnp⟩:∃ n,f.params.length=n:=⟨_,rfl⟩
  obtain ⟨nr,hnr⟩:∃ n,f.results.length=n:=⟨_,rfl⟩
  obtain ⟨nc,hnc⟩:∃ n,f.code.length=n:=⟨_,rfl⟩
  rw [hnp] at hp ⊢
  rw [hnr] at hr ⊢
  rw [hnc] at hc ⊢
  obtain ⟨lv,hlv⟩:∃ n,f.level=n:=⟨_,rfl⟩
  obtain ⟨lo,hlo⟩:∃ n,f.locals=n:=⟨_,rfl⟩
  obtain ⟨stk,hst⟩:∃ n,f.stack=n:=⟨_,rfl⟩
  rw [hlv,hlo,hst]
  have HP:=Lib.hid hp
  have HR:=Lib.hid hr
  have HC:=Lib.hid hc
  have HNP:=Lib.hid hnp
  have HNR:=Lib.hid hnr
  have HNC:=Lib.hid hnc
  have HLV:=Lib.hid hlv
  have HLO:=Lib.hid hlo
  have HST:=Lib.hid hst
  have HM:=Lib.hid hm
  clear hp hr hc hnp hnr hnc hlv hlo hst hm
  go_enter Try.func17,Try.ntmps17
  go_wp2_with fail
  obtain ⟨W6,hW6⟩:∃ W6,(w.alloc (.cells #[.int .u64 lv,.slice qp np cp,.slice qr nr cr,.int .i64 lo,.int .i64 stk,.slice qc nc cc] 45)).alloc (.cells #[.int .u64 0,.slice none 0 0,.slice none 0 0,.int .i64 0,.int .i64 0,.slice none 0 0] 45)=W6:=⟨_,rfl⟩
  have HP0:=Lib.hid (show Kp w m w.heap.size #[.int .u64 lv,.slice qp np cp,.slice qr nr cr,.int .i64 lo,.int .i64 stk,.slice qc nc cc] 45 W6 m by rw [← hW6];exact (Kp.start HM.out _ _).step ((Below.refl _ _).alloc (Nat.le_refl _) _) (Mem.More.refl _ _) (has_grown (Kp.start HM.out _ _).has ((Below.refl _ _).alloc (Nat.le_refl _) _)))
  have hz:W6.heap.size=w.heap.size+1+1:=by rw [← hW6];simp
  have HZHP0:=Lib.hid (show W6.heap[w.heap.size+1]?=some (.cells #[.int .u64 0,.slice none 0 0,.slice none 0 0,.int .i64 0,.int .i64 0,.slice none 0 0] 45 (0,0)) by
    have h9:=World.alloc_heap_new (w.alloc (.cells #[.int .u64 lv,.slice qp np cp,.slice qr nr cr,.int .i64 lo,.int .i64 stk,.slice qc nc cc] 45)) (.cells #[.int .u64 0,.slice none 0 0,.slice none 0 0,.int .i64 0,.int .i64 0,.slice none 0 0] 45)
    rwa [show (w.alloc (.cells #[.int .u64 lv,.slice qp np cp,.slice qr nr cr,.int .i64 lo,.int .i64 stk,.slice qc nc cc] 45)).heap.size=w.heap.size+1 by simp,hW6] at h9)
  have HSZ:=Lib.hid hz
  have HLNHP0:=Lib.hid (HM.out.lt (Nat.le_succ w.heap.size))
  clear hz
  rw [hW6]
  clear hW6
  go_at_call 18
  refine (lentLabels_any (HP.out.le (below_cle HP0.out.below)) HP0.out.has).mono ?_
  rintro e y1 ⟨x,e1,rfl,hb,hmo,hH,hS⟩
  obtain ⟨pp,dp,rfl⟩:=slx_shape hS
  rw [HNP.out] at hS ⊢
  have HR1:=Lib.hid hS
  have hP:=HP0.out.step hb hmo hH
  have HLF1:=Lib.hid hmo.le
  have HLNHP1:=Lib.hid (hmo.new (w.heap.size+1) HLNHP0.out (heap_lt HZHP0.out))
  have HZHP1:=Lib.hid (heap_other (b:=w.heap.size) (j:=1) (v:=.slice pp np dp) ((hb.block (w.heap.size+1) (heap_lt HZHP0.out)).trans HZHP0.out) (by omega))
  clear hS hb hmo hH
  have HP1:=Lib.hid (hP.set 1 (.slice pp np dp))
  have ff:=hP.free 1
  have gg:=hP.cell (i:=1) rfl
  have jj:=hP.cell (i:=2) rfl
  have hle:=hP.below.size
  clear hP
  go_wp2_with fail
  clear ff gg hle jj
  go_at_call 18
  refine (lentLabels_any (HR.out.le (below_cle HP1.out.below)) HP1.out.has).mono ?_
  rintro e y2 ⟨x,e2,rfl,hb,hmo,hH,hS⟩
  obtain ⟨pr,dr,rfl⟩:=slx_shape hS
  rw [HNR.out] at hS ⊢
  have HR2:=Lib.hid hS
  have hP:=HP1.out.step hb hmo hH
  have HLF2:=Lib.hid hmo.le
  have HLNHP2:=Lib.hid (hmo.new (w.heap.size+1) HLNHP1.out (heap_lt HZHP1.out))
  have HZHP2:=Lib.hid (heap_other (b:=w.heap.size) (j:=2) (v:=.slice pr nr dr) ((hb.block (w.heap.size+1) (heap_lt HZHP1.out)).trans HZHP1.out) (by omega))
  clear hS hb hmo hH
  have HP2:=Lib.hid (hP.set 2 (.slice pr nr dr))
  have ff:=hP.free 2
  have gg:=hP.cell (i:=2) rfl
  have jj:=hP.cell (i:=5) rfl
  have hle:=hP.below.size
  clear hP
  go_wp2_with fail
  clear ff gg hle jj
  go_at_call 28
  refine (lentCode_any (HC.out.le (below_cle HP2.out.below)) HP2.out.has).mono ?_
  rintro e y3 ⟨x,e3,rfl,hb,hmo,hH,hS⟩
  obtain ⟨pc,dc,rfl⟩:=slx_shape hS
  rw [HNC.out] at hS ⊢
  have HR3:=Lib.hid hS
  have hP:=HP2.out.step hb hmo hH
  have HLF5:=Lib.hid hmo.le
  have HLNHP3:=Lib.hid (hmo.new (w.heap.size+1) HLNHP2.out (heap_lt HZHP2.out))
  have HZHP3:=Lib.hid (heap_other (b:=w.heap.size) (j:=5) (v:=.slice pc nc dc) ((hb.block (w.heap.size+1) (heap_lt HZHP2.out)).trans HZHP2.out) (by omega))
  clear hS hb hmo hH
  have HP3:=Lib.hid (hP.set 5 (.slice pc nc dc))
  have ff:=hP.free 5
  have gg:=hP.cell (i:=5) rfl
  have hle:=hP.below.size
  clear hP
  obtain ⟨W7,hW7⟩:∃ W7,y3.setCell ⟨w.heap.size,5,none⟩ (.slice pc nc dc)=W7:=⟨_,rfl⟩
  rw [hW7] at HP3
  have t0:W7.cell? ⟨w.heap.size,0,none⟩=some (.int .u64 lv):=HP3.out.cell rfl
  have t1:W7.cell? ⟨w.heap.size,1,none⟩=some (.slice pp np dp):=HP3.out.cell rfl
  have t2:W7.cell? ⟨w.heap.size,2,none⟩=some (.slice pr nr dr):=HP3.out.cell rfl
  have t3:W7.cell? ⟨w.heap.size,3,none⟩=some (.int .i64 lo):=HP3.out.cell rfl
  have t4:W7.cell? ⟨w.heap.size,4,none⟩=some (.int .i64 stk):=HP3.out.cell rfl
  have t5:W7.cell? ⟨w.heap.size,5,none⟩=some (.slice pc nc dc):=HP3.out.cell rfl
  have hx1:W7.heap[w.heap.size+1]?=_:=hW7 ▸ HZHP3.out
  have k0:=cell_of (j:=0) hx1 rfl
  have k1:=cell_of (j:=1) hx1 rfl
  have k2:=cell_of (j:=2) hx1 rfl
  have k3:=cell_of (j:=3) hx1 rfl
  have k4:=cell_of (j:=4) hx1 rfl
  have k5:=cell_of (j:=5) hx1 rfl
  have l0:=free_of (j:=0) hx1
  have l1:=free_of (j:=1) hx1
  have l2:=free_of (j:=2) hx1
  have l3:=free_of (j:=3) hx1
  have l4:=free_of (j:=4) hx1
  have l5:=free_of (j:=5) hx1
  go_wp2
  (try simp only [Exit.inBlock,Exit.then])
  try rw [hW7]
  clear hW7
  obtain ⟨d9,u1,u2⟩:=undFn
  have hx3:=heap_set (heap_set (heap_set (heap_set (heap_set (heap_set hx1 0 (.int .u64 lv)) 1 (.slice pp np dp)) 2 (.slice pr nr dr)) 3 (.int .i64 lo)) 4 (.int .i64 stk)) 5 (.slice pc nc dc)
  refine bodyPost_ret (results_cell_row rfl _ _ (w.heap.size+1) 45 _ (0,0) d9 rfl hx3 u1 (by cases d9 <;> first | rfl | cases u2) sizeFn) rfl ?_
  have h0:e3 (w.heap.size+1)=none:=HLNHP3.out
  have st:∀ (W:World) i v,Has W e3→Has (W.setCell ⟨w.heap.size+1,i,none⟩ v) e3:=fun W i v h=>h.chg ((Chg.refl (fun k=>k=w.heap.size+1) W).setCell (.inl rfl) v) (fun k e=>by rw [e];exact h0)
  have hq:w.heap.size≤w.heap.size+1:=Nat.le_succ _
  refine ⟨[.int .u64 lv,.slice pp np dp,.slice pr nr dr,.int .i64 lo,.int .i64 stk,.slice pc nc dc],e3,rfl,?_,HP3.out.more,st _ 5 _ (st _ 4 _ (st _ 3 _ (st _ 2 _ (st _ 1 _ (st _ 0 _ HP3.out.has))))),?_⟩
  · exact ((((((HP3.out.below).setCell hq _).setCell hq _).setCell hq _).setCell hq _).setCell hq _).setCell hq _
  · exact ⟨_,_,_,by rw [HLV.out,HLO.out,HST.out],HR1.out.le (mle_cle (HLF2.out.trans HLF5.out)),HR2.out.le (mle_cle HLF5.out),HR3.out⟩
end Go.Proofs.Ythjkbfamkogoiaa
namespace Go.Proofs.Ythjkbfamkogoiaa
open Go Go.RowKit Go.Proofs.Mm
end Go.Proofs.Ythjkbfamkogoiaa
namespace Go.Proofs.Ythjkbfamkogoiaa
open Go Go.RowKit Go.Proofs.Mm
theorem infoFn:∃ i,Try.prog.info? 45=some i∧i.zero=some (.agg #[.int .u64 0,.slice none 0 0,.slice none 0 0,.int .i64 0,.int .i64 0,.slice none 0 0])∧i.size=6∧i.bytes=96:=infoOf (by kernel_rfl)
theorem und_Fn:Try.prog.underlying 24=some (.slice 45):=by kernel_rfl
theorem undMo:∃ d,Try.prog.underlying 26=some d∧(match d with | .struct _ | .array _ _=>true | _=>false)=true:=undOf (by kernel_rfl)
theorem sizeMo:(Try.prog.info? 26).map (·.size)=some 4:=by kernel_rfl
def RwI {α:Type} (E:TypeId) (size:Nat) (R:Mem→List Value→α→Prop) (w:World) (m:Mem) (n:Nat) (l:List α) (vF iV:Value) (wr:World):Prop :=
  ∃ k q c cs m',k≤n∧iV=.int .i64 (k:Nat)∧vF=.slice q k c∧Hid (wr.ownsRow w.heap.size E size (.slice q k c) k cs)∧Hid (Enc (R m') cs (l.take k))∧Hid (Has wr m')∧Hid (m.More w m')∧Hid (∀ b,(Value.slice q k c).ownBlock=some b→m' b=none)∧Hid (Below w.heap.size w wr)
theorem RwI.start {α:Type} {E:TypeId} {size:Nat} {R:Mem→List Value→α→Prop} {w:World} {m:Mem} {n:Nat} {l:List α} (h:Has w m):RwI E size R w m n l (.slice none 0 0) (.int .i64 0) w :=
  ⟨0,none,0,[],m,Nat.zero_le _,rfl,rfl,Lib.hid (World.ownsRow_nil _ _ _ _),Lib.hid Enc.nil,Lib.hid h,Lib.hid (Mem.More.refl _ _),Lib.hid (fun b hb=>by cases hb),Lib.hid (Below.refl _ _)⟩
theorem rw_step {α:Type} {E:TypeId} {size:Nat} {R:Mem→List Value→α→Prop} {w wr w' w9:World} {m m' m'':Mem} {k c:Nat} {q:Option Addr} {l:List α} {cs news:List Value} {v9:Value} {o:Obj} (hk:k<l.length)
    (hE:Enc (R m') cs (l.take k)) (hMo:m.More w m') (hFr:∀ b,(Value.slice q k c).ownBlock=some b→m' b=none) (hB:Below w.heap.size w wr) (hrow:wr.ownsRow w.heap.size E size (.slice q k c) k cs)
    (hb:Below wr.heap.size wr w') (hmo:m'.More wr m'') (hH:Has w' m'') (hR:∀ m m':Mem,m.le m'→∀ c x,R m c x→R m' c x) (hx:R m'' news l[k])
    (hown:w9.ownsRow w.heap.size E size v9 (k+1) (cs++news)) (hg:(w'.alloc o).grownBy w9 (Value.slice q k c).ownBlock) (hat:v9.ownBlock=(Value.slice q k c).ownBlock ∨ v9.ownBlock=some (w'.heap.size+1)) :
    ∃ q9 c9,v9=.slice q9 (k+1) c9∧Hid (w9.ownsRow w.heap.size E size (.slice q9 (k+1) c9) (k+1) (cs++news))∧Hid (Enc (R m'') (cs++news) (l.take (k+1)))∧Hid (Has w9 m'')∧Hid (m.More w m'')∧Hid (∀ b,(Value.slice q9 (k+1) c9).ownBlock=some b→m'' b=none)∧Hid (Below w.heap.size w w9):=by
  obtain ⟨q9,c9,rfl⟩:=own_shape hown
  have h1:=hB.size
  have h2:=hb.size
  have hfr:∀ b,(Value.slice q k c).ownBlock=some b→m'' b=none:=fun b e=>hmo.new b (hFr b e) (hrow.lt b e).2
  have hC:Chg (fun b=>(Value.slice q k c).ownBlock=some b) w' w9:=((Chg.refl _ w').alloc _).then (grown_chg hg (fun b hb=>.inl hb))
  refine ⟨q9,c9,rfl,Lib.hid hown,Lib.hid ?_,Lib.hid (hH.chg hC hfr),Lib.hid (hMo.trans hmo h1),Lib.hid (fun b hb=>?_),Lib.hid ?_⟩
  · rw [List.take_succ_eq_append_getElem hk]
    exact (hE.mono (hR _ _ hmo.le)).app (Enc.one hx)
  · rcases hat with hat | hat
    · exact hfr b (hat.symm.trans hb)
    · have:=hat.symm.trans hb
      injection this with this
      exact hH.lt (by omega)
  · exact grown_below ((hB.trans (hb.mono h1)).alloc (by omega) _) (by simp;omega) hg (fun j hj=>(hrow.lt j hj).1)
theorem rw_end {α:Type} {E:TypeId} {size bs:Nat} {R:Mem→List Value→α→Prop} {w wr w9:World} {m m':Mem} {n c:Nat} {q:Option Addr} {l:List α} {cs mk:List Value} {v9:Value} {o:Obj} (hn:l.length=n)
    (hE:Enc (R m') cs (l.take n)) (hMo:m.More w m') (hFr:∀ b,(Value.slice q n c).ownBlock=some b→m' b=none) (hB:Below w.heap.size w wr) (hrow:wr.ownsRow w.heap.size E size (.slice q n c) n cs) (hH:Has wr m') (hR:∀ m m':Mem,m.le m'→∀ c x,R m c x→R m' c x)
    (hown:w9.ownsRow w.heap.size E size v9 (n+1) (cs++mk)) (hg:(wr.alloc o).grownBy w9 (Value.slice q n c).ownBlock) (hat:v9.ownBlock=(Value.slice q n c).ownBlock ∨ v9.ownBlock=some (wr.heap.size+1)) (hb:n * bs≤140737488351232) :
    ∃ q9 c9,v9=.slice q9 (n+1) c9∧n+1≤c9∧(∃ g9,q9=some ⟨g9,0,none⟩)∧Hid (∃ m9,m.More w m9∧Has w9 m9∧SlX mk bs (mC m9) (R m9) (.slice q9 n c9) l)∧Hid (Below w.heap.size w w9):=by
  obtain ⟨q9,c9,rfl⟩:=own_shape hown
  have h1:=hB.size
  have hC:Chg (fun b=>(Value.slice q n c).ownBlock=some b) wr w9:=((Chg.refl _ wr).alloc _).then (grown_chg hg (fun b hb=>.inl hb))
  have hcap:n+1≤c9∧∃ g9,q9=some ⟨g9,0,none⟩:=by
    rcases hown.2 with ⟨_,h0⟩ | ⟨g',cap',cur,h0,_,_,h1,_,_⟩
    · omega
    · injection h0 with h3 _ h4
      exact ⟨by omega,g',h3⟩
  obtain ⟨m9,d1,d2,d3⟩:=lent_done (w:=w) (bs:=bs) (R:=R) (hH.chg hC hFr) (fun b hb=>by
    rcases hat with hat | hat
    · exact hFr b (hat.symm.trans hb)
    · have:=hat.symm.trans hb
      injection this with this
      exact hH.lt (by omega)) hown hn (by rwa [List.take_of_length_le (by omega)] at hE) hR hb
  exact ⟨q9,c9,rfl,hcap.1,hcap.2,Lib.hid ⟨m9,hMo.trans d1 (Nat.le_refl _),d2,d3⟩,Lib.hid (grown_below (hB.alloc h1 _) (by simp;omega) hg (fun j hj=>(hrow.lt j hj).1))⟩
section
variable {P:Program}
theorem wpList_append_rd {ops:Array Oper} {rest:List Oper} {o:Oper} {a:Act} {w:World} {Q:Exit→Act→World→Prop} (hgd:o.guard=none) (s x:Operand) (t:TypeId)
    (ho:o.op=.call { callee:=.builtin .append,args:=#[s,x],argTypes:=#[t,t] })
    (e:TypeId) (i:TypeInfo) (z:Value) (size bytes:Nat) (ht:P.underlying t=some (.slice e)) (hi:P.info? e=some i) (hz:i.zero=some z)
    (hsize:i.size=size) (hby:i.bytes=bytes) (hzs:z.cells.size=size) (hsz:0<size)
    (hs:a.eval s=.slice none 0 0)
    (q:Option Addr) (m c:Nat) (news:List Value) (hx:a.eval x=.slice q m c) (hq:q=none→c=0) (hmc:m≤c) (hl:news.length=m * size) (hnews:∀ ad,q=some ad→∀ j u,news[j]?=some u→w.cell? (ad.add j)=some u) (h1:∀ u ∈ news,u.oneCell'=true)
    (h63:m≤maxLen) (hbytes:m * bytes≤140737488355328)
    (h:∀ q' c' w',w'.ownsRow w.heap.size e size (.slice q' m c') m news→Below w.heap.size w w'→wpList P ops Q rest (a.put o.dst (.slice q' m c')) w') :
    wpList P ops Q (o :: rest) a w:=by
  have hnil:=World.ownsRow_nil w w.heap.size e size
  rcases q with _ | ad
  · obtain rfl:c=0:=hq rfl
    obtain rfl:m=0:=by omega
    have hn:news=[]:=List.eq_nil_of_length_eq_zero (by simpa using hl)
    subst hn
    exact wpList_append_own_none hgd s x t ho w.heap.size e i size ht hi _ 0 [] hs hnil hx (h none 0 w hnil (Below.refl _ w))
  · refine wpList_append_own w hgd s x t ho w.heap.size e i z size bytes ht hi hz hsize hby hzs hsz _ 0 [] hs hnil ad m c news hx hl (hnews ad rfl) h1 (by omega) (by rwa [Nat.zero_add]) (Nat.le_refl _) ?_
    intro v' w' hR hg _
    rw [Nat.zero_add,List.nil_append] at hR
    obtain ⟨q',c',rfl⟩:=own_shape hR
    exact h q' c' w' hR (grown_below (Below.refl _ w) (Nat.le_refl _) hg (fun j hj=>by cases hj))
end
theorem ArsR.take {C:Cl} {q:Option Addr} {n c:Nat} {l:List (Int × Int)} (h:ArsR false C (.slice q n c) l):∃ cs,l.length=n∧(q=none→c=0)∧n≤c∧cs.length=n * 2∧(∀ ad,q=some ad→∀ j u,cs[j]?=some u→C (ad.add j)=some u)∧(∀ u ∈ cs,u.oneCell'=true)∧n≤maxLen∧n * 16≤140737488351232∧Enc arR cs l:=by
  obtain ⟨q',c',cs,e,_,hr,he,hb,hmax,hqn,hlc⟩:=h
  obtain ⟨rfl,rfl,rfl⟩:q=q'∧n=l.length∧c=c':=by injection e with a b c;exact ⟨a,b,c⟩
  obtain ⟨hcl,_⟩:=encZ_at ar_len he
  refine ⟨cs,rfl,hqn,hlc,hcl,?_,one_enc ar_one he,by omega,hb,he⟩
  intro ad hq
  rcases hr with hr | ⟨g,o,hq2,hr⟩
  · have:=(List.append_eq_nil_iff.1 hr).1
    subst this
    intro j u hu
    simp at hu
  · rw [hq] at hq2
    injection hq2 with hq2
    subst hq2
    exact enc_cells he (fun j u hu=>hr j u (by rw [List.getElem?_append_left ((List.getElem?_eq_some_iff.1 hu).1)];exact hu))
theorem fnR_mono:∀ m m':Mem,m.le m'→∀ c x,FnR1 true (mC m) c x→FnR1 true (mC m') c x:=fun _ _ h _ _ e=>e.le (mle_cle h)
def FnAt (lt:Bool) (C:Cl) (q:Option Addr) (l:List FnM):Prop:=∀ j (hj:j<l.length),∃ g o vp vr vc,q=some ⟨g,o,none⟩∧FnR1 lt C [.int .u64 l[j].level,vp,vr,.int .i64 l[j].locals,.int .i64 l[j].stack,vc] l[j]∧C ⟨g,o+j * 6,none⟩=some (.int .u64 l[j].level)∧C ⟨g,o+j * 6+1,none⟩=some vp∧C ⟨g,o+j * 6+2,none⟩=some vr∧C ⟨g,o+j * 6+3,none⟩=some (.int .i64 l[j].locals)∧C ⟨g,o+j * 6+4,none⟩=some (.int .i64 l[j].stack)∧C ⟨g,o+j * 6+5,none⟩=some vc
theorem FnsR.cells {lt:Bool} {C:Cl} {q:Option Addr} {n c:Nat} {l:List FnM} (h:FnsR lt C (.slice q n c) l):FnAt lt C q l:=by
  intro j hj
  obtain ⟨g,o,e,h1,hF,h3⟩:=slx_at (size:=6) h (by decide) fn_len j hj
  obtain ⟨vp,vr,vc,rfl,k1,k2,k3⟩:=hF
  exact ⟨g,o,vp,vr,vc,h1,⟨vp,vr,vc,rfl,k1,k2,k3⟩,h3 0 _ (by decide) rfl,h3 1 _ (by decide) rfl,h3 2 _ (by decide) rfl,h3 3 _ (by decide) rfl,h3 4 _ (by decide) rfl,h3 5 _ (by decide) rfl⟩
theorem slx_bytes {α:Type} {mk:List Value} {bs:Nat} {C:Cl} {R:List Value→α→Prop} {v:Value} {l:List α} (h:SlX mk bs C R v l):l.length * bs≤140737488351232:=by
  obtain ⟨_,_,_,_,_,_,_,h1,_⟩:=h;exact h1
end Go.Proofs.Ythjkbfamkogoiaa
namespace Go.Proofs.Ythjkbfamkogoiaa
open Go Go.RowKit Go.Proofs.Mm
theorem be_drew {n:Nat} {a w:World} (h:Below n a w):Below n a w.drew:=⟨h.os,h.tape,h.output,h.size,h.block⟩
theorem be_le {a w w':World} (h:Below a.heap.size a w) (k:Below w.heap.size w w'):Below a.heap.size a w':=h.trans (k.mono h.size)
set_option maxRecDepth 100000 in
set_option maxHeartbeats 8000000 in
theorem lentModule_any {w:World} {v:Value} {s:MoM} (h:MoR false (wC w) v s) {m:Mem} (hm:Has w m) :
    Calls Try.prog 7 #[v] w fun e w'=>∃ v' m',e=.returned v'∧Below w.heap.size w w'∧m.More w m'∧Has w' m'∧MoR true (mC m') v' s:=by
  obtain ⟨v1,v2,v3,v4,rfl,h1,h2,h3,h4⟩:=h
  obtain ⟨q1,c1,rfl⟩:=slx_shape h1
  obtain ⟨q2,c2,rfl⟩:=slx_shape h2
  obtain ⟨q3,c3,rfl⟩:=slx_shape h3
  obtain ⟨q4,c4,rfl⟩:=slx_shape h4
  have hl4:=slx_bytes h4
  obtain ⟨n1,hn1⟩:∃ n,s.globals.length=n:=⟨_,rfl⟩
  obtain ⟨n2,hn2⟩:∃ n,s.arrays.length=n:=⟨_,rfl⟩
  obtain ⟨n3,hn3⟩:∃ n,s.channels.length=n:=⟨_,rfl⟩
  obtain ⟨n4,hn4⟩:∃ n,s.funcs.length=n:=⟨_,rfl⟩
  rw [hn1] at h1 ⊢
  rw [hn2] at h2 ⊢
  rw [hn3] at h3 ⊢
  rw [hn4] at h4 hl4 ⊢
  obtain ⟨cs2,l2,hq2,hmc2,hcl2,hnw2,hon2,hmx2,hby2,he2⟩:=h2.take
  have H1:=Lib.hid (fun w' (hb:Below w.heap.size w w')=>show LasR false (wC w') (.slice q1 n1 c1) s.globals from h1.le (below_cle hb))
  have H2:=Lib.hid (fun w' (hb:Below w.heap.size w w')=>show ∀ ad,q2=some ad→∀ j u,cs2[j]?=some u→w'.cell? (ad.add j)=some u from fun ad e j u hu=>below_cle hb _ _ (hnw2 ad e j u hu))
  have H3:=Lib.hid (fun w' (hb:Below w.heap.size w w')=>show LasR false (wC w') (.slice q3 n3 c3) s.channels from h3.le (below_cle hb))
  have HA4:=Lib.hid h4.cells
  have HN1:=Lib.hid hn1
  have HN3:=Lib.hid hn3
  have HN4:=Lib.hid hn4
  have HE2:=Lib.hid he2
  have HL2:=Lib.hid l2
  have HM:=Lib.hid hm
  clear h1 h2 h3 h4 hn1 hn2 hn3 hn4 he2 hnw2 l2 hm
  obtain ⟨i2,hi2,hz2,hs2,hbb2⟩:=infoA
  obtain ⟨i5,hi5,hz5,hs5,hbb5⟩:=infoFn
  go_enter Try.func7,Try.ntmps7
  obtain ⟨u2,hu2⟩:∃ u2,Value.slice q2 n2 c2=u2:=⟨_,rfl⟩
  have HU2:=Lib.hid hu2.symm
  rw [hu2]
  clear hu2
  go_wp2_with (at_builtin;refine wpList_append_rd rfl _ _ 23 rfl 49 i2 _ 2 16 und_A hi2 hz2 hs2 hbb2 rfl (by decide) rfl q2 n2 c2 cs2 HU2.out hq2 hmc2 hcl2 (H2.out _ (((Below.refl _ w).alloc (Nat.le_refl _) _).alloc (by simp) _)) hon2 hmx2 (by omega) ?_)
  intro q' c' w5 hR5 hb5
  obtain ⟨wA,hA⟩:∃ wA,(w.alloc (.cells #[.slice q1 n1 c1,u2,.slice q3 n3 c3,.slice q4 n4 c4] 26)).alloc (.cells #[.slice none 0 0,.slice none 0 0,.slice none 0 0,.slice none 0 0] 26)=wA:=⟨_,rfl⟩
  have hszA:wA.heap.size=w.heap.size+1+1:=by rw [← hA];simp
  have HK0:=Lib.hid (show Kp w m w.heap.size #[.slice q1 n1 c1,u2,.slice q3 n3 c3,.slice q4 n4 c4] 26 wA m by rw [← hA];exact (Kp.start HM.out _ _).step ((Below.refl _ _).alloc (Nat.le_refl _) _) (Mem.More.refl _ _) (has_grown (Kp.start HM.out _ _).has ((Below.refl _ _).alloc (Nat.le_refl _) _)))
  have HZ0:=Lib.hid (show Kp w m (w.heap.size+1) #[.slice none 0 0,.slice none 0 0,.slice none 0 0,.slice none 0 0] 26 wA m from by
    refine ⟨HK0.out.below,HK0.out.has,HK0.out.more,Nat.le_succ _,?_,HM.out.lt (Nat.le_succ _)⟩
    have h9:=World.alloc_heap_new (w.alloc (.cells #[.slice q1 n1 c1,u2,.slice q3 n3 c3,.slice q4 n4 c4] 26)) (.cells #[.slice none 0 0,.slice none 0 0,.slice none 0 0,.slice none 0 0] 26)
    rwa [show (w.alloc (.cells #[.slice q1 n1 c1,u2,.slice q3 n3 c3,.slice q4 n4 c4] 26)).heap.size=w.heap.size+1 by simp,hA] at h9)
  have HSZ:=Lib.hid hszA
  rw [hA] at hb5
  rw [← hszA] at hR5 hb5
  clear hA hszA
  have hnew:=row_new w5 (mkA true) 49
  have hone:∀ u ∈ mkA true,u.oneCell'=true:=by intro u hu;simp only [mkA,if_true,List.mem_cons,List.not_mem_nil,or_false] at hu;rcases hu with rfl | rfl <;> rfl
  have hz5':=hb5.size
  go_wp2_with (at_builtin;refine wpList_append_own_at _ rfl _ _ 23 rfl wA.heap.size 49 i2 _ 2 16 und_A hi2 hz2 hs2 hbb2 rfl (by decide) _ n2 cs2 rfl (hR5.alloc _) ⟨w5.heap.size,0,none⟩ 1 1 (mkA true) rfl rfl hnew hone (by unfold maxLen;omega) (by omega) (by simp;omega) ?_)
  intro v6 w6 hR6 hg6 _ _
  obtain ⟨p2,d2,rfl⟩:=own_shape hR6
  have hb6:Below wA.heap.size wA w6:=grown_below (hb5.alloc hz5' _) (by simp;omega) hg6 (fun j hj=>(hR5.lt j hj).1)
  have hcap:n2+1≤d2:=by
    rcases hR6.2 with ⟨_,h0⟩ | ⟨g',cap',cur,h0,_,_,h1,_,_⟩
    · omega
    · injection h0 with _ _ h4
      omega
  obtain ⟨m4,hmo6,hH6,hS2⟩:=lent_done (w:=wA) (bs:=16) (R:=fun _=>arR) (has_grown HK0.out.has hb6) (fun k hk=>HK0.out.has.lt (hR6.lt k hk).1) hR6 HL2.out HE2.out (fun _ _ _ _ _ h=>h) hby2
  have HS2:=Lib.hid (show ArsR true (mC m4) (.slice p2 n2 d2) s.arrays from hS2)
  have HK1:=Lib.hid (HK0.out.step hb6 hmo6 hH6)
  have HZ1:=Lib.hid (HZ0.out.step hb6 hmo6 hH6)
  have hw6:=HK1.out.below.size
  clear hS2 hb6 hmo6 hH6 hg6 hR6 hR5 hnew hone hz5' hb5 HK0 HZ0
  go_wp2_with fail
  go_loopw [4,5] (RwI 45 6 (fun m=>FnR1 true (mC m)) w6 m4 n4 s.funcs) (fun _ i _=>n4 - (intOf i).toNat)
  case atStart=>exact RwI.start HK1.out.has
  case round =>
    obtain ⟨k,qF,cF,cs,mm,hk,rfl,rfl,HF,HE,HM1,HMo,HFr,HB⟩:=hrel
    generalize wr=V at *
    have hKV:=HK1.out.step HB.out HMo.out HM1.out
    have s3:=hKV.cell (i:=3) rfl
    by_cases hlt:k<n4
    · have hkl:k<s.funcs.length:=by rw [HN4.out];exact hlt
      obtain ⟨g,o,vp,vr,vc,rfl,hfl,a0,a1,a2,a3,a4,a5⟩:=HA4.out k hkl
      have hle:=below_cle hKV.below
      have x0:=hle _ _ a0
      have x1:=hle _ _ a1
      have x2:=hle _ _ a2
      have x3:=hle _ _ a3
      have x4:=hle _ _ a4
      have x5:=hle _ _ a5
      unfold wC at x0 x1 x2 x3 x4 x5
      have HFL:=Lib.hid (hfl.le hle)
      clear a0 a1 a2 a3 a4 a5 hle hfl hKV
      generalize hd:s.funcs[k]=d at x0 x1 x2 x3 x4 x5 HFL
      have HDD:=Lib.hid hd
      clear hd
      have hki:(k:Int)<(n4:Int):=by omega
      obtain ⟨lv,hlv⟩:∃ n,d.level=n:=⟨_,rfl⟩
      obtain ⟨lo,hlo⟩:∃ n,d.locals=n:=⟨_,rfl⟩
      obtain ⟨stk,hst⟩:∃ n,d.stack=n:=⟨_,rfl⟩
      rw [hlv] at x0 HFL
      rw [hlo] at x3 HFL
      rw [hst] at x4 HFL
      clear hlv hlo hst
      go_wp2_with fail
      go_at_call 17
      refine (lentFunction_any HFL.out HM1.out).mono ?_
      rintro e y1 ⟨ds,e1,rfl,hb,hmo,hH,hS⟩
      have HS:=Lib.hid hS
      obtain ⟨wp,wr',wc,hds,z1,z2,z3⟩:=hS
      subst hds
      obtain ⟨qp,cp,rfl⟩:=slx_shape z1
      obtain ⟨qr,cr,rfl⟩:=slx_shape z2
      obtain ⟨qc,cc,rfl⟩:=slx_shape z3
      clear z1 z2 z3
      obtain ⟨np,hnp⟩:∃ n,d.params.length=n:=⟨_,rfl⟩
      obtain ⟨nr,hnr⟩:∃ n,d.results.length=n:=⟨_,rfl⟩
      obtain ⟨nc,hnc⟩:∃ n,d.code.length=n:=⟨_,rfl⟩
      obtain ⟨lv2,hlv2⟩:∃ n,d.level=n:=⟨_,rfl⟩
      obtain ⟨lo2,hlo2⟩:∃ n,d.locals=n:=⟨_,rfl⟩
      obtain ⟨st2,hst2⟩:∃ n,d.stack=n:=⟨_,rfl⟩
      rw [hnp,hnr,hnc,hlv2,hlo2,hst2] at HS
      rw [hnp,hnr,hnc,hlv2,hlo2,hst2]
      clear hnp hnr hnc hlv2 hlo2 hst2
      clear x0 x1 x2 x3 x4 x5 s3
      have hby:=hb.size
      have HB1:=Lib.hid hb
      have HMO1:=Lib.hid hmo
      have HH1:=Lib.hid hH
      clear hb hmo hH
      have hrow:=own_chg HF.out (Below.chg HB1.out (Nat.le_refl _) (fun _=>False)) (fun _ _ e=>e)
      obtain ⟨W7,hW7⟩:∃ W7,y1.alloc (.cells #[.int .u64 lv2,.slice qp np cp,.slice qr nr cr,.int .i64 lo2,.int .i64 st2,.slice qc nc cc] 45)=W7:=⟨_,rfl⟩
      have hs7:W7.heap.size=y1.heap.size+1:=by rw [← hW7];simp
      have hnew:∀ (j:Nat) (u:Value),([.int .u64 lv2,.slice qp np cp,.slice qr nr cr,.int .i64 lo2,.int .i64 st2,.slice qc nc cc]:List Value)[j]?=some u→((y1.alloc (.cells #[.int .u64 lv2,.slice qp np cp,.slice qr nr cr,.int .i64 lo2,.int .i64 st2,.slice qc nc cc] 45)).alloc (.cells ([.int .u64 lv2,.slice qp np cp,.slice qr nr cr,.int .i64 lo2,.int .i64 st2,.slice qc nc cc]:List Value).toArray 45)).cell? ((⟨y1.heap.size+1,0,none⟩:Addr).add j)=some u:=by
        have:=row_new W7 [.int .u64 lv2,.slice qp np cp,.slice qr nr cr,.int .i64 lo2,.int .i64 st2,.slice qc nc cc] 45
        rw [hs7] at this
        rw [hW7]
        exact this
      have hb7:Below V.heap.size V W7:=by rw [← hW7];exact HB1.out.alloc hby _
      have hH7:Has W7 e1:=has_grown HH1.out (by rw [← hW7];exact (Below.refl _ _).alloc (Nat.le_refl _) _)
      have hone:∀ u ∈ ([.int .u64 lv2,.slice qp np cp,.slice qr nr cr,.int .i64 lo2,.int .i64 st2,.slice qc nc cc]:List Value),u.oneCell'=true:=by
        intro u hu
        simp only [List.mem_cons,List.not_mem_nil,or_false] at hu
        rcases hu with rfl | rfl | rfl | rfl | rfl | rfl <;> rfl
      have HB7:=Lib.hid hb7
      have HH7:=Lib.hid hH7
      have HW7:=Lib.hid hW7
      have HS7:=Lib.hid hs7
      clear hb7 hH7 hs7 hW7
      have hsV:=HB.out.size
      go_wp2_with (at_builtin;refine wpList_append_own_at _ rfl _ _ 24 rfl w6.heap.size 45 i5 _ 6 96 und_Fn hi5 hz5 hs5 hbb5 rfl (by decide) _ _ _ rfl ((hrow.alloc _).alloc _) ⟨y1.heap.size+1,0,none⟩ 1 1 [.int .u64 lv2,.slice qp np cp,.slice qr nr cr,.int .i64 lo2,.int .i64 st2,.slice qc nc cc] rfl rfl hnew hone (by unfold maxLen;omega) (by omega) (by simp;omega) ?_)
      intro v10 w10 hR10 hg10 _ hat
      rw [HW7.out] at hg10
      obtain ⟨q10,c10,rfl,r1,r2,r3,r4,r5,r6⟩:=rw_step hkl HE.out HMo.out HFr.out HB.out HF.out HB7.out HMO1.out HH7.out fnR_mono (by rw [HDD.out];exact HS.out) hR10 hg10 (by rw [HS7.out];simpa using hat)
      clear hR10 hg10 hat hrow hnew hone hsV
      go_wp2_with fail
      exact ⟨⟨k+1,q10,c10,_,e1,by omega,by go_num,rfl,r1,r2,r3,r4,r5,r6⟩,by simp [intOf];omega⟩
    · obtain rfl:k=n4:=by omega
      clear hKV
      have hrow:=HF.out
      have hnew:=row_new V (mkF true) 45
      have hone:∀ u ∈ mkF true,u.oneCell'=true:=by intro u hu;simp only [mkF,if_true,List.mem_cons,List.not_mem_nil,or_false] at hu;rcases hu with rfl | rfl | rfl | rfl | rfl | rfl <;> rfl
      have hws:=HB.out.size
      go_wp2_with (at_builtin;refine wpList_append_own_at _ rfl _ _ 24 rfl w6.heap.size 45 i5 _ 6 96 und_Fn hi5 hz5 hs5 hbb5 rfl (by decide) _ _ _ rfl (hrow.alloc _) ⟨V.heap.size,0,none⟩ 1 1 (mkF true) rfl rfl hnew hone (by unfold maxLen;omega) (by omega) (by simp;omega) ?_)
      intro v2 w8 hR2 hg2 _ hat
      obtain ⟨p5,d5,rfl,hcap5,-,HD,HB2⟩:=rw_end (m:=m4) HN4.out HE.out HMo.out HFr.out HB.out hrow HM1.out fnR_mono hR2 hg2 (by simpa using hat) hl4
      clear hg2 hR2 hrow hat s3 hnew hone hws
      obtain ⟨m5,hmo,hH,hS⟩:=HD.out
      have HK2:=Lib.hid (HK1.out.step HB2.out hmo hH)
      have HZ2:=Lib.hid (HZ1.out.step HB2.out hmo hH)
      have HLE5:=Lib.hid hmo.le
      have HS4:=Lib.hid (show FnsR true (mC m5) (.slice p5 k d5) s.funcs from hS)
      clear hmo hH hS HD
      have e0:=HK2.out.cell (i:=0) rfl
      have e1:=HK2.out.cell (i:=1) rfl
      have e2:=HK2.out.cell (i:=2) rfl
      have e3:=HK2.out.cell (i:=3) rfl
      generalize w8=wE at *
      have hU:=HU2.out
      subst hU
      have HX:=Lib.hid (fun (W:World) (h:Below wE.heap.size wE W)=>show W.heap[w.heap.size+1]?=some (.cells #[.slice none 0 0,.slice none 0 0,.slice none 0 0,.slice none 0 0] 26 (0,0)) from (h.block _ (heap_lt HZ2.out.lies)).trans HZ2.out.lies)
      have HBE:=Lib.hid (fun (W:World) (h:Below wE.heap.size wE W)=>show Below w.heap.size w W from HK2.out.below.trans (h.mono HK2.out.below.size))
      have HC1:=Lib.hid (fun (W:World) (h:Below wE.heap.size wE W)=>show Calls Try.prog 18 #[.slice q1 n1 c1] W fun e w'=>∃ g d m',e=.returned (.slice g n1 d)∧Below W.heap.size W w'∧m5.More W m'∧Has w' m'∧LasR true (mC m') (.slice g n1 d) s.globals from
        (lentLabels_any (H1.out _ (HBE.out _ h)) (has_grown HK2.out.has h)).mono (by
          rintro e w2 ⟨x,m',rfl,hb,hmo,hH,hS⟩
          obtain ⟨g,d,rfl⟩:=slx_shape hS
          rw [HN1.out] at hS ⊢
          exact ⟨g,d,m',rfl,hb,hmo,hH,hS⟩))
      have HC3:=Lib.hid (fun (W:World) (m6:Mem) (h:Below wE.heap.size wE W) (hH:Has W m6)=>show Calls Try.prog 18 #[.slice q3 n3 c3] W fun e w'=>∃ g d m',e=.returned (.slice g n3 d)∧Below W.heap.size W w'∧m6.More W m'∧Has w' m'∧LasR true (mC m') (.slice g n3 d) s.channels from
        (lentLabels_any (H3.out _ (HBE.out _ h)) hH).mono (by
          rintro e w2 ⟨x,m',rfl,hb,hmo,hH,hS⟩
          obtain ⟨g,d,rfl⟩:=slx_shape hS
          rw [HN3.out] at hS ⊢
          exact ⟨g,d,m',rfl,hb,hmo,hH,hS⟩))
      have hcn2:(n2:Int)≤(d2:Int):=by omega
      have hcn5:(k:Int)≤(d5:Int):=by omega
      clear e0 e1 e2 e3
      go_wp2_with fail
      have hmx:Try.prog.follows .mixedOrders=true:=by kernel_rfl
      have HY:=Lib.hid (show wE.drew.heap[w.heap.size]?=some (.cells #[.slice q1 n1 c1,.slice q2 n2 c2,.slice q3 n3 c3,.slice q4 k c4] 26 (0,0)) from HK2.out.lies)
      have HYZ:=Lib.hid (show wE.drew.heap[w.heap.size+1]?=some (.cells #[.slice none 0 0,.slice none 0 0,.slice none 0 0,.slice none 0 0] 26 (0,0)) from HZ2.out.lies)
      have HBY:=Lib.hid (be_drew (Below.refl wE.heap.size wE))
      refine wp_region_held_drew (S:=fun x=>x.heap[w.heap.size]?=some (.cells #[.slice q1 n1 c1,.slice q2 n2 c2,.slice q3 n3 c3,.slice q4 k c4] 26 (0,0))) hmx HY.out (fun hHeld=>?_)
      generalize wE.drew=Y at *
      refine wpAnyH_take (i:=0) (v:=.pointer (some ⟨w.heap.size,0,none⟩)) rfl (by kernel_rfl) (by kernel_rfl) (by kernel_rfl) (fun _ _ _ h=>h) (Or.inl ⟨by rfl,fun w hSw=>by (skip);go_simp⟩) (by assumption) ?_
      try simp only [Act.put,List.setIfInBounds_toArray,List.set_cons_zero,List.set_cons_succ,List.getElem_toArray,List.getElem_cons_zero,List.getElem_cons_succ]
      refine wpAnyH_take (i:=1) (v:=.slice q1 n1 c1) rfl (by kernel_rfl) (by kernel_rfl) (by kernel_rfl) (fun _ _ _ h=>h) (Or.inl ⟨by rfl,fun w hSw=>by (have s0:=cell_of (j:=0) hSw rfl);go_simp⟩) (by assumption) ?_
      try simp only [Act.put,List.setIfInBounds_toArray,List.set_cons_zero,List.set_cons_succ,List.getElem_toArray,List.getElem_cons_zero,List.getElem_cons_succ]
      refine wpAnyH_take (i:=3) (v:=.slice p2 (n2+1) d2) rfl (by kernel_rfl) (by kernel_rfl) (by kernel_rfl) (fun _ _ _ h=>h) (Or.inl ⟨by rfl,fun w hSw=>by (skip);go_simp⟩) (by assumption) ?_
      try simp only [Act.put,List.setIfInBounds_toArray,List.set_cons_zero,List.set_cons_succ,List.getElem_toArray,List.getElem_cons_zero,List.getElem_cons_succ]
      refine wpAnyH_take (i:=4) (v:=.pointer (some ⟨w.heap.size,1,none⟩)) rfl (by kernel_rfl) (by kernel_rfl) (by kernel_rfl) (fun _ _ _ h=>h) (Or.inl ⟨by rfl,fun w hSw=>by (skip);go_simp⟩) (by assumption) ?_
      try simp only [Act.put,List.setIfInBounds_toArray,List.set_cons_zero,List.set_cons_succ,List.getElem_toArray,List.getElem_cons_zero,List.getElem_cons_succ]
      refine wpAnyH_take (i:=5) (v:=.slice q2 n2 c2) rfl (by kernel_rfl) (by kernel_rfl) (by kernel_rfl) (fun _ _ _ h=>h) (Or.inl ⟨by rfl,fun w hSw=>by (have s0:=cell_of (j:=1) hSw rfl);go_simp⟩) (by assumption) ?_
      try simp only [Act.put,List.setIfInBounds_toArray,List.set_cons_zero,List.set_cons_succ,List.getElem_toArray,List.getElem_cons_zero,List.getElem_cons_succ]
      refine wpAnyH_take (i:=6) (v:=.int .i64 (n2:Int)) rfl (by kernel_rfl) (by kernel_rfl) (by kernel_rfl) (fun _ _ _ h=>h) (Or.inl ⟨by rfl,fun w hSw=>by (skip);go_simp⟩) (by assumption) ?_
      try simp only [Act.put,List.setIfInBounds_toArray,List.set_cons_zero,List.set_cons_succ,List.getElem_toArray,List.getElem_cons_zero,List.getElem_cons_succ]
      refine wpAnyH_take (i:=7) (v:=.slice p2 n2 d2) rfl (by kernel_rfl) (by kernel_rfl) (by kernel_rfl) (fun _ _ _ h=>h) (Or.inl ⟨by rfl,fun w hSw=>by (skip);go_simp⟩) (by assumption) ?_
      try simp only [Act.put,List.setIfInBounds_toArray,List.set_cons_zero,List.set_cons_succ,List.getElem_toArray,List.getElem_cons_zero,List.getElem_cons_succ]
      refine wpAnyH_take (i:=8) (v:=.pointer (some ⟨w.heap.size,2,none⟩)) rfl (by kernel_rfl) (by kernel_rfl) (by kernel_rfl) (fun _ _ _ h=>h) (Or.inl ⟨by rfl,fun w hSw=>by (skip);go_simp⟩) (by assumption) ?_
      try simp only [Act.put,List.setIfInBounds_toArray,List.set_cons_zero,List.set_cons_succ,List.getElem_toArray,List.getElem_cons_zero,List.getElem_cons_succ]
      refine wpAnyH_take (i:=9) (v:=.slice q3 n3 c3) rfl (by kernel_rfl) (by kernel_rfl) (by kernel_rfl) (fun _ _ _ h=>h) (Or.inl ⟨by rfl,fun w hSw=>by (have s0:=cell_of (j:=2) hSw rfl);go_simp⟩) (by assumption) ?_
      try simp only [Act.put,List.setIfInBounds_toArray,List.set_cons_zero,List.set_cons_succ,List.getElem_toArray,List.getElem_cons_zero,List.getElem_cons_succ]
      refine wpAnyH_take (i:=11) (v:=.slice p5 (k+1) d5) rfl (by kernel_rfl) (by kernel_rfl) (by kernel_rfl) (fun _ _ _ h=>h) (Or.inl ⟨by rfl,fun w hSw=>by (skip);go_simp⟩) (by assumption) ?_
      try simp only [Act.put,List.setIfInBounds_toArray,List.set_cons_zero,List.set_cons_succ,List.getElem_toArray,List.getElem_cons_zero,List.getElem_cons_succ]
      refine wpAnyH_take (i:=12) (v:=.pointer (some ⟨w.heap.size,3,none⟩)) rfl (by kernel_rfl) (by kernel_rfl) (by kernel_rfl) (fun _ _ _ h=>h) (Or.inl ⟨by rfl,fun w hSw=>by (skip);go_simp⟩) (by assumption) ?_
      try simp only [Act.put,List.setIfInBounds_toArray,List.set_cons_zero,List.set_cons_succ,List.getElem_toArray,List.getElem_cons_zero,List.getElem_cons_succ]
      refine wpAnyH_take (i:=13) (v:=.slice q4 k c4) rfl (by kernel_rfl) (by kernel_rfl) (by kernel_rfl) (fun _ _ _ h=>h) (Or.inl ⟨by rfl,fun w hSw=>by (have s0:=cell_of (j:=3) hSw rfl);go_simp⟩) (by assumption) ?_
      try simp only [Act.put,List.setIfInBounds_toArray,List.set_cons_zero,List.set_cons_succ,List.getElem_toArray,List.getElem_cons_zero,List.getElem_cons_succ]
      refine wpAnyH_take (i:=14) (v:=.int .i64 (k:Int)) rfl (by kernel_rfl) (by kernel_rfl) (by kernel_rfl) (fun _ _ _ h=>h) (Or.inl ⟨by rfl,fun w hSw=>by (skip);go_simp⟩) (by assumption) ?_
      try simp only [Act.put,List.setIfInBounds_toArray,List.set_cons_zero,List.set_cons_succ,List.getElem_toArray,List.getElem_cons_zero,List.getElem_cons_succ]
      refine wpAnyH_take (i:=15) (v:=.slice p5 k d5) rfl (by kernel_rfl) (by kernel_rfl) (by kernel_rfl) (fun _ _ _ h=>h) (Or.inl ⟨by rfl,fun w hSw=>by (skip);go_simp⟩) (by assumption) ?_
      try simp only [Act.put,List.setIfInBounds_toArray,List.set_cons_zero,List.set_cons_succ,List.getElem_toArray,List.getElem_cons_zero,List.getElem_cons_succ]
      refine wpAnyH_ready (rs:=[2]) (by kernel_rfl) (by simp) ?_
      refine AllReadyH.cons rfl (fun K1 hK1=>?_) AllReadyH.nil
      go_simp
      go_at_call 18
      refine (HC1.out Y HBY.out).mono ?_
      rintro e wa ⟨g1,x1,m6,rfl,hba,hmoa,hHa,hSa⟩
      have HYa:=Lib.hid ((hba.block _ (heap_lt HY.out)).trans HY.out)
      have HZa:=Lib.hid ((hba.block _ (heap_lt HYZ.out)).trans HYZ.out)
      have HBa:=Lib.hid (be_le HBY.out hba)
      have HMa:=Lib.hid hmoa
      have HHa:=Lib.hid hHa
      have HSa:=Lib.hid hSa
      clear hba hmoa hHa hSa
      refine hK1.out _ _ HYa.out (fun hHeld=>?_)
      clear hK1 K1
      try simp only [Act.put,List.setIfInBounds_toArray,List.set_cons_zero,List.set_cons_succ,List.getElem_toArray,List.getElem_cons_zero,List.getElem_cons_succ]
      refine wpAnyH_ready (rs:=[10]) (by kernel_rfl) (by simp) ?_
      refine AllReadyH.cons rfl (fun K2 hK2=>?_) AllReadyH.nil
      go_simp
      go_at_call 18
      refine (HC3.out wa m6 HBa.out HHa.out).mono ?_
      rintro e wb ⟨g3,x3,m7,rfl,hbb,hmob,hHb,hSb⟩
      have HYb:=Lib.hid ((hbb.block _ (heap_lt HYa.out)).trans HYa.out)
      have HZb:=Lib.hid ((hbb.block _ (heap_lt HZa.out)).trans HZa.out)
      have HBb:=Lib.hid (be_le HBa.out hbb)
      have HMb:=Lib.hid hmob
      have HHb:=Lib.hid hHb
      have HSb:=Lib.hid hSb
      clear hbb hmob hHb hSb
      refine hK2.out _ _ HYb.out (fun hHeld=>?_)
      clear hK2 K2
      try simp only [Act.put,List.setIfInBounds_toArray,List.set_cons_zero,List.set_cons_succ,List.getElem_toArray,List.getElem_cons_zero,List.getElem_cons_succ]
      refine wpAnyH_take (i:=16) (v:=.agg #[.slice g1 n1 x1,.slice p2 n2 d2,.slice g3 n3 x3,.slice p5 k d5]) rfl (by kernel_rfl) (by kernel_rfl) (by kernel_rfl) (fun _ _ _ h=>h) (Or.inl ⟨by rfl,fun w hSw=>by (skip);go_simp⟩) (by assumption) ?_
      try simp only [Act.put,List.setIfInBounds_toArray,List.set_cons_zero,List.set_cons_succ,List.getElem_toArray,List.getElem_cons_zero,List.getElem_cons_succ]
      refine wpAnyH_ready (rs:=[17]) (by kernel_rfl) (by simp) ?_
      refine AllReadyH.cons rfl (fun K3 hK3=>?_) AllReadyH.nil
      have k0:=cell_of (j:=0) HZb.out rfl
      have l0:=free_of (j:=0) HZb.out
      have k1:=cell_of (j:=1) HZb.out rfl
      have l1:=free_of (j:=1) HZb.out
      have k2:=cell_of (j:=2) HZb.out rfl
      have l2:=free_of (j:=2) HZb.out
      have k3:=cell_of (j:=3) HZb.out rfl
      have l3:=free_of (j:=3) HZb.out
      go_simp
      refine hK3.out _ _ (heap_other (heap_other (heap_other (heap_other HYb.out (by omega)) (by omega)) (by omega)) (by omega)) (fun hHeld=>?_)
      clear hK3 K3
      try simp only [Act.put,List.setIfInBounds_toArray,List.set_cons_zero,List.set_cons_succ,List.getElem_toArray,List.getElem_cons_zero,List.getElem_cons_succ]
      refine wpAnyH_done (by kernel_rfl) ?_ _
      clear k0 k1 k2 k3 l0 l1 l2 l3 HYb HYa HY hHeld
      try go_wp2
      (try simp only [Exit.inBlock,Exit.then])
      obtain ⟨d9,u1,u2⟩:=undMo
      have hx3:=heap_set (heap_set (heap_set (heap_set HZb.out 0 (.slice g1 n1 x1)) 1 (.slice p2 n2 d2)) 2 (.slice g3 n3 x3)) 3 (.slice p5 k d5)
      refine bodyPost_ret (results_cell_row rfl _ _ (w.heap.size+1) 26 _ (0,0) d9 rfl hx3 u1 (by cases d9 <;> first | rfl | cases u2) sizeMo) rfl ?_
      have h0:m7 (w.heap.size+1)=none:=HMb.out.new _ (HMa.out.new _ HZ2.out.new (heap_lt HYZ.out)) (heap_lt HZa.out)
      have st:∀ (W:World) i v,Has W m7→Has (W.setCell ⟨w.heap.size+1,i,none⟩ v) m7:=fun W i v h=>h.chg ((Chg.refl (fun k=>k=w.heap.size+1) W).setCell (.inl rfl) v) (fun k e=>by rw [e];exact h0)
      have hq:w.heap.size≤w.heap.size+1:=Nat.le_succ _
      refine ⟨_,m7,rfl,((((HBE.out _ HBb.out).setCell hq _).setCell hq _).setCell hq _).setCell hq _,(HK2.out.more.trans HMa.out (HBE.out _ HBY.out).size).trans HMb.out (HBE.out _ HBa.out).size,st _ 3 _ (st _ 2 _ (st _ 1 _ (st _ 0 _ HHb.out))),?_⟩
      exact ⟨_,_,_,_,rfl,HSa.out.le (mle_cle HMb.out.le),HS2.out.le (mle_cle (HLE5.out.trans (HMa.out.le.trans HMb.out.le))),HSb.out,HS4.out.le (mle_cle (HMa.out.le.trans HMb.out.le))⟩
end Go.Proofs.Ythjkbfamkogoiaa
namespace Go.Proofs.Ythjkbfamkogoiaa
open Go Go.RowKit Go.Proofs.Mm
end Go.Proofs.Ythjkbfamkogoiaa
