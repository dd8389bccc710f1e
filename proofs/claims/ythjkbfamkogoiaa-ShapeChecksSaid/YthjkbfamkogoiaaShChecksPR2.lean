/- The kit's lent labels and code: they read as what came in, with a mark behind, in memory of their own. Instructions compared. The kit's kept labels and code: what was lent out reads as it did. The kit's lent function. The kit's kept function. Rows that grow; a row that is taken over; the module's ro -/
import Derived.Test.YthjkbfamkogoiaaShChecksPR1
import Derived.Laws.StructEq
import Derived.BigQuiet
import Derived.Laws.Rows
import Derived.RangeFuncBox
import Derived.RangeFuncRecord
namespace Go.Proofs.Ythjkbfamkogoiaa
open Go Go.RowKit Go.Proofs.Mm
theorem infoI:∃ i,Try.prog.info? 35=some i∧i.zero=some (.agg #[.int .i64 0,.int .i64 0])∧i.size=2∧i.bytes=16:=infoOf (by kernel_rfl)
theorem und_I:Try.prog.underlying 43=some (.slice 35):=by kernel_rfl
theorem in_one (c:List Value) (x:Int × Int) (h:inR c x):∀ u ∈ c,u.oneCell'=true:=by rw [h];intro u hu;simp at hu;rcases hu with rfl | rfl <;> rfl
theorem lent_done {α:Type} {w w':World} {m:Mem} {E:TypeId} {size bs n c:Nat} {q:Option Addr} {cs mk:List Value} {R:Mem→List Value→α→Prop} {l:List α} (hm:Has w' m) (hv:∀ k,(Value.slice q (n+1) c).ownBlock=some k→m k=none)
    (hrow:w'.ownsRow w.heap.size E size (.slice q (n+1) c) (n+1) (cs++mk)) (hl:l.length=n) (he:Enc (R m) cs l) (hR:∀ m m':Mem,m.le m'→∀ c x,R m c x→R m' c x) (hb:n * bs≤140737488351232) :
    ∃ m',m.More w m'∧Has w' m'∧SlX mk bs (mC m') (R m') (.slice q n c) l:=by
  have hcap:n+1≤c∧c≤maxLen∧q ≠ none:=by
    rcases hrow.2 with ⟨_,h0⟩ | ⟨g',cap',cur,h0,_,_,h1,h2,_⟩
    · omega
    · injection h0 with h3 _ h4
      subst h4
      exact ⟨h1,h2,by rw [h3];simp⟩
  obtain ⟨m',h1,h2,h3,h4⟩:=RowM.done hrow hm hv
  refine ⟨m',⟨h1,fun k hk hlt=>?_⟩,h3,q,c,cs,by rw [hl],.inr (by omega),RowM.rdO h4,he.mono (hR _ _ h1),by rw [hl];exact hb,hcap.2.1,fun h=>absurd h hcap.2.2,by omega⟩
  cases hx:m' k with
  | none=>rfl
  | some o =>
    rcases h2 k (by rw [hx];simp) with h | h
    · exact absurd hk h
    · have:=(hrow.lt k h).1
      omega
theorem has_grown {w w':World} {m:Mem} (h:Has w m) (hb:Below w.heap.size w w'):Has w' m:=fun k o e=>by
  have:=h k o e
  rw [hb.block k (heap_lt this)];exact this
theorem enc_cells {α:Type} {C:Cl} {R:List Value→α→Prop} {l:List α} {cs:List Value} {g o:Nat} (_h:Enc R cs l) (hr:∀ j u,cs[j]?=some u→C ⟨g,o+j,none⟩=some u):∀ j u,cs[j]?=some u→C ((⟨g,o,none⟩:Addr).add j)=some u:=by
  intro j u hu
  rw [show ((⟨g,o,none⟩:Addr).add j)=⟨g,o+j,none⟩ from by unfold Addr.add;split <;> simp_all]
  exact hr j u hu
set_option maxRecDepth 100000 in
set_option maxHeartbeats 2000000 in
theorem lentLabels_any {w:World} {v:Value} {l:List Int} (h:LasR false (wC w) v l) {m:Mem} (hm:Has w m) :
    Calls Try.prog 18 #[v] w fun e w'=>∃ v' m',e=.returned v'∧Below w.heap.size w w'∧m.More w m'∧Has w' m'∧LasR true (mC m') v' l:=by
  obtain ⟨q,c,cs,rfl,_,hr,he,hb,hmax,hqn,hlc⟩:=h
  obtain ⟨n,hn⟩:∃ n,l.length=n:=⟨_,rfl⟩
  obtain ⟨hcl,_⟩:=encZ_at la_len he
  have hon:=one_enc la_one he
  have HE:=Lib.hid he
  have HN:=Lib.hid hn
  have HM:=Lib.hid hm
  rw [hn] at hb hcl hlc ⊢
  clear he hn hm
  obtain ⟨i2,h2,h3,h4,h5⟩:=infoL
  have hnil:=World.ownsRow_nil w w.heap.size 42 1
  have HF:=Lib.hid (show ∀ k,w.heap.size≤k→m k=none from fun k hk=>HM.out.lt hk)
  have hone:∀ u ∈ mkL true,u.oneCell'=true:=by intro u hu;simp only [mkL,if_true,List.mem_cons,List.not_mem_nil,or_false] at hu;(subst hu;rfl)
  rcases q with _ | ad
  · obtain rfl:c=0:=hqn rfl
    obtain rfl:n=0:=by omega
    have hc0:cs=[]:=List.eq_nil_of_length_eq_zero (by simpa using hcl)
    subst hc0
    have hR1:=hnil.alloc (.cells (mkL true).toArray 42)
    have hnew:=row_new w (mkL true) 42
    go_enter Try.func18,Try.ntmps18
    go_wp2_with (first | (at_builtin;refine wpList_append_own_none rfl _ _ 22 rfl w.heap.size 42 i2 1 und_L h2 _ 0 [] rfl hnil rfl ?_) | (at_builtin;refine wpList_append_own _ rfl _ _ 22 rfl w.heap.size 42 i2 _ 1 8 und_L h2 h3 h4 h5 rfl (by decide) _ 0 [] rfl hR1 ⟨w.heap.size,0,none⟩ 1 1 (mkL true) rfl rfl hnew hone (by unfold maxLen;omega) (by omega) (by simp) ?_))
    intro v2 w2 hR2 hg2 _
    obtain ⟨q2,c2,rfl⟩:=own_shape hR2
    have hB2:Below w.heap.size w w2:=grown_below ((Below.refl _ w).alloc (Nat.le_refl _) _) (by simp) hg2 (fun j hj=>(hR1.lt j hj).1)
    have HD:=Lib.hid (lent_done (w:=w) (bs:=8) (R:=fun _=>laR) (has_grown HM.out hB2) (fun k hk=>HF.out k (hR2.lt k hk).1) (by simpa using hR2) HN.out HE.out (fun _ _ _ _ _ h=>h) (by omega))
    have HB:=Lib.hid hB2
    have hcap:1≤c2:=by
      rcases hR2.2 with ⟨_,h0⟩ | ⟨g',cap',cur,h0,_,_,h1,_,_⟩
      · omega
      · injection h0 with _ _ h4
        omega
    clear hg2 hR1 hnil hB2 hR2
    go_wp2
    go_ret
    obtain ⟨m',d1,d2,d3⟩:=HD.out
    exact ⟨_,m',rfl,HB.out,d1,d2,d3⟩
  · have hcl2:∀ j u,cs[j]?=some u→w.cell? (ad.add j)=some u:=by
      rcases hr with hr | ⟨g,o,hq,hr⟩
      · have:=(List.append_eq_nil_iff.1 hr).1
        subst this
        intro j u hu
        simp at hu
      · injection hq with hq
        subst hq
        exact enc_cells HE.out (fun j u hu=>hr j u (by rw [List.getElem?_append_left ((List.getElem?_eq_some_iff.1 hu).1)];exact hu))
    clear hr
    go_enter Try.func18,Try.ntmps18
    go_wp2_with (at_builtin;refine wpList_append_own _ rfl _ _ 22 rfl w.heap.size 42 i2 _ 1 8 und_L h2 h3 h4 h5 rfl (by decide) _ 0 [] rfl hnil ad n c cs rfl hcl hcl2 hon (by unfold maxLen;omega) (by omega) (Nat.le_refl _) ?_)
    intro v1 w1 hR1 hg1 _
    obtain ⟨q1,c1,rfl⟩:=own_shape hR1
    have hB1:Below w.heap.size w w1:=grown_below (Below.refl _ w) (Nat.le_refl _) hg1 (fun j hj=>by cases hj)
    have hw1:=hB1.size
    have hR1':=hR1.alloc (.cells (mkL true).toArray 42)
    have hnew:=row_new w1 (mkL true) 42
    try simp only [Nat.zero_add,List.nil_append] at hR1 hR1'
    clear hg1 hnil hcl2 hon hR1
    go_wp2_with (at_builtin;refine wpList_append_own _ rfl _ _ 22 rfl w.heap.size 42 i2 _ 1 8 und_L h2 h3 h4 h5 rfl (by decide) _ n cs rfl hR1' ⟨w1.heap.size,0,none⟩ 1 1 (mkL true) rfl rfl hnew hone (by unfold maxLen;omega) (by omega) (by simp <;> omega) ?_)
    intro v2 w2 hR2 hg2 _
    obtain ⟨q2,c2,rfl⟩:=own_shape hR2
    have hB2:Below w.heap.size w w2:=grown_below (hB1.alloc hw1 _) (by simp;omega) hg2 (fun j hj=>(hR1'.lt j hj).1)
    have HD:=Lib.hid (lent_done (w:=w) (bs:=8) (R:=fun _=>laR) (has_grown HM.out hB2) (fun k hk=>HF.out k (hR2.lt k hk).1) hR2 HN.out HE.out (fun _ _ _ _ _ h=>h) (by omega))
    have HB:=Lib.hid hB2
    have hcap:n+1≤c2:=by
      rcases hR2.2 with ⟨_,h0⟩ | ⟨g',cap',cur,h0,_,_,h1,_,_⟩
      · omega
      · injection h0 with _ _ h4
        omega
    clear hg2 hR1' hB2 hR2 hB1
    go_wp2
    go_ret
    obtain ⟨m',d1,d2,d3⟩:=HD.out
    exact ⟨_,m',rfl,HB.out,d1,d2,d3⟩
set_option maxRecDepth 100000 in
set_option maxHeartbeats 2000000 in
theorem lentCode_any {w:World} {v:Value} {l:List (Int × Int)} (h:CdR false (wC w) v l) {m:Mem} (hm:Has w m) :
    Calls Try.prog 28 #[v] w fun e w'=>∃ v' m',e=.returned v'∧Below w.heap.size w w'∧m.More w m'∧Has w' m'∧CdR true (mC m') v' l:=by
  obtain ⟨q,c,cs,rfl,_,hr,he,hb,hmax,hqn,hlc⟩:=h
  obtain ⟨n,hn⟩:∃ n,l.length=n:=⟨_,rfl⟩
  obtain ⟨hcl,_⟩:=encZ_at in_len he
  have hon:=one_enc in_one he
  have HE:=Lib.hid he
  have HN:=Lib.hid hn
  have HM:=Lib.hid hm
  rw [hn] at hb hcl hlc ⊢
  clear he hn hm
  obtain ⟨i2,h2,h3,h4,h5⟩:=infoI
  have hnil:=World.ownsRow_nil w w.heap.size 35 2
  have HF:=Lib.hid (show ∀ k,w.heap.size≤k→m k=none from fun k hk=>HM.out.lt hk)
  have hone:∀ u ∈ mkI true,u.oneCell'=true:=by intro u hu;simp only [mkI,if_true,List.mem_cons,List.not_mem_nil,or_false] at hu;(rcases hu with rfl | rfl <;> rfl)
  rcases q with _ | ad
  · obtain rfl:c=0:=hqn rfl
    obtain rfl:n=0:=by omega
    have hc0:cs=[]:=List.eq_nil_of_length_eq_zero (by simpa using hcl)
    subst hc0
    have hR1:=hnil.alloc (.cells (mkI true).toArray 35)
    have hnew:=row_new w (mkI true) 35
    go_enter Try.func28,Try.ntmps28
    go_wp2_with (first | (at_builtin;refine wpList_append_own_none rfl _ _ 43 rfl w.heap.size 35 i2 2 und_I h2 _ 0 [] rfl hnil rfl ?_) | (at_builtin;refine wpList_append_own _ rfl _ _ 43 rfl w.heap.size 35 i2 _ 2 16 und_I h2 h3 h4 h5 rfl (by decide) _ 0 [] rfl hR1 ⟨w.heap.size,0,none⟩ 1 1 (mkI true) rfl rfl hnew hone (by unfold maxLen;omega) (by omega) (by simp) ?_))
    intro v2 w2 hR2 hg2 _
    obtain ⟨q2,c2,rfl⟩:=own_shape hR2
    have hB2:Below w.heap.size w w2:=grown_below ((Below.refl _ w).alloc (Nat.le_refl _) _) (by simp) hg2 (fun j hj=>(hR1.lt j hj).1)
    have HD:=Lib.hid (lent_done (w:=w) (bs:=16) (R:=fun _=>inR) (has_grown HM.out hB2) (fun k hk=>HF.out k (hR2.lt k hk).1) (by simpa using hR2) HN.out HE.out (fun _ _ _ _ _ h=>h) (by omega))
    have HB:=Lib.hid hB2
    have hcap:1≤c2:=by
      rcases hR2.2 with ⟨_,h0⟩ | ⟨g',cap',cur,h0,_,_,h1,_,_⟩
      · omega
      · injection h0 with _ _ h4
        omega
    clear hg2 hR1 hnil hB2 hR2
    go_wp2
    go_ret
    obtain ⟨m',d1,d2,d3⟩:=HD.out
    exact ⟨_,m',rfl,HB.out,d1,d2,d3⟩
  · have hcl2:∀ j u,cs[j]?=some u→w.cell? (ad.add j)=some u:=by
      rcases hr with hr | ⟨g,o,hq,hr⟩
      · have:=(List.append_eq_nil_iff.1 hr).1
        subst this
        intro j u hu
        simp at hu
      · injection hq with hq
        subst hq
        exact enc_cells HE.out (fun j u hu=>hr j u (by rw [List.getElem?_append_left ((List.getElem?_eq_some_iff.1 hu).1)];exact hu))
    clear hr
    go_enter Try.func28,Try.ntmps28
    go_wp2_with (at_builtin;refine wpList_append_own _ rfl _ _ 43 rfl w.heap.size 35 i2 _ 2 16 und_I h2 h3 h4 h5 rfl (by decide) _ 0 [] rfl hnil ad n c cs rfl hcl hcl2 hon (by unfold maxLen;omega) (by omega) (Nat.le_refl _) ?_)
    intro v1 w1 hR1 hg1 _
    obtain ⟨q1,c1,rfl⟩:=own_shape hR1
    have hB1:Below w.heap.size w w1:=grown_below (Below.refl _ w) (Nat.le_refl _) hg1 (fun j hj=>by cases hj)
    have hw1:=hB1.size
    have hR1':=hR1.alloc (.cells (mkI true).toArray 35)
    have hnew:=row_new w1 (mkI true) 35
    try simp only [Nat.zero_add,List.nil_append] at hR1 hR1'
    clear hg1 hnil hcl2 hon hR1
    go_wp2_with (at_builtin;refine wpList_append_own _ rfl _ _ 43 rfl w.heap.size 35 i2 _ 2 16 und_I h2 h3 h4 h5 rfl (by decide) _ n cs rfl hR1' ⟨w1.heap.size,0,none⟩ 1 1 (mkI true) rfl rfl hnew hone (by unfold maxLen;omega) (by omega) (by simp <;> omega) ?_)
    intro v2 w2 hR2 hg2 _
    obtain ⟨q2,c2,rfl⟩:=own_shape hR2
    have hB2:Below w.heap.size w w2:=grown_below (hB1.alloc hw1 _) (by simp;omega) hg2 (fun j hj=>(hR1'.lt j hj).1)
    have HD:=Lib.hid (lent_done (w:=w) (bs:=16) (R:=fun _=>inR) (has_grown HM.out hB2) (fun k hk=>HF.out k (hR2.lt k hk).1) hR2 HN.out HE.out (fun _ _ _ _ _ h=>h) (by omega))
    have HB:=Lib.hid hB2
    have hcap:n+1≤c2:=by
      rcases hR2.2 with ⟨_,h0⟩ | ⟨g',cap',cur,h0,_,_,h1,_,_⟩
      · omega
      · injection h0 with _ _ h4
        omega
    clear hg2 hR1' hB2 hR2 hB1
    go_wp2
    go_ret
    obtain ⟨m',d1,d2,d3⟩:=HD.out
    exact ⟨_,m',rfl,HB.out,d1,d2,d3⟩
end Go.Proofs.Ythjkbfamkogoiaa
namespace Go.Proofs.Ythjkbfamkogoiaa
open Go Go.RowKit
theorem eqIns (a b c d:Int) (w:World):(Op.equalIn 10000 35 (.agg #[.int .i64 a,.int .i64 b]) (.agg #[.int .i64 c,.int .i64 d])).run Try.prog w=.ok (a == c && b == d) w:=by
  have u3:=Try.underlying3
  have u2:=Try.underlying2
  have hS:Try.prog.underlying 35=some (.struct (Try.prog.fieldsOf 35)):=by kernel_rfl
  have hp:Try.prog.stoodInHeld 35=false:=by kernel_rfl
  rw [show (10000:Nat)=9999+1 from rfl,run_equalIn_agg w 9999 35 _ _ hS hp]
  simp only [Program.fieldsOf,Try.underlying35]
  go_simp
  by_cases h1:a=c <;> by_cases h2:b=d <;> simp [h1,h2]
theorem eqIns' (a b c d:Int) (w:World):(binOp .eql 35 (.agg #[.int .i64 a,.int .i64 b]) (.agg #[.int .i64 c,.int .i64 d])).run Try.prog w=.ok (.bool (a == c && b == d)) w:=by
  rw [run_eql_struct,eqIns];rfl
theorem neIns' (a b c d:Int) (w:World):(binOp .neq 35 (.agg #[.int .i64 a,.int .i64 b]) (.agg #[.int .i64 c,.int .i64 d])).run Try.prog w=.ok (.bool (!(a == c && b == d))) w:=by
  rw [run_neq_struct,eqIns];rfl
end Go.Proofs.Ythjkbfamkogoiaa
namespace Go.Proofs.Ythjkbfamkogoiaa
open Go Go.RowKit Go.Proofs.Mm
def Yes (w:World) (e:Ending) (w':World):Prop:=e=.returned (.bool true)∧∃ k,w'=w.drewN k
section
variable {lt:Bool} {C:Cl} {q:Option Addr} {n c:Nat}
def LaAt (C:Cl) (q:Option Addr) (l:List Int):Prop:=∀ j (hj:j<l.length),∃ g o,q=some ⟨g,o,none⟩∧C ⟨g,o+j,none⟩=some (.int .u64 l[j])
def InAt (C:Cl) (q:Option Addr) (l:List (Int × Int)):Prop:=∀ j (hj:j<l.length),∃ g o,q=some ⟨g,o,none⟩∧C ⟨g,o+j * 2,none⟩=some (.int .i64 l[j].1)∧C ⟨g,o+j * 2+1,none⟩=some (.int .i64 l[j].2)
def ArAt (C:Cl) (q:Option Addr) (l:List (Int × Int)):Prop:=∀ j (hj:j<l.length),∃ g o,q=some ⟨g,o,none⟩∧C ⟨g,o+j * 2,none⟩=some (.int .i64 l[j].1)∧C ⟨g,o+j * 2+1,none⟩=some (.int .u64 l[j].2)
theorem LasR.cells {l:List Int} (h:LasR lt C (.slice q n c) l):LaAt C q l:=by
  intro j hj
  obtain ⟨g,o,e,h1,rfl,h3⟩:=slx_at (size:=1) h (by decide) la_len j hj
  refine ⟨g,o,h1,?_⟩
  have:=h3 0 _ (by decide) rfl
  simpa using this
theorem CdR.cells {l:List (Int × Int)} (h:CdR lt C (.slice q n c) l):InAt C q l:=by
  intro j hj
  obtain ⟨g,o,e,h1,rfl,h3⟩:=slx_at (size:=2) h (by decide) in_len j hj
  exact ⟨g,o,h1,h3 0 _ (by decide) rfl,h3 1 _ (by decide) rfl⟩
theorem ArsR.cells {l:List (Int × Int)} (h:ArsR lt C (.slice q n c) l):ArAt C q l:=by
  intro j hj
  obtain ⟨g,o,e,h1,rfl,h3⟩:=slx_at (size:=2) h (by decide) ar_len j hj
  exact ⟨g,o,h1,h3 0 _ (by decide) rfl,h3 1 _ (by decide) rfl⟩
theorem slx_mark {α:Type} {mk:List Value} {bs:Nat} {R:List Value→α→Prop} {l:List α} {size:Nat} (h:SlX mk (bs+1) C R (.slice q n c) l) (hs:0<size) (hR:∀ c x,R c x→c.length=size) (hmk:mk ≠ []) :
    n=l.length∧n+1≤c∧c≤maxLen∧∃ g o,q=some ⟨g,o,none⟩∧∀ r u,mk[r]?=some u→C ⟨g,o+n * size+r,none⟩=some u:=by
  obtain ⟨q',c',e1,h2,_,h4,_,h6⟩:=h.at hs hR
  injection e1 with e1 e2 e3
  subst e1 e2 e3
  obtain ⟨g,o,hq,hm⟩:=h6.resolve_left hmk
  exact ⟨rfl,h2.resolve_left hmk,h4,g,o,hq,fun r u hu=>by rw [Nat.add_assoc];exact hm r u hu⟩
end
set_option maxRecDepth 100000 in
set_option maxHeartbeats 1000000 in
theorem labels_same {w:World} {q q':Option Addr} {c c':Nat} (l:List Int) (ha:LaAt (wC w) q l) (hb:LaAt (wC w) q' l) (hmax:l.length≤9223372036854775807) :
    Calls Try.prog 33 #[.slice q l.length c,.slice q' l.length c'] w (Yes w):=by
  obtain ⟨n,hn⟩:∃ n,l.length=n:=⟨_,rfl⟩
  have HN:=Lib.hid hn
  have HA:=Lib.hid ha
  have HB:=Lib.hid hb
  rw [hn] at hmax ⊢
  have hneq:((n:Int) != (n:Int))=false:=by simp
  clear ha hb hn
  go_enter Try.func33,Try.ntmps33
  go_wp2
  go_loopw [5] (fun i wr=>∃ k nq:Nat,k≤n∧i=.int .i64 k∧wr=w.drewN nq) (fun i _=>n - (intOf i).toNat)
  case atStart=>exact ⟨0,0,Nat.zero_le _,rfl,rfl⟩
  case round =>
    obtain ⟨k,nq,hk,rfl,rfl⟩:=hrel
    by_cases hlt:k<n
    · have hk':k<l.length:=by rw [HN.out];exact hlt
      obtain ⟨g,o,rfl,a1⟩:=HA.out k hk'
      obtain ⟨g',o',rfl,b1⟩:=HB.out k hk'
      have x1:w.cell? ⟨g,o+k,none⟩=some (.int .u64 l[k]):=a1
      have y1:w.cell? ⟨g',o'+k,none⟩=some (.int .u64 l[k]):=b1
      clear a1 b1
      generalize l[k]=lb at *
      have hki:(k:Int)<(n:Int):=by omega
      have e2:(lb == lb)=true:=by simp
      have e3:(lb != lb)=false:=by simp
      go_wp2
      go_quiet (fail)
      go_wp2
      exact ⟨⟨k+1,_,by omega,by go_num,rfl⟩,by simp [intOf];omega⟩
    · go_wp2
      go_ret
      exact ⟨rfl,_,rfl⟩
set_option maxRecDepth 100000 in
set_option maxHeartbeats 1000000 in
theorem code_same {w:World} {q q':Option Addr} {c c':Nat} (l:List (Int × Int)) (ha:InAt (wC w) q l) (hb:InAt (wC w) q' l) (hmax:l.length≤9223372036854775807) :
    Calls Try.prog 36 #[.slice q l.length c,.slice q' l.length c'] w (Yes w):=by
  obtain ⟨n,hn⟩:∃ n,l.length=n:=⟨_,rfl⟩
  have HN:=Lib.hid hn
  have HA:=Lib.hid ha
  have HB:=Lib.hid hb
  rw [hn] at hmax ⊢
  have hneq:((n:Int) != (n:Int))=false:=by simp
  clear ha hb hn
  go_enter Try.func36,Try.ntmps36
  go_wp2
  go_loopw [5] (fun i wr=>∃ k nq:Nat,k≤n∧i=.int .i64 k∧wr=w.drewN nq) (fun i _=>n - (intOf i).toNat)
  case atStart=>exact ⟨0,0,Nat.zero_le _,rfl,rfl⟩
  case round =>
    obtain ⟨k,nq,hk,rfl,rfl⟩:=hrel
    by_cases hlt:k<n
    · have hk':k<l.length:=by rw [HN.out];exact hlt
      obtain ⟨g,o,rfl,a1,a2⟩:=HA.out k hk'
      obtain ⟨g',o',rfl,b1,b2⟩:=HB.out k hk'
      have x1:w.cell? ⟨g,o+k * 2,none⟩=some (.int .i64 l[k].1):=a1
      have x2:w.cell? ⟨g,o+k * 2+1,none⟩=some (.int .i64 l[k].2):=a2
      have y1:w.cell? ⟨g',o'+k * 2,none⟩=some (.int .i64 l[k].1):=b1
      have y2:w.cell? ⟨g',o'+k * 2+1,none⟩=some (.int .i64 l[k].2):=b2
      clear a1 b1 a2 b2
      generalize l[k].1=z1 at *
      generalize l[k].2=z2 at *
      have hki:(k:Int)<(n:Int):=by omega
      have hne:∀ W,(binOp .neq 35 (.agg #[.int .i64 z1,.int .i64 z2]) (.agg #[.int .i64 z1,.int .i64 z2])).run Try.prog W=.ok (.bool false) W:=fun W=>by rw [neIns'];simp
      go_wp2
      go_quiet (fail)
      go_wp2
      exact ⟨⟨k+1,_,by omega,by go_num,rfl⟩,by simp [intOf];omega⟩
    · go_wp2
      go_ret
      exact ⟨rfl,_,rfl⟩
set_option maxRecDepth 100000 in
set_option maxHeartbeats 1000000 in
theorem keptLabels_true {w:World} {v v':Value} {l:List Int} (ha:LasR true (wC w) v l) (hb:LasR false (wC w) v' l):Calls Try.prog 21 #[v,v'] w (Yes w):=by
  obtain ⟨qa,ca,rfl⟩:=slx_shape ha
  obtain ⟨qb,cb,rfl⟩:=slx_shape hb
  have hm:=slx_max ha
  unfold maxLen at hm
  have HD:=Lib.hid (labels_same (c:=ca) (c':=cb) l ha.cells hb.cells (by omega))
  obtain ⟨_,hc,hmx,g,o,rfl,hmk⟩:=slx_mark (size:=1) ha (by decide) la_len (by simp [mkL])
  generalize l.length=n at hc hmk HD ⊢
  unfold maxLen at hmx
  have hx:w.cell? ⟨g,o+n,none⟩=some (.int .u64 7171):=by have:=hmk 0 _ rfl;simpa [wC] using this
  have hi:(n:Int)<(n:Int)+1:=by omega
  have hcc:(n:Int)+1≤(ca:Int):=by omega
  clear ha hb hmk hm
  go_enter Try.func21,Try.ntmps21
  go_wp2_with (go_at_call 33;refine HD.out.mono ?_;rintro e w2 ⟨rfl,k,rfl⟩)
  go_ret
  exact ⟨rfl,_,rfl⟩
set_option maxRecDepth 100000 in
set_option maxHeartbeats 1000000 in
theorem keptCode_true {w:World} {v v':Value} {l:List (Int × Int)} (ha:CdR true (wC w) v l) (hb:CdR false (wC w) v' l):Calls Try.prog 34 #[v,v'] w (Yes w):=by
  obtain ⟨qa,ca,rfl⟩:=slx_shape ha
  obtain ⟨qb,cb,rfl⟩:=slx_shape hb
  have hm:=slx_max ha
  unfold maxLen at hm
  have HD:=Lib.hid (code_same (c:=ca) (c':=cb) l ha.cells hb.cells (by omega))
  obtain ⟨_,hc,hmx,g,o,rfl,hmk⟩:=slx_mark (size:=2) ha (by decide) in_len (by simp [mkI])
  generalize l.length=n at hc hmk HD ⊢
  unfold maxLen at hmx
  have hx:w.cell? ⟨g,o+n * 2,none⟩=some (.int .i64 (-71)):=hmk 0 _ rfl
  have hx2:w.cell? ⟨g,o+n * 2+1,none⟩=some (.int .i64 0):=hmk 1 _ rfl
  have hi:(n:Int)<(n:Int)+1:=by omega
  have hcc:(n:Int)+1≤(ca:Int):=by omega
  have heq:∀ W,(binOp .eql 35 (.agg #[.int .i64 (-71),.int .i64 0]) (.agg #[.int .i64 (-71),.int .i64 0])).run Try.prog W=.ok (.bool true) W:=fun W=>by rw [eqIns'];simp
  clear ha hb hmk hm
  go_enter Try.func34,Try.ntmps34
  go_wp2_with (go_at_call 36;refine HD.out.mono ?_;rintro e w2 ⟨rfl,k,rfl⟩)
  go_ret
  exact ⟨rfl,_,rfl⟩
end Go.Proofs.Ythjkbfamkogoiaa
namespace Go.Proofs.Ythjkbfamkogoiaa
open Go Go.RowKit Go.Proofs.Mm
theorem undOf {P:Program} {t:TypeId} (h:(P.underlying t).map (fun d=>match d with | .struct _ | .array _ _=>true | _=>false)=some true):∃ d,P.underlying t=some d∧(match d with | .struct _ | .array _ _=>true | _=>false)=true:=by
  cases hd:P.underlying t with
  | none=>rw [hd] at h;cases h
  | some d =>
    rw [hd] at h
    exact ⟨d,rfl,by simpa using h⟩
section
variable {w w1 w2:World} {m m1 m2:Mem} {b:Nat} {cs:Array Value} {T:TypeId}
structure Kp (w:World) (m:Mem) (b:Nat) (cs:Array Value) (T:TypeId) (w':World) (m':Mem):Prop where
  below:Below w.heap.size w w'
  has:Has w' m'
  more:m.More w m'
  le:w.heap.size≤b
  lies:w'.heap[b]?=some (.cells cs T (0,0))
  new:m' b=none
theorem Kp.step (h:Kp w m b cs T w1 m1) (hb:Below w1.heap.size w1 w2) (hmo:m1.More w1 m2) (hH:Has w2 m2):Kp w m b cs T w2 m2 :=
  ⟨h.below.trans (hb.mono h.below.size),hH,h.more.trans hmo h.below.size,h.le,by rw [hb.block _ (heap_lt h.lies)];exact h.lies,hmo.new b h.new (heap_lt h.lies)⟩
theorem Kp.set (h:Kp w m b cs T w1 m1) (i:Nat) (v:Value):Kp w m b (cs.setIfInBounds i v) T (w1.setCell ⟨b,i,none⟩ v) m1 :=
  ⟨h.below.setCell h.le v,h.has.chg ((Chg.refl (fun k=>k=b) w1).setCell (.inl rfl) _) (fun k e=>by rw [e];exact h.new),h.more,h.le,heap_set h.lies i v,h.new⟩
theorem Kp.cell (h:Kp w m b cs T w1 m1) {i:Nat} {v:Value} (hv:cs[i]?=some v):w1.cell? ⟨b,i,none⟩=some v:=cell_of h.lies hv
theorem Kp.free (h:Kp w m b cs T w1 m1) (i:Nat):w1.frozen? ⟨b,i,none⟩=false:=free_of h.lies
theorem Kp.start (hm:Has w m) (cs:Array Value) (T:TypeId):Kp w m w.heap.size cs T (w.alloc (.cells cs T)) m :=
  ⟨(Below.refl _ w).alloc (Nat.le_refl _) _,has_grown hm ((Below.refl _ w).alloc (Nat.le_refl _) _),Mem.More.refl _ _,Nat.le_refl _,World.alloc_heap_new _ _,hm.lt (Nat.le_refl _)⟩
end
theorem undFn:∃ d,Try.prog.underlying 45=some d∧(match d with | .struct _ | .array _ _=>true | _=>false)=true:=undOf (by kernel_rfl)
theorem sizeFn:(Try.prog.info? 45).map (·.size)=some 6:=by kernel_rfl
set_option maxRecDepth 100000 in
set_option maxHeartbeats 4000000 in
theorem lentFunction_any {w:World} {cs:List Value} {f:FnM} (h:FnR1 false (wC w) cs f) {m:Mem} (hm:Has w m) :
    Calls Try.prog 17 #[.agg cs.toArray] w fun e w'=>∃ cs' m',e=.returned (.agg cs'.toArray)∧Below w.heap.size w w'∧m.More w m'∧Has w' m'∧FnR1 true (mC m') cs' f:=by
  obtain ⟨vp,vr,vc,rfl,hp,hr,hc⟩:=h
  obtain ⟨qp,cp,rfl⟩:=slx_shape hp
  obtain ⟨qr,cr,rfl⟩:=slx_shape hr
  obtain ⟨qc,cc,rfl⟩:=slx_shape hc
  obtain ⟨np,hnp⟩:∃ n,f.params.length=n:=⟨_,rfl⟩
  obtain ⟨nr,hnr⟩:∃ n,f.results.length=n:=⟨_,rfl⟩
  obtain ⟨nc,hnc⟩:∃ n,f.code.length=n:=⟨_,rfl⟩
  rw [hnp] at hp ⊢
  rw [hnr] at hr ⊢
  rw [hnc] at hc ⊢
  obtain ⟨lv,hlv⟩:∃ n,f.level=n:=⟨_,rfl⟩
  obtain ⟨lo,hlo⟩:∃ n,f.locals=n:=⟨_,rfl⟩
  obtain ⟨stk,hst⟩:∃ n,f.stack=n:=⟨_,rfl⟩
  rw [hlv,hlo,hst]
  have HP:=Lib.hid hp
  have HR:=Lib.hid hr
  have HC:=Lib.hid hc
  have HNP:=Lib.hid hnp
  have HNR:=Lib.hid hnr
  have HNC:=Lib.hid hnc
  have HLV:=Lib.hid hlv
  have HLO:=Lib.hid hlo
  have HST:=Lib.hid hst
  have HM:=Lib.hid hm
  clear hp hr hc hnp hnr hnc hlv hlo hst hm
  go_enter Try.func17,Try.ntmps17
  go_wp2_with fail
  obtain ⟨W6,hW6⟩:∃ W6,(w.alloc (.cells #[.int .u64 lv,.slice qp np cp,.slice qr nr cr,.int .i64 lo,.int .i64 stk,.slice qc nc cc] 45)).alloc (.cells #[.int .u64 0,.slice none 0 0,.slice none 0 0,.int .i64 0,.int .i64 0,.slice none 0 0] 45)=W6:=⟨_,rfl⟩
  have HP0:=Lib.hid (show Kp w m w.heap.size #[.int .u64 lv,.slice qp np cp,.slice qr nr cr,.int .i64 lo,.int .i64 stk,.slice qc nc cc] 45 W6 m by rw [← hW6];exact (Kp.start HM.out _ _).step ((Below.refl _ _).alloc (Nat.le_refl _) _) (Mem.More.refl _ _) (has_grown (Kp.start HM.out _ _).has ((Below.refl _ _).alloc (Nat.le_refl _) _)))
  have hz:W6.heap.size=w.heap.size+1+1:=by rw [← hW6];simp
  have HZHP0:=Lib.hid (show W6.heap[w.heap.size+1]?=some (.cells #[.int .u64 0,.slice none 0 0,.slice none 0 0,.int .i64 0,.int .i64 0,.slice none 0 0] 45 (0,0)) by
    have h9:=World.alloc_heap_new (w.alloc (.cells #[.int .u64 lv,.slice qp np cp,.slice qr nr cr,.int .i64 lo,.int .i64 stk,.slice qc nc cc] 45)) (.cells #[.int .u64 0,.slice none 0 0,.slice none 0 0,.int .i64 0,.int .i64 0,.slice none 0 0] 45)
    rwa [show (w.alloc (.cells #[.int .u64 lv,.slice qp np cp,.slice qr nr cr,.int .i64 lo,.int .i64 stk,.slice qc nc cc] 45)).heap.size=w.heap.size+1 by simp,hW6] at h9)
  have HSZ:=Lib.hid hz
  have HLNHP0:=Lib.hid (HM.out.lt (Nat.le_succ w.heap.size))
  clear hz
  rw [hW6]
  clear hW6
  go_at_call 18
  refine (lentLabels_any (HP.out.le (below_cle HP0.out.below)) HP0.out.has).mono ?_
  rintro e y1 ⟨x,e1,rfl,hb,hmo,hH,hS⟩
  obtain ⟨pp,dp,rfl⟩:=slx_shape hS
  rw [HNP.out] at hS ⊢
  have HR1:=Lib.hid hS
  have hP:=HP0.out.step hb hmo hH
  have HLF1:=Lib.hid hmo.le
  have HLNHP1:=Lib.hid (hmo.new (w.heap.size+1) HLNHP0.out (heap_lt HZHP0.out))
  have HZHP1:=Lib.hid (heap_other (b:=w.heap.size) (j:=1) (v:=.slice pp np dp) ((hb.block (w.heap.size+1) (heap_lt HZHP0.out)).trans HZHP0.out) (by omega))
  clear hS hb hmo hH
  have HP1:=Lib.hid (hP.set 1 (.slice pp np dp))
  have ff:=hP.free 1
  have gg:=hP.cell (i:=1) rfl
  have jj:=hP.cell (i:=2) rfl
  have hle:=hP.below.size
  clear hP
  go_wp2_with fail
  clear ff gg hle jj
  go_at_call 18
  refine (lentLabels_any (HR.out.le (below_cle HP1.out.below)) HP1.out.has).mono ?_
  rintro e y2 ⟨x,e2,rfl,hb,hmo,hH,hS⟩
  obtain ⟨pr,dr,rfl⟩:=slx_shape hS
  rw [HNR.out] at hS ⊢
  have HR2:=Lib.hid hS
  have hP:=HP1.out.step hb hmo hH
  have HLF2:=Lib.hid hmo.le
  have HLNHP2:=Lib.hid (hmo.new (w.heap.size+1) HLNHP1.out (heap_lt HZHP1.out))
  have HZHP2:=Lib.hid (heap_other (b:=w.heap.size) (j:=2) (v:=.slice pr nr dr) ((hb.block (w.heap.size+1) (heap_lt HZHP1.out)).trans HZHP1.out) (by omega))
  clear hS hb hmo hH
  have HP2:=Lib.hid (hP.set 2 (.slice pr nr dr))
  have ff:=hP.free 2
  have gg:=hP.cell (i:=2) rfl
  have jj:=hP.cell (i:=5) rfl
  have hle:=hP.below.size
  clear hP
  go_wp2_with fail
  clear ff gg hle jj
  go_at_call 28
  refine (lentCode_any (HC.out.le (below_cle HP2.out.below)) HP2.out.has).mono ?_
  rintro e y3 ⟨x,e3,rfl,hb,hmo,hH,hS⟩
  obtain ⟨pc,dc,rfl⟩:=slx_shape hS
  rw [HNC.out] at hS ⊢
  have HR3:=Lib.hid hS
  have hP:=HP2.out.step hb hmo hH
  have HLF5:=Lib.hid hmo.le
  have HLNHP3:=Lib.hid (hmo.new (w.heap.size+1) HLNHP2.out (heap_lt HZHP2.out))
  have HZHP3:=Lib.hid (heap_other (b:=w.heap.size) (j:=5) (v:=.slice pc nc dc) ((hb.block (w.heap.size+1) (heap_lt HZHP2.out)).trans HZHP2.out) (by omega))
  clear hS hb hmo hH
  have HP3:=Lib.hid (hP.set 5 (.slice pc nc dc))
  have ff:=hP.free 5
  have gg:=hP.cell (i:=5) rfl
  have hle:=hP.below.size
  clear hP
  obtain ⟨W7,hW7⟩:∃ W7,y3.setCell ⟨w.heap.size,5,none⟩ (.slice pc nc dc)=W7:=⟨_,rfl⟩
  rw [hW7] at HP3
  have t0:W7.cell? ⟨w.heap.size,0,none⟩=some (.int .u64 lv):=HP3.out.cell rfl
  have t1:W7.cell? ⟨w.heap.size,1,none⟩=some (.slice pp np dp):=HP3.out.cell rfl
  have t2:W7.cell? ⟨w.heap.size,2,none⟩=some (.slice pr nr dr):=HP3.out.cell rfl
  have t3:W7.cell? ⟨w.heap.size,3,none⟩=some (.int .i64 lo):=HP3.out.cell rfl
  have t4:W7.cell? ⟨w.heap.size,4,none⟩=some (.int .i64 stk):=HP3.out.cell rfl
  have t5:W7.cell? ⟨w.heap.size,5,none⟩=some (.slice pc nc dc):=HP3.out.cell rfl
  have hx1:W7.heap[w.heap.size+1]?=_:=hW7 ▸ HZHP3.out
  have k0:=cell_of (j:=0) hx1 rfl
  have k1:=cell_of (j:=1) hx1 rfl
  have k2:=cell_of (j:=2) hx1 rfl
  have k3:=cell_of (j:=3) hx1 rfl
  have k4:=cell_of (j:=4) hx1 rfl
  have k5:=cell_of (j:=5) hx1 rfl
  have l0:=free_of (j:=0) hx1
  have l1:=free_of (j:=1) hx1
  have l2:=free_of (j:=2) hx1
  have l3:=free_of (j:=3) hx1
  have l4:=free_of (j:=4) hx1
  have l5:=free_of (j:=5) hx1
  go_wp2
  (try simp only [Exit.inBlock,Exit.then])
  try rw [hW7]
  clear hW7
  obtain ⟨d9,u1,u2⟩:=undFn
  have hx3:=heap_set (heap_set (heap_set (heap_set (heap_set (heap_set hx1 0 (.int .u64 lv)) 1 (.slice pp np dp)) 2 (.slice pr nr dr)) 3 (.int .i64 lo)) 4 (.int .i64 stk)) 5 (.slice pc nc dc)
  refine bodyPost_ret (results_cell_row rfl _ _ (w.heap.size+1) 45 _ (0,0) d9 rfl hx3 u1 (by cases d9 <;> first | rfl | cases u2) sizeFn) rfl ?_
  have h0:e3 (w.heap.size+1)=none:=HLNHP3.out
  have st:∀ (W:World) i v,Has W e3→Has (W.setCell ⟨w.heap.size+1,i,none⟩ v) e3:=fun W i v h=>h.chg ((Chg.refl (fun k=>k=w.heap.size+1) W).setCell (.inl rfl) v) (fun k e=>by rw [e];exact h0)
  have hq:w.heap.size≤w.heap.size+1:=Nat.le_succ _
  refine ⟨[.int .u64 lv,.slice pp np dp,.slice pr nr dr,.int .i64 lo,.int .i64 stk,.slice pc nc dc],e3,rfl,?_,HP3.out.more,st _ 5 _ (st _ 4 _ (st _ 3 _ (st _ 2 _ (st _ 1 _ (st _ 0 _ HP3.out.has))))),?_⟩
  · exact ((((((HP3.out.below).setCell hq _).setCell hq _).setCell hq _).setCell hq _).setCell hq _).setCell hq _
  · exact ⟨_,_,_,by rw [HLV.out,HLO.out,HST.out],HR1.out.le (mle_cle (HLF2.out.trans HLF5.out)),HR2.out.le (mle_cle HLF5.out),HR3.out⟩
end Go.Proofs.Ythjkbfamkogoiaa
namespace Go.Proofs.Ythjkbfamkogoiaa
open Go Go.RowKit Go.Proofs.Mm
theorem _root_.Go.RowKit.Below.drewK {n:Nat} {a w:World} (h:Below n a w) (k:Nat):Below n a (w.drewN k):=⟨h.os,h.tape,h.output,h.size,h.block⟩
set_option maxRecDepth 100000 in
set_option maxHeartbeats 2000000 in
theorem keptFunction_true {w:World} {cs cs':List Value} {f:FnM} (ha:FnR1 true (wC w) cs f) (hb:FnR1 false (wC w) cs' f):Calls Try.prog 22 #[.agg cs.toArray,.agg cs'.toArray] w fun e w'=>e=.returned (.bool true)∧Below w.heap.size w w':=by
  obtain ⟨vp,vr,vc,rfl,hp,hr,hc⟩:=ha
  obtain ⟨vp',vr',vc',rfl,hp',hr',hc'⟩:=hb
  have K1:=Lib.hid (fun W (h:Below w.heap.size w W)=>keptLabels_true (w:=W) (hp.le (below_cle h)) (hp'.le (below_cle h)))
  have K2:=Lib.hid (fun W (h:Below w.heap.size w W)=>keptLabels_true (w:=W) (hr.le (below_cle h)) (hr'.le (below_cle h)))
  have K3:=Lib.hid (fun W (h:Below w.heap.size w W)=>keptCode_true (w:=W) (hc.le (below_cle h)) (hc'.le (below_cle h)))
  generalize f.level=lv at *
  generalize f.locals=lo at *
  generalize f.stack=stk at *
  clear hp hr hc hp' hr' hc'
  have b1:(lv == lv)=true:=by simp
  have b2:(lo == lo)=true:=by simp
  have b3:(stk == stk)=true:=by simp
  go_enter Try.func22,Try.ntmps22
  go_wp2_with fail
  obtain ⟨W0,hW0⟩:∃ W0,(w.alloc (.cells #[.int .u64 lv,vp,vr,.int .i64 lo,.int .i64 stk,vc] 45)).alloc (.cells #[.int .u64 lv,vp',vr',.int .i64 lo,.int .i64 stk,vc'] 45)=W0:=⟨_,rfl⟩
  have HB0:=Lib.hid (show Below w.heap.size w W0 by rw [← hW0];exact ((Below.refl _ w).alloc (Nat.le_refl _) _).alloc (by simp) _)
  have hX:W0.heap[w.heap.size]?=some (.cells #[.int .u64 lv,vp,vr,.int .i64 lo,.int .i64 stk,vc] 45 (0,0)):=by rw [← hW0];exact heap_new _ _ (World.alloc_heap_new _ _)
  have hY:W0.heap[w.heap.size+1]?=some (.cells #[.int .u64 lv,vp',vr',.int .i64 lo,.int .i64 stk,vc'] 45 (0,0)):=by
    have h9:=World.alloc_heap_new (w.alloc (.cells #[.int .u64 lv,vp,vr,.int .i64 lo,.int .i64 stk,vc] 45)) (.cells #[.int .u64 lv,vp',vr',.int .i64 lo,.int .i64 stk,vc'] 45)
    rwa [show (w.alloc (.cells #[.int .u64 lv,vp,vr,.int .i64 lo,.int .i64 stk,vc] 45)).heap.size=w.heap.size+1 by simp,hW0] at h9
  rw [hW0]
  clear hW0
  have x2:=cell_of (j:=2) hX rfl
  have x5:=cell_of (j:=5) hX rfl
  have y2:=cell_of (j:=2) hY rfl
  have y5:=cell_of (j:=5) hY rfl
  clear hX hY
  go_at_call 21
  refine (K1.out W0 HB0.out).mono ?_
  rintro e w2 ⟨rfl,k1,rfl⟩
  go_wp2_with fail
  go_at_call 21
  refine (K2.out (W0.drewN k1) (HB0.out.drewK k1)).mono ?_
  rintro e w2 ⟨rfl,k2,rfl⟩
  go_wp2_with fail
  go_at_call 34
  refine (K3.out (W0.drewN (k1+k2)) (HB0.out.drewK (k1+k2))).mono ?_
  rintro e w2 ⟨rfl,k3,rfl⟩
  go_wp2
  go_ret
  exact ⟨rfl,HB0.out.drewK _⟩
end Go.Proofs.Ythjkbfamkogoiaa
namespace Go.Proofs.Ythjkbfamkogoiaa
open Go Go.RowKit Go.Proofs.Mm
theorem infoFn:∃ i,Try.prog.info? 45=some i∧i.zero=some (.agg #[.int .u64 0,.slice none 0 0,.slice none 0 0,.int .i64 0,.int .i64 0,.slice none 0 0])∧i.size=6∧i.bytes=96:=infoOf (by kernel_rfl)
theorem und_Fn:Try.prog.underlying 24=some (.slice 45):=by kernel_rfl
theorem undMo:∃ d,Try.prog.underlying 26=some d∧(match d with | .struct _ | .array _ _=>true | _=>false)=true:=undOf (by kernel_rfl)
theorem sizeMo:(Try.prog.info? 26).map (·.size)=some 4:=by kernel_rfl
def RwI {α:Type} (E:TypeId) (size:Nat) (R:Mem→List Value→α→Prop) (w:World) (m:Mem) (n:Nat) (l:List α) (vF iV:Value) (wr:World):Prop :=
  ∃ k q c cs m',k≤n∧iV=.int .i64 (k:Nat)∧vF=.slice q k c∧Hid (wr.ownsRow w.heap.size E size (.slice q k c) k cs)∧Hid (Enc (R m') cs (l.take k))∧Hid (Has wr m')∧Hid (m.More w m')∧Hid (∀ b,(Value.slice q k c).ownBlock=some b→m' b=none)∧Hid (Below w.heap.size w wr)
theorem RwI.start {α:Type} {E:TypeId} {size:Nat} {R:Mem→List Value→α→Prop} {w:World} {m:Mem} {n:Nat} {l:List α} (h:Has w m):RwI E size R w m n l (.slice none 0 0) (.int .i64 0) w :=
  ⟨0,none,0,[],m,Nat.zero_le _,rfl,rfl,Lib.hid (World.ownsRow_nil _ _ _ _),Lib.hid Enc.nil,Lib.hid h,Lib.hid (Mem.More.refl _ _),Lib.hid (fun b hb=>by cases hb),Lib.hid (Below.refl _ _)⟩
theorem rw_step {α:Type} {E:TypeId} {size:Nat} {R:Mem→List Value→α→Prop} {w wr w' w9:World} {m m' m'':Mem} {k c:Nat} {q:Option Addr} {l:List α} {cs news:List Value} {v9:Value} {o:Obj} (hk:k<l.length)
    (hE:Enc (R m') cs (l.take k)) (hMo:m.More w m') (hFr:∀ b,(Value.slice q k c).ownBlock=some b→m' b=none) (hB:Below w.heap.size w wr) (hrow:wr.ownsRow w.heap.size E size (.slice q k c) k cs)
    (hb:Below wr.heap.size wr w') (hmo:m'.More wr m'') (hH:Has w' m'') (hR:∀ m m':Mem,m.le m'→∀ c x,R m c x→R m' c x) (hx:R m'' news l[k])
    (hown:w9.ownsRow w.heap.size E size v9 (k+1) (cs++news)) (hg:(w'.alloc o).grownBy w9 (Value.slice q k c).ownBlock) (hat:v9.ownBlock=(Value.slice q k c).ownBlock ∨ v9.ownBlock=some (w'.heap.size+1)) :
    ∃ q9 c9,v9=.slice q9 (k+1) c9∧Hid (w9.ownsRow w.heap.size E size (.slice q9 (k+1) c9) (k+1) (cs++news))∧Hid (Enc (R m'') (cs++news) (l.take (k+1)))∧Hid (Has w9 m'')∧Hid (m.More w m'')∧Hid (∀ b,(Value.slice q9 (k+1) c9).ownBlock=some b→m'' b=none)∧Hid (Below w.heap.size w w9):=by
  obtain ⟨q9,c9,rfl⟩:=own_shape hown
  have h1:=hB.size
  have h2:=hb.size
  have hfr:∀ b,(Value.slice q k c).ownBlock=some b→m'' b=none:=fun b e=>hmo.new b (hFr b e) (hrow.lt b e).2
  have hC:Chg (fun b=>(Value.slice q k c).ownBlock=some b) w' w9:=((Chg.refl _ w').alloc _).then (grown_chg hg (fun b hb=>.inl hb))
  refine ⟨q9,c9,rfl,Lib.hid hown,Lib.hid ?_,Lib.hid (hH.chg hC hfr),Lib.hid (hMo.trans hmo h1),Lib.hid (fun b hb=>?_),Lib.hid ?_⟩
  · rw [List.take_succ_eq_append_getElem hk]
    exact (hE.mono (hR _ _ hmo.le)).app (Enc.one hx)
  · rcases hat with hat | hat
    · exact hfr b (hat.symm.trans hb)
    · have:=hat.symm.trans hb
      injection this with this
      exact hH.lt (by omega)
  · exact grown_below ((hB.trans (hb.mono h1)).alloc (by omega) _) (by simp;omega) hg (fun j hj=>(hrow.lt j hj).1)
theorem rw_end {α:Type} {E:TypeId} {size bs:Nat} {R:Mem→List Value→α→Prop} {w wr w9:World} {m m':Mem} {n c:Nat} {q:Option Addr} {l:List α} {cs mk:List Value} {v9:Value} {o:Obj} (hn:l.length=n)
    (hE:Enc (R m') cs (l.take n)) (hMo:m.More w m') (hFr:∀ b,(Value.slice q n c).ownBlock=some b→m' b=none) (hB:Below w.heap.size w wr) (hrow:wr.ownsRow w.heap.size E size (.slice q n c) n cs) (hH:Has wr m') (hR:∀ m m':Mem,m.le m'→∀ c x,R m c x→R m' c x)
    (hown:w9.ownsRow w.heap.size E size v9 (n+1) (cs++mk)) (hg:(wr.alloc o).grownBy w9 (Value.slice q n c).ownBlock) (hat:v9.ownBlock=(Value.slice q n c).ownBlock ∨ v9.ownBlock=some (wr.heap.size+1)) (hb:n * bs≤140737488351232) :
    ∃ q9 c9,v9=.slice q9 (n+1) c9∧n+1≤c9∧(∃ g9,q9=some ⟨g9,0,none⟩)∧Hid (∃ m9,m.More w m9∧Has w9 m9∧SlX mk bs (mC m9) (R m9) (.slice q9 n c9) l)∧Hid (Below w.heap.size w w9):=by
  obtain ⟨q9,c9,rfl⟩:=own_shape hown
  have h1:=hB.size
  have hC:Chg (fun b=>(Value.slice q n c).ownBlock=some b) wr w9:=((Chg.refl _ wr).alloc _).then (grown_chg hg (fun b hb=>.inl hb))
  have hcap:n+1≤c9∧∃ g9,q9=some ⟨g9,0,none⟩:=by
    rcases hown.2 with ⟨_,h0⟩ | ⟨g',cap',cur,h0,_,_,h1,_,_⟩
    · omega
    · injection h0 with h3 _ h4
      exact ⟨by omega,g',h3⟩
  obtain ⟨m9,d1,d2,d3⟩:=lent_done (w:=w) (bs:=bs) (R:=R) (hH.chg hC hFr) (fun b hb=>by
    rcases hat with hat | hat
    · exact hFr b (hat.symm.trans hb)
    · have:=hat.symm.trans hb
      injection this with this
      exact hH.lt (by omega)) hown hn (by rwa [List.take_of_length_le (by omega)] at hE) hR hb
  exact ⟨q9,c9,rfl,hcap.1,hcap.2,Lib.hid ⟨m9,hMo.trans d1 (Nat.le_refl _),d2,d3⟩,Lib.hid (grown_below (hB.alloc h1 _) (by simp;omega) hg (fun j hj=>(hrow.lt j hj).1))⟩
section
variable {P:Program}
theorem wpList_append_rd {ops:Array Oper} {rest:List Oper} {o:Oper} {a:Act} {w:World} {Q:Exit→Act→World→Prop} (hgd:o.guard=none) (s x:Operand) (t:TypeId)
    (ho:o.op=.call { callee:=.builtin .append,args:=#[s,x],argTypes:=#[t,t] })
    (e:TypeId) (i:TypeInfo) (z:Value) (size bytes:Nat) (ht:P.underlying t=some (.slice e)) (hi:P.info? e=some i) (hz:i.zero=some z)
    (hsize:i.size=size) (hby:i.bytes=bytes) (hzs:z.cells.size=size) (hsz:0<size)
    (hs:a.eval s=.slice none 0 0)
    (q:Option Addr) (m c:Nat) (news:List Value) (hx:a.eval x=.slice q m c) (hq:q=none→c=0) (hmc:m≤c) (hl:news.length=m * size) (hnews:∀ ad,q=some ad→∀ j u,news[j]?=some u→w.cell? (ad.add j)=some u) (h1:∀ u ∈ news,u.oneCell'=true)
    (h63:m≤maxLen) (hbytes:m * bytes≤140737488355328)
    (h:∀ q' c' w',w'.ownsRow w.heap.size e size (.slice q' m c') m news→Below w.heap.size w w'→wpList P ops Q rest (a.put o.dst (.slice q' m c')) w') :
    wpList P ops Q (o :: rest) a w:=by
  have hnil:=World.ownsRow_nil w w.heap.size e size
  rcases q with _ | ad
  · obtain rfl:c=0:=hq rfl
    obtain rfl:m=0:=by omega
    have hn:news=[]:=List.eq_nil_of_length_eq_zero (by simpa using hl)
    subst hn
    exact wpList_append_own_none hgd s x t ho w.heap.size e i size ht hi _ 0 [] hs hnil hx (h none 0 w hnil (Below.refl _ w))
  · refine wpList_append_own w hgd s x t ho w.heap.size e i z size bytes ht hi hz hsize hby hzs hsz _ 0 [] hs hnil ad m c news hx hl (hnews ad rfl) h1 (by omega) (by rwa [Nat.zero_add]) (Nat.le_refl _) ?_
    intro v' w' hR hg _
    rw [Nat.zero_add,List.nil_append] at hR
    obtain ⟨q',c',rfl⟩:=own_shape hR
    exact h q' c' w' hR (grown_below (Below.refl _ w) (Nat.le_refl _) hg (fun j hj=>by cases hj))
end
theorem ArsR.take {C:Cl} {q:Option Addr} {n c:Nat} {l:List (Int × Int)} (h:ArsR false C (.slice q n c) l):∃ cs,l.length=n∧(q=none→c=0)∧n≤c∧cs.length=n * 2∧(∀ ad,q=some ad→∀ j u,cs[j]?=some u→C (ad.add j)=some u)∧(∀ u ∈ cs,u.oneCell'=true)∧n≤maxLen∧n * 16≤140737488351232∧Enc arR cs l:=by
  obtain ⟨q',c',cs,e,_,hr,he,hb,hmax,hqn,hlc⟩:=h
  obtain ⟨rfl,rfl,rfl⟩:q=q'∧n=l.length∧c=c':=by injection e with a b c;exact ⟨a,b,c⟩
  obtain ⟨hcl,_⟩:=encZ_at ar_len he
  refine ⟨cs,rfl,hqn,hlc,hcl,?_,one_enc ar_one he,by omega,hb,he⟩
  intro ad hq
  rcases hr with hr | ⟨g,o,hq2,hr⟩
  · have:=(List.append_eq_nil_iff.1 hr).1
    subst this
    intro j u hu
    simp at hu
  · rw [hq] at hq2
    injection hq2 with hq2
    subst hq2
    exact enc_cells he (fun j u hu=>hr j u (by rw [List.getElem?_append_left ((List.getElem?_eq_some_iff.1 hu).1)];exact hu))
theorem fnR_mono:∀ m m':Mem,m.le m'→∀ c x,FnR1 true (mC m) c x→FnR1 true (mC m') c x:=fun _ _ h _ _ e=>e.le (mle_cle h)
def FnAt (lt:Bool) (C:Cl) (q:Option Addr) (l:List FnM):Prop:=∀ j (hj:j<l.length),∃ g o vp vr vc,q=some ⟨g,o,none⟩∧FnR1 lt C [.int .u64 l[j].level,vp,vr,.int .i64 l[j].locals,.int .i64 l[j].stack,vc] l[j]∧C ⟨g,o+j * 6,none⟩=some (.int .u64 l[j].level)∧C ⟨g,o+j * 6+1,none⟩=some vp∧C ⟨g,o+j * 6+2,none⟩=some vr∧C ⟨g,o+j * 6+3,none⟩=some (.int .i64 l[j].locals)∧C ⟨g,o+j * 6+4,none⟩=some (.int .i64 l[j].stack)∧C ⟨g,o+j * 6+5,none⟩=some vc
theorem FnsR.cells {lt:Bool} {C:Cl} {q:Option Addr} {n c:Nat} {l:List FnM} (h:FnsR lt C (.slice q n c) l):FnAt lt C q l:=by
  intro j hj
  obtain ⟨g,o,e,h1,hF,h3⟩:=slx_at (size:=6) h (by decide) fn_len j hj
  obtain ⟨vp,vr,vc,rfl,k1,k2,k3⟩:=hF
  exact ⟨g,o,vp,vr,vc,h1,⟨vp,vr,vc,rfl,k1,k2,k3⟩,h3 0 _ (by decide) rfl,h3 1 _ (by decide) rfl,h3 2 _ (by decide) rfl,h3 3 _ (by decide) rfl,h3 4 _ (by decide) rfl,h3 5 _ (by decide) rfl⟩
theorem slx_bytes {α:Type} {mk:List Value} {bs:Nat} {C:Cl} {R:List Value→α→Prop} {v:Value} {l:List α} (h:SlX mk bs C R v l):l.length * bs≤140737488351232:=by
  obtain ⟨_,_,_,_,_,_,_,h1,_⟩:=h;exact h1
end Go.Proofs.Ythjkbfamkogoiaa
