/- ApartBytes of the statements' kit, of two lists that lie apart: what it goes by; in every memory. ImageTold: the law's walk. The document's writer: put, labels, bytes with their sum. ImageMay: the law's walk. The document's answer: May, Bytes, Write. -/
import Derived.Test.YtbfkgcapkffecaaImWritesPR4
import Derived.OneCell
import Derived.Deep.DeepCutAuto
import Derived.Deep.CutBlock
import Derived.Test.YtbfkgcapkffecaaImWritesPR11
namespace Go.Proofs.Ytbfkgcapkffecaa
open Go Go.RowKit
structure But (R:Nat) (w w':World):Prop where
  os:w'.os=w.os
  tape:w'.tape=w.tape
  output:w'.output=w.output
  size:w.heap.size≤w'.heap.size
  block:∀ k,k<w.heap.size→k ≠ R→w'.heap[k]?=w.heap[k]?
theorem But.of_below {R:Nat} {w w':World} (h:Below w.heap.size w w'):But R w w':=⟨h.os,h.tape,h.output,h.size,fun k hk _=>h.block k hk⟩
theorem But.trans {R:Nat} {a b c:World} (h:But R a b) (k:But R b c):But R a c :=
  ⟨k.os.trans h.os,k.tape.trans h.tape,k.output.trans h.output,Nat.le_trans h.size k.size,fun i hi hne=>(k.block i (Nat.lt_of_lt_of_le hi h.size) hne).trans (h.block i hi hne)⟩
theorem But.set {R:Nat} (w:World) (o:Nat) (u:Value):But R w (w.setCell ⟨R,o,none⟩ u) :=
  ⟨rfl,rfl,rfl,by simp [World.setCell],fun k _ hk=>Below.heap_setCell _ _ _ _ hk⟩
theorem But.low {R B:Nat} {w w':World} (h:But R w w') (hB:B≤w.heap.size) (hR:B≤R):Below B w w' :=
  ⟨h.os,h.tape,h.output,h.size,fun k hk=>h.block k (by omega) (by omega)⟩
theorem But.cell {R:Nat} {w w':World} {a:Addr} {v:Value} (h:But R w w') (hc:w.cell? a=some v) (hne:a.block ≠ R):w'.cell? a=some v :=
  (World.cell?_of_block (h.block a.block (World.block_lt_of_cell? _ _ hc) hne)).trans hc
theorem run_append_most {P:Program} (w:World) (base:Nat) (t ty e:TypeId) (i:TypeInfo) (z:Value) (size bytes:Nat) (ht:P.underlying t=some (.slice e)) (hi:P.info? e=some i) (hz:i.zero=some z)
    (hsize:i.size=size) (hby:i.bytes=bytes) (hzs:z.cells.size=size) (hsz:0<size)
    (v:Value) (n:Nat) (xs:List Value) (hown:w.ownsRow base e size v n xs)
    (a:Addr) (m c:Nat) (news:List Value) (hl:news.length=m * size) (hnews:∀ j u,news[j]?=some u→w.cell? (a.add j)=some u) (h1:∀ u ∈ news,u.oneCell'=true)
    (h63:n+m≤maxLen) (hbytes:(n+m) * bytes≤140737488355328) (hbase:base≤w.heap.size) :
    ∃ v' w',(Builtin.append_ #[t,t] ty #[v,.slice (some a) m c]).run P w=.ok v' w'∧w'.ownsRow base e size v' (n+m) (xs++news) ∧
      ((v'.ownBlock=v.ownBlock∧w.grownBy w' v.ownBlock) ∨ ((∀ k,v'.ownBlock=some k→w.heap.size≤k)∧w.grownBy w' none)):=by
  obtain ⟨v',w',hr,r1,r2,_⟩:=run_append_own (P:=P) w base t ty e i z size bytes ht hi hz hsize hby hzs hsz v n xs hown a m c news hl hnews h1 h63 hbytes hbase
  refine ⟨v',w',hr,r1,?_⟩
  rcases hown.2 with ⟨rfl,rfl⟩ | ⟨g,cap,cur,rfl,hbg,hg,hnc,hcm,hcs,htake⟩
  · have hx:xs=[]:=List.eq_nil_of_length_eq_zero (by simpa using hown.1)
    subst hx
    obtain ⟨v2,w2,hr2,q1,q2,_⟩:=run_append_own (P:=P) w w.heap.size t ty e i z size bytes ht hi hz hsize hby hzs hsz (.slice none 0 0) 0 [] (World.ownsRow_nil w _ e size) a m c news hl hnews h1 h63 hbytes (Nat.le_refl _)
    rw [hr] at hr2
    injection hr2 with e1 e2
    subst e1 e2
    exact .inr ⟨fun k hk=>(q1.lt k hk).1,q2⟩
  · by_cases hroom:n+m≤cap
    · subst hsize
      have hfit:n * i.size+news.length≤cur.size:=by rw [hl,hcs,← Nat.add_mul];exact Nat.mul_le_mul_right _ hroom
      have hr2:=run_append_room (P:=P) w t ty e i ht hi g n cap cur hg a m c news hl hnews h1 hroom hfit
      rw [hr] at hr2
      injection hr2 with e1 e2
      subst e1
      exact .inl ⟨rfl,r2⟩
    · have holds:∀ j u,xs[j]?=some u→w.cell? ((⟨g,0,none⟩:Addr).add j)=some u:=hown.cells (g:=g) rfl
      obtain ⟨v2,w2,hr2,q1,q2⟩:=run_append_arg_grows (P:=P) w t ty e i z size bytes ht hi hz hsize hby hzs hsz ⟨g,0,none⟩ n cap xs hown.1 holds a m c news hl hnews (by omega) h63 hbytes
      rw [hr] at hr2
      injection hr2 with e1 e2
      subst e1 e2
      exact .inr ⟨fun k hk=>(q1.lt k hk).1,q2⟩
theorem wpList_most {ops:Array Oper} {rest:List Oper} {o:Oper} {a:Act} {Q:Exit→Act→World→Prop} {w:World} (hgd:o.guard=none) (s x:Operand)
    (ho:o.op=.call { callee:=.builtin .append,args:=#[s,x],argTypes:=#[28,28] })
    (B:Nat) (v:Value) (l:List Nat) (hs:a.eval s=v) (hown:OwnB B w v l)
    (ad:Addr) (c:Nat) (news:List Nat) (hx:a.eval x=.slice (some ad) news.length c) (hnews:∀ j u,(bv news)[j]?=some u→w.cell? (ad.add j)=some u)
    (hb:l.length+news.length≤140737488355328) (hbase:B≤w.heap.size)
    (h:∀ v' w',OwnB B w' v' (l++news)→((v'.ownBlock=v.ownBlock∧w.grownBy w' v.ownBlock) ∨ ((∀ k,v'.ownBlock=some k→w.heap.size≤k)∧w.grownBy w' none))→wpList Try.prog ops Q rest (a.put o.dst v') w'):wpList Try.prog ops Q (o :: rest) a w:=by
  obtain ⟨i,h2,h3,h4,h5⟩:=info5
  obtain ⟨v',w',hr,r1,r2⟩:=run_append_most (P:=Try.prog) w B 28 o.type 5 i (.int .u8 0) 1 1 Try.underlying28 h2 h3 h4 h5 rfl (by omega) v l.length (bv l) hown ad news.length c (bv news) (by simp [bv]) hnews (bv_one _) (by unfold maxLen;omega) (by omega) hbase
  have r1':OwnB B w' v' (l++news):=by unfold OwnB;rw [List.length_append,bv_append];exact r1
  refine wpList_plain hgd fun K hK=>?_
  unfold Oper.wp execOp
  simp only [ho,resolve,invoke,builtin,Sem.run_bind,Sem.run_pure,Result.andThen_ok,List.map_toArray,List.map_cons,List.map_nil,hs,hx,hr]
  exact hK _ _ (h v' w' r1' r2)
def mk8 (b k:Nat):List Nat:=(List.range k).map (fun t=>(b+t) % 256)
theorem mk8_succ (b k:Nat):mk8 b (k+1)=mk8 b k++[(b+k) % 256]:=by simp [mk8,List.range_succ]
theorem mk8_length (b k:Nat):(mk8 b k).length=k:=by simp [mk8]
theorem mk8_at (b k j:Nat) (hj:j<k):(mk8 b k).getD j 0=(b+j) % 256:=by simp [mk8,List.getD_eq_getElem?_getD,hj]
theorem set_nextL (b k:Nat) (old:List Nat) (hk:k<old.length):(mk8 b k++old.drop k).set k ((b+k) % 256)=mk8 b (k+1)++old.drop (k+1):=by
  have h:=mk8_length b k
  rw [List.set_append_right _ _ (by omega),h,Nat.sub_self,List.drop_eq_getElem_cons hk,List.set_cons_zero,mk8_succ]
  simp
theorem bv_set (l:List Nat) (k x:Nat):bv (l.set k x)=(bv l).set k (.int .u8 (x:Int)):=by simp [bv]
theorem OwnB.stored {B g n c:Nat} {w:World} {l:List Nat} (h:OwnB B w (.slice (some ⟨g,0,none⟩) n c) l) (hn:n=l.length) (k x:Nat):OwnB B (w.setCell ⟨g,k,none⟩ (.int .u8 (x:Int))) (.slice (some ⟨g,0,none⟩) n c) (l.set k x):=by
  subst hn
  have:=(World.ownsRow.stored h k (.int .u8 (x:Int))).1
  unfold OwnB
  rw [List.length_set,bv_set]
  exact this
theorem OwnB.elsewhere {B:Nat} {w:World} {v:Value} {l:List Nat} (h:OwnB B w v l) {a:Addr} (ha:v.ownBlock ≠ some a.block) (u:Value):OwnB B (w.setCell a u) v l:=ownsRow_setCell_other h ha u
theorem OwnB.block {B g n c:Nat} {w:World} {l:List Nat} (h:OwnB B w (.slice (some ⟨g,0,none⟩) n c) l):∃ cur,w.heap[g]?=some (.cells cur 5 (0,0))∧B≤g∧n≤c∧c≤maxLen∧g<w.heap.size:=by
  rcases h.2 with ⟨h2,_⟩ | ⟨g',cap',cur,hv,hg',hh,h3,h4,_⟩
  · simp at h2
  · simp only [Value.slice.injEq,Option.some.injEq,Addr.mk.injEq,and_true] at hv
    obtain ⟨rfl,rfl,rfl⟩:=hv
    exact ⟨cur,hh,hg',h3,h4,lt_of_block hh⟩
theorem OwnB.at {B g n c:Nat} {w:World} {l:List Nat} (h:OwnB B w (.slice (some ⟨g,0,none⟩) n c) l) (hn:n=l.length) (k:Nat) (hk:k<n):w.cell? ⟨g,k,none⟩=some (.int .u8 ((l.getD k 0:Nat):Int))∧w.frozen? ⟨g,k,none⟩=false:=by
  subst hn
  exact ⟨own_cell h k hk,World.ownsRow.frozenAt h k⟩
structure Ap1 (G B:Nat) (bl m cp:Nat→Nat) (L:Nat→List Nat) (w0 wr:World):Prop where
  all:∀ q,q<2→wr.cell? ⟨G,q,none⟩=some (.slice (some ⟨bl q,0,none⟩) (m q) (cp q))
  row:∀ q,q<2→OwnB B wr (.slice (some ⟨bl q,0,none⟩) (m q) (cp q)) (L q)
  len:∀ q,q<2→(L q).length=m q
  low:Below B w0 wr
theorem Ap1.store {G B:Nat} {bl m cp:Nat→Nat} {L L':Nat→List Nat} {w0 wr:World} (h:Ap1 G B bl m cp L w0 wr) (hG:∀ q,q<2→¬ G=bl q) (hne:∀ q r,q<2→r<2→bl q=bl r→q=r) {i k:Nat} (hi:i<2) (x:Nat)
    (hi':L' i=(L i).set k x) (ho:∀ q,q<2→¬ q=i→L' q=L q):Ap1 G B bl m cp L' w0 (wr.setCell ⟨bl i,k,none⟩ (.int .u8 (x:Int))):=by
  refine ⟨fun q hq=>?_,fun q hq=>?_,fun q hq=>?_,?_⟩
  · exact (World.cell?_of_block (a:=⟨G,q,none⟩) (Below.heap_setCell wr ⟨bl i,k,none⟩ _ G (hG i hi))).trans (h.all q hq)
  · by_cases hqi:q=i
    · subst hqi
      rw [hi']
      exact (h.row q hq).stored (h.len q hq).symm k x
    · rw [ho q hq hqi]
      refine (h.row q hq).elsewhere ?_ _
      simp only [Value.ownBlock,ne_eq,Option.some.injEq]
      exact fun e=>hqi (hne q i hq hi e)
  · by_cases hqi:q=i
    · subst hqi;rw [hi',List.length_set];exact h.len q hq
    · rw [ho q hq hqi];exact h.len q hq
  · obtain ⟨_,_,hb,_⟩:=(h.row i hi).block
    exact h.low.setCell hb _
theorem info22:∃ i,Try.prog.info? 28=some i∧i.zero=some (.slice none 0 0)∧i.size=1∧i.bytes=24:=by
  have h:(Try.prog.info? 28).map (fun i=>(i.zero,i.size,i.bytes))=some (some (.slice none 0 0),1,24):=by kernel_rfl
  cases hi:Try.prog.info? 28 with
  | none=>rw [hi] at h;cases h
  | some i =>
    rw [hi] at h
    simp only [Option.map_some,Option.some.injEq,Prod.mk.injEq] at h
    obtain ⟨e1,e2,e3⟩:=h
    exact ⟨i,rfl,e1,e2,e3⟩
def lsV (gs cs m:Nat→Nat) (j:Nat):List Value:=(List.range j).map (fun q=>Value.slice (some ⟨gs q,0,none⟩) (m q+70) (cs q))
theorem lsV_succ (gs cs m:Nat→Nat) (j:Nat):lsV gs cs m (j+1)=lsV gs cs m j++[.slice (some ⟨gs j,0,none⟩) (m j+70) (cs j)]:=by simp [lsV,List.range_succ]
theorem lsV_congr {gs cs gs' cs' m:Nat→Nat} {j:Nat} (h:∀ q,q<j→gs q=gs' q∧cs q=cs' q):lsV gs cs m j=lsV gs' cs' m j:=by
  unfold lsV
  apply List.map_congr_left
  intro q hq
  obtain ⟨h1,h2⟩:=h q (List.mem_range.1 hq)
  rw [h1,h2]
structure Ap2 (G B N:Nat) (bl m cp:Nat→Nat) (j:Nat) (gs cs:Nat→Nat) (mv:Value) (w0 wr:World):Prop where
  all:∀ q,q<2→wr.cell? ⟨G,q,none⟩=some (.slice (some ⟨bl q,0,none⟩) (m q) (cp q))
  one:∀ q,q<2→∀ k,k<m q→wr.cell? ⟨bl q,k,none⟩=some (.int .u8 (((37 * q+k) % 256:Nat):Int))
  own:∀ q,q<2→j≤q→OwnB B wr (.slice (some ⟨bl q,0,none⟩) (m q) (cp q)) (mk8 (37 * q) (m q))
  ls:wr.ownsRow N 28 1 mv j (lsV gs cs m j)
  two:∀ q,q<j→OwnB B wr (.slice (some ⟨gs q,0,none⟩) (m q+70) (cs q)) (mk8 (37 * q) (m q)++mk8 (11 * q) 70)
  fresh:∀ q,q<j→gs q=bl q ∨ N≤gs q
  big:N≤wr.heap.size
  low:Below B w0 wr
structure Ap3 (B Ni b mj c1 c2:Nat) (l:Value) (k:Nat) (wi wk:World):Prop where
  own:OwnB B wk l (mk8 c1 mj++mk8 c2 k)
  blk:l.ownBlock=some b ∨ ∃ g,l.ownBlock=some g∧Ni≤g
  but:But b wi wk
  one:∀ t,t<mj→wk.cell? ⟨b,t,none⟩=some (.int .u8 (((c1+t) % 256:Nat):Int))
theorem grown_but {b Ni:Nat} {wi wk W w':World} {r:Option Nat} (h:But b wi wk) (hNi:Ni=wi.heap.size) (hW:Below wk.heap.size wk W) (hg:W.grownBy w' r) (hr:r=some b ∨ r=none ∨ ∃ g,r=some g∧Ni≤g):But b wi w':=by
  refine ⟨hg.os.trans (hW.os.trans h.os),hg.tape.trans (hW.tape.trans h.tape),hg.output.trans (hW.output.trans h.output),Nat.le_trans h.size (Nat.le_trans hW.size hg.size),fun k hk hne=>?_⟩
  have hk2:k<wk.heap.size:=Nat.lt_of_lt_of_le hk h.size
  rw [hg.block k (Nat.lt_of_lt_of_le hk2 hW.size) ?_,hW.block k hk2,h.block k hk hne]
  rcases hr with rfl | rfl | ⟨g,rfl,hge⟩
  · exact fun e=>hne (Option.some.inj e)
  · exact fun e=>by cases e
  · exact fun e=>by have:=Option.some.inj e;omega
theorem Ap3.next {B Ni b mj c1 c2 k:Nat} {l v':Value} {wi wk W w':World} (h:Ap3 B Ni b mj c1 c2 l k wi wk) (hNi:Ni=wi.heap.size) (hb:b<Ni) (hW:Below wk.heap.size wk W)
    (hO:OwnB B w' v' ((mk8 c1 mj++mk8 c2 k)++[(c2+k) % 256])) (hor:(v'.ownBlock=l.ownBlock∧W.grownBy w' l.ownBlock) ∨ ((∀ g,v'.ownBlock=some g→W.heap.size≤g)∧W.grownBy w' none)):Ap3 B Ni b mj c1 c2 v' (k+1) wi w':=by
  have hO':OwnB B w' v' (mk8 c1 mj++mk8 c2 (k+1)):=by rw [mk8_succ,← List.append_assoc];exact hO
  obtain ⟨g',d',rfl,_⟩:=row_form hO' (by simp [mk8];omega)
  have hcell:∀ t,t<mj→W.cell? ⟨b,t,none⟩=some (.int .u8 (((c1+t) % 256:Nat):Int)):=fun t ht=>by
    have h1:=h.one t ht
    exact (hW.cell (World.block_lt_of_cell? _ _ h1)).trans h1
  refine ⟨hO',?_,?_,fun t ht=>?_⟩
  · rcases hor with ⟨he,_⟩ | ⟨hn,_⟩
    · rw [he];exact h.blk
    · refine .inr ⟨g',rfl,?_⟩
      have:=hn g' rfl
      have:=h.but.size
      have:=hW.size
      omega
  · rcases hor with ⟨_,hg⟩ | ⟨_,hg⟩
    · exact grown_but h.but hNi hW hg (h.blk.imp id (fun ⟨g,a,c⟩=>.inr ⟨g,a,c⟩))
    · exact grown_but h.but hNi hW hg (.inr (.inl rfl))
  · rcases hor with ⟨he,hg⟩ | ⟨_,hg⟩
    · rcases h.blk with hbk | ⟨g,hgk,hge⟩
      · rw [hbk] at he
        obtain rfl:g'=b:=Option.some.inj he
        have:=(OwnB.at hO' rfl t (by simp [mk8];omega)).1
        rw [this,List.getD_eq_getElem?_getD,List.getElem?_append_left (by rw [mk8_length];exact ht),← List.getD_eq_getElem?_getD,mk8_at _ _ _ ht]
      · exact hg.cell (hcell t ht) (by rw [hgk];simp;omega)
    · exact hg.cell (hcell t ht) (by simp)
theorem own_but {b B n:Nat} {e:TypeId} {s:Nat} {v:Value} {xs:List Value} {w w':World} (h:w.ownsRow B e s v n xs) (hb:But b w w') (hne:v.ownBlock ≠ some b):w'.ownsRow B e s v n xs:=by
  refine ⟨h.1,?_⟩
  rcases h.2 with h2 | ⟨g',cap',cur,rfl,hg',hh,r⟩
  · exact .inl h2
  · exact .inr ⟨g',cap',cur,rfl,hg',by rw [hb.block g' (lt_of_block hh) (fun e=>hne (by rw [e];rfl))];exact hh,r⟩
theorem own_nee {w:World} {B B2:Nat} {e e2:TypeId} {s s2:Nat} {v v2:Value} {n n2:Nat} {xs ys:List Value} (h:w.ownsRow B e s v n xs) (h2:w.ownsRow B2 e2 s2 v2 n2 ys) (hne:e ≠ e2):v.ownBlock=none ∨ v.ownBlock ≠ v2.ownBlock:=by
  rcases h.2 with ⟨rfl,_⟩ | ⟨g,cap,cur,rfl,_,hh,_⟩
  · exact .inl rfl
  · rcases h2.2 with ⟨rfl,_⟩ | ⟨g2,cap2,cur2,rfl,_,hh2,_⟩
    · exact .inr (by simp [Value.ownBlock])
    · refine .inr ?_
      simp only [Value.ownBlock,ne_eq,Option.some.injEq]
      intro e'
      subst e'
      rw [hh] at hh2
      simp only [Option.some.injEq,Obj.cells.injEq] at hh2
      exact hne hh2.2.1
theorem here_one (W:World) (v:Value) (t:TypeId):∀ (j:Nat) (u:Value),[v][j]?=some u→(W.alloc (.cells #[v] t)).cell? ((⟨W.heap.size,0,none⟩:Addr).add j)=some u:=by
  intro j u h
  cases j with
  | zero =>
    obtain rfl:v=u:=by simpa using h
    exact (cell_new W _ t).1
  | succ j=>simp at h
theorem Ap2.next {G B N:Nat} {bl m cp:Nat→Nat} {j:Nat} {gs cs:Nat→Nat} {mv mv':Value} {w0 wi wr W w5:World} {Ni g d n:Nat} (hP:Ap2 G B N bl m cp j gs cs mv w0 wi) (hNi:Ni=wi.heap.size) (hl:Ap3 B Ni (bl j) (m j) (37 * j) (11 * j) (.slice (some ⟨g,0,none⟩) n d) 70 wi wr) (hn:n=m j+70)
    (hW:Below wr.heap.size wr W) (hls2:W.ownsRow N 28 1 mv j (lsV gs cs m j)) (hlt:j<2) (hGN:G<N) (hbN:∀ q,q<2→bl q<N) (hBN:B≤N) (hG:∀ q,q<2→¬ G=bl q) (hne:∀ q r,q<2→r<2→bl q=bl r→q=r)
    (hR5:w5.ownsRow N 28 1 mv' (j+1) (lsV gs cs m j++[.slice (some ⟨g,0,none⟩) (m j+70) d])) (hg5:W.grownBy w5 mv.ownBlock) :
    Ap2 G B N bl m cp (j+1) (fun q=>if q=j then g else gs q) (fun q=>if q=j then d else cs q) mv' w0 w5:=by
  subst hn
  have hbig:=hP.big
  have hb2:=hl.but
  have hmvN:∀ k,mv.ownBlock=some k→N≤k:=fun k hk=>(hls2.lt k hk).1
  have hbW:But (bl j) wi W:=hb2.trans (But.of_below hW)
  have cellN:∀ (a:Addr) (v:Value),wi.cell? a=some v→a.block<N→a.block ≠ bl j→w5.cell? a=some v:=fun a v hc ha hne' =>
    hg5.cell (hbW.cell hc hne') (fun e=>by have:=hmvN _ e.symm;omega)
  have ownW:∀ {v:Value} {l:List Nat},OwnB B wi v l→v.ownBlock ≠ some (bl j)→OwnB B w5 v l:=fun {v l} h hv=>by
    have h1:W.ownsRow B 5 1 v l.length (bv l):=own_but h hbW hv
    exact h1.kept hg5 (own_nee h1 hls2 (by decide))
  have hown:OwnB B w5 (.slice (some ⟨g,0,none⟩) (m j+70) d) (mk8 (37 * j) (m j)++mk8 (11 * j) 70):=by
    have h1:W.ownsRow B 5 1 (.slice (some ⟨g,0,none⟩) (m j+70) d) (mk8 (37 * j) (m j)++mk8 (11 * j) 70).length (bv (mk8 (37 * j) (m j)++mk8 (11 * j) 70)):=(OwnB.stay hl.own hW)
    exact h1.kept hg5 (own_nee h1 hls2 (by decide))
  refine ⟨fun q hq=>?_,fun q hq k hk=>?_,fun q hq hjq=>?_,?_,fun q hq=>?_,fun q hq=>?_,?_,?_⟩
  · exact cellN _ _ (hP.all q hq) hGN (hG j hlt)
  · by_cases hqj:q=j
    · subst hqj
      have h1:=hl.one k hk
      have h2:=(hW.cell (World.block_lt_of_cell? _ _ h1)).trans h1
      exact hg5.cell h2 (fun e=>by have:=hmvN _ e.symm;have:=hbN q hq;simp at *;omega)
    · exact cellN _ _ (hP.one q hq k hk) (hbN q hq) (fun e=>hqj (hne q j hq hlt e))
  · exact ownW (hP.own q hq (by omega)) (by simp only [Value.ownBlock,ne_eq,Option.some.injEq];exact fun e=>by have:=hne q j hq hlt e;omega)
  · rw [lsV_succ]
    simp only [if_true]
    rw [lsV_congr (gs':=gs) (cs':=cs) (fun q hq=>by simp [Nat.ne_of_lt hq])]
    exact hR5
  · by_cases hqj:q=j
    · subst hqj
      simp only [if_true]
      exact hown
    · simp only [hqj,if_false]
      have hq2:q<j:=by omega
      refine ownW (hP.two q hq2) ?_
      simp only [Value.ownBlock,ne_eq,Option.some.injEq]
      intro e
      rcases hP.fresh q hq2 with h | h
      · have:=hne q j (by omega) hlt (h ▸ e)
        omega
      · have:=hbN j hlt
        omega
  · by_cases hqj:q=j
    · subst hqj
      simp only [if_true]
      rcases hl.blk with h | ⟨g2,h,hge⟩
      · exact .inl (Option.some.inj h)
      · obtain rfl:g=g2:=Option.some.inj h
        exact .inr (by omega)
    · simp only [hqj,if_false]
      exact hP.fresh q (by omega)
  · have:=hg5.size
    have:=hW.size
    have:=hb2.size
    omega
  · have hBb:B≤bl j:=by
      obtain ⟨_,_,h,_⟩:=(hP.own j hlt (Nat.le_refl _)).block
      exact h
    exact hP.low.trans ((hbW.low (by omega) hBb).trans (below_own hg5 (by have:=hW.size;have:=hb2.size;omega) (fun k hk=>by have:=hmvN k hk;omega)))
set_option maxRecDepth 100000 in
set_option maxHeartbeats 2000000 in
theorem apart_any (G B:Nat) (bl m cp:Nat→Nat) (old:Nat→List Nat) (hG:∀ q,q<2→¬ G=bl q) (hne:∀ q r,q<2→r<2→bl q=bl r→q=r) (hm:∀ q,q<2→m q+70≤140737488355328) (c:Nat) (w:World) (hBw:B≤w.heap.size) (h0:Ap1 G B bl m cp old w w) :
    Calls Try.prog 15 #[.slice (some ⟨G,0,none⟩) 2 c] w fun e w'=>e=.returned (.bool true)∧Below B w w':=by
  have HO:=Lib.hid h0.len
  have HM:=Lib.hid hm
  clear hm
  go_enter Try.func15,Try.ntmps15
  go_upto_block 0 with (fail)
  go_cut [0] (fun a wr=>a=.slice (some ⟨G,0,none⟩) 2 c∧Ap1 G B bl m cp (fun q=>mk8 (37 * q) (m q)) w wr)
  case first =>
    go_wp2
    go_loopw [3] (fun x wr=>∃ i:Nat,i≤2∧x=.int .i64 i∧Ap1 G B bl m cp (fun q=>if q<i then mk8 (37 * q) (m q) else old q) w wr) (fun x _=>2 - (intOf x).toNat)
    case atStart=>exact ⟨0,by omega,rfl,by simpa using h0⟩
    case round =>
      obtain ⟨i,hi,rfl,hA⟩:=hrel
      by_cases hlt:i<2
      · have hii:(i:Int)<2:=by omega
        have hall:=hA.all i hlt
        have hcp:=(h0.row i hlt).block.choose_spec.2.2
        have hmc:(m i:Int)≤(cp i:Int):=by have:=hcp.1;omega
        have hcx:=hcp.2.1
        unfold maxLen at hcx
        go_wp2
        go_loopw [4] (fun x wk=>∃ k:Nat,k≤m i∧x=.int .i64 k∧Ap1 G B bl m cp (fun q=>if q=i then mk8 (37 * i) k++(old i).drop k else if q<i then mk8 (37 * q) (m q) else old q) w wk) (fun x _=>m i - (intOf x).toNat)
        case atStart =>
          refine ⟨0,by omega,rfl,⟨hA.all,fun q hq=>?_,fun q hq=>?_,hA.low⟩⟩
          · have:=hA.row q hq
            by_cases hqi:q=i
            · subst hqi
              simpa [mk8] using this
            · simpa [hqi] using this
          · have:=hA.len q hq
            by_cases hqi:q=i
            · subst hqi
              simpa [mk8] using this
            · simpa [hqi] using this
        case round =>
          obtain ⟨k,hk,rfl,hK⟩:=hrel
          have hallk:=hK.all i hlt
          by_cases hkm:k<m i
          · have hki:(k:Int)<(m i:Int):=by omega
            obtain ⟨hu,hf⟩:=(hK.row i hlt).at (hK.len i hlt).symm k hkm
            obtain ⟨val,hval⟩:∃ val:Nat,val=(37 * i+k) % 256:=⟨_,rfl⟩
            have hst:=Ap1.store hK hG hne hlt (k:=k) val (L':=fun q=>if q=i then mk8 (37 * i) (k+1)++(old i).drop (k+1) else if q<i then mk8 (37 * q) (m q) else old q) (by
              simp only [if_true]
              rw [hval,set_nextL _ _ _ (by rw [HO.out i hlt];exact hkm)]) (fun q _ hqi=>by simp [hqi])
            have hvi:wrap64 (37 * (i:Int)+(k:Int)) % 256=(val:Int):=by
              have:=HM.out i hlt
              rw [wrap_id (by omega) (by omega)];omega
            have HST:=Lib.hid hst
            generalize ((if i=i then mk8 (37 * i) k++(old i).drop k else if i<i then mk8 (37 * i) (m i) else old i).getD k 0)=u at hu
            clear hst hK hA h0 hval
            go_wp2
            exact ⟨⟨k+1,by omega,by go_num,HST.out⟩,by simp [intOf];omega⟩
          · obtain rfl:k=m i:=by omega
            have hfin:Ap1 G B bl m cp (fun q=>if q<i+1 then mk8 (37 * q) (m q) else old q) w wr:=by
              have hd:(old i).drop (m i)=[]:=List.drop_of_length_le (by rw [HO.out i hlt];exact Nat.le_refl _)
              have h2:∀ q,(if q<i+1 then mk8 (37 * q) (m q) else old q)=(if q=i then mk8 (37 * i) (m i)++(old i).drop (m i) else if q<i then mk8 (37 * q) (m q) else old q):=by
                intro q
                by_cases hqi:q=i
                · subst hqi
                  rw [if_pos (by omega),if_pos rfl,hd,List.append_nil]
                · by_cases hq2:q<i
                  · rw [if_pos (by omega),if_neg hqi,if_pos hq2]
                  · rw [if_neg (by omega),if_neg hqi,if_neg hq2]
              rw [funext h2]
              exact hK
            clear hK hA h0
            go_wp2
            exact ⟨⟨i+1,by omega,by go_num,hfin⟩,by simp [intOf];omega⟩
      · obtain rfl:i=2:=by omega
        have hfin:Ap1 G B bl m cp (fun q=>mk8 (37 * q) (m q)) w wr:=⟨hA.all,fun q hq=>by simpa [hq] using hA.row q hq,fun q _=>mk8_length _ _,hA.low⟩
        clear hA h0
        go_wp2
        go_meet
        exact ⟨rfl,hfin⟩
  case rest =>
    obtain ⟨rfl,hA1⟩:=hcut
    obtain ⟨N,hN⟩:∃ N,N=wc.heap.size:=⟨_,rfl⟩
    have hGN:G<N:=by rw [hN];exact World.block_lt_of_cell? _ _ (hA1.all 0 (by omega))
    have hbN:∀ q,q<2→bl q<N:=fun q hq=>by
      obtain ⟨cur,hh,_,_,_,hlt⟩:=(hA1.row q hq).block
      rw [hN];exact hlt
    have hBN:B≤N:=by rw [hN];exact Nat.le_trans hBw hA1.low.size
    obtain ⟨i22,d2,d3,d4,d5⟩:=info22
    have HN:=Lib.hid hN
    have hNle:N≤wc.heap.size:=Nat.le_of_eq hN
    clear h0 hN
    go_upto_block 4 with (fail)
    go_cut [0,5] (fun a mv wr=>a=.slice (some ⟨G,0,none⟩) 2 c∧∃ gs cs,Ap2 G B N bl m cp 2 gs cs mv w wr)
    case first =>
      go_wp2
      go_loopw [5,6] (fun mv0 x wr=>∃ (j:Nat) (gs cs:Nat→Nat) (mv:Value),j≤2∧x=.int .i64 j∧mv=mv0∧Ap2 G B N bl m cp j gs cs mv w wr) (fun _ x _=>2 - (intOf x).toNat)
      case atStart=>exact ⟨0,fun _=>0,fun _=>0,_,by omega,rfl,rfl,⟨hA1.all,fun q hq k hk=>by rw [((hA1.row q hq).at (hA1.len q hq).symm k hk).1,mk8_at _ _ _ hk],fun q hq _=>hA1.row q hq,World.ownsRow_nil _ _ _ _,fun q hq=>absurd hq (Nat.not_lt_zero _),fun q hq=>absurd hq (Nat.not_lt_zero _),hNle,hA1.low⟩⟩
      case round =>
        obtain ⟨j,gs,cs,mv,hj,rfl,rfl,hP⟩:=hrel
        by_cases hlt:j<2
        · have hji:(j:Int)<2:=by omega
          have hall:=hP.all j hlt
          clear hA1
          generalize wr=wi at *
          obtain ⟨Ni,hNi⟩:∃ Ni,Ni=wi.heap.size:=⟨_,rfl⟩
          have hbNi:=hP.big
          rw [← hNi] at hbNi
          have HNi:=Lib.hid hNi
          have HP:=Lib.hid hP
          clear hNi hP
          go_wp2
          go_loopw [7,8] (fun l x wk=>∃ k:Nat,k≤70∧x=.int .i64 k∧Ap3 B Ni (bl j) (m j) (37 * j) (11 * j) l k wi wk) (fun _ x _=>70 - (intOf x).toNat)
          case atStart=>exact ⟨0,by omega,rfl,by simpa [mk8] using HP.out.own j hlt (Nat.le_refl _),.inl rfl,But.of_below (Below.refl _ _),HP.out.one j hlt⟩
          case round =>
            obtain ⟨k,hk,rfl,hl⟩:=hrel
            have hlen:(mk8 (37 * j) (m j)++mk8 (11 * j) k).length=m j+k:=by rw [List.length_append,mk8_length,mk8_length]
            obtain ⟨q,d,rfl⟩:=hl.own.slice
            rw [hlen] at hl ⊢
            by_cases hk70:k<70
            · have hki:(k:Int)<70:=by omega
              obtain ⟨val,hval⟩:∃ val:Nat,(11 * j+k) % 256=val:=⟨_,rfl⟩
              have hvi:11 * (j:Int)+(k:Int)=(val:Int):=by omega
              have hA:=hl.own.alloc (.cells #[.int .u8 (val:Int)] 5)
              have hWa:Below wr.heap.size wr (wr.alloc (.cells #[.int .u8 (val:Int)] 5)):=(Below.refl _ _).alloc (Nat.le_refl _) _
              have hbs:B≤wr.heap.size:=by have:=hl.but.size;have:=HNi.out;omega
              have HL:=Lib.hid (And.intro hlen hval)
              have HX:=Lib.hid (fun (v':Value) (w':World)=>Ap3.next (v':=v') (w':=w') hl HNi.out (Nat.lt_of_lt_of_le (hbN j hlt) hbNi) hWa)
              clear hl hall hlen hval
              generalize mk8 (37 * j) (m j)++mk8 (11 * j) k=ml at hA HL HX
              go_wp2_with (at_builtin;refine wpList_most rfl _ _ rfl B _ ml rfl hA ⟨_,0,none⟩ 1 [val] rfl (one_cells _ _) (by have:=HL.out.1;have:=HM.out j hlt;simp;omega) (by simp;omega) ?_)
              intro v2 w2 hO2 hor
              rw [← HL.out.2] at hO2
              have HF:=Lib.hid (HX.out v2 w2 hO2 (by simpa using hor))
              clear hO2 hor HX hA hWa
              go_wp2
              exact ⟨⟨k+1,by omega,by go_num,HF.out⟩,by simp [intOf];omega⟩
            · obtain rfl:k=70:=by omega
              obtain ⟨g,d',e1,hBg⟩:=row_form hl.own (by rw [hlen];omega)
              rw [hlen] at e1
              simp only [Value.slice.injEq,true_and] at e1
              obtain ⟨rfl,rfl⟩:=e1
              have hWa:Below wr.heap.size wr (wr.alloc (.cells #[.slice (some ⟨g,0,none⟩) (m j+70) d] 28)):=(Below.refl _ _).alloc (Nat.le_refl _) _
              have hsz:Ni≤wr.heap.size:=by rw [HNi.out];exact hl.but.size
              have hlsr:wr.ownsRow N 28 1 mv j (lsV gs cs m j):=by
                refine own_but HP.out.ls hl.but (fun e=>?_)
                have:=(HP.out.ls.lt _ e).1
                have:=hbN j hlt
                omega
              have hls2:=hlsr.alloc (.cells #[.slice (some ⟨g,0,none⟩) (m j+70) d] 28)
              have HNEW:=Lib.hid (fun (mv':Value) (w5:World)=>Ap2.next (mv':=mv') (w5:=w5) HP.out HNi.out hl rfl hWa hls2 hlt hGN hbN hBN hG hne)
              have HMj:=Lib.hid (HM.out j hlt)
              clear hl hall hlen hlsr hWa
              go_wp2_with (at_builtin;refine wpList_append_own _ rfl _ _ 37 rfl N 28 i22 (.slice none 0 0) 1 24 Try.underlying37 d2 d3 d4 d5 rfl (by omega) _ j _ rfl hls2 ⟨_,0,none⟩ 1 1 [.slice (some ⟨g,0,none⟩) (m j+70) d] rfl rfl (here_one _ _ _) (by simp [Value.oneCell']) (by unfold maxLen;omega) (by omega) (by simp;omega) ?_)
              intro mv' w5 hR5 hg5 _
              have hnew:=HNEW.out mv' w5 hR5 hg5
              obtain ⟨gm,cm,rfl,_⟩:=row_form hR5 (by omega)
              have HF:=Lib.hid hnew
              clear hR5 hg5 hls2 hnew HNEW
              go_wp2
              exact ⟨⟨j+1,_,_,_,by omega,by go_num,rfl,HF.out⟩,by simp [intOf];omega⟩
        · obtain rfl:j=2:=by omega
          go_wp2
          go_meet
          exact ⟨rfl,gs,cs,hP⟩
    case rest =>
      obtain ⟨rfl,gs,cs,hP⟩:=hcut
      obtain ⟨gm,cm,rfl,_⟩:=row_form hP.ls (by omega)
      have hbel:=hP.low
      have hlen:∀ q,(mk8 (37 * q) (m q)++mk8 (11 * q) 70).length=m q+70:=fun q=>by rw [List.length_append,mk8_length,mk8_length]
      have hmo:∀ q,q<2→wc.cell? ⟨gm,q,none⟩=some (.slice (some ⟨gs q,0,none⟩) (m q+70) (cs q)):=fun q hq=>by
        rw [hP.ls.cellAt q (by omega)];simp [lsV,hq]
      have hcs:∀ q,q<2→m q+70≤cs q∧cs q≤maxLen:=fun q hq=>by
        obtain ⟨_,_,_,h1,h2,_⟩:=(hP.two q hq).block
        exact ⟨h1,h2⟩
      have hm2:∀ q k,q<2→k<m q→wc.cell? ⟨gs q,k,none⟩=some (.int .u8 (((37 * q+k) % 256:Nat):Int)):=fun q k hq hk=>by
        rw [((hP.two q hq).at (hlen q).symm k (by omega)).1,List.getD_eq_getElem?_getD,List.getElem?_append_left (by rw [mk8_length];exact hk),← List.getD_eq_getElem?_getD,mk8_at _ _ _ hk]
      have hm3:∀ q k,q<2→k<70→wc.cell? ⟨gs q,m q+k,none⟩=some (.int .u8 (((11 * q+k) % 256:Nat):Int)):=fun q k hq hk=>by
        rw [((hP.two q hq).at (hlen q).symm (m q+k) (by omega)).1,List.getD_eq_getElem?_getD,List.getElem?_append_right (by rw [mk8_length];omega),mk8_length,Nat.add_sub_cancel_left,← List.getD_eq_getElem?_getD,mk8_at _ _ _ hk]
      have hcc:∀ q,q<2→m q+70≤140737488355328:=HM.out
      have H1:=Lib.hid hP.one
      have H2:=Lib.hid hm2
      have H3:=Lib.hid hm3
      have HMO:=Lib.hid hmo
      have HA:=Lib.hid hP.all
      have HC:=Lib.hid hcs
      clear hm2 hm3 hmo hcs hP hA1 hlen hcc
      go_wp2
      go_loop [9] (fun x=>∃ i:Nat,i≤2∧x=.int .i64 i) (fun x=>2 - (intOf x).toNat)
      case atStart=>exact ⟨0,by omega,rfl⟩
      case round =>
        obtain ⟨i,hi,rfl⟩:=hrel
        by_cases hlt:i<2
        · have hii:(i:Int)<2:=by omega
          have a1:=HA.out i hlt
          have a2:=HMO.out i hlt
          have a3:=(HC.out i hlt).1
          have a4:=HM.out i hlt
          go_wp2
          go_loop [11] (fun x=>∃ k:Nat,k≤m i∧x=.int .i64 k) (fun x=>m i - (intOf x).toNat)
          case atStart=>exact ⟨0,by omega,rfl⟩
          case round =>
            obtain ⟨k,hk,rfl⟩:=hrel
            by_cases hkm:k<m i
            · have hki:(k:Int)<(m i:Int):=by omega
              have b1:=H1.out i hlt k hkm
              have b2:=H2.out i k hlt hkm
              obtain ⟨val,hval⟩:∃ val:Nat,(37 * i+k) % 256=val:=⟨_,rfl⟩
              have hvi:(37 * (i:Int)+(k:Int)) % 256=(val:Int):=by omega
              rw [hval] at b1 b2
              clear hval
              go_wp2
              exact ⟨⟨k+1,by omega,by go_num⟩,by simp [intOf];omega⟩
            · obtain rfl:k=m i:=by omega
              go_wp2
              go_loop [12] (fun x=>∃ t:Nat,t≤70∧x=.int .i64 t) (fun x=>70 - (intOf x).toNat)
              case atStart=>exact ⟨0,by omega,rfl⟩
              case round =>
                obtain ⟨t,ht,rfl⟩:=hrel
                by_cases ht70:t<70
                · have hti:(t:Int)<70:=by omega
                  have b3:=H3.out i t hlt ht70
                  obtain ⟨val,hval⟩:∃ val:Nat,(11 * i+t) % 256=val:=⟨_,rfl⟩
                  have hvi:11 * (i:Int)+(t:Int)=(val:Int):=by omega
                  rw [hval] at b3
                  clear hval
                  go_wp2
                  exact ⟨⟨t+1,by omega,by go_num⟩,by simp [intOf];omega⟩
                · obtain rfl:t=70:=by omega
                  go_wp2
                  exact ⟨⟨i+1,by omega,by go_num⟩,by simp [intOf];omega⟩
        · obtain rfl:i=2:=by omega
          go_wp2
          go_ret
          exact ⟨rfl,hbel⟩
end Go.Proofs.Ytbfkgcapkffecaa
namespace Go.Proofs.Ytbfkgcapkffecaa
open Go Go.RowKit Go.Proofs.Mm Go.Sort
section
variable {w:World}
end
end Go.Proofs.Ytbfkgcapkffecaa
namespace Go.Proofs.Ytbfkgcapkffecaa
open Go Go.RowKit Go.Proofs.Mm Go.Sort
def Wz (l F l':List Nat):Prop:=l'=l++F ∨ (262144<l'.length∧262144<l.length+F.length)
theorem Wz.all (l F:List Nat):Wz l F (l++F):=.inl rfl
theorem Wz.trans {l F G l1 l2:List Nat} (h:Wz l F l1) (k:Wz l1 G l2):Wz l (F++G) l2:=by
  unfold Wz at *
  rw [List.length_append]
  rcases h with rfl | ⟨h1,h2⟩
  · rcases k with rfl | ⟨k1,k2⟩
    · left;rw [List.append_assoc]
    · right;rw [List.length_append] at k2;omega
  · rcases k with rfl | ⟨k1,k2⟩
    · right;rw [List.length_append];omega
    · right;omega
theorem Wz.more {l F G l1:List Nat} (h:Wz l F l1) (hb:262144<l1.length):Wz l (F++G) l1:=by
  unfold Wz at *
  rw [List.length_append]
  rcases h with rfl | ⟨h1,h2⟩
  · right;rw [List.length_append] at hb ⊢;omega
  · right;omega
def RzC (B:Nat) (w:World) (k:Nat):Prop:=B≤k∧∃ cur fr,w.heap[k]?=some (.cells cur 5 fr)
abbrev Rzk (B:Nat) (w w':World):Prop:=Chg (RzC B w) w w'
structure RzP (B:Nat) (w:World) (l F:List Nat) (w':World) (v':Value) (l':List Nat):Prop where
  own:OwnB B w' v' l'
  wr:Wz l F l'
  len:l'.length≤262180
  kp:Rzk B w w'
  bs:bytesL l'
def RzE (B:Nat) (w:World) (l F:List Nat) (e:Ending) (w':World):Prop:=∃ v' l',e=.returned v'∧RzP B w l F w' v' l'
section
variable {B:Nat} {w w1 w2 w':World} {l:List Nat} {v:Value}
theorem Rzk.refl (w:World):Rzk B w w:=Chg.refl _ w
theorem Rzk.trans (h:Rzk B w w1) (k:Rzk B w1 w2):Rzk B w w2:=Chg.trans h k (by
  intro i hi
  by_cases hlt:w.heap.size≤i
  · exact .inr hlt
  refine .inl ?_
  obtain ⟨h1,cur,fr,h2⟩:=hi
  by_cases hc:RzC B w i
  · exact hc
  · rw [h.block i (by omega) hc] at h2
    exact ⟨h1,cur,fr,h2⟩)
theorem Rzk.below (h:Rzk B w w') (hB:B≤w.heap.size):Below B w w':=Chg.below h hB (fun i hi=>hi.1)
theorem Rzk.of_below (h:Below w.heap.size w w'):Rzk B w w':=Below.chg h (Nat.le_refl _) _
theorem Rzk.alloc (h:Rzk B w w') (o:Obj):Rzk B w (w'.alloc o):=Chg.alloc h o
theorem Rzk.keep (h:Rzk B w w') {k:Nat} {cs:Array Value} {T:TypeId} (hk:InB w k cs T) (hT:T ≠ 5):InB w' k cs T :=
  h.heap hk (by
    rintro ⟨_,c2,f2,e⟩
    rw [show w.heap[k]?=_ from hk] at e;injection e with e;injection e with _ e2 _;exact hT e2)
theorem RzP.before {F:List Nat} {w0:World} {v':Value} {l':List Nat} (hb:Rzk B w0 w) (h:RzP B w l F w' v' l'):RzP B w0 l F w' v' l':=⟨h.own,h.wr,h.len,hb.trans h.kp,h.bs⟩
theorem RzP.trans {F G:List Nat} {v1 v2:Value} {l1 l2:List Nat} (h:RzP B w l F w1 v1 l1) (k:RzP B w1 l1 G w2 v2 l2):RzP B w l (F++G) w2 v2 l2:=⟨k.own,h.wr.trans k.wr,k.len,h.kp.trans k.kp,k.bs⟩
theorem rz_grown (ho:OwnB B w v l) (hg:w.grownBy w' v.ownBlock):Rzk B w w':=grown_chg hg (fun k e=>.inl (by
  obtain ⟨cur,k2⟩:=own_type ho e
  exact ⟨(ho.lt k e).1,cur,_,k2⟩))
set_option maxRecDepth 100000 in
set_option maxHeartbeats 2000000 in
theorem zput_any (ho:OwnB B w v l) (hB:B≤w.heap.size) (n:Nat) (hn:n<W64) (hl:l.length≤262180) (hbs:bytesL l) :
    Calls Try.prog 66 #[v,.int .u64 (n:Int)] w (RzE B w l (putU n)):=by
  obtain ⟨q,c,rfl⟩:=ho.slice
  obtain ⟨ln,hln⟩:∃ k,l.length=k:=⟨_,rfl⟩
  have HLN:=Lib.hid hln
  have HO:=Lib.hid ho
  rw [hln] at hl
  have hten:=putU_ten hn
  have HN:=Lib.hid (putU_ne n)
  have HBS:=Lib.hid hbs
  clear hbs
  by_cases hbig:262144<ln
  · have hb1:(262144:Int)<(ln:Int):=by omega
    rw [hln]
    clear ho hln
    go_enter Try.func66,Try.ntmps66
    go_wp2
    go_ret
    have h9:=HO.out
    rw [HLN.out] at h9
    refine ⟨_,l,rfl,h9,.inr ⟨?_,?_⟩,?_,Chg.refl _ _,HBS.out⟩
    · rw [HLN.out];exact hbig
    · rw [HLN.out];omega
    · rw [HLN.out];omega
  · have hb1:¬ (262144:Int)<(ln:Int):=by omega
    have HP:=Lib.hid (refPut_any n hn w)
    rw [hln]
    clear ho hln
    go_enter Try.func66,Try.ntmps66
    go_wp2_with fail
    refine HP.out.mono ?_
    rintro e w1 ⟨v1,rfl,hO1,hb⟩
    obtain ⟨g,cp,rfl,hg0⟩:=row_form hO1 (List.length_pos_iff.2 HN.out)
    have hcl:=by_cells hO1.in
    have hown:=HO.out.stay hb
    have HOW:=Lib.hid hown
    rw [HLN.out] at hown
    have hbs:=hb.size
    have HB:=Lib.hid (show Rzk B w w1 from Rzk.of_below hb)
    go_wp2_with (at_builtin;refine wpList_bytes rfl _ _ rfl B _ l rfl hown ⟨g,0,none⟩ cp (putU n) rfl hcl (by rw [HLN.out];omega) (by omega) ?_)
    intro v2 w2 hO2 hgr _
    rw [← HLN.out] at hgr
    have HE:=Lib.hid (show RzP B w l (putU n) w2 v2 (l++putU n) from ⟨hO2,.inl rfl,by rw [List.length_append,HLN.out];omega,HB.out.trans (rz_grown HOW.out hgr),bytesL_append HBS.out (putU_bytes n)⟩)
    clear hO2 hgr hcl hown hO1 hb
    go_wp2
    go_ret
    exact ⟨_,_,rfl,HE.out⟩
set_option maxRecDepth 100000 in
set_option maxHeartbeats 2000000 in
theorem zlabels_any (ho:OwnB B w v l) (hB:B≤w.heap.size) {q:Option Addr} {c:Nat} (xs:List Int) (hA:LaAt (lowC B w) q xs) (hx:∀ x ∈ xs,labW x) (hm:xs.length<9223372036854775808) (hl:l.length≤262180) (hbs:bytesL l) :
    Calls Try.prog 65 #[v,.slice q xs.length c] w (RzE B w l (listF labF xs)):=by
  obtain ⟨n,hn⟩:∃ n,xs.length=n:=⟨_,rfl⟩
  have HN:=Lib.hid hn
  have HA:=Lib.hid hA
  have HX:=Lib.hid hx
  have hF:listF labF xs=putU n++xs.flatMap labF:=by unfold listF;rw [hn]
  rw [hF]
  have HM:=Lib.hid (zput_any ho hB n (by unfold W64;omega) hl hbs)
  have HB:=Lib.hid hB
  rw [hn] at hm ⊢
  have hwn:IntKind.u64.wrap (n:Int)=(n:Int):=by rw [wrapU64];omega
  clear ho hA hx hn hF hB
  go_enter Try.func65,Try.ntmps65
  go_wp2_with fail
  refine HM.out.mono ?_
  rintro e w1 ⟨v1,l1,rfl,h1⟩
  have H1:=Lib.hid h1
  clear h1
  go_wp2_with fail
  go_loopw [0,5] (fun b i wr=>∃ (j:Nat) (l':List Nat),j≤n∧i=.int .i64 j∧RzP B w l (putU n++(xs.take j).flatMap labF) wr b l') (fun _ i _=>n - (intOf i).toNat)
  case atStart=>exact ⟨0,l1,Nat.zero_le _,rfl,by simpa using H1.out⟩
  case round =>
    obtain ⟨j,l',hj,rfl,hP⟩:=hrel
    obtain ⟨q',c',rfl⟩:=hP.own.slice
    have HP:=Lib.hid hP
    clear hP
    by_cases hlt:j<n
    · have hj':j<xs.length:=by rw [HN.out];exact hlt
      have hbl:=HP.out.kp.below HB.out
      obtain ⟨g,o,rfl,a1⟩:=HA.out j hj'
      have x1:=lowC.cell (lowC.le hbl _ _ a1)
      have HTK:=Lib.hid (show (xs.take (j+1)).flatMap labF=(xs.take j).flatMap labF++labF xs[j] from by rw [List.take_succ_eq_append_getElem hj',List.flatMap_append];simp)
      have HXJ:=Lib.hid (HX.out _ (List.getElem_mem hj'))
      generalize xs[j]=x at *
      obtain ⟨xn,rfl⟩:∃ xn:Nat,x=xn:=⟨x.toNat,by have:=HXJ.out.1;omega⟩
      have hji:(j:Int)<(n:Int):=by omega
      have HC:=Lib.hid (zput_any HP.out.own (Nat.le_trans HB.out HP.out.kp.size) xn (by have:=HXJ.out.2;unfold W64;omega) HP.out.len HP.out.bs)
      clear a1 hbl
      go_wp2_with fail
      refine HC.out.mono ?_
      rintro e w3 ⟨v3,l3,rfl,h3⟩
      have H3:=Lib.hid (HP.out.trans h3)
      clear h3
      go_wp2
      refine ⟨⟨j+1,l3,by omega,by go_num,?_⟩,by simp [intOf];omega⟩
      rw [HTK.out,← List.append_assoc]
      exact H3.out
    · obtain rfl:n=j:=by omega
      go_wp2
      go_ret
      refine ⟨_,l',rfl,?_⟩
      have h:=HP.out
      rw [← HN.out,List.take_length,HN.out] at h
      exact h
set_option maxRecDepth 100000 in
set_option maxHeartbeats 2000000 in
theorem zsealed_any (ho:OwnB B w v l) (hB:B≤w.heap.size) (hx:bytesL l) (hne:0<l.length) (hl:l.length≤262180) :
    Calls Try.prog 68 #[v] w fun e w'=>∃ v',e=.returned v'∧OwnB B w' v' (l++sealF l)∧Rzk B w w':=by
  obtain ⟨q,c,rfl⟩:=ho.slice
  have HS:=Lib.hid (refSum_any (w:=w) (q:=q) (c:=c) l ho.in hx (by unfold maxLen;omega))
  have hsl:=sealF_eq l
  generalize sumF sum0 l=S at *
  have HSL:=Lib.hid hsl
  have HO:=Lib.hid ho
  obtain ⟨n,hn⟩:∃ n,l.length=n:=⟨_,rfl⟩
  have HN:=Lib.hid hn
  rw [hn] at HS hl ⊢
  have HB:=Lib.hid hB
  clear hsl hx hn hne
  go_enter Try.func68,Try.ntmps68
  go_wp2_with fail
  refine HS.out.mono ?_
  rintro e w1 ⟨rfl,hw1⟩
  have hw2:=hw1.symm
  clear hw1
  subst hw2
  have ho2:=HO.out
  rw [HN.out] at ho2
  clear HS ho
  go_wp2_with fail
  go_loopw [0,4] (fun b m wr=>∃ j:Nat,j≤8∧m=.int .i64 (7 - (j:Int))∧OwnB B wr b (l++(List.range j).map (sealL S))∧Rzk B w wr) (fun _ m _=>((intOf m)+1).toNat)
  case atStart=>exact ⟨0,by omega,rfl,by simpa [HN.out] using ho2,Chg.refl _ _⟩
  case round =>
    obtain ⟨j,hj,rfl,hO,hb⟩:=hrel
    obtain ⟨q',c',rfl⟩:=hO.slice
    have hlen:(l++(List.range j).map (sealL S)).length=n+j:=by rw [List.length_append,HN.out];simp
    by_cases hj8:j<8
    · obtain ⟨s,hs⟩:∃ s:Nat,56 - 8 * j=s:=⟨_,rfl⟩
      obtain ⟨i7,hi7⟩:∃ i7:Nat,7 - j=i7:=⟨_,rfl⟩
      have hs2:(7:Int) - (j:Int)=(i7:Int):=by omega
      rw [hs2]
      have hs64:(s:Int)≤64:=by omega
      have hmul:wrap64 (8 * (i7:Int))=(s:Int):=by rw [wrap_id (by omega) (by omega)];omega
      have hmul2:IntKind.i64.wrap (8 * (i7:Int))=(s:Int):=by rw [wrap_i64];exact hmul
      have hcv:IntKind.u64.wrap (s:Int)=(s:Int):=by rw [wrapU64];omega
      have h8s:(8:Int) * (i7:Int)=(s:Int):=by omega
      have hsh:=shrN S s
      have hsf:=shrOp S s .u64 (by omega)
      have hby:=sealByte S s
      have HV:=Lib.hid (show S / 2 ^ s % 256=sealL S j from by unfold sealL;rw [hs])
      generalize S / 2 ^ s=X at *
      generalize X % 256=x at *
      have HO0:=Lib.hid hO
      have hA2:=hO.alloc (.cells #[.int .u8 (x:Int)] 5)
      have HA2:=Lib.hid hA2
      rw [hlen] at hA2 ⊢
      have HBL:=Lib.hid hb
      have hbs:=Nat.le_trans HB.out hb.size
      have hi7n:¬ (i7:Int)<0:=by omega
      clear hO hs hi7
      go_wp2_with (at_builtin;refine wpList_bytes rfl _ _ rfl B _ (l++(List.range j).map (sealL S)) rfl hA2 ⟨_,0,none⟩ 1 [x] rfl (one_cells _ x) (by rw [hlen];simp;omega) (by simp;omega) ?_)
      intro v3 w3 hO3 hgr _
      rw [← hlen] at hgr
      have HO3:=Lib.hid (show OwnB B w3 v3 (l++(List.range (j+1)).map (sealL S)) from by rw [sealR_succ,← HV.out];simpa using hO3)
      have HB3:=Lib.hid (show Rzk B w w3 from (HBL.out.alloc (.cells #[.int .u8 (x:Int)] 5)).trans (rz_grown HA2.out hgr))
      clear hO3 hgr hA2 hb
      go_wp2
      refine ⟨⟨j+1,by omega,by go_num,HO3.out,HB3.out⟩,by simp [intOf] <;> omega⟩
    · obtain rfl:j=8:=by omega
      rw [← HSL.out] at hO
      have HOF:=Lib.hid hO
      have HBF:=Lib.hid hb
      clear hO hb
      go_wp2
      go_ret
      exact ⟨_,rfl,by simpa [← HSL.out] using HOF.out,HBF.out⟩
end
end Go.Proofs.Ytbfkgcapkffecaa
namespace Go.Proofs.Ytbfkgcapkffecaa
open Go Go.RowKit Go.Proofs.Mm Go.Sort
section
variable {w:World}
end
end Go.Proofs.Ytbfkgcapkffecaa
namespace Go.Proofs.Ytbfkgcapkffecaa
open Go Go.RowKit Go.Proofs.Mm Go.Sort
section
variable {lt:Bool} {w:World}
set_option maxRecDepth 100000 in
set_option maxHeartbeats 8000000 in
theorem refMayM_any {v:Value} {m:MoM} (h:MoR lt (wC w) v m):Calls Try.prog 36 #[v] w fun e w'=>e=.returned (.bool (moOk m))∧Below w.heap.size w w':=by
  obtain ⟨v1,v2,v3,v4,rfl,z1,z2,z3,z4⟩:=h
  have hm2:=slx_bytes z2
  have hm4:=slx_bytes z4
  obtain ⟨q1,c1,rfl⟩:=slx_shape z1
  obtain ⟨q2,c2,rfl⟩:=slx_shape z2
  obtain ⟨q3,c3,rfl⟩:=slx_shape z3
  obtain ⟨q4,c4,rfl⟩:=slx_shape z4
  have HA2:=Lib.hid z2.cells
  have HA4:=Lib.hid z4.cells
  obtain ⟨n1,hn1⟩:∃ n,m.globals.length=n:=⟨_,rfl⟩
  obtain ⟨n2,hn2⟩:∃ n,m.arrays.length=n:=⟨_,rfl⟩
  obtain ⟨n3,hn3⟩:∃ n,m.channels.length=n:=⟨_,rfl⟩
  obtain ⟨n4,hn4⟩:∃ n,m.funcs.length=n:=⟨_,rfl⟩
  have HN2:=Lib.hid hn2
  have HN4:=Lib.hid hn4
  rw [hn1,hn2,hn3,hn4]
  rw [hn2] at hm2
  rw [hn4] at hm4
  have HI0:=Lib.hid (InB.new w #[.slice q1 n1 c1,.slice q2 n2 c2,.slice q3 n3 c3,.slice q4 n4 c4] 26)
  have HB0:=Lib.hid (show Below w.heap.size w (w.alloc (.cells #[.slice q1 n1 c1,.slice q2 n2 c2,.slice q3 n3 c3,.slice q4 n4 c4] 26)) from bl_al (Below.refl _ _) _)
  have HMO:=Lib.hid (show moOk m=(m.arrays.all arOkB && m.funcs.all fnOk) from rfl)
  clear z1 z2 z3 z4 hn1 hn2 hn3 hn4
  go_enter Try.func36,Try.ntmps36
  go_wp2_with fail
  generalize w.alloc (.cells #[.slice q1 n1 c1,.slice q2 n2 c2,.slice q3 n3 c3,.slice q4 n4 c4] 26)=w1 at *
  have x1:=HI0.out.cell (j:=1) rfl
  go_loopw [3] (fun i wr=>∃ j:Nat,j≤n2∧i=.int .i64 j∧(m.arrays.take j).all arOkB=true∧wr=w1) (fun i _=>n2 - (intOf i).toNat)
  case atStart=>exact ⟨0,Nat.zero_le _,rfl,rfl,rfl⟩
  case round =>
    obtain ⟨j,hj,rfl,hall,rfl⟩:=hrel
    have HALL:=Lib.hid hall
    clear hall
    by_cases hlt:j<n2
    · have hj':j<m.arrays.length:=by rw [HN2.out];exact hlt
      obtain ⟨g,o,rfl,a1,a2⟩:=HA2.out j hj'
      have HTK:=Lib.hid (show (m.arrays.take (j+1)).all arOkB=((m.arrays.take j).all arOkB && arOkB m.arrays[j]) from by rw [List.take_succ_eq_append_getElem hj',List.all_append];simp)
      have HME:=Lib.hid (List.getElem_mem hj')
      have y1:=cell_b a1 HB0.out
      have hji:(j:Int)<(n2:Int):=by omega
      generalize m.arrays[j]=ax at *
      clear a1 a2
      by_cases hax:ax.1<0
      · have hd:decide (ax.1<0)=true:=decide_eq_true hax
        have HF:=Lib.hid (show moOk m=false from by
          rw [HMO.out]
          have:m.arrays.all arOkB=false:=by
            rw [Bool.eq_false_iff];intro h;rw [List.all_eq_true] at h
            have:=of_decide_eq_true (h ax HME.out);omega
          rw [this];rfl)
        go_wp2
        go_ret
        exact ⟨by rw [HF.out];rfl,HB0.out⟩
      · have hd:decide (ax.1<0)=false:=decide_eq_false hax
        go_wp2
        exact ⟨⟨j+1,by omega,by go_num,by rw [HTK.out,HALL.out,show arOkB ax=true from decide_eq_true (by omega)];rfl,trivial⟩,by simp [intOf];omega⟩
    · obtain rfl:n2=j:=by omega
      have HRA:=Lib.hid (show m.arrays.all arOkB=true from by have:=HALL.out;rwa [← HN2.out,List.take_length] at this)
      go_wp2_with fail
      go_loopw [4] (fun i wr=>∃ j:Nat,j≤n4∧i=.int .i64 j∧(m.funcs.take j).all fnOk=true∧Hid (Below w.heap.size w wr)∧Hid (InB wr w.heap.size #[.slice q1 n1 c1,.slice q2 n2 c2,.slice q3 n3 c3,.slice q4 n4 c4] 26)) (fun i _=>n4 - (intOf i).toNat)
      case atStart=>exact ⟨0,Nat.zero_le _,rfl,rfl,HB0,HI0⟩
      case round =>
        obtain ⟨j,hj,rfl,hall,HBJ,HIJ⟩:=hrel
        have HALLF:=Lib.hid hall
        clear hall
        have x3:=HIJ.out.cell (j:=3) rfl
        by_cases hlt4:j<n4
        · have hj':j<m.funcs.length:=by rw [HN4.out];exact hlt4
          obtain ⟨g,o,vp,vr,vc,rfl,a0,a1,a2,a3,a4,a5,a6⟩:=HA4.out j hj'
          have HTJ:=Lib.hid (show (m.funcs.take (j+1)).all fnOk=((m.funcs.take j).all fnOk && fnOk m.funcs[j]) from by rw [List.take_succ_eq_append_getElem hj',List.all_append];simp)
          have HME:=Lib.hid (List.getElem_mem hj')
          generalize m.funcs[j]=f at *
          obtain ⟨vp',vr',vc',e0,zz1,zz2,zz3⟩:=a0
          injection e0 with _ e0;injection e0 with e1 e0;injection e0 with e2 e0;injection e0 with _ e0;injection e0 with _ e0;injection e0 with e3 _
          subst e1 e2 e3
          obtain ⟨qp,np,cp,rfl⟩:∃ q n c,vp=.slice q n c:=let ⟨q,c,e⟩:=slx_shape zz1;⟨q,_,c,e⟩
          obtain ⟨qr,nr,cr,rfl⟩:∃ q n c,vr=.slice q n c:=let ⟨q,c,e⟩:=slx_shape zz2;⟨q,_,c,e⟩
          have hbc:=slx_bytes zz3
          obtain ⟨qc,cc,rfl⟩:=slx_shape zz3
          have HCD:=Lib.hid zz3.cells
          obtain ⟨nc,hnc⟩:∃ n,f.code.length=n:=⟨_,rfl⟩
          have HNC:=Lib.hid hnc
          obtain ⟨lv,hlv⟩:∃ n,f.level=n:=⟨_,rfl⟩
          obtain ⟨lo,hlo⟩:∃ n,f.locals=n:=⟨_,rfl⟩
          obtain ⟨stk,hst⟩:∃ n,f.stack=n:=⟨_,rfl⟩
          have HFO:=Lib.hid (show fnOk f=(decide (0≤lo) && (decide (0≤stk) && f.code.all inOkB)) from by unfold fnOk;rw [hlo,hst])
          have HFALSE:=Lib.hid (fun (h:fnOk f=false)=>show moOk m=false from by
            rw [HMO.out,HRA.out,Bool.true_and,Bool.eq_false_iff]
            intro h2;rw [List.all_eq_true] at h2
            rw [h2 f HME.out] at h;cases h)
          rw [hnc] at hbc a6
          rw [hlv] at a1
          rw [hlo] at a4
          rw [hst] at a5
          have y0:=cell_b a1 HBJ.out
          have y1:=cell_b a2 HBJ.out
          have y2:=cell_b a3 HBJ.out
          have y3:=cell_b a4 HBJ.out
          have y4:=cell_b a5 HBJ.out
          have y5:=cell_b a6 HBJ.out
          clear a1 a2 a3 a4 a5 a6 zz1 zz2 zz3 hlv hlo hst hnc
          have hji:(j:Int)<(n4:Int):=by omega
          by_cases hl0:lo<0
          · have e1:decide (lo<0)=true:=decide_eq_true hl0
            have HF:=Lib.hid (HFALSE.out (by rw [HFO.out,show decide (0≤lo)=false from decide_eq_false (by omega)];rfl))
            go_wp2
            go_ret
            exact ⟨by rw [HF.out];rfl,bl_al HBJ.out _⟩
          · have e1:decide (lo<0)=false:=decide_eq_false hl0
            have HDL:=Lib.hid (show decide (0≤lo)=true from decide_eq_true (by omega))
            by_cases hs0:stk<0
            · have e2:decide (stk<0)=true:=decide_eq_true hs0
              have HF:=Lib.hid (HFALSE.out (by rw [HFO.out,show decide (0≤stk)=false from decide_eq_false (by omega)];simp))
              go_wp2
              go_ret
              exact ⟨by rw [HF.out];rfl,bl_al HBJ.out _⟩
            · have e2:decide (stk<0)=false:=decide_eq_false hs0
              have HDS:=Lib.hid (show decide (0≤stk)=true from decide_eq_true (by omega))
              go_wp2_with fail
              have HBV:=Lib.hid (bl_al HBJ.out (.cells #[.int .u64 lv,.slice qp np cp,.slice qr nr cr,.int .i64 lo,.int .i64 stk,.slice qc nc cc] 60))
              have HIV:=Lib.hid (inb_al HIJ.out (.cells #[.int .u64 lv,.slice qp np cp,.slice qr nr cr,.int .i64 lo,.int .i64 stk,.slice qc nc cc] 60))
              have HFB:=Lib.hid (InB.new wr #[.int .u64 lv,.slice qp np cp,.slice qr nr cr,.int .i64 lo,.int .i64 stk,.slice qc nc cc] 60)
              generalize wr.alloc (.cells #[.int .u64 lv,.slice qp np cp,.slice qr nr cr,.int .i64 lo,.int .i64 stk,.slice qc nc cc] 60)=wv at *
              go_loopw [6] (fun i wk=>∃ k:Nat,k≤nc∧i=.int .i64 k∧(f.code.take k).all inOkB=true∧Hid (Below wv.heap.size wv wk)) (fun i _=>nc - (intOf i).toNat)
              case atStart=>exact ⟨0,Nat.zero_le _,rfl,rfl,Lib.hid (Below.refl _ _)⟩
              case round =>
                obtain ⟨k,hk,rfl,hall,HK⟩:=hrel
                have HALLC:=Lib.hid hall
                clear hall
                have hFK:=HFB.out.le HK.out
                have y5:=hFK.cell (j:=5) rfl
                clear hFK
                by_cases hltk:k<nc
                · have hk':k<f.code.length:=by rw [HNC.out];exact hltk
                  obtain ⟨gi,oi,rfl,i1,i2⟩:=HCD.out k hk'
                  have HTK:=Lib.hid (show (f.code.take (k+1)).all inOkB=((f.code.take k).all inOkB && inOkB f.code[k]) from by rw [List.take_succ_eq_append_getElem hk',List.all_append];simp)
                  have HMI:=Lib.hid (List.getElem_mem hk')
                  have HBKK:=Lib.hid (bl_tr HBV.out HK.out)
                  have z1:=cell_b i1 HBKK.out
                  have z2:=cell_b i2 HBKK.out
                  generalize f.code[k]=ix at *
                  clear i1 i2
                  have hki:(k:Int)<(nc:Int):=by omega
                  have HMY:=Lib.hid (refMay_any ix.1 ix.2 wr)
                  cases hmi:mayI ix.1 ix.2
                  · rw [hmi] at HMY
                    have HF:=Lib.hid (HFALSE.out (by
                      rw [HFO.out,HDL.out,HDS.out,Bool.true_and,Bool.true_and,Bool.eq_false_iff]
                      intro h2;rw [List.all_eq_true] at h2
                      have h3:mayI ix.1 ix.2=true:=h2 ix HMI.out
                      rw [hmi] at h3;cases h3))
                    clear hmi
                    go_wp2_with fail
                    refine HMY.out.mono ?_
                    rintro e w5 ⟨rfl,hb⟩
                    have HB5:=Lib.hid (bl_tr HBKK.out hb)
                    clear hb
                    go_wp2
                    go_ret
                    exact ⟨by rw [HF.out];rfl,HB5.out⟩
                  · rw [hmi] at HMY
                    have HII:=Lib.hid (show inOkB ix=true from hmi)
                    clear hmi
                    go_wp2_with fail
                    refine HMY.out.mono ?_
                    rintro e w5 ⟨rfl,hb⟩
                    have HB5:=Lib.hid (bl_tr HK.out hb)
                    clear hb
                    go_wp2
                    exact ⟨⟨k+1,by omega,by go_num,by rw [HTK.out,HALLC.out,HII.out];rfl,Lib.hid HB5.out⟩,by simp [intOf];omega⟩
                · obtain rfl:nc=k:=by omega
                  have HBKK:=Lib.hid (bl_tr HBV.out HK.out)
                  have HCA:=Lib.hid (show f.code.all inOkB=true from by have:=HALLC.out;rwa [← HNC.out,List.take_length] at this)
                  go_wp2
                  exact ⟨⟨j+1,by omega,by go_num,by rw [HTJ.out,HALLF.out,HFO.out,HDL.out,HDS.out,HCA.out];rfl,Lib.hid HBKK.out,Lib.hid (HIV.out.le HK.out)⟩,by simp [intOf];omega⟩
        · obtain rfl:n4=j:=by omega
          have HT:=Lib.hid (show moOk m=true from by rw [HMO.out,HRA.out];have:=HALLF.out;rw [← HN4.out,List.take_length] at this;rw [this];rfl)
          go_wp2
          go_ret
          exact ⟨by rw [HT.out];rfl,HBJ.out⟩
end
end Go.Proofs.Ytbfkgcapkffecaa
