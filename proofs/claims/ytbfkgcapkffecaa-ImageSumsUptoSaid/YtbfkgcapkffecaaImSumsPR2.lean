/- put of package leb, both kinds: bytes of the call's own with a number's form behind them; in every memory. Put, PutSigned, Size, SizeSigned of package leb; Put and PutSigned of the document's answer; in every memory. PutSigned of the document's answer, in every memory. Plain facts: groups put togeth -/
import Derived.Test.YtbfkgcapkffecaaImSumsPR1
import Derived.Deep.RegionHeld3
import Derived.Deep.DeepCutAuto
import Derived.Deep.CutBlock
import Derived.Laws.Tables
import Derived.Laws.Rows
namespace Go.Proofs.Ytbfkgcapkffecaa
open Go Go.RowKit
theorem run_append_more {P:Program} (w:World) (base:Nat) (t ty e:TypeId) (i:TypeInfo) (z:Value) (size bytes:Nat) (ht:P.underlying t=some (.slice e)) (hi:P.info? e=some i) (hz:i.zero=some z)
    (hsize:i.size=size) (hby:i.bytes=bytes) (hzs:z.cells.size=size) (hsz:0<size)
    (v:Value) (n:Nat) (xs:List Value) (hown:w.ownsRow base e size v n xs)
    (a:Addr) (m c:Nat) (news:List Value) (hl:news.length=m * size) (hnews:∀ j u,news[j]?=some u→w.cell? (a.add j)=some u) (h1:∀ u ∈ news,u.oneCell'=true)
    (h63:n+m≤maxLen) (hbytes:(n+m) * bytes≤140737488355328) (hbase:base≤w.heap.size) :
    ∃ v' w',(Builtin.append_ #[t,t] ty #[v,.slice (some a) m c]).run P w=.ok v' w'∧w'.ownsRow base e size v' (n+m) (xs++news)∧w.grownBy w' v.ownBlock ∧
      (v'.ownBlock=v.ownBlock ∨ ∀ k,v'.ownBlock=some k→w.heap.size≤k):=by
  obtain ⟨v',w',hr,r1,r2,_⟩:=run_append_own (P:=P) w base t ty e i z size bytes ht hi hz hsize hby hzs hsz v n xs hown a m c news hl hnews h1 h63 hbytes hbase
  refine ⟨v',w',hr,r1,r2,?_⟩
  rcases hown.2 with ⟨rfl,rfl⟩ | ⟨g,cap,cur,rfl,hbg,hg,hnc,hcm,hcs,htake⟩
  · have hx:xs=[]:=List.eq_nil_of_length_eq_zero (by simpa using hown.1)
    subst hx
    obtain ⟨v2,w2,hr2,q1,q2,_⟩:=run_append_own (P:=P) w w.heap.size t ty e i z size bytes ht hi hz hsize hby hzs hsz (.slice none 0 0) 0 [] (World.ownsRow_nil w _ e size) a m c news hl hnews h1 h63 hbytes (Nat.le_refl _)
    rw [hr] at hr2
    injection hr2 with e1 e2
    subst e1 e2
    exact .inr fun k hk=>(q1.lt k hk).1
  · by_cases hroom:n+m≤cap
    · subst hsize
      have hfit:n * i.size+news.length≤cur.size:=by rw [hl,hcs,← Nat.add_mul];exact Nat.mul_le_mul_right _ hroom
      have hr2:=run_append_room (P:=P) w t ty e i ht hi g n cap cur hg a m c news hl hnews h1 hroom hfit
      rw [hr] at hr2
      injection hr2 with e1 e2
      subst e1
      exact .inl rfl
    · have holds:∀ j u,xs[j]?=some u→w.cell? ((⟨g,0,none⟩:Addr).add j)=some u:=hown.cells (g:=g) rfl
      obtain ⟨v2,w2,hr2,q1,q2⟩:=run_append_arg_grows (P:=P) w t ty e i z size bytes ht hi hz hsize hby hzs hsz ⟨g,0,none⟩ n cap xs hown.1 holds a m c news hl hnews (by omega) h63 hbytes
      rw [hr] at hr2
      injection hr2 with e1 e2
      subst e1 e2
      exact .inr fun k hk=>(q1.lt k hk).1
theorem wpList_bytes {ops:Array Oper} {rest:List Oper} {o:Oper} {a:Act} {Q:Exit→Act→World→Prop} {w:World} (hgd:o.guard=none) (s x:Operand)
    (ho:o.op=.call { callee:=.builtin .append,args:=#[s,x],argTypes:=#[28,28] })
    (B:Nat) (v:Value) (l:List Nat) (hs:a.eval s=v) (hown:OwnB B w v l)
    (ad:Addr) (c:Nat) (news:List Nat) (hx:a.eval x=.slice (some ad) news.length c) (hnews:∀ j u,(bv news)[j]?=some u→w.cell? (ad.add j)=some u)
    (hb:l.length+news.length≤140737488355328) (hbase:B≤w.heap.size)
    (h:∀ v' w',OwnB B w' v' (l++news)→w.grownBy w' v.ownBlock→(v'.ownBlock=v.ownBlock ∨ ∀ k,v'.ownBlock=some k→w.heap.size≤k)→wpList Try.prog ops Q rest (a.put o.dst v') w'):wpList Try.prog ops Q (o :: rest) a w:=by
  obtain ⟨i,h2,h3,h4,h5⟩:=info5
  obtain ⟨v',w',hr,r1,r2,r3⟩:=run_append_more (P:=Try.prog) w B 28 o.type 5 i (.int .u8 0) 1 1 Try.underlying28 h2 h3 h4 h5 rfl (by omega) v l.length (bv l) hown ad news.length c (bv news) (by simp [bv]) hnews (bv_one _) (by unfold maxLen;omega) (by omega) hbase
  have r1':OwnB B w' v' (l++news):=by unfold OwnB;rw [List.length_append,bv_append];exact r1
  refine wpList_plain hgd fun K hK=>?_
  unfold Oper.wp execOp
  simp only [ho,resolve,invoke,builtin,Sem.run_bind,Sem.run_pure,Result.andThen_ok,List.map_toArray,List.map_cons,List.map_nil,hs,hx,hr]
  exact hK _ _ (h v' w' r1' r2 r3)
theorem byteU (n:Nat):IntKind.u8.wrap (n:Int)=((n % 256:Nat):Int):=by rw [IntKind.wrap_u8'];omega
theorem or128 (x:Nat) (h:x<256):bits .or .u8 (x:Int) 128=((x % 128+128:Nat):Int):=by
  have:=u8_or_nat x 128 h (by omega)
  rw [show ((128:Nat):Int)=128 from rfl] at this
  rw [this]
  congr 1
  by_cases hx:x<128
  · rw [Nat.or_comm,nat_join 7 128 x (by decide) hx];omega
  · have:x=128+x % 128:=by omega
    have h2:128 ||| x % 128=128+x % 128:=nat_join 7 128 _ (by decide) (by omega)
    rw [this,← h2,Nat.or_comm (128 ||| _),← Nat.or_assoc,Nat.or_self,h2];omega
theorem andNot128 (x:Nat) (h:x<256):bits .andNot .u8 (x:Int) 128=((x % 128:Nat):Int):=by
  have:=u8_andNot_nat x 128 h (by omega)
  rw [show ((128:Nat):Int)=128 from rfl] at this
  rw [this]
  congr 1
  exact Nat.and_two_pow_sub_one_eq_mod x 7
theorem OwnB.alloc {B:Nat} {w:World} {v:Value} {l:List Nat} (h:OwnB B w v l) (o:Obj):OwnB B (w.alloc o) v l:=World.ownsRow.alloc h o
theorem OwnB.lt {B:Nat} {w:World} {v:Value} {l:List Nat} (h:OwnB B w v l):∀ k,v.ownBlock=some k→B≤k∧k<w.heap.size:=World.ownsRow.lt h
theorem laysU.own {g:Nat} {w w':World} {r:Option Nat} (h:laysU g w) (hg:w.grownBy w' r) (h1:r ≠ some g) (h2:r ≠ some (g+1)):laysU g w' :=
  ⟨hg.cell (a:=⟨g,0,none⟩) h.1 (fun e=>h1 e.symm),hg.cell (a:=⟨g+1,0,none⟩) h.2 (fun e=>h2 e.symm)⟩
theorem laysS.own {g:Nat} {w w':World} {r:Option Nat} (h:laysS g w) (hg:w.grownBy w' r) (h1:r ≠ some g) (h2:r ≠ some (g+1)):laysS g w' :=
  ⟨hg.cell (a:=⟨g,0,none⟩) h.1 (fun e=>h1 e.symm),hg.cell (a:=⟨g+1,0,none⟩) h.2 (fun e=>h2 e.symm)⟩
theorem apart_more {v v':Value} {N g:Nat} (h:v'.ownBlock=v.ownBlock ∨ ∀ k,v'.ownBlock=some k→N≤k) (hv:v.ownBlock ≠ some g) (hn:g<N):v'.ownBlock ≠ some g:=by
  rcases h with h | h
  · rw [h];exact hv
  · intro e;have:=h g e;omega
set_option maxRecDepth 100000 in
set_option maxHeartbeats 2000000 in
theorem putU_any (g n B:Nat) (v:Value) (l:List Nat) (hl:l.length+(putU n).length≤140737488355328) (w:World) (ho:OwnB B w v l) (hB:B≤w.heap.size) (hn:n<W64)
    (hg:laysU g w) (hgs:g+1<w.heap.size) (hap:v.ownBlock ≠ some g∧v.ownBlock ≠ some (g+1)) :
    Calls Try.prog 107 #[v,.int .u64 n,endU g] w fun e w'=>∃ v',e=.returned v'∧OwnB B w' v' (l++putU n)∧Below B w w':=by
  obtain ⟨q,c,rfl⟩:=ho.slice
  unfold endU
  go_enter Try.func107,Try.ntmps107
  go_wp2
  go_loopw [0,1] (fun b m wr=>∃ (k:Nat) (l':List Nat),m=.int .u64 k∧k<W64∧OwnB B wr b l'∧l++putU n=l'++putU k∧Below B w wr∧laysU g wr∧w.heap.size≤wr.heap.size∧b.ownBlock ≠ some g∧b.ownBlock ≠ some (g+1)) (fun _ m _=>(intOf m).toNat)
  case atStart=>exact ⟨n,l,rfl,hn,ho,rfl,Below.refl _ _,hg,Nat.le_refl _,hap⟩
  case round =>
    obtain ⟨k,l',rfl,hk,ho',hlist,hbl,hlay,hsz,ha1,ha2⟩:=hrel
    obtain ⟨q',c',rfl⟩:=ho'.slice
    have hlast:=lastU_any g k wr hlay
    have hlen:=congrArg List.length hlist
    rw [List.length_append,List.length_append] at hlen
    by_cases hk1:k<128
    · rw [decide_eq_true hk1] at hlast
      have HH:=Lib.hid hlast
      rw [putU_small hk1] at hlist hlen
      have hb1:=byteU k
      rw [Nat.mod_eq_of_lt (show k<256 by omega)] at hb1
      have hb2:=andNot128 k (by omega)
      rw [Nat.mod_eq_of_lt hk1] at hb2
      clear hlast ho hg hap
      go_wp2_with fail
      refine HH.out.mono ?_
      rintro e w' ⟨rfl,rfl⟩
      clear HH
      have hA:=ho'.alloc (.cells #[.int .u8 (k:Int)] 5)
      have hBA:Below B w' (w'.alloc (.cells #[.int .u8 (k:Int)] 5)):=(Below.refl _ _).alloc (by omega) _
      clear ho'
      go_wp2_with (at_builtin;refine wpList_bytes rfl _ _ rfl B _ l' rfl hA ⟨_,0,none⟩ 1 [k] rfl (one_cells _ k) (by simp at hlen ⊢;omega) (by simp;omega) ?_)
      intro v2 w2 hO hgr _
      have hB2:Below B w w2:=hbl.trans (hBA.trans (below_own hgr (by simp;omega) (fun j hj=>(hA.lt j hj).1)))
      rw [← hlist] at hO
      have HO:=Lib.hid hO
      clear hO hA hBA hgr hlist hlay
      go_wp2
      go_ret
      exact ⟨_,rfl,HO.out,hB2⟩
    · rw [decide_eq_false hk1] at hlast
      have HH:=Lib.hid hlast
      rw [putU_big hk1] at hlist hlen
      have hb2:=or128 (k % 256) (by omega)
      rw [show k % 256 % 128+128=k % 128+128 from by omega,show ((k % 256:Nat):Int)=(k:Int) % 256 from by omega] at hb2
      generalize k % 128+128=y at hlist hlen hb2
      have hsh:(k:Int) / 2 ^ 7=((k / 128:Nat):Int):=by omega
      clear hlast ho hg hap
      go_wp2_with fail
      refine HH.out.mono ?_
      rintro e w' ⟨rfl,rfl⟩
      clear HH
      have hA:=ho'.alloc (.cells #[.int .u8 ((y:Nat):Int)] 5)
      have hBA:Below B w' (w'.alloc (.cells #[.int .u8 ((y:Nat):Int)] 5)):=(Below.refl _ _).alloc (by omega) _
      have hN:w'.heap.size≤(w'.alloc (.cells #[.int .u8 ((y:Nat):Int)] 5)).heap.size:=by simp
      have hlA:=hlay.below (Below.alloc (Below.refl (w'.heap.size) w') (Nat.le_refl _) (.cells #[.int .u8 ((y:Nat):Int)] 5)) (by omega)
      clear ho' hlay
      go_wp2_with (at_builtin;refine wpList_bytes rfl _ _ rfl B _ l' rfl hA ⟨_,0,none⟩ 1 [y] rfl (one_cells _ _) (by simp at hlen ⊢;omega) (by simp;omega) ?_)
      intro v2 w2 hO hgr hmore
      have hB2:Below B w w2:=hbl.trans (hBA.trans (below_own hgr (by simp;omega) (fun j hj=>(hA.lt j hj).1)))
      have hl2:=hlA.own hgr ha1 ha2
      have hz2:w.heap.size≤w2.heap.size:=Nat.le_trans hsz (Nat.le_trans hN hgr.size)
      have hp1:=apart_more hmore ha1 (by omega)
      have hp2:=apart_more hmore ha2 (by omega)
      have HX:=Lib.hid (show OwnB B w2 v2 (l'++[y])∧l++putU n=(l'++[y])++putU (k / 128)∧Below B w w2∧laysU g w2∧w.heap.size≤w2.heap.size∧v2.ownBlock ≠ some g∧v2.ownBlock ≠ some (g+1) from
        ⟨hO,by rw [hlist];simp,hB2,hl2,hz2,hp1,hp2⟩)
      clear hO hA hBA hgr hlist hl2 hlA hB2 hz2 hp1 hp2 hmore ha1 ha2 hbl
      go_wp2
      refine ⟨⟨k / 128,_,by go_num,by omega,HX.out⟩,?_⟩
      simp [intOf]
      omega
set_option maxRecDepth 100000 in
set_option maxHeartbeats 2000000 in
theorem putS_any (g:Nat) (n:Int) (B:Nat) (v:Value) (l:List Nat) (hl:l.length+(putS n).length≤140737488355328) (w:World) (ho:OwnB B w v l) (hB:B≤w.heap.size) (hn1:-9223372036854775808≤n) (hn2:n<9223372036854775808)
    (hg:laysS g w) (hgs:g+1<w.heap.size) (hap:v.ownBlock ≠ some g∧v.ownBlock ≠ some (g+1)) :
    Calls Try.prog 114 #[v,.int .i64 n,endS g] w fun e w'=>∃ v',e=.returned v'∧OwnB B w' v' (l++putS n)∧Below B w w':=by
  obtain ⟨q,c,rfl⟩:=ho.slice
  unfold endS
  go_enter Try.func114,Try.ntmps114
  go_wp2
  go_loopw [0,1] (fun b m wr=>∃ (k:Int) (l':List Nat),m=.int .i64 k∧-9223372036854775808≤k∧k<9223372036854775808∧OwnB B wr b l'∧l++putS n=l'++putS k∧Below B w wr∧laysS g wr∧w.heap.size≤wr.heap.size∧b.ownBlock ≠ some g∧b.ownBlock ≠ some (g+1)) (fun _ m _=>(intOf m).natAbs)
  case atStart=>exact ⟨n,l,rfl,hn1,hn2,ho,rfl,Below.refl _ _,hg,Nat.le_refl _,hap⟩
  case round =>
    obtain ⟨k,l',rfl,hk,hk',ho',hlist,hbl,hlay,hsz,ha1,ha2⟩:=hrel
    obtain ⟨q',c',rfl⟩:=ho'.slice
    have hlast:=lastS_any g k wr hlay
    have hlen:=congrArg List.length hlist
    rw [List.length_append,List.length_append] at hlen
    by_cases hk1:-64≤k∧k<64
    · rw [decide_eq_true hk1] at hlast
      have HH:=Lib.hid hlast
      rw [putS_small hk1] at hlist hlen
      have hb2:=andNot128 (k % 256).toNat (by omega)
      rw [show (k % 256).toNat % 128=(k % 128).toNat from by omega,show (((k % 256).toNat:Nat):Int)=k % 256 from by omega] at hb2
      generalize (k % 128).toNat=y at hlist hlen hb2
      clear hlast ho hg hap
      go_wp2_with fail
      refine HH.out.mono ?_
      rintro e w' ⟨rfl,rfl⟩
      clear HH
      have hA:=ho'.alloc (.cells #[.int .u8 (y:Int)] 5)
      have hBA:Below B w' (w'.alloc (.cells #[.int .u8 (y:Int)] 5)):=(Below.refl _ _).alloc (by omega) _
      clear ho'
      go_wp2_with (at_builtin;refine wpList_bytes rfl _ _ rfl B _ l' rfl hA ⟨_,0,none⟩ 1 [y] rfl (one_cells _ y) (by simp at hlen ⊢;omega) (by simp;omega) ?_)
      intro v2 w2 hO hgr _
      have hB2:Below B w w2:=hbl.trans (hBA.trans (below_own hgr (by simp;omega) (fun j hj=>(hA.lt j hj).1)))
      rw [← hlist] at hO
      have HO:=Lib.hid hO
      clear hO hA hBA hgr hlist hlay
      go_wp2
      go_ret
      exact ⟨_,rfl,HO.out,hB2⟩
    · rw [decide_eq_false hk1] at hlast
      have HH:=Lib.hid hlast
      rw [putS_big hk1] at hlist hlen
      have hb2:=or128 (k % 256).toNat (by omega)
      rw [show (k % 256).toNat % 128+128=(k % 128).toNat+128 from by omega,show (((k % 256).toNat:Nat):Int)=k % 256 from by omega] at hb2
      generalize (k % 128).toNat+128=y at hlist hlen hb2
      clear hlast ho hg hap
      go_wp2_with fail
      refine HH.out.mono ?_
      rintro e w' ⟨rfl,rfl⟩
      clear HH
      have hA:=ho'.alloc (.cells #[.int .u8 ((y:Nat):Int)] 5)
      have hBA:Below B w' (w'.alloc (.cells #[.int .u8 ((y:Nat):Int)] 5)):=(Below.refl _ _).alloc (by omega) _
      have hN:w'.heap.size≤(w'.alloc (.cells #[.int .u8 ((y:Nat):Int)] 5)).heap.size:=by simp
      have hlA:=hlay.below (Below.alloc (Below.refl (w'.heap.size) w') (Nat.le_refl _) (.cells #[.int .u8 ((y:Nat):Int)] 5)) (by omega)
      clear ho' hlay
      go_wp2_with (at_builtin;refine wpList_bytes rfl _ _ rfl B _ l' rfl hA ⟨_,0,none⟩ 1 [y] rfl (one_cells _ _) (by simp at hlen ⊢;omega) (by simp;omega) ?_)
      intro v2 w2 hO hgr hmore
      have hB2:Below B w w2:=hbl.trans (hBA.trans (below_own hgr (by simp;omega) (fun j hj=>(hA.lt j hj).1)))
      have hl2:=hlA.own hgr ha1 ha2
      have hz2:w.heap.size≤w2.heap.size:=Nat.le_trans hsz (Nat.le_trans hN hgr.size)
      have hp1:=apart_more hmore ha1 (by omega)
      have hp2:=apart_more hmore ha2 (by omega)
      have HX:=Lib.hid (show OwnB B w2 v2 (l'++[y])∧l++putS n=(l'++[y])++putS (k / 128)∧Below B w w2∧laysS g w2∧w.heap.size≤w2.heap.size∧v2.ownBlock ≠ some g∧v2.ownBlock ≠ some (g+1) from
        ⟨hO,by rw [hlist];simp,hB2,hl2,hz2,hp1,hp2⟩)
      clear hO hA hBA hgr hlist hl2 hlA hB2 hz2 hp1 hp2 hmore ha1 ha2 hbl
      go_wp2
      refine ⟨⟨k / 128,_,by go_num,by omega,by omega,HX.out⟩,?_⟩
      simp [intOf]
      omega
end Go.Proofs.Ytbfkgcapkffecaa
namespace Go.Proofs.Ytbfkgcapkffecaa
open Go Go.RowKit
theorem OwnB.keep {B N:Nat} {w w':World} {v:Value} {l:List Nat} (h:OwnB B w v l) (hb:Below N w w') (hv:∀ k,v.ownBlock=some k→k<N):OwnB B w' v l:=by
  refine ⟨h.1,?_⟩
  rcases h.2 with h2 | ⟨g,cap,cur,hvg,hg,hh,r⟩
  · exact .inl h2
  · exact .inr ⟨g,cap,cur,hvg,hg,by rw [hb.block g (hv g (by rw [hvg];rfl))];exact hh,r⟩
theorem OwnB.stay {B:Nat} {w w':World} {v:Value} {l:List Nat} (h:OwnB B w v l) (hb:Below w.heap.size w w'):OwnB B w' v l:=h.keep hb fun k hk=>(h.lt k hk).2
theorem OwnB.base {B B':Nat} {w:World} {v:Value} {l:List Nat} (h:OwnB B w v l) (hB:B'≤B):OwnB B' w v l:=by
  refine ⟨h.1,?_⟩
  rcases h.2 with h2 | ⟨g,cap,cur,hv,hg,r⟩
  · exact .inl h2
  · exact .inr ⟨g,cap,cur,hv,Nat.le_trans hB hg,r⟩
theorem apart_new {B g:Nat} {w:World} {v:Value} {l:List Nat} (h:OwnB B w v l) (hg:w.heap.size≤g):v.ownBlock ≠ some g:=fun e=>by
  have:=(h.lt g e).2;omega
set_option maxRecDepth 100000 in
set_option maxHeartbeats 1000000 in
theorem Put_any (p:Option Addr) (c:Nat) (ns:List Nat) (n:Nat) (hn:n<W64) (hp:(p=none∧ns=[]∧c=0) ∨ ∃ ad,p=some ad) (hb:ns.length+10≤140737488355328) (w:World) (hs:ByIn w.heap.size w p ns) :
    Calls Try.prog 100 #[.slice p ns.length c,.int .u64 n] w fun e w'=>∃ v,e=.returned v∧OwnB w.heap.size w' v (ns++putU n)∧Below w.heap.size w w':=by
  have h10:=putU_ten hn
  have h1:=clone_any p c ns hp (by omega) w hs
  have h2:=Lib.hid (fun (v:Value) (w1 w2:World) (g:Nat) (hO:OwnB w.heap.size w1 v ns) (hB:Below w.heap.size w w1) (hlay:laysU g w2) (hge:w1.heap.size≤g) (hlt:g+1<w2.heap.size) (hB2:Below w1.heap.size w1 w2) =>
    (putU_any g n w.heap.size v ns (by omega) w2 (hO.stay hB2) (Nat.le_trans hB.size hB2.size) hn hlay hlt ⟨apart_new hO hge,apart_new hO (by omega)⟩).mono (fun e w' (h:∃ v',e=.returned v'∧OwnB w.heap.size w' v' (ns++putU n)∧Below w.heap.size w2 w')=>show ∃ v',e=.returned v'∧OwnB w.heap.size w' v' (ns++putU n)∧Below w.heap.size w w' from
      let ⟨v',a,b,c⟩:=h
      ⟨v',a,b,(hB.trans (hB2.mono hB.size)).trans c⟩))
  clear hs hp hb h10
  go_enter Try.func100,Try.ntmps100
  go_wp2_with fail
  refine h1.mono ?_
  rintro e w1 ⟨v,rfl,hO,hB⟩
  clear h1
  go_wp2_with fail
  refine (unsignedEnd_any w1).mono ?_
  rintro e w2 ⟨g,rfl,hlay,hge,hlt,hB2⟩
  have h3:=Lib.hid (h2.out v w1 w2 g hO hB hlay hge hlt hB2)
  clear h2 hlay hO hB hB2
  go_wp2_with fail
  refine h3.out.mono ?_
  rintro e w3 ⟨v',rfl,hO3,hB3⟩
  have H4:=Lib.hid (And.intro hO3 hB3)
  clear hO3 hB3 h3
  go_wp2_with fail
  go_ret
  exact ⟨_,rfl,H4.out⟩
set_option maxRecDepth 100000 in
set_option maxHeartbeats 1000000 in
theorem PutSigned_any (p:Option Addr) (c:Nat) (ns:List Nat) (n:Int) (hn1:-9223372036854775808≤n) (hn2:n<9223372036854775808) (hp:(p=none∧ns=[]∧c=0) ∨ ∃ ad,p=some ad) (hb:ns.length+10≤140737488355328) (w:World) (hs:ByIn w.heap.size w p ns) :
    Calls Try.prog 110 #[.slice p ns.length c,.int .i64 n] w fun e w'=>∃ v,e=.returned v∧OwnB w.heap.size w' v (ns++putS n)∧Below w.heap.size w w':=by
  have h10:=putS_ten hn1 hn2
  have h1:=clone_any p c ns hp (by omega) w hs
  have h2:=Lib.hid (fun (v:Value) (w1 w2:World) (g:Nat) (hO:OwnB w.heap.size w1 v ns) (hB:Below w.heap.size w w1) (hlay:laysS g w2) (hge:w1.heap.size≤g) (hlt:g+1<w2.heap.size) (hB2:Below w1.heap.size w1 w2) =>
    (putS_any g n w.heap.size v ns (by omega) w2 (hO.stay hB2) (Nat.le_trans hB.size hB2.size) hn1 hn2 hlay hlt ⟨apart_new hO hge,apart_new hO (by omega)⟩).mono (fun e w' (h:∃ v',e=.returned v'∧OwnB w.heap.size w' v' (ns++putS n)∧Below w.heap.size w2 w')=>show ∃ v',e=.returned v'∧OwnB w.heap.size w' v' (ns++putS n)∧Below w.heap.size w w' from
      let ⟨v',a,b,c⟩:=h
      ⟨v',a,b,(hB.trans (hB2.mono hB.size)).trans c⟩))
  clear hs hp hb h10
  go_enter Try.func110,Try.ntmps110
  go_wp2_with fail
  refine h1.mono ?_
  rintro e w1 ⟨v,rfl,hO,hB⟩
  clear h1
  go_wp2_with fail
  refine (signedEnd_any w1).mono ?_
  rintro e w2 ⟨g,rfl,hlay,hge,hlt,hB2⟩
  have h3:=Lib.hid (h2.out v w1 w2 g hO hB hlay hge hlt hB2)
  clear h2 hlay hO hB hB2
  go_wp2_with fail
  refine h3.out.mono ?_
  rintro e w3 ⟨v',rfl,hO3,hB3⟩
  have H4:=Lib.hid (And.intro hO3 hB3)
  clear hO3 hB3 h3
  go_wp2_with fail
  go_ret
  exact ⟨_,rfl,H4.out⟩
end Go.Proofs.Ytbfkgcapkffecaa
namespace Go.Proofs.Ytbfkgcapkffecaa
open Go Go.RowKit
def fitsV (n:Int) (k:Nat):Prop:=10≤k ∨ (-(64 * 128 ^ (k - 1):Int)≤n∧n<64 * 128 ^ (k - 1))
instance (n:Int) (k:Nat):Decidable (fitsV n k):=by unfold fitsV;exact inferInstance
end Go.Proofs.Ytbfkgcapkffecaa
namespace Go.Proofs.Ytbfkgcapkffecaa
open Go Go.RowKit
theorem valU_take:∀ (l:List Nat) (j:Nat),j<l.length→valU (l.take (j+1))=valU (l.take j)+128 ^ j * (l.getD j 0 % 128)
  | [],j,h=>absurd h (by simp)
  | x :: l,0,_=>by simp [valU]
  | x :: l,j+1,h=>by
    have:=valU_take l j (by simpa using h)
    rw [List.take_succ_cons,valU,this,List.take_succ_cons,valU,Nat.mul_add,Nat.pow_succ]
    simp only [List.getD_cons_succ]
    rw [Nat.mul_comm (128 ^ j) 128,Nat.mul_assoc]
    omega
theorem valU_lt:∀ l:List Nat,valU l<128 ^ l.length
  | []=>by simp [valU]
  | x :: l=>by
    have:=valU_lt l
    rw [valU,List.length_cons,Nat.pow_succ]
    omega
theorem ten (P:Nat→Prop) (h0:P 0) (h1:P 1) (h2:P 2) (h3:P 3) (h4:P 4) (h5:P 5) (h6:P 6) (h7:P 7) (h8:P 8) (h9:P 9):∀ j,j<10→P j:=by
  intro j hj
  have:j=0 ∨ j=1 ∨ j=2 ∨ j=3 ∨ j=4 ∨ j=5 ∨ j=6 ∨ j=7 ∨ j=8 ∨ j=9:=by omega
  rcases this with rfl | rfl | rfl | rfl | rfl | rfl | rfl | rfl | rfl | rfl <;> assumption
theorem joinN (z V j:Nat) (hj:j<10) (hV:V<128 ^ j):V<W64∧V ||| z * 2 ^ (7 * j) % W64=(V+128 ^ j * z) % W64:=by
  revert V
  refine ten (fun j=>∀ V,V<128 ^ j→V<W64∧V ||| z * 2 ^ (7 * j) % W64=(V+128 ^ j * z) % W64) ?_ ?_ ?_ ?_ ?_ ?_ ?_ ?_ ?_ ?_ j hj
  · intro V hV
    simp only [W64,Nat.reducePow,Nat.reduceMul] at hV ⊢
    refine ⟨by omega,?_⟩
    rw [Nat.or_comm,nat_join 0 _ V (by simp only [Nat.reducePow];omega) (by simp only [Nat.reducePow];omega)];omega
  · intro V hV
    simp only [W64,Nat.reducePow,Nat.reduceMul] at hV ⊢
    refine ⟨by omega,?_⟩
    rw [Nat.or_comm,nat_join 7 _ V (by simp only [Nat.reducePow];omega) (by simp only [Nat.reducePow];omega)];omega
  · intro V hV
    simp only [W64,Nat.reducePow,Nat.reduceMul] at hV ⊢
    refine ⟨by omega,?_⟩
    rw [Nat.or_comm,nat_join 14 _ V (by simp only [Nat.reducePow];omega) (by simp only [Nat.reducePow];omega)];omega
  · intro V hV
    simp only [W64,Nat.reducePow,Nat.reduceMul] at hV ⊢
    refine ⟨by omega,?_⟩
    rw [Nat.or_comm,nat_join 21 _ V (by simp only [Nat.reducePow];omega) (by simp only [Nat.reducePow];omega)];omega
  · intro V hV
    simp only [W64,Nat.reducePow,Nat.reduceMul] at hV ⊢
    refine ⟨by omega,?_⟩
    rw [Nat.or_comm,nat_join 28 _ V (by simp only [Nat.reducePow];omega) (by simp only [Nat.reducePow];omega)];omega
  · intro V hV
    simp only [W64,Nat.reducePow,Nat.reduceMul] at hV ⊢
    refine ⟨by omega,?_⟩
    rw [Nat.or_comm,nat_join 35 _ V (by simp only [Nat.reducePow];omega) (by simp only [Nat.reducePow];omega)];omega
  · intro V hV
    simp only [W64,Nat.reducePow,Nat.reduceMul] at hV ⊢
    refine ⟨by omega,?_⟩
    rw [Nat.or_comm,nat_join 42 _ V (by simp only [Nat.reducePow];omega) (by simp only [Nat.reducePow];omega)];omega
  · intro V hV
    simp only [W64,Nat.reducePow,Nat.reduceMul] at hV ⊢
    refine ⟨by omega,?_⟩
    rw [Nat.or_comm,nat_join 49 _ V (by simp only [Nat.reducePow];omega) (by simp only [Nat.reducePow];omega)];omega
  · intro V hV
    simp only [W64,Nat.reducePow,Nat.reduceMul] at hV ⊢
    refine ⟨by omega,?_⟩
    rw [Nat.or_comm,nat_join 56 _ V (by simp only [Nat.reducePow];omega) (by simp only [Nat.reducePow];omega)];omega
  · intro V hV
    simp only [W64,Nat.reducePow,Nat.reduceMul] at hV ⊢
    refine ⟨by omega,?_⟩
    rw [Nat.or_comm,nat_join 63 _ V (by simp only [Nat.reducePow];omega) (by simp only [Nat.reducePow];omega)];omega
theorem u64_wrap_nat (x:Nat):IntKind.u64.wrap (x:Int)=((x % W64:Nat):Int):=by rw [IntKind.wrap_u64];simp only [W64];omega
theorem shl_nat (z j:Nat):(z:Int) * 2 ^ j=((z * 2 ^ j:Nat):Int):=by rw [Int.natCast_mul,Int.natCast_pow];rfl
theorem stepU (z V j:Nat) (hj:j<10) (hz:z<128) (hV:V<128 ^ j) :
    bits .or .u64 ((V % W64:Nat):Int) (IntKind.u64.wrap (IntKind.u64.wrap (z:Int) * 2 ^ (7 * j)))=(((V+128 ^ j * z) % W64:Nat):Int):=by
  obtain ⟨h1,h2⟩:=joinN z V j hj hV
  rw [u64_wrap_nat z,Nat.mod_eq_of_lt (show z<W64 by simp only [W64];omega),Nat.mod_eq_of_lt h1,shl_nat,u64_wrap_nat,u64_or_nat V _ h1 (Nat.mod_lt _ (by decide)),h2]
theorem spareU (V k:Nat) (hk:0<k) (hk1:k≤10) (hV:V<128 ^ k):IntKind.u64.wrap (((V % W64:Nat):Int) * 2 ^ (64 - 7 * k)) / 2 ^ (64 - 7 * k)=((V % W64:Nat):Int):=by
  obtain ⟨j,rfl⟩:∃ j,k=j+1:=⟨k - 1,by omega⟩
  rw [shl_nat,u64_wrap_nat,show ((2:Int) ^ (64 - 7 * (j+1)))=((2 ^ (64 - 7 * (j+1)):Nat):Int) from by rw [Int.natCast_pow];rfl,← Int.natCast_ediv]
  congr 1
  revert V
  refine ten (fun j=>∀ V,V<128 ^ (j+1)→V % W64 * 2 ^ (64 - 7 * (j+1)) % W64 / 2 ^ (64 - 7 * (j+1))=V % W64) ?_ ?_ ?_ ?_ ?_ ?_ ?_ ?_ ?_ ?_ j (by omega) <;> intro V hV <;> simp only [W64,Nat.reducePow,Nat.reduceAdd,Nat.reduceMul,Nat.reduceSub] at hV ⊢ <;> omega
def U (a:Int):Nat:=(a % 18446744073709551616).toNat
theorem U_wrap (a:Int):U (wrap64 a)=U a:=by unfold U;rw [wrap_emod]
theorem U_nat (n:Nat):U (n:Int)=n % W64:=by unfold U;simp only [W64];omega
theorem or_i64 (a b:Int):bits .or .i64 a b=wrap64 ((U a ||| U b:Nat):Int):=by
  show IntKind.i64.wrap ((BitVec.ofInt 64 a ||| BitVec.ofInt 64 b).toNat:Int)=_
  rw [wrap_i64,BitVec.toNat_or,BitVec.toNat_ofInt,BitVec.toNat_ofInt]
  rfl
theorem stepS (z V j:Nat) (hj:j<10) (hz:z<128) (hV:V<128 ^ j) :
    bits .or .i64 (wrap64 (V:Int)) (wrap64 (wrap64 (z:Int) * 2 ^ (7 * j)))=wrap64 ((V+128 ^ j * z:Nat):Int):=by
  obtain ⟨h1,h2⟩:=joinN z V j hj hV
  rw [wrap_id (x:=(z:Int)) (by omega) (by omega),or_i64,U_wrap,U_wrap,shl_nat,U_nat,U_nat,Nat.mod_eq_of_lt h1,h2]
  refine wrap_congr ?_
  simp only [W64]
  omega
theorem spareS (V k:Nat) (S:Int) (hk:0<k) (hk1:k≤10) (hV:V<128 ^ k) (hS:S=V ∨ S=(V:Int) - ((128 ^ k:Nat):Int)) (h1:-((64 * 128 ^ (k - 1):Nat):Int)≤S) (h2:S<((64 * 128 ^ (k - 1):Nat):Int)) :
    wrap64 (wrap64 (V:Int) * 2 ^ (64 - 7 * k)) / 2 ^ (64 - 7 * k)=wrap64 S:=by
  obtain ⟨j,rfl⟩:∃ j,k=j+1:=⟨k - 1,by omega⟩
  rw [show ((2:Int) ^ (64 - 7 * (j+1)))=((2 ^ (64 - 7 * (j+1)):Nat):Int) from by rw [Int.natCast_pow];rfl]
  revert V S
  refine ten (fun j=>∀ (V:Nat) (S:Int),V<128 ^ (j+1)→(S=(V:Int) ∨ S=(V:Int) - ((128 ^ (j+1):Nat):Int))→-((64 * 128 ^ (j+1 - 1):Nat):Int)≤S→S<((64 * 128 ^ (j+1 - 1):Nat):Int) →
    wrap64 (wrap64 (V:Int) * ((2 ^ (64 - 7 * (j+1)):Nat):Int)) / ((2 ^ (64 - 7 * (j+1)):Nat):Int)=wrap64 S) ?_ ?_ ?_ ?_ ?_ ?_ ?_ ?_ ?_ ?_ j (by omega) <;> intro V S hV hS h1 h2 <;>
    simp only [wrap64,Nat.reducePow,Nat.reduceAdd,Nat.reduceMul,Nat.reduceSub] at hV hS h1 h2 ⊢ <;> omega
theorem valS_is:∀ {l:List Nat},oneS l→(valS l=valU l ∨ valS l=(valU l:Int) - ((128 ^ l.length:Nat):Int))∧-((64 * 128 ^ (l.length - 1):Nat):Int)≤valS l∧valS l<((64 * 128 ^ (l.length - 1):Nat):Int)
  | [],h=>h.elim
  | [x],h=>by
    have hx:x<128:=h
    simp only [valS,valU,List.length_singleton,Nat.reduceSub,Nat.pow_zero,Nat.pow_one]
    split <;> omega
  | x :: y :: l,h=>by
    obtain ⟨h1,h2,h3⟩:=valS_is (l:=y :: l) h.2
    simp only [valS,valU,List.length_cons,Nat.add_sub_cancel] at h1 h2 h3 ⊢
    generalize valS (y :: l)=s at h1 h2 h3 ⊢
    rw [Nat.pow_succ 128 (l.length+1)]
    rw [Nat.pow_succ] at h1 ⊢
    generalize 128 ^ l.length=P at h1 h2 h3 ⊢
    generalize valU l=u at h1 ⊢
    omega
end Go.Proofs.Ytbfkgcapkffecaa
namespace Go.Proofs.Ytbfkgcapkffecaa
open Go Go.RowKit
theorem ByIn.take {B:Nat} {w:World} {p:Option Addr} {ns:List Nat} (h:ByIn B w p ns) (k:Nat):ByIn B w p (ns.take k):=by
  intro i hi
  have hk:i<k∧i<ns.length:=by rw [List.length_take] at hi;omega
  obtain ⟨b,off,hp,hlt,hc⟩:=h i hk.2
  refine ⟨b,off,hp,hlt,?_⟩
  rw [hc,List.getD_eq_getElem?_getD,List.getD_eq_getElem?_getD,List.getElem?_take_of_lt hk.1]
abbrev zeros10:Array Value:=#[.int .u8 0,.int .u8 0,.int .u8 0,.int .u8 0,.int .u8 0,.int .u8 0,.int .u8 0,.int .u8 0,.int .u8 0,.int .u8 0]
theorem made10 (w:World):(Instr.makeSlice 28 (.int .i64 0) (.int .i64 10)).run Try.prog w=.ok (.slice (some ⟨w.heap.size,0,none⟩) 0 10) (w.alloc (.cells zeros10 5)):=by kernel_rfl
theorem own10 (w:World):OwnB w.heap.size (w.alloc (.cells zeros10 5)) (.slice (some ⟨w.heap.size,0,none⟩) 0 10) []:=World.ownsRow_made w zeros10 10 (Nat.le_refl _) (by unfold maxLen;omega) rfl
set_option maxRecDepth 100000 in
set_option maxHeartbeats 1000000 in
theorem getU_any (p:Option Addr) (c:Nat) (xs:List Nat) (hx:bytesL xs) (hl:xs.length≤c) (hm:c≤maxLen) (g:Nat) (w:World) (hp:ByIn w.heap.size w p xs) (hlay:laysU g w) (hgs:g+1<w.heap.size) :
    Calls Try.prog 111 #[.slice p xs.length c,endU g] w fun e w'=>e=.returned (.tuple #[.int .u64 ((getU xs).1:Nat),.int .i64 ((getU xs).2.1:Nat),.int .i64 ((getU xs).2.2:Nat)])∧Below w.heap.size w w':=by
  have hmax:=hm
  unfold maxLen at hmax
  have hspan:=span_any p c xs hx (Nat.le_trans hl hm) _ w hp
  have hll:=lead_le xs
  unfold endU
  by_cases h10:10≤lead xs
  · have hk:spanV xs=(0,31):=by unfold spanV;rw [if_pos h10]
    have hg:getU xs=(0,0,31):=by unfold getU;rw [if_pos h10]
    rw [hk] at hspan
    rw [hg]
    have HS:=Lib.hid hspan
    clear hspan hk hg hlay hp hx
    generalize xs.length=n at HS ⊢
    go_enter Try.func111,Try.ntmps111
    go_wp2_with fail
    refine HS.out.mono ?_
    rintro e w' ⟨rfl,rfl⟩
    go_wp2
    go_ret3
    exact ⟨rfl,Below.refl _ _⟩
  · by_cases hend:lead xs=xs.length
    · have hk:spanV xs=(0,30):=by unfold spanV;rw [if_neg h10,if_pos hend]
      have hg:getU xs=(0,0,30):=by unfold getU;rw [if_neg h10,if_pos hend]
      rw [hk] at hspan
      rw [hg]
      have HS:=Lib.hid hspan
      clear hspan hk hg hlay hp hx
      generalize xs.length=n at HS ⊢
      go_enter Try.func111,Try.ntmps111
      go_wp2_with fail
      refine HS.out.mono ?_
      rintro e w' ⟨rfl,rfl⟩
      go_wp2
      go_ret3
      exact ⟨rfl,Below.refl _ _⟩
    · have hk:spanV xs=(((lead xs+1:Nat):Int),0):=by unfold spanV;rw [if_neg h10,if_neg hend]
      rw [hk] at hspan
      have hz:lead xs+1≤xs.length:=by omega
      have hk10:lead xs+1≤10:=by omega
      have hk0:0<lead xs+1:=by omega
      have hget:getU xs=if putU (valU (xs.take (lead xs+1)) % W64)=xs.take (lead xs+1) then (valU (xs.take (lead xs+1)) % W64,lead xs+1,0) else (0,0,31):=by
        unfold getU;rw [if_neg h10,if_neg hend]
      clear hll h10 hend hk
      generalize lead xs+1=k at hspan hz hk10 hk0 hget
      have hrl:(xs.take k).length=k:=by rw [List.length_take];omega
      obtain ⟨row,hrow⟩:∃ row,xs.take k=row:=⟨_,rfl⟩
      have hrb:bytesL row:=by rw [← hrow];exact bytesL_take hx k
      have hrat:∀ j,j<k→row.getD j 0=xs.getD j 0:=fun j hj=>by
        rw [← hrow,List.getD_eq_getElem?_getD,List.getElem?_take_of_lt hj,← List.getD_eq_getElem?_getD]
      rw [hrow] at hrl hget
      have HG:=Lib.hid (And.intro hget (And.intro hrl (And.intro hrat hrb)))
      have HS:=Lib.hid hspan
      have HL:=Lib.hid (And.intro hlay hgs)
      have hki:(k:Int)≤10:=by omega
      obtain ⟨r,hr⟩:∃ r,getU xs=r:=⟨_,rfl⟩
      rw [hr]
      rw [hr] at hget
      have HR:=Lib.hid hget
      clear hget hrl hrat hrb hspan hlay hgs hr hm HG
      have HG:=Lib.hid (And.intro hrow (And.intro (show row.length=k from by rw [← hrow,List.length_take];omega) (And.intro (show ∀ j,j<k→row.getD j 0=xs.getD j 0 from fun j hj=>by
        rw [← hrow,List.getD_eq_getElem?_getD,List.getElem?_take_of_lt hj,← List.getD_eq_getElem?_getD]) (show bytesL row from by rw [← hrow];exact bytesL_take hx k))))
      clear hrow
      go_enter Try.func111,Try.ntmps111
      go_wp2_with fail
      refine HS.out.mono ?_
      rintro e w' ⟨rfl,rfl⟩
      clear HS
      go_wp2_with fail
      go_loop [10,27] (fun n i=>∃ j:Nat,j≤k∧n=.int .u64 ((valU (row.take j) % W64:Nat):Int)∧i=.int .i64 j) (fun _ i=>k - (intOf i).toNat)
      case atStart=>exact ⟨0,by omega,rfl,rfl⟩
      case round =>
        obtain ⟨j,hj,rfl,rfl⟩:=hrel
        by_cases hjk:j<k
        · have hji:(j:Int)<(k:Int):=by omega
          have hj9:(j:Int)<10:=by omega
          obtain ⟨b,off,rfl,hb,hc⟩:=hp j (by omega)
          have hg:=andNot128 (xs.getD j 0) (bytesL_at hx j)
          have hV:=valU_take row j (by rw [HG.out.2.1];exact hjk)
          have hlt:valU (row.take j)<128 ^ j:=by
            have:=valU_lt (row.take j)
            rwa [show (row.take j).length=j from by rw [List.length_take,HG.out.2.1];omega] at this
          have hst:=stepU (xs.getD j 0 % 128) (valU (row.take j)) j (by omega) (Nat.mod_lt _ (by decide)) hlt
          rw [← HG.out.2.2.1 j hjk,← hV,HG.out.2.2.1 j hjk] at hst
          clear hV hlt hp
          obtain ⟨M,hM⟩:∃ M,valU (row.take (j+1)) % W64=M:=⟨_,rfl⟩
          rw [hM] at hst
          have HM:=Lib.hid hM
          clear hM
          generalize valU (row.take j) % W64=m at hst ⊢
          generalize xs.getD j 0=y at hc hg hst
          generalize y % 128=z at hg hst
          go_wp2
          exact ⟨⟨j+1,by omega,by rw [HM.out],by go_num⟩,by simp [intOf];omega⟩
        · have hji:¬ (j:Int)<(k:Int):=by omega
          obtain rfl:j=k:=by omega
          have ht:row.take j=row:=List.take_of_length_le (by rw [HG.out.2.1];omega)
          rw [ht]
          obtain ⟨s,hs⟩:∃ s,64 - 7 * j=s:=⟨_,rfl⟩
          have hsp:max 0 (64 - 7 * (j:Int))=(s:Int):=by omega
          have hsm:(s:Int)<64:=by omega
          have hfin:=spareU (valU row) j hk0 hk10 (by have:=valU_lt row;rwa [HG.out.2.1] at this)
          rw [hs] at hfin
          clear ht hs
          have HM2:=Lib.hid (Nat.mod_lt (valU row) (show 0<W64 by decide))
          generalize valU row % W64=m at hfin HR HM2 ⊢
          have hmk:=made10 w
          have hown:=own10 w
          have hBA:Below w.heap.size w (w.alloc (.cells zeros10 5)):=(Below.refl _ w).alloc (Nat.le_refl _) _
          generalize w.alloc (.cells zeros10 5)=w1 at hmk hown hBA
          have hm64:m<W64:=HM2.out
          have hput:=putU_any g m w.heap.size _ [] (by have:=putU_ten hm64;simp;omega) w1 hown hBA.size hm64 (HL.out.1.below hBA HL.out.2) (by have:=HL.out.2;have:=hBA.size;omega) (by have:=HL.out.2;simp [Value.ownBlock];omega)
          rw [List.nil_append] at hput
          have HP:=Lib.hid hput
          have HIN:=Lib.hid (show ByIn w.heap.size w p row from by rw [← HG.out.1];exact hp.take j)
          clear hput hown hp hx
          go_wp2_with fail
          refine HP.out.mono ?_
          rintro e w2 ⟨v,rfl,hO,hB2⟩
          obtain ⟨q,d,rfl⟩:=hO.slice
          have hB3:=hBA.trans hB2
          have hin:=HIN.out.below (B':=w2.heap.size) hB3 (Nat.le_refl _) hB3.size
          have heq:=equal_any q p d c (putU m) row (putU_bytes m) HG.out.2.2.2 w2.heap.size w2 hO.in hin
          rw [HG.out.2.1] at heq
          have HE:=Lib.hid heq
          clear HP hO hB2 hBA hin heq HIN
          by_cases he:putU m=row
          · rw [decide_eq_true he] at HE
            have hr:=HR.out
            rw [if_pos he] at hr
            subst hr
            clear HR he HG
            go_wp2_with fail
            refine HE.out.mono ?_
            rintro e w3 ⟨rfl,rfl⟩
            clear HE
            go_wp2
            go_ret3
            exact ⟨rfl,hB3⟩
          · rw [decide_eq_false he] at HE
            have hr:=HR.out
            rw [if_neg he] at hr
            subst hr
            clear HR he HG
            go_wp2_with fail
            refine HE.out.mono ?_
            rintro e w3 ⟨rfl,rfl⟩
            clear HE
            go_wp2
            go_ret3
            exact ⟨rfl,hB3⟩
theorem oneS_row:∀ {l:List Nat},bytesL l→lead l<l.length→oneS (l.take (lead l+1))
  | [],_,h=>absurd h (by simp [lead])
  | x :: l,hb,h=>by
    rw [lead] at h ⊢
    split at h
    · rename_i hx
      rw [if_pos hx]
      have hl:lead l<l.length:=by simpa using h
      have ih:=oneS_row (fun y hy=>hb y (List.mem_cons_of_mem _ hy)) hl
      rw [List.take_succ_cons]
      exact oneS_cons hx (hb x (List.mem_cons_self ..)) ih
    · rename_i hx
      rw [if_neg hx]
      show x<128
      omega
set_option maxRecDepth 100000 in
set_option maxHeartbeats 1000000 in
theorem getS_any (p:Option Addr) (c:Nat) (xs:List Nat) (hx:bytesL xs) (hl:xs.length≤c) (hm:c≤maxLen) (g:Nat) (w:World) (hp:ByIn w.heap.size w p xs) (hlay:laysS g w) (hgs:g+1<w.heap.size) :
    Calls Try.prog 120 #[.slice p xs.length c,endS g] w fun e w'=>e=.returned (.tuple #[.int .i64 (getS xs).1,.int .i64 ((getS xs).2.1:Nat),.int .i64 ((getS xs).2.2:Nat)])∧Below w.heap.size w w':=by
  have hmax:=hm
  unfold maxLen at hmax
  have hspan:=span_any p c xs hx (Nat.le_trans hl hm) _ w hp
  have hll:=lead_le xs
  unfold endS
  by_cases h10:10≤lead xs
  · have hk:spanV xs=(0,31):=by unfold spanV;rw [if_pos h10]
    have hg:getS xs=(0,0,31):=by unfold getS;rw [if_pos h10]
    rw [hk] at hspan
    rw [hg]
    have HS:=Lib.hid hspan
    clear hspan hk hg hlay hp hx
    generalize xs.length=n at HS ⊢
    go_enter Try.func120,Try.ntmps120
    go_wp2_with fail
    refine HS.out.mono ?_
    rintro e w' ⟨rfl,rfl⟩
    go_wp2
    go_ret3
    exact ⟨rfl,Below.refl _ _⟩
  · by_cases hend:lead xs=xs.length
    · have hk:spanV xs=(0,30):=by unfold spanV;rw [if_neg h10,if_pos hend]
      have hg:getS xs=(0,0,30):=by unfold getS;rw [if_neg h10,if_pos hend]
      rw [hk] at hspan
      rw [hg]
      have HS:=Lib.hid hspan
      clear hspan hk hg hlay hp hx
      generalize xs.length=n at HS ⊢
      go_enter Try.func120,Try.ntmps120
      go_wp2_with fail
      refine HS.out.mono ?_
      rintro e w' ⟨rfl,rfl⟩
      go_wp2
      go_ret3
      exact ⟨rfl,Below.refl _ _⟩
    · have hk:spanV xs=(((lead xs+1:Nat):Int),0):=by unfold spanV;rw [if_neg h10,if_neg hend]
      rw [hk] at hspan
      have hz:lead xs+1≤xs.length:=by omega
      have hk10:lead xs+1≤10:=by omega
      have hk0:0<lead xs+1:=by omega
      have hget:getS xs=if putS (wrap64 (valS (xs.take (lead xs+1))))=xs.take (lead xs+1) then (wrap64 (valS (xs.take (lead xs+1))),lead xs+1,0) else (0,0,31):=by
        unfold getS;rw [if_neg h10,if_neg hend]
      have hone:oneS (xs.take (lead xs+1)):=oneS_row hx (by omega)
      clear hll h10 hend hk
      generalize lead xs+1=k at hspan hz hk10 hk0 hget hone
      have hrl:(xs.take k).length=k:=by rw [List.length_take];omega
      obtain ⟨row,hrow⟩:∃ row,xs.take k=row:=⟨_,rfl⟩
      have hrb:bytesL row:=by rw [← hrow];exact bytesL_take hx k
      have hrat:∀ j,j<k→row.getD j 0=xs.getD j 0:=fun j hj=>by
        rw [← hrow,List.getD_eq_getElem?_getD,List.getElem?_take_of_lt hj,← List.getD_eq_getElem?_getD]
      rw [hrow] at hrl hget hone
      have HO:=Lib.hid hone
      have HG:=Lib.hid (And.intro hget (And.intro hrl (And.intro hrat hrb)))
      have HS:=Lib.hid hspan
      have HL:=Lib.hid (And.intro hlay hgs)
      have hki:(k:Int)≤10:=by omega
      obtain ⟨r,hr⟩:∃ r,getS xs=r:=⟨_,rfl⟩
      rw [hr]
      rw [hr] at hget
      have HR:=Lib.hid hget
      clear hone hget hrl hrat hrb hspan hlay hgs hr hm HG
      have HG:=Lib.hid (And.intro hrow (And.intro (show row.length=k from by rw [← hrow,List.length_take];omega) (And.intro (show ∀ j,j<k→row.getD j 0=xs.getD j 0 from fun j hj=>by
        rw [← hrow,List.getD_eq_getElem?_getD,List.getElem?_take_of_lt hj,← List.getD_eq_getElem?_getD]) (show bytesL row from by rw [← hrow];exact bytesL_take hx k))))
      clear hrow
      go_enter Try.func120,Try.ntmps120
      go_wp2_with fail
      refine HS.out.mono ?_
      rintro e w' ⟨rfl,rfl⟩
      clear HS
      go_wp2_with fail
      go_loop [10,27] (fun n i=>∃ j:Nat,j≤k∧n=.int .i64 (wrap64 ((valU (row.take j):Nat):Int))∧i=.int .i64 j) (fun _ i=>k - (intOf i).toNat)
      case atStart=>exact ⟨0,by omega,by simp [valU,wrap64],rfl⟩
      case round =>
        obtain ⟨j,hj,rfl,rfl⟩:=hrel
        by_cases hjk:j<k
        · have hji:(j:Int)<(k:Int):=by omega
          have hj9:(j:Int)<10:=by omega
          obtain ⟨b,off,rfl,hb,hc⟩:=hp j (by omega)
          have hg:=andNot128 (xs.getD j 0) (bytesL_at hx j)
          have hV:=valU_take row j (by rw [HG.out.2.1];exact hjk)
          have hlt:valU (row.take j)<128 ^ j:=by
            have:=valU_lt (row.take j)
            rwa [show (row.take j).length=j from by rw [List.length_take,HG.out.2.1];omega] at this
          have hst:=stepS (xs.getD j 0 % 128) (valU (row.take j)) j (by omega) (Nat.mod_lt _ (by decide)) hlt
          rw [← HG.out.2.2.1 j hjk,← hV,HG.out.2.2.1 j hjk] at hst
          clear hV hlt hp
          obtain ⟨M,hM⟩:∃ M,wrap64 ((valU (row.take (j+1)):Nat):Int)=M:=⟨_,rfl⟩
          rw [hM] at hst
          have HM:=Lib.hid hM
          clear hM
          generalize wrap64 ((valU (row.take j):Nat):Int)=m at hst ⊢
          generalize xs.getD j 0=y at hc hg hst
          generalize y % 128=z at hg hst
          go_wp2
          exact ⟨⟨j+1,by omega,by rw [HM.out],by go_num⟩,by simp [intOf];omega⟩
        · have hji:¬ (j:Int)<(k:Int):=by omega
          obtain rfl:j=k:=by omega
          have ht:row.take j=row:=List.take_of_length_le (by rw [HG.out.2.1];omega)
          rw [ht]
          obtain ⟨s,hs⟩:∃ s,64 - 7 * j=s:=⟨_,rfl⟩
          have hsp:max 0 (64 - 7 * (j:Int))=(s:Int):=by omega
          have hsm:(s:Int)<64:=by omega
          have hvs:=valS_is HO.out
          rw [HG.out.2.1] at hvs
          have hfin:=spareS (valU row) j (valS row) hk0 hk10 (by have:=valU_lt row;rwa [HG.out.2.1] at this) hvs.1 hvs.2.1 hvs.2.2
          rw [hs] at hfin
          clear ht hs
          have HM2:=Lib.hid (wrap_le (valS row))
          clear hvs
          generalize wrap64 (valS row)=m at hfin HR HM2
          generalize wrap64 ((valU row:Nat):Int)=m0 at hfin ⊢
          have hmk:=made10 w
          have hown:=own10 w
          have hBA:Below w.heap.size w (w.alloc (.cells zeros10 5)):=(Below.refl _ w).alloc (Nat.le_refl _) _
          generalize w.alloc (.cells zeros10 5)=w1 at hmk hown hBA
          have hm64:=HM2.out
          have hput:=putS_any g m w.heap.size _ [] (by have:=putS_ten hm64.1 hm64.2;simp;omega) w1 hown hBA.size hm64.1 hm64.2 (HL.out.1.below hBA HL.out.2) (by have:=HL.out.2;have:=hBA.size;omega) (by have:=HL.out.2;simp [Value.ownBlock];omega)
          rw [List.nil_append] at hput
          have HP:=Lib.hid hput
          have HIN:=Lib.hid (show ByIn w.heap.size w p row from by rw [← HG.out.1];exact hp.take j)
          clear hput hown hp hx
          go_wp2_with fail
          refine HP.out.mono ?_
          rintro e w2 ⟨v,rfl,hO,hB2⟩
          obtain ⟨q,d,rfl⟩:=hO.slice
          have hB3:=hBA.trans hB2
          have hin:=HIN.out.below (B':=w2.heap.size) hB3 (Nat.le_refl _) hB3.size
          have heq:=equal_any q p d c (putS m) row (putS_bytes m) HG.out.2.2.2 w2.heap.size w2 hO.in hin
          rw [HG.out.2.1] at heq
          have HE:=Lib.hid heq
          clear HP hO hB2 hBA hin heq HIN
          by_cases he:putS m=row
          · rw [decide_eq_true he] at HE
            have hr:=HR.out
            rw [if_pos he] at hr
            subst hr
            clear HR he HG
            go_wp2_with fail
            refine HE.out.mono ?_
            rintro e w3 ⟨rfl,rfl⟩
            clear HE
            go_wp2
            go_ret3
            exact ⟨rfl,hB3⟩
          · rw [decide_eq_false he] at HE
            have hr:=HR.out
            rw [if_neg he] at hr
            subst hr
            clear HR he HG
            go_wp2_with fail
            refine HE.out.mono ?_
            rintro e w3 ⟨rfl,rfl⟩
            clear HE
            go_wp2
            go_ret3
            exact ⟨rfl,hB3⟩
end Go.Proofs.Ytbfkgcapkffecaa
namespace Go.Proofs.Ytbfkgcapkffecaa
open Go Go.RowKit
set_option maxRecDepth 100000 in
theorem Get_any (p:Option Addr) (c:Nat) (xs:List Nat) (hx:bytesL xs) (hl:xs.length≤c) (hm:c≤maxLen) (w:World) (hp:ByIn w.heap.size w p xs) :
    Calls Try.prog 104 #[.slice p xs.length c] w fun e w'=>e=.returned (.tuple #[.int .u64 ((getU xs).1:Nat),.int .i64 ((getU xs).2.1:Nat),.int .i64 ((getU xs).2.2:Nat)])∧Below w.heap.size w w':=by
  have h2:=Lib.hid (fun (w1:World) (g:Nat) (hlay:laysU g w1) (hlt:g+1<w1.heap.size) (hB:Below w.heap.size w w1) =>
    getU_any p c xs hx hl hm g w1 (hp.below hB (Nat.le_refl _) hB.size) hlay hlt)
  clear hp hx hl hm
  generalize getU xs=r at h2 ⊢
  generalize xs.length=n at h2 ⊢
  go_enter Try.func104,Try.ntmps104
  go_wp2_with fail
  refine (unsignedEnd_any w).mono ?_
  rintro e w1 ⟨g,rfl,hlay,hge,hlt,hB⟩
  have h3:=Lib.hid (h2.out w1 g hlay hlt hB)
  clear h2 hlay hge hlt
  go_wp2_with fail
  refine h3.out.mono ?_
  rintro e w2 ⟨rfl,hB2⟩
  clear h3
  go_wp2_with fail
  go_ret3
  exact ⟨rfl,hB.trans (hB2.mono hB.size)⟩
set_option maxRecDepth 100000 in
theorem GetSigned_any (p:Option Addr) (c:Nat) (xs:List Nat) (hx:bytesL xs) (hl:xs.length≤c) (hm:c≤maxLen) (w:World) (hp:ByIn w.heap.size w p xs) :
    Calls Try.prog 117 #[.slice p xs.length c] w fun e w'=>e=.returned (.tuple #[.int .i64 (getS xs).1,.int .i64 ((getS xs).2.1:Nat),.int .i64 ((getS xs).2.2:Nat)])∧Below w.heap.size w w':=by
  have h2:=Lib.hid (fun (w1:World) (g:Nat) (hlay:laysS g w1) (hlt:g+1<w1.heap.size) (hB:Below w.heap.size w w1) =>
    getS_any p c xs hx hl hm g w1 (hp.below hB (Nat.le_refl _) hB.size) hlay hlt)
  clear hp hx hl hm
  generalize getS xs=r at h2 ⊢
  generalize xs.length=n at h2 ⊢
  go_enter Try.func117,Try.ntmps117
  go_wp2_with fail
  refine (signedEnd_any w).mono ?_
  rintro e w1 ⟨g,rfl,hlay,hge,hlt,hB⟩
  have h3:=Lib.hid (h2.out w1 g hlay hlt hB)
  clear h2 hlay hge hlt
  go_wp2_with fail
  refine h3.out.mono ?_
  rintro e w2 ⟨rfl,hB2⟩
  clear h3
  go_wp2_with fail
  go_ret3
  exact ⟨rfl,hB.trans (hB2.mono hB.size)⟩
end Go.Proofs.Ytbfkgcapkffecaa
namespace Go.Proofs.Ytbfkgcapkffecaa
open Go Go.RowKit
def kiL:List Int:=[0,0,0,0,0,0,0,0,0,0,0,0,0,0,0,0,0,0,0,0,0,0,0,0,0,0,0,0,0,0,0,0,1,2,2,3,3,4,4,0,0,0,0,5,5,6,0,7]
def kiI (op:Int):Int:=kiL.getD op.toNat 0
def knI (op:Int):Bool:=decide (1≤op∧op≤17 ∨ 32≤op∧op≤47)
def opdI (op:Int):Bool:=knI op && decide (0<kiI op)
def mayI (op a:Int):Bool:=knI op && (if kiI op=0 then decide (a=0) else decide (kiI op=1) || decide (0≤a))
theorem knI_cases {op:Int} (h:knI op=true):op=1 ∨ op=2 ∨ op=3 ∨ op=4 ∨ op=5 ∨ op=6 ∨ op=7 ∨ op=8 ∨ op=9 ∨ op=10 ∨ op=11 ∨ op=12 ∨ op=13 ∨ op=14 ∨ op=15 ∨ op=16 ∨ op=17 ∨ op=32 ∨ op=33 ∨ op=34 ∨ op=35 ∨ op=36 ∨ op=37 ∨ op=38 ∨ op=39 ∨ op=40 ∨ op=41 ∨ op=42 ∨ op=43 ∨ op=44 ∨ op=45 ∨ op=46 ∨ op=47:=by
  unfold knI at h
  rw [decide_eq_true_iff] at h
  omega
theorem opdI_iff {op:Int} (h:opdI op=true):op=32 ∨ op=33 ∨ op=34 ∨ op=35 ∨ op=36 ∨ op=37 ∨ op=38 ∨ op=43 ∨ op=44 ∨ op=45 ∨ op=47:=by
  unfold opdI at h
  rw [Bool.and_eq_true] at h
  obtain ⟨h1,h2⟩:=h
  rcases knI_cases h1 with rfl | rfl | rfl | rfl | rfl | rfl | rfl | rfl | rfl | rfl | rfl | rfl | rfl | rfl | rfl | rfl | rfl | rfl | rfl | rfl | rfl | rfl | rfl | rfl | rfl | rfl | rfl | rfl | rfl | rfl | rfl | rfl | rfl
  all_goals first
    | omega
    | (exfalso;revert h2;decide)
theorem opdI_not {op:Int} (h:opdI op=false):op ≠ 32∧op ≠ 33∧op ≠ 34∧op ≠ 35∧op ≠ 36∧op ≠ 37∧op ≠ 38∧op ≠ 43∧op ≠ 44∧op ≠ 45∧op ≠ 47:=by
  refine ⟨?_,?_,?_,?_,?_,?_,?_,?_,?_,?_,?_⟩
  all_goals
    rintro rfl
    revert h
    decide
set_option maxRecDepth 100000 in
theorem isKnown_any (op:Int) (w:World):Calls Try.prog 51 #[.int .i64 op] w fun e w'=>e=.returned (.bool (knI op))∧w=w':=by
  by_cases h1:1≤op
  · by_cases h2:op≤17
    · have e:knI op=true:=by unfold knI;rw [decide_eq_true_iff];omega
      rw [e]
      clear e
      go_enter Try.func51,Try.ntmps51
      go_wp2
      go_ret
      exact ⟨rfl,rfl⟩
    · by_cases h3:32≤op
      · by_cases h4:op≤47
        · have e:knI op=true:=by unfold knI;rw [decide_eq_true_iff];omega
          rw [e]
          clear e
          go_enter Try.func51,Try.ntmps51
          go_wp2
          go_ret
          exact ⟨rfl,rfl⟩
        · have e:knI op=false:=by unfold knI;rw [decide_eq_false_iff_not];omega
          rw [e]
          clear e
          go_enter Try.func51,Try.ntmps51
          go_wp2
          go_ret
          exact ⟨rfl,rfl⟩
      · have e:knI op=false:=by unfold knI;rw [decide_eq_false_iff_not];omega
        rw [e]
        clear e
        go_enter Try.func51,Try.ntmps51
        go_wp2
        go_ret
        exact ⟨rfl,rfl⟩
  · have h3:¬ 32≤op:=by omega
    have e:knI op=false:=by unfold knI;rw [decide_eq_false_iff_not];omega
    rw [e]
    clear e
    go_enter Try.func51,Try.ntmps51
    go_wp2
    go_ret
    exact ⟨rfl,rfl⟩
set_option maxRecDepth 100000 in
set_option maxHeartbeats 1000000 in
theorem Operand_any (op:Int) (w:World):Calls Try.prog 52 #[.int .i64 op] w fun e w'=>e=.returned (.bool (opdI op))∧w=w':=by
  cases h:opdI op
  · obtain ⟨n1,n2,n3,n4,n5,n6,n7,n8,n9,n10,n11⟩:=opdI_not h
    clear h
    go_enter Try.func52,Try.ntmps52
    go_wp2
    go_ret
    exact ⟨rfl,rfl⟩
  · rcases opdI_iff h with rfl | rfl | rfl | rfl | rfl | rfl | rfl | rfl | rfl | rfl | rfl
    all_goals
      clear h
      go_enter Try.func52,Try.ntmps52
      go_wp2
      go_ret
      exact ⟨rfl,rfl⟩
abbrev inV (op a:Int):Value:=.agg #[.int .i64 op,.int .i64 a]
theorem mayI_none {op:Int} (h:knI op=false) (a:Int):mayI op a=false:=by unfold mayI;rw [h];rfl
theorem mayI_plain {op:Int} (h:knI op=true) (h2:opdI op=false) (a:Int):mayI op a=decide (a=0):=by
  have h0:kiI op=0:=by
    rcases knI_cases h with rfl | rfl | rfl | rfl | rfl | rfl | rfl | rfl | rfl | rfl | rfl | rfl | rfl | rfl | rfl | rfl | rfl | rfl | rfl | rfl | rfl | rfl | rfl | rfl | rfl | rfl | rfl | rfl | rfl | rfl | rfl | rfl | rfl
    all_goals first
      | rfl
      | (exfalso;revert h2;decide)
  unfold mayI
  rw [h,if_pos h0]
  rfl
theorem mayI_const (a:Int):mayI 32 a=true:=by
  unfold mayI
  rfl
theorem kiI_one {op:Int} (h:kiI op=1):op=32:=by
  by_cases hk:knI op=true
  · rcases knI_cases hk with rfl | rfl | rfl | rfl | rfl | rfl | rfl | rfl | rfl | rfl | rfl | rfl | rfl | rfl | rfl | rfl | rfl | rfl | rfl | rfl | rfl | rfl | rfl | rfl | rfl | rfl | rfl | rfl | rfl | rfl | rfl | rfl | rfl
    all_goals first
      | rfl
      | (exfalso;revert h;decide)
  · exfalso
    unfold kiI at h
    by_cases h2:op.toNat<48
    · have h3:∀ k:Fin 48,kiL.getD k.val 0=1→k.val=32:=by decide
      have:=h3 ⟨op.toNat,h2⟩ h
      apply hk
      unfold knI
      rw [decide_eq_true_iff]
      simp only at this
      omega
    · rw [List.getD_eq_getElem?_getD,List.getElem?_eq_none (by show 48≤_;omega)] at h
      cases h
theorem mayI_unsigned {op:Int} (h2:opdI op=true) (h3:op ≠ 32) (a:Int):mayI op a=decide (0≤a):=by
  have h:=h2
  unfold opdI at h
  rw [Bool.and_eq_true,decide_eq_true_iff] at h
  have h1:¬ kiI op=1:=fun e=>h3 (kiI_one e)
  unfold mayI
  rw [h.1,if_neg (by omega),decide_eq_false h1]
  rfl
set_option maxRecDepth 100000 in
set_option maxHeartbeats 1000000 in
theorem May_any (op a:Int) (w:World):Calls Try.prog 29 #[inV op a] w fun e w'=>e=.returned (.bool (mayI op a))∧Below w.heap.size w w':=by
  have HK:=Lib.hid (isKnown_any op)
  have HO:=Lib.hid (Operand_any op)
  cases hk:knI op
  · rw [mayI_none hk]
    rw [hk] at HK
    clear hk HO
    go_enter Try.func29,Try.ntmps29
    go_wp2_with fail
    refine (HK.out _).mono ?_
    rintro e w1 ⟨rfl,rfl⟩
    go_wp2
    go_ret
    exact ⟨rfl,(Below.refl _ w).alloc (Nat.le_refl _) _⟩
  · rw [hk] at HK
    cases ho:opdI op
    · rw [mayI_plain hk ho]
      rw [ho] at HO
      clear hk ho
      go_enter Try.func29,Try.ntmps29
      go_wp2_with fail
      refine (HK.out _).mono ?_
      rintro e w1 ⟨rfl,rfl⟩
      go_wp2_with fail
      refine (HO.out _).mono ?_
      rintro e w1 ⟨rfl,rfl⟩
      by_cases ha:a=0
      · subst ha
        go_wp2
        go_ret
        exact ⟨rfl,(Below.refl _ w).alloc (Nat.le_refl _) _⟩
      · go_wp2
        go_ret
        refine ⟨?_,(Below.refl _ w).alloc (Nat.le_refl _) _⟩
        simp [ha]
    · rw [ho] at HO
      by_cases h32:op=32
      · subst h32
        rw [mayI_const]
        clear hk ho
        go_enter Try.func29,Try.ntmps29
        go_wp2_with fail
        refine (HK.out _).mono ?_
        rintro e w1 ⟨rfl,rfl⟩
        go_wp2_with fail
        refine (HO.out _).mono ?_
        rintro e w1 ⟨rfl,rfl⟩
        go_wp2
        go_ret
        exact ⟨rfl,(Below.refl _ w).alloc (Nat.le_refl _) _⟩
      · rw [mayI_unsigned ho h32]
        clear hk ho
        go_enter Try.func29,Try.ntmps29
        go_wp2_with fail
        refine (HK.out _).mono ?_
        rintro e w1 ⟨rfl,rfl⟩
        go_wp2_with fail
        refine (HO.out _).mono ?_
        rintro e w1 ⟨rfl,rfl⟩
        by_cases ha:0≤a
        all_goals
          go_wp2
          go_ret
          refine ⟨?_,(Below.refl _ w).alloc (Nat.le_refl _) _⟩
          simp [ha,h32]
end Go.Proofs.Ytbfkgcapkffecaa
namespace Go.Proofs.Ytbfkgcapkffecaa
open Go Go.RowKit
end Go.Proofs.Ytbfkgcapkffecaa
namespace Go.Proofs.Ytbfkgcapkffecaa
open Go Go.RowKit
theorem knI_nat {r:Int} (h:knI r=true):∃ k:Nat,k<48∧r=k:=by
  unfold knI at h
  rw [decide_eq_true_iff] at h
  exact ⟨r.toNat,by omega,by omega⟩
end Go.Proofs.Ytbfkgcapkffecaa
