/- A part of the proof of PrintBack: contracts and plain facts. -/
import Derived.Test.YtpcniebkabkikaaGreatDoorPBqR10
import Derived.Test.YtpcniebkabkikaaGreatDoorPBqR4
import Derived.Deep.RegionHeldLaw
import Derived.OwnWalkIn
import Derived.RangeFuncCalls
import Derived.RangeFuncLeaves
import Derived.LoopNIn
import Derived.LoopIn
set_option maxRecDepth 100000
set_option maxHeartbeats 8000000
open Go.Lib (hid)
open Go.Proofs.Tryz
namespace Go.Proofs.YtpcniebkabkikaaGreatDoor
open Go Go.RowKit Go.Proofs.Mm
open Go.Proofs.Syn (Tm opLv opMark unMark b1_)
theorem infoStrT:∃i,prog.info? 9=some i∧i.zero=some (.string ⟨#[]⟩)∧i.size=1∧i.bytes=16:=by
 have h:(prog.info? 9).map (fun i=>(i.zero,i.size,i.bytes))=some (some (.string ⟨#[]⟩),1,16):=by kernel_rfl
 cases hi:prog.info? 9 with
 | none=>rw [hi] at h;cases h
 | some i =>
  rw [hi] at h
  simp only [Option.map_some,Option.some.injEq,Prod.mk.injEq] at h
  obtain ⟨e1,e2,e3⟩:=h
  exact ⟨i,rfl,e1,e2,e3⟩
def PcR (B:Nat) (W:World) (v:Value) (out:List (List Nat)):Prop:=W.ownsRow B 9 1 v out.length (out.map fun s=>.string (sb s))
theorem own_cut {w:World} {B n m size:Nat} {E:TypeId} {q:Option Addr} {c:Nat} {xs ys:List Value} (h:w.ownsRow B E size (.slice q n c) n (xs++ys)) (hx:xs.length=m*size) (_hy:ys.length=(n - m)*size) (hm:m<n):w.ownsRow B E size (.slice q m c) m xs:=by
 rcases h.2 with ⟨_,h0⟩|⟨g,cap,cur,e,hb,hg,hnc,hcm,hcs,ht⟩
 ·omega
 ·injection e with e1 _ e3
  subst e1;subst e3
  refine ⟨hx,.inr ⟨g,c,cur,rfl,hb,hg,by omega,hcm,hcs,?_⟩⟩
  have h2:=congrArg (List.take (m*size)) ht
  rw [List.take_take,List.take_left' hx,Nat.min_eq_left (Nat.mul_le_mul_right _ (by omega))] at h2
  exact h2
theorem bj_ {w w':World} {B n size:Nat} {E:TypeId} {v:Value} {xs:List Value} (h:w.ownsRow B E size v n xs) (hb:Below w.heap.size w w'):w'.ownsRow B E size v n xs :=
 a0_ h (Below.chg hb (Nat.le_refl _) (fun _=>False)) (fun _ _ e=>e)
theorem mg_ {w w':World} {B n size:Nat} {E:TypeId} {v:Value} {xs:List Value} (h:w.ownsRow B E size v n xs) {B' n' size':Nat} {E':TypeId} {v':Value} {ys:List Value} (h':w.ownsRow B' E' size' v' n' ys) (hE:E≠E') (hg:w.grownBy w' v'.ownBlock):w'.ownsRow B E size v n xs :=
 a0_ h (a1_ (S:=fun k=>v'.ownBlock=some k) hg (fun k e=>.inl e)) (fun k hk e=>by
  obtain ⟨c1,h1⟩:=av_ h hk
  obtain ⟨c2,h2⟩:=av_ h' e
  rw [h1] at h2
  simp only [Option.some.injEq,Obj.cells.injEq] at h2
  exact hE h2.2.1)
theorem xk_ {dg:Nat→List Nat} {f:Nat} {rl:List Tm} {out Q:List (List Nat)} (h:runB dg f [] rl out=some Q):Q=out:=by
 cases f with
 | zero=>cases h
 | succ f=>exact (Option.some.inj h).symm
theorem xl_ {dg:Nat→List Nat} {f:Nat} {p:Pt} {row:List Pt} {rl:List Tm} {out Q:List (List Nat)} (h:runB dg f (p::row) rl out=some Q) (hp:p.1≠[]):∃f',runB dg f' row rl (out++[p.1])=some Q:=by
 cases f with
 | zero=>cases h
 | succ f =>
  refine ⟨f,?_⟩
  rw [←h]
  show _=(if p.1≠[] then _ else _)
  rw [if_pos hp]
theorem xm_ {dg:Nat→List Nat} {f:Nat} {p:Pt} {row:List Pt} {rl:List Tm} {out Q:List (List Nat)} (h:runB dg f (p::row) rl out=some Q) (hp:p.1=[]):∃f' t rl',rl=t::rl'∧runB dg f' ((brT dg p.2 t).reverse++row) rl' out=some Q:=by
 cases f with
 | zero=>cases h
 | succ f =>
  cases rl with
  | nil =>
   have h0:runB dg (f+1) (p::row) [] out=none:=by
    show (if p.1≠[] then _ else _)=_
    rw [if_neg (by simp [hp])]
   rw [h0] at h;cases h
  | cons t rl =>
   refine ⟨f,t,rl,rfl,?_⟩
   rw [←h]
   show _=(if p.1≠[] then _ else _)
   rw [if_neg (by simp [hp])]
theorem br_len (lv:Nat) (t:Tm):(brT dgN lv t).length≤7:=by
 have:=ss_ t
 unfold brT
 split
 ·omega
 ·simp only [List.length_cons,List.length_append,List.length_nil];omega
theorem sb_ne {p:List Nat} (h:p≠[]):((sb p).toList == ([]:List UInt8))=false:=by
 rw [beq_eq_false_iff_ne,Lib.toList_data]
 intro e
 apply h
 have:=congrArg List.length e
 unfold sb at this
 simp at this
 exact this
theorem PtR.last {B:Nat} {W:World} {row:List Pt} {p:Pt} {q:Option Addr} {n c:Nat} (h:PtR B W (.slice q n c) (row.reverse++[p])) (hn:n=row.length+1):∃g,q=some ⟨g,0,none⟩∧row.length+1≤c∧c≤maxLen∧W.cell? ⟨g,row.length*2,none⟩=some (.string (sb p.1))∧W.cell? ⟨g,row.length*2+1,none⟩=some (.int .i64 (p.2:Nat))∧W.ownsRow B 128 2 (.slice q row.length c) row.length (ptCells row.reverse):=by
 unfold PtR at h
 have hl:(row.reverse++[p]).length=row.length+1:=by simp
 rw [hl] at h
 have hcell:=fun g (hg:(Value.slice q n c).ownBlock=some g)=>World.ownsRow.cells h hg
 have hx:(ptCells row.reverse).length=row.length*2:=by rw [xc_,List.length_reverse]
 have hcut:=h
 rcases h.2 with ⟨_,h0⟩|⟨g,cap,cur,e,hb,hg,hnc,hcm,hcs,ht⟩
 ·omega
 ·injection e with e1 e2 e3
  subst e1;subst e3;subst e2
  refine ⟨g,rfl,hnc,hcm,?_,?_,?_⟩
  ·have:=hcell g rfl (row.length*2) (.string (sb p.1)) (by rw [ob_,List.getElem?_append_right (by omega),hx,Nat.sub_self];rfl)
   rw [Addr.add_lit] at this
   simpa using this
  ·have:=hcell g rfl (row.length*2+1) (.int .i64 (p.2:Nat)) (by rw [ob_,List.getElem?_append_right (by omega),hx,Nat.add_sub_cancel_left];rfl)
   rw [Addr.add_lit] at this
   simpa using this
  ·rw [ob_] at hcut
   exact own_cut hcut hx (by rw [show row.length+1 - row.length=1 by omega];rfl) (by omega)
def npQ (Q:Exit→Act→World→Prop):Exit→Act→World→Prop:=fun e a w=>(∀x,e≠.panic x)∧Q e a w
theorem wp_np {P:Program} {c:Code} {Q:Exit→Act→World→Prop} {a:Act} {w:World} (h:c.wp P (npQ Q) a w):c.wp P Q a w:=wp_mono h fun _ _ _ h=>h.2
theorem str_one (s:ByteArray):∀u∈[Value.string s],u.oneCell'=true:=by
 intro u h
 obtain rfl:u=Value.string s:=by simpa using h
 rfl
theorem jx_ {m:Nat} (h:m≤9223372036854775807):wrap64 (m:Int)=(m:Int):=by unfold wrap64;omega
theorem cnt_le {o k m n:Nat} (h:o+10*k+(m+1)≤10*n+1) (hn:n≤2097152):m≤20971520∧o≤20971520∧k≤2097152:=by omega
end Go.Proofs.YtpcniebkabkikaaGreatDoor
namespace Go.Proofs.YtpcniebkabkikaaGreatDoor
open Go Go.RowKit Go.Proofs.Mm
abbrev PcT:={ s:ByteArray // s.size≤1000 }
theorem zq_:∀(Q:List (List Nat)),(∀s∈Q,s.length≤1000)→∃ops:List PcT,ops.map Subtype.val=Q.map sb
 | [],_=>⟨[],rfl⟩
 | s::Q,h=>by
  obtain ⟨ops,h1⟩:=zq_ Q (fun x hx=>h x (List.mem_cons_of_mem _ hx))
  exact ⟨⟨sb s,by rw [o9_];exact h s (List.mem_cons_self ..)⟩::ops,by rw [List.map_cons,List.map_cons,h1]⟩
def StrsAt (w:World) (q:Option Addr) (ops:List PcT):Prop :=
 ∀j (h:j<ops.length),∃g cur,q=some ⟨g,0,none⟩∧w.heap[g]?=some (.cells cur 9 (0,0))∧cur[j]?=some (.string ops[j].val)
theorem StrsAt.kept {A B:World} {Bx:Nat} {q:Option Addr} {ops:List PcT} (h:StrsAt A q ops) (hk:KpB Bx q A B):StrsAt B q ops:=fun j hj=>by
 obtain ⟨g,cur,h1,h2,h3⟩:=h j hj
 exact ⟨g,cur,h1,(hk.2 _ h1).trans h2,h3⟩
theorem StrsAt.below {A B:World} {q:Option Addr} {ops:List PcT} (h:StrsAt A q ops) (hb:Below A.heap.size A B):StrsAt B q ops:=fun j hj=>by
 obtain ⟨g,cur,h1,h2,h3⟩:=h j hj
 exact ⟨g,cur,h1,(hb.block g (heap_lt h2)).trans h2,h3⟩
theorem of_ (n Bx:Nat) (q:Option Addr) (c:Nat) (ops:List PcT) (hlen:ops.length≤20971530) (w:World) (hB:w.heap[Bx]?=some (.cells #[.slice q ops.length c] 22 (0,0))) (hN:StrsAt w q ops) :
 SeqStopsK Fence.wide n prog 140 #[.pointer (some ⟨Bx,0,none⟩)] (fun x:Nat × PcT=>#[Value.int .i64 (x.1:Int),Value.string x.2.val]) (KpB Bx q) (fun xs=>xs.map Prod.snd=ops.reverse) (fun _=>True) ops.length w:=by
 intro l J Jx W hW _ _ hY h0
 have hB1:=(hW.block Bx (heap_lt hB)).trans hB
 have hN1:=hN.below hW
 clear hB hN hW
 have hc0:=aa_ (j:=0) hB1 rfl
 obtain ⟨m0,hm0⟩:∃m0,ops.length=m0:=⟨_,rfl⟩
 rw [hm0] at hc0 hlen hY
 have HM:=hid hm0
 clear hm0
 refine callsIn_of_wp func140 rfl trivial ?_ rfl
 simp only [ntmps140,List.size_toArray,List.length_cons,List.length_nil,Nat.reduceAdd,Nat.reduceSub,Array.replicate_succ,Array.replicate_zero,List.push_toArray,List.append_toArray,List.nil_append,List.cons_append]
 gi_wp2
 gi_loopw [3] (fun t wr=>∃(pre:List (Nat × PcT)) (m:Nat),m≤m0∧t=.int .i64 ((m:Int) - 1)∧Hid (pre.map Prod.snd=(ops.drop m).reverse)∧wr.heap[Bx]?=some (.cells #[.slice q m0 c] 22 (0,0))∧StrsAt wr q ops∧J pre wr)
  (fun t _=>(intOf t+1).toNat)
 case atStart =>
  exact ⟨[],m0,Nat.le_refl _,rfl,hid (by rw [←HM.out];simp),by rw [←HM.out];exact hB1,hN1,h0⟩
 case round =>
  obtain ⟨pre,m,hm,rfl,HP,hBr,hNr,hJr⟩:=hrel
  clear hB1 hN1 h0 hc0
  have hcr:=aa_ (j:=0) hBr rfl
  cases m with
  | zero =>
   gi_wp2
   go_end0
   exact ⟨⟨_,rfl⟩,.inl ⟨pre,by have:=HP.out;simpa using this,hJr⟩⟩
  | succ k =>
   have hk:k<ops.length:=by rw [HM.out];omega
   obtain ⟨g,cur,rfl,hg,hcur⟩:=hNr k hk
   have hck:=aa_ hg hcur
   have hpl:pre.length<m0:=by
    have h1:=congrArg List.length HP.out
    simp only [List.length_map,List.length_reverse,List.length_drop] at h1
    have:=HM.out
    omega
   obtain ⟨fn,tmps,assign,body,hy,hR⟩:=hY pre (k,ops[k]) wr hJr hpl
   have HP2:=hid (show (pre++[(k,ops[k])]).map Prod.snd=(ops.drop k).reverse from by
    rw [List.map_append,HP.out,List.drop_eq_getElem_cons hk,List.reverse_cons];rfl)
   have hNr2:=hid hNr
   have hBr2:=hid hBr
   clear HP hpl hcur hg hJr hNr hBr
   generalize ops[k]=ok at *
   rw [hi_]
   gi_wp2
   refine ⟨(fun h=>by cases h),hR.mono ?_⟩
   rintro e W3 (⟨rfl,hJ3,hk3⟩|⟨rfl,hJx3⟩)
   ·have hB3:=hid (hk3.1.trans hBr2.out)
    have hN3:=hid (hNr2.out.kept hk3)
    clear hk3
    gi_wp2
    exact ⟨⟨pre++[(k,ok)],k,by omega,rfl,HP2,hB3.out,hN3.out,hJ3⟩,by simp [intOf]⟩
   ·gi_wp2
    refine bodyPost_ret (results_none rfl _ _ _) rfl ?_
    exact ⟨⟨_,rfl⟩,.inr ⟨pre++[(k,ok)],trivial,hJx3⟩⟩
end Go.Proofs.YtpcniebkabkikaaGreatDoor
namespace Go.Proofs.YtpcniebkabkikaaGreatDoor
open Go Go.RowKit Go.Proofs.Mm
open Go.Proofs.Syn (Tm opLv opMark unMark b1_)
theorem ko_ (q:Option Addr) (n c:Nat) (w:World):Calls prog 82 #[.slice q n c] w fun e w'=>e=.returned (.func (.func 140) #[] #[.pointer (some ⟨w.heap.size,0,none⟩)])∧w'=w.alloc (.cells #[.slice q n c] 22):=by
 go_enter func82,ntmps82
 go_wp2
 go_ret
 exact ⟨rfl,rfl⟩
abbrev BldS (B b:Nat) (bs:List Value) (w:World):Prop:=Lib.IsBuilderF 79 5 B b bs w
theorem pf_ {p:Value} {B b:Nat} {bs:List Value} {w w':World} {row:Option Nat} (h:Lib.BuilderAtF 79 5 B b p bs w) (hg:w.grownBy w' row) (hr:∀r,row=some r→∃o:Obj,w.heap[r]?=some o∧o.isCells=false):Lib.BuilderAtF 79 5 B b p bs w':=by
 obtain ⟨hB,v,hb,hown,hne⟩:=h
 refine ⟨hB,v,bm_ hg hr hb,?_,hne⟩
 refine hown.kept hg ?_
 rcases hown.2 with ⟨rfl,_⟩|⟨g,cap,cur,fz,rfl,_,hgg,_⟩
 ·exact .inl rfl
 ·refine .inr fun e=>?_
  obtain ⟨o,ho,hc⟩:=hr g e.symm
  rw [hgg] at ho;cases ho;cases hc
theorem st_ {B b:Nat} {bs:List Value} {w w':World} {row:Option Nat} (h:BldS B b bs w) (hg:w.grownBy w' row) (hr:∀r,row=some r→∃o:Obj,w.heap[r]?=some o∧o.isCells=false):BldS B b bs w':=h.elim (fun h=>.inl (pf_ h hg hr)) (fun h=>.inr (pf_ h hg hr))
theorem bld_new (w:World) {B:Nat} (hB:B≤w.heap.size):BldS B w.heap.size [] (w.alloc (.cells #[.pointer none,.slice none 0 0] 79)) :=
 .inl ⟨hB,_,World.alloc_heap_new _ _,⟨rfl,.inl ⟨rfl,rfl⟩⟩,by simp [Value.ownBlock]⟩
theorem pg_ {p:Value} {B b:Nat} {bs:List Value} {w w':World} (h:Lib.BuilderAtF 79 5 B b p bs w) (hb:Below w.heap.size w w'):Lib.BuilderAtF 79 5 B b p bs w':=by
 obtain ⟨hB,v,hbk,hown,hne⟩:=h
 exact ⟨hB,v,(hb.block _ (heap_lt hbk)).trans hbk,c5_ hown (fun k o ho _=>(hb.block k (heap_lt ho)).trans ho),hne⟩
theorem su_ {B b:Nat} {bs:List Value} {w w':World} (h:BldS B b bs w) (hb:Below w.heap.size w w'):BldS B b bs w':=h.elim (fun h=>.inl (pg_ h hb)) (fun h=>.inr (pg_ h hb))
def wrote (xs:List (Nat × PcT)):List Value:=(xs.map fun x=>x.2.val).flatMap Lib.strCells
theorem ri_ (xs:List (Nat × PcT)) (x:Nat × PcT):wrote (xs++[x])=wrote xs++Lib.strCells x.2.val:=by unfold wrote;rw [List.map_append,List.flatMap_append,List.map_singleton,List.flatMap_singleton]
theorem sv_ (xs:List (Nat × PcT)):(wrote xs).length≤1000*xs.length:=by
 induction xs with
 | nil=>exact Nat.le_refl _
 | cons x xs ih =>
  have h1:wrote (x::xs)=Lib.strCells x.2.val++wrote xs:=by unfold wrote;rw [List.map_cons,List.flatMap_cons]
  have h2:=x.2.2
  have h3:(Lib.strCells x.2.val).length=x.2.val.size:=by
   rw [Lib.strCells_eq]
   unfold Lib.byteCells
   rw [List.length_map]
   exact Array.length_toList
  rw [h1,List.length_append,List.length_cons,h3]
  omega
theorem jy_:∀(l:List ByteArray),l.flatMap Lib.strCells=Lib.byteCells (l.flatMap fun s=>s.data.toList)
 | []=>rfl
 | s::l=>by rw [List.flatMap_cons,List.flatMap_cons,jy_ l,Lib.byteCells_append,Lib.strCells_eq]
theorem sw_:∀(l:List (List Nat)),(⟨((l.map sb).flatMap fun s=>s.data.toList).toArray⟩:ByteArray)=sb l.flatten
 | []=>rfl
 | s::l=>by
  have h:=congrArg (fun b:ByteArray=>b.data.toList) (sw_ l)
  simp only at h
  apply ByteArray.ext
  apply Array.ext'
  rw [List.map_cons,List.flatMap_cons,List.flatten_cons,sb_app]
  show (sb s).data.toList++_=((sb s)++(sb l.flatten)).data.toList
  rw [ByteArray.data_append,Array.toList_append,←h]
structure BI (B b Bx:Nat) (q:Option Addr) (w0 w7:World) (pre:List (Nat × PcT)) (W:World):Prop where
 bld:BldS B b (wrote pre) W
 low:Below B w0 W
 kp:KpB Bx q w7 W
theorem BI.own {B b Bx:Nat} {q:Option Addr} {w0 w7:World} (hw:B≤w7.heap.size) (hw0:w0.heap.size=B) {f0:Value} (h7:w7.heap[Bx]?=some (.cells #[f0] 22 (0,0))) (hq:∀a,q=some a→∃cur,w7.heap[a.block]?=some (.cells cur 9 (0,0))) :
 OwnFrom w7.heap.size (BI B b Bx q w0 w7):=by
 intro pre X Y row h hg hr
 have hr2:=fun r e=>(hr r e).2
 refine ⟨st_ h.bld hg hr2,h.low.grown hg (by have:=h.low.size;omega) (fun r e=>by have:=(hr r e).1;omega),?_,fun a ha=>?_⟩
 ·rw [h7];exact bm_ hg hr2 (h.kp.1.trans h7)
 ·obtain ⟨cur,hc⟩:=hq a ha
  rw [hc];exact bm_ hg hr2 ((h.kp.2 a ha).trans hc)
theorem BI.step {B b Bx:Nat} {q:Option Addr} {w0 w7:World} {pre:List (Nat × PcT)} {W W2:World} (h:BI B b Bx q w0 w7 pre W) {f0:Value} (h7:w7.heap[Bx]?=some (.cells #[f0] 22 (0,0))) (hq:∀a,q=some a→∃cur,w7.heap[a.block]?=some (.cells cur 9 (0,0))) (x:Nat × PcT)
 (hat:Lib.BuilderAtF 79 5 B b (.pointer (some ⟨b,0,none⟩)) (wrote pre++Lib.strCells x.2.val) W2) (hb:Below B W W2) (hk:Lib.OthersKept 5 (some b) W W2):KeepsOthers W W2∧KpB Bx q W W2∧BI B b Bx q w0 w7 (pre++[x]) W2:=by
 have hbb:∃cs,W.heap[b]?=some (.cells cs 79 (0,0)):=by
  rcases h.bld with ⟨_,v,hbk,_⟩|⟨_,v,hbk,_⟩ <;> exact ⟨_,hbk⟩
 have hx:=h.kp.1.trans h7
 have hx2:W2.heap[Bx]?=W.heap[Bx]?:=by
  rw [hx]
  refine hk Bx _ hx (fun e=>?_) (fun c fz e=>by cases e)
  obtain ⟨cs,hc⟩:=hbb
  injection e with e
  rw [←e,hx] at hc
  cases hc
 have hr2:∀a,q=some a→W2.heap[a.block]?=W.heap[a.block]?:=by
  intro a ha
  obtain ⟨cur,hc⟩:=hq a ha
  have hc2:=(h.kp.2 a ha).trans hc
  rw [hc2]
  refine hk a.block _ hc2 (fun e=>?_) (fun c fz e=>by cases e)
  obtain ⟨cs,hcb⟩:=hbb
  injection e with e
  rw [←e,hc2] at hcb
  cases hcb
 refine ⟨⟨hb.size,fun k o ho hc=>?_⟩,⟨hx2,hr2⟩,⟨by rw [ri_];exact .inr hat,h.low.trans hb,⟨hx2.trans h.kp.1,fun a ha=>(hr2 a ha).trans (h.kp.2 a ha)⟩⟩⟩
 refine hk k o ho (fun e=>?_) (fun c fz e=>by subst e;cases hc)
 obtain ⟨cs,hcb⟩:=hbb
 injection e with e
 rw [←e,ho] at hcb
 injection hcb with hcb
 subst hcb
 cases hc
end Go.Proofs.YtpcniebkabkikaaGreatDoor
