/- unary of the parser: operations, then what they are of, told backward. unary of the parser, walked. level, within and expr of the parser: expressions whole. Expressions of the parser: within, at each depth, and expr. Lists in memory that is handed out; the parser's list, over any item. Sources that are handed in: rows of statements and expressions, of whatever kinds and names, as they read in memo -/
import Derived.Test.YtpcniebkabkikaaGreatDoorVSR4
import Derived.Maps.OwnIn
import Derived.Test.YtpcniebkabkikaaGreatDoorVSR2
import Derived.Test.YtpcniebkabkikaaGreatDoorVSR1
import Derived.Test.YtpcniebkabkikaaGreatDoorVSR3
import Derived.Laws.Bits64b
import Derived.Lib.TrailingZeros
import Derived.Test.YtpcniebkabkikaaGreatDoorProg
import Derived.WalkKit
import Derived.Outline
import Derived.LoopTactic
import Derived.Lib.Hide
import Derived.Shelf.Spec.TrailingZeros
import Derived.RangeFuncNested
import Derived.RangeFuncBound
import Derived.RangeFuncCalls
import Derived.RangeFuncLeaves
import Derived.Shelf.Abstract
import Derived.Shelf.RegionOpen
import Derived.OwnWalkIn
import Derived.TacticsInMore
import Derived.LoopNIn
import Derived.LoopIn
import Derived.WalkSmall
import Derived.Lib.Strings
import Derived.Lib.Small
namespace Go.Proofs.YtpcniebkabkikaaGreatDoor
open Go Go.RowKit Go.Proofs.Mm
theorem unOps_spec {T:Nat→Option Syn.K}:∀ (f i:Nat) (ops:List Nat) (j:Nat),Syn.unOps T f i=.ok (ops,j)→j=i+ops.length∧Syn.opOf T Syn.unL j=0∧∀ n (h:n<ops.length),Syn.opOf T Syn.unL (i+n)=ops[n]∧ops[n] ≠ 0
  | 0,_,_,_,h=>by cases h
  | f+1,i,ops,j,h=>by
    rw [Syn.unOps] at h
    split at h
    · rename_i h0
      injection h with h;injection h with h1 h2
      subst h1;subst h2
      exact ⟨rfl,h0,fun n hn=>absurd hn (by simp)⟩
    · rename_i h0
      obtain ⟨l1,i1,h1,h2⟩:=Syn.R.on_ok h
      injection h2 with h2;injection h2 with h3 h4
      subst h3;subst h4
      obtain ⟨a,b,c⟩:=unOps_spec f _ _ _ h1
      refine ⟨by rw [List.length_cons];omega,b,fun n hn=>?_⟩
      cases n with
      | zero=>exact ⟨rfl,h0⟩
      | succ n =>
        have:=c n (by simpa using hn)
        rw [show i+(n+1)=i+1+n by omega]
        exact this
theorem lt_of_op {ys:List It} {i:Nat} {ms:List (List Nat × Nat)} (h:Syn.opOf (Tk ys) ms i ≠ 0):i<ys.length:=Syn.opOf_lt (tk_nones ys) h
def unT (x:Nat × Nat):Syn.Tm:=⟨4,x.2,[]⟩
def nmCells (l:List Nat):List Value:=l.map fun (k:Nat)=>Value.int .i64 (k:Int)
def sLen:Value→Nat | .slice _ n _=>n | _=>0
theorem infoI:∃ i,Tryz.prog.info? 3=some i∧i.zero=some (.int .i64 0)∧i.size=1∧i.bytes=8:=by
  have h:(Tryz.prog.info? 3).map (fun i=>(i.zero,i.size,i.bytes))=some (some (.int .i64 0),1,8):=by kernel_rfl
  cases hi:Tryz.prog.info? 3 with
  | none=>rw [hi] at h;cases h
  | some i =>
    rw [hi] at h
    simp only [Option.map_some,Option.some.injEq,Prod.mk.injEq] at h
    obtain ⟨e1,e2,e3⟩:=h
    exact ⟨i,rfl,e1,e2,e3⟩
theorem nm_one (k:Nat):∀ u ∈ [Value.int .i64 (k:Int)],u.oneCell'=true:=by
  intro u h
  obtain rfl:u=Value.int .i64 (k:Int):=by simpa using h
  rfl
theorem nums_of_row {w:World} {B n c:Nat} {q:Option Addr} {ops:List Nat} (h:w.ownsRow B 3 1 (.slice q n c) n (nmCells ops)):NumsAt w q ops:=by
  intro j hj
  have hl:=h.1
  rw [nmCells,List.length_map,Nat.mul_one] at hl
  rcases h.2 with ⟨_,h0⟩ | ⟨g,cap,cur,h0,_,hg,_,_,_,ht⟩
  · omega
  · simp only [Value.slice.injEq,true_and] at h0
    obtain ⟨rfl,rfl⟩:=h0
    refine ⟨g,cur,rfl,hg,?_⟩
    have:=congrArg (fun l=>l[j]?) ht
    simp only [List.getElem?_take,nmCells,List.getElem?_map,List.getElem?_eq_getElem hj,Option.map_some] at this
    rw [if_pos (by omega)] at this
    simpa using this
theorem cells_grown {X Y:World} {row:Option Nat} (hg:X.grownBy Y row) (hr:∀ r,row=some r→∃ o:Obj,X.heap[r]?=some o∧o.isCells=false) {k:Nat} {arr:Array Value} {T:TypeId} {fr:Nat × Nat} (h:X.heap[k]?=some (.cells arr T fr)):Y.heap[k]?=some (.cells arr T fr):=by
  refine (hg.block k (heap_lt h) (fun e=>?_)).trans h
  obtain ⟨o,ho,hc⟩:=hr k e.symm
  rw [h] at ho;cases ho;cases hc
theorem row_grown {X Y:World} {row:Option Nat} (hg:X.grownBy Y row) (hr:∀ r,row=some r→∃ o:Obj,X.heap[r]?=some o∧o.isCells=false) {B n size:Nat} {E:TypeId} {v:Value} {xs:List Value} (h:X.ownsRow B E size v n xs):Y.ownsRow B E size v n xs:=by
  refine ⟨h.1,?_⟩
  rcases h.2 with h0 | ⟨g,cap,cur,rfl,hb,hgg,rest⟩
  · exact .inl h0
  · exact .inr ⟨g,cap,cur,rfl,hb,cells_grown hg hr hgg,rest⟩
theorem PS.grown {ys:List It} {len bp bw i:Nat} {vp:Value} {X Y:World} {row:Option Nat} (h:PS ys len bp bw vp X i) (hg:X.grownBy Y row) (hr:∀ r,row=some r→∃ o:Obj,X.heap[r]?=some o∧o.isCells=false):PS ys len bp bw vp Y i:=by
  obtain ⟨⟨c,a1,a2⟩,⟨arr,b1,b2⟩,h3,h4⟩:=h
  exact ⟨⟨c,cells_grown hg hr a1,a2⟩,⟨arr,cells_grown hg hr b1,b2⟩,h3,h4⟩
structure UI (ys:List It) (len bp bw:Nat) (vp:Value) (l0:List Syn.Tm) (v:Value) (w w7:World) (b0 Bx j:Nat) (q:Option Addr) (pre:List (Nat × Nat)) (W:World):Prop where
  box:∃ q' c',W.heap[b0]?=some (.cells #[.slice q' (l0.length+pre.length) c'] 37 (0,0))∧TR W (.slice q' (l0.length+pre.length) c') (l0++pre.map unT)∧∀ k,Value.ownBlock (.slice q' (l0.length+pre.length) c')=some k→v.ownBlock=some k ∨ w.heap.size≤k
  ps:PS ys len bp bw vp W j
  chg:Chg (TS bp v) w W
  kp:KpB Bx q w7 W
theorem UI.own {ys:List It} {len bp bw:Nat} {vp:Value} {l0:List Syn.Tm} {v:Value} {w w7:World} {b0 Bx j:Nat} {q:Option Addr} {B:Nat} (hB:w.heap.size≤B) {f0:Value} (h7:w7.heap[Bx]?=some (.cells #[f0] 67 (0,0))) (hq:∀ a,q=some a→∃ cur,w7.heap[a.block]?=some (.cells cur 3 (0,0))) :
    OwnFrom B (UI ys len bp bw vp l0 v w w7 b0 Bx j q):=by
  intro pre X Y row h hg hr
  have hr2:=fun r e=>(hr r e).2
  obtain ⟨q',c',a1,a2,a3⟩:=h.box
  refine ⟨⟨q',c',cells_grown hg hr2 a1,row_grown hg hr2 a2,a3⟩,h.ps.grown hg hr2,h.chg.trans (grown_chg (S:=fun k=>row=some k) hg (fun k e=>.inl e)) (fun k e=>.inr (by have:=(hr k e).1;omega)),?_⟩
  refine ⟨?_,fun a ha=>?_⟩
  · rw [h7];exact cells_grown hg hr2 (h.kp.1.trans h7)
  · obtain ⟨cur,hc⟩:=hq a ha
    rw [hc];exact cells_grown hg hr2 ((h.kp.2 a ha).trans hc)
theorem kp_b {Bx:Nat} {q:Option Addr} {w:World} (h1:Bx<w.heap.size) (h2:∀ a,q=some a→a.block<w.heap.size) (W:World) (l:Nat) (o o':Obj) (hl:w.heap.size≤l) (_:W.heap[l]?=some o) (_:o.isCells=false) (_:o.isWalk=false):KpB Bx q W (W.putObj l o') :=
  ⟨World.putObj_heap_other (by omega),fun a ha=>World.putObj_heap_other (by have:=h2 a ha;omega)⟩
theorem kp_t {Bx:Nat} {q:Option Addr} {A B C:World} (h:KpB Bx q A B) (k:KpB Bx q B C):KpB Bx q A C:=⟨k.1.trans h.1,fun a ha=>(k.2 a ha).trans (h.2 a ha)⟩
theorem kp_back {Bx:Nat} {q:Option Addr} {A B C:World} (h:KpB Bx q A B) (k:KpB Bx q A C):KpB Bx q B C:=⟨k.1.trans h.1.symm,fun a ha=>(k.2 a ha).trans (h.2 a ha).symm⟩
theorem UI.round {ys:List It} {len bp bw:Nat} {vp:Value} {l0:List Syn.Tm} {v:Value} {w w7:World} {b0 Bx j:Nat} {q:Option Addr} {pre:List (Nat × Nat)} {W:World} (h:UI ys len bp bw vp l0 v w w7 b0 Bx j q pre W) (x:Nat × Nat) (hb0:w.heap.size≤b0)
    {f0:Value} (h7:w7.heap[Bx]?=some (.cells #[f0] 67 (0,0))) (hq:∀ a,q=some a→∃ cur,w7.heap[a.block]?=some (.cells cur 3 (0,0)))
    {q1:Option Addr} {c1:Nat} (hv1:W.heap[b0]?=some (.cells #[.slice q1 (l0.length+pre.length) c1] 37 (0,0))) (T:TypeId) {v':Value} {w9:World}
    (hown:w9.ownsRow 0 45 3 v' (l0.length+pre.length+1) (tmCells (l0++pre.map unT)++tmC (unT x))) (hg:(W.alloc (.cells (tmC (unT x)).toArray T)).grownBy w9 (Value.ownBlock (.slice q1 (l0.length+pre.length) c1))) (hat:v'.ownBlock=Value.ownBlock (.slice q1 (l0.length+pre.length) c1) ∨ v'.ownBlock=some (W.heap.size+1)) :
    w9.heap[b0]?=some (.cells #[.slice q1 (l0.length+pre.length) c1] 37 (0,0))∧UI ys len bp bw vp l0 v w w7 b0 Bx j q (pre++[x]) (w9.setCell ⟨b0,0,none⟩ v')∧KeepsOthers W (w9.setCell ⟨b0,0,none⟩ v')∧KpB Bx q W (w9.setCell ⟨b0,0,none⟩ v'):=by
  obtain ⟨q',c',a1,a2,a3⟩:=h.box
  have e1:=a1.symm.trans hv1
  simp only [Option.some.injEq,Obj.cells.injEq,Array.mk.injEq,List.cons.injEq,Value.slice.injEq,and_true,true_and] at e1
  obtain ⟨rfl,rfl⟩:=e1
  clear a1
  have hl:(l0++pre.map unT).length=l0.length+pre.length:=by rw [List.length_append,List.length_map]
  obtain ⟨t1,t2,t3,t4⟩:=tr_app (t:=unT x) h.ps a2 T (by rw [hl];exact hown) hg hat
  have hnb:∀ (k:Nat) (arr:Array Value) (E:TypeId),W.heap[k]?=some (.cells arr E (0,0))→E ≠ 45→Value.ownBlock (.slice q' (l0.length+pre.length) c') ≠ some k:=by
    intro k arr E hk hE e
    obtain ⟨cur,hc⟩:=own_type a2 e
    rw [hk] at hc
    simp only [Option.some.injEq,Obj.cells.injEq] at hc
    exact hE hc.2.1
  have hC:Chg (fun k=>Value.ownBlock (.slice q' (l0.length+pre.length) c')=some k) W w9:=((Chg.refl _ W).alloc _).then (grown_chg hg (fun k hk=>.inl hk))
  have hb9:=hC.heap hv1 (hnb _ _ _ hv1 (by decide))
  have hset:=heap_set hb9 0 v'
  have hx:=own_chg (w:=w9) (w':=w9.setCell ⟨b0,0,none⟩ v') t1 (S:=fun k=>k=b0) ((Chg.refl (fun k=>k=b0) w9).setCell (p:=⟨b0,0,none⟩) (.inl rfl) v') (fun k hk e=>by
    subst e
    obtain ⟨cur,hc⟩:=own_type t1 hk
    rw [hb9] at hc
    simp at hc)
  obtain ⟨qq,cc,hvv⟩:=own_shape hown
  have hK:∀ (k:Nat) (arr:Array Value) (E:TypeId),W.heap[k]?=some (.cells arr E (0,0))→E ≠ 45→E ≠ 37→(w9.setCell ⟨b0,0,none⟩ v').heap[k]?=W.heap[k]?:=by
    intro k arr E hk hE hE2
    have h9:=hC.heap hk (hnb k arr E hk hE)
    rw [heap_other h9 (fun e=>by subst e;rw [hb9] at h9;simp only [Option.some.injEq,Obj.cells.injEq] at h9;exact hE2 h9.2.1.symm),hk]
  have hkp:KpB Bx q w7 (w9.setCell ⟨b0,0,none⟩ v'):=by
    refine ⟨?_,fun a ha=>?_⟩
    · rw [hK Bx _ _ (h.kp.1.trans h7) (by decide) (by decide)];exact h.kp.1
    · obtain ⟨cur,hc⟩:=hq a ha
      rw [hK a.block _ _ ((h.kp.2 a ha).trans hc) (by decide) (by decide)];exact h.kp.2 a ha
  refine ⟨hb9,⟨⟨qq,cc,?_,?_,?_⟩,?_,?_,hkp⟩,?_,kp_back h.kp hkp⟩
  · rw [List.length_append,List.length_singleton,← Nat.add_assoc,← hvv];exact hset
  · rw [List.map_append,List.map_singleton,← List.append_assoc,List.length_append,List.length_singleton,← Nat.add_assoc,← hvv];exact hx
  · rw [List.length_append,List.length_singleton,← Nat.add_assoc,← hvv]
    intro k hk
    have hsz:=h.chg.size
    rcases t4 k hk with e | e
    · exact a3 k e
    · exact .inr (by omega)
  · exact t2.chg (S:=fun k=>k=b0) ((Chg.refl (fun k=>k=b0) w9).setCell (p:=⟨b0,0,none⟩) (.inl rfl) v') (fun e=>by
      obtain ⟨⟨c,p1,_⟩,_⟩:=t2
      rw [e,hb9] at p1;simp at p1) (fun e=>by
      obtain ⟨_,⟨arr,p1,_⟩,_⟩:=t2
      rw [e,hb9] at p1;simp at p1)
  · refine (h.chg.trans hC (fun k hk=>?_)).setCell (p:=⟨b0,0,none⟩) (.inr hb0) _
    rcases a3 k hk with e | e
    · exact .inl (.inr e)
    · exact .inr e
  · refine ((KeepsOthers.alloc W _).trans (KeepsOthers.of_grownBy hg fun j o e ho=>?_)).trans (KeepsOthers.setCell _ _ _)
    obtain ⟨cur,hc⟩:=own_type (a2.alloc (.cells (tmC (unT x)).toArray T)) e
    rw [hc] at ho;cases ho;rfl
end Go.Proofs.YtpcniebkabkikaaGreatDoor
namespace Go.Proofs.YtpcniebkabkikaaGreatDoor
open Go Go.RowKit Go.Proofs.Mm
attribute [local go_sem] Oper.semAt_some
theorem unOps_err {T:Nat→Option Syn.K}:∀ (f i:Nat) (c k:Nat),Syn.unOps T f i=.error (c,k)→c=99
  | 0,_,_,_,h=>by injection h with h;injection h with h _;exact h.symm
  | f+1,i,c,k,h=>by
    rw [Syn.unOps] at h
    split at h
    · cases h
    · cases hu:Syn.unOps T f (i+1) with
      | error q =>
        rw [hu] at h
        obtain ⟨c',k'⟩:=q
        injection h with h;injection h with h1 h2
        subst h1
        exact unOps_err f _ _ _ hu
      | ok q=>rw [hu] at h;cases h
theorem on_ok' {α β:Type} (x:α) (i:Nat) (f:α→Nat→Syn.R β):Syn.R.on (.ok (x,i)) f=f x i:=rfl
theorem backward_any (q:Option Addr) (n c:Nat) (w:World):Calls Tryz.prog 197 #[.slice q n c] w fun e w'=>e=.returned (.func (.func 229) #[] #[.pointer (some ⟨w.heap.size,0,none⟩)])∧w'=w.alloc (.cells #[.slice q n c] 67):=by
  go_enter Tryz.func197,Tryz.ntmps197
  go_wp2
  go_ret
  exact ⟨rfl,rfl⟩
section
variable {ys:List It} {len bp bw i:Nat} {vp:Value} {w:World}
def US (ys:List It) (len bp bw:Nat) (vp:Value) (i:Nat) (ops:List Nat) (m:Nat) (o:Int) (t:Bool) (W:World):Prop :=
  (t=true∧(∃ h:m<ops.length,o=(ops[m]:Nat))∧PS ys len bp bw vp W (i+(m+1))) ∨ (t=false∧m=ops.length∧o=0∧PS ys len bp bw vp W (i+m))
theorem us_any (hw:Ws ys) {ops:List Nat} (h0:Syn.opOf (Tk ys) Syn.unL (i+ops.length)=0) (hop:∀ n (h:n<ops.length),Syn.opOf (Tk ys) Syn.unL (i+n)=ops[n]∧ops[n] ≠ 0) {m:Nat} (hm:m≤ops.length) {W:World} (hp:PS ys len bp bw vp W (i+m)) :
    Calls Tryz.prog 195 #[.pointer (some ⟨bp,0,none⟩)] W fun e W'=>∃ o t,e=.returned (.tuple #[.int .i64 o,.bool t])∧Chg (fun k=>k=bp) W W'∧US ys len bp bw vp i ops m o t W':=by
  by_cases hlt:m<ops.length
  · obtain ⟨h1,h2⟩:=hop m hlt
    have hi:=lt_of_op (by rw [h1];exact h2)
    refine (unarySign_yes hw hp ops[m] h2 h1 hi).mono ?_
    rintro e W' ⟨rfl,hc,hp'⟩
    exact ⟨_,_,rfl,hc,.inl ⟨rfl,⟨hlt,rfl⟩,by rw [← Nat.add_assoc];exact hp'⟩⟩
  · obtain rfl:m=ops.length:=by omega
    refine (unarySign_no hw hp h0).mono ?_
    rintro e W' ⟨rfl,rfl⟩
    exact ⟨_,_,rfl,Chg.refl _ _,.inr ⟨rfl,rfl,rfl,hp⟩⟩
set_option maxRecDepth 100000 in
set_option maxHeartbeats 2000000 in
theorem unary_any (hw:Ws ys) {d:Nat} {e:Option (Nat→Syn.R (List Syn.Tm))} (he:EOk ys len bp bw vp d e):RdT ys len bp bw vp 160 (fun v=>#[.pointer (some ⟨bp,0,none⟩),v,.int .i64 (d:Int)]) (fun _=>True) (Syn.unary (Tk ys) (ys.length+1) e):=by
  intro w i v l0 _ h hr hb
  obtain ⟨qv,cv,rfl⟩:=own_shape hr
  have hle:=h.le
  have hfit:=Syn.unOps_fit (tk_nones ys) (ys.length+1) i h.le (by omega)
  rw [Syn.unary_atom]
  cases hu:Syn.unOps (Tk ys) (ys.length+1) i with
  | error q =>
    obtain ⟨c,k⟩:=q
    obtain rfl:=unOps_err _ _ _ _ hu
    exact (hfit.no99 hu).elim
  | ok q =>
    obtain ⟨ops,i1⟩:=q
    obtain ⟨rfl,h0,hop⟩:=unOps_spec _ _ _ _ hu
    have hi1:i+ops.length≤ys.length:=hfit.pos hu
    have hlen:ops.length≤65536:=by have:=h.few;omega
    rw [on_ok']
    have hpl:=plain_any (len:=len) (bp:=bp) (bw:=bw) (vp:=vp) hw he
    have HUS:=Lib.hid (fun m hm W hp=>us_any (len:=len) (bp:=bp) (bw:=bw) (vp:=vp) (W:=W) (m:=m) hw h0 hop hm hp)
    obtain ⟨i0,hi0,hz0,hz1,hz2⟩:=infoI
    obtain ⟨j0,hj0,hy0,hy1,hy2⟩:=infoTm
    obtain ⟨hlt,hlb⟩:=h.lt
    have hne:¬ w.heap.size=bp:=by omega
    clear hfit hu h0 hop
    have HPL:=Lib.hid hpl
    have HH:=Lib.hid h
    have HR:=Lib.hid hr
    clear hpl h hr
    refine (callsIn_wide (n:=3)).1 ?_
    refine callsIn_of_wp_marks Tryz.func160 rfl trivial ?_ rfl
    simp only [Tryz.ntmps160,List.size_toArray,List.length_cons,List.length_nil,Nat.reduceAdd,Nat.reduceSub,Array.replicate_succ,Array.replicate_zero,List.push_toArray,List.append_toArray,List.nil_append,List.cons_append]
    gi_wp2
    refine ⟨trivial,?_⟩
    gi_at_call 195
    refine (callsIn_wide.2 (HUS.out 0 (Nat.zero_le _) _ (HH.out.alloc _))).mono ?_
    rintro e1 w1 ⟨o1,t1,rfl,hc1,hus1⟩
    have hC1:Chg (fun k=>k=bp) w w1:=((Chg.refl _ w).alloc _).then hc1
    have hbx1:=hc1.heap (World.alloc_heap_new w (.cells #[.slice qv l0.length cv] 37)) hne
    have HUS1:=Lib.hid hus1
    clear hus1 hc1
    gi_wp2
    gi_loopw [7,8,9] (fun a b c wr=>∃ m q' c' o t,m≤ops.length∧a=.slice q' m c'∧b=.int .i64 o∧c=.bool t∧Hid (wr.ownsRow (w.heap.size+1) 3 1 (.slice q' m c') m (nmCells (ops.take m)))∧Hid (US ys len bp bw vp i ops m o t wr)∧Chg (fun k=>k=bp) w wr∧wr.heap[w.heap.size]?=some (.cells #[.slice qv l0.length cv] 37 (0,0)))
      (fun a _ _ _=>ops.length+1 - sLen a)
    case atStart =>
      exact ⟨0,none,0,o1,t1,Nat.zero_le _,rfl,rfl,rfl,Lib.hid (World.ownsRow_nil _ _ _ _),HUS1,hC1,hbx1⟩
    case round =>
      obtain ⟨m,q',c',o,t,hm,rfl,rfl,rfl,hrow,hus,hC,hbx⟩:=hrel
      clear hC1 hbx1
      rcases hus.out with ⟨rfl,⟨hml,rfl⟩,hp⟩ | ⟨rfl,rfl,rfl,hp⟩
      · have hrow':=hrow.out
        have hsz:=hC.size
        gi_wp2_with (gi_at_builtin;refine wpListIn_append_own_at _ rfl _ _ 67 rfl (w.heap.size+1) 3 i0 _ 1 8 Tryz.underlying67 hi0 hz0 hz1 hz2 rfl (by decide) _ _ _ rfl (hrow'.alloc _) ⟨wr.heap.size,0,none⟩ 1 1 [.int .i64 (ops[m]:Nat)] rfl rfl (row_new wr [_] 3) (nm_one _) (by unfold maxLen;omega) (by omega) (by have:=heap_lt hbx;simp;omega) ?_)
        intro v' w9 hown9 hgrow9 _ hat9
        obtain ⟨q2,c2,rfl⟩:=own_shape hown9
        have hS9:Chg (fun k=>w.heap.size+1≤k) wr w9:=((Chg.refl _ wr).alloc _).then (grown_chg hgrow9 (fun k hk=>.inl (hrow'.lt k hk).1))
        have hC9:Chg (fun k=>k=bp) w w9:=hC.trans hS9 (fun k hk=>.inr (by omega))
        have hbx9:=hS9.heap hbx (by omega)
        have hp9:=hp.chg hS9 (by omega) (by omega)
        have hrow9:w9.ownsRow (w.heap.size+1) 3 1 (.slice q2 (m+1) c2) (m+1) (nmCells (ops.take (m+1))):=by
          rw [List.take_succ_eq_append_getElem hml]
          unfold nmCells at hown9 ⊢
          rw [List.map_append]
          exact hown9
        have HROW:=Lib.hid hrow9
        clear hown9 hgrow9 hat9 hrow' hrow hS9 hbx hp hus hrow9
        gi_wp2
        refine ⟨trivial,?_⟩
        gi_at_call 195
        refine (callsIn_wide.2 (HUS.out (m+1) hml _ hp9)).mono ?_
        rintro e2 w2 ⟨o2,t2,rfl,hc2,hus2⟩
        have HROW2:=Lib.hid (own_chg HROW.out hc2 (fun k hk e=>by have:=(HROW.out.lt k hk).1;omega))
        have HUS2:=Lib.hid hus2
        have hbx2:=hc2.heap hbx9 hne
        have hC2:=hC9.then hc2
        clear hus2 hc2 hp9 hbx9 hC9 HROW
        gi_wp2
        exact ⟨⟨m+1,q2,c2,o2,t2,hml,rfl,rfl,rfl,HROW2,HUS2,hC2,hbx2⟩,by simp [sLen];omega⟩
      · have htr:=tr_next HH.out HR.out hC
        have hcall:=HPL.out wr (i+ops.length) _ l0 trivial hp htr (by omega)
        have hszr:=hC.size
        have hcell:=cell_of (j:=0) hbx rfl
        clear hus hm
        gi_wp2
        refine ⟨trivial,?_⟩
        gi_at_call 196
        refine (callsIn_wide.2 hcall).mono ?_
        rintro e2 w2 ⟨hc2,hq⟩
        have hC2:=Lib.hid ((ts_le (v:=.slice qv l0.length cv) hC).then hc2)
        have hb0r:¬ TS bp (.slice qv l0.length cv) w.heap.size:=by
          rintro (e3 | e3)
          · exact hne e3
          · obtain ⟨cur,h3⟩:=own_type htr e3
            rw [hbx] at h3;simp at h3
        have hbx2:=hc2.heap hbx hb0r
        have hrow2:=own_chg hrow.out hc2 (fun k hk e3=>by
          obtain ⟨cur,h3⟩:=own_type hrow.out hk
          rcases e3 with rfl | e3
          · have:=(hrow.out.lt _ hk).1;omega
          · obtain ⟨cur',h4⟩:=own_type htr e3
            rw [h3] at h4;simp at h4)
        have HROW2:=Lib.hid hrow2
        have hsz2:=hc2.size
        cases hat:Syn.atom (Tk ys) e (i+ops.length) with
        | error q =>
          obtain ⟨er,k⟩:=q
          rw [hat] at hq
          obtain rfl:=hq
          refine ⟨hC2.out,?_⟩
          rw [hat]
          exact rfl
        | ok q =>
          obtain ⟨l,j⟩:=q
          rw [hat] at hq
          obtain ⟨v2,rfl,htr2,hp2,hob2⟩:=hq
          obtain ⟨L,hL⟩:∃ L,l0++l=L:=⟨_,rfl⟩
          rw [hL] at htr2
          obtain ⟨q3,c3,rfl⟩:=own_shape htr2
          have hj:=((Syn.atom_fit (tk_nones ys) he.fit hi1).pos hat)
          have hcn:=Syn.atom_cnt he.cnt _ _ _ hat
          have hLn:L.length+ops.length≤131072:=by rw [← hL,List.length_append];omega
          have HL:=Lib.hid hL
          clear hL
          have HAT:=Lib.hid hat
          have HTR2:=Lib.hid htr2
          have hc2b:=cell_of (j:=0) hbx2 rfl
          have hf2b:=free_of (j:=0) hbx2
          have HP2:=Lib.hid hp2
          have HOB2:=Lib.hid hob2
          have HBX2:=Lib.hid hbx2
          clear hat htr2 hp2 hob2 hbx2 hc2 hrow2 hrow hbx hp htr hcell hC
          gi_wp2
          refine ⟨trivial,?_⟩
          gi_at_call 197
          refine (callsIn_wide.2 (backward_any _ _ _ _)).mono ?_
          rintro e3 w3 ⟨rfl,rfl⟩
          gi_wp2_with fail
          have hCs:Chg (fun k=>k=w.heap.size) w2 (w2.setCell ⟨w.heap.size,0,none⟩ (.slice q3 L.length c3)):=(Chg.refl (fun k=>k=w.heap.size) w2).setCell (p:=⟨w.heap.size,0,none⟩) (.inl rfl) _
          have hrow7:=(own_chg (HROW2.out) hCs (fun k hk e3=>by have:=(HROW2.out.lt k hk).1;omega)).alloc (.cells #[.slice q' ops.length c'] 67)
          have htr7:=(own_chg HTR2.out hCs (fun k hk e3=>by
            obtain ⟨cur,h3⟩:=own_type HTR2.out hk
            rw [e3,HBX2.out] at h3;simp at h3)).alloc (.cells #[.slice q' ops.length c'] 67)
          have hps7:=(HP2.out.chg hCs (fun e3=>by omega) (fun e3=>by omega)).alloc (.cells #[.slice q' ops.length c'] 67)
          have hbx7:=heap_new _ (.cells #[.slice q' ops.length c'] 67) (heap_set HBX2.out 0 (.slice q3 L.length c3))
          have hC7:=((hC2.out).trans hCs (fun k hk=>.inr (by omega))).alloc (.cells #[.slice q' ops.length c'] 67)
          have hBx7:=World.alloc_heap_new (w2.setCell ⟨w.heap.size,0,none⟩ (.slice q3 L.length c3)) (.cells #[.slice q' ops.length c'] 67)
          rw [show (w2.setCell ⟨w.heap.size,0,none⟩ (.slice q3 L.length c3)).heap.size=w2.heap.size from by simp [World.setCell]] at hBx7
          have hbl:w.heap.size<w2.heap.size:=heap_lt HBX2.out
          have hsz7:w2.heap.size<((w2.setCell ⟨w.heap.size,0,none⟩ (.slice q3 L.length c3)).alloc (.cells #[.slice q' ops.length c'] 67)).heap.size:=heap_lt hBx7
          generalize ((w2.setCell ⟨w.heap.size,0,none⟩ (.slice q3 L.length c3)).alloc (.cells #[.slice q' ops.length c'] 67))=w7 at *
          rw [List.take_length] at hrow7
          have hN7:=nums_of_row hrow7
          have hq7:∀ a,q'=some a→∃ cur,w7.heap[a.block]?=some (.cells cur 3 (0,0)):=fun a ha=>own_type hrow7 (by rw [ha];rfl)
          have hui:UI ys len bp bw vp L (.slice qv l0.length cv) w w7 w.heap.size w2.heap.size j q' [] w7:=by
            refine ⟨⟨q3,c3,hbx7,?_,fun k hk=>?_⟩,hps7,hC7,rfl,fun _ _=>rfl⟩
            · rw [List.map_nil,List.append_nil];exact htr7
            · rcases HOB2.out k hk with e3 | e3
              · exact .inl e3
              · exact .inr (by omega)
          have hown:=UI.own (ys:=ys) (len:=len) (bp:=bp) (bw:=bw) (vp:=vp) (l0:=L) (v:=.slice qv l0.length cv) (w:=w) (w7:=w7) (b0:=w.heap.size) (Bx:=w2.heap.size) (j:=j) (q:=q') (B:=w7.heap.size) (by omega) hBx7 hq7
          have hqlt:∀ a,q'=some a→a.block<w7.heap.size:=fun a ha=>by obtain ⟨cur,hc⟩:=hq7 a ha;exact heap_lt hc
          have HOWN:=Lib.hid hown
          have HQ7:=Lib.hid hq7
          have HBX7:=Lib.hid hBx7
          clear hown hCs hrow7 htr7 hps7 hbx7 hC7
          refine wpIn_rangeFunc_ownF rfl (by omega) (gf:=229) (lb:=#[.pointer (some ⟨w2.heap.size,0,none⟩)]) rfl trivial (enters_of Tryz.func229 (by kernel_rfl) rfl)
            (back_stops (3 - 1) w2.heap.size q' c' ops (by omega) w7 hBx7 hN7) (fun h k=>kp_t h k) (kp_b hsz7 hqlt) (Below.refl _ _) (fun _=>rfl)
            (UI ys len bp bw vp L (.slice qv l0.length cv) w w7 w.heap.size w2.heap.size j q') (fun _ _ _=>False) HOWN.out (fun _ _ _ _ _ hs _ _=>hs) hui
            (fun x=>{ tmps:=#[.pointer (some ⟨bp,0,none⟩),.slice qv l0.length cv,.int .i64 (d:Int),undef,.pointer (some ⟨w.heap.size,0,none⟩),undef,.slice none 0 0,.slice q' ops.length c',.int .i64 0,.bool false,undef,.int .i64 (x.2:Int),.tuple #[.int .i64 o1,.bool t1],.pointer (some ⟨bp,0,none⟩),.tuple #[.int .i64 o1,.bool t1],.int .i64 o1,.bool t1,.bool false,u18,u19,u20,u21,u22,u23,u24,u25,u26,.pointer (some ⟨bp,0,none⟩),.slice qv l0.length cv,.int .i64 (d:Int),.slice q3 L.length c3,.slice q' ops.length c',.func (.func 229) #[] #[.pointer (some ⟨w2.heap.size,0,none⟩)],.int .i64 (x.1:Int),.int .i64 (x.2:Int),undef,undef,undef,undef,undef,undef],defers:=[] }) ?assign ?body ?done ?stop
          case assign =>
            intro l x W K hK
            gi_wp2
            exact hK
          case body =>
            rintro l pre x W hI hlt2
            obtain ⟨q1,c1,a1,a2,a3⟩:=hI.box
            have hR:=Lib.hid (fun v' w9=>hI.round x (Nat.le_refl _) HBX7.out HQ7.out a1 45 (v':=v') (w9:=w9))
            have a2':W.ownsRow 0 45 3 (.slice q1 (L.length+pre.length) c1) (L.length+pre.length) (tmCells (L++pre.map unT)):=by
              unfold TR at a2
              rwa [List.length_append,List.length_map] at a2
            have hnew:=tm_new W (unT x) 45
            have hone:=tm_one (unT x)
            rw [show tmC (unT x)=[.int .i64 4,.int .i64 (x.2:Int),.string ⟨#[]⟩] from rfl] at hnew hone
            have hcell:=cell_of (j:=0) a1 rfl
            have hpre:pre.length<ops.length:=hlt2
            clear a1 a2 a3 hI hui hN7 hq7 hBx7
            gi_wp2_with (gi_at_builtin;refine wpListIn_append_own_at _ rfl _ _ 37 rfl 0 45 j0 _ 3 32 Tryz.underlying37 hj0 hy0 hy1 hy2 rfl (by decide) _ _ _ rfl (a2'.alloc _) ⟨W.heap.size,0,none⟩ 1 1 [.int .i64 4,.int .i64 (x.2:Int),.string ⟨#[]⟩] rfl rfl hnew hone (by unfold maxLen;omega) (by omega) (Nat.zero_le _) ?_)
            intro v' w9 hown9 hgrow9 _ hat9
            obtain ⟨b1,b2,b3,b4⟩:=hR.out v' w9 hown9 hgrow9 hat9
            obtain ⟨qq,cc,rfl⟩:=own_shape hown9
            have hc9:=cell_of (j:=0) b1 rfl
            have hf9:=free_of (j:=0) b1
            have B2:=Lib.hid b2
            clear hown9 hgrow9 hat9 b1 b2 hcell a2' hnew hone
            gi_wp2
            exact ⟨b3,b4,B2.out⟩
          case done =>
            rintro D xs W hD hS hI hK
            obtain ⟨q1,c1,a1,a2,a3⟩:=hI.box
            have hcell:=cell_of (j:=0) a1 rfl
            have hI2:=Lib.hid (HOWN.out.putObj (.deferred none) hI hD hK rfl)
            have HS:=Lib.hid hS
            have hb0D:=cells_grown (grownBy_putObj' W D (.deferred none)) (fun r e=>by cases e;exact ⟨_,hK,rfl⟩) a1
            have HB0D:=Lib.hid hb0D
            clear a1 a2 a3 hI hui hN7 hq7 hBx7 hS hb0D
            gi_wp2
            refine ⟨by simp,.inl ⟨_,_,rfl,run_takeDeferred hK,?_⟩⟩
            obtain ⟨q2,c2,d1,d2,d3⟩:=hI2.out.box
            have e0:=HB0D.out.symm.trans d1
            simp only [Option.some.injEq,Obj.cells.injEq,Array.mk.injEq,List.cons.injEq,Value.slice.injEq,and_true,true_and] at e0
            obtain ⟨rfl,rfl⟩:=e0
            refine ⟨_,results_tmp rfl _ _ _,?_⟩
            rw [HAT.out]
            refine ⟨hI2.out.chg,_,rfl,?_,hI2.out.ps,?_⟩
            · have e1:(l0++(l++List.map (fun o=>(⟨4,o,[]⟩:Syn.Tm)) ops.reverse))=L++xs.map unT:=by
                rw [← HL.out,← HS.out,List.map_map,List.append_assoc];rfl
              rw [e1]
              exact d2
            · exact d3
          case stop =>
            rintro D cc pre W _ _ h _
            exact h.elim
end
end Go.Proofs.YtpcniebkabkikaaGreatDoor
namespace Go.Proofs.YtpcniebkabkikaaGreatDoor
open Go Go.RowKit Go.Proofs.Mm
def BX (b1 b2 bp d:Nat) (W:World):Prop:=W.heap[b1]?=some (.cells #[.pointer (some ⟨bp,0,none⟩)] 95 (0,0))∧W.heap[b2]?=some (.cells #[.int .i64 (d:Int)] 3 (0,0))
section
variable {ys:List It} {len bp bw i:Nat} {vp:Value} {w:World}
theorem ts_not (h:PS ys len bp bw vp w i) {v:Value} {l:List Syn.Tm} (hr:TR w v l) {k:Nat} {arr:Array Value} {E:TypeId} (hk:w.heap[k]?=some (.cells arr E (0,0))) (h1:E ≠ 153) (h2:E ≠ 45):¬ TS bp v k:=by
  rintro (e | e)
  · subst e
    obtain ⟨⟨c,a1,_⟩,_⟩:=h
    rw [hk] at a1
    simp only [Option.some.injEq,Obj.cells.injEq] at a1
    exact h1 a1.2.1
  · obtain ⟨cur,hc⟩:=own_type hr e
    rw [hk] at hc
    simp only [Option.some.injEq,Obj.cells.injEq] at hc
    exact h2 hc.2.1
theorem BX.chg {b1 b2 d:Nat} (hx:BX b1 b2 bp d w) (h:PS ys len bp bw vp w i) {v:Value} {l:List Syn.Tm} (hr:TR w v l) {w':World} (hc:Chg (TS bp v) w w'):BX b1 b2 bp d w' :=
  ⟨hc.heap hx.1 (ts_not h hr hx.1 (by decide) (by decide)),hc.heap hx.2 (ts_not h hr hx.2 (by decide) (by decide))⟩
set_option maxRecDepth 100000 in
theorem within1_any {b1 b2 d:Nat} {r:Nat→Syn.R (List Syn.Tm)} (hR:RdT ys len bp bw vp 160 (fun v=>#[.pointer (some ⟨bp,0,none⟩),v,.int .i64 (d:Int)]) (fun _=>True) r) :
    RdT ys len bp bw vp 159 (fun v=>#[v,.pointer (some ⟨b1,0,none⟩),.pointer (some ⟨b2,0,none⟩)]) (BX b1 b2 bp d) r:=by
  intro w i v l0 hx h hr hb
  obtain ⟨qv,cv,rfl⟩:=own_shape hr
  have hcall:=hR w i _ l0 trivial h hr hb
  have hc1:=cell_of (j:=0) hx.1 rfl
  have hc2:=cell_of (j:=0) hx.2 rfl
  clear hR
  cases hri:r i with
  | error q =>
    rw [hri] at hcall
    have HRI:=Lib.hid hri
    clear hri
    go_enter Tryz.func159,Tryz.ntmps159
    go_wp2_with (go_at_call 160;refine hcall.mono ?_;rintro e w1 ⟨hc,rfl⟩)
    exact ⟨rfl,hc,rfl⟩
  | ok q =>
    rw [hri] at hcall
    have HRI:=Lib.hid hri
    clear hri
    go_enter Tryz.func159,Tryz.ntmps159
    go_wp2_with (go_at_call 160;refine hcall.mono ?_;rintro e w1 ⟨hc,v',rfl,a1,a2,a3⟩)
    go_ret
    exact ⟨hc,v',rfl,a1,a2,a3⟩
set_option maxRecDepth 100000 in
theorem level_six {b1 b2 d:Nat} {r:Nat→Syn.R (List Syn.Tm)} (hR:RdT ys len bp bw vp 159 (fun v=>#[v,.pointer (some ⟨b1,0,none⟩),.pointer (some ⟨b2,0,none⟩)]) (BX b1 b2 bp d) r) :
    RdT ys len bp bw vp 158 (fun v=>#[.pointer (some ⟨bp,0,none⟩),.int .i64 6,v,.func (.func 159) #[] #[.pointer (some ⟨b1,0,none⟩),.pointer (some ⟨b2,0,none⟩)]]) (BX b1 b2 bp d) r:=by
  intro w i v l0 hx h hr hb
  obtain ⟨qv,cv,rfl⟩:=own_shape hr
  have hcall:=hR w i _ l0 hx h hr hb
  clear hR
  cases hri:r i with
  | error q =>
    rw [hri] at hcall
    have HRI:=Lib.hid hri
    clear hri
    go_enter Tryz.func158,Tryz.ntmps158
    go_wp2_with (go_at_call 159;refine hcall.mono ?_;rintro e w1 ⟨hc,rfl⟩)
    exact ⟨rfl,hc,rfl⟩
  | ok q =>
    rw [hri] at hcall
    have HRI:=Lib.hid hri
    clear hri
    go_enter Tryz.func158,Tryz.ntmps158
    go_wp2_with (go_at_call 159;refine hcall.mono ?_;rintro e w1 ⟨hc,v',rfl,a1,a2,a3⟩)
    go_ret
    exact ⟨hc,v',rfl,a1,a2,a3⟩
def Ob (v:Value) (w:World) (v':Value):Prop:=∀ k,v'.ownBlock=some k→v.ownBlock=some k ∨ w.heap.size≤k
theorem Ob.ts {v v':Value} {w:World} (h:Ob v w v') {bp:Nat}:∀ k,TS bp v' k→TS bp v k ∨ w.heap.size≤k:=by
  rintro k (e | e)
  · exact .inl (.inl e)
  · rcases h k e with q | q
    · exact .inl (.inr q)
    · exact .inr q
theorem Ob.trans {v v' v'':Value} {w w':World} (h:Ob v w v') (h':Ob v' w' v'') (hw:w.heap.size≤w'.heap.size):Ob v w v'':=fun k hk=>by
  rcases h' k hk with q | q
  · exact h k q
  · exact .inr (by omega)
set_option maxRecDepth 100000 in
set_option maxHeartbeats 2000000 in
theorem level_next (hw:Ws ys) {b1 b2 d:Nat} {p:Nat→Syn.R (List Syn.Tm)} (hcnt:Syn.Cnt p) (hfit:Syn.FitP ys.length p) (l:Nat) (hl:l≤5)
    (hR:RdT ys len bp bw vp 158 (fun v=>#[.pointer (some ⟨bp,0,none⟩),.int .i64 ((l:Int)+1),v,.func (.func 159) #[] #[.pointer (some ⟨b1,0,none⟩),.pointer (some ⟨b2,0,none⟩)]]) (BX b1 b2 bp d) p) :
    RdT ys len bp bw vp 158 (fun v=>#[.pointer (some ⟨bp,0,none⟩),.int .i64 (l:Int),v,.func (.func 159) #[] #[.pointer (some ⟨b1,0,none⟩),.pointer (some ⟨b2,0,none⟩)]]) (BX b1 b2 bp d)
      (fun i=>(p i).on fun l1 j=>Syn.loopF (Tk ys) p (Syn.marks l) (ys.length+1) l1 j):=by
  intro w i v l0 hx h hr hb
  obtain ⟨qv,cv,rfl⟩:=own_shape hr
  have hcall:=hR w i _ l0 hx h hr hb
  have hle:=h.le
  have HX:=Lib.hid hx
  have HH:=Lib.hid h
  have HTR:=Lib.hid hr
  have HR:=Lib.hid hR
  obtain ⟨j0,hj0,hy0,hy1,hy2⟩:=infoTm
  show Calls _ _ _ _ (Ret ys len _ w ((p i).on _) _)
  cases hri:p i with
  | error q =>
    rw [hri] at hcall
    have HRI:=Lib.hid hri
    clear hri hR hx h hr
    go_enter Tryz.func158,Tryz.ntmps158
    go_wp2_with (go_at_call 158;refine hcall.mono ?_;rintro e w1 ⟨hc,rfl⟩)
    exact ⟨rfl,hc,rfl⟩
  | ok q =>
    obtain ⟨l1,i1⟩:=q
    rw [hri] at hcall
    rw [on_ok']
    have hi1:i1≤ys.length:=(hfit i hle).1.pos hri
    have hc1:=hcnt _ _ _ hri
    have hlf:=Syn.loop_fit (tk_nones ys) hfit (Syn.marks l) (ys.length+1) l1 i1 hi1 (by omega)
    obtain ⟨RR,hRR⟩:∃ RR,Syn.loopF (Tk ys) p (Syn.marks l) (ys.length+1) l1 i1=RR:=⟨_,rfl⟩
    rw [hRR] at hlf ⊢
    have HRR:=Lib.hid hRR
    have HLF:=Lib.hid hlf
    clear hri hR hx h hr hRR hlf
    go_enter Tryz.func158,Tryz.ntmps158
    go_wp2_with (go_at_call 158;refine hcall.mono ?_;rintro e w1 ⟨hc,v1,rfl,a1,a2,a3⟩)
    obtain ⟨L1,hL1⟩:∃ L,l0++l1=L:=⟨_,rfl⟩
    rw [hL1] at a1
    obtain ⟨q1,c1,rfl⟩:=own_shape a1
    have hb1:L1.length+(ys.length - i1)≤131072:=by rw [← hL1,List.length_append];omega
    have HL1:=Lib.hid hL1
    have A1:=Lib.hid a1
    have A3:=Lib.hid (show Ob (.slice qv l0.length cv) w (.slice q1 L1.length c1) from a3)
    clear hL1 hcall a1 a3
    go_loopw [2] (fun a wr=>∃ f l2 L i2 q c,i2≤ys.length∧L.length+(ys.length - i2)≤131072∧Hid (L=l0++l2)∧Hid (Syn.loopF (Tk ys) p (Syn.marks l) f l2 i2=RR)∧a=.slice q L.length c∧Hid (TR wr (.slice q L.length c) L)∧PS ys len bp bw vp wr i2∧Chg (TS bp (.slice qv l0.length cv)) w wr∧Hid (Ob (.slice qv l0.length cv) w (.slice q L.length c)))
      (fun a _=>140000 - sLen a)
    case atStart=>exact ⟨ys.length+1,l1,L1,i1,q1,c1,hi1,hb1,Lib.hid HL1.out.symm,HRR,rfl,A1,a2,hc,A3⟩
    case round =>
      obtain ⟨f,l2,L,i2,q2,c2,hi2,hb2,HL,HF,rfl,HT,hp2,hC2,HO⟩:=hrel
      clear hc a2 hb1 hi1 hc1
      cases f with
      | zero=>exact (HLF.out.no99 (j:=i2) (by rw [← HF.out];rfl)).elim
      | succ f =>
        obtain ⟨n,hn,hcase⟩:=bysign2 (tk ys len i2).t
        have hbs:=bysign_ops _ _ _ hn wr
        have hop:=opOf_text hw len i2 (mk_marks l)
        obtain ⟨cc,h0,hfz,hcc,hcc2,r1,r2,r3,r4⟩:=hp2.raw
        have hm:0<ys.length+1 - i2:=by omega
        have HP2:=Lib.hid hp2
        clear hfz hcc hcc2 r1 r3 r4 hn
        have hend:Syn.opOf (Tk ys) (Syn.marks l) i2=0→RR=.ok (l2,i2):=fun e=>by
          rw [← HF.out,Syn.loopF,if_pos e]
        rcases hcase with ⟨rfl,hz⟩ | ⟨hn1,hn2,hz⟩
        · have HRe:=Lib.hid (hend (by rw [hop,hz l]))
          rw [show bsV 18=.tuple #[.int .i64 0,.bool false] from rfl] at hbs
          clear hz hop hend hp2
          generalize ys.length+1 - i2=m at *
          generalize 4 * i2=o at *
          go_wp2_with (go_at_call 193;refine hbs.mono ?_;rintro e w' ⟨rfl,rfl⟩)
          go_ret
          rw [HRe.out]
          exact ⟨hC2,_,rfl,by rw [← HL.out];exact HT.out,HP2.out,HO.out⟩
        · have hlv:=levelOf_any n hn1 hn2
          rw [show bsV n=.tuple #[.int .i64 (n:Nat),.bool true] from if_neg (by omega)] at hbs
          have hz':=hz l hl
          clear hz
          by_cases hll:Syn.lvlOf n=l
          · rw [if_pos hll] at hz'
            have hopn:Syn.opOf (Tk ys) (Syn.marks l) i2=n:=by rw [hop,hz']
            have hlt:i2<ys.length:=lt_of_op (by rw [hopn];omega)
            have hne:(((Syn.lvlOf n:Nat):Int) != (l:Int))=false:=by rw [hll];simp
            have hgo:(p (i2+1)).on (fun r j=>Syn.loopF (Tk ys) p (Syn.marks l) f (l2++r++[⟨5,n,[]⟩]) j)=RR:=by
              rw [← HF.out,Syn.loopF,if_neg (by rw [hopn];omega),hopn]
            have hTk:=Lib.hid (take_ps hp2 hlt)
            have HGO:=Lib.hid hgo
            have HZ:w.heap.size≤wr.heap.size:=hC2.size
            have HTN:=Lib.hid (fun w3 (hc3:Chg (fun k=>k=bp) wr w3) (hp3:PS ys len bp bw vp w3 (i2+1)) =>
              HR.out w3 (i2+1) _ L (HX.out.chg HH.out HTR.out (hC2.then (ts_le hc3))) hp3 (tr_next HP2.out HT.out hc3) (by omega))
            clear hz' hop hend hp2 hgo hopn
            generalize ys.length+1 - i2=m at *
            generalize 4 * i2=o at *
            go_wp2_with (first | (go_at_call 193;refine hbs.mono ?_;rintro e w' ⟨rfl,rfl⟩) | (go_at_call 194;refine (hlv _).mono ?_;rintro e w' ⟨rfl,rfl⟩))
            go_at_call 146
            refine hTk.out.mono ?_
            rintro e w3 ⟨rfl,hc3,hp3⟩
            have hcall3:=HTN.out w3 hc3 hp3
            have hsz3:=hc3.size
            have HC3:=Lib.hid (hC2.then (ts_le (v:=.slice qv l0.length cv) hc3))
            clear hc3 HTN
            cases hri3:p (i2+1) with
            | error q =>
              obtain ⟨er,k⟩:=q
              rw [hri3] at hcall3
              have HRe:=Lib.hid (show RR=.error (er,k) from by rw [← HGO.out,hri3];rfl)
              clear hri3
              go_wp2_with (go_at_call 158;refine hcall3.mono ?_;rintro e w4 ⟨hc4,rfl⟩)
              refine ⟨rfl,?_⟩
              rw [HRe.out]
              exact ⟨HC3.out.trans hc4 (fun k e=>by rcases HO.out.ts k e with q | q <;> first | exact .inl q | exact .inr q),rfl⟩
            | ok q =>
              obtain ⟨r,j⟩:=q
              rw [hri3] at hcall3
              have hj:j≤ys.length:=(hfit (i2+1) hlt).1.pos hri3
              have hcr:=hcnt _ _ _ hri3
              have HRe:=Lib.hid (show Syn.loopF (Tk ys) p (Syn.marks l) f (l2++r++[⟨5,n,[]⟩]) j=RR from by rw [← HGO.out,hri3];rfl)
              clear hri3
              go_wp2_with fail
              go_at_call 158
              refine hcall3.mono ?_
              rintro e w4 ⟨hc4,v4,rfl,e1,e2,e3⟩
              obtain ⟨L4,hL4⟩:∃ L4,L++r=L4:=⟨_,rfl⟩
              rw [hL4] at e1
              obtain ⟨q4,c4,rfl⟩:=own_shape e1
              have hb4:L4.length+1+(ys.length - j)≤131072:=by rw [← hL4,List.length_append];omega
              have hlen4:L.length+1≤L4.length+1:=by rw [← hL4,List.length_append];omega
              have HL5:=Lib.hid (show L4++[⟨5,n,[]⟩]=l0++(l2++r++[⟨5,n,[]⟩]) from by rw [← hL4,HL.out];simp [List.append_assoc])
              clear hL4
              have hnew:=tm_new w4 ⟨5,n,[]⟩ 45
              have hone:=tm_one ⟨5,n,[]⟩
              rw [show tmC ⟨5,n,[]⟩=[.int .i64 5,.int .i64 (n:Nat),.string ⟨#[]⟩] from rfl] at hnew hone
              have happ:=Lib.hid (fun v' w9=>tr_app (t:=⟨5,n,[]⟩) (v':=v') (w9:=w9) e2 e1 45)
              have hsz4:=hc4.size
              have HO4:=Lib.hid (show Ob (.slice qv l0.length cv) w (.slice q4 L4.length c4) from HO.out.trans (show Ob (.slice q2 L.length c2) w3 (.slice q4 L4.length c4) from e3) (by omega))
              have HC4:=Lib.hid (show Chg (TS bp (.slice qv l0.length cv)) w w4 from HC3.out.trans hc4 (fun k e=>by rcases HO.out.ts k e with q | q <;> first | exact .inl q | exact .inr q))
              clear e2 e3 hc4
              go_wp2_with (at_builtin;refine wpList_append_own_at _ rfl _ _ 37 rfl 0 45 j0 _ 3 32 Tryz.underlying37 hj0 hy0 hy1 hy2 rfl (by decide) _ _ _ rfl (e1.alloc _) ⟨w4.heap.size,0,none⟩ 1 1 [.int .i64 5,.int .i64 (n:Nat),.string ⟨#[]⟩] rfl rfl hnew hone (by unfold maxLen;omega) (by omega) (Nat.zero_le _) ?_)
              intro v' w9 hown9 hgrow9 _ hat9
              obtain ⟨g1,g2,g3,g4⟩:=happ.out v' w9 hown9 hgrow9 hat9
              obtain ⟨q9,c9,rfl⟩:=own_shape hown9
              have HO9:=Lib.hid (show Ob (.slice qv l0.length cv) w (.slice q9 (L4.length+1) c9) from HO4.out.trans (show Ob (.slice q4 L4.length c4) w4 (.slice q9 (L4.length+1) c9) from g4) (by omega))
              have HC9:=Lib.hid (show Chg (TS bp (.slice qv l0.length cv)) w w9 from HC4.out.trans g3 (fun k e=>by rcases HO4.out.ts k e with q | q <;> first | exact .inl q | exact .inr q))
              have G1:=Lib.hid g1
              clear hown9 hgrow9 hat9 g3 g4 e1 hnew hone g1
              go_wp2
              refine ⟨⟨f,l2++r++[⟨5,n,[]⟩],L4++[⟨5,n,[]⟩],j,q9,c9,hj,?_,HL5,HRe,?_,?_,g2,HC9.out,?_⟩,?_⟩
              · rw [List.length_append,List.length_singleton];exact hb4
              · rw [List.length_append,List.length_singleton]
              · rw [List.length_append,List.length_singleton];exact G1
              · rw [List.length_append,List.length_singleton];exact HO9
              · simp [sLen];omega
          · rw [if_neg hll] at hz'
            have HRe:=Lib.hid (hend (by rw [hop,hz']))
            have hne:(((Syn.lvlOf n:Nat):Int) != (l:Int))=true:=by simp;omega
            clear hz' hop hend hp2 hll
            generalize ys.length+1 - i2=m at *
            generalize 4 * i2=o at *
            go_wp2_with (first | (go_at_call 193;refine hbs.mono ?_;rintro e w' ⟨rfl,rfl⟩) | (go_at_call 194;refine (hlv _).mono ?_;rintro e w' ⟨rfl,rfl⟩))
            go_ret
            rw [HRe.out]
            exact ⟨hC2,_,rfl,by rw [← HL.out];exact HT.out,HP2.out,HO.out⟩
end
end Go.Proofs.YtpcniebkabkikaaGreatDoor
namespace Go.Proofs.YtpcniebkabkikaaGreatDoor
open Go Go.RowKit Go.Proofs.Mm
section
variable {ys:List It} {len bp bw i:Nat} {vp:Value} {w:World}
theorem level_all (hw:Ws ys) {b1 b2 d:Nat} {u:Nat→Syn.R (List Syn.Tm)} (hcnt:Syn.Cnt u) (hfit:Syn.FitP ys.length u)
    (hR:RdT ys len bp bw vp 159 (fun v=>#[v,.pointer (some ⟨b1,0,none⟩),.pointer (some ⟨b2,0,none⟩)]) (BX b1 b2 bp d) u) :
    ∀ (k l:Nat),l+k=6→RdT ys len bp bw vp 158 (fun v=>#[.pointer (some ⟨bp,0,none⟩),.int .i64 (l:Int),v,.func (.func 159) #[] #[.pointer (some ⟨b1,0,none⟩),.pointer (some ⟨b2,0,none⟩)]]) (BX b1 b2 bp d) (Syn.tower (Tk ys) (ys.length+1) u k)
  | 0,l,h=>by
    obtain rfl:l=6:=by omega
    exact level_six hR
  | k+1,l,h=>by
    have hk:=level_all hw hcnt hfit hR k (l+1) (by omega)
    have hl:5 - k=l:=by omega
    have:=level_next (len:=len) (bp:=bp) (bw:=bw) (vp:=vp) hw (b1:=b1) (b2:=b2) (d:=d) (Syn.tower_cnt hcnt k) (Syn.tower_fit (tk_nones ys) (by omega) hfit k) l (by omega) hk
    intro w i v l0 hx h hr hb
    have h2:=this w i v l0 hx h hr hb
    rw [Syn.tower,hl]
    exact h2
set_option maxRecDepth 100000 in
theorem within_any (hw:Ws ys) {d:Nat} {e:Option (Nat→Syn.R (List Syn.Tm))} (he:EOk ys len bp bw vp d e) (hg:∀ p,e=some p→Syn.Good p) :
    RdT ys len bp bw vp 102 (fun v=>#[.pointer (some ⟨bp,0,none⟩),v,.int .i64 (d:Int)]) (fun _=>True) (Syn.tower (Tk ys) (ys.length+1) (Syn.unary (Tk ys) (ys.length+1) e) 6):=by
  intro w i v l0 _ h hr hb
  obtain ⟨qv,cv,rfl⟩:=own_shape hr
  have hl6:=level_all (len:=len) (bp:=bp) (bw:=bw) (vp:=vp) hw (b1:=w.heap.size) (b2:=w.heap.size+1) (d:=d) (Syn.unary_cnt he.cnt) (Syn.unary_fit (tk_nones ys) (by omega) he.fit hg) (within1_any (unary_any hw he)) 6 0 rfl
  have hbx:BX w.heap.size (w.heap.size+1) bp d ((w.alloc (.cells #[.pointer (some ⟨bp,0,none⟩)] 95)).alloc (.cells #[.int .i64 (d:Int)] 3)) :=
    ⟨heap_new _ _ (World.alloc_heap_new w _),by have:=World.alloc_heap_new (w.alloc (.cells #[.pointer (some ⟨bp,0,none⟩)] 95)) (.cells #[.int .i64 (d:Int)] 3);rwa [World.size_alloc] at this⟩
  have hcall:=hl6 _ i _ l0 hbx ((h.alloc _).alloc _) ((hr.alloc _).alloc _) hb
  have hC0:Chg (TS bp (.slice qv l0.length cv)) w ((w.alloc (.cells #[.pointer (some ⟨bp,0,none⟩)] 95)).alloc (.cells #[.int .i64 (d:Int)] 3)):=((Chg.refl _ w).alloc _).alloc _
  have hsz:=hC0.size
  have hmf:∀ (fn:Fn) (first cap:Array Value) (w:World),(Instr.makeFunc fn first cap).run Tryz.prog w=.ok (.func fn first cap) w:=fun _ _ _ _=>rfl
  obtain ⟨RR,hRR⟩:∃ RR,Syn.tower (Tk ys) (ys.length+1) (Syn.unary (Tk ys) (ys.length+1) e) 6 i=RR:=⟨_,rfl⟩
  rw [hRR] at hcall ⊢
  clear hRR hl6 hbx
  cases RR with
  | error q =>
    go_enter Tryz.func102,Tryz.ntmps102
    go_wp2_with (go_at_call 158;refine hcall.mono ?_;rintro e w1 ⟨hc,rfl⟩)
    exact ⟨rfl,hC0.then hc,rfl⟩
  | ok q =>
    go_enter Tryz.func102,Tryz.ntmps102
    go_wp2_with (go_at_call 158;refine hcall.mono ?_;rintro e w1 ⟨hc,v',rfl,a1,a2,a3⟩)
    go_ret
    exact ⟨hC0.then hc,v',rfl,a1,a2,fun k hk=>by rcases a3 k hk with q | q <;> first | exact .inl q | exact .inr (by omega)⟩
theorem within_all (hw:Ws ys):∀ d,d≤12→RdT ys len bp bw vp 102 (fun v=>#[.pointer (some ⟨bp,0,none⟩),v,.int .i64 ((12 - d:Nat):Int)]) (fun _=>True) (Syn.exprD (Tk ys) (ys.length+1) d)
  | 0,_=>within_any hw (.inl ⟨rfl,rfl⟩) (fun p h=>by cases h)
  | d+1,h=>by
    refine within_any hw (d:=12 - (d+1)) (e:=some (Syn.exprD (Tk ys) (ys.length+1) d)) (.inr ⟨by omega,_,rfl,Syn.expr_cnt d,Syn.expr_fit (tk_nones ys) (by omega) d,?_⟩) (fun p h=>by cases h;exact Syn.expr_good d)
    have:=within_all hw d (by omega)
    rw [show (((12 - (d+1):Nat):Int)+1)=((12 - d:Nat):Int) by omega]
    exact this
set_option maxRecDepth 100000 in
theorem expr_any (hw:Ws ys) (h:PS ys len bp bw vp w i) :
    Calls Tryz.prog 56 #[.pointer (some ⟨bp,0,none⟩)] w (Ret ys len (fun k=>k=bp) w (Syn.expr (Tk ys) (ys.length+1) i) fun l j e w'=>∃ v',e=.returned v'∧TR w' v' l∧PS ys len bp bw vp w' j∧∀ k,v'.ownBlock=some k→w.heap.size≤k):=by
  have hf:=h.few
  have hcall:=within_all (len:=len) (bp:=bp) (bw:=bw) (vp:=vp) hw 12 (Nat.le_refl _) w i (.slice none 0 0) [] trivial h (World.ownsRow_nil _ _ _ _) (by simp;omega)
  rw [show ((12 - 12:Nat):Int)=0 from rfl] at hcall
  have hTS:∀ {a b:World},Chg (TS bp (.slice none 0 0)) a b→Chg (fun k=>k=bp) a b:=fun hc=>hc.mono (fun k e=>by rcases e with e | e;exact .inl e;cases e)
  unfold Syn.expr
  obtain ⟨RR,hRR⟩:∃ RR,Syn.exprD (Tk ys) (ys.length+1) 12 i=RR:=⟨_,rfl⟩
  rw [hRR] at hcall ⊢
  clear hRR
  cases RR with
  | error q =>
    go_enter Tryz.func56,Tryz.ntmps56
    go_wp2_with (go_at_call 102;refine hcall.mono ?_;rintro e w1 ⟨hc,rfl⟩)
    exact ⟨rfl,hTS hc,rfl⟩
  | ok q =>
    go_enter Tryz.func56,Tryz.ntmps56
    go_wp2_with (go_at_call 102;refine hcall.mono ?_;rintro e w1 ⟨hc,v',rfl,a1,a2,a3⟩)
    go_ret
    exact ⟨hTS hc,v',rfl,a1,a2,fun k hk=>by rcases a3 k hk with q | q;cases q;exact q⟩
end
end Go.Proofs.YtpcniebkabkikaaGreatDoor
namespace Go.Proofs.YtpcniebkabkikaaGreatDoor
open Go Go.RowKit Go.Proofs.Mm
def Enc {α:Type} (R:List Value→α→Prop):List Value→List α→Prop
  | cs,[]=>cs=[]
  | cs,x :: xs=>∃ c r,cs=c++r∧R c x∧Enc R r xs
theorem Enc.app {α:Type} {R:List Value→α→Prop}:∀ {xs ys:List α} {cs ds:List Value},Enc R cs xs→Enc R ds ys→Enc R (cs++ds) (xs++ys)
  | [],ys,cs,ds,h,h'=>by
    obtain rfl:cs=[]:=h
    exact h'
  | x :: xs,ys,cs,ds,h,h'=>by
    obtain ⟨c,r,rfl,h1,h2⟩:=h
    exact ⟨c,r++ds,by rw [List.append_assoc],h1,h2.app h'⟩
theorem Enc.one {α:Type} {R:List Value→α→Prop} {c:List Value} {x:α} (h:R c x):Enc R c [x]:=⟨c,[],by simp,h,rfl⟩
theorem Enc.nil {α:Type} {R:List Value→α→Prop}:Enc R [] ([]:List α):=rfl
theorem Enc.mono {α:Type} {R R':List Value→α→Prop} (hR:∀ c x,R c x→R' c x):∀ {xs:List α} {cs:List Value},Enc R cs xs→Enc R' cs xs
  | [],_,h=>h
  | _ :: _,_,⟨c,r,e,h1,h2⟩=>⟨c,r,e,hR _ _ h1,h2.mono hR⟩
def TmM (m:Mem) (v:Value) (l:List Syn.Tm):Prop:=RowM m 45 3 v l.length (tmCells l)
def StrM (m:Mem) (v:Value) (l:List (List Nat)):Prop:=RowM m 9 1 v l.length (l.map fun s=>.string (sb s))
def ExM (m:Mem) (v:Value) (l:List (List Syn.Tm)):Prop:=∃ cs,RowM m 37 1 v l.length cs∧Enc (fun c x=>∃ u,c=[u]∧TmM m u x) cs l
def StM (m:Mem) (c:List Value) (s:Syn.St):Prop:=∃ vt ve,c=[.int .i64 (s.kind:Int),.string (sb s.name),vt,ve]∧StrM m vt s.targets∧ExM m ve s.exprs
theorem ExM.le {m m':Mem} {v:Value} {l:List (List Syn.Tm)} (h:ExM m v l) (hm:m.le m'):ExM m' v l:=by
  obtain ⟨cs,h1,h2⟩:=h
  exact ⟨cs,h1.le hm,h2.mono fun c x ⟨u,e,h⟩=>⟨u,e,RowM.le h hm⟩⟩
theorem StM.le {m m':Mem} {c:List Value} {s:Syn.St} (h:StM m c s) (hm:m.le m'):StM m' c s:=by
  obtain ⟨vt,ve,e,h1,h2⟩:=h
  exact ⟨vt,ve,e,RowM.le h1 hm,h2.le hm⟩
theorem tm_single {m:Mem}:∀ {l:List (List Syn.Tm)} {cs:List Value},Enc (fun c x=>∃ u,c=[u]∧TmM m u x) cs l→cs.length=l.length
  | [],cs,h=>by rw [show cs=[] from h];rfl
  | x :: l,cs,h=>by
    obtain ⟨c,r,rfl,⟨u,rfl,_⟩,h2⟩:=h
    rw [List.length_append,tm_single h2];simp only [List.length_cons,List.length_nil];omega
section
variable {α:Type}
def lsF (T:Nat→Option Syn.K) (r:Nat→Syn.R α) (fin:List Nat):Nat→List α→Nat→Syn.R (List α)
  | 0,_,i=>.error (99,i)
  | f+1,l,i=>(r i).on fun x i =>
      if Syn.is T i fin then .ok (l++[x],i+1) else if Syn.is T i [44] then lsF T r fin f (l++[x]) (i+1) else .error (50,i)
def ls (T:Nat→Option Syn.K) (F:Nat) (r:Nat→Syn.R α) (fin:List Nat) (i:Nat):Syn.R (List α):=if Syn.is T i fin then .ok ([],i+1) else lsF T r fin F [] i
theorem listF_ls (T:Nat→Option Syn.K) (e:Nat→Syn.R (List Syn.Tm)) (fin:List Nat):∀ (f:Nat) (l:List (List Syn.Tm)) (i:Nat),Syn.listF T e fin f l i=lsF T e fin f l i
  | 0,_,_=>rfl
  | f+1,l,i=>by
    rw [Syn.listF,lsF]
    cases e i with
    | error q=>rfl
    | ok q=>simp only [Syn.R.on,listF_ls T e fin f]
theorem rowF_ls (T:Nat→Option Syn.K) (p:Nat→Syn.R α):∀ (f:Nat) (l:List α) (i:Nat),Syn.rowF T p f l i=lsF T p [41] f l i
  | 0,_,_=>rfl
  | f+1,l,i=>by
    rw [Syn.rowF,lsF]
    cases p i with
    | error q=>rfl
    | ok q=>simp only [Syn.R.on,rowF_ls T p f]
theorem lsF_fit {T:Nat→Option Syn.K} {n:Nat} (hN:∀ i,n≤i→T i=none) {r:Nat→Syn.R α} (hr:Syn.FitP n r) (fin:List Nat):∀ (f:Nat) (l:List α) (i:Nat),i≤n→n<f+i→Syn.Fit n (lsF T r fin f l i)
  | 0,_,_,h,hf=>by omega
  | f+1,l,i,h,hf=>by
    rw [lsF]
    exact (hr i h).1.on fun x j hx hj=>Syn.Fit.sw (fun hc=>Syn.Fit.ok _ (Syn.is_lt hN hc)) fun _=>Syn.Fit.sw (fun hc=>lsF_fit hN hr fin f _ _ (Syn.is_lt hN hc) (by have:=(hr i h).2 _ _ hx;omega)) fun _=>Syn.Fit.err hj
def tailF (T:Nat→Option Syn.K) (r:Nat→Syn.R α) (fin:List Nat) (f:Nat) (l:List α) (j:Nat):Syn.R (List α) :=
  if Syn.is T j fin then .ok (l,j+1) else if Syn.is T j [44] then lsF T r fin f l (j+1) else .error (50,j)
theorem lsF_tail (T:Nat→Option Syn.K) (r:Nat→Syn.R α) (fin:List Nat) (f:Nat) (l:List α) (i:Nat):lsF T r fin (f+1) l i=(r i).on fun x j=>tailF T r fin f (l++[x]) j:=rfl
def posW (bp:Nat) (W:World):Nat:=match W.cell? ⟨bp,0,none⟩ with | some v=>sLen v | none=>0
theorem PS.pos {ys:List It} {len bp bw i:Nat} {vp:Value} {w:World} (h:PS ys len bp bw vp w i):posW bp w=ys.length+1 - i:=by
  obtain ⟨c,h0,_⟩:=h.raw
  unfold posW;rw [h0];rfl
def SB (bp B:Nat):Nat→Prop:=fun k=>k=bp ∨ B≤k
def ItOk (ys:List It) (len bp bw B:Nat) (vp:Value) (K:Nat) (caps:Array Value) (J:List α→World→Prop) (r:Nat→Syn.R α):Prop :=
  ∀ W i acc,J acc W→PS ys len bp bw vp W i→B≤W.heap.size→acc.length+(ys.length - i)≤131072→Calls Tryz.prog K caps W (Ret ys len (SB bp B) W (r i) fun x j e W'=>(e=.returned (.tuple #[])∧J (acc++[x]) W')∧PS ys len bp bw vp W' j)
end
theorem mk_44:Mk (bl ⟨#[44]⟩)=true:=by decide
theorem sb_of {bp B:Nat} {a b:World} (h:Chg (fun k=>k=bp) a b):Chg (SB bp B) a b:=h.mono fun _ e=>.inl (.inl e)
section
variable {ys:List It} {len bp bw i:Nat} {vp:Value} {w:World} {α:Type}
theorem skip_at (hw:Ws ys) (h:PS ys len bp bw vp w i) (s:ByteArray) (hs:Mk (bl s)=true) :
    Calls Tryz.prog 95 #[.pointer (some ⟨bp,0,none⟩),.string s] w fun e w'=>∃ t,e=.returned (.bool t)∧t=Syn.is (Tk ys) i (bl s)∧Chg (fun k=>k=bp) w w'∧PS ys len bp bw vp w' (if Syn.is (Tk ys) i (bl s)=true then i+1 else i):=by
  cases hx:Syn.is (Tk ys) i (bl s) with
  | true =>
    refine (skip_yes h (lt_of_is hx) s (by rw [eq_text,is_text hw len i hs];exact hx)).mono ?_
    rintro e w' ⟨rfl,hc,hp⟩
    exact ⟨true,rfl,rfl,hc,hp⟩
  | false =>
    refine (skip_no h s (by rw [eq_text,is_text hw len i hs];exact hx)).mono ?_
    rintro e w' ⟨rfl,rfl⟩
    exact ⟨false,rfl,rfl,Chg.refl _ _,h⟩
theorem is_uniq {T:Nat→Option Syn.K} {j:Nat} {s t:List Nat} (h:Syn.is T j s=true) (h':Syn.is T j t=true):s=t:=by
  unfold Syn.is at h h'
  cases hT:T j with
  | none=>rw [hT] at h;cases h
  | some k =>
    rw [hT] at h h'
    simp only [Bool.and_eq_true,beq_iff_eq] at h h'
    exact h.2.symm.trans h'.2
set_option maxRecDepth 100000 in
set_option maxHeartbeats 1000000 in
theorem list_any (hw:Ws ys) (h:PS ys len bp bw vp w i) {B:Nat} (hB:B≤w.heap.size) (_hbw:bw<B) (_hbp:bp<B) (s:ByteArray) (hs:Mk (bl s)=true) (hs44:bl s ≠ [44]) {K:Nat} {caps:Array Value} (eg:∀ args w,(callFunc K args).run Tryz.prog w=.ok (.enter K args) w) {J:List α→World→Prop} {r:Nat→Syn.R α} (hfit:Syn.FitP ys.length r)
    (hJ:∀ l W i W',J l W→PS ys len bp bw vp W i→Chg (fun k=>k=bp) W W'→J l W') (hit:ItOk ys len bp bw B vp K caps J r) (h0:J [] w) :
    Calls Tryz.prog 153 #[.pointer (some ⟨bp,0,none⟩),.string s,.func (.func K) #[] caps] w (Ret ys len (SB bp B) w (ls (Tk ys) (ys.length+1) r (bl s) i) fun l j e w'=>(e=.returned (.tuple #[])∧J l w')∧PS ys len bp bw vp w' j):=by
  have hsk:=skip_at hw h s hs
  have HPS:=Lib.hid h
  unfold ls
  cases hx:Syn.is (Tk ys) i (bl s) with
  | true =>
    rw [hx] at hsk
    clear hx
    go_enter Tryz.func153,Tryz.ntmps153
    go_wp2_with (go_at_call 95;refine hsk.mono ?_;rintro e w1 ⟨t,rfl,rfl,hc,hp⟩)
    refine bodyPost_ret (results_none rfl _ _ _) rfl ?_
    exact ⟨sb_of hc,⟨rfl,hJ _ _ _ _ h0 HPS.out hc⟩,hp⟩
  | false =>
    rw [hx] at hsk
    rw [if_neg (by simp)]
    have hf0:=h.few
    have hle:=h.le
    obtain ⟨RR,hRR⟩:∃ RR,lsF (Tk ys) r (bl s) (ys.length+1) [] i=RR:=⟨_,rfl⟩
    have hlf:=lsF_fit (tk_nones ys) hfit (bl s) (ys.length+1) [] i h.le (by omega)
    rw [hRR] at hlf ⊢
    rw [lsF_tail] at hRR
    have HRR:=Lib.hid hRR
    have HLF:=Lib.hid hlf
    have HIT:=Lib.hid hit
    have HJ:=Lib.hid hJ
    have HFIT:=Lib.hid hfit
    clear hx hRR hlf hit hJ hfit
    go_enter Tryz.func153,Tryz.ntmps153
    go_wp2_with (go_at_call 95;refine hsk.mono ?_;rintro e w1 ⟨t,rfl,rfl,hc,hp⟩)
    have hcall:=HIT.out w1 i [] (HJ.out _ _ _ _ h0 HPS.out hc) hp (Nat.le_trans hB hc.size) (by simp;omega)
    have HC1:=Lib.hid (sb_of (B:=B) hc)
    clear hc hsk
    cases hri:r i with
    | error q =>
      obtain ⟨er,k⟩:=q
      rw [hri] at hcall
      have HRe:=Lib.hid (show RR=.error (er,k) from by rw [← HRR.out,hri];rfl)
      clear hri
      refine hcall.mono ?_
      rintro e w2 ⟨hc2,rfl⟩
      refine ⟨rfl,?_⟩
      rw [HRe.out]
      exact ⟨HC1.out.then hc2,rfl⟩
    | ok q =>
      obtain ⟨x1,j1⟩:=q
      rw [hri] at hcall
      have HT:=Lib.hid (show tailF (Tk ys) r (bl s) ys.length [x1] j1=RR from by rw [← HRR.out,hri];rfl)
      have HX:=Lib.hid ((HFIT.out i hle).2 _ _ hri)
      clear hri
      refine hcall.mono ?_
      rintro e w2 ⟨hc2,⟨rfl,hJ2⟩,hp2⟩
      have HC2:=Lib.hid (HC1.out.then hc2)
      have HJ2:=Lib.hid hJ2
      have HP2:=Lib.hid hp2
      clear hc2 hJ2 hp2 hcall
      go_wp2_with fail
      go_loopw [12] (fun _ wr=>∃ f l j,Hid (tailF (Tk ys) r (bl s) f l j=RR)∧Hid (J l wr)∧Hid (PS ys len bp bw vp wr j)∧Hid (Chg (SB bp B) w wr)∧Hid (l.length+(ys.length - j)≤131072))
        (fun _ wr=>posW bp wr)
      case atStart=>exact ⟨ys.length,[x1],j1,HT,HJ2,HP2,HC2,Lib.hid (by simp;omega)⟩
      case round =>
        obtain ⟨f,l,j,HTr,HJr,HPr,HCr,HLr⟩:=hrel
        clear h0 hp
        have hsk2:=skip_at hw HPr.out ⟨#[44]⟩ mk_44
        rw [show bl ⟨#[44]⟩=[44] from rfl] at hsk2
        cases hx:Syn.is (Tk ys) j [44] with
        | true =>
          rw [hx] at hsk2
          have hfin:Syn.is (Tk ys) j (bl s)=false:=by
            cases hf:Syn.is (Tk ys) j (bl s) with
            | false=>rfl
            | true=>exact (hs44 (is_uniq hf hx)).elim
          have hlt:=lt_of_is hx
          have hgo:lsF (Tk ys) r (bl s) f l (j+1)=RR:=by
            have:=HTr.out
            unfold tailF at this
            rw [hfin,if_neg (by simp),hx,if_pos rfl] at this
            exact this
          cases f with
          | zero=>exact (HLF.out.no99 (j:=j+1) (by rw [← hgo];rfl)).elim
          | succ f =>
            rw [lsF_tail] at hgo
            have HGO:=Lib.hid hgo
            clear hx hfin hgo
            go_wp2_with (go_at_call 95;refine hsk2.mono ?_;rintro e w3 ⟨t3,rfl,rfl,hc3,hp3⟩)
            have hl3:=HLr.out
            have hcall:=HIT.out w3 (j+1) l (HJ.out _ _ _ _ HJr.out HPr.out hc3) hp3 (Nat.le_trans hB (Nat.le_trans HCr.out.size hc3.size)) (by omega)
            have HC3:=Lib.hid (HCr.out.then (sb_of (B:=B) hc3))
            clear hc3 hp3 hsk2 hl3
            cases hri:r (j+1) with
            | error q =>
              obtain ⟨er,k⟩:=q
              rw [hri] at hcall
              have HRe:=Lib.hid (show RR=.error (er,k) from by rw [← HGO.out,hri];rfl)
              clear hri
              refine hcall.mono ?_
              rintro e w4 ⟨hc4,rfl⟩
              refine ⟨rfl,?_⟩
              rw [HRe.out]
              exact ⟨HC3.out.then hc4,rfl⟩
            | ok q =>
              obtain ⟨x4,j4⟩:=q
              rw [hri] at hcall
              have HT4:=Lib.hid (show tailF (Tk ys) r (bl s) f (l++[x4]) j4=RR from by rw [← HGO.out,hri];rfl)
              have hj4:=(HFIT.out (j+1) hlt).2 _ _ hri
              have hj5:=(HFIT.out (j+1) hlt).1.pos hri
              have HL4:=Lib.hid (show (l++[x4]).length+(ys.length - j4)≤131072 from by
                have:=HLr.out
                rw [List.length_append,List.length_singleton];omega)
              clear hri
              refine hcall.mono ?_
              rintro e w4 ⟨hc4,⟨rfl,hJ4⟩,hp4⟩
              have HC4:=Lib.hid (HC3.out.then hc4)
              have HJ4:=Lib.hid hJ4
              have HP4:=Lib.hid hp4
              have hpos4:=hp4.pos
              have hpos:=HPr.out.pos
              clear hc4 hJ4 hp4 hcall
              go_wp2_with fail
              refine ⟨⟨f,l++[x4],j4,HT4,HJ4,HP4,HC4,HL4⟩,?_⟩
              rw [hpos4,hpos];omega
        | false =>
          rw [hx] at hsk2
          cases hfin:Syn.is (Tk ys) j (bl s) with
          | true =>
            have HRe:=Lib.hid (show RR=.ok (l,j+1) from by
              have:=HTr.out
              unfold tailF at this
              rw [hfin,if_pos rfl] at this
              exact this.symm)
            have HW:=Lib.hid (fun w3 (hp3:PS ys len bp bw vp w3 j)=>want_yes hp3 (lt_of_is hfin) s (by rw [eq_text,is_text hw len j hs];exact hfin))
            clear hx hfin
            go_wp2_with (go_at_call 95;refine hsk2.mono ?_;rintro e w3 ⟨t3,rfl,rfl,hc3,hp3⟩)
            go_at_call 149
            refine (HW.out w3 hp3).mono ?_
            rintro e w4 ⟨rfl,hc4,hp4⟩
            go_wp2_with fail
            go_end0
            rw [HRe.out]
            exact ⟨(HCr.out.then (sb_of hc3)).then (sb_of hc4),⟨rfl,HJ.out _ _ _ _ (HJ.out _ _ _ _ HJr.out HPr.out hc3) hp3 hc4⟩,hp4⟩
          | false =>
            have HRe:=Lib.hid (show RR=.error (50,j) from by
              have:=HTr.out
              unfold tailF at this
              rw [hfin,if_neg (by simp),hx,if_neg (by simp)] at this
              exact this.symm)
            have HW:=Lib.hid (fun w3 (hp3:PS ys len bp bw vp w3 j)=>want_no hp3 s (by rw [eq_text,is_text hw len j hs];exact hfin) (SB bp B))
            clear hx hfin
            go_wp2_with (go_at_call 95;refine hsk2.mono ?_;rintro e w3 ⟨t3,rfl,rfl,hc3,hp3⟩)
            go_at_call 149
            refine (HW.out w3 hp3).mono ?_
            rintro e w4 ⟨rfl,hc4⟩
            refine ⟨rfl,?_⟩
            rw [HRe.out]
            exact ⟨(HCr.out.then (sb_of hc3)).then hc4,rfl⟩
end
end Go.Proofs.YtpcniebkabkikaaGreatDoor
namespace Go.Proofs.YtpcniebkabkikaaGreatDoor
open Go Go.RowKit Go.Proofs.Mm
structure TmZ where
  kind:Int
  value:Int
  name:ByteArray
structure StZ where
  kind:Int
  name:ByteArray
  targets:List ByteArray
  exprs:List (List TmZ)
instance:Inhabited TmZ:=⟨⟨0,0,⟨#[]⟩⟩⟩
instance:Inhabited StZ:=⟨⟨0,⟨#[]⟩,[],[]⟩⟩
abbrev Cl:=Addr→Option Value
def CLe (C D:Cl):Prop:=∀ a v,C a=some v→D a=some v
theorem CLe.refl (C:Cl):CLe C C:=fun _ _ h=>h
theorem CLe.trans {A B C:Cl} (h:CLe A B) (k:CLe B C):CLe A C:=fun a v e=>k a v (h a v e)
def wC (w:World):Cl:=fun a=>w.cell? a
def mC (m:Mem):Cl:=fun a=>match m a.block with
  | some (.cells cur _ _)=>if a.spot=none then cur[a.off]? else none
  | _=>none
theorem below_cle {w w':World} (h:Below w.heap.size w w'):CLe (wC w) (wC w'):=fun _ _ e=>(h.cell (World.block_lt_of_cell? _ _ e)).trans e
theorem has_cle {w:World} {m:Mem} (h:Has w m):CLe (mC m) (wC w):=by
  intro a v e
  obtain ⟨b,o,s⟩:=a
  unfold mC at e
  simp only at e
  cases hm:m b with
  | none=>rw [hm] at e;cases e
  | some ob =>
    rw [hm] at e
    cases ob with
    | cells cur T r =>
      simp only at e
      split at e
      · rename_i hs
        subst hs
        unfold wC
        rw [cell_of_row w b o cur T r (h _ _ hm)]
        exact e
      · cases e
    | _=>cases e
def RdO (C:Cl) (q:Option Addr) (cs:List Value):Prop:=cs=[] ∨ ∃ g o,q=some ⟨g,o,none⟩∧∀ j u,cs[j]?=some u→C ⟨g,o+j,none⟩=some u
theorem RdO.le {C D:Cl} {q:Option Addr} {cs:List Value} (h:RdO C q cs) (hc:CLe C D):RdO D q cs:=by
  rcases h with h | ⟨g,o,h1,h2⟩
  · exact .inl h
  · exact .inr ⟨g,o,h1,fun j u hu=>hc _ _ (h2 j u hu)⟩
theorem RowM.rdO {m:Mem} {E:TypeId} {size n c:Nat} {q:Option Addr} {xs:List Value} (h:RowM m E size (.slice q n c) n xs):RdO (mC m) q xs:=by
  obtain ⟨h1,⟨h2,rfl⟩ | ⟨g,cap,cur,h2,h3,h4,h5,h6,h7⟩⟩:=h
  · exact .inl (List.eq_nil_of_length_eq_zero (by simpa using h1))
  · injection h2 with h2 _ _
    refine .inr ⟨g,0,h2,fun j u hu=>?_⟩
    rw [← h7,List.getElem?_take] at hu
    split at hu
    · unfold mC
      simp only [h3,Nat.zero_add]
      simpa using hu
    · cases hu
def SlX {α:Type} (mk:List Value) (bs:Nat) (C:Cl) (R:List Value→α→Prop) (v:Value) (l:List α):Prop :=
  ∃ q c cs,v=.slice q l.length c∧(mk=[] ∨ l.length+1≤c)∧RdO C q (cs++mk)∧Enc R cs l∧l.length * bs≤140737488351232∧c≤maxLen∧(q=none→c=0)∧l.length≤c
theorem SlX.mono {α:Type} {mk:List Value} {bs:Nat} {C D:Cl} {R R':List Value→α→Prop} {v:Value} {l:List α} (h:SlX mk bs C R v l) (hc:CLe C D) (hR:∀ c x,R c x→R' c x):SlX mk bs D R' v l:=by
  obtain ⟨q,c,cs,h1,h2,h3,h4,h5,h6⟩:=h
  exact ⟨q,c,cs,h1,h2,h3.le hc,h4.mono hR,h5,h6⟩
def tmZ (t:TmZ):List Value:=[.int .i64 t.kind,.int .i64 t.value,.string t.name]
def mkS (lt:Bool):List Value:=if lt then [.string ⟨#[109,97,114,107]⟩] else []
def mkT (lt:Bool):List Value:=if lt then [.int .i64 (-71),.int .i64 0,.string ⟨#[]⟩] else []
def TmsR (lt:Bool) (C:Cl) (v:Value) (l:List TmZ):Prop:=SlX (mkT lt) 32 C (fun c t=>c=tmZ t) v l
section
variable {lt:Bool} {C D:Cl}
end
theorem encZ_at {α:Type} {R:List Value→α→Prop} {size:Nat} (hR:∀ c x,R c x→c.length=size):∀ {l:List α} {cs:List Value},Enc R cs l→cs.length=l.length * size∧∀ j (h:j<l.length),∃ c,R c l[j]∧∀ r,r<size→cs[j * size+r]?=c[r]?
  | [],cs,he=>by obtain rfl:cs=[]:=he;exact ⟨by simp,fun j h=>absurd h (by simp)⟩
  | x :: l,cs,he=>by
    obtain ⟨c,d,rfl,h1,h2⟩:=he
    have hc:=hR _ _ h1
    obtain ⟨h5,h6⟩:=encZ_at hR h2
    refine ⟨by rw [List.length_append,hc,h5,List.length_cons,Nat.succ_mul];omega,fun j h=>?_⟩
    cases j with
    | zero=>exact ⟨c,h1,fun r hr=>by rw [Nat.zero_mul,Nat.zero_add,List.getElem?_append_left (by omega)]⟩
    | succ j =>
      obtain ⟨c',h3,h4⟩:=h6 j (by simpa using h)
      refine ⟨c',h3,fun r hr=>?_⟩
      rw [show (j+1) * size+r=c.length+(j * size+r) by rw [hc,Nat.succ_mul];omega,List.getElem?_append_right (by omega),Nat.add_sub_cancel_left]
      exact h4 r hr
theorem SlX.at {α:Type} {mk:List Value} {bs:Nat} {C:Cl} {R:List Value→α→Prop} {v:Value} {l:List α} {size:Nat} (h:SlX mk (bs+1) C R v l) (hs:0<size) (hR:∀ c x,R c x→c.length=size) :
    ∃ q c,v=.slice q l.length c∧(mk=[] ∨ l.length+1≤c)∧l.length≤140737488351232∧c≤maxLen ∧
      (∀ j (hj:j<l.length),∃ g o e,q=some ⟨g,o,none⟩∧R e l[j]∧∀ r u,r<size→e[r]?=some u→C ⟨g,o+(j * size+r),none⟩=some u) ∧
      (mk=[] ∨ ∃ g o,q=some ⟨g,o,none⟩∧∀ r u,mk[r]?=some u→C ⟨g,o+(l.length * size+r),none⟩=some u):=by
  obtain ⟨q,c,cs,h1,h2,h3,h4,h5,h6,_⟩:=h
  obtain ⟨hl,ha⟩:=encZ_at hR h4
  refine ⟨q,c,h1,h2,Nat.le_trans (Nat.le_mul_of_pos_right _ (Nat.succ_pos _)) h5,h6,fun j hj=>?_,?_⟩
  · obtain ⟨e,e1,e2⟩:=ha j hj
    have hle:j * size+size≤l.length * size:=by rw [← Nat.succ_mul];exact Nat.mul_le_mul_right _ hj
    rcases h3 with h3 | ⟨g,o,h3,h7⟩
    · have:=(List.append_eq_nil_iff.1 h3).1
      rw [this] at hl
      simp only [List.length_nil] at hl
      omega
    · refine ⟨g,o,e,h3,e1,fun r u hr hu=>h7 _ _ ?_⟩
      rw [List.getElem?_append_left (by omega),e2 r hr]
      exact hu
  · by_cases hm:mk=[]
    · exact .inl hm
    · refine .inr ?_
      rcases h3 with h3 | ⟨g,o,h3,h7⟩
      · exact absurd (List.append_eq_nil_iff.1 h3).2 hm
      · refine ⟨g,o,h3,fun r u hu=>h7 _ _ ?_⟩
        rw [List.getElem?_append_right (by omega),hl,Nat.add_sub_cancel_left]
        exact hu
end Go.Proofs.YtpcniebkabkikaaGreatDoor
namespace Go.Proofs.YtpcniebkabkikaaGreatDoor
open Go
open Go.Proofs.Syn (K Ex Tm opLv opMark unMark opLv_le)
def lvOf:Ex→Nat
  | .bin o _ _=>opLv o
  | .un _ _=>6
  | _=>7
def opX (a:List Nat × Nat) (lv:Nat):List Nat:=if a.2<lv then 40 :: (a.1++[41]) else a.1
section
variable (dg:Nat→List Nat)
def stepX (t:Tm) (st:List (List Nat × Nat)):Option (List (List Nat × Nat)) :=
  if t.kind=1 then some ((dg t.value,7) :: st)
  else if t.kind=2 then some ((t.name,7) :: st)
  else if t.kind=3 then
    match st with
    | a :: st=>some ((t.name++91 :: (a.1++[93]),7) :: st)
    | []=>none
  else if t.kind=4 then
    match st with
    | a :: st=>some ((unMark t.value++opX a 6,6) :: st)
    | []=>none
  else if t.kind=5 then
    match st with
    | b :: a :: st=>some ((opX a (opLv t.value)++32 :: (opMark t.value++32 :: opX b (opLv t.value+1)),opLv t.value) :: st)
    | _=>none
  else none
def goX:List Tm→List (List Nat × Nat)→Option (List (List Nat × Nat))
  | [],st=>some st
  | t :: l,st=>match stepX dg t st with
    | some st=>goX l st
    | none=>none
def txX (e:Ex):List Nat × Nat:=(exText dg e 0,lvOf e)
theorem opX_ex (e:Ex) {lv:Nat} (h:lv≤6):opX (txX dg e) lv=exText dg e lv:=by
  unfold opX txX
  cases e with
  | num v=>rw [if_neg (by show ¬ 7<lv;omega)];rfl
  | nm s=>rw [if_neg (by show ¬ 7<lv;omega)];rfl
  | idx s e=>rw [if_neg (by show ¬ 7<lv;omega)];rfl
  | un o e=>rw [if_neg (by show ¬ 6<lv;omega)];rfl
  | bin o l r =>
    show (if opLv o<lv then _ else _)=_
    rw [exText,exText,if_neg (by omega:¬ opLv o<0)]
structure TmOk (P:List Nat→Prop) (Q:Nat→Prop) (t:Tm):Prop where
  one:t.kind=1→Q t.value∧t.name=[]
  two:t.kind=2→P t.name∧t.value=0
  three:t.kind=3→P t.name∧t.value=0
  four:t.kind=4→15≤t.value∧t.value≤17∧t.name=[]
  five:t.kind=5→1≤t.value∧t.value≤14∧t.name=[]
variable {P:List Nat→Prop} {Q:Nat→Prop}
theorem goX_tree:∀ (l:List Tm) (es:List Ex) (st:List (List Nat × Nat)),(∀ t ∈ l,TmOk P Q t)→(∀ e ∈ es,e.Wf∧e.All P Q)→goX dg l (es.map (txX dg))=some st →
    ∃ es':List Ex,(∀ e ∈ es',e.Wf∧e.All P Q)∧st=es'.map (txX dg)∧es.reverse.flatMap Ex.flat++l=es'.reverse.flatMap Ex.flat
  | [],es,st,_,he,h=>by
    injection h with h
    exact ⟨es,he,h.symm,by simp⟩
  | t :: l,es,st,ht,he,h=>by
    obtain ⟨k,v,n⟩:=t
    obtain ⟨h1,h2,h3,h4,h5⟩:=ht _ (List.mem_cons_self ..)
    simp only at h1 h2 h3 h4 h5
    have hl:∀ t ∈ l,TmOk P Q t:=fun t h=>ht t (List.mem_cons_of_mem _ h)
    rw [goX] at h
    by_cases c1:k=1
    · subst c1
      obtain ⟨q,rfl⟩:=h1 rfl
      have h:goX dg l ((Ex.num v :: es).map (txX dg))=some st:=h
      obtain ⟨es',a,b,c⟩:=goX_tree l (.num v :: es) st hl (fun e hm=>by
        rcases List.mem_cons.1 hm with rfl | hm
        · exact ⟨trivial,q⟩
        · exact he e hm) h
      exact ⟨es',a,b,by rw [← c];simp [Ex.flat]⟩
    by_cases c2:k=2
    · subst c2
      obtain ⟨q,rfl⟩:=h2 rfl
      have h:goX dg l ((Ex.nm n :: es).map (txX dg))=some st:=h
      obtain ⟨es',a,b,c⟩:=goX_tree l (.nm n :: es) st hl (fun e hm=>by
        rcases List.mem_cons.1 hm with rfl | hm
        · exact ⟨trivial,q⟩
        · exact he e hm) h
      exact ⟨es',a,b,by rw [← c];simp [Ex.flat]⟩
    by_cases c3:k=3
    · subst c3
      obtain ⟨q,rfl⟩:=h3 rfl
      cases es with
      | nil=>cases h
      | cons x es =>
        have h:goX dg l ((Ex.idx n x :: es).map (txX dg))=some st:=h
        obtain ⟨es',a,b,c⟩:=goX_tree l (.idx n x :: es) st hl (fun e hm=>by
          rcases List.mem_cons.1 hm with rfl | hm
          · exact ⟨(he x (List.mem_cons_self ..)).1,q,(he x (List.mem_cons_self ..)).2⟩
          · exact he e (List.mem_cons_of_mem _ hm)) h
        exact ⟨es',a,b,by rw [← c];simp [Ex.flat]⟩
    by_cases c4:k=4
    · subst c4
      obtain ⟨q1,q2,rfl⟩:=h4 rfl
      cases es with
      | nil=>cases h
      | cons x es =>
        have h:goX dg l ((unMark v++opX (txX dg x) 6,6) :: es.map (txX dg))=some st:=h
        rw [opX_ex dg x (by omega)] at h
        have h:goX dg l ((Ex.un v x :: es).map (txX dg))=some st:=h
        obtain ⟨es',a,b,c⟩:=goX_tree l (.un v x :: es) st hl (fun e hm=>by
          rcases List.mem_cons.1 hm with rfl | hm
          · exact ⟨⟨q1,q2,(he x (List.mem_cons_self ..)).1⟩,(he x (List.mem_cons_self ..)).2⟩
          · exact he e (List.mem_cons_of_mem _ hm)) h
        exact ⟨es',a,b,by rw [← c];simp [Ex.flat]⟩
    by_cases c5:k=5
    · subst c5
      obtain ⟨q1,q2,rfl⟩:=h5 rfl
      have hv:=opLv_le v
      cases es with
      | nil=>cases h
      | cons y es =>
        cases es with
        | nil=>cases h
        | cons x es =>
          have h:goX dg l ((opX (txX dg x) (opLv v)++32 :: (opMark v++32 :: opX (txX dg y) (opLv v+1)),opLv v) :: es.map (txX dg))=some st:=h
          rw [opX_ex dg x (by omega),opX_ex dg y (by omega)] at h
          have ht:txX dg (.bin v x y)=(exText dg x (opLv v)++32 :: (opMark v++32 :: exText dg y (opLv v+1)),opLv v):=by
            unfold txX;rw [exText,if_neg (by omega)];rfl
          rw [← ht] at h
          have h:goX dg l ((Ex.bin v x y :: es).map (txX dg))=some st:=h
          obtain ⟨es',a,b,c⟩:=goX_tree l (.bin v x y :: es) st hl (fun e hm=>by
            rcases List.mem_cons.1 hm with rfl | hm
            · have hx:=he x (by simp)
              have hy:=he y (by simp)
              exact ⟨⟨q1,q2,hx.1,hy.1⟩,hx.2,hy.2⟩
            · exact he e (by simp [hm])) h
          exact ⟨es',a,b,by rw [← c];simp [Ex.flat]⟩
    · have hn:stepX dg ⟨k,v,n⟩ (es.map (txX dg))=none:=by
        unfold stepX
        rw [if_neg c1,if_neg c2,if_neg c3,if_neg c4,if_neg c5]
      rw [hn] at h
      cases h
theorem goX_one {l:List Tm} {x:List Nat × Nat} (ht:∀ t ∈ l,TmOk P Q t) (h:goX dg l []=some [x]):∃ e:Ex,(e.Wf∧e.All P Q)∧l=e.flat∧x=(exText dg e 0,lvOf e):=by
  obtain ⟨es,h1,h2,h3⟩:=goX_tree dg l [] [x] ht (fun _ h=>by cases h) h
  match es,h2 with
  | [e],h2 =>
    injection h2 with h2
    exact ⟨e,h1 e (List.mem_cons_self ..),by simpa using h3,h2⟩
end
end Go.Proofs.YtpcniebkabkikaaGreatDoor
namespace Go.Proofs.YtpcniebkabkikaaGreatDoor
open Go
open Go.Proofs.Syn (K Ex Tm opLv opMark unMark opLv_le)
abbrev Pt:=List Nat × Nat
section
variable (dg:Nat→List Nat)
def ptsOf (t:Tm):List Pt :=
  if t.kind=1 then [(dg t.value,7)]
  else if t.kind=2 then [(t.name,7)]
  else if t.kind=3 then [(t.name,7),([91],7),([],0),([93],7)]
  else if t.kind=4 then [(unMark t.value,7),([],6)]
  else [([],opLv t.value),([32],7),(opMark t.value,7),([32],7),([],opLv t.value+1)]
def lvT (t:Tm):Nat:=if t.kind=5 then opLv t.value else if t.kind=4 then 6 else 7
def brT (lv:Nat) (t:Tm):List Pt:=if lv≤lvT t then ptsOf dg t else ([40],7) :: (ptsOf dg t++[([41],7)])
def runB:Nat→List Pt→List Tm→List (List Nat)→Option (List (List Nat))
  | 0,_,_,_=>none
  | _+1,[],_,out=>some out
  | f+1,p :: row,rl,out =>
    if p.1 ≠ [] then runB f row rl (out++[p.1])
    else match rl with
      | []=>none
      | t :: rl=>runB f ((brT dg p.2 t).reverse++row) rl out
def Does (ps:List Pt) (ts:List Tm) (pcs:List (List Nat)):Prop:=∃ n,∀ f row rl out,runB dg (n+f) (ps++row) (ts++rl) out=runB dg f row rl (out++pcs)
variable {dg}
theorem does_txt {s:List Nat} (hs:s ≠ []) (lv:Nat):Does dg [(s,lv)] [] [s]:=⟨1,fun f row rl out=>by
  rw [Nat.add_comm]
  show (if s ≠ [] then _ else _)=_
  rw [if_pos hs];rfl⟩
theorem does_app {ps ps':List Pt} {ts ts':List Tm} {q q':List (List Nat)} (h:Does dg ps ts q) (h':Does dg ps' ts' q'):Does dg (ps++ps') (ts++ts') (q++q'):=by
  obtain ⟨n,h⟩:=h
  obtain ⟨n',h'⟩:=h'
  exact ⟨n+n',fun f row rl out=>by rw [Nat.add_assoc,List.append_assoc,List.append_assoc,h,h',List.append_assoc]⟩
theorem does_opd {lv:Nat} {t:Tm} {ts:List Tm} {q:List (List Nat)} (h:Does dg (brT dg lv t).reverse ts q):Does dg [([],lv)] (t :: ts) q:=by
  obtain ⟨n,h⟩:=h
  refine ⟨n+1,fun f row rl out=>?_⟩
  rw [show n+1+f=(n+f)+1 by omega]
  show (if ([]:List Nat) ≠ [] then _ else runB dg (n+f) ((brT dg lv t).reverse++row) (ts++rl) out)=_
  rw [if_neg (by simp),h]
theorem does_lv {lv:Nat} {t:Tm} {ts:List Tm} {q:List (List Nat)} (h:Does dg (ptsOf dg t).reverse ts q):Does dg [([],lv)] (t :: ts) (if lv≤lvT t then q else [[41]]++q++[[40]]):=by
  apply does_opd
  unfold brT
  split
  · exact h
  · have h1:Does dg [([41],7)] [] [[41]]:=does_txt (by simp) 7
    have h2:Does dg [([40],7)] [] [[40]]:=does_txt (by simp) 7
    have:=does_app (does_app h1 h) h2
    rw [List.nil_append,List.append_nil] at this
    simpa using this
theorem pcs_br (q:List (List Nat)):([[41]]++q++[[40]]).reverse.flatten=40 :: (q.reverse.flatten++[41]):=by simp
theorem un_ne {o:Nat} (h1:15≤o) (h2:o≤17):unMark o ≠ []:=(un_good ⟨o,by omega⟩ h1).2.1
theorem op_ne {o:Nat} (h1:1≤o) (h2:o≤14):opMark o ≠ []:=(op_good ⟨o,by omega⟩ h1).2.1
theorem does_ex:∀ (e:Ex),e.Wf→e.All PN (QN dg)→∀ lv,lv≤6→∃ q,Does dg [([],lv)] e.flat.reverse q∧q.reverse.flatten=exText dg e lv
  | .num v,_,h,lv,hlv=>by
    have h1:=does_lv (dg:=dg) (lv:=lv) (t:=⟨1,v,[]⟩) (ts:=[]) (q:=[dg v]) (does_txt h.ne 7)
    rw [if_pos (show lv≤lvT _ from Nat.le_trans hlv (by show 6≤7;omega))] at h1
    exact ⟨_,h1,by simp [exText]⟩
  | .nm s,_,h,lv,hlv=>by
    have h1:=does_lv (dg:=dg) (lv:=lv) (t:=⟨2,0,s⟩) (ts:=[]) (q:=[s]) (does_txt h.ne 7)
    rw [if_pos (show lv≤lvT _ from Nat.le_trans hlv (by show 6≤7;omega))] at h1
    exact ⟨_,h1,by simp [exText]⟩
  | .idx s e,hw,h,lv,hlv=>by
    obtain ⟨q,k1,k2⟩:=does_ex e hw h.2 0 (by omega)
    have hb:Does dg (ptsOf dg ⟨3,0,s⟩).reverse e.flat.reverse ([[93]]++q++[[91]]++[s]):=by
      have:=does_app (does_app (does_app (does_txt (dg:=dg) (s:=[93]) (by simp) 7) k1) (does_txt (s:=[91]) (by simp) 7)) (does_txt h.1.ne 7)
      rw [List.nil_append,List.append_nil,List.append_nil] at this
      exact this
    have h1:=does_lv (lv:=lv) hb
    rw [if_pos (show lv≤lvT _ from Nat.le_trans hlv (by show 6≤7;omega))] at h1
    have hf:(Ex.idx s e).flat.reverse=⟨3,0,s⟩ :: e.flat.reverse:=by rw [Ex.flat,List.reverse_append];rfl
    rw [hf]
    exact ⟨_,h1,by rw [exText,← k2];simp⟩
  | .un o e,hw,h,lv,hlv=>by
    obtain ⟨q,k1,k2⟩:=does_ex e hw.2.2 h 6 (by omega)
    have hb:Does dg (ptsOf dg ⟨4,o,[]⟩).reverse e.flat.reverse (q++[unMark o]):=by
      have:=does_app k1 (does_txt (un_ne hw.1 hw.2.1) 7)
      rw [List.append_nil] at this
      exact this
    have h1:=does_lv (lv:=lv) hb
    rw [if_pos (show lv≤lvT ⟨4,o,[]⟩ from hlv)] at h1
    have hf:(Ex.un o e).flat.reverse=⟨4,o,[]⟩ :: e.flat.reverse:=by rw [Ex.flat,List.reverse_append];rfl
    rw [hf]
    exact ⟨_,h1,by rw [exText,← k2];simp⟩
  | .bin o l r,hw,h,lv,hlv=>by
    have h5:=opLv_le o
    obtain ⟨ql,a1,a2⟩:=does_ex l hw.2.2.1 h.1 (opLv o) (by omega)
    obtain ⟨qr,b1,b2⟩:=does_ex r hw.2.2.2 h.2 (opLv o+1) (by omega)
    have hb:Does dg (ptsOf dg ⟨5,o,[]⟩).reverse (r.flat.reverse++l.flat.reverse) (qr++[[32]]++[opMark o]++[[32]]++ql):=by
      have h32:Does dg [([32],7)] [] [[32]]:=does_txt (by simp) 7
      have:=does_app (does_app (does_app (does_app b1 h32) (does_txt (op_ne hw.1 hw.2.1) 7)) h32) a1
      rw [List.append_nil,List.append_nil,List.append_nil] at this
      exact this
    have h1:=does_lv (lv:=lv) hb
    have hf:(Ex.bin o l r).flat.reverse=⟨5,o,[]⟩ :: (r.flat.reverse++l.flat.reverse):=by rw [Ex.flat,List.reverse_append,List.reverse_append];rfl
    rw [hf]
    refine ⟨_,h1,?_⟩
    have hl:lvT ⟨5,o,[]⟩=opLv o:=rfl
    rw [exText,← a2,← b2,hl]
    by_cases hc:opLv o<lv
    · rw [if_neg (by omega),if_pos hc,pcs_br];simp
    · rw [if_pos (by omega),if_neg hc];simp
theorem runB_ex {e:Ex} (hw:e.Wf) (ha:e.All PN (QN dg)):∃ n q,(∀ f,runB dg (n+f+1) [([],0)] e.flat.reverse []=some q)∧q.reverse.flatten=exText dg e 0:=by
  obtain ⟨q,⟨n,h1⟩,h2⟩:=does_ex e hw ha 0 (by omega)
  refine ⟨n,q,fun f=>?_,h2⟩
  have:=h1 (f+1) [] [] []
  rw [List.append_nil,List.append_nil,List.nil_append] at this
  rw [Nat.add_assoc,this];rfl
end
end Go.Proofs.YtpcniebkabkikaaGreatDoor
namespace Go.Proofs.YtpcniebkabkikaaGreatDoor
end Go.Proofs.YtpcniebkabkikaaGreatDoor
namespace Go.Proofs.YtpcniebkabkikaaGreatDoor
open Go Go.RowKit
def isL (l:List Nat):Nat:=if l ≠ []∧errL l=0∧(wordL l).1=l.length then (wordL l).2 else 0
theorem beq_self (s:ByteArray):(s.toList == s.toList)=true:=by simp
theorem beq_ne {s t:ByteArray} (h:s ≠ t):(s.toList == t.toList)=false:=by
  rw [beq_eq_false_iff_ne]
  intro e
  rw [Lib.toList_data,Lib.toList_data] at e
  exact h (ByteArray.ext (Array.ext' e))
set_option maxRecDepth 100000 in
theorem is_any (s:ByteArray) (hs:s.size≤281474976710656) (w:World) (hE:Env w):Calls Tryz.prog 135 #[.string s] w fun e w'=>e=.returned (.int .i64 ((isL (bl s):Nat):Int))∧Below w.heap.size w w':=by
  by_cases h0:s.size=0
  · obtain rfl:s=⟨#[]⟩:=by
      apply ByteArray.ext
      exact Array.eq_empty_of_size_eq_zero h0
    go_enter Tryz.func135,Tryz.ntmps135
    go_wp2
    go_ret
    exact ⟨rfl,Below.refl _ _⟩
  · have hne:bl s ≠ []:=by
      intro e
      have:=congrArg List.length e
      rw [bl_length] at this
      exact h0 this
    have he0:(s.toList == ([]:List UInt8))=false:=by
      rw [beq_eq_false_iff_ne]
      intro e
      rw [Lib.toList_data] at e
      exact hne (by unfold bl;rw [e];rfl)
    have he1:s.toList=[]→False:=by intro e;rw [e] at he0;simp at he0
    by_cases he:errL (bl s)=0
    · have hf:=Lib.hid (first_ok s (by omega) hs he w hE)
      have hle:=wordL_le (bl s)
      rw [bl_length] at hle
      by_cases hw:(wordL (bl s)).1=s.size
      · have hv:isL (bl s)=(wordL (bl s)).2:=by unfold isL;rw [if_pos ⟨hne,he,by rw [bl_length];exact hw⟩]
        have hx:s.extract 0 (wordL (bl s)).1=s:=by
          apply bl_inj
          rw [bl_take,hw,← bl_length,List.take_length]
        rw [hx] at hf
        have hbs:=beq_self s
        rw [hv]
        generalize (wordL (bl s)).2=kk at *
        generalize valL (bl s)=vv at *
        clear hw hv hx hle hne
        have HE1:=Lib.hid he1
        clear he1
        go_enter Tryz.func135,Tryz.ntmps135
        go_wp2_with (go_at_call 175;refine hf.out.mono ?_)
        rintro e w1 ⟨rfl,hb1⟩
        have hB:=hb1.alloc hb1.size (.cells #[.int .i64 (kk:Nat),.string s,.int .i64 (vv:Nat),.int .i64 0] 151)
        have HB:=Lib.hid hB
        clear hB hb1
        go_wp2
        go_ret
        exact ⟨rfl,HB.out⟩
      · have hv:isL (bl s)=0:=by unfold isL;rw [if_neg (by rw [bl_length];exact fun h=>hw h.2.2)]
        have hx:((s.extract 0 (wordL (bl s)).1).toList == s.toList)=false:=beq_ne (fun h=>hw (by
          have:=size_take s (wordL (bl s)).1 hle
          rw [h] at this;exact this.symm))
        rw [hv]
        generalize (wordL (bl s)).2=kk at *
        generalize valL (bl s)=vv at *
        generalize s.extract 0 (wordL (bl s)).1=tt at *
        clear hw hv hle hne
        have HE1:=Lib.hid he1
        clear he1
        go_enter Tryz.func135,Tryz.ntmps135
        go_wp2_with (go_at_call 175;refine hf.out.mono ?_)
        rintro e w1 ⟨rfl,hb1⟩
        have hB:=hb1.alloc hb1.size (.cells #[.int .i64 (kk:Nat),.string tt,.int .i64 (vv:Nat),.int .i64 0] 151)
        have HB:=Lib.hid hB
        clear hB hb1
        go_wp2
        go_ret
        exact ⟨rfl,HB.out⟩
    · have hf:=Lib.hid (first_bad s (by omega) hs he w hE)
      have hv:isL (bl s)=0:=by unfold isL;rw [if_neg (fun h=>he h.2.1)]
      rw [hv]
      have heb:((errL (bl s):Nat):Int) ≠ 0:=by omega
      generalize errL (bl s)=er at *
      have heb1:(((er:Nat):Int) != 0)=true:=by simpa using heb
      have HE1:=Lib.hid he1
      clear he1 he hne hv heb
      go_enter Tryz.func135,Tryz.ntmps135
      go_wp2_with (go_at_call 175;refine hf.out.mono ?_)
      rintro e w1 ⟨rfl,hb1⟩
      have hB:=hb1.alloc hb1.size (.cells #[.int .i64 0,.string ⟨#[]⟩,.int .i64 0,.int .i64 0] 151)
      have HB:=Lib.hid hB
      clear hB hb1
      go_wp2
      go_ret
      exact ⟨rfl,HB.out⟩
end Go.Proofs.YtpcniebkabkikaaGreatDoor
namespace Go.Proofs.YtpcniebkabkikaaGreatDoor.Bt
open Go
def popN:Nat→Nat→Nat
  | 0,_=>0
  | n+1,a=>a % 2+popN n (a / 2)
theorem popN_le:∀ (n a:Nat),popN n a≤n
  | 0,_=>Nat.le_refl 0
  | n+1,a=>by
    have:=popN_le n (a / 2)
    simp only [popN];omega
def p1 (c:Nat):Nat:=((c / 2) &&& 85)+(c &&& 85)
end Go.Proofs.YtpcniebkabkikaaGreatDoor.Bt
namespace Go.Proofs.YtpcniebkabkikaaGreatDoor.Bt
open Go Go.RowKit
theorem cast_wrap (x:Nat) (h:x<18446744073709551616):IntKind.u64.wrap (x:Int)=(x:Int):=by
  rw [IntKind.wrap_u64];omega
end Go.Proofs.YtpcniebkabkikaaGreatDoor.Bt
namespace Go.Proofs.YtpcniebkabkikaaGreatDoor.Bt
open Go Go.RowKit
end Go.Proofs.YtpcniebkabkikaaGreatDoor.Bt
namespace Go.Proofs.YtpcniebkabkikaaGreatDoor.Bt
open Go
def bitsFrom (i n x:Nat):List Nat:=(List.range' i n).filter x.testBit
def bitsOf (x:Nat):List Nat:=bitsFrom 0 64 x
theorem bitsFrom_cons (x y p:Nat) (hp:x.testBit p=true) (hlow:∀ j,j<p→x.testBit j=false) (hy:∀ j,y.testBit j=(x.testBit j && decide (j ≠ p))) :
    ∀ n i,i≤p→p<i+n→bitsFrom i n x=p :: bitsFrom i n y
  | 0,i,h1,h2=>by omega
  | n+1,i,h1,h2=>by
    unfold bitsFrom
    rw [List.range'_succ,List.filter_cons,List.filter_cons]
    by_cases e:i=p
    · subst e
      rw [if_pos hp,hy i]
      simp only [ne_eq,not_true_eq_false,decide_false,Bool.and_false,Bool.false_eq_true,if_false]
      congr 1
      apply List.filter_congr
      intro j hj
      have hij:i<j:=by
        have:=List.mem_range'_1.1 hj
        omega
      rw [hy j]
      simp;intro _;omega
    · have hi:x.testBit i=false:=hlow i (by omega)
      rw [hi,hy i,hi]
      simp only [Bool.false_eq_true,if_false,Bool.false_and]
      exact bitsFrom_cons x y p hp hlow hy n (i+1) (by omega) (by omega)
theorem bitsOf_zero:bitsOf 0=[]:=by
  unfold bitsOf bitsFrom
  simp
theorem low_cleared (k m:Nat):(2 ^ k * (2 * m+1)) &&& (2 ^ k * (2 * m+1) - 1)=2 ^ k * (2 * m):=by
  have hpos:0<2 ^ k:=Nat.two_pow_pos k
  have e:2 ^ k * (2 * m+1) - 1=2 ^ k * (2 * m)+(2 ^ k - 1):=by
    rw [Nat.mul_add,Nat.mul_one];omega
  rw [e]
  apply Nat.eq_of_testBit_eq
  intro i
  rw [Nat.testBit_and,Nat.testBit_two_pow_mul,Nat.testBit_two_pow_mul_add _ (by omega),Nat.testBit_two_pow_mul]
  by_cases h:i<k
  · simp [h,show ¬ k≤i from by omega]
  · have h':k≤i:=by omega
    simp only [h,h',decide_true,Bool.true_and,if_false]
    obtain ⟨j,rfl⟩:=Nat.exists_eq_add_of_le h'
    rw [Nat.add_sub_cancel_left]
    cases j with
    | zero=>simp [Nat.testBit_zero]
    | succ j =>
      rw [Nat.testBit_succ,Nat.testBit_succ]
      have e1:(2 * m+1) / 2=m:=by omega
      have e2:2 * m / 2=m:=by omega
      rw [e1,e2,Bool.and_self]
theorem bitsOf_step (x:Nat) (h0:x ≠ 0) (hx:x<18446744073709551616):bitsOf x=Lib.ctz 64 x :: bitsOf (x &&& (x - 1))∧Lib.ctz 64 x<64∧x &&& (x - 1)<x:=by
  obtain ⟨m,hm,hk⟩:=Lib.ctzFrom_spec 64 x (by omega) hx
  have ek:Lib.ctz 64 x=Lib.ctzFrom 64 x:=by unfold Lib.ctz;rw [if_neg h0]
  rw [ek]
  generalize Lib.ctzFrom 64 x=k at hm hk
  have hpos:0<2 ^ k:=Nat.two_pow_pos k
  have hc:=low_cleared k m
  rw [← hm] at hc
  have htx:∀ j,x.testBit j=(decide (k≤j) && (2 * m+1).testBit (j - k)):=fun j=>by rw [hm,Nat.testBit_two_pow_mul]
  have hp:x.testBit k=true:=by rw [htx];simp [Nat.testBit_zero]
  have hlow:∀ j,j<k→x.testBit j=false:=fun j hj=>by rw [htx];simp [show ¬ k≤j from by omega]
  have hy:∀ j,(x &&& (x - 1)).testBit j=(x.testBit j && decide (j ≠ k)):=fun j=>by
    rw [hc,htx,Nat.testBit_two_pow_mul]
    by_cases h:k≤j
    · obtain ⟨d,rfl⟩:=Nat.exists_eq_add_of_le h
      rw [Nat.add_sub_cancel_left]
      cases d with
      | zero=>simp [Nat.testBit_zero]
      | succ d =>
        rw [Nat.testBit_succ,Nat.testBit_succ]
        have e1:(2 * m+1) / 2=m:=by omega
        have e2:2 * m / 2=m:=by omega
        rw [e1,e2];simp
    · simp [h]
  refine ⟨bitsFrom_cons x _ k hp hlow hy 64 0 (Nat.zero_le _) (by omega),hk,?_⟩
  rw [hc,hm,Nat.mul_add]
  omega
theorem bitsFrom_length:∀ n i x,(bitsFrom i n x).length=popN n (x / 2 ^ i)
  | 0,i,x=>by simp [bitsFrom,popN]
  | n+1,i,x=>by
    have ih:=bitsFrom_length n (i+1) x
    unfold bitsFrom at ih ⊢
    rw [List.range'_succ,List.filter_cons]
    have e:x / 2 ^ (i+1)=x / 2 ^ i / 2:=by rw [Nat.pow_succ,Nat.div_div_eq_div_mul]
    have ht:x.testBit i=decide (x / 2 ^ i % 2=1):=Nat.testBit_eq_decide_div_mod_eq
    rw [e] at ih
    simp only [popN]
    rw [← ih,ht]
    rcases Nat.mod_two_eq_zero_or_one (x / 2 ^ i) with h | h <;> simp [h]
    omega
theorem bitsOf_length (x:Nat):(bitsOf x).length=popN 64 x:=by
  have:=bitsFrom_length 64 0 x
  simpa [bitsOf] using this
theorem bitsOf_lt (x:Nat):∀ k ∈ bitsOf x,k<64:=by
  intro k hk
  unfold bitsOf bitsFrom at hk
  have:=List.mem_range'_1.1 (List.mem_filter.1 hk).1
  omega
end Go.Proofs.YtpcniebkabkikaaGreatDoor.Bt
namespace Go.Proofs
open Go.Shelf
def Tryz.lays7n29_ren:Go.Shelf.Ren:=⟨fun | 29=>237 | n=>n,fun | 22=>49 | 3=>3 | 4=>4 | 25=>208 | 54=>277 | 0=>0 | 5=>5 | n=>n,fun | 1=>2 | n=>n⟩
theorem Tryz.lays7n29:Go.Proofs.Lays7.n29 Tryz.prog Tryz.lays7n29_ren:={
  mixed:=by kernel_rfl
  f29:=Tryz.func237.trans (congrArg some (by kernel_rfl))
  t0:=Tryz.underlying0
  a0:=Tryz.isAgg0
  z0:=Tryz.sizeOf0
  v0:=Tryz.zeroValue0
  i0:=by kernel_rfl
  t3:=Tryz.underlying3
  a3:=Tryz.isAgg3
  z3:=Tryz.sizeOf3
  v3:=Tryz.zeroValue3
  i3:=by kernel_rfl
  t4:=Tryz.underlying4
  a4:=Tryz.isAgg4
  z4:=Tryz.sizeOf4
  v4:=Tryz.zeroValue4
  i4:=by kernel_rfl
  t5:=Tryz.underlying5
  a5:=Tryz.isAgg5
  z5:=Tryz.sizeOf5
  v5:=Tryz.zeroValue5
  i5:=by kernel_rfl
  t22:=Tryz.underlying49
  a22:=Tryz.isAgg49
  z22:=Tryz.sizeOf49
  v22:=Tryz.zeroValue49
  i22:=by kernel_rfl
  t25:=Tryz.underlying208
  a25:=Tryz.isAgg208
  z25:=Tryz.sizeOf208
  v25:=Tryz.zeroValue208
  i25:=by kernel_rfl
  t54:=Tryz.underlying277
  a54:=Tryz.isAgg277
  z54:=Tryz.sizeOf277
  g1:=by kernel_rfl }
theorem Tryz.bits_TrailingZeros64 (x:Nat) (hx:x<18446744073709551616) (w:World) (hT:x ≠ 0→TabAt 2 Lib.deBruijn64tab w) :
    Calls Tryz.prog 237 #[.int .u64 x] w fun e w'=>e=.returned (.int .i64 (Lib.ctz 64 x))∧w'=w:=Any7.bits_TrailingZeros64 Tryz.lays7n29 x hx w hT
end Go.Proofs
namespace Go.Proofs.YtpcniebkabkikaaGreatDoor.Bt
open Go Go.RowKit Go.Shelf
attribute [local go_sem] Oper.semAt_some
abbrev Pr:={ k:Nat // k<64 }
theorem same_flip {P:Program} {f:Nat} {args:Array Value} {w:World} {Q:Ending→Prop} (h:Calls P f args w fun e w'=>Q e∧w'=w):Calls P f args w fun e w'=>Q e∧w=w' :=
  h.mono fun _ _ ⟨a,b⟩=>⟨a,b.symm⟩
theorem tab_below {n₀:Nat} {A B:World} (hn:2<n₀) (h:Below n₀ A B) (hT:TabAt 2 Lib.deBruijn64tab A):TabAt 2 Lib.deBruijn64tab B :=
  fun j hj=>(h.cell (p:=⟨2,j,none⟩) hn).trans (hT j hj)
set_option maxRecDepth 100000 in
set_option maxHeartbeats 1000000 in
theorem each1_in (n l Bx n₀ x:Nat) (hn₀:2<n₀) (hx:x<18446744073709551616) (J Jx:List Pr→World→Prop)
    (hY:∀ pre k W,J pre W→pre.length<64→YieldAt Fence.wide (n - 1) Tryz.prog l #[.int .i64 (k.val:Int)] W fun e W' =>
      (e=.returned (.bool true)∧J (pre++[k]) W'∧Below n₀ W W') ∨ (e=.returned (.bool false)∧Jx (pre++[k]) W'))
    (W:World) (hT:TabAt 2 Lib.deBruijn64tab W) (hB:W.cell? ⟨Bx,0,none⟩=some (.int .u64 (x:Int))) (h0:J [] W) :
    CallsIn Fence.wide n Tryz.prog 236 #[.func (.yield l) #[] #[],.pointer (some ⟨Bx,0,none⟩)] W fun e W'=>(∃ v,e=.returned v) ∧
      ((∃ ys:List Pr,ys.map (·.val)=bitsOf x∧J ys W') ∨ (∃ pre:List Pr,pre.map (·.val) <+: bitsOf x∧Jx pre W')):=by
  refine callsIn_of_wp Tryz.func236 rfl trivial ?_ rfl
  simp only [Tryz.ntmps236,List.size_toArray,List.length_cons,List.length_nil,Nat.reduceAdd,Nat.reduceSub,Array.replicate_succ,Array.replicate_zero,List.push_toArray,List.append_toArray,List.nil_append,List.cons_append]
  gi_wp2
  gi_loopw [3] (fun t wr=>∃ (pre:List Pr) (y:Nat),y<18446744073709551616∧t=.int .u64 (y:Int)∧pre.map (·.val)++bitsOf y=bitsOf x∧TabAt 2 Lib.deBruijn64tab wr∧J pre wr)
    (fun t _=>(intOf t).toNat)
  case atStart =>
    exact ⟨[],x,hx,rfl,rfl,hT,h0⟩
  case round =>
    obtain ⟨pre,y,hy,rfl,hp,hTr,hJs⟩:=hrel
    by_cases hy0:y=0
    · subst hy0
      gi_wp2
      go_end0
      exact ⟨⟨_,rfl⟩,.inl ⟨pre,by simpa [bitsOf_zero] using hp,hJs⟩⟩
    · obtain ⟨hst,hk,hlt⟩:=bitsOf_step y hy0 hy
      have hpl:pre.length<64:=by
        have h1:=congrArg List.length hp
        rw [hst] at h1
        simp only [List.length_append,List.length_map,List.length_cons] at h1
        have h2:=bitsOf_length x
        have h3:=popN_le 64 x
        omega
      have hcall:=same_flip (Tryz.bits_TrailingZeros64 y hy wr (fun _=>hTr))
      generalize Lib.ctz 64 y=c at hst hk hcall
      obtain ⟨fn,tmps,assign,body,hy1,hR⟩:=hY pre ⟨c,hk⟩ wr hJs hpl
      have hy0':((y:Int) != 0)=true:=by simp;omega
      have hlt':y &&& (y - 1)<18446744073709551616:=by omega
      have HST:=Lib.hid hst
      have HP:=Lib.hid hp
      have HLT:=Lib.hid hlt
      have HL2:=Lib.hid hlt'
      have HA:=Lib.hid (bits_and_u64_nat y (y - 1) hy (by omega))
      have HW:=Lib.hid (show IntKind.u64.wrap ((y:Int) - 1)=((y - 1:Nat):Int) from by rw [show ((y:Int) - 1)=((y - 1:Nat):Int) from by omega,cast_wrap _ (by omega)])
      clear hy0 hst hp hlt hpl hlt'
      gi_wp2_with (refine ⟨trivial,(fun h=>by cases h),?_⟩;gi_at_call 237;refine (callsIn_wide.2 hcall).mono ?_;rintro e w' ⟨rfl,rfl⟩)
      refine ⟨(fun h=>by cases h),hR.mono ?_⟩
      rintro e W3 (⟨rfl,hJ3,hk3⟩ | ⟨rfl,hJx3⟩)
      · gi_wp2
        rw [HW.out,HA.out]
        exact ⟨⟨pre++[⟨c,hk⟩],y &&& (y - 1),HL2.out,rfl,by rw [← HP.out,HST.out];simp,tab_below hn₀ hk3 hTr,hJ3⟩,by have:=HLT.out;simp [intOf];omega⟩
      · gi_wp2
        refine bodyPost_ret (results_none rfl _ _ _) rfl ?_
        exact ⟨⟨_,rfl⟩,.inr ⟨pre++[⟨c,hk⟩],⟨bitsOf (y &&& (y - 1)),by rw [← HP.out,HST.out];simp⟩,hJx3⟩⟩
theorem each_any (x:Int) (w:World) :
    Calls Tryz.prog 201 #[.int .u64 x] w fun e w'=>e=.returned (.func (.func 236) #[] #[.pointer (some ⟨w.heap.size,0,none⟩)])∧w'=w.alloc (.cells #[.int .u64 x] 50):=by
  go_enter Tryz.func201,Tryz.ntmps201
  go_wp2
  go_ret
  exact ⟨rfl,rfl⟩
theorem each_stops (n Bx n₀ x:Nat) (hn₀:2<n₀) (hx:x<18446744073709551616) (w:World) (hw:n₀≤w.heap.size) (hBx:Bx<w.heap.size) (hT:TabAt 2 Lib.deBruijn64tab w)
    (hB:w.cell? ⟨Bx,0,none⟩=some (.int .u64 (x:Int))) :
    SeqStopsK Fence.wide n Tryz.prog 236 #[.pointer (some ⟨Bx,0,none⟩)] (fun k:Pr=>#[Value.int .i64 (k.val:Int)]) (Below n₀) (fun ys=>ys.map (·.val)=bitsOf x) (fun pre=>pre.map (·.val) <+: bitsOf x) 64 w :=
  fun l J Jx W hW _ _ hY h0 =>
    each1_in n l Bx n₀ x hn₀ hx J Jx hY W (tab_below hn₀ (hW.mono hw) hT) ((hW.cell (p:=⟨Bx,0,none⟩) hBx).trans hB) h0
end Go.Proofs.YtpcniebkabkikaaGreatDoor.Bt
namespace Go.Proofs.YtpcniebkabkikaaGreatDoor.Bt
open Go
def digB (c:UInt8):Bool:=decide (48≤c.toNat) && decide (c.toNat≤57)
def letB (c:UInt8):Bool:=(decide (97≤c.toNat) && decide (c.toNat≤122)) || decide (c.toNat=95)
def okB (c:UInt8):Bool:=letB c || digB c
def wfB:List UInt8→Bool
  | []=>false
  | c :: l=>decide ((c :: l).length≤32) && (!digB c && (c :: l).all okB)
theorem wfB_nil {l:List UInt8} (h:l.length<1):wfB l=false:=by
  cases l with
  | nil=>rfl
  | cons _ _=>simp at h
theorem wfB_long {l:List UInt8} (h:32<l.length):wfB l=false:=by
  cases l with
  | nil=>rfl
  | cons c l =>
    have:¬ (c :: l).length≤32:=by omega
    simp only [wfB,this,decide_false,Bool.false_and]
theorem wfB_dig {l:List UInt8} (h0:0<l.length) (h:digB l[0]=true):wfB l=false:=by
  cases l with
  | nil=>rfl
  | cons c l =>
    simp only [List.getElem_cons_zero] at h
    simp [wfB,h]
theorem wfB_bad {l:List UInt8} {k:Nat} (hk:k<l.length) (h:okB l[k]=false):wfB l=false:=by
  cases l with
  | nil=>rfl
  | cons c l =>
    have:(c :: l).all okB=false:=by
      rw [List.all_eq_false]
      exact ⟨_,List.getElem_mem hk,by rw [h];simp⟩
    simp only [wfB,this,Bool.and_false]
theorem wfB_good {l:List UInt8} (h0:0<l.length) (h1:l.length≤32) (h2:digB l[0]=false) (h3:l.all okB=true):wfB l=true:=by
  cases l with
  | nil=>simp at h0
  | cons c l =>
    simp only [List.getElem_cons_zero] at h2
    simp only [wfB,h2,h3,h1,decide_true,Bool.not_false,Bool.and_self]
theorem all_take_snoc {l:List UInt8} {k:Nat} (hk:k<l.length) (h:(l.take k).all okB=true) (h2:okB l[k]=true):(l.take (k+1)).all okB=true:=by
  rw [List.take_succ_eq_append_getElem hk]
  simp only [List.all_append,h,List.all_cons,h2,List.all_nil,Bool.and_self]
end Go.Proofs.YtpcniebkabkikaaGreatDoor.Bt