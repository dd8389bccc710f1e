/- A part of the proof of PrintBack: contracts and plain facts. -/
import Derived.Test.YtpcniebkabkikaaGreatDoorPBqR19
import Derived.Test.YtpcniebkabkikaaGreatDoorProg
import Derived.WalkKit
import Derived.Laws.Bits64b
import Derived.LoopTactic
import Derived.Lib.Hide
import Derived.Deep.QuietTactic
import Derived.BigQuiet
set_option maxRecDepth 100000
set_option maxHeartbeats 8000000
open Go.Lib (hid)
open Go.Proofs.Tryz
open List renaming length_append → nla, append_assoc → nlb, length_singleton → nlc
open Go.World renaming alloc_heap_new → nwn, size_alloc → nwz
namespace Go.Proofs.YtpcniebkabkikaaGreatDoor
open Go Go.RowKit Go.Proofs.Mm
section
variable {ys:List It} {len bp bw i:Nat} {vp:Value} {w:World}
theorem t7_ (hw:Ws ys) (h:PS ys len bp bw vp w i) {m:Mem} (hm:Has w m) (hbm:m bp=none) :
 Calls prog 191 #[.pointer (some ⟨bp,0,none⟩)] w (Ret ys len (fun k=>k=bp) w (namedP (Tk ys) (ys.length+1) i) (SOk ys len bp bw vp m w)):=by
 unfold namedP
 cases hn:Syn.named (Tk ys) i with
 | false =>
  rw [gz_ hn]
  exact (tv_ h hn (fun k=>k=bp) rfl).mono fun e w' ⟨h1,h2⟩=>⟨h2,h1⟩
 | true =>
  rw [c7_ len hn,cl_]
  cases hb:Syn.is (Tk ys) (i+1) [91] with
  | true=>rw [if_pos rfl];exact on_ hw h hm hbm hn hb
  | false =>
   rw [if_neg (by simp)]
   cases hq:Syn.is (Tk ys) (i+1) [40] with
   | true=>rw [if_pos rfl];exact ro_ hw h hm hbm hn hb hq
   | false=>rw [if_neg (by simp)];exact rp_ hw h hm hbm hn hb hq
theorem mk_if:Mk (bl ⟨#[105,102]⟩)=true:=by decide
theorem px_:Mk (bl ⟨#[119,104,105,108,101]⟩)=true:=by decide
theorem t8_:Mk (bl ⟨#[115,101,110,100]⟩)=true:=by decide
theorem tx_if : Syn.tx "if" = bl ⟨#[105,102]⟩ := by decide
theorem py_ : Syn.tx "while" = bl ⟨#[119,104,105,108,101]⟩ := by decide
theorem t9_ : Syn.tx "send" = bl ⟨#[115,101,110,100]⟩ := by decide
theorem pz_ {r:Syn.R Syn.St} {st:Syn.St} {j:Nat} (h:r=.ok (st,j)):oneP r=.ok ([st],j):=by rw [h];rfl
theorem zz_ {r:Syn.R Syn.St} {e k:Nat} (h:r=.error (e,k)):oneP r=.error (e,k):=by rw [h];rfl
structure SI (ys:List It) (len bp bw:Nat) (vp:Value) (m:Mem) (st0:List Syn.St) (v:Value) (w:World) (l:List Syn.St) (j:Nat) (n:Nat) (v':Value) (m':Mem) (W:World):Prop where
 len_:(st0++l).length=n
 br:BR W m' v' (st0++l)
 has:Has W m'
 bpn:m' bp=none
 own:∀k,v'.ownBlock=some k→m' k=none
 more:m.More w m'
 ob:Ob v w v'
 ps:PS ys len bp bw vp W j
 chg:Chg (TS bp v) w W
 size:w.heap.size≤W.heap.size
theorem SI.next {m m':Mem} {st0 l:List Syn.St} {v v':Value} {j j' n:Nat} {W W':World} (h:SI ys len bp bw vp m st0 v w l j n v' m' W) (hc:Chg (fun k=>k=bp) W W') (hp:PS ys len bp bw vp W' j'):SI ys len bp bw vp m st0 v w l j' n v' m' W' :=
 ⟨h.len_,dw_ h.ps h.br hc,h.has.chg hc (fun k e=>by subst e;exact h.bpn),h.bpn,h.own,h.more,h.ob,hp,h.chg.then (hn_ hc),Nat.le_trans h.size hc.size⟩
theorem SI.row {m m':Mem} {st0 l:List Syn.St} {v v':Value} {j n:Nat} {W W':World} (h:SI ys len bp bw vp m st0 v w l j n v' m' W) {x:List Syn.St} {j':Nat} {u:Value} (hc:Chg (TS bp v') W W') (hb:BOk ys len bp bw vp m' (st0++l) v' W x j' (.returned u) W') :
 ∃q c m2,u=.slice q (st0++(l++x)).length c∧SI ys len bp bw vp m st0 v w (l++x) j' (st0++(l++x)).length u m2 W':=by
 obtain ⟨u',m2,e,hmo,hH,hb2,hB,hv,ho,hp⟩:=hb
 injection e with e
 subst e
 rw [nlb] at hB
 obtain ⟨q,c,rfl⟩:=cd_ hB
 exact ⟨q,c,m2,rfl,rfl,hB,hH,hb2,hv,h.more.trans (hmo.from (w:=w) h.size) (Nat.le_refl _),h.ob.trans ho h.size,hp,h.chg.trans hc (fun k e=>h.ob.ts k e),Nat.le_trans h.size hc.size⟩
theorem SI.one {m m' m1:Mem} {st0 l:List Syn.St} {v v' v9:Value} {j n j':Nat} {W W1 w9:World} (h:SI ys len bp bw vp m st0 v w l j n v' m' W) {st:Syn.St} {vt ve:Value} (hc:Chg (fun k=>k=bp) W W1) (hmo:m'.More W m1) (hH:Has W1 m1) (hb1:m1 bp=none) (ht:StrM m1 vt st.targets) (hex:ExM m1 ve st.exprs) (hp:PS ys len bp bw vp W1 j')
 {cs:List Value} (hr:W1.ownsRow 0 57 4 v' n cs) (he:Enc (StM m1) cs (st0++l)) (hown:w9.ownsRow 0 57 4 v9 (n+1) (cs++[.int .i64 (st.kind:Int),.string (sb st.name),vt,ve])) (hg:(W1.alloc (.cells #[.int .i64 (st.kind:Int),.string (sb st.name),vt,ve] 57)).grownBy w9 v'.ownBlock) (hat:v9.ownBlock=v'.ownBlock∨v9.ownBlock=some (W1.heap.size+1)) :
 SI ys len bp bw vp m st0 v w (l++[st]) j' (n+1) v9 m1 w9:=by
 have hlt:∀k,v'.ownBlock=some k→k<W.heap.size:=fun k hk=>by obtain ⟨cs',h1,_⟩:=h.br;exact (h1.lt k hk).2
 obtain ⟨z1,z2,z3,z4,z5,z6,z7⟩:=fc_ hp h.len_ hr he hH (fun k hk=>hmo.new k (h.own k hk) (hlt k hk)) (cells:=[.int .i64 (st.kind:Int),.string (sb st.name),vt,ve]) ⟨vt,ve,rfl,ht,hex⟩ 57 hown hg hat
 have hs:w.heap.size≤W1.heap.size:=Nat.le_trans h.size hc.size
 exact ⟨by rw [←nlb];exact z1,by rw [←nlb];exact z2,z3,hb1,z4,h.more.trans (hmo.from (w:=w) h.size) (Nat.le_refl _),h.ob.trans z5 hs,z6,(h.chg.then (hn_ hc)).trans z7 (fun k e=>h.ob.ts k e),Nat.le_trans hs z7.size⟩
theorem SI.ok {m m':Mem} {st0 l:List Syn.St} {v v':Value} {j n:Nat} {W:World} (h:SI ys len bp bw vp m st0 v w l j n v' m' W):BOk ys len bp bw vp m st0 v w l j (.returned v') W :=
 ⟨v',m',rfl,h.more,h.has,h.bpn,h.br,h.own,h.ob,h.ps⟩
theorem mu_ (hw:Ws ys) {d:Nat} {s:Option (Nat→Syn.R (List Syn.St))} (hs:SOkD ys len bp bw vp d s) :
 RdS ys len bp bw vp 156 (fun v=>#[.pointer (some ⟨bp,0,none⟩),v,.int .i64 (d:Int)]) (fun i=>stF (Tk ys) (Syn.stmtOf (Tk ys) (ys.length+1) s) (ys.length+1) [] i):=by
 intro w i v st0 m h hm hbm hb hv hcount
 obtain ⟨qv,cv,rfl⟩:=cd_ hb
 obtain ⟨n0,hn0⟩:∃n0,st0.length=n0:=⟨_,rfl⟩
 rw [hn0] at hcount hb hv ⊢
 obtain ⟨j0,hj0,hy0,hy1,hy2⟩:=infoSt
 obtain ⟨RR,hRR⟩:∃RR,stF (Tk ys) (Syn.stmtOf (Tk ys) (ys.length+1) s) (ys.length+1) [] i=RR:=⟨_,rfl⟩
 show Calls _ _ _ _ (Ret ys len _ w (stF (Tk ys) (Syn.stmtOf (Tk ys) (ys.length+1) s) (ys.length+1) [] i) _)
 have hfit:=tz_ (ap_ ys) (s:=Syn.stmtOf (Tk ys) (ys.length+1) s) (fun i hi=>Syn.stmtOf_fit (ap_ ys) (by omega) hs.fit hs.good hi) (Syn.stmtOf_good hs.good) (ys.length+1) [] i h.le (by omega)
 rw [hRR] at hfit ⊢
 have HFIT:=hid hfit
 have HR0:=hid hRR
 have hle0:=h.le
 have H0:=hid (show SI ys len bp bw vp m st0 (.slice qv n0 cv) w [] i n0 (.slice qv n0 cv) m w from
  ⟨by rw [List.append_nil];exact hn0,by rw [List.append_nil];exact hb,hm,hbm,hv,Mem.More.refl _ _,fun k hk=>.inl hk,h,Chg.refl _ _,Nat.le_refl _⟩)
 clear hRR hfit h hm hb hv hn0
 go_enter func156,ntmps156
 go_wp2_with fail
 go_loopw [1] (fun a wr=>∃f l j n q c m2,n+(ys.length - j)≤131072∧a=.slice q n c∧Hid (stF (Tk ys) (Syn.stmtOf (Tk ys) (ys.length+1) s) f l j=RR)∧Hid (SI ys len bp bw vp m st0 (.slice qv n0 cv) w l j n (.slice q n c) m2 wr))
  (fun _ wr=>posW bp wr)
 case atStart=>exact ⟨ys.length+1,[],i,n0,qv,cv,m,hcount,rfl,HR0,H0⟩
 case round =>
  obtain ⟨f,l,j,n,q,c,m2,hcnt,rfl,HF,HS⟩:=hrel
  clear hcount
  cases f with
  | zero=>exact (HFIT.out.no99 (j:=j) (by rw [←HF.out];rfl)).elim
  | succ f =>
   have HPOS:=hid HS.out.ps.pos
   have hstep:start (Tk ys) j=true→(Syn.stmtOf (Tk ys) (ys.length+1) s j).on (fun x k=>stF (Tk ys) (Syn.stmtOf (Tk ys) (ys.length+1) s) f (l++x) k)=RR:=fun hst=>by
    rw [←HF.out,stF,hst,if_pos rfl]
   cases hif : Syn.is (Tk ys) j (Syn.tx "if") with
   | true =>
    have HG:=hid (show (branchP (Tk ys) (ys.length+1) s (j+1)).on (fun x k=>stF (Tk ys) (Syn.stmtOf (Tk ys) (ys.length+1) s) f (l++x) k)=RR from by
     rw [←hstep (by unfold start;rw [hif];rfl),c0_,hif,if_pos rfl])
    have hsk:=d7_ hw HS.out.ps ⟨#[105,102]⟩ mk_if (by rw [←tx_if];exact hif)
    have hlt:=a4_ hif
    clear hif hstep
    go_wp2_with fail
    go_at_call 95
    refine hsk.mono ?_
    rintro e wk ⟨rfl,hck,hpk⟩
    have HI:=hid (HS.out.next hck hpk)
    clear hsk hck hpk
    have hcall:=an_ (rr_ (len:=len) (bp:=bp) (bw:=bw) (vp:=vp) hw hs wk (j+1) _ (st0++l) m2 HI.out.ps HI.out.has HI.out.bpn HI.out.br HI.out.own (by rw [HI.out.len_];omega))
    have hle:=HI.out.ps.le
    go_wp2_with fail
    go_at_call 188
    refine hcall.mono ?_
    rintro e w4 ⟨hc4,⟨er,k,hr,rfl⟩|⟨x,j4,hr,hbo⟩⟩
    ·exact ⟨rfl,ai_ (by rw [←HG.out,hr];rfl) (HI.out.chg.trans hc4 (fun k e=>HI.out.ob.ts k e))⟩
    have HG4:=hid (show stF (Tk ys) (Syn.stmtOf (Tk ys) (ys.length+1) s) f (l++x) j4=RR from by rw [←HG.out,hr];rfl)
    have hcn:=j1_ hs.cnt hs.no _ _ _ hr
    obtain ⟨u,m9,he9,hrest⟩:=hbo
    obtain rfl:=he9
    obtain ⟨q4,c4,m4,rfl,hsi⟩:=HI.out.row hc4 ⟨u,m9,rfl,hrest⟩
    have hle4:=hsi.ps.le
    have hpos4:=hsi.ps.pos
    have hn4:(st0++(l++x)).length=n+x.length:=by rw [←nlb,nla,HI.out.len_]
    generalize (st0++(l++x)).length=n4 at *
    have HSI:=hid hsi
    have HN4:=hid hn4
    clear hcall hc4 hr hrest hsi hn4
    go_wp2_with fail
    refine ⟨⟨f,l++x,j4,n4,q4,c4,m4,by have:=HN4.out;omega,rfl,HG4,HSI⟩,?_⟩
    rw [hpos4,HPOS.out];omega
   | false =>
   have hsk1:=hid (d8_ hw HS.out.ps ⟨#[105,102]⟩ mk_if (by rw [←tx_if];exact hif))
   cases hwh : Syn.is (Tk ys) j (Syn.tx "while") with
   | true =>
    have HG:=hid (show (loopP (Tk ys) (ys.length+1) s (j+1)).on (fun x k=>stF (Tk ys) (Syn.stmtOf (Tk ys) (ys.length+1) s) f (l++x) k)=RR from by
     rw [←hstep (by unfold start;rw [hif,hwh];rfl),c0_,hif,if_neg (by simp),hwh,if_pos rfl])
    have hsk:=d7_ hw HS.out.ps ⟨#[119,104,105,108,101]⟩ px_ (by rw [←py_];exact hwh)
    have hlt:=a4_ hwh
    clear hif hwh hstep
    go_wp2_with fail
    go_at_call 95
    refine hsk1.out.mono ?_
    rintro e w' ⟨rfl,rfl⟩
    go_wp2_with fail
    go_at_call 95
    refine hsk.mono ?_
    rintro e wk ⟨rfl,hck,hpk⟩
    have HI:=hid (HS.out.next hck hpk)
    clear hsk hck hpk
    have hcall:=an_ (x9_ (len:=len) (bp:=bp) (bw:=bw) (vp:=vp) hw hs wk (j+1) _ (st0++l) m2 HI.out.ps HI.out.has HI.out.bpn HI.out.br HI.out.own (by rw [HI.out.len_];omega))
    have hle:=HI.out.ps.le
    go_wp2_with fail
    go_at_call 189
    refine hcall.mono ?_
    rintro e w4 ⟨hc4,⟨er,k,hr,rfl⟩|⟨x,j4,hr,hbo⟩⟩
    ·exact ⟨rfl,ai_ (by rw [←HG.out,hr];rfl) (HI.out.chg.trans hc4 (fun k e=>HI.out.ob.ts k e))⟩
    have HG4:=hid (show stF (Tk ys) (Syn.stmtOf (Tk ys) (ys.length+1) s) f (l++x) j4=RR from by rw [←HG.out,hr];rfl)
    have hcn:=mr_ hs.cnt hs.no _ _ _ hr
    obtain ⟨u,m9,he9,hrest⟩:=hbo
    obtain rfl:=he9
    obtain ⟨q4,c4,m4,rfl,hsi⟩:=HI.out.row hc4 ⟨u,m9,rfl,hrest⟩
    have hle4:=hsi.ps.le
    have hpos4:=hsi.ps.pos
    have hn4:(st0++(l++x)).length=n+x.length:=by rw [←nlb,nla,HI.out.len_]
    generalize (st0++(l++x)).length=n4 at *
    have HSI:=hid hsi
    have HN4:=hid hn4
    clear hcall hc4 hr hrest hsi hn4
    go_wp2_with fail
    refine ⟨⟨f,l++x,j4,n4,q4,c4,m4,by have:=HN4.out;omega,rfl,HG4,HSI⟩,?_⟩
    rw [hpos4,HPOS.out];omega
   | false =>
   have hsk2:=hid (d8_ hw HS.out.ps ⟨#[119,104,105,108,101]⟩ px_ (by rw [←py_];exact hwh))
   cases hse : Syn.is (Tk ys) j (Syn.tx "send") with
   | true =>
    have HG:=hid (show (oneP (sendP (Tk ys) (ys.length+1) (j+1))).on (fun x k=>stF (Tk ys) (Syn.stmtOf (Tk ys) (ys.length+1) s) f (l++x) k)=RR from by
     rw [←hstep (by unfold start;rw [hif,hwh,hse];rfl),c0_,hif,if_neg (by simp),hwh,if_neg (by simp),hse,if_pos rfl])
    have hsk:=d7_ hw HS.out.ps ⟨#[115,101,110,100]⟩ t8_ (by rw [←t9_];exact hse)
    have hlt:=a4_ hse
    have HIF:=hid hif
    have HWH:=hid hwh
    have HSE:=hid hse
    clear hif hwh hse hstep
    go_wp2_with fail
    go_at_call 95
    refine hsk1.out.mono ?_
    rintro e w' ⟨rfl,rfl⟩
    go_wp2_with fail
    go_at_call 95
    refine hsk2.out.mono ?_
    rintro e w' ⟨rfl,rfl⟩
    go_wp2_with fail
    go_at_call 95
    refine hsk.mono ?_
    rintro e wk ⟨rfl,hck,hpk⟩
    have HI:=hid (HS.out.next hck hpk)
    clear hsk hck hpk
    have hcall:=an_ (x6_ (len:=len) (bp:=bp) (bw:=bw) (vp:=vp) hw HI.out.ps HI.out.has HI.out.bpn)
    have hle:=HI.out.ps.le
    go_wp2_with fail
    go_at_call 190
    refine hcall.mono ?_
    rintro e w4 ⟨hc4,⟨er,k,hr,rfl⟩|⟨st,j4,hr,vt,ve,m4,rfl,hmo,hH,hb4,ht,hex,hp4⟩⟩
    ·exact ⟨rfl,ai_ (by rw [←HG.out,zz_ hr];rfl) (HI.out.chg.then (hn_ hc4))⟩
    obtain ⟨qt,ct,rfl⟩:=cz_ ht
    obtain ⟨qe,ce,rfl⟩:=dv_ hex
    have HG4:=hid (show stF (Tk ys) (Syn.stmtOf (Tk ys) (ys.length+1) s) f (l++[st]) j4=RR from by rw [←HG.out,pz_ hr];rfl)
    have hgo:j<j4:=(Syn.stmtOf_good hs.good j [st] j4 (by rw [c0_];rw [HIF.out,if_neg (by simp),HWH.out,if_neg (by simp),HSE.out,if_pos rfl];exact pz_ hr)).2.2
    have hle4:=hp4.le
    obtain ⟨cs4,hr4,he4⟩:=hc_ (x8_ (dw_ HI.out.ps HI.out.br hc4) hmo.le) HI.out.len_
    have HEND:=hid (fun v9 w9=>HI.out.one (v9:=v9) (w9:=w9) hc4 hmo hH hb4 ht hex hp4 hr4 he4)
    clear hcall hr hmo hH hb4 ht hex hp4
    generalize ((st.kind:Nat):Int)=sk at *
    generalize sb st.name=sn at *
    generalize st.targets.length=tn at *
    generalize st.exprs.length=en at *
    go_wp2_with (at_builtin;refine wpList_append_own_at _ rfl _ _ 52 rfl 0 57 j0 _ 4 72 Tryz.underlying52 hj0 hy0 hy1 hy2 rfl (by decide) _ _ _ rfl (hr4.alloc _) ⟨w4.heap.size,0,none⟩ 1 1 [.int .i64 sk,.string sn,.slice qt tn ct,.slice qe en ce] rfl rfl (be_ w4 [.int .i64 sk,.string sn,.slice qt tn ct,.slice qe en ce] 57) (hb_ _ _ _ _ _ _ _ _) (by unfold maxLen;omega) (by omega) (Nat.zero_le _) ?_)
    intro v9 w9 hown9 hgrow9 _ hat9
    obtain ⟨q9,c9,rfl⟩:=ah_ hown9
    have hsi:=HEND.out _ _ hown9 hgrow9 hat9
    have hpos4:=hsi.ps.pos
    have HSI:=hid hsi
    clear hown9 hgrow9 hat9 hr4 he4 hsi hc4
    go_wp2
    refine ⟨⟨f,l++[st],j4,n+1,q9,c9,m4,by omega,rfl,HG4,HSI⟩,?_⟩
    rw [hpos4,HPOS.out];omega
   | false =>
   have hsk3:=hid (d8_ hw HS.out.ps ⟨#[115,101,110,100]⟩ t8_ (by rw [←t9_];exact hse))
   have hk:=bl_ HS.out.ps 1
   cases hnm:Syn.named (Tk ys) j with
   | true =>
    rw [b2_,hnm] at hk
    have HG:=hid (show (oneP (namedP (Tk ys) (ys.length+1) j)).on (fun x k=>stF (Tk ys) (Syn.stmtOf (Tk ys) (ys.length+1) s) f (l++x) k)=RR from by
     rw [←hstep (by unfold start;rw [hnm];simp),c0_,hif,if_neg (by simp),hwh,if_neg (by simp),hse,if_neg (by simp)])
    have hlt:=cc_ hnm
    have HIF:=hid hif
    have HWH:=hid hwh
    have HSE:=hid hse
    clear hif hwh hse hnm hstep
    go_wp2_with fail
    go_at_call 95
    refine hsk1.out.mono ?_
    rintro e w' ⟨rfl,rfl⟩
    go_wp2_with fail
    go_at_call 95
    refine hsk2.out.mono ?_
    rintro e w' ⟨rfl,rfl⟩
    go_wp2_with fail
    go_at_call 95
    refine hsk3.out.mono ?_
    rintro e w' ⟨rfl,rfl⟩
    go_wp2_with (go_at_call 184;refine hk.mono ?_;rintro e wk ⟨rfl,rfl⟩)
    have HI:=HS
    have hcall:=an_ (t7_ (len:=len) (bp:=bp) (bw:=bw) (vp:=vp) hw HI.out.ps HI.out.has HI.out.bpn)
    have hle:=HI.out.ps.le
    go_wp2_with fail
    go_at_call 191
    refine hcall.mono ?_
    rintro e w4 ⟨hc4,⟨er,k,hr,rfl⟩|⟨st,j4,hr,vt,ve,m4,rfl,hmo,hH,hb4,ht,hex,hp4⟩⟩
    ·exact ⟨rfl,ai_ (by rw [←HG.out,zz_ hr];rfl) (HI.out.chg.then (hn_ hc4))⟩
    obtain ⟨qt,ct,rfl⟩:=cz_ ht
    obtain ⟨qe,ce,rfl⟩:=dv_ hex
    have HG4:=hid (show stF (Tk ys) (Syn.stmtOf (Tk ys) (ys.length+1) s) f (l++[st]) j4=RR from by rw [←HG.out,pz_ hr];rfl)
    have hgo:j<j4:=(Syn.stmtOf_good hs.good j [st] j4 (by rw [c0_];rw [HIF.out,if_neg (by simp),HWH.out,if_neg (by simp),HSE.out,if_neg (by simp)];exact pz_ hr)).2.2
    have hle4:=hp4.le
    obtain ⟨cs4,hr4,he4⟩:=hc_ (x8_ (dw_ HI.out.ps HI.out.br hc4) hmo.le) HI.out.len_
    have HEND:=hid (fun v9 w9=>HI.out.one (v9:=v9) (w9:=w9) hc4 hmo hH hb4 ht hex hp4 hr4 he4)
    clear hcall hr hmo hH hb4 ht hex hp4
    generalize ((st.kind:Nat):Int)=sk at *
    generalize sb st.name=sn at *
    generalize st.targets.length=tn at *
    generalize st.exprs.length=en at *
    go_wp2_with (at_builtin;refine wpList_append_own_at _ rfl _ _ 52 rfl 0 57 j0 _ 4 72 Tryz.underlying52 hj0 hy0 hy1 hy2 rfl (by decide) _ _ _ rfl (hr4.alloc _) ⟨w4.heap.size,0,none⟩ 1 1 [.int .i64 sk,.string sn,.slice qt tn ct,.slice qe en ce] rfl rfl (be_ w4 [.int .i64 sk,.string sn,.slice qt tn ct,.slice qe en ce] 57) (hb_ _ _ _ _ _ _ _ _) (by unfold maxLen;omega) (by omega) (Nat.zero_le _) ?_)
    intro v9 w9 hown9 hgrow9 _ hat9
    obtain ⟨q9,c9,rfl⟩:=ah_ hown9
    have hsi:=HEND.out _ _ hown9 hgrow9 hat9
    have hpos4:=hsi.ps.pos
    have HSI:=hid hsi
    clear hown9 hgrow9 hat9 hr4 he4 hsi hc4
    go_wp2
    refine ⟨⟨f,l++[st],j4,n+1,q9,c9,m4,by omega,rfl,HG4,HSI⟩,?_⟩
    rw [hpos4,HPOS.out];omega
   | false =>
    rw [b2_,hnm] at hk
    have HE:=hid (show RR=.ok (l,j) from by
     rw [←HF.out,stF,show start (Tk ys) j=false from by unfold start;rw [hif,hwh,hse,hnm];rfl,if_neg (by simp)])
    clear hif hwh hse hnm hstep
    go_wp2_with fail
    go_at_call 95
    refine hsk1.out.mono ?_
    rintro e w' ⟨rfl,rfl⟩
    go_wp2_with fail
    go_at_call 95
    refine hsk2.out.mono ?_
    rintro e w' ⟨rfl,rfl⟩
    go_wp2_with fail
    go_at_call 95
    refine hsk3.out.mono ?_
    rintro e w' ⟨rfl,rfl⟩
    go_wp2_with (go_at_call 184;refine hk.mono ?_;rintro e wk ⟨rfl,rfl⟩)
    go_ret
    exact bx_ HE.out HS.out.chg HS.out.ok
theorem mv_ (hw:Ws ys):∀d,d≤12→RdS ys len bp bw vp 156 (fun v=>#[.pointer (some ⟨bp,0,none⟩),v,.int .i64 ((12 - d:Nat):Int)]) (fun i=>stF (Tk ys) (Syn.stmtD (Tk ys) (ys.length+1) d) (ys.length+1) [] i)
 | 0,_=>mu_ hw (.inl ⟨rfl,rfl⟩)
 | d+1,h=>by
  refine mu_ hw (d:=12 - (d+1)) (s:=some (Syn.stmtD (Tk ys) (ys.length+1) d)) (.inr ⟨by omega,_,rfl,ih_ d,Syn.stmt_fit (ap_ ys) (by omega) d,Syn.stmt_good d,k5_ d,?_⟩)
  have:=mv_ hw d (by omega)
  rw [show (((12 - (d+1):Nat):Int)+1)=((12 - d:Nat):Int) by omega]
  exact this
end
end Go.Proofs.YtpcniebkabkikaaGreatDoor
namespace Go.Proofs.YtpcniebkabkikaaGreatDoor
open Go Go.RowKit
theorem cast_wrap (x:Nat) (h:x<18446744073709551616):IntKind.u64.wrap (x:Int)=(x:Int):=by
 rw [IntKind.wrap_u64];omega
def orAll (zs:List Nat):Nat:=zs.foldl (fun x y=>x ||| y) 0
theorem rt_ (zs:List Nat) (x:Nat):orAll (zs++[x])=orAll zs ||| x:=by simp [orAll]
theorem or_lt {a b:Nat} (ha:a<18446744073709551616) (hb:b<18446744073709551616):a ||| b<18446744073709551616 :=
 Nat.or_lt_two_pow (n:=64) ha hb
theorem p0_ (zs:List Nat) (h:∀z∈zs,z<18446744073709551616):orAll zs<18446744073709551616:=by
 unfold orAll
 have:∀(l:List Nat) (a:Nat),a<18446744073709551616→(∀z∈l,z<18446744073709551616)→l.foldl (fun x y=>x ||| y) a<18446744073709551616:=by
  intro l
  induction l with
  | nil=>intro a ha _;exact ha
  | cons x l ih=>intro a ha hl;exact ih _ (or_lt ha (hl x (by simp))) (fun z hz=>hl z (by simp [hz]))
 exact this zs 0 (by omega) h
theorem jr_ (zs:List Nat) (k:Nat) (h:k<zs.length):zs.take (k+1)=zs.take k++[zs.getD k 0]:=by
 rw [List.take_succ_eq_append_getElem h];simp [h]
theorem yf_ (b off c:Nat) (zs:List Nat) (hz:∀z∈zs,z<18446744073709551616) (hlen:zs.length≤maxLen) (w:World)
 (hc:∀i,i<zs.length→w.cell? ⟨b,off+i,none⟩=some (.int .u64 ((zs.getD i 0:Nat):Int))) :
 Calls prog 185 #[.slice (some ⟨b,off,none⟩) zs.length c] w fun e w'=>e=.returned (.int .u64 (orAll zs:Nat))∧w=w':=by
 unfold maxLen at hlen
 go_enter func185,ntmps185
 go_wp2
 go_loop [3,8] (fun t i=>∃k:Nat,k≤zs.length∧i=.int .i64 k∧t=.int .u64 (orAll (zs.take k):Nat))
  (fun _ i=>zs.length - (intOf i).toNat)
 case atStart=>exact ⟨0,Nat.zero_le _,rfl,by simp [orAll]⟩
 case round =>
  obtain ⟨k,hk,rfl,rfl⟩:=hrel
  by_cases hlt:k<zs.length
  ·have hcell:=hc k hlt
   have hb1:orAll (zs.take k)<18446744073709551616:=p0_ _ (fun z hz'=>hz z (List.mem_of_mem_take hz'))
   have hb2:zs.getD k 0<18446744073709551616:=hz _ (by simp [hlt])
   have HO:=hid (bits_or_u64_nat _ _ hb1 hb2)
   have HS:=hid (jr_ zs k hlt)
   clear hb1 hb2
   go_wp2
   go_round
   case rel=>exact ⟨k+1,by omega,by go_num,by rw [HS.out,rt_,←HO.out];simp [hlt]⟩
   case measure=>simp [intOf];omega
  ·go_wp2
   go_ret
   exact ⟨by rw [List.take_of_length_le (by omega)];rfl,rfl⟩
def ofStep (a:Nat) (k:Int):Nat:=if 0≤k∧k<64 then a ||| 2 ^ k.toNat else a
def ofInts (zs:List Int):Nat:=zs.foldl ofStep 0
theorem fe_ (zs:List Int) (x:Int):ofInts (zs++[x])=ofStep (ofInts zs) x:=by simp [ofInts]
theorem k9_ (n:Nat) (h:n<64):2 ^ n<18446744073709551616:=Nat.pow_lt_pow_right (a:=2) (m:=n) (n:=64) (by omega) h
theorem ua_ (a:Nat) (k:Int) (ha:a<18446744073709551616):ofStep a k<18446744073709551616:=by
 unfold ofStep
 split
 ·exact or_lt ha (k9_ _ (by omega))
 ·exact ha
theorem io_ (zs:List Int):ofInts zs<18446744073709551616:=by
 have:∀(l:List Int) (a:Nat),a<18446744073709551616→l.foldl ofStep a<18446744073709551616:=by
  intro l
  induction l with
  | nil=>intro a ha;exact ha
  | cons x l ih=>intro a ha;exact ih _ (ua_ a x ha)
 exact this zs 0 (by omega)
theorem la_ (zs:List Int) (k:Nat) (h:k<zs.length):zs.take (k+1)=zs.take k++[zs.getD k 0]:=by
 rw [List.take_succ_eq_append_getElem h];simp [h]
theorem yg_ (n:Nat) (h:n<64):IntKind.u64.wrap ((2:Int) ^ n)=((2 ^ n:Nat):Int):=by
 have:((2:Int) ^ n)=((2 ^ n:Nat):Int):=by push_cast;rfl
 rw [this]
 exact cast_wrap _ (k9_ n h)
theorem of_any (b off c:Nat) (zs:List Int) (hlen:zs.length≤maxLen) (w:World)
 (hc:∀i,i<zs.length→w.cell? ⟨b,off+i,none⟩=some (.int .i64 (zs.getD i 0))) :
 Calls prog 186 #[.slice (some ⟨b,off,none⟩) zs.length c] w fun e w'=>e=.returned (.int .u64 (ofInts zs:Nat))∧w=w':=by
 unfold maxLen at hlen
 go_enter func186,ntmps186
 go_wp2
 go_loop [3,8] (fun t i=>∃k:Nat,k≤zs.length∧i=.int .i64 k∧t=.int .u64 (ofInts (zs.take k):Nat))
  (fun _ i=>zs.length - (intOf i).toNat)
 case atStart=>exact ⟨0,Nat.zero_le _,rfl,by simp [ofInts]⟩
 case round =>
  obtain ⟨k,hk,rfl,rfl⟩:=hrel
  by_cases hlt:k<zs.length
  ·obtain ⟨x,hx⟩:∃x,zs.getD k 0=x:=⟨_,rfl⟩
   have hcell:=hc k hlt
   rw [hx] at hcell
   have HS:=hid (la_ zs k hlt)
   have HX:=hid hx
   clear hx hc
   have hb:=io_ (zs.take k)
   by_cases hr:0≤x∧x<64
   ·obtain ⟨h0,h1⟩:=hr
    have HO:=hid (bits_or_u64_nat _ _ hb (k9_ x.toNat (by omega)))
    clear hb
    have HW:=hid (yg_ x.toNat (by omega))
    go_wp2
    go_round
    case rel=>exact ⟨k+1,by omega,by go_num,by rw [HS.out,HX.out,fe_,ofStep,if_pos ⟨h0,h1⟩,←HO.out,HW.out]⟩
    case measure=>simp [intOf];omega
   ·clear hb
    by_cases h0:0≤x
    ·have h1:¬x<64:=fun h=>hr ⟨h0,h⟩
     have HR:=hid hr
     clear hr
     go_wp2
     go_round
     case rel=>exact ⟨k+1,by omega,by go_num,by rw [HS.out,HX.out,fe_,ofStep,if_neg HR.out]⟩
     case measure=>simp [intOf];omega
    ·have HR:=hid hr
     clear hr
     go_wp2
     go_round
     case rel=>exact ⟨k+1,by omega,by go_num,by rw [HS.out,HX.out,fe_,ofStep,if_neg HR.out]⟩
     case measure=>simp [intOf];omega
  ·go_wp2
   go_ret
   exact ⟨by rw [List.take_of_length_le (by omega)];rfl,rfl⟩
end Go.Proofs.YtpcniebkabkikaaGreatDoor
namespace Go.Proofs.YtpcniebkabkikaaGreatDoor
open Go Go.RowKit Go.Proofs.Mm
def NR (w:World) (vp:Value) (ns:List (List Nat)):Prop:=w.ownsRow 0 9 1 vp ns.length (strC ns)∧ns.length≤64∧∀s∈ns,bl (sb s)=s
theorem nr_cell {w:World} {q:Option Addr} {n c:Nat} {ns:List (List Nat)} (h:NR w (.slice q n c) ns) (j:Nat) (hj:j<ns.length):∃g,q=some ⟨g,0,none⟩∧w.cell? ⟨g,j,none⟩=some (.string (sb ns[j])):=by
 obtain ⟨h,_,_⟩:=h
 rcases h.2 with ⟨h0,h1⟩|⟨g,cap,cur,h0,_,hg,_,_,_,ht⟩
 ·omega
 ·simp only [Value.slice.injEq] at h0
  obtain ⟨rfl,rfl,rfl⟩:=h0
  refine ⟨g,rfl,aa_ hg ?_⟩
  have hk:=congrArg (fun l=>l[j]?) ht
  simp only [List.getElem?_take,strC,List.getElem?_map,List.getElem?_eq_getElem hj,Option.map_some] at hk
  rw [if_pos (by omega)] at hk
  simpa using hk
def ixV (ns:List (List Nat)) (t:List Nat):Int:=if ns.idxOf t<ns.length then (ns.idxOf t:Int) else -1
theorem ix_miss {ns:List (List Nat)} {t:List Nat} {k:Nat} (hk:k<ns.idxOf t) (h:k<ns.length):ns[k]≠t:=by
 intro e
 have:=List.not_of_lt_findIdx (p:=fun x=>x == t) (xs:=ns) (show k<ns.findIdx (fun x=>x == t) from hk)
 simp [e] at this
theorem ub_ {w:World} {q:Option Addr} {n c:Nat} {ns:List (List Nat)} (h:NR w (.slice q n c) ns) (hn:n=ns.length) (t:ByteArray) :
 Calls prog 224 #[.slice q n c,.string t] w fun e w'=>e=.returned (.int .i64 (ixV ns (bl t)))∧w=w':=by
 subst hn
 have hlen:=h.2.1
 obtain ⟨nn,hnn⟩:∃nn,ns.length=nn:=⟨_,rfl⟩
 have hcell:=fun j (hj:j<ns.length)=>nr_cell h j hj
 have heq:=fun j (hj:j<ns.length)=>h.2.2 ns[j] (List.getElem_mem hj)
 have hmiss:=fun j (hj:j<ns.length) (hi:j<ns.idxOf (bl t))=>ix_miss hi hj
 have hle:=List.idxOf_le_length (a:=bl t) (l:=ns)
 have hhit:=fun (hi:ns.idxOf (bl t)<ns.length)=>List.getElem_idxOf hi
 have HV:=hid (show ixV ns (bl t)=if ns.idxOf (bl t)<ns.length then (ns.idxOf (bl t):Int) else -1 from rfl)
 rw [hnn] at hlen hle ⊢
 have HNN:=hid hnn
 have HC:=hid hcell
 have HQ:=hid heq
 have HM:=hid hmiss
 have HH:=hid hhit
 obtain ⟨ix,hix⟩:∃ix,ns.idxOf (bl t)=ix:=⟨_,rfl⟩
 have HIX:=hid hix
 rw [hix] at hle
 obtain ⟨iv,hiv⟩:∃iv,ixV ns (bl t)=iv:=⟨_,rfl⟩
 rw [hiv]
 have HIV:=hid hiv
 clear hnn hcell heq hmiss hhit h hix hiv
 go_enter func224,ntmps224
 go_wp2
 go_loop [8] (fun a=>∃k:Nat,k≤ix∧a=.int .i64 k) (fun a=>65 - (intOf a).toNat)
 case atStart=>exact ⟨0,Nat.zero_le _,rfl⟩
 case round =>
  obtain ⟨k,hk,rfl⟩:=hrel
  by_cases hkn:k<nn
  ·obtain ⟨g,rfl,hck⟩:=HC.out k (by rw [HNN.out];exact hkn)
   have hb:=HQ.out k (by rw [HNN.out];exact hkn)
   by_cases hki:k=ix
   ·subst hki
    have he:(t.toList == (sb (ns[k]'(by rw [HNN.out];exact hkn))).toList)=true:=by
     rw [ax_,hb]
     have h2:=HH.out (by rw [HIX.out,HNN.out];exact hkn)
     simp only [HIX.out] at h2
     rw [h2];simp
    have HR:=hid (show iv=(k:Int) from by rw [←HIV.out,HV.out,HIX.out,HNN.out,if_pos hkn])
    clear hb
    generalize sb (ns[k]'_)=sk at *
    go_wp2
    go_ret
    exact ⟨by rw [HR.out];rfl,rfl⟩
   ·have he:(t.toList == (sb (ns[k]'(by rw [HNN.out];exact hkn))).toList)=false:=by
     rw [ax_,hb,beq_eq_false_iff_ne]
     exact fun e=>HM.out k (by rw [HNN.out];exact hkn) (by rw [HIX.out];omega) e.symm
    have hlt:k<ix:=by omega
    clear hb hki
    generalize sb (ns[k]'_)=sk at *
    go_wp2
    go_round
    case rel=>exact ⟨k+1,by omega,by go_num⟩
    case measure=>simp [intOf];omega
  ·have HR:=hid (show iv=-1 from by rw [←HIV.out,HV.out,HIX.out,HNN.out,if_neg (by omega)])
   go_wp2
   go_ret
   exact ⟨by rw [HR.out];rfl,rfl⟩
section
variable {ys:List It} {len bp bw i:Nat} {vp:Value} {w:World} {ns:List (List Nat)}
theorem PS.raw1 (h:PS ys len bp bw vp w i):w.cell? ⟨bp,1,none⟩=some vp:=by
 obtain ⟨c,h1,_⟩:=h.st
 exact aa_ h1 rfl
theorem PS.drewN (h:PS ys len bp bw vp w i) (n:Nat):PS ys len bp bw vp (w.drewN n) i:=h.chg (S:=fun _=>False) ((Chg.refl _ w).drewN n) id id
theorem by_ (hn:NR w vp ns) {w':World} {S:Nat→Prop} (hc:Chg S w w') (h:∀k,vp.ownBlock=some k→¬S k):NR w' vp ns:=⟨a0_ hn.1 hc h,hn.2⟩
theorem nr_bp (hn:NR w vp ns) (h:PS ys len bp bw vp w i):∀k,vp.ownBlock=some k→¬k=bp:=by
 rintro k hk rfl
 obtain ⟨cur,h2⟩:=av_ hn.1 hk
 obtain ⟨c,h1,_⟩:=h.st
 have:=h1.symm.trans h2
 simp at this
theorem b7_ (hn:NR w vp ns) (h:PS ys len bp bw vp w i) {w':World} (hc:Chg (fun k=>k=bp) w w'):NR w' vp ns:=by_ hn hc (nr_bp hn h)
def memberP (T:Nat→Option Syn.K) (ns:List (List Nat)) (i:Nat):Syn.R Nat :=
 (Syn.name T i).on fun s j=>if ns.idxOf s<ns.length then .ok (ns.idxOf s,j) else .error (10,i)
theorem ru_ {W:World} {q:Option Addr} {n c:Nat} (h:NR W (.slice q n c) ns) (hn:n=ns.length) (t:ByteArray) :
 Calls prog 224 #[.slice q n c,.string t] W fun e w'=>e=.returned (.int .i64 (ixV ns (bl t)))∧w'=W:=(ub_ h hn t).mono fun _ _ ⟨a,b⟩=>⟨a,b.symm⟩
theorem rv_ (_hw:Ws ys) (h:PS ys len bp bw vp w i) (hn:NR w vp ns) :
 Calls prog 187 #[.pointer (some ⟨bp,0,none⟩)] w (Ret ys len (fun k=>k=bp) w (memberP (Tk ys) ns i) fun k j e w'=>e=.returned (.int .i64 (k:Nat))∧k<64∧PS ys len bp bw vp w' j∧NR w' vp ns):=by
 obtain ⟨qv,cv,rfl⟩:=ah_ hn.1
 obtain ⟨c,h0,hf,hc,hc2,h1,h2,h3,h4⟩:=h.raw
 have h5:=h.raw1
 have hle:=h.le
 have hm:0<ys.length+1 - i:=by omega
 have HIX:=hid (fun n=>ru_ (W:=w.drewN n) (show NR (w.drewN n) (.slice qv ns.length cv) ns from by_ hn ((Chg.refl (fun _=>False) w).drewN n) (fun _ _ e=>e)) rfl (tk ys len i).t)
 have HP:=hid h
 have HN:=hid hn
 have hl64:=hn.2.1
 have HC0:=hid (fun n=>(Chg.refl (fun k=>k=bp) w).drewN n)
 have HNd:=hid (fun n=>by_ hn ((Chg.refl (fun _=>False) w).drewN n) (fun _ _ e=>e))
 cases hnm:Syn.named (Tk ys) i with
 | false =>
  have HK:=hid (fun n=>by
   have:=bl_ (h.drewN n) 1
   rw [b2_,hnm] at this
   exact this)
  have HNO:=hid (fun n=>eq_ (h.drewN n) hnm (fun k=>k=bp) rfl)
  have HE:=hid (show memberP (Tk ys) ns i=.error (50,i) from by unfold memberP;rw [gz_ hnm];rfl)
  obtain ⟨iv,hiv⟩:∃iv,ixV ns (bl (tk ys len i).t)=iv:=⟨_,rfl⟩
  rw [hiv] at HIX
  have HIV:=hid hiv
  clear hiv h hn hf hc hc2 h1 h3 h4 hnm
  generalize ys.length+1 - i=m at *
  generalize 4*i=o at *
  go_enter func187,ntmps187
  go_wp2
  go_quiet ((go_at_call 224;exact Calls.quiet_of_same (HIX.out _)))
  go_wp2_with (go_at_call 184;refine (HK.out _).mono ?_;rintro e w' ⟨rfl,rfl⟩)
  go_at_call 150
  refine (HNO.out _).mono ?_
  rintro e w2 ⟨rfl,hc⟩
  exact ⟨rfl,ai_ HE.out ((HC0.out _).then hc)⟩
 | true =>
  have HK:=hid (fun n=>by
   have:=bl_ (h.drewN n) 1
   rw [b2_,hnm] at this
   exact this)
  by_cases hx:ns.idxOf (bl (tk ys len i).t)<ns.length
  ·have HNO:=hid (fun n=>cu_ (h.drewN n) hnm)
   have HE:=hid (show memberP (Tk ys) ns i=.ok (ns.idxOf (bl (tk ys len i).t),i+1) from by unfold memberP;rw [c7_ len hnm,cl_,if_pos hx])
   have hiv:ixV ns (bl (tk ys len i).t)=(ns.idxOf (bl (tk ys len i).t):Int):=if_pos hx
   rw [hiv] at HIX
   have hl2:ns.idxOf (bl (tk ys len i).t)<64:=by omega
   have HPN:=hid (fun n=>h.drewN n)
   clear hiv h hn hf hc hc2 h1 h3 h4 hnm hx
   generalize ns.idxOf (bl (tk ys len i).t)=ix at *
   have hge:¬(ix:Int)<0:=by omega
   have hge2:decide ((ix:Int)<0)=false:=by simp
   generalize ys.length+1 - i=m at *
   generalize 4*i=o at *
   go_enter func187,ntmps187
   go_wp2
   go_quiet ((go_at_call 224;exact Calls.quiet_of_same (HIX.out _)))
   go_wp2_with (go_at_call 184;refine (HK.out _).mono ?_;rintro e w' ⟨rfl,rfl⟩)
   go_at_call 150
   refine (HNO.out _).mono ?_
   rintro e w2 ⟨rfl,hcw,hp⟩
   go_wp2
   go_ret
   exact bx_ HE.out ((HC0.out _).then hcw) ⟨rfl,hl2,hp,b7_ (HNd.out _) (HPN.out _) hcw⟩
  ·have HF:=hid (fun n=>fg_ (h.drewN n) 10 (fun k=>k=bp))
   have HE:=hid (show memberP (Tk ys) ns i=.error (10,i) from by unfold memberP;rw [c7_ len hnm,cl_,if_neg hx])
   have hiv:ixV ns (bl (tk ys len i).t)=-1:=if_neg hx
   rw [hiv] at HIX
   clear hiv h hn hf hc hc2 h1 h3 h4 hnm hx
   generalize ys.length+1 - i=m at *
   generalize 4*i=o at *
   go_enter func187,ntmps187
   go_wp2
   go_quiet ((go_at_call 224;exact Calls.quiet_of_same (HIX.out _)))
   go_wp2_with (go_at_call 184;refine (HK.out _).mono ?_;rintro e w' ⟨rfl,rfl⟩)
   go_at_call 144
   refine (HF.out _).mono ?_
   rintro e w2 ⟨rfl,hc⟩
   exact ⟨rfl,ai_ HE.out ((HC0.out _).then hc)⟩
theorem or_pow (l k:Nat):l ||| 1 <<< k=orAll [l,ofInts [(k:Int)]]∨64≤k:=by
 by_cases hk:k<64
 ·left
  have hk2:(k:Int)<64:=by omega
  unfold orAll ofInts ofStep
  simp [Nat.one_shiftLeft,hk2]
 ·exact .inr (by omega)
theorem mk_123':Mk (bl ⟨#[123]⟩)=true:=by decide
def labP (T:Nat→Option Syn.K) (ns:List (List Nat)) (f l i:Nat):Syn.R Nat:=(Syn.labelF T ns f l i).on fun l i=>(Syn.want T i [125]).on fun _ i=>.ok (l,i)
theorem fy_ (hw:Ws ys) (h:PS ys len bp bw vp w i) (hn:NR w vp ns) :
 Calls prog 152 #[.pointer (some ⟨bp,0,none⟩)] w (Ret ys len (fun k=>k=bp) w (Syn.label (Tk ys) (ys.length+1) ns i) fun l j e w'=>e=.returned (.int .u64 (l:Nat))∧l<18446744073709551616∧PS ys len bp bw vp w' j∧NR w' vp ns):=by
 have hfit:=Syn.label_fit (ap_ ys) (F:=ys.length+1) (by omega) ns h.le
 obtain ⟨RR,hRR⟩:∃RR,Syn.label (Tk ys) (ys.length+1) ns i=RR:=⟨_,rfl⟩
 rw [hRR] at hfit ⊢
 have hR0:(Syn.want (Tk ys) i [123]).on (fun _ i=>labP (Tk ys) ns (ys.length+1) 0 i)=RR:=hRR
 have HR0:=hid hR0
 have HFIT:=hid hfit
 have h1:=bt_ hw h ⟨#[123]⟩ j0_
 have HN:=hid hn
 have HP:=hid h
 clear hRR hR0 hfit hn h
 go_enter func152,ntmps152
 go_wp2_with fail
 go_at_call 149
 refine h1.mono ?_
 rintro e w1 ⟨hc1,⟨hr,rfl⟩|⟨hr,rfl,hp1⟩⟩
 ·exact ⟨rfl,ai_ (by rw [←HR0.out,show ([123]:List Nat)=bl ⟨#[123]⟩ from rfl,hr];rfl) hc1⟩
 have HR1:=hid (show labP (Tk ys) ns (ys.length+1) 0 (i+1)=RR from by rw [←HR0.out,show ([123]:List Nat)=bl ⟨#[123]⟩ from rfl,hr];rfl)
 have HN1:=hid (b7_ HN.out HP.out hc1)
 have C1:=hid hc1
 have HP1:=hid hp1
 clear hc1 hr h1 hp1
 go_wp2_with fail
 go_loopw [3] (fun a wr=>∃f l j,l<18446744073709551616∧a=.int .u64 (l:Nat)∧Hid (labP (Tk ys) ns f l j=RR)∧Hid (PS ys len bp bw vp wr j)∧Hid (NR wr vp ns)∧Hid (Chg (fun k=>k=bp) w wr))
  (fun _ wr=>posW bp wr)
 case atStart=>exact ⟨ys.length+1,0,i+1,by omega,rfl,HR1,HP1,HN1,C1⟩
 case round =>
  obtain ⟨f,l,j,hl,rfl,HF,HPr,HNr,HCr⟩:=hrel
  cases f with
  | zero=>exact (HFIT.out.no99 (j:=j) (by rw [←HF.out];rfl)).elim
  | succ f =>
   have HPOS:=hid HPr.out.pos
   have hF:=HF.out
   unfold labP at hF
   cases hx:Syn.is (Tk ys) j [125] with
   | true =>
    have hlt:=a4_ hx
    have HE:=hid (show RR=.ok (l,j+1) from by
     have hlf:Syn.labelF (Tk ys) ns (f+1) l j=.ok (l,j):=by
      rw [Syn.labelF]
      rw [cn_ (len:=len) hlt]
      simp only
      rw [if_neg (fun e=>by
       have hnm:Syn.named (Tk ys) j=true:=by unfold Syn.named;rw [cn_ (len:=len) hlt];simpa using e
       rw [Syn.not_is hnm] at hx;cases hx)]
     rw [←hF,hlf,cl_,show Syn.want (Tk ys) j [125]=.ok ((),j+1) from if_pos hx];rfl)
    have hsk:=d7_ hw HPr.out ⟨#[125]⟩ ps_ hx
    clear hx hF
    go_wp2_with (go_at_call 95;refine hsk.mono ?_;rintro e w3 ⟨rfl,hc3,hp3⟩)
    go_ret
    exact bx_ HE.out (HCr.out.then hc3) ⟨rfl,hl,hp3,b7_ HNr.out HPr.out hc3⟩
   | false =>
    have hsk:=d8_ hw HPr.out ⟨#[125]⟩ ps_ hx
    have hmem:=an_ (rv_ hw HPr.out HNr.out)
    have HSTEP:=hid (show (memberP (Tk ys) ns j).on (fun k i=>labP (Tk ys) ns f (l ||| 1 <<< k) i)=RR from by
     rw [←hF]
     unfold memberP labP
     rw [Syn.labelF]
     cases hT:Tk ys j with
     | none =>
      unfold Syn.name
      rw [hT]
      simp only [Syn.R.on]
      rw [show Syn.want (Tk ys) j [125]=.error (50,j) from if_neg (by rw [hx];simp)]
     | some k =>
      unfold Syn.name
      rw [hT]
      simp only
      by_cases hk:k.kind=1
      ·rw [if_pos hk,if_pos hk,cl_]
       by_cases hi:ns.idxOf k.text<ns.length
       ·rw [if_pos hi,if_pos hi];rfl
       ·rw [if_neg hi,if_neg hi];rfl
      ·rw [if_neg hk,if_neg hk]
       simp only [Syn.R.on]
       rw [show Syn.want (Tk ys) j [125]=.error (50,j) from if_neg (by rw [hx];simp)])
    clear hx hF
    go_wp2_with (go_at_call 95;refine hsk.mono ?_;rintro e w3 ⟨rfl,rfl⟩)
    go_at_call 187
    refine hmem.mono ?_
    rintro e w4 ⟨hc4,⟨er,k,hr,rfl⟩|⟨k,j4,hr,rfl,hk64,hp4,hn4⟩⟩
    ·exact ⟨rfl,ai_ (by rw [←HSTEP.out,hr];rfl) (HCr.out.then hc4)⟩
    have HF4:=hid (show labP (Tk ys) ns f (l ||| 1 <<< k) j4=RR from by rw [←HSTEP.out,hr];rfl)
    have hor:=(or_pow l k).resolve_right (by omega)
    have hl4:l ||| 1 <<< k<18446744073709551616:=by
     rw [hor]
     refine p0_ _ (fun z hz=>?_)
     rcases List.mem_cons.1 hz with rfl|hz
     ·exact hl
     ·rw [List.mem_singleton] at hz;subst hz;exact io_ _
    have hof:=of_any w4.heap.size 0 1 [(k:Int)] (by simp [maxLen]) (w4.alloc (.cells #[.int .i64 (k:Nat)] 3)) (fun i hi=>by
     obtain rfl:i=0:=by simpa using hi
     exact aa_ (nwn w4 _) rfl)
    have hjn:=yf_ (w4.heap.size+1) 0 2 [l,ofInts [(k:Int)]] (fun z hz=>by
     rcases List.mem_cons.1 hz with rfl|hz
     ·exact hl
     ·rw [List.mem_singleton] at hz;subst hz;exact io_ _) (by simp [maxLen]) ((w4.alloc (.cells #[.int .i64 (k:Nat)] 3)).alloc (.cells #[.int .u64 (l:Nat),.int .u64 (ofInts [(k:Int)]:Nat)] 50)) (fun i hi=>by
     have hnew:=nwn (w4.alloc (.cells #[.int .i64 (k:Nat)] 3)) (.cells #[.int .u64 (l:Nat),.int .u64 (ofInts [(k:Int)]:Nat)] 50)
     rw [nwz] at hnew
     rcases (show i=0∨i=1 by simp at hi;omega) with rfl|rfl
     ·exact aa_ hnew rfl
     ·exact aa_ hnew rfl)
    rw [←hor] at hjn
    have HC4:=hid (((HCr.out.then hc4).alloc (.cells #[.int .i64 (k:Nat)] 3)).alloc (.cells #[.int .u64 (l:Nat),.int .u64 (ofInts [(k:Int)]:Nat)] 50))
    have HP4:=hid ((hp4.alloc (.cells #[.int .i64 (k:Nat)] 3)).alloc (.cells #[.int .u64 (l:Nat),.int .u64 (ofInts [(k:Int)]:Nat)] 50))
    have HN4:=hid (by_ hn4 (((Chg.refl (fun _=>False) w4).alloc (.cells #[.int .i64 (k:Nat)] 3)).alloc (.cells #[.int .u64 (l:Nat),.int .u64 (ofInts [(k:Int)]:Nat)] 50)) (fun _ _ e=>e))
    have hpos4:=HP4.out.pos
    have hj4:j<j4:=by
     unfold memberP at hr
     obtain ⟨s1,i1,g1,g2⟩:=Syn.R.on_ok hr
     have:=(Syn.name_ok g1).2.1
     split at g2
     ·injection g2 with g2;injection g2 with _ g2;omega
     ·cases g2
    have hle4:=hp4.le
    clear hor hc4 hr hp4 hn4 hmem hsk
    generalize ofInts [(k:Int)]=on at *
    generalize (l ||| 1 <<< k)=l4 at *
    go_wp2_with fail
    go_at_call 186
    refine hof.mono ?_
    rintro e w' ⟨rfl,rfl⟩
    go_wp2_with fail
    go_at_call 185
    refine hjn.mono ?_
    rintro e w' ⟨rfl,rfl⟩
    go_wp2
    refine ⟨⟨f,l4,j4,hl4,rfl,HF4,HP4,HN4,HC4⟩,?_⟩
    rw [hpos4,HPOS.out];omega
end
section
variable {ys:List It} {len bp bw i:Nat} {vp:Value} {w:World} {ns:List (List Nat)}
theorem cs_ (hn:NR w vp ns) (o:Obj):NR (w.alloc o) vp ns:=by_ hn ((Chg.refl (fun _=>False) w).alloc o) (fun _ _ e=>e)
def DOk (ys:List It) (len bp bw:Nat) (vp:Value) (ns:List (List Nat)) (d:Syn.De) (j:Nat) (e:Ending) (w':World):Prop :=
 e=.returned (.agg #[.string (sb d.name),.int .u64 (d.label:Nat)])∧d.label<18446744073709551616∧PS ys len bp bw vp w' j∧NR w' vp ns
theorem ip_ {S:Nat→Prop} {a w:World} (h:Chg S a w) {g:Nat} (hg:S g∨a.heap.size≤g) (x0 x1:Value):Chg S a ((w.setCell ⟨g,0,none⟩ x0).setCell ⟨g,1,none⟩ x1) :=
 (h.setCell (p:=⟨g,0,none⟩) hg _).setCell (p:=⟨g,1,none⟩) hg _
theorem di_ {S:Nat→Prop} {a w:World} (h:Chg S a w) {g:Nat} (hg:S g∨a.heap.size≤g) (x0 x1 x2:Value):Chg S a (((w.setCell ⟨g,0,none⟩ x0).setCell ⟨g,1,none⟩ x1).setCell ⟨g,2,none⟩ x2) :=
 (ip_ h hg x0 x1).setCell (p:=⟨g,2,none⟩) hg _
theorem iq_ {W:World} {g:Nat} {x0 x1:Value} {T:TypeId} (h:W.heap[g]?=some (.cells #[x0,x1] T (0,0))) :
 W.cell? ⟨g,0,none⟩=some x0∧W.cell? ⟨g,1,none⟩=some x1∧W.frozen? ⟨g,0,none⟩=false∧W.frozen? ⟨g,1,none⟩=false:=⟨aa_ h rfl,aa_ h rfl,ag_ h,ag_ h⟩
theorem bz_ {W:World} {g:Nat} {x0 x1 x2:Value} {T:TypeId} (h:W.heap[g]?=some (.cells #[x0,x1,x2] T (0,0))) :
 W.cell? ⟨g,0,none⟩=some x0∧W.cell? ⟨g,1,none⟩=some x1∧W.cell? ⟨g,2,none⟩=some x2∧W.frozen? ⟨g,0,none⟩=false∧W.frozen? ⟨g,1,none⟩=false∧W.frozen? ⟨g,2,none⟩=false:=⟨aa_ h rfl,aa_ h rfl,aa_ h rfl,ag_ h,ag_ h,ag_ h⟩
theorem p1_ (hw:Ws ys) (h:PS ys len bp bw vp w i) (hn:NR w vp ns) :
 Calls prog 148 #[.pointer (some ⟨bp,0,none⟩)] w (Ret ys len (fun k=>k=bp) w (Syn.decl (Tk ys) (ys.length+1) ns i) (DOk ys len bp bw vp ns)):=by
 obtain ⟨hlt,hlb⟩:=h.lt
 have hne:¬w.heap.size=bp:=by omega
 have h1:=e8_ (h.alloc (.cells #[.string ⟨#[]⟩,.int .u64 0] 59))
 obtain ⟨RR,hRR⟩:∃RR,Syn.decl (Tk ys) (ys.length+1) ns i=RR:=⟨_,rfl⟩
 rw [hRR]
 have H0:=hid hRR
 have C0:=hid ((Chg.refl (fun k=>k=bp) w).alloc (.cells #[.string ⟨#[]⟩,.int .u64 0] 59))
 have HN0:=hid (cs_ hn (.cells #[.string ⟨#[]⟩,.int .u64 0] 59))
 have HP0:=hid (h.alloc (.cells #[.string ⟨#[]⟩,.int .u64 0] 59))
 have hvp:=hid (fun k (hk:vp.ownBlock=some k)=>(hn.1.lt k hk).2)
 clear hRR h hn
 go_enter func148,ntmps148
 go_wp2_with fail
 go_at_call 150
 refine h1.mono ?_
 rintro e w1 ⟨hc1,⟨hr,rfl⟩|⟨hr,rfl,hp1⟩⟩
 ·exact ⟨rfl,ai_ (by rw [←H0.out];unfold Syn.decl;rw [hr];rfl) (C0.out.then hc1)⟩
 have C1:=hid (C0.out.then hc1)
 have HRES:=hid (hc1.heap (nwn w (.cells #[.string ⟨#[]⟩,.int .u64 0] 59)) hne)
 have H1:=hid (show (Syn.label (Tk ys) (ys.length+1) ns (i+1)).on (fun l k=>.ok ((⟨bl (tk ys len i).t,l⟩:Syn.De),k))=RR from by rw [←H0.out];unfold Syn.decl;rw [hr];rfl)
 have h2:=an_ (fy_ hw hp1 (b7_ HN0.out HP0.out hc1))
 have hs1:=hc1.size
 rw [nwz] at hs1
 clear hc1 hr h1 hp1
 generalize (tk ys len i).t=s1 at *
 go_wp2_with fail
 go_at_call 152
 refine h2.mono ?_
 rintro e w2 ⟨hc2,⟨er,k,hr,rfl⟩|⟨l,j,hr,rfl,hl,hp2,hn2⟩⟩
 ·exact ⟨rfl,ai_ (by rw [←H1.out,hr];rfl) (C1.out.then hc2)⟩
 obtain ⟨r0,r1,f0,f1⟩:=iq_ (hc2.heap HRES.out hne)
 have HE:=hid (show .ok ((⟨bl s1,l⟩:Syn.De),j)=RR from by rw [←H1.out,hr];rfl)
 have hcs:=ip_ (Chg.refl (fun k=>k=w.heap.size) w2) (.inl rfl) (.string s1) (.int .u64 (l:Nat))
 have HEND:=hid (show Chg (fun k=>k=bp) w _∧DOk ys len bp bw vp ns ⟨bl s1,l⟩ j (.returned (.agg #[.string s1,.int .u64 (l:Nat)])) _ from
  ⟨ip_ (C1.out.then hc2) (.inr (Nat.le_refl _)) (.string s1) (.int .u64 (l:Nat)),by rw [db_],hl,hp2.chg hcs (fun e=>hne e.symm) (by omega),by_ hn2 hcs (fun k hk e=>by have:=hvp.out k hk;omega)⟩)
 clear hc2 hr hp2 hn2 h2 hcs hl
 go_wp2
 exact bodyPost_ret (v:=.agg #[.string s1,.int .u64 (l:Nat)]) (by simp [results,Tryz.results148,go_sem,r0,r1]) rfl (bx_ HE.out.symm HEND.out.1 HEND.out.2)
def declLP (T:Nat→Option Syn.K) (F:Nat) (ns:List (List Nat)) (i:Nat):Syn.R Syn.De:=(Syn.decl T F ns i).on fun d i=>(Syn.want T i [59]).on fun _ i=>.ok (d,i)
theorem ee_ (hw:Ws ys) (h:PS ys len bp bw vp w i) (hn:NR w vp ns) :
 Calls prog 97 #[.pointer (some ⟨bp,0,none⟩)] w (Ret ys len (fun k=>k=bp) w (declLP (Tk ys) (ys.length+1) ns i) (DOk ys len bp bw vp ns)):=by
 obtain ⟨hlt,hlb⟩:=h.lt
 have hne:¬w.heap.size=bp:=by omega
 have h1:=an_ (p1_ hw (h.alloc (.cells #[.string ⟨#[]⟩,.int .u64 0] 59)) (cs_ hn (.cells #[.string ⟨#[]⟩,.int .u64 0] 59)))
 obtain ⟨RR,hRR⟩:∃RR,declLP (Tk ys) (ys.length+1) ns i=RR:=⟨_,rfl⟩
 rw [hRR]
 have H0:=hid hRR
 have C0:=hid ((Chg.refl (fun k=>k=bp) w).alloc (.cells #[.string ⟨#[]⟩,.int .u64 0] 59))
 have hvp:=hid (fun k (hk:vp.ownBlock=some k)=>(hn.1.lt k hk).2)
 clear hRR h hn
 go_enter func97,ntmps97
 go_wp2_with fail
 go_at_call 148
 refine h1.mono ?_
 rintro e w1 ⟨hc1,⟨er,k,hr,rfl⟩|⟨d,j,hr,rfl,hl,hp1,hn1⟩⟩
 ·exact ⟨rfl,ai_ (by rw [←H0.out];unfold declLP;rw [hr];rfl) (C0.out.then hc1)⟩
 have C1:=hid (C0.out.then hc1)
 have HRES:=hid (hc1.heap (nwn w (.cells #[.string ⟨#[]⟩,.int .u64 0] 59)) hne)
 have H1:=hid (show (Syn.want (Tk ys) j [59]).on (fun _ i=>.ok (d,i))=RR from by rw [←H0.out];unfold declLP;rw [hr];rfl)
 have hs1:=hc1.size
 rw [nwz] at hs1
 have HP1:=hid (hp1.alloc (.cells #[.string (sb d.name),.int .u64 (d.label:Nat)] 59))
 have HN1:=hid (cs_ hn1 (.cells #[.string (sb d.name),.int .u64 (d.label:Nat)] 59))
 have hsN:=hid (nwn w1 (.cells #[.string (sb d.name),.int .u64 (d.label:Nat)] 59))
 have h2:=bt_ hw HP1.out ⟨#[59]⟩ mp_
 clear hc1 hr h1 hp1 hn1
 go_wp2_with fail
 go_at_call 149
 refine h2.mono ?_
 rintro e w2 ⟨hc2,⟨hr,rfl⟩|⟨hr,rfl,hp2⟩⟩
 ·exact ⟨rfl,ai_ (by rw [←H1.out,show ([59]:List Nat)=bl ⟨#[59]⟩ from rfl,hr];rfl) ((C1.out.alloc _).then hc2)⟩
 have hn2:=b7_ HN1.out HP1.out hc2
 obtain ⟨r0,r1,f0,f1⟩:=iq_ (hc2.heap (ad_ _ _ HRES.out) hne)
 obtain ⟨s0,s1,_,_⟩:=iq_ (hc2.heap hsN.out (by omega))
 have HE:=hid (show .ok (d,j+1)=RR from by rw [←H1.out,show ([59]:List Nat)=bl ⟨#[59]⟩ from rfl,hr];rfl)
 have hcs:=ip_ (Chg.refl (fun k=>k=w.heap.size) w2) (.inl rfl) (.string (sb d.name)) (.int .u64 (d.label:Nat))
 have HEND:=hid (show Chg (fun k=>k=bp) w _∧DOk ys len bp bw vp ns d (j+1) (.returned (.agg #[.string (sb d.name),.int .u64 (d.label:Nat)])) _ from
  ⟨ip_ ((C1.out.alloc _).then hc2) (.inr (Nat.le_refl _)) (.string (sb d.name)) (.int .u64 (d.label:Nat)),rfl,hl,hp2.chg hcs (fun e=>hne e.symm) (by omega),by_ hn2 hcs (fun k hk e=>by have:=hvp.out k hk;omega)⟩)
 clear hc2 hr hp2 hn2 h2 hcs hl
 go_wp2
 exact bodyPost_ret (v:=.agg #[.string (sb d.name),.int .u64 (d.label:Nat)]) (by simp [results,Tryz.results97,go_sem,r0,r1]) rfl (bx_ HE.out.symm HEND.out.1 HEND.out.2)
end
section
variable {ys:List It} {len bp bw i:Nat} {vp:Value} {w:World} {ns:List (List Nat)}
theorem uc_ (h:PS ys len bp bw vp w i) :
 Calls prog 151 #[.pointer (some ⟨bp,0,none⟩),.int .i64 3] w fun e w'=>Chg (fun k=>k=bp) w w'∧((Syn.number (Tk ys) i=.error (50,i)∧e=.panicked (gv (50:Nat) ((tk ys len i).a:Nat))) ∨
  (i<ys.length∧Syn.number (Tk ys) i=.ok ((tk ys len i).v,i+1)∧e=.returned (.agg #[.int .i64 ((tk ys len i).k:Nat),.string (tk ys len i).t,.int .i64 ((tk ys len i).v:Nat),.int .i64 ((tk ys len i).a:Nat)])∧PS ys len bp bw vp w' (i+1))):=by
 rcases Nat.lt_or_ge i ys.length with hi|hi
 ·cases hx:(((tk ys len i).k:Int) == 3) with
  | true =>
   refine (hh_ h hi 3 hx).mono ?_
   rintro e w' ⟨rfl,hc,hp⟩
   refine ⟨hc,.inr ⟨hi,?_,rfl,hp⟩⟩
   rw [beq_iff_eq] at hx
   unfold Syn.number
   rw [cn_ (len:=len) hi]
   exact if_pos (by simp only [keyOf];omega)
  | false =>
   refine (fh_ h 3 hx (fun k=>k=bp)).mono ?_
   rintro e w' ⟨rfl,hc⟩
   refine ⟨hc,.inl ⟨?_,rfl⟩⟩
   rw [beq_eq_false_iff_ne] at hx
   unfold Syn.number
   rw [cn_ (len:=len) hi]
   exact if_neg (by simp only [keyOf];omega)
 ·have hx:(((tk ys len i).k:Int) == 3)=false:=by rw [qt_ ys len hi];rfl
  refine (fh_ h 3 hx (fun k=>k=bp)).mono ?_
  rintro e w' ⟨rfl,hc⟩
  refine ⟨hc,.inl ⟨?_,rfl⟩⟩
  unfold Syn.number
  rw [cm_ hi]
def arrLP (T:Nat→Option Syn.K) (F:Nat) (ns:List (List Nat)) (i:Nat):Syn.R Syn.Ar :=
 (Syn.name T i).on fun n i=>(Syn.number T i).on fun v i=>(Syn.label T F ns i).on fun l i=>(Syn.want T i [59]).on fun _ i=>.ok (⟨n,v,l⟩,i)
def AOk (ys:List It) (len bp bw:Nat) (vp:Value) (ns:List (List Nat)) (d:Syn.Ar) (j:Nat) (e:Ending) (w':World):Prop :=
 e=.returned (.agg #[.string (sb d.name),.int .i64 (d.len:Nat),.int .u64 (d.label:Nat)])∧d.label<18446744073709551616∧PS ys len bp bw vp w' j∧NR w' vp ns
def arrZ:Obj:=.cells #[.string ⟨#[]⟩,.int .i64 0,.int .u64 0] 72
attribute [local go_sem] lz_ i8_
theorem lb_ (hw:Ws ys) (h:PS ys len bp bw vp w i) (hn:NR w vp ns) :
 Calls prog 98 #[.pointer (some ⟨bp,0,none⟩)] w (Ret ys len (fun k=>k=bp) w (arrLP (Tk ys) (ys.length+1) ns i) (AOk ys len bp bw vp ns)):=by
 obtain ⟨hlt,hlb⟩:=h.lt
 have hne:¬w.heap.size=bp:=by omega
 have C0:=hid ((Chg.refl (fun k=>k=bp) w).alloc arrZ)
 have HN0:=hid (cs_ hn arrZ)
 have HP0:=hid (h.alloc arrZ)
 have h1:=e8_ HP0.out
 obtain ⟨RR,hRR⟩:∃RR,arrLP (Tk ys) (ys.length+1) ns i=RR:=⟨_,rfl⟩
 rw [hRR]
 have H0:=hid hRR
 have hvp:=hid (fun k (hk:vp.ownBlock=some k)=>(hn.1.lt k hk).2)
 clear hRR h hn
 go_enter func98,ntmps98
 go_wp2_with fail
 go_at_call 150
 refine h1.mono ?_
 rintro e w1 ⟨hc1,⟨hr,rfl⟩|⟨hr,rfl,hp1⟩⟩
 ·exact ⟨rfl,ai_ (by rw [←H0.out];unfold arrLP;rw [hr];rfl) (C0.out.then hc1)⟩
 have C1:=hid (C0.out.then hc1)
 have HRES:=hid (hc1.heap (nwn w arrZ) hne)
 have H1:=hid (show (Syn.number (Tk ys) (i+1)).on (fun v j=>(Syn.label (Tk ys) (ys.length+1) ns j).on fun l j=>(Syn.want (Tk ys) j [59]).on fun _ j=>.ok (⟨bl (tk ys len i).t,v,l⟩,j))=RR from by rw [←H0.out];unfold arrLP;rw [hr];rfl)
 have h2:=uc_ hp1
 have HN1:=hid (b7_ HN0.out HP0.out hc1)
 have hs1:=hc1.size
 rw [nwz] at hs1
 have HP1:=hid hp1
 clear hc1 hr h1 hp1
 generalize (tk ys len i).t=s1 at *
 go_wp2_with fail
 go_at_call 151
 refine h2.mono ?_
 rintro e w2 ⟨hc2,⟨hr,rfl⟩|⟨hi,hr,rfl,hp2⟩⟩
 ·exact ⟨rfl,ai_ (by rw [←H1.out];rw [hr];rfl) (C1.out.then hc2)⟩
 have C2:=hid (C1.out.then hc2)
 have HRES2:=hid (hc2.heap HRES.out hne)
 have HN2:=hid (b7_ HN1.out HP1.out hc2)
 have h3:=an_ (fy_ hw hp2 HN2.out)
 have hvb:=vs_ hw len hi
 have H2:=hid (show (Syn.label (Tk ys) (ys.length+1) ns (i+1+1)).on (fun l j=>(Syn.want (Tk ys) j [59]).on fun _ j=>.ok (⟨bl s1,(tk ys len (i+1)).v,l⟩,j))=RR from by rw [←H1.out,hr];rfl)
 have hs2:=hc2.size
 clear hc2 hr h2 hp2 HP1
 generalize (tk ys len (i+1)).t=s2 at *
 generalize (tk ys len (i+1)).v=v2 at *
 generalize (tk ys len (i+1)).k=k2 at *
 generalize (tk ys len (i+1)).a=a2 at *
 go_wp2_with fail
 go_at_call 152
 refine h3.mono ?_
 rintro e w3 ⟨hc3,⟨er,k,hr,rfl⟩|⟨l,j,hr,rfl,hl,hp3,hn3⟩⟩
 ·exact ⟨rfl,ai_ (by rw [←H2.out,hr];rfl) (C2.out.then hc3)⟩
 have C3:=hid (C2.out.then hc3)
 have HRES3:=hid (hc3.heap HRES2.out hne)
 have H3:=hid (show (Syn.want (Tk ys) j [59]).on (fun _ k=>.ok ((⟨bl s1,v2,l⟩:Syn.Ar),k))=RR from by rw [←H2.out,hr];rfl)
 have hs3:=hc3.size
 have HP3:=hid (hp3.alloc (.cells #[.string s1,.int .i64 (v2:Nat),.int .u64 (l:Nat)] 72))
 have HN3:=hid (cs_ hn3 (.cells #[.string s1,.int .i64 (v2:Nat),.int .u64 (l:Nat)] 72))
 have hsN:=hid (nwn w3 (.cells #[.string s1,.int .i64 (v2:Nat),.int .u64 (l:Nat)] 72))
 have h4:=bt_ hw HP3.out ⟨#[59]⟩ mp_
 clear hc3 hr h3 hp3 hn3 hvb
 go_wp2_with fail
 go_at_call 149
 refine h4.mono ?_
 rintro e w4 ⟨hc4,⟨hr,rfl⟩|⟨hr,rfl,hp4⟩⟩
 ·exact ⟨rfl,ai_ (by rw [←H3.out,show ([59]:List Nat)=bl ⟨#[59]⟩ from rfl,hr];rfl) ((C3.out.alloc _).then hc4)⟩
 have hn4:=b7_ HN3.out HP3.out hc4
 obtain ⟨r0,r1,r2,f0,f1,f2⟩:=bz_ (hc4.heap (ad_ _ _ HRES3.out) hne)
 obtain ⟨s0,s1',s2',_,_,_⟩:=bz_ (hc4.heap hsN.out (by omega))
 have HE:=hid (show .ok ((⟨bl s1,v2,l⟩:Syn.Ar),j+1)=RR from by rw [←H3.out,show ([59]:List Nat)=bl ⟨#[59]⟩ from rfl,hr];rfl)
 have hcs:=di_ (Chg.refl (fun k=>k=w.heap.size) w4) (.inl rfl) (.string s1) (.int .i64 (v2:Nat)) (.int .u64 (l:Nat))
 have HEND:=hid (show Chg (fun k=>k=bp) w _∧AOk ys len bp bw vp ns ⟨bl s1,v2,l⟩ (j+1) (.returned (.agg #[.string s1,.int .i64 (v2:Nat),.int .u64 (l:Nat)])) _ from
  ⟨di_ ((C3.out.alloc _).then hc4) (.inr (Nat.le_refl _)) (.string s1) (.int .i64 (v2:Nat)) (.int .u64 (l:Nat)),by rw [db_],hl,hp4.chg hcs (fun e=>hne e.symm) (by omega),by_ hn4 hcs (fun k hk e=>by have:=hvp.out k hk;omega)⟩)
 clear hc4 hr hp4 hn4 h4 hcs hl
 go_wp2
 exact bodyPost_ret (v:=.agg #[.string s1,.int .i64 (v2:Nat),.int .u64 (l:Nat)]) (by simp [results,Tryz.results98,go_sem,r0,r1,r2]) rfl (bx_ HE.out.symm HEND.out.1 HEND.out.2)
end
section
variable {ys:List It} {len bp bw i:Nat} {vp:Value} {w:World} {ns:List (List Nat)} {α:Type}
structure Tys (T E:TypeId):Prop where
 te:T≠E
 es:E≠9
 ts:T≠9
 ew:E≠151
 tw:T≠151
 eb:E≠95
 tb:T≠95
 ep:E≠153
 tp:T≠153
theorem b0_ {W:World} {a b:Nat} {x y:Array Value} {T T':TypeId} (h:W.heap[a]?=some (.cells x T (0,0))) (h':W.heap[b]?=some (.cells y T' (0,0))) (ht:T≠T'):a≠b:=by
 rintro rfl
 rw [h] at h'
 simp only [Option.some.injEq,Obj.cells.injEq] at h'
 exact ht h'.2.1
theorem am_ {W:World} {a:Nat} {x:Array Value} {T E:TypeId} {B n size:Nat} {v:Value} {xs:List Value} (h:W.heap[a]?=some (.cells x T (0,0))) (h':W.ownsRow B E size v n xs) (ht:T≠E):¬v.ownBlock=some a:=by
 intro e
 obtain ⟨cur,h2⟩:=av_ h' e
 exact b0_ h h2 ht rfl
theorem br_ {W:World} {E E':TypeId} {B n size B' n' size':Nat} {v v':Value} {xs xs':List Value} (h:W.ownsRow B E size v n xs) (h':W.ownsRow B' E' size' v' n' xs') (ht:E≠E'):∀k,v.ownBlock=some k→¬v'.ownBlock=some k:=by
 intro k hk
 obtain ⟨cur,h2⟩:=av_ h hk
 exact am_ h2 h' ht
theorem PS.blk (h:PS ys len bp bw vp w i):∃x,w.heap[bp]?=some (.cells x 153 (0,0)):=by
 obtain ⟨c,h1,_⟩:=h.st
 exact ⟨_,h1⟩
theorem PS.tok (h:PS ys len bp bw vp w i):∃x,w.heap[bw]?=some (.cells x 151 (0,0)):=by
 obtain ⟨c,h1,_⟩:=h.toks
 exact ⟨_,h1⟩
def GJ (R:Mem→List Value→α→Prop) (E:TypeId) (size:Nat) (T:TypeId) (arr:Value→Array Value) (bf bp B:Nat) (vp:Value) (ns:List (List Nat)) (m0:Mem) (w0:World) (acc:List α) (W:World):Prop :=
 ∃q c cs m',W.heap[bf]?=some (.cells (arr (.slice q acc.length c)) T (0,0))∧W.ownsRow B E size (.slice q acc.length c) acc.length cs∧Enc (R m') cs acc∧Has W m'∧m0.More w0 m'∧m' bf=none∧m' bp=none∧(∀k,Value.ownBlock (.slice q acc.length c)=some k→m' k=none)∧w0.heap.size≤W.heap.size∧NR W vp ns
def GS (bp bf:Nat) (v:Value):Nat→Prop:=fun k=>k=bp∨k=bf∨v.ownBlock=some k
variable {R:Mem→List Value→α→Prop} {E T:TypeId} {size:Nat} {arr:Value→Array Value} {bf B:Nat} {m0:Mem} {w0:World} {acc:List α} {W:World}
theorem GJ.next (h:GJ R E size T arr bf bp B vp ns m0 w0 acc W) (ht:Tys T E) (hp:PS ys len bp bw vp W i) {W':World} (hc:Chg (fun k=>k=bp) W W'):GJ R E size T arr bf bp B vp ns m0 w0 acc W':=by
 obtain ⟨q,c,cs,m',h1,h2,h3,h4,h5,h6,h7,h8,h9,h10⟩:=h
 have hsz:=hc.size
 obtain ⟨x,hx⟩:=hp.blk
 exact ⟨q,c,cs,m',hc.heap h1 (b0_ h1 hx ht.tp),a0_ h2 hc (fun k hk e=>by subst e;exact am_ hx h2 ht.ep.symm hk),h3,h4.chg hc (fun k e=>by subst e;exact h7),h5,h6,h7,h8,by omega,b7_ h10 hp hc⟩
theorem ck_ {n:Nat} {v:Value} {cs:List Value} {w1 w9:World} {o:Obj} (h2:W.ownsRow B E size v n cs) (hcc:Chg (fun k=>k=bp) W w1) (hg:(w1.alloc o).grownBy w9 v.ownBlock) {k:Nat} {x:Array Value} {T':TypeId} (hk:W.heap[k]?=some (.cells x T' (0,0))) (hT:T'≠E) (hkb:¬k=bp):w9.heap[k]?=some (.cells x T' (0,0)):=by
 have hc:Chg (fun k=>k=bp∨v.ownBlock=some k) W w9:=((hcc.alloc _).mono (fun k e=>.inl (.inl e))).then (a1_ hg (fun k e=>.inl (.inr e)))
 exact hc.heap hk (fun e=>by
  rcases e with e|e
  ·exact hkb e
  ·exact am_ hk h2 hT e)
theorem ir_ {w1 w9:World} {j kf c c9:Nat} {q q9:Option Addr} {x:α} {cs news:List Value} {m' m1:Mem} (ht:Tys T E) (harr:∀v v',(arr v).setIfInBounds kf v'=arr v')
 (hp:PS ys len bp bw vp W i)
 (h1:W.heap[bf]?=some (.cells (arr (.slice q acc.length c)) T (0,0))) (h2:W.ownsRow B E size (.slice q acc.length c) acc.length cs) (h3:Enc (R m') cs acc) (_h4:Has W m') (h5:m0.More w0 m') (h6:m' bf=none) (h7:m' bp=none) (h8:∀k,Value.ownBlock (.slice q acc.length c)=some k→m' k=none) (h9:w0.heap.size≤W.heap.size)
 (hR:∀m m':Mem,m.le m'→∀c x,R m c x→R m' c x)
 (hcc:Chg (fun k=>k=bp) W w1) (a1:m'.More W m1) (a2:Has w1 m1) (a3:R m1 news x) (a4:PS ys len bp bw vp w1 j) (a5:NR w1 vp ns)
 (hown9:w9.ownsRow B E size (.slice q9 (acc.length+1) c9) (acc.length+1) (cs++news)) {o:Obj} (hgrow9:(w1.alloc o).grownBy w9 (Value.ownBlock (.slice q acc.length c))) (hat9:Value.ownBlock (.slice q9 (acc.length+1) c9)=Value.ownBlock (.slice q acc.length c)∨Value.ownBlock (.slice q9 (acc.length+1) c9)=some (w1.heap.size+1)) :
 Chg (GS bp bf (.slice q acc.length c)) W (w9.setCell ⟨bf,kf,none⟩ (.slice q9 (acc.length+1) c9))∧GJ R E size T arr bf bp B vp ns m0 w0 (acc++[x]) (w9.setCell ⟨bf,kf,none⟩ (.slice q9 (acc.length+1) c9))∧PS ys len bp bw vp (w9.setCell ⟨bf,kf,none⟩ (.slice q9 (acc.length+1) c9)) j:=by
 have hs1:=hcc.size
 obtain ⟨xb,hxb⟩:=hp.blk
 obtain ⟨xt,hxt⟩:=hp.tok
 have hnb:¬bf=bp:=b0_ h1 hxb ht.tp
 have hC9:Chg (fun k=>k=bp∨Value.ownBlock (.slice q acc.length c)=some k) W w9:=((hcc.alloc _).mono (fun k e=>.inl (.inl e))).then (a1_ hgrow9 (fun k e=>.inl (.inr e)))
 have hC:Chg (GS bp bf (.slice q acc.length c)) W (w9.setCell ⟨bf,kf,none⟩ (.slice q9 (acc.length+1) c9)):=(hC9.mono (fun k e=>.inl (by rcases e with e|e <;> simp [GS,e]))).setCell (p:=⟨bf,kf,none⟩) (.inl (.inr (.inl rfl))) _
 have hqlt:∀k,Value.ownBlock (.slice q acc.length c)=some k→k<W.heap.size:=fun k hk=>(h2.lt k hk).2
 have hbal:=heap_lt h1
 have hCw:Chg (fun k=>Value.ownBlock (.slice q acc.length c)=some k∨k=bf) w1 (w9.setCell ⟨bf,kf,none⟩ (.slice q9 (acc.length+1) c9)) :=
  ((((Chg.refl _ w1).alloc _).then (a1_ hgrow9 (fun k e=>.inl (.inl e)))).setCell (p:=⟨bf,kf,none⟩) (.inl (.inr rfl)) _)
 have g1:=ck_ h2 hcc hgrow9 h1 ht.te hnb
 have g2:=a0_ hown9 ((Chg.refl (fun k=>k=bf) w9).setCell (p:=⟨bf,kf,none⟩) (.inl rfl) (.slice q9 (acc.length+1) c9)) (fun k hk e=>by subst e;exact am_ g1 hown9 ht.te hk)
 have hH:Has (w9.setCell ⟨bf,kf,none⟩ (.slice q9 (acc.length+1) c9)) m1:=a2.chg hCw (fun k e=>by
  rcases e with e|rfl
  ·exact a1.new k (h8 k e) (hqlt k e)
  ·exact a1.new _ h6 hbal)
 have hvq:=hcc.heap h1 hnb
 have hN:NR (w9.setCell ⟨bf,kf,none⟩ (.slice q9 (acc.length+1) c9)) vp ns:=by_ a5 hCw (fun k hk e=>by
  obtain ⟨cur,hcu⟩:=av_ a5.1 hk
  rcases e with e|rfl
  ·have h2':w1.ownsRow B E size (.slice q acc.length c) acc.length cs:=a0_ h2 hcc (fun k hk e=>by subst e;exact am_ hxb h2 ht.ep.symm hk)
   exact am_ hcu h2' ht.es.symm e
  ·exact b0_ hvq hcu ht.ts rfl)
 refine ⟨hC,⟨q9,c9,cs++news,m1,?_,?_,(h3.mono (hR _ _ a1.le)).app (Enc.one a3),hH,h5.trans a1 h9,a1.new _ h6 hbal,a1.new _ h7 (heap_lt hxb),?_,?_,hN⟩,?_⟩
 ·rw [nla,nlc]
  have:=ao_ g1 kf (.slice q9 (acc.length+1) c9)
  rwa [harr] at this
 ·rw [nla,nlc];exact g2
 ·rw [nla,nlc]
  intro k hk
  rcases hat9 with e|e
  ·rw [e] at hk;exact a1.new k (h8 k hk) (hqlt k hk)
  ·rw [e] at hk
   obtain rfl:w1.heap.size+1=k:=by simpa using hk
   exact a2.lt (by omega)
 ·have:=hC.size;omega
 ·obtain ⟨yb,hyb⟩:=a4.blk
  obtain ⟨yt,hyt⟩:=a4.tok
  have h2':w1.ownsRow B E size (.slice q acc.length c) acc.length cs:=a0_ h2 hcc (fun k hk e=>by subst e;exact am_ hxb h2 ht.ep.symm hk)
  refine a4.chg hCw (fun e=>?_) (fun e=>?_)
  ·rcases e with e|e
   ·exact am_ hyb h2' ht.ep.symm e
   ·exact hnb e.symm
  ·rcases e with e|e
   ·exact am_ hyt h2' ht.ew.symm e
   ·exact b0_ hvq hyt ht.tw e.symm
theorem ud_ (h:GJ R E size T arr bf bp B vp ns m0 w0 acc W) (ht:Tys T E) (hp:PS ys len bp bw vp W i) (hB:w0.heap.size≤B) (hR:∀m m':Mem,m.le m'→∀c x,R m c x→R m' c x) :
 ∃q c cs m2,W.heap[bf]?=some (.cells (arr (.slice q acc.length c)) T (0,0))∧m0.More w0 m2∧Has W m2∧m2 bf=none∧m2 bp=none∧RowM m2 E size (.slice q acc.length c) acc.length cs∧Enc (R m2) cs acc∧NR W vp ns∧w0.heap.size≤W.heap.size:=by
 obtain ⟨q,c,cs,m',h1,h2,h3,h4,h5,h6,h7,h8,h9,h10⟩:=h
 obtain ⟨m2,d1,d2,d3,d4⟩:=RowM.done h2 h4 h8
 obtain ⟨xb,hxb⟩:=hp.blk
 have hno:∀k,m' k=none→¬Value.ownBlock (.slice q acc.length c)=some k→m2 k=none:=fun k e hk=>by
  cases e2:m2 k with
  | none=>rfl
  | some o =>
   rcases d2 k (by rw [e2];simp) with e3|e3
   ·exact (e3 e).elim
   ·exact (hk e3).elim
 exact ⟨q,c,cs,m2,h1,⟨h5.le.trans d1,fun k e hk=>hno k (h5.new k e hk) (fun e3=>by have:=(h2.lt k e3).1;omega)⟩,d3,hno bf h6 (am_ h1 h2 ht.te),hno bp h7 (am_ hxb h2 ht.ep.symm),d4,h3.mono (hR _ _ d1),h10,h9⟩
end
end Go.Proofs.YtpcniebkabkikaaGreatDoor
namespace Go.Proofs.YtpcniebkabkikaaGreatDoor
open Go Go.RowKit Go.Proofs.Mm
open List renaming setIfInBounds_toArray → n1,set_cons_zero → n2,set_cons_succ → n3,getElem_toArray → n4,getElem_cons_zero → n5,getElem_cons_succ → n6
theorem lc_ {E:TypeId} {z:Value} {s b:Nat} (h:(prog.info? E).map (fun i=>(i.zero,i.size,i.bytes))=some (some z,s,b)):∃i,prog.info? E=some i∧i.zero=some z∧i.size=s∧i.bytes=b:=by
 cases hi:prog.info? E with
 | none=>rw [hi] at h;cases h
 | some i =>
  rw [hi] at h
  simp only [Option.map_some,Option.some.injEq,Prod.mk.injEq] at h
  obtain ⟨e1,e2,e3⟩:=h
  exact ⟨i,rfl,e1,e2,e3⟩
def deV (d:Syn.De):List Value:=[.string (sb d.name),.int .u64 (d.label:Nat)]
def DeR (_:Mem) (c:List Value) (d:Syn.De):Prop:=c=deV d∧d.label<18446744073709551616
def LaR (_:Mem) (c:List Value) (l:Nat):Prop:=c=[.int .u64 (l:Nat)]∧l<18446744073709551616
theorem DeR.le:∀m m':Mem,m.le m'→∀c x,DeR m c x→DeR m' c x:=fun _ _ _ _ _ h=>h
theorem LaR.le:∀m m':Mem,m.le m'→∀c x,LaR m c x→LaR m' c x:=fun _ _ _ _ _ h=>h
theorem dj_:Tys 54 59:=⟨by decide,by decide,by decide,by decide,by decide,by decide,by decide,by decide,by decide⟩
theorem j7_:Tys 54 50:=⟨by decide,by decide,by decide,by decide,by decide,by decide,by decide,by decide,by decide⟩
theorem infoDe:∃i,prog.info? 59=some i∧i.zero=some (.agg #[.string ⟨#[]⟩,.int .u64 0])∧i.size=2∧i.bytes=24:=lc_ (by kernel_rfl)
theorem infoLa:∃i,prog.info? 50=some i∧i.zero=some (.int .u64 0)∧i.size=1∧i.bytes=8:=lc_ (by kernel_rfl)
theorem p2_ (s:ByteArray) (l:Nat):∀u∈[Value.string s,.int .u64 (l:Nat)],u.oneCell'=true:=by
 intro u hu
 rcases List.mem_cons.1 hu with rfl|hu
 ·rfl
 ·rw [List.mem_singleton] at hu;subst hu;rfl
theorem one_la (l:Nat):∀u∈[Value.int .u64 (l:Nat)],u.oneCell'=true:=by
 intro u hu
 rw [List.mem_singleton] at hu;subst hu;rfl
section
variable {ys:List It} {len bp bw i:Nat} {vp:Value} {w:World} {ns:List (List Nat)} {α:Type}
def GB (R:Mem→List Value→α→Prop) (E:TypeId) (size:Nat) (T:TypeId) (arr:Value→Array Value) (bf b1 bp B:Nat) (vp:Value) (ns:List (List Nat)) (m0:Mem) (w0:World) (acc:List α) (W:World):Prop :=
 GJ R E size T arr bf bp B vp ns m0 w0 acc W∧W.heap[b1]?=some (.cells #[.pointer (some ⟨bp,0,none⟩)] 95 (0,0))
theorem GB.next {R:Mem→List Value→α→Prop} {E T:TypeId} {size:Nat} {arr:Value→Array Value} {bf b1 B:Nat} {m0:Mem} {w0 W:World} {acc:List α} (h:GB R E size T arr bf b1 bp B vp ns m0 w0 acc W) (ht:Tys T E) (hp:PS ys len bp bw vp W i) {W':World} (hc:Chg (fun k=>k=bp) W W'):GB R E size T arr bf b1 bp B vp ns m0 w0 acc W':=by
 obtain ⟨x,hx⟩:=hp.blk
 exact ⟨h.1.next ht hp hc,hc.heap h.2 (b0_ h.2 hx (by decide))⟩
theorem rw_ {bf B n c:Nat} {q:Option Addr} {W W':World} {E:TypeId} {size:Nat} {cs:List Value} (hB:B≤bf) (h2:W.ownsRow B E size (.slice q n c) n cs) (h:Chg (GS bp bf (.slice q n c)) W W'):Chg (SB bp B) W W' :=
 h.mono fun k e=>by
  rcases e with e|e|e
  ·exact .inl (.inl e)
  ·subst e;exact .inl (.inr hB)
  ·exact .inl (.inr (h2.lt k e).1)
theorem ld_ (hw:Ws ys) {m0:Mem} {w0:World} {bf b1 B:Nat} {nm lv xr xv xb:Value} (hB:B≤bf) :
 ItOk ys len bp bw B vp 154 #[.pointer (some ⟨bf,0,none⟩),.pointer (some ⟨b1,0,none⟩)] (GB DeR 59 2 54 (fun v=>#[nm,lv,v,xr,xv,xb]) bf b1 bp B vp ns m0 w0) (Syn.decl (Tk ys) (ys.length+1) ns):=by
 intro W i acc hJ hp hBW hb
 obtain ⟨⟨q,c,cs,m',h1,h2,h3,h4,h5,h6,h7,h8,h9,h10⟩,hbx⟩:=hJ
 obtain ⟨j0,hj0,hy0,hy1,hy2⟩:=infoDe
 obtain ⟨xp,hxp⟩:=hp.blk
 have hnb:¬bf=bp:=b0_ h1 hxp dj_.tp
 have hnb1:¬b1=bp:=b0_ hbx hxp (by decide)
 have hc1:=aa_ (j:=2) h1 rfl
 have hc2:=aa_ (j:=0) hbx rfl
 have hlt1:=heap_lt h1
 have hlt2:=heap_lt hbx
 have hpd:PS ys len bp bw vp W.drew i:=hp.chg (S:=fun _=>False) (Chg.refl _ _).drew id id
 have hnd:NR W.drew vp ns:=by_ h10 ((Chg.refl (fun _=>False) W).drew) (fun _ _ e=>e)
 have hmx:prog.follows .mixedOrders=true:=by kernel_rfl
 have HE:=hid (p1_ hw hpd hnd)
 cases hri:Syn.decl (Tk ys) (ys.length+1) ns i with
 | error q0 =>
  obtain ⟨er,k⟩:=q0
  have HRI:=hid hri
  clear hri
  have hS0:W.drew.cell? ⟨bf,2,none⟩=some (.slice q acc.length c)∧W.drew.cell? ⟨b1,0,none⟩=some (.pointer (some ⟨bp,0,none⟩)):=⟨hc1,hc2⟩
  go_enter func154,ntmps154
  refine wp_region_held_drew (S:=fun w'=>w'.cell? ⟨bf,2,none⟩=some (.slice q acc.length c)∧w'.cell? ⟨b1,0,none⟩=some (.pointer (some ⟨bp,0,none⟩))) hmx hS0 (fun hHeld=>?_)
  refine wpAnyH_take (i:=0) (v:=.pointer (some ⟨bf,2,none⟩)) rfl (by kernel_rfl) (by kernel_rfl) (by kernel_rfl) (fun _ _ _ h=>h) (Or.inl ⟨by rfl,fun w hSw=>by obtain ⟨s1,s2⟩:=hSw;go_simp⟩) (by assumption) ?_
  simp only [Act.put,List.setIfInBounds_toArray,List.set_cons_zero,List.set_cons_succ,List.getElem_toArray,List.getElem_cons_zero]
  refine wpAnyH_take (i:=1) (v:=.slice q acc.length c) rfl (by kernel_rfl) (by kernel_rfl) (by kernel_rfl) (fun _ _ _ h=>h) (Or.inl ⟨by rfl,fun w hSw=>by obtain ⟨s1,s2⟩:=hSw;go_simp⟩) (by assumption) ?_
  simp only [Act.put,n1,n2,n3,n4,n5,n6]
  refine wpAnyH_take (i:=2) (v:=.pointer (some ⟨bp,0,none⟩)) rfl (by kernel_rfl) (by kernel_rfl) (by kernel_rfl) (fun _ _ _ h=>h) (Or.inl ⟨by rfl,fun w hSw=>by obtain ⟨s1,s2⟩:=hSw;go_simp⟩) (by assumption) ?_
  simp only [Act.put,n1,n2,n3,n4,n5,n6]
  refine wpAnyH_ready (rs:=[3]) (by kernel_rfl) (by simp) ?_
  refine AllReadyH.cons rfl (fun K hK=>?_) AllReadyH.nil
  go_simp
  go_at_call 148
  refine HE.out.mono ?_
  rw [HRI.out]
  rintro e w' ⟨hcc,rfl⟩
  exact ⟨rfl,((Chg.refl (SB bp B) W).drew).then (l1_ hcc),rfl⟩
 | ok q0 =>
  obtain ⟨x,j⟩:=q0
  have HRI:=hid hri
  clear hri
  have h1d:W.drew.heap[bf]?=some (.cells #[nm,lv,.slice q acc.length c,xr,xv,xb] 54 (0,0)):=h1
  have hbxd:W.drew.heap[b1]?=some (.cells #[.pointer (some ⟨bp,0,none⟩)] 95 (0,0)):=hbx
  have h2d:W.drew.ownsRow B 59 2 (.slice q acc.length c) acc.length cs:=h2
  obtain ⟨xt,hxt⟩:=hpd.blk
  have HROW:=hid (fun w1 (hc:Chg (fun k=>k=bp) W.drew w1)=>a0_ h2d hc (fun k hk e=>by subst e;exact am_ hxt h2d dj_.ep.symm hk))
  have HAPP:=hid (fun w1 w9 (o:Obj) (hc:Chg (fun k=>k=bp) W.drew w1) (hg:(w1.alloc o).grownBy w9 (Value.ownBlock (.slice q acc.length c))) =>
   And.intro (ck_ h2d hc hg h1d dj_.te hnb) (ck_ h2d hc hg hbxd (by decide) hnb1))
  go_enter func154,ntmps154
  go_region_law
   (first
    | (go_simp;go_at_call 148;refine HE.out.mono ?_;rw [HRI.out];rintro e w1 ⟨hcc,rfl,a1,a2,a3⟩;have k1:=hcc.cell (show W.drew.cell? ⟨bf,2,none⟩=_ from hc1) hnb;have k2:=hcc.cell (show W.drew.cell? ⟨b1,0,none⟩=_ from hc2) hnb1;have p1:=hcc.heap h1d hnb;have p2:=hcc.heap hbxd hnb1;have k3:=ag_ (j:=2) p1;have kk:=And.intro (aa_ (j:=2) (ad_ _ (.cells #[.string (sb x.name),.int .u64 (x.label:Nat)] 59) p1) rfl) (And.intro (aa_ (j:=0) (ad_ _ (.cells #[.string (sb x.name),.int .u64 (x.label:Nat)] 59) p2) rfl) (ag_ (j:=2) (ad_ _ (.cells #[.string (sb x.name),.int .u64 (x.label:Nat)] 59) p1))))
    | (refine ar_ rfl (.tmp 3) (.tmp 6) 23 rfl B 59 j0 (.agg #[.string ⟨#[]⟩,.int .u64 0]) 2 24 Tryz.underlying23 hj0 hy0 hy1 hy2 rfl (by decide) (.slice q acc.length c) acc.length cs (by simp [Act.eval]) ((HROW.out _ hcc).alloc _) ⟨_,0,none⟩ 1 1 [.string (sb x.name),.int .u64 (x.label:Nat)] (by simp [Act.eval]) rfl (be_ _ [.string (sb x.name),.int .u64 (x.label:Nat)] 59) (p2_ _ _) (by unfold maxLen;omega) (by omega) (Nat.le_trans hBW (Nat.le_trans hcc.size (by simp))) ?_;intro v9 w9 hown9 hgrow9 hat9;obtain ⟨q9,c9,rfl⟩:=ah_ hown9;obtain ⟨g1,g2⟩:=HAPP.out _ _ _ hcc hgrow9;have k4:=aa_ (j:=2) g1 rfl;have k5:=aa_ (j:=0) g2 rfl;have k6:=ag_ (j:=2) g1))
  all_goals
   go_end0
   have hcw:Chg (fun k=>k=bp) W w1:=((Chg.refl _ W).drew).then hcc
   obtain ⟨r1,r2,r3⟩:=ir_ (arr:=fun v=>#[nm,lv,v,xr,xv,xb]) (kf:=2) dj_ (fun _ _=>rfl) hp h1 h2 h3 h4 h5 h6 h7 h8 h9 DeR.le hcw (Mem.More.refl _ _) (h4.chg hcw (fun k e=>by subst e;exact h7)) (show DeR m' _ x from ⟨rfl,a1⟩) a2 a3 hown9 hgrow9 (by simpa using hat9)
   exact ⟨rw_ hB h2 r1,⟨rfl,r2,by
    refine r1.heap hbx (fun e=>?_)
    rcases e with e|e|e
    ·exact hnb1 e
    ·exact b0_ hbx h1 (by decide) e
    ·exact am_ hbx h2 (by decide) e⟩,r3⟩
theorem le_ (hw:Ws ys) {m0:Mem} {w0:World} {bf b1 B:Nat} {nm lv xp0 xv xb:Value} (hB:B≤bf) :
 ItOk ys len bp bw B vp 155 #[.pointer (some ⟨bf,0,none⟩),.pointer (some ⟨b1,0,none⟩)] (GB LaR 50 1 54 (fun v=>#[nm,lv,xp0,v,xv,xb]) bf b1 bp B vp ns m0 w0) (Syn.label (Tk ys) (ys.length+1) ns):=by
 intro W i acc hJ hp hBW hb
 obtain ⟨⟨q,c,cs,m',h1,h2,h3,h4,h5,h6,h7,h8,h9,h10⟩,hbx⟩:=hJ
 obtain ⟨j0,hj0,hy0,hy1,hy2⟩:=infoLa
 obtain ⟨xp,hxp⟩:=hp.blk
 have hnb:¬bf=bp:=b0_ h1 hxp j7_.tp
 have hnb1:¬b1=bp:=b0_ hbx hxp (by decide)
 have hc1:=aa_ (j:=3) h1 rfl
 have hc2:=aa_ (j:=0) hbx rfl
 have hlt1:=heap_lt h1
 have hlt2:=heap_lt hbx
 have hpd:PS ys len bp bw vp W.drew i:=hp.chg (S:=fun _=>False) (Chg.refl _ _).drew id id
 have hnd:NR W.drew vp ns:=by_ h10 ((Chg.refl (fun _=>False) W).drew) (fun _ _ e=>e)
 have hmx:prog.follows .mixedOrders=true:=by kernel_rfl
 have HE:=hid (fy_ hw hpd hnd)
 cases hri:Syn.label (Tk ys) (ys.length+1) ns i with
 | error q0 =>
  obtain ⟨er,k⟩:=q0
  have HRI:=hid hri
  clear hri
  have hS0:W.drew.cell? ⟨bf,3,none⟩=some (.slice q acc.length c)∧W.drew.cell? ⟨b1,0,none⟩=some (.pointer (some ⟨bp,0,none⟩)):=⟨hc1,hc2⟩
  go_enter func155,ntmps155
  refine wp_region_held_drew (S:=fun w'=>w'.cell? ⟨bf,3,none⟩=some (.slice q acc.length c)∧w'.cell? ⟨b1,0,none⟩=some (.pointer (some ⟨bp,0,none⟩))) hmx hS0 (fun hHeld=>?_)
  refine wpAnyH_take (i:=0) (v:=.pointer (some ⟨bf,3,none⟩)) rfl (by kernel_rfl) (by kernel_rfl) (by kernel_rfl) (fun _ _ _ h=>h) (Or.inl ⟨by rfl,fun w hSw=>by obtain ⟨s1,s2⟩:=hSw;go_simp⟩) (by assumption) ?_
  simp only [Act.put,List.setIfInBounds_toArray,List.set_cons_zero,List.set_cons_succ,List.getElem_toArray,List.getElem_cons_zero]
  refine wpAnyH_take (i:=1) (v:=.slice q acc.length c) rfl (by kernel_rfl) (by kernel_rfl) (by kernel_rfl) (fun _ _ _ h=>h) (Or.inl ⟨by rfl,fun w hSw=>by obtain ⟨s1,s2⟩:=hSw;go_simp⟩) (by assumption) ?_
  simp only [Act.put,n1,n2,n3,n4,n5,n6]
  refine wpAnyH_take (i:=2) (v:=.pointer (some ⟨bp,0,none⟩)) rfl (by kernel_rfl) (by kernel_rfl) (by kernel_rfl) (fun _ _ _ h=>h) (Or.inl ⟨by rfl,fun w hSw=>by obtain ⟨s1,s2⟩:=hSw;go_simp⟩) (by assumption) ?_
  simp only [Act.put,n1,n2,n3,n4,n5,n6]
  refine wpAnyH_ready (rs:=[3]) (by kernel_rfl) (by simp) ?_
  refine AllReadyH.cons rfl (fun K hK=>?_) AllReadyH.nil
  go_simp
  go_at_call 152
  refine HE.out.mono ?_
  rw [HRI.out]
  rintro e w' ⟨hcc,rfl⟩
  exact ⟨rfl,((Chg.refl (SB bp B) W).drew).then (l1_ hcc),rfl⟩
 | ok q0 =>
  obtain ⟨x,j⟩:=q0
  have HRI:=hid hri
  clear hri
  have h1d:W.drew.heap[bf]?=some (.cells #[nm,lv,xp0,.slice q acc.length c,xv,xb] 54 (0,0)):=h1
  have hbxd:W.drew.heap[b1]?=some (.cells #[.pointer (some ⟨bp,0,none⟩)] 95 (0,0)):=hbx
  have h2d:W.drew.ownsRow B 50 1 (.slice q acc.length c) acc.length cs:=h2
  obtain ⟨xt,hxt⟩:=hpd.blk
  have HROW:=hid (fun w1 (hc:Chg (fun k=>k=bp) W.drew w1)=>a0_ h2d hc (fun k hk e=>by subst e;exact am_ hxt h2d j7_.ep.symm hk))
  have HAPP:=hid (fun w1 w9 (o:Obj) (hc:Chg (fun k=>k=bp) W.drew w1) (hg:(w1.alloc o).grownBy w9 (Value.ownBlock (.slice q acc.length c))) =>
   And.intro (ck_ h2d hc hg h1d j7_.te hnb) (ck_ h2d hc hg hbxd (by decide) hnb1))
  go_enter func155,ntmps155
  go_region_law
   (first
    | (go_simp;go_at_call 152;refine HE.out.mono ?_;rw [HRI.out];rintro e w1 ⟨hcc,rfl,a1,a2,a3⟩;have k1:=hcc.cell (show W.drew.cell? ⟨bf,3,none⟩=_ from hc1) hnb;have k2:=hcc.cell (show W.drew.cell? ⟨b1,0,none⟩=_ from hc2) hnb1;have p1:=hcc.heap h1d hnb;have p2:=hcc.heap hbxd hnb1;have k3:=ag_ (j:=3) p1;have kk:=And.intro (aa_ (j:=3) (ad_ _ (.cells #[.int .u64 (x:Nat)] 50) p1) rfl) (And.intro (aa_ (j:=0) (ad_ _ (.cells #[.int .u64 (x:Nat)] 50) p2) rfl) (ag_ (j:=3) (ad_ _ (.cells #[.int .u64 (x:Nat)] 50) p1))))
    | (refine ar_ rfl (.tmp 3) (.tmp 6) 51 rfl B 50 j0 (.int .u64 0) 1 8 Tryz.underlying51 hj0 hy0 hy1 hy2 rfl (by decide) (.slice q acc.length c) acc.length cs (by simp [Act.eval]) ((HROW.out _ hcc).alloc _) ⟨_,0,none⟩ 1 1 [.int .u64 (x:Nat)] (by simp [Act.eval]) rfl (be_ _ [.int .u64 (x:Nat)] 50) (one_la _) (by unfold maxLen;omega) (by omega) (Nat.le_trans hBW (Nat.le_trans hcc.size (by simp))) ?_;intro v9 w9 hown9 hgrow9 hat9;obtain ⟨q9,c9,rfl⟩:=ah_ hown9;obtain ⟨g1,g2⟩:=HAPP.out _ _ _ hcc hgrow9;have k4:=aa_ (j:=3) g1 rfl;have k5:=aa_ (j:=0) g2 rfl;have k6:=ag_ (j:=3) g1))
  all_goals
   go_end0
   have hcw:Chg (fun k=>k=bp) W w1:=((Chg.refl _ W).drew).then hcc
   obtain ⟨r1,r2,r3⟩:=ir_ (arr:=fun v=>#[nm,lv,xp0,v,xv,xb]) (kf:=3) j7_ (fun _ _=>rfl) hp h1 h2 h3 h4 h5 h6 h7 h8 h9 LaR.le hcw (Mem.More.refl _ _) (h4.chg hcw (fun k e=>by subst e;exact h7)) (show LaR m' _ x from ⟨rfl,a1⟩) a2 a3 hown9 hgrow9 (by simpa using hat9)
   exact ⟨rw_ hB h2 r1,⟨rfl,r2,by
    refine r1.heap hbx (fun e=>?_)
    rcases e with e|e|e
    ·exact hnb1 e
    ·exact b0_ hbx h1 (by decide) e
    ·exact am_ hbx h2 (by decide) e⟩,r3⟩
end
section
variable {ys:List It} {len bp bw i:Nat} {vp:Value} {w:World} {ns:List (List Nat)} {α:Type}
def prinP (T:Nat→Option Syn.K) (ns:List (List Nat)) (i:Nat):Syn.R (List (List Nat)) :=
 (Syn.name T i).on fun s j=>if ns.length=64 then .error (74,i) else .ok (ns++[s],j)
def NOk (ys:List It) (len bp bw:Nat) (vp:Value) (w:World) (ns:List (List Nat)) (j:Nat) (e:Ending) (w':World):Prop:=e=.returned (.tuple #[])∧∃vp',PS ys len bp bw vp' w' j∧NR w' vp' ns∧Ob vp w vp'
theorem yh_ {w1 w9:World} {j n c c9:Nat} {q q9:Option Addr} {s:ByteArray} {o:Obj} (hn:n=ns.length) (h1:PS ys len bp bw (.slice q n c) w1 j) (h2:NR w1 (.slice q n c) ns) (hl:n≠64)
 (hown9:w9.ownsRow 0 9 1 (.slice q9 (n+1) c9) (n+1) (strC ns++[.string s])) (hgrow9:(w1.alloc o).grownBy w9 (Value.ownBlock (.slice q n c))) :
 Chg (TS bp (.slice q n c)) w1 (w9.setCell ⟨bp,1,none⟩ (.slice q9 (n+1) c9))∧PS ys len bp bw (.slice q9 (n+1) c9) (w9.setCell ⟨bp,1,none⟩ (.slice q9 (n+1) c9)) j∧NR (w9.setCell ⟨bp,1,none⟩ (.slice q9 (n+1) c9)) (.slice q9 (n+1) c9) (ns++[bl s]):=by
 subst hn
 have hC:Chg (fun k=>Value.ownBlock (.slice q ns.length c)=some k) w1 w9:=((Chg.refl _ w1).alloc _).then (a1_ hgrow9 (fun k e=>.inl e))
 have hC2:Chg (TS bp (.slice q ns.length c)) w1 (w9.setCell ⟨bp,1,none⟩ (.slice q9 (ns.length+1) c9)):=(hC.mono (fun k e=>.inl (.inr e))).setCell (p:=⟨bp,1,none⟩) (.inl (.inl rfl)) _
 obtain ⟨⟨cw,a1,a2⟩,⟨arr,b1,b2⟩,h3,h4⟩:=h1
 have hb:=hC.heap a1 (am_ a1 h2.1 (by decide))
 have hbt:=hC2.heap b1 (fun e=>by
  rcases e with e|e
  ·exact b0_ b1 a1 (by decide) e
  ·exact am_ b1 h2.1 (by decide) e)
 refine ⟨hC2,⟨⟨cw,ao_ hb 1 _,a2⟩,⟨arr,hbt,b2⟩,h3,h4⟩,?_,?_,?_⟩
 ·rw [nla,nlc]
  have:=a0_ hown9 ((Chg.refl (fun k=>k=bp) w9).setCell (p:=⟨bp,1,none⟩) (.inl rfl) (.slice q9 (ns.length+1) c9)) (fun k hk e=>by subst e;exact am_ hb hown9 (by decide) hk)
  unfold strC at this ⊢
  rw [List.map_append,List.map_singleton,db_];exact this
 ·rw [nla,nlc];have:=h2.2.1;omega
 ·intro t ht
  rcases List.mem_append.1 ht with ht|ht
  ·exact h2.2.2 t ht
  ·rw [List.mem_singleton.1 ht,db_]
theorem fz_ (_hw:Ws ys) (h:PS ys len bp bw vp w i) (hn:NR w vp ns) :
 Calls prog 147 #[.pointer (some ⟨bp,0,none⟩)] w (Ret ys len (TS bp vp) w (prinP (Tk ys) ns i) (NOk ys len bp bw vp w)):=by
 obtain ⟨q,c,rfl⟩:=ah_ hn.1
 obtain ⟨j0,hj0,hy0,hy1,hy2⟩:=infoStr
 have hmx:prog.follows .mixedOrders=true:=by kernel_rfl
 have hc1:=h.raw1
 obtain ⟨xb,hxb⟩:=h.blk
 have hf1:=ag_ (j:=1) hxb
 have hTS:∀{a b:World},Chg (fun k=>k=bp) a b→Chg (TS bp (.slice q ns.length c)) a b:=fun hc=>hc.mono fun _ e=>.inl (.inl e)
 have hK:=bl_ h 1
 rw [b2_] at hK
 have hl64:=hn.2.1
 have hpd:PS ys len bp bw (.slice q ns.length c) w.drew i:=h.drewN 1
 have hS0:w.drew.cell? ⟨bp,1,none⟩=some (.slice q ns.length c):=hc1
 obtain ⟨n,hnn⟩:∃n,ns.length=n:=⟨_,rfl⟩
 cases hx:Syn.named (Tk ys) i with
 | false =>
  rw [hx] at hK
  have HE:=hid (show prinP (Tk ys) ns i=.error (50,i) from by unfold prinP;rw [gz_ hx];rfl)
  have HNO:=hid (eq_ hpd hx (TS bp (.slice q ns.length c)) (.inl rfl))
  clear hx hnn
  go_enter func147,ntmps147
  go_wp2_with (go_at_call 184;refine hK.mono ?_;rintro e w' ⟨rfl,rfl⟩)
  refine wp_region_held_drew (S:=fun w'=>w'.cell? ⟨bp,1,none⟩=some (.slice q ns.length c)) hmx hS0 (fun hHeld=>?_)
  refine wpAnyH_take (i:=0) (v:=.pointer (some ⟨bp,0,none⟩)) rfl (by kernel_rfl) (by kernel_rfl) (by kernel_rfl) (fun _ _ _ h=>h) (Or.inl ⟨by rfl,fun w hSw=>by go_simp⟩) (by assumption) ?_
  try simp only [Act.put,List.setIfInBounds_toArray,List.set_cons_zero,List.set_cons_succ,List.getElem_toArray,List.getElem_cons_zero]
  refine wpAnyH_take (i:=1) (v:=.pointer (some ⟨bp,0,none⟩)) rfl (by kernel_rfl) (by kernel_rfl) (by kernel_rfl) (fun _ _ _ h=>h) (Or.inl ⟨by rfl,fun w hSw=>by go_simp⟩) (by assumption) ?_
  try simp only [Act.put,n1,n2,n3,n4,n5,n6]
  refine wpAnyH_take (i:=2) (v:=.pointer (some ⟨bp,0,none⟩)) rfl (by kernel_rfl) (by kernel_rfl) (by kernel_rfl) (fun _ _ _ h=>h) (Or.inl ⟨by rfl,fun w hSw=>by go_simp⟩) (by assumption) ?_
  try simp only [Act.put,n1,n2,n3,n4,n5,n6]
  refine wpAnyH_take (i:=3) (v:=.pointer (some ⟨bp,1,none⟩)) rfl (by kernel_rfl) (by kernel_rfl) (by kernel_rfl) (fun _ _ _ h=>h) (Or.inl ⟨by rfl,fun w hSw=>by go_simp⟩) (by assumption) ?_
  try simp only [Act.put,n1,n2,n3,n4,n5,n6]
  refine wpAnyH_take (i:=4) (v:=.slice q ns.length c) rfl (by kernel_rfl) (by kernel_rfl) (by kernel_rfl) (fun _ _ _ h=>h) (Or.inl ⟨by rfl,fun w hSw=>by go_simp⟩) (by assumption) ?_
  try simp only [Act.put,n1,n2,n3,n4,n5,n6]
  refine wpAnyH_take (i:=5) (v:=.pointer (some ⟨bp,0,none⟩)) rfl (by kernel_rfl) (by kernel_rfl) (by kernel_rfl) (fun _ _ _ h=>h) (Or.inl ⟨by rfl,fun w hSw=>by go_simp⟩) (by assumption) ?_
  try simp only [Act.put,n1,n2,n3,n4,n5,n6]
  refine wpAnyH_ready (rs:=[6]) (by kernel_rfl) (by simp) ?_
  refine AllReadyH.cons rfl (fun K hK=>?_) AllReadyH.nil
  go_simp
  go_at_call 150
  refine HNO.out.mono ?_
  rintro e w' ⟨rfl,hc⟩
  exact ⟨rfl,ai_ HE.out (((Chg.refl (TS bp (.slice q ns.length c)) w).drew).then hc)⟩
 | true =>
  rw [hx] at hK
  by_cases h64:n=64
  ·have HE:=hid (show prinP (Tk ys) ns i=.error (74,i) from by unfold prinP;rw [c7_ len hx,cl_,if_pos (hnn.trans h64)])
   have HF:=hid (fg_ h 74 (TS bp (.slice q ns.length c)))
   have hq:((ns.length:Int) == 64)=true:=by rw [hnn,h64];rfl
   clear hx hnn
   go_enter func147,ntmps147
   go_wp2_with (go_at_call 184;refine hK.mono ?_;rintro e w' ⟨rfl,rfl⟩)
   go_at_call 144
   refine HF.out.mono ?_
   rintro e w' ⟨rfl,hc⟩
   exact ⟨rfl,ai_ HE.out hc⟩
  ·have HE:=hid (show prinP (Tk ys) ns i=.ok (ns++[bl (tk ys len i).t],i+1) from by unfold prinP;rw [c7_ len hx,cl_,if_neg (by rw [hnn];exact h64)])
   have hq:((ns.length:Int) == 64)=false:=by rw [beq_eq_false_iff_ne];omega
   have HN1:=hid (cu_ hpd hx)
   have HN:=hid hn
   have HD:=hid (show NR w.drew (.slice q ns.length c) ns from by_ hn ((Chg.refl (fun _=>False) w).drew) (fun _ _ e=>e))
   have hnb:∀k,Value.ownBlock (.slice q ns.length c)=some k→¬k=bp:=nr_bp hn h
   have hxd:w.drew.heap[bp]?=some (.cells xb 153 (0,0)):=hxb
   have HROW:=hid (fun w1 (hc:Chg (fun k=>k=bp) w.drew w1)=>a0_ HD.out.1 hc hnb)
   have HAPP:=hid (fun (w1 w9:World) (o:Obj) (hp:PS ys len bp bw (.slice q ns.length c) w1 (i+1)) (hn:NR w1 (.slice q ns.length c) ns) (hg:(w1.alloc o).grownBy w9 (Value.ownBlock (.slice q ns.length c)))=>by
    have hC:Chg (fun k=>Value.ownBlock (.slice q ns.length c)=some k) w1 w9:=((Chg.refl _ w1).alloc _).then (a1_ hg (fun k e=>.inl e))
    obtain ⟨c',a1,_⟩:=hp.st
    have hb:=hC.heap a1 (am_ a1 hn.1 (by decide))
    exact (⟨aa_ (j:=1) hb rfl,ag_ hb⟩:w9.cell? ⟨bp,1,none⟩=some (.slice q ns.length c)∧w9.frozen? ⟨bp,1,none⟩=false))
   have hm64:ns.length≠64:=by rw [hnn];exact h64
   have hc1d:w.drew.cell? ⟨bp,1,none⟩=some (.slice q ns.length c):=hc1
   clear hx hnn h64
   go_enter func147,ntmps147
   go_wp2_with (go_at_call 184;refine hK.mono ?_;rintro e w' ⟨rfl,rfl⟩)
   go_region_law
    (first
     | (go_simp;go_at_call 150;refine HN1.out.mono ?_;rintro e w1 ⟨rfl,hcc,hp1⟩;have hn1:=b7_ HD.out hpd hcc;have k1:=hp1.raw1;have k2:=(hp1.alloc (.cells #[.string (tk ys len i).t] 9)).raw1)
     | (refine ar_ rfl (.tmp 18) (.tmp 21) 22 rfl 0 9 j0 (.string ⟨#[]⟩) 1 16 Tryz.underlying22 hj0 hy0 hy1 hy2 rfl (by decide) (.slice q ns.length c) ns.length (strC ns) (by simp [Act.eval]) (hn1.1.alloc _) ⟨_,0,none⟩ 1 1 [.string (tk ys len i).t] (by simp [Act.eval]) rfl (be_ _ [.string (tk ys len i).t] 9) (tw_ _) (by unfold maxLen;omega) (by omega) (Nat.zero_le _) ?_;intro v9 w9 hown9 hgrow9 hat9;obtain ⟨q9,c9,rfl⟩:=ah_ hown9;obtain ⟨k4,k6⟩:=HAPP.out _ _ _ hp1 hn1 hgrow9))
   all_goals
    go_end0
    obtain ⟨r1,r2,r3⟩:=yh_ rfl hp1 hn1 hm64 hown9 hgrow9
    have hat:Value.ownBlock (.slice q9 (ns.length+1) c9)=Value.ownBlock (.slice q ns.length c)∨Value.ownBlock (.slice q9 (ns.length+1) c9)=some (w1.heap.size+1):=by simpa using hat9
    have hszw:w.heap.size≤w1.heap.size:=hcc.size
    exact bx_ HE.out ((hTS (((Chg.refl (fun k=>k=bp) w).drew).then hcc)).then r1) ⟨rfl,_,r2,r3,fun k hk=>by
     rcases hat with e|e
     ·rw [e] at hk;exact .inl hk
     ·rw [e] at hk;injection hk with hk;right;omega⟩
end
end Go.Proofs.YtpcniebkabkikaaGreatDoor
namespace Go.Proofs.YtpcniebkabkikaaGreatDoor
open Go Go.RowKit Go.Proofs.Mm
section
variable (T:Nat→Option Syn.K)
def prinsP:Nat→List (List Nat)→Nat→Syn.R (List (List Nat))
 | 0,_,i=>.error (99,i)
 | f+1,l,i=>if Syn.is T i [59] then .ok (l,i+1) else (prinP T l i).on fun l i=>prinsP f l i
def prinLP (f:Nat) (l:List (List Nat)) (i:Nat):Syn.R (List (List Nat)):=(prinP T l i).on fun l i=>prinsP T f l i
def lineG (f:Nat) (l:List (List Nat)) (i:Nat):Syn.R (List (List Nat)):=(Syn.namesF T f l i).on fun l i=>(Syn.want T i [59]).on fun _ i=>.ok (l,i)
theorem ue_:∀(f:Nat) (l:List (List Nat)) (i:Nat),(∀j,lineG T f l i≠.error (99,j))→prinLP T f l i=lineG T f l i
 | 0,l,i,h=>(h i rfl).elim
 | f+1,l,i,h=>by
  have hG:lineG T (f+1) l i=(Syn.name T i).on fun s j=>if l.length=64 then .error (74,i) else
   if Syn.named T j then lineG T f (l++[s]) j else (Syn.want T j [59]).on fun _ j=>.ok (l++[s],j):=by
   unfold lineG
   rw [Syn.namesF]
   cases Syn.name T i with
   | error e=>rfl
   | ok x =>
    obtain ⟨s,j⟩:=x
    simp only [Syn.R.on]
    by_cases h64:l.length=64
    ·simp only [if_pos h64]
    ·simp only [if_neg h64]
     cases Syn.named T j <;> rfl
  rw [hG] at h ⊢
  unfold prinLP prinP
  cases hs:Syn.name T i with
  | error e=>rfl
  | ok x =>
   obtain ⟨s,j⟩:=x
   rw [hs] at h
   simp only [Syn.R.on] at h ⊢
   by_cases h64:l.length=64
   ·simp only [if_pos h64]
   ·simp only [if_neg h64] at h ⊢
    rw [prinsP]
    cases hn:Syn.named T j with
    | true =>
     rw [hn,if_pos rfl] at h
     rw [Syn.not_is hn,if_neg (by simp),if_pos rfl]
     exact ue_ f (l++[s]) j h
    | false =>
     simp only [Bool.false_eq_true,if_false]
     unfold Syn.want
     cases hx:Syn.is T j [59] with
     | true=>rfl
     | false =>
      have hno:Syn.name T j=.error (50,j):=by
       unfold Syn.named at hn
       unfold Syn.name
       cases hT:T j with
       | none=>rfl
       | some k=>rw [hT] at hn;simp only at hn ⊢;exact if_neg (by simpa using hn)
      simp only [Bool.false_eq_true,if_false]
      unfold prinP
      rw [hno];rfl
theorem uf_ {T:Nat→Option Syn.K} {n:Nat} (hN:∀i,n≤i→T i=none) (f:Nat) (l:List (List Nat)) (i:Nat) (h:i≤n) (hF:n<f+i):Syn.Fit n (lineG T f l i) :=
 (Syn.namesF_fit hN f l i h hF).on fun _ _j _ hj=>(Syn.want_fit hN [59] hj).on fun _ _ _ hk=>Syn.Fit.ok _ hk
end
section
variable {ys:List It} {len bp bw i:Nat} {vp:Value} {w:World} {ns:List (List Nat)}
theorem z0_:Mk (bl ⟨#[59]⟩)=true:=by decide
theorem gn_ (hw:Ws ys) (h:PS ys len bp bw vp w i) (hn:NR w vp ns) :
 Calls prog 96 #[.pointer (some ⟨bp,0,none⟩)] w (Ret ys len (TS bp vp) w (lineG (Tk ys) (ys.length+1) ns i) (NOk ys len bp bw vp w)):=by
 have hfit:=uf_ (ap_ ys) (ys.length+1) ns i h.le (by omega)
 obtain ⟨RR,hRR⟩:∃RR,lineG (Tk ys) (ys.length+1) ns i=RR:=⟨_,rfl⟩
 have heq:=ue_ (Tk ys) (ys.length+1) ns i (fun j e=>by rw [e] at hfit;exact Syn.Fit.no99 hfit rfl)
 rw [hRR] at hfit heq ⊢
 have HR0:=hid heq
 have HFIT:=hid hfit
 have h1:=an_ (fz_ hw h hn)
 clear hRR hfit heq h hn
 go_enter func96,ntmps96
 go_wp2_with fail
 go_at_call 147
 refine h1.mono ?_
 rintro e w1 ⟨hc1,⟨er,k,hr,rfl⟩|⟨l1,j1,hr,rfl,v1,hp1,hn1,ho1⟩⟩
 ·exact ⟨rfl,ai_ (by rw [←HR0.out];unfold prinLP;rw [hr];rfl) hc1⟩
 have HR1:=hid (show prinsP (Tk ys) (ys.length+1) l1 j1=RR from by rw [←HR0.out];unfold prinLP;rw [hr];rfl)
 have HN1:=hid hn1
 have C1:=hid hc1
 have HP1:=hid hp1
 have HO1:=hid ho1
 clear hc1 hr h1 hp1 hn1 ho1
 go_wp2_with fail
 go_loopw [5] (fun _ wr=>∃f l j v,Hid (prinsP (Tk ys) f l j=RR)∧Hid (PS ys len bp bw v wr j)∧Hid (NR wr v l)∧Hid (Ob vp w v)∧Hid (Chg (TS bp vp) w wr))
  (fun _ wr=>posW bp wr)
 case atStart=>exact ⟨ys.length+1,l1,j1,v1,HR1,HP1,HN1,HO1,C1⟩
 case round =>
  obtain ⟨f,l,j,v,HF,HPr,HNr,HOr,HCr⟩:=hrel
  cases f with
  | zero=>exact (HFIT.out.no99 (j:=j) (by rw [←HF.out];rfl)).elim
  | succ f =>
   have HPOS:=hid HPr.out.pos
   have hF:=HF.out
   rw [prinsP] at hF
   cases hx:Syn.is (Tk ys) j [59] with
   | true =>
    have HE:=hid (show RR=.ok (l,j+1) from by rw [←hF,hx,if_pos rfl])
    have hsk:=d7_ hw HPr.out ⟨#[59]⟩ z0_ hx
    clear hx hF
    go_wp2_with (go_at_call 95;refine hsk.mono ?_;rintro e w3 ⟨rfl,hc3,hp3⟩)
    go_end0
    exact bx_ HE.out (HCr.out.then (hc3.mono (fun k e=>.inl (.inl e)))) ⟨rfl,v,hp3,b7_ HNr.out HPr.out hc3,HOr.out⟩
   | false =>
    have hsk:=d8_ hw HPr.out ⟨#[59]⟩ z0_ hx
    have hmem:=an_ (fz_ hw HPr.out HNr.out)
    have HSTEP:=hid (show (prinP (Tk ys) l j).on (fun l i=>prinsP (Tk ys) f l i)=RR from by rw [←hF,hx,if_neg (by simp)])
    clear hx hF
    go_wp2_with (go_at_call 95;refine hsk.mono ?_;rintro e w3 ⟨rfl,rfl⟩)
    go_at_call 147
    refine hmem.mono ?_
    rintro e w4 ⟨hc4,⟨er,k,hr,rfl⟩|⟨l4,j4,hr,rfl,v4,hp4,hn4,ho4⟩⟩
    ·exact ⟨rfl,ai_ (by rw [←HSTEP.out,hr];rfl) (HCr.out.trans hc4 (fun k e=>HOr.out.ts k e))⟩
    have HF4:=hid (show prinsP (Tk ys) f l4 j4=RR from by rw [←HSTEP.out,hr];rfl)
    have hj4:j<j4:=by
     unfold prinP at hr
     obtain ⟨s1,i1,g1,g2⟩:=Syn.R.on_ok hr
     have:=(Syn.name_ok g1).2.1
     split at g2
     ·cases g2
     ·injection g2 with g2;injection g2 with _ g2;omega
    have hle4:=hp4.le
    have hpos4:=hp4.pos
    have HP4:=hid hp4
    have HN4:=hid hn4
    have HO4:=hid (HOr.out.trans ho4 HCr.out.size)
    have HC4:=hid (HCr.out.trans hc4 (fun k e=>HOr.out.ts k e))
    clear hc4 hr hp4 hn4 hmem hsk ho4
    go_wp2
    refine ⟨⟨f,l4,j4,v4,HF4,HP4,HN4,HO4,HC4⟩,?_⟩
    rw [hpos4,HPOS.out];omega
end
end Go.Proofs.YtpcniebkabkikaaGreatDoor
