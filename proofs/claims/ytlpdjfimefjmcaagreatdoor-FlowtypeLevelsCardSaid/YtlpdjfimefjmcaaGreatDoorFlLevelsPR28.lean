/- stmts of the parser, at each depth. Labels: principals by their names; member and label of the parser. member and label of the parser. decl, declLine and arrayLine of the parser. A number that is wanted, and arrayLine of the parser. -/
import Derived.Test.YtlpdjfimefjmcaaGreatDoorFlLevelsPR27
import Derived.Test.YtlpdjfimefjmcaaGreatDoorFlLevelsPR13
import Derived.Deep.QuietTactic
import Derived.BigQuiet
namespace Go.Proofs.YtlpdjfimefjmcaaGreatDoor.Q
open Go Go.RowKit Go.Proofs.Mm
section
variable {ys:List It} {len bp bw i:Nat} {vp:Value} {w:World}
theorem named_any (hw:Ws ys) (h:PS ys len bp bw vp w i) {m:Mem} (hm:Has w m) (hbm:m bp=none) :
    Calls Tryz.prog 173 #[.pointer (some ⟨bp,0,none⟩)] w (Ret ys len (fun k=>k=bp) w (namedP (Tk ys) (ys.length+1) i) (SOk ys len bp bw vp m w)):=by
  unfold namedP
  cases hn:Syn.named (Tk ys) i with
  | false =>
    rw [name_no hn]
    exact (named_bad h hn (fun k=>k=bp) rfl).mono fun e w' ⟨h1,h2⟩=>⟨h2,h1⟩
  | true =>
    rw [name_yes len hn,on_ok']
    cases hb:Syn.is (Tk ys) (i+1) [91] with
    | true=>rw [if_pos rfl];exact named_store hw h hm hbm hn hb
    | false =>
      rw [if_neg (by simp)]
      cases hq:Syn.is (Tk ys) (i+1) [40] with
      | true=>rw [if_pos rfl];exact named_call hw h hm hbm hn hb hq
      | false=>rw [if_neg (by simp)];exact named_rest hw h hm hbm hn hb hq
theorem mk_if:Mk (bl ⟨#[105,102]⟩)=true:=by decide
theorem mk_while:Mk (bl ⟨#[119,104,105,108,101]⟩)=true:=by decide
theorem mk_send:Mk (bl ⟨#[115,101,110,100]⟩)=true:=by decide
theorem tx_if : Syn.tx "if" = bl ⟨#[105, 102]⟩ := by decide
theorem tx_while : Syn.tx "while" = bl ⟨#[119, 104, 105, 108, 101]⟩ := by decide
theorem tx_send : Syn.tx "send" = bl ⟨#[115, 101, 110, 100]⟩ := by decide
theorem one_ok {r:Syn.R Syn.St} {st:Syn.St} {j:Nat} (h:r=.ok (st,j)):oneP r=.ok ([st],j):=by rw [h];rfl
theorem one_er {r:Syn.R Syn.St} {e k:Nat} (h:r=.error (e,k)):oneP r=.error (e,k):=by rw [h];rfl
structure SI (ys:List It) (len bp bw:Nat) (vp:Value) (m:Mem) (st0:List Syn.St) (v:Value) (w:World) (l:List Syn.St) (j:Nat) (n:Nat) (v':Value) (m':Mem) (W:World):Prop where
  len_:(st0++l).length=n
  br:BR W m' v' (st0++l)
  has:Has W m'
  bpn:m' bp=none
  own:∀ k,v'.ownBlock=some k→m' k=none
  more:m.More w m'
  ob:Ob v w v'
  ps:PS ys len bp bw vp W j
  chg:Chg (TS bp v) w W
  size:w.heap.size≤W.heap.size
theorem SI.next {m m':Mem} {st0 l:List Syn.St} {v v':Value} {j j' n:Nat} {W W':World} (h:SI ys len bp bw vp m st0 v w l j n v' m' W) (hc:Chg (fun k=>k=bp) W W') (hp:PS ys len bp bw vp W' j'):SI ys len bp bw vp m st0 v w l j' n v' m' W' :=
  ⟨h.len_,br_next h.ps h.br hc,h.has.chg hc (fun k e=>by subst e;exact h.bpn),h.bpn,h.own,h.more,h.ob,hp,h.chg.then (ts_of hc),Nat.le_trans h.size hc.size⟩
theorem SI.row {m m':Mem} {st0 l:List Syn.St} {v v':Value} {j n:Nat} {W W':World} (h:SI ys len bp bw vp m st0 v w l j n v' m' W) {x:List Syn.St} {j':Nat} {u:Value} (hc:Chg (TS bp v') W W') (hb:BOk ys len bp bw vp m' (st0++l) v' W x j' (.returned u) W') :
    ∃ q c m2,u=.slice q (st0++(l++x)).length c∧SI ys len bp bw vp m st0 v w (l++x) j' (st0++(l++x)).length u m2 W':=by
  obtain ⟨u',m2,e,hmo,hH,hb2,hB,hv,ho,hp⟩:=hb
  injection e with e
  subst e
  rw [List.append_assoc] at hB
  obtain ⟨q,c,rfl⟩:=br_shape hB
  exact ⟨q,c,m2,rfl,rfl,hB,hH,hb2,hv,h.more.trans (hmo.from (w:=w) h.size) (Nat.le_refl _),h.ob.trans ho h.size,hp,h.chg.trans hc (fun k e=>h.ob.ts k e),Nat.le_trans h.size hc.size⟩
theorem SI.one {m m' m1:Mem} {st0 l:List Syn.St} {v v' v9:Value} {j n j':Nat} {W W1 w9:World} (h:SI ys len bp bw vp m st0 v w l j n v' m' W) {st:Syn.St} {vt ve:Value} (hc:Chg (fun k=>k=bp) W W1) (hmo:m'.More W m1) (hH:Has W1 m1) (hb1:m1 bp=none) (ht:StrM m1 vt st.targets) (hex:ExM m1 ve st.exprs) (hp:PS ys len bp bw vp W1 j')
    {cs:List Value} (hr:W1.ownsRow 0 47 4 v' n cs) (he:Enc (StM m1) cs (st0++l)) (hown:w9.ownsRow 0 47 4 v9 (n+1) (cs++[.int .i64 (st.kind:Int),.string (sb st.name),vt,ve])) (hg:(W1.alloc (.cells #[.int .i64 (st.kind:Int),.string (sb st.name),vt,ve] 47)).grownBy w9 v'.ownBlock) (hat:v9.ownBlock=v'.ownBlock ∨ v9.ownBlock=some (W1.heap.size+1)) :
    SI ys len bp bw vp m st0 v w (l++[st]) j' (n+1) v9 m1 w9:=by
  have hlt:∀ k,v'.ownBlock=some k→k<W.heap.size:=fun k hk=>by obtain ⟨cs',h1,_⟩:=h.br;exact (h1.lt k hk).2
  obtain ⟨z1,z2,z3,z4,z5,z6,z7⟩:=br_app' hp h.len_ hr he hH (fun k hk=>hmo.new k (h.own k hk) (hlt k hk)) (cells:=[.int .i64 (st.kind:Int),.string (sb st.name),vt,ve]) ⟨vt,ve,rfl,ht,hex⟩ 47 hown hg hat
  have hs:w.heap.size≤W1.heap.size:=Nat.le_trans h.size hc.size
  exact ⟨by rw [← List.append_assoc];exact z1,by rw [← List.append_assoc];exact z2,z3,hb1,z4,h.more.trans (hmo.from (w:=w) h.size) (Nat.le_refl _),h.ob.trans z5 hs,z6,(h.chg.then (ts_of hc)).trans z7 (fun k e=>h.ob.ts k e),Nat.le_trans hs z7.size⟩
theorem SI.ok {m m':Mem} {st0 l:List Syn.St} {v v':Value} {j n:Nat} {W:World} (h:SI ys len bp bw vp m st0 v w l j n v' m' W):BOk ys len bp bw vp m st0 v w l j (.returned v') W :=
  ⟨v',m',rfl,h.more,h.has,h.bpn,h.br,h.own,h.ob,h.ps⟩
set_option maxRecDepth 100000 in
set_option maxHeartbeats 4000000 in
theorem stmts_any (hw:Ws ys) {d:Nat} {s:Option (Nat→Syn.R (List Syn.St))} (hs:SOkD ys len bp bw vp d s) :
    RdS ys len bp bw vp 150 (fun v=>#[.pointer (some ⟨bp,0,none⟩),v,.int .i64 (d:Int)]) (fun i=>stF (Tk ys) (Syn.stmtOf (Tk ys) (ys.length+1) s) (ys.length+1) [] i):=by
  intro w i v st0 m h hm hbm hb hv hcount
  obtain ⟨qv,cv,rfl⟩:=br_shape hb
  obtain ⟨n0,hn0⟩:∃ n0,st0.length=n0:=⟨_,rfl⟩
  rw [hn0] at hcount hb hv ⊢
  obtain ⟨j0,hj0,hy0,hy1,hy2⟩:=infoSt
  obtain ⟨RR,hRR⟩:∃ RR,stF (Tk ys) (Syn.stmtOf (Tk ys) (ys.length+1) s) (ys.length+1) [] i=RR:=⟨_,rfl⟩
  show Calls _ _ _ _ (Ret ys len _ w (stF (Tk ys) (Syn.stmtOf (Tk ys) (ys.length+1) s) (ys.length+1) [] i) _)
  have hfit:=stF_fit (tk_nones ys) (s:=Syn.stmtOf (Tk ys) (ys.length+1) s) (fun i hi=>Syn.stmtOf_fit (tk_nones ys) (by omega) hs.fit hs.good hi) (Syn.stmtOf_good hs.good) (ys.length+1) [] i h.le (by omega)
  rw [hRR] at hfit ⊢
  have HFIT:=Lib.hid hfit
  have HR0:=Lib.hid hRR
  have hle0:=h.le
  have H0:=Lib.hid (show SI ys len bp bw vp m st0 (.slice qv n0 cv) w [] i n0 (.slice qv n0 cv) m w from
    ⟨by rw [List.append_nil];exact hn0,by rw [List.append_nil];exact hb,hm,hbm,hv,Mem.More.refl _ _,fun k hk=>.inl hk,h,Chg.refl _ _,Nat.le_refl _⟩)
  clear hRR hfit h hm hb hv hn0
  go_enter Tryz.func150,Tryz.ntmps150
  go_wp2_with fail
  go_loopw [1] (fun a wr=>∃ f l j n q c m2,n+(ys.length - j)≤131072∧a=.slice q n c∧Hid (stF (Tk ys) (Syn.stmtOf (Tk ys) (ys.length+1) s) f l j=RR)∧Hid (SI ys len bp bw vp m st0 (.slice qv n0 cv) w l j n (.slice q n c) m2 wr))
    (fun _ wr=>posW bp wr)
  case atStart=>exact ⟨ys.length+1,[],i,n0,qv,cv,m,hcount,rfl,HR0,H0⟩
  case round =>
    obtain ⟨f,l,j,n,q,c,m2,hcnt,rfl,HF,HS⟩:=hrel
    clear hcount
    cases f with
    | zero=>exact (HFIT.out.no99 (j:=j) (by rw [← HF.out];rfl)).elim
    | succ f =>
      have HPOS:=Lib.hid HS.out.ps.pos
      have hstep:start (Tk ys) j=true→(Syn.stmtOf (Tk ys) (ys.length+1) s j).on (fun x k=>stF (Tk ys) (Syn.stmtOf (Tk ys) (ys.length+1) s) f (l++x) k)=RR:=fun hst=>by
        rw [← HF.out,stF,hst,if_pos rfl]
      cases hif : Syn.is (Tk ys) j (Syn.tx "if") with
      | true =>
        have HG:=Lib.hid (show (branchP (Tk ys) (ys.length+1) s (j+1)).on (fun x k=>stF (Tk ys) (Syn.stmtOf (Tk ys) (ys.length+1) s) f (l++x) k)=RR from by
          rw [← hstep (by unfold start;rw [hif];rfl),stmtOf_eq,hif,if_pos rfl])
        have hsk:=skip_t hw HS.out.ps ⟨#[105,102]⟩ mk_if (by rw [← tx_if];exact hif)
        have hlt:=lt_of_is hif
        clear hif hstep
        go_wp2_with fail
        go_at_call 115
        refine hsk.mono ?_
        rintro e wk ⟨rfl,hck,hpk⟩
        have HI:=Lib.hid (HS.out.next hck hpk)
        clear hsk hck hpk
        have hcall:=ret_cases (branch_any (len:=len) (bp:=bp) (bw:=bw) (vp:=vp) hw hs wk (j+1) _ (st0++l) m2 HI.out.ps HI.out.has HI.out.bpn HI.out.br HI.out.own (by rw [HI.out.len_];omega))
        have hle:=HI.out.ps.le
        go_wp2_with fail
        go_at_call 170
        refine hcall.mono ?_
        rintro e w4 ⟨hc4,⟨er,k,hr,rfl⟩ | ⟨x,j4,hr,hbo⟩⟩
        · exact ⟨rfl,ret_err (by rw [← HG.out,hr];rfl) (HI.out.chg.trans hc4 (fun k e=>HI.out.ob.ts k e))⟩
        have HG4:=Lib.hid (show stF (Tk ys) (Syn.stmtOf (Tk ys) (ys.length+1) s) f (l++x) j4=RR from by rw [← HG.out,hr];rfl)
        have hcn:=branch_cnt hs.cnt hs.no _ _ _ hr
        obtain ⟨u,m9,he9,hrest⟩:=hbo
        obtain rfl:=he9
        obtain ⟨q4,c4,m4,rfl,hsi⟩:=HI.out.row hc4 ⟨u,m9,rfl,hrest⟩
        have hle4:=hsi.ps.le
        have hpos4:=hsi.ps.pos
        have hn4:(st0++(l++x)).length=n+x.length:=by rw [← List.append_assoc,List.length_append,HI.out.len_]
        generalize (st0++(l++x)).length=n4 at *
        have HSI:=Lib.hid hsi
        have HN4:=Lib.hid hn4
        clear hcall hc4 hr hrest hsi hn4
        go_wp2_with fail
        refine ⟨⟨f,l++x,j4,n4,q4,c4,m4,by have:=HN4.out;omega,rfl,HG4,HSI⟩,?_⟩
        rw [hpos4,HPOS.out];omega
      | false =>
      have hsk1:=Lib.hid (skip_f hw HS.out.ps ⟨#[105,102]⟩ mk_if (by rw [← tx_if];exact hif))
      cases hwh : Syn.is (Tk ys) j (Syn.tx "while") with
      | true =>
        have HG:=Lib.hid (show (loopP (Tk ys) (ys.length+1) s (j+1)).on (fun x k=>stF (Tk ys) (Syn.stmtOf (Tk ys) (ys.length+1) s) f (l++x) k)=RR from by
          rw [← hstep (by unfold start;rw [hif,hwh];rfl),stmtOf_eq,hif,if_neg (by simp),hwh,if_pos rfl])
        have hsk:=skip_t hw HS.out.ps ⟨#[119,104,105,108,101]⟩ mk_while (by rw [← tx_while];exact hwh)
        have hlt:=lt_of_is hwh
        clear hif hwh hstep
        go_wp2_with fail
        go_at_call 115
        refine hsk1.out.mono ?_
        rintro e w' ⟨rfl,rfl⟩
        go_wp2_with fail
        go_at_call 115
        refine hsk.mono ?_
        rintro e wk ⟨rfl,hck,hpk⟩
        have HI:=Lib.hid (HS.out.next hck hpk)
        clear hsk hck hpk
        have hcall:=ret_cases (loop_any (len:=len) (bp:=bp) (bw:=bw) (vp:=vp) hw hs wk (j+1) _ (st0++l) m2 HI.out.ps HI.out.has HI.out.bpn HI.out.br HI.out.own (by rw [HI.out.len_];omega))
        have hle:=HI.out.ps.le
        go_wp2_with fail
        go_at_call 171
        refine hcall.mono ?_
        rintro e w4 ⟨hc4,⟨er,k,hr,rfl⟩ | ⟨x,j4,hr,hbo⟩⟩
        · exact ⟨rfl,ret_err (by rw [← HG.out,hr];rfl) (HI.out.chg.trans hc4 (fun k e=>HI.out.ob.ts k e))⟩
        have HG4:=Lib.hid (show stF (Tk ys) (Syn.stmtOf (Tk ys) (ys.length+1) s) f (l++x) j4=RR from by rw [← HG.out,hr];rfl)
        have hcn:=loopP_cnt hs.cnt hs.no _ _ _ hr
        obtain ⟨u,m9,he9,hrest⟩:=hbo
        obtain rfl:=he9
        obtain ⟨q4,c4,m4,rfl,hsi⟩:=HI.out.row hc4 ⟨u,m9,rfl,hrest⟩
        have hle4:=hsi.ps.le
        have hpos4:=hsi.ps.pos
        have hn4:(st0++(l++x)).length=n+x.length:=by rw [← List.append_assoc,List.length_append,HI.out.len_]
        generalize (st0++(l++x)).length=n4 at *
        have HSI:=Lib.hid hsi
        have HN4:=Lib.hid hn4
        clear hcall hc4 hr hrest hsi hn4
        go_wp2_with fail
        refine ⟨⟨f,l++x,j4,n4,q4,c4,m4,by have:=HN4.out;omega,rfl,HG4,HSI⟩,?_⟩
        rw [hpos4,HPOS.out];omega
      | false =>
      have hsk2:=Lib.hid (skip_f hw HS.out.ps ⟨#[119,104,105,108,101]⟩ mk_while (by rw [← tx_while];exact hwh))
      cases hse : Syn.is (Tk ys) j (Syn.tx "send") with
      | true =>
        have HG:=Lib.hid (show (oneP (sendP (Tk ys) (ys.length+1) (j+1))).on (fun x k=>stF (Tk ys) (Syn.stmtOf (Tk ys) (ys.length+1) s) f (l++x) k)=RR from by
          rw [← hstep (by unfold start;rw [hif,hwh,hse];rfl),stmtOf_eq,hif,if_neg (by simp),hwh,if_neg (by simp),hse,if_pos rfl])
        have hsk:=skip_t hw HS.out.ps ⟨#[115,101,110,100]⟩ mk_send (by rw [← tx_send];exact hse)
        have hlt:=lt_of_is hse
        have HIF:=Lib.hid hif
        have HWH:=Lib.hid hwh
        have HSE:=Lib.hid hse
        clear hif hwh hse hstep
        go_wp2_with fail
        go_at_call 115
        refine hsk1.out.mono ?_
        rintro e w' ⟨rfl,rfl⟩
        go_wp2_with fail
        go_at_call 115
        refine hsk2.out.mono ?_
        rintro e w' ⟨rfl,rfl⟩
        go_wp2_with fail
        go_at_call 115
        refine hsk.mono ?_
        rintro e wk ⟨rfl,hck,hpk⟩
        have HI:=Lib.hid (HS.out.next hck hpk)
        clear hsk hck hpk
        have hcall:=ret_cases (send_any (len:=len) (bp:=bp) (bw:=bw) (vp:=vp) hw HI.out.ps HI.out.has HI.out.bpn)
        have hle:=HI.out.ps.le
        go_wp2_with fail
        go_at_call 172
        refine hcall.mono ?_
        rintro e w4 ⟨hc4,⟨er,k,hr,rfl⟩ | ⟨st,j4,hr,vt,ve,m4,rfl,hmo,hH,hb4,ht,hex,hp4⟩⟩
        · exact ⟨rfl,ret_err (by rw [← HG.out,one_er hr];rfl) (HI.out.chg.then (ts_of hc4))⟩
        obtain ⟨qt,ct,rfl⟩:=row_shape ht
        obtain ⟨qe,ce,rfl⟩:=ex_shape hex
        have HG4:=Lib.hid (show stF (Tk ys) (Syn.stmtOf (Tk ys) (ys.length+1) s) f (l++[st]) j4=RR from by rw [← HG.out,one_ok hr];rfl)
        have hgo:j<j4:=(Syn.stmtOf_good hs.good j [st] j4 (by rw [stmtOf_eq];rw [HIF.out,if_neg (by simp),HWH.out,if_neg (by simp),HSE.out,if_pos rfl];exact one_ok hr)).2.2
        have hle4:=hp4.le
        obtain ⟨cs4,hr4,he4⟩:=br_own (br_le (br_next HI.out.ps HI.out.br hc4) hmo.le) HI.out.len_
        have HEND:=Lib.hid (fun v9 w9=>HI.out.one (v9:=v9) (w9:=w9) hc4 hmo hH hb4 ht hex hp4 hr4 he4)
        clear hcall hr hmo hH hb4 ht hex hp4
        generalize ((st.kind:Nat):Int)=sk at *
        generalize sb st.name=sn at *
        generalize st.targets.length=tn at *
        generalize st.exprs.length=en at *
        go_wp2_with (at_builtin;refine wpList_append_own_at _ rfl _ _ 41 rfl 0 47 j0 _ 4 72 Tryz.underlying41 hj0 hy0 hy1 hy2 rfl (by decide) _ _ _ rfl (hr4.alloc _) ⟨w4.heap.size,0,none⟩ 1 1 [.int .i64 sk,.string sn,.slice qt tn ct,.slice qe en ce] rfl rfl (row_new w4 [.int .i64 sk,.string sn,.slice qt tn ct,.slice qe en ce] 47) (st_one _ _ _ _ _ _ _ _) (by unfold maxLen;omega) (by omega) (Nat.zero_le _) ?_)
        intro v9 w9 hown9 hgrow9 _ hat9
        obtain ⟨q9,c9,rfl⟩:=own_shape hown9
        have hsi:=HEND.out _ _ hown9 hgrow9 hat9
        have hpos4:=hsi.ps.pos
        have HSI:=Lib.hid hsi
        clear hown9 hgrow9 hat9 hr4 he4 hsi hc4
        go_wp2
        refine ⟨⟨f,l++[st],j4,n+1,q9,c9,m4,by omega,rfl,HG4,HSI⟩,?_⟩
        rw [hpos4,HPOS.out];omega
      | false =>
      have hsk3:=Lib.hid (skip_f hw HS.out.ps ⟨#[115,101,110,100]⟩ mk_send (by rw [← tx_send];exact hse))
      have hk:=isKind_ps HS.out.ps 1
      cases hnm:Syn.named (Tk ys) j with
      | true =>
        rw [named_kind,hnm] at hk
        have HG:=Lib.hid (show (oneP (namedP (Tk ys) (ys.length+1) j)).on (fun x k=>stF (Tk ys) (Syn.stmtOf (Tk ys) (ys.length+1) s) f (l++x) k)=RR from by
          rw [← hstep (by unfold start;rw [hnm];simp),stmtOf_eq,hif,if_neg (by simp),hwh,if_neg (by simp),hse,if_neg (by simp)])
        have hlt:=lt_of_named hnm
        have HIF:=Lib.hid hif
        have HWH:=Lib.hid hwh
        have HSE:=Lib.hid hse
        clear hif hwh hse hnm hstep
        go_wp2_with fail
        go_at_call 115
        refine hsk1.out.mono ?_
        rintro e w' ⟨rfl,rfl⟩
        go_wp2_with fail
        go_at_call 115
        refine hsk2.out.mono ?_
        rintro e w' ⟨rfl,rfl⟩
        go_wp2_with fail
        go_at_call 115
        refine hsk3.out.mono ?_
        rintro e w' ⟨rfl,rfl⟩
        go_wp2_with (go_at_call 167;refine hk.mono ?_;rintro e wk ⟨rfl,rfl⟩)
        have HI:=HS
        have hcall:=ret_cases (named_any (len:=len) (bp:=bp) (bw:=bw) (vp:=vp) hw HI.out.ps HI.out.has HI.out.bpn)
        have hle:=HI.out.ps.le
        go_wp2_with fail
        go_at_call 173
        refine hcall.mono ?_
        rintro e w4 ⟨hc4,⟨er,k,hr,rfl⟩ | ⟨st,j4,hr,vt,ve,m4,rfl,hmo,hH,hb4,ht,hex,hp4⟩⟩
        · exact ⟨rfl,ret_err (by rw [← HG.out,one_er hr];rfl) (HI.out.chg.then (ts_of hc4))⟩
        obtain ⟨qt,ct,rfl⟩:=row_shape ht
        obtain ⟨qe,ce,rfl⟩:=ex_shape hex
        have HG4:=Lib.hid (show stF (Tk ys) (Syn.stmtOf (Tk ys) (ys.length+1) s) f (l++[st]) j4=RR from by rw [← HG.out,one_ok hr];rfl)
        have hgo:j<j4:=(Syn.stmtOf_good hs.good j [st] j4 (by rw [stmtOf_eq];rw [HIF.out,if_neg (by simp),HWH.out,if_neg (by simp),HSE.out,if_neg (by simp)];exact one_ok hr)).2.2
        have hle4:=hp4.le
        obtain ⟨cs4,hr4,he4⟩:=br_own (br_le (br_next HI.out.ps HI.out.br hc4) hmo.le) HI.out.len_
        have HEND:=Lib.hid (fun v9 w9=>HI.out.one (v9:=v9) (w9:=w9) hc4 hmo hH hb4 ht hex hp4 hr4 he4)
        clear hcall hr hmo hH hb4 ht hex hp4
        generalize ((st.kind:Nat):Int)=sk at *
        generalize sb st.name=sn at *
        generalize st.targets.length=tn at *
        generalize st.exprs.length=en at *
        go_wp2_with (at_builtin;refine wpList_append_own_at _ rfl _ _ 41 rfl 0 47 j0 _ 4 72 Tryz.underlying41 hj0 hy0 hy1 hy2 rfl (by decide) _ _ _ rfl (hr4.alloc _) ⟨w4.heap.size,0,none⟩ 1 1 [.int .i64 sk,.string sn,.slice qt tn ct,.slice qe en ce] rfl rfl (row_new w4 [.int .i64 sk,.string sn,.slice qt tn ct,.slice qe en ce] 47) (st_one _ _ _ _ _ _ _ _) (by unfold maxLen;omega) (by omega) (Nat.zero_le _) ?_)
        intro v9 w9 hown9 hgrow9 _ hat9
        obtain ⟨q9,c9,rfl⟩:=own_shape hown9
        have hsi:=HEND.out _ _ hown9 hgrow9 hat9
        have hpos4:=hsi.ps.pos
        have HSI:=Lib.hid hsi
        clear hown9 hgrow9 hat9 hr4 he4 hsi hc4
        go_wp2
        refine ⟨⟨f,l++[st],j4,n+1,q9,c9,m4,by omega,rfl,HG4,HSI⟩,?_⟩
        rw [hpos4,HPOS.out];omega
      | false =>
        rw [named_kind,hnm] at hk
        have HE:=Lib.hid (show RR=.ok (l,j) from by
          rw [← HF.out,stF,show start (Tk ys) j=false from by unfold start;rw [hif,hwh,hse,hnm];rfl,if_neg (by simp)])
        clear hif hwh hse hnm hstep
        go_wp2_with fail
        go_at_call 115
        refine hsk1.out.mono ?_
        rintro e w' ⟨rfl,rfl⟩
        go_wp2_with fail
        go_at_call 115
        refine hsk2.out.mono ?_
        rintro e w' ⟨rfl,rfl⟩
        go_wp2_with fail
        go_at_call 115
        refine hsk3.out.mono ?_
        rintro e w' ⟨rfl,rfl⟩
        go_wp2_with (go_at_call 167;refine hk.mono ?_;rintro e wk ⟨rfl,rfl⟩)
        go_ret
        exact ret_ok HE.out HS.out.chg HS.out.ok
theorem stmts_all (hw:Ws ys):∀ d,d≤12→RdS ys len bp bw vp 150 (fun v=>#[.pointer (some ⟨bp,0,none⟩),v,.int .i64 ((12 - d:Nat):Int)]) (fun i=>stF (Tk ys) (Syn.stmtD (Tk ys) (ys.length+1) d) (ys.length+1) [] i)
  | 0,_=>stmts_any hw (.inl ⟨rfl,rfl⟩)
  | d+1,h=>by
    refine stmts_any hw (d:=12 - (d+1)) (s:=some (Syn.stmtD (Tk ys) (ys.length+1) d)) (.inr ⟨by omega,_,rfl,stmtD_cnt d,Syn.stmt_fit (tk_nones ys) (by omega) d,Syn.stmt_good d,stmtD_no d,?_⟩)
    have:=stmts_all hw d (by omega)
    rw [show (((12 - (d+1):Nat):Int)+1)=((12 - d:Nat):Int) by omega]
    exact this
end
end Go.Proofs.YtlpdjfimefjmcaaGreatDoor.Q
namespace Go.Proofs.YtlpdjfimefjmcaaGreatDoor.Q
open Go Go.RowKit Go.Proofs.Mm
def NR (w:World) (vp:Value) (ns:List (List Nat)):Prop:=w.ownsRow 0 9 1 vp ns.length (strC ns)∧ns.length≤64∧∀ s ∈ ns,bl (sb s)=s
theorem nr_cell {w:World} {q:Option Addr} {n c:Nat} {ns:List (List Nat)} (h:NR w (.slice q n c) ns) (j:Nat) (hj:j<ns.length):∃ g,q=some ⟨g,0,none⟩∧w.cell? ⟨g,j,none⟩=some (.string (sb ns[j])):=by
  obtain ⟨h,_,_⟩:=h
  rcases h.2 with ⟨h0,h1⟩ | ⟨g,cap,cur,h0,_,hg,_,_,_,ht⟩
  · omega
  · simp only [Value.slice.injEq] at h0
    obtain ⟨rfl,rfl,rfl⟩:=h0
    refine ⟨g,rfl,cell_of hg ?_⟩
    have hk:=congrArg (fun l=>l[j]?) ht
    simp only [List.getElem?_take,strC,List.getElem?_map,List.getElem?_eq_getElem hj,Option.map_some] at hk
    rw [if_pos (by omega)] at hk
    simpa using hk
def ixV (ns:List (List Nat)) (t:List Nat):Int:=if ns.idxOf t<ns.length then (ns.idxOf t:Int) else -1
theorem ix_miss {ns:List (List Nat)} {t:List Nat} {k:Nat} (hk:k<ns.idxOf t) (h:k<ns.length):ns[k] ≠ t:=by
  intro e
  have:=List.not_of_lt_findIdx (p:=fun x=>x == t) (xs:=ns) (show k<ns.findIdx (fun x=>x == t) from hk)
  simp [e] at this
set_option maxRecDepth 100000 in
theorem index_any {w:World} {q:Option Addr} {n c:Nat} {ns:List (List Nat)} (h:NR w (.slice q n c) ns) (hn:n=ns.length) (t:ByteArray) :
    Calls Tryz.prog 70 #[.slice q n c,.string t] w fun e w'=>e=.returned (.int .i64 (ixV ns (bl t)))∧w=w':=by
  subst hn
  have hlen:=h.2.1
  obtain ⟨nn,hnn⟩:∃ nn,ns.length=nn:=⟨_,rfl⟩
  have hcell:=fun j (hj:j<ns.length)=>nr_cell h j hj
  have heq:=fun j (hj:j<ns.length)=>h.2.2 ns[j] (List.getElem_mem hj)
  have hmiss:=fun j (hj:j<ns.length) (hi:j<ns.idxOf (bl t))=>ix_miss hi hj
  have hle:=List.idxOf_le_length (a:=bl t) (l:=ns)
  have hhit:=fun (hi:ns.idxOf (bl t)<ns.length)=>List.getElem_idxOf hi
  have HV:=Lib.hid (show ixV ns (bl t)=if ns.idxOf (bl t)<ns.length then (ns.idxOf (bl t):Int) else -1 from rfl)
  rw [hnn] at hlen hle ⊢
  have HNN:=Lib.hid hnn
  have HC:=Lib.hid hcell
  have HQ:=Lib.hid heq
  have HM:=Lib.hid hmiss
  have HH:=Lib.hid hhit
  obtain ⟨ix,hix⟩:∃ ix,ns.idxOf (bl t)=ix:=⟨_,rfl⟩
  have HIX:=Lib.hid hix
  rw [hix] at hle
  obtain ⟨iv,hiv⟩:∃ iv,ixV ns (bl t)=iv:=⟨_,rfl⟩
  rw [hiv]
  have HIV:=Lib.hid hiv
  clear hnn hcell heq hmiss hhit h hix hiv
  go_enter Tryz.func70,Tryz.ntmps70
  go_wp2
  go_loop [8] (fun a=>∃ k:Nat,k≤ix∧a=.int .i64 k) (fun a=>65 - (intOf a).toNat)
  case atStart=>exact ⟨0,Nat.zero_le _,rfl⟩
  case round =>
    obtain ⟨k,hk,rfl⟩:=hrel
    by_cases hkn:k<nn
    · obtain ⟨g,rfl,hck⟩:=HC.out k (by rw [HNN.out];exact hkn)
      have hb:=HQ.out k (by rw [HNN.out];exact hkn)
      by_cases hki:k=ix
      · subst hki
        have he:(t.toList == (sb (ns[k]'(by rw [HNN.out];exact hkn))).toList)=true:=by
          rw [eq_text,hb]
          have h2:=HH.out (by rw [HIX.out,HNN.out];exact hkn)
          simp only [HIX.out] at h2
          rw [h2];simp
        have HR:=Lib.hid (show iv=(k:Int) from by rw [← HIV.out,HV.out,HIX.out,HNN.out,if_pos hkn])
        clear hb
        generalize sb (ns[k]'_)=sk at *
        go_wp2
        go_ret
        exact ⟨by rw [HR.out];rfl,rfl⟩
      · have he:(t.toList == (sb (ns[k]'(by rw [HNN.out];exact hkn))).toList)=false:=by
          rw [eq_text,hb,beq_eq_false_iff_ne]
          exact fun e=>HM.out k (by rw [HNN.out];exact hkn) (by rw [HIX.out];omega) e.symm
        have hlt:k<ix:=by omega
        clear hb hki
        generalize sb (ns[k]'_)=sk at *
        go_wp2
        go_round
        case rel=>exact ⟨k+1,by omega,by go_num⟩
        case measure=>simp [intOf];omega
    · have HR:=Lib.hid (show iv=-1 from by rw [← HIV.out,HV.out,HIX.out,HNN.out,if_neg (by omega)])
      go_wp2
      go_ret
      exact ⟨by rw [HR.out];rfl,rfl⟩
end Go.Proofs.YtlpdjfimefjmcaaGreatDoor.Q
namespace Go.Proofs.YtlpdjfimefjmcaaGreatDoor.Q
open Go Go.RowKit Go.Proofs.Mm
section
variable {ys:List It} {len bp bw i:Nat} {vp:Value} {w:World} {ns:List (List Nat)}
theorem PS.raw1 (h:PS ys len bp bw vp w i):w.cell? ⟨bp,1,none⟩=some vp:=by
  obtain ⟨c,h1,_⟩:=h.st
  exact cell_of h1 rfl
theorem PS.drewN (h:PS ys len bp bw vp w i) (n:Nat):PS ys len bp bw vp (w.drewN n) i:=h.chg (S:=fun _=>False) ((Chg.refl _ w).drewN n) id id
theorem nr_chg (hn:NR w vp ns) {w':World} {S:Nat→Prop} (hc:Chg S w w') (h:∀ k,vp.ownBlock=some k→¬ S k):NR w' vp ns:=⟨own_chg hn.1 hc h,hn.2⟩
theorem nr_bp (hn:NR w vp ns) (h:PS ys len bp bw vp w i):∀ k,vp.ownBlock=some k→¬ k=bp:=by
  rintro k hk rfl
  obtain ⟨cur,h2⟩:=own_type hn.1 hk
  obtain ⟨c,h1,_⟩:=h.st
  have:=h1.symm.trans h2
  simp at this
theorem nr_next (hn:NR w vp ns) (h:PS ys len bp bw vp w i) {w':World} (hc:Chg (fun k=>k=bp) w w'):NR w' vp ns:=nr_chg hn hc (nr_bp hn h)
def memberP (T:Nat→Option Syn.K) (ns:List (List Nat)) (i:Nat):Syn.R Nat :=
  (Syn.name T i).on fun s j=>if ns.idxOf s<ns.length then .ok (ns.idxOf s,j) else .error (10,i)
theorem index_flip {W:World} {q:Option Addr} {n c:Nat} (h:NR W (.slice q n c) ns) (hn:n=ns.length) (t:ByteArray) :
    Calls Tryz.prog 70 #[.slice q n c,.string t] W fun e w'=>e=.returned (.int .i64 (ixV ns (bl t)))∧w'=W:=(index_any h hn t).mono fun _ _ ⟨a,b⟩=>⟨a,b.symm⟩
set_option maxRecDepth 100000 in
set_option maxHeartbeats 1000000 in
theorem member_any (_hw:Ws ys) (h:PS ys len bp bw vp w i) (hn:NR w vp ns) :
    Calls Tryz.prog 169 #[.pointer (some ⟨bp,0,none⟩)] w (Ret ys len (fun k=>k=bp) w (memberP (Tk ys) ns i) fun k j e w'=>e=.returned (.int .i64 (k:Nat))∧k<64∧PS ys len bp bw vp w' j∧NR w' vp ns):=by
  obtain ⟨qv,cv,rfl⟩:=own_shape hn.1
  obtain ⟨c,h0,hf,hc,hc2,h1,h2,h3,h4⟩:=h.raw
  have h5:=h.raw1
  have hle:=h.le
  have hm:0<ys.length+1 - i:=by omega
  have HIX:=Lib.hid (fun n=>index_flip (W:=w.drewN n) (show NR (w.drewN n) (.slice qv ns.length cv) ns from nr_chg hn ((Chg.refl (fun _=>False) w).drewN n) (fun _ _ e=>e)) rfl (tk ys len i).t)
  have HP:=Lib.hid h
  have HN:=Lib.hid hn
  have hl64:=hn.2.1
  have HC0:=Lib.hid (fun n=>(Chg.refl (fun k=>k=bp) w).drewN n)
  have HNd:=Lib.hid (fun n=>nr_chg hn ((Chg.refl (fun _=>False) w).drewN n) (fun _ _ e=>e))
  cases hnm:Syn.named (Tk ys) i with
  | false =>
    have HK:=Lib.hid (fun n=>by
      have:=isKind_ps (h.drewN n) 1
      rw [named_kind,hnm] at this
      exact this)
    have HNO:=Lib.hid (fun n=>name_none (h.drewN n) hnm (fun k=>k=bp) rfl)
    have HE:=Lib.hid (show memberP (Tk ys) ns i=.error (50,i) from by unfold memberP;rw [name_no hnm];rfl)
    obtain ⟨iv,hiv⟩:∃ iv,ixV ns (bl (tk ys len i).t)=iv:=⟨_,rfl⟩
    rw [hiv] at HIX
    have HIV:=Lib.hid hiv
    clear hiv h hn hf hc hc2 h1 h3 h4 hnm
    generalize ys.length+1 - i=m at *
    generalize 4 * i=o at *
    go_enter Tryz.func169,Tryz.ntmps169
    go_wp2
    go_quiet ((go_at_call 70;exact Calls.quiet_of_same (HIX.out _)))
    go_wp2_with (go_at_call 167;refine (HK.out _).mono ?_;rintro e w' ⟨rfl,rfl⟩)
    go_at_call 144
    refine (HNO.out _).mono ?_
    rintro e w2 ⟨rfl,hc⟩
    exact ⟨rfl,ret_err HE.out ((HC0.out _).then hc)⟩
  | true =>
    have HK:=Lib.hid (fun n=>by
      have:=isKind_ps (h.drewN n) 1
      rw [named_kind,hnm] at this
      exact this)
    by_cases hx:ns.idxOf (bl (tk ys len i).t)<ns.length
    · have HNO:=Lib.hid (fun n=>name_one (h.drewN n) hnm)
      have HE:=Lib.hid (show memberP (Tk ys) ns i=.ok (ns.idxOf (bl (tk ys len i).t),i+1) from by unfold memberP;rw [name_yes len hnm,on_ok',if_pos hx])
      have hiv:ixV ns (bl (tk ys len i).t)=(ns.idxOf (bl (tk ys len i).t):Int):=if_pos hx
      rw [hiv] at HIX
      have hl2:ns.idxOf (bl (tk ys len i).t)<64:=by omega
      have HPN:=Lib.hid (fun n=>h.drewN n)
      clear hiv h hn hf hc hc2 h1 h3 h4 hnm hx
      generalize ns.idxOf (bl (tk ys len i).t)=ix at *
      have hge:¬ (ix:Int)<0:=by omega
      have hge2:decide ((ix:Int)<0)=false:=by simp
      generalize ys.length+1 - i=m at *
      generalize 4 * i=o at *
      go_enter Tryz.func169,Tryz.ntmps169
      go_wp2
      go_quiet ((go_at_call 70;exact Calls.quiet_of_same (HIX.out _)))
      go_wp2_with (go_at_call 167;refine (HK.out _).mono ?_;rintro e w' ⟨rfl,rfl⟩)
      go_at_call 144
      refine (HNO.out _).mono ?_
      rintro e w2 ⟨rfl,hcw,hp⟩
      go_wp2
      go_ret
      exact ret_ok HE.out ((HC0.out _).then hcw) ⟨rfl,hl2,hp,nr_next (HNd.out _) (HPN.out _) hcw⟩
    · have HF:=Lib.hid (fun n=>fail_ps (h.drewN n) 10 (fun k=>k=bp))
      have HE:=Lib.hid (show memberP (Tk ys) ns i=.error (10,i) from by unfold memberP;rw [name_yes len hnm,on_ok',if_neg hx])
      have hiv:ixV ns (bl (tk ys len i).t)=-1:=if_neg hx
      rw [hiv] at HIX
      clear hiv h hn hf hc hc2 h1 h3 h4 hnm hx
      generalize ys.length+1 - i=m at *
      generalize 4 * i=o at *
      go_enter Tryz.func169,Tryz.ntmps169
      go_wp2
      go_quiet ((go_at_call 70;exact Calls.quiet_of_same (HIX.out _)))
      go_wp2_with (go_at_call 167;refine (HK.out _).mono ?_;rintro e w' ⟨rfl,rfl⟩)
      go_at_call 138
      refine (HF.out _).mono ?_
      rintro e w2 ⟨rfl,hc⟩
      exact ⟨rfl,ret_err HE.out ((HC0.out _).then hc)⟩
theorem or_pow (l k:Nat):l ||| 1 <<< k=orAll [l,ofInts [(k:Int)]] ∨ 64≤k:=by
  by_cases hk:k<64
  · left
    have hk2:(k:Int)<64:=by omega
    unfold orAll ofInts ofStep
    simp [Nat.one_shiftLeft,hk2]
  · exact .inr (by omega)
theorem mk_123':Mk (bl ⟨#[123]⟩)=true:=by decide
def labP (T:Nat→Option Syn.K) (ns:List (List Nat)) (f l i:Nat):Syn.R Nat:=(Syn.labelF T ns f l i).on fun l i=>(Syn.want T i [125]).on fun _ i=>.ok (l,i)
set_option maxRecDepth 100000 in
set_option maxHeartbeats 1000000 in
theorem label_any (hw:Ws ys) (h:PS ys len bp bw vp w i) (hn:NR w vp ns) :
    Calls Tryz.prog 146 #[.pointer (some ⟨bp,0,none⟩)] w (Ret ys len (fun k=>k=bp) w (Syn.label (Tk ys) (ys.length+1) ns i) fun l j e w'=>e=.returned (.int .u64 (l:Nat))∧l<18446744073709551616∧PS ys len bp bw vp w' j∧NR w' vp ns):=by
  have hfit:=Syn.label_fit (tk_nones ys) (F:=ys.length+1) (by omega) ns h.le
  obtain ⟨RR,hRR⟩:∃ RR,Syn.label (Tk ys) (ys.length+1) ns i=RR:=⟨_,rfl⟩
  rw [hRR] at hfit ⊢
  have hR0:(Syn.want (Tk ys) i [123]).on (fun _ i=>labP (Tk ys) ns (ys.length+1) 0 i)=RR:=hRR
  have HR0:=Lib.hid hR0
  have HFIT:=Lib.hid hfit
  have h1:=want_at hw h ⟨#[123]⟩ mk_123
  have HN:=Lib.hid hn
  have HP:=Lib.hid h
  clear hRR hR0 hfit hn h
  go_enter Tryz.func146,Tryz.ntmps146
  go_wp2_with fail
  go_at_call 143
  refine h1.mono ?_
  rintro e w1 ⟨hc1,⟨hr,rfl⟩ | ⟨hr,rfl,hp1⟩⟩
  · exact ⟨rfl,ret_err (by rw [← HR0.out,show ([123]:List Nat)=bl ⟨#[123]⟩ from rfl,hr];rfl) hc1⟩
  have HR1:=Lib.hid (show labP (Tk ys) ns (ys.length+1) 0 (i+1)=RR from by rw [← HR0.out,show ([123]:List Nat)=bl ⟨#[123]⟩ from rfl,hr];rfl)
  have HN1:=Lib.hid (nr_next HN.out HP.out hc1)
  have C1:=Lib.hid hc1
  have HP1:=Lib.hid hp1
  clear hc1 hr h1 hp1
  go_wp2_with fail
  go_loopw [3] (fun a wr=>∃ f l j,l<18446744073709551616∧a=.int .u64 (l:Nat)∧Hid (labP (Tk ys) ns f l j=RR)∧Hid (PS ys len bp bw vp wr j)∧Hid (NR wr vp ns)∧Hid (Chg (fun k=>k=bp) w wr))
    (fun _ wr=>posW bp wr)
  case atStart=>exact ⟨ys.length+1,0,i+1,by omega,rfl,HR1,HP1,HN1,C1⟩
  case round =>
    obtain ⟨f,l,j,hl,rfl,HF,HPr,HNr,HCr⟩:=hrel
    cases f with
    | zero=>exact (HFIT.out.no99 (j:=j) (by rw [← HF.out];rfl)).elim
    | succ f =>
      have HPOS:=Lib.hid HPr.out.pos
      have hF:=HF.out
      unfold labP at hF
      cases hx:Syn.is (Tk ys) j [125] with
      | true =>
        have hlt:=lt_of_is hx
        have HE:=Lib.hid (show RR=.ok (l,j+1) from by
          have hlf:Syn.labelF (Tk ys) ns (f+1) l j=.ok (l,j):=by
            rw [Syn.labelF]
            rw [Tk_some (len:=len) hlt]
            simp only
            rw [if_neg (fun e=>by
              have hnm:Syn.named (Tk ys) j=true:=by unfold Syn.named;rw [Tk_some (len:=len) hlt];simpa using e
              rw [Syn.not_is hnm] at hx;cases hx)]
          rw [← hF,hlf,on_ok',show Syn.want (Tk ys) j [125]=.ok ((),j+1) from if_pos hx];rfl)
        have hsk:=skip_t hw HPr.out ⟨#[125]⟩ mk_125 hx
        clear hx hF
        go_wp2_with (go_at_call 115;refine hsk.mono ?_;rintro e w3 ⟨rfl,hc3,hp3⟩)
        go_ret
        exact ret_ok HE.out (HCr.out.then hc3) ⟨rfl,hl,hp3,nr_next HNr.out HPr.out hc3⟩
      | false =>
        have hsk:=skip_f hw HPr.out ⟨#[125]⟩ mk_125 hx
        have hmem:=ret_cases (member_any hw HPr.out HNr.out)
        have HSTEP:=Lib.hid (show (memberP (Tk ys) ns j).on (fun k i=>labP (Tk ys) ns f (l ||| 1 <<< k) i)=RR from by
          rw [← hF]
          unfold memberP labP
          rw [Syn.labelF]
          cases hT:Tk ys j with
          | none =>
            unfold Syn.name
            rw [hT]
            simp only [Syn.R.on]
            rw [show Syn.want (Tk ys) j [125]=.error (50,j) from if_neg (by rw [hx];simp)]
          | some k =>
            unfold Syn.name
            rw [hT]
            simp only
            by_cases hk:k.kind=1
            · rw [if_pos hk,if_pos hk,on_ok']
              by_cases hi:ns.idxOf k.text<ns.length
              · rw [if_pos hi,if_pos hi];rfl
              · rw [if_neg hi,if_neg hi];rfl
            · rw [if_neg hk,if_neg hk]
              simp only [Syn.R.on]
              rw [show Syn.want (Tk ys) j [125]=.error (50,j) from if_neg (by rw [hx];simp)])
        clear hx hF
        go_wp2_with (go_at_call 115;refine hsk.mono ?_;rintro e w3 ⟨rfl,rfl⟩)
        go_at_call 169
        refine hmem.mono ?_
        rintro e w4 ⟨hc4,⟨er,k,hr,rfl⟩ | ⟨k,j4,hr,rfl,hk64,hp4,hn4⟩⟩
        · exact ⟨rfl,ret_err (by rw [← HSTEP.out,hr];rfl) (HCr.out.then hc4)⟩
        have HF4:=Lib.hid (show labP (Tk ys) ns f (l ||| 1 <<< k) j4=RR from by rw [← HSTEP.out,hr];rfl)
        have hor:=(or_pow l k).resolve_right (by omega)
        have hl4:l ||| 1 <<< k<18446744073709551616:=by
          rw [hor]
          refine orAll_lt _ (fun z hz=>?_)
          rcases List.mem_cons.1 hz with rfl | hz
          · exact hl
          · rw [List.mem_singleton] at hz;subst hz;exact ofInts_lt _
        have hof:=of_any w4.heap.size 0 1 [(k:Int)] (by simp [maxLen]) (w4.alloc (.cells #[.int .i64 (k:Nat)] 3)) (fun i hi=>by
          obtain rfl:i=0:=by simpa using hi
          exact cell_of (World.alloc_heap_new w4 _) rfl)
        have hjn:=join_any (w4.heap.size+1) 0 2 [l,ofInts [(k:Int)]] (fun z hz=>by
          rcases List.mem_cons.1 hz with rfl | hz
          · exact hl
          · rw [List.mem_singleton] at hz;subst hz;exact ofInts_lt _) (by simp [maxLen]) ((w4.alloc (.cells #[.int .i64 (k:Nat)] 3)).alloc (.cells #[.int .u64 (l:Nat),.int .u64 (ofInts [(k:Int)]:Nat)] 29)) (fun i hi=>by
          have hnew:=World.alloc_heap_new (w4.alloc (.cells #[.int .i64 (k:Nat)] 3)) (.cells #[.int .u64 (l:Nat),.int .u64 (ofInts [(k:Int)]:Nat)] 29)
          rw [World.size_alloc] at hnew
          rcases (show i=0 ∨ i=1 by simp at hi;omega) with rfl | rfl
          · exact cell_of hnew rfl
          · exact cell_of hnew rfl)
        rw [← hor] at hjn
        have HC4:=Lib.hid (((HCr.out.then hc4).alloc (.cells #[.int .i64 (k:Nat)] 3)).alloc (.cells #[.int .u64 (l:Nat),.int .u64 (ofInts [(k:Int)]:Nat)] 29))
        have HP4:=Lib.hid ((hp4.alloc (.cells #[.int .i64 (k:Nat)] 3)).alloc (.cells #[.int .u64 (l:Nat),.int .u64 (ofInts [(k:Int)]:Nat)] 29))
        have HN4:=Lib.hid (nr_chg hn4 (((Chg.refl (fun _=>False) w4).alloc (.cells #[.int .i64 (k:Nat)] 3)).alloc (.cells #[.int .u64 (l:Nat),.int .u64 (ofInts [(k:Int)]:Nat)] 29)) (fun _ _ e=>e))
        have hpos4:=HP4.out.pos
        have hj4:j<j4:=by
          unfold memberP at hr
          obtain ⟨s1,i1,g1,g2⟩:=Syn.R.on_ok hr
          have:=(Syn.name_ok g1).2.1
          split at g2
          · injection g2 with g2;injection g2 with _ g2;omega
          · cases g2
        have hle4:=hp4.le
        clear hor hc4 hr hp4 hn4 hmem hsk
        generalize ofInts [(k:Int)]=on at *
        generalize (l ||| 1 <<< k)=l4 at *
        go_wp2_with fail
        go_at_call 168
        refine hof.mono ?_
        rintro e w' ⟨rfl,rfl⟩
        go_wp2_with fail
        go_at_call 25
        refine hjn.mono ?_
        rintro e w' ⟨rfl,rfl⟩
        go_wp2
        refine ⟨⟨f,l4,j4,hl4,rfl,HF4,HP4,HN4,HC4⟩,?_⟩
        rw [hpos4,HPOS.out];omega
end
end Go.Proofs.YtlpdjfimefjmcaaGreatDoor.Q
namespace Go.Proofs.YtlpdjfimefjmcaaGreatDoor.Q
open Go Go.RowKit Go.Proofs.Mm
section
variable {ys:List It} {len bp bw i:Nat} {vp:Value} {w:World} {ns:List (List Nat)}
theorem nr_alloc (hn:NR w vp ns) (o:Obj):NR (w.alloc o) vp ns:=nr_chg hn ((Chg.refl (fun _=>False) w).alloc o) (fun _ _ e=>e)
def DOk (ys:List It) (len bp bw:Nat) (vp:Value) (ns:List (List Nat)) (d:Syn.De) (j:Nat) (e:Ending) (w':World):Prop :=
  e=.returned (.agg #[.string (sb d.name),.int .u64 (d.label:Nat)])∧d.label<18446744073709551616∧PS ys len bp bw vp w' j∧NR w' vp ns
theorem chg_two {S:Nat→Prop} {a w:World} (h:Chg S a w) {g:Nat} (hg:S g ∨ a.heap.size≤g) (x0 x1:Value):Chg S a ((w.setCell ⟨g,0,none⟩ x0).setCell ⟨g,1,none⟩ x1) :=
  (h.setCell (p:=⟨g,0,none⟩) hg _).setCell (p:=⟨g,1,none⟩) hg _
theorem chg_three {S:Nat→Prop} {a w:World} (h:Chg S a w) {g:Nat} (hg:S g ∨ a.heap.size≤g) (x0 x1 x2:Value):Chg S a (((w.setCell ⟨g,0,none⟩ x0).setCell ⟨g,1,none⟩ x1).setCell ⟨g,2,none⟩ x2) :=
  (chg_two h hg x0 x1).setCell (p:=⟨g,2,none⟩) hg _
theorem two_cells {W:World} {g:Nat} {x0 x1:Value} {T:TypeId} (h:W.heap[g]?=some (.cells #[x0,x1] T (0,0))) :
    W.cell? ⟨g,0,none⟩=some x0∧W.cell? ⟨g,1,none⟩=some x1∧W.frozen? ⟨g,0,none⟩=false∧W.frozen? ⟨g,1,none⟩=false:=⟨cell_of h rfl,cell_of h rfl,free_of h,free_of h⟩
theorem three_cells {W:World} {g:Nat} {x0 x1 x2:Value} {T:TypeId} (h:W.heap[g]?=some (.cells #[x0,x1,x2] T (0,0))) :
    W.cell? ⟨g,0,none⟩=some x0∧W.cell? ⟨g,1,none⟩=some x1∧W.cell? ⟨g,2,none⟩=some x2∧W.frozen? ⟨g,0,none⟩=false∧W.frozen? ⟨g,1,none⟩=false∧W.frozen? ⟨g,2,none⟩=false:=⟨cell_of h rfl,cell_of h rfl,cell_of h rfl,free_of h,free_of h,free_of h⟩
set_option maxRecDepth 100000 in
set_option maxHeartbeats 1000000 in
theorem decl_any (hw:Ws ys) (h:PS ys len bp bw vp w i) (hn:NR w vp ns) :
    Calls Tryz.prog 142 #[.pointer (some ⟨bp,0,none⟩)] w (Ret ys len (fun k=>k=bp) w (Syn.decl (Tk ys) (ys.length+1) ns i) (DOk ys len bp bw vp ns)):=by
  obtain ⟨hlt,hlb⟩:=h.lt
  have hne:¬ w.heap.size=bp:=by omega
  have h1:=name_at (h.alloc (.cells #[.string ⟨#[]⟩,.int .u64 0] 37))
  obtain ⟨RR,hRR⟩:∃ RR,Syn.decl (Tk ys) (ys.length+1) ns i=RR:=⟨_,rfl⟩
  rw [hRR]
  have H0:=Lib.hid hRR
  have C0:=Lib.hid ((Chg.refl (fun k=>k=bp) w).alloc (.cells #[.string ⟨#[]⟩,.int .u64 0] 37))
  have HN0:=Lib.hid (nr_alloc hn (.cells #[.string ⟨#[]⟩,.int .u64 0] 37))
  have HP0:=Lib.hid (h.alloc (.cells #[.string ⟨#[]⟩,.int .u64 0] 37))
  have hvp:=Lib.hid (fun k (hk:vp.ownBlock=some k)=>(hn.1.lt k hk).2)
  clear hRR h hn
  go_enter Tryz.func142,Tryz.ntmps142
  go_wp2_with fail
  go_at_call 144
  refine h1.mono ?_
  rintro e w1 ⟨hc1,⟨hr,rfl⟩ | ⟨hr,rfl,hp1⟩⟩
  · exact ⟨rfl,ret_err (by rw [← H0.out];unfold Syn.decl;rw [hr];rfl) (C0.out.then hc1)⟩
  have C1:=Lib.hid (C0.out.then hc1)
  have HRES:=Lib.hid (hc1.heap (World.alloc_heap_new w (.cells #[.string ⟨#[]⟩,.int .u64 0] 37)) hne)
  have H1:=Lib.hid (show (Syn.label (Tk ys) (ys.length+1) ns (i+1)).on (fun l k=>.ok ((⟨bl (tk ys len i).t,l⟩:Syn.De),k))=RR from by rw [← H0.out];unfold Syn.decl;rw [hr];rfl)
  have h2:=ret_cases (label_any hw hp1 (nr_next HN0.out HP0.out hc1))
  have hs1:=hc1.size
  rw [World.size_alloc] at hs1
  clear hc1 hr h1 hp1
  generalize (tk ys len i).t=s1 at *
  go_wp2_with fail
  go_at_call 146
  refine h2.mono ?_
  rintro e w2 ⟨hc2,⟨er,k,hr,rfl⟩ | ⟨l,j,hr,rfl,hl,hp2,hn2⟩⟩
  · exact ⟨rfl,ret_err (by rw [← H1.out,hr];rfl) (C1.out.then hc2)⟩
  obtain ⟨r0,r1,f0,f1⟩:=two_cells (hc2.heap HRES.out hne)
  have HE:=Lib.hid (show .ok ((⟨bl s1,l⟩:Syn.De),j)=RR from by rw [← H1.out,hr];rfl)
  have hcs:=chg_two (Chg.refl (fun k=>k=w.heap.size) w2) (.inl rfl) (.string s1) (.int .u64 (l:Nat))
  have HEND:=Lib.hid (show Chg (fun k=>k=bp) w _∧DOk ys len bp bw vp ns ⟨bl s1,l⟩ j (.returned (.agg #[.string s1,.int .u64 (l:Nat)])) _ from
    ⟨chg_two (C1.out.then hc2) (.inr (Nat.le_refl _)) (.string s1) (.int .u64 (l:Nat)),by rw [sb_bl],hl,hp2.chg hcs (fun e=>hne e.symm) (by omega),nr_chg hn2 hcs (fun k hk e=>by have:=hvp.out k hk;omega)⟩)
  clear hc2 hr hp2 hn2 h2 hcs hl
  go_wp2
  exact bodyPost_ret (v:=.agg #[.string s1,.int .u64 (l:Nat)]) (by simp [results,Tryz.results142,go_sem,r0,r1]) rfl (ret_ok HE.out.symm HEND.out.1 HEND.out.2)
def declLP (T:Nat→Option Syn.K) (F:Nat) (ns:List (List Nat)) (i:Nat):Syn.R Syn.De:=(Syn.decl T F ns i).on fun d i=>(Syn.want T i [59]).on fun _ i=>.ok (d,i)
set_option maxRecDepth 100000 in
set_option maxHeartbeats 1000000 in
theorem declLine_any (hw:Ws ys) (h:PS ys len bp bw vp w i) (hn:NR w vp ns) :
    Calls Tryz.prog 117 #[.pointer (some ⟨bp,0,none⟩)] w (Ret ys len (fun k=>k=bp) w (declLP (Tk ys) (ys.length+1) ns i) (DOk ys len bp bw vp ns)):=by
  obtain ⟨hlt,hlb⟩:=h.lt
  have hne:¬ w.heap.size=bp:=by omega
  have h1:=ret_cases (decl_any hw (h.alloc (.cells #[.string ⟨#[]⟩,.int .u64 0] 37)) (nr_alloc hn (.cells #[.string ⟨#[]⟩,.int .u64 0] 37)))
  obtain ⟨RR,hRR⟩:∃ RR,declLP (Tk ys) (ys.length+1) ns i=RR:=⟨_,rfl⟩
  rw [hRR]
  have H0:=Lib.hid hRR
  have C0:=Lib.hid ((Chg.refl (fun k=>k=bp) w).alloc (.cells #[.string ⟨#[]⟩,.int .u64 0] 37))
  have hvp:=Lib.hid (fun k (hk:vp.ownBlock=some k)=>(hn.1.lt k hk).2)
  clear hRR h hn
  go_enter Tryz.func117,Tryz.ntmps117
  go_wp2_with fail
  go_at_call 142
  refine h1.mono ?_
  rintro e w1 ⟨hc1,⟨er,k,hr,rfl⟩ | ⟨d,j,hr,rfl,hl,hp1,hn1⟩⟩
  · exact ⟨rfl,ret_err (by rw [← H0.out];unfold declLP;rw [hr];rfl) (C0.out.then hc1)⟩
  have C1:=Lib.hid (C0.out.then hc1)
  have HRES:=Lib.hid (hc1.heap (World.alloc_heap_new w (.cells #[.string ⟨#[]⟩,.int .u64 0] 37)) hne)
  have H1:=Lib.hid (show (Syn.want (Tk ys) j [59]).on (fun _ i=>.ok (d,i))=RR from by rw [← H0.out];unfold declLP;rw [hr];rfl)
  have hs1:=hc1.size
  rw [World.size_alloc] at hs1
  have HP1:=Lib.hid (hp1.alloc (.cells #[.string (sb d.name),.int .u64 (d.label:Nat)] 37))
  have HN1:=Lib.hid (nr_alloc hn1 (.cells #[.string (sb d.name),.int .u64 (d.label:Nat)] 37))
  have hsN:=Lib.hid (World.alloc_heap_new w1 (.cells #[.string (sb d.name),.int .u64 (d.label:Nat)] 37))
  have h2:=want_at hw HP1.out ⟨#[59]⟩ mk_59
  clear hc1 hr h1 hp1 hn1
  go_wp2_with fail
  go_at_call 143
  refine h2.mono ?_
  rintro e w2 ⟨hc2,⟨hr,rfl⟩ | ⟨hr,rfl,hp2⟩⟩
  · exact ⟨rfl,ret_err (by rw [← H1.out,show ([59]:List Nat)=bl ⟨#[59]⟩ from rfl,hr];rfl) ((C1.out.alloc _).then hc2)⟩
  have hn2:=nr_next HN1.out HP1.out hc2
  obtain ⟨r0,r1,f0,f1⟩:=two_cells (hc2.heap (heap_new _ _ HRES.out) hne)
  obtain ⟨s0,s1,_,_⟩:=two_cells (hc2.heap hsN.out (by omega))
  have HE:=Lib.hid (show .ok (d,j+1)=RR from by rw [← H1.out,show ([59]:List Nat)=bl ⟨#[59]⟩ from rfl,hr];rfl)
  have hcs:=chg_two (Chg.refl (fun k=>k=w.heap.size) w2) (.inl rfl) (.string (sb d.name)) (.int .u64 (d.label:Nat))
  have HEND:=Lib.hid (show Chg (fun k=>k=bp) w _∧DOk ys len bp bw vp ns d (j+1) (.returned (.agg #[.string (sb d.name),.int .u64 (d.label:Nat)])) _ from
    ⟨chg_two ((C1.out.alloc _).then hc2) (.inr (Nat.le_refl _)) (.string (sb d.name)) (.int .u64 (d.label:Nat)),rfl,hl,hp2.chg hcs (fun e=>hne e.symm) (by omega),nr_chg hn2 hcs (fun k hk e=>by have:=hvp.out k hk;omega)⟩)
  clear hc2 hr hp2 hn2 h2 hcs hl
  go_wp2
  exact bodyPost_ret (v:=.agg #[.string (sb d.name),.int .u64 (d.label:Nat)]) (by simp [results,Tryz.results117,go_sem,r0,r1]) rfl (ret_ok HE.out.symm HEND.out.1 HEND.out.2)
end
end Go.Proofs.YtlpdjfimefjmcaaGreatDoor.Q
namespace Go.Proofs.YtlpdjfimefjmcaaGreatDoor.Q
open Go Go.RowKit Go.Proofs.Mm
section
variable {ys:List It} {len bp bw i:Nat} {vp:Value} {w:World} {ns:List (List Nat)}
theorem number_at (h:PS ys len bp bw vp w i) :
    Calls Tryz.prog 145 #[.pointer (some ⟨bp,0,none⟩),.int .i64 3] w fun e w'=>Chg (fun k=>k=bp) w w'∧((Syn.number (Tk ys) i=.error (50,i)∧e=.panicked (gv (50:Nat) ((tk ys len i).a:Nat))) ∨
      (i<ys.length∧Syn.number (Tk ys) i=.ok ((tk ys len i).v,i+1)∧e=.returned (.agg #[.int .i64 ((tk ys len i).k:Nat),.string (tk ys len i).t,.int .i64 ((tk ys len i).v:Nat),.int .i64 ((tk ys len i).a:Nat)])∧PS ys len bp bw vp w' (i+1))):=by
  rcases Nat.lt_or_ge i ys.length with hi | hi
  · cases hx:(((tk ys len i).k:Int) == 3) with
    | true =>
      refine (wantKind_yes h hi 3 hx).mono ?_
      rintro e w' ⟨rfl,hc,hp⟩
      refine ⟨hc,.inr ⟨hi,?_,rfl,hp⟩⟩
      rw [beq_iff_eq] at hx
      unfold Syn.number
      rw [Tk_some (len:=len) hi]
      exact if_pos (by simp only [keyOf];omega)
    | false =>
      refine (wantKind_no h 3 hx (fun k=>k=bp)).mono ?_
      rintro e w' ⟨rfl,hc⟩
      refine ⟨hc,.inl ⟨?_,rfl⟩⟩
      rw [beq_eq_false_iff_ne] at hx
      unfold Syn.number
      rw [Tk_some (len:=len) hi]
      exact if_neg (by simp only [keyOf];omega)
  · have hx:(((tk ys len i).k:Int) == 3)=false:=by rw [tk_end ys len hi];rfl
    refine (wantKind_no h 3 hx (fun k=>k=bp)).mono ?_
    rintro e w' ⟨rfl,hc⟩
    refine ⟨hc,.inl ⟨?_,rfl⟩⟩
    unfold Syn.number
    rw [Tk_none hi]
def arrLP (T:Nat→Option Syn.K) (F:Nat) (ns:List (List Nat)) (i:Nat):Syn.R Syn.Ar :=
  (Syn.name T i).on fun n i=>(Syn.number T i).on fun v i=>(Syn.label T F ns i).on fun l i=>(Syn.want T i [59]).on fun _ i=>.ok (⟨n,v,l⟩,i)
def AOk (ys:List It) (len bp bw:Nat) (vp:Value) (ns:List (List Nat)) (d:Syn.Ar) (j:Nat) (e:Ending) (w':World):Prop :=
  e=.returned (.agg #[.string (sb d.name),.int .i64 (d.len:Nat),.int .u64 (d.label:Nat)])∧d.label<18446744073709551616∧PS ys len bp bw vp w' j∧NR w' vp ns
def arrZ:Obj:=.cells #[.string ⟨#[]⟩,.int .i64 0,.int .u64 0] 39
attribute [local go_sem] tok_text tok_value
set_option maxRecDepth 100000 in
set_option maxHeartbeats 1000000 in
theorem arrayLine_any (hw:Ws ys) (h:PS ys len bp bw vp w i) (hn:NR w vp ns) :
    Calls Tryz.prog 118 #[.pointer (some ⟨bp,0,none⟩)] w (Ret ys len (fun k=>k=bp) w (arrLP (Tk ys) (ys.length+1) ns i) (AOk ys len bp bw vp ns)):=by
  obtain ⟨hlt,hlb⟩:=h.lt
  have hne:¬ w.heap.size=bp:=by omega
  have C0:=Lib.hid ((Chg.refl (fun k=>k=bp) w).alloc arrZ)
  have HN0:=Lib.hid (nr_alloc hn arrZ)
  have HP0:=Lib.hid (h.alloc arrZ)
  have h1:=name_at HP0.out
  obtain ⟨RR,hRR⟩:∃ RR,arrLP (Tk ys) (ys.length+1) ns i=RR:=⟨_,rfl⟩
  rw [hRR]
  have H0:=Lib.hid hRR
  have hvp:=Lib.hid (fun k (hk:vp.ownBlock=some k)=>(hn.1.lt k hk).2)
  clear hRR h hn
  go_enter Tryz.func118,Tryz.ntmps118
  go_wp2_with fail
  go_at_call 144
  refine h1.mono ?_
  rintro e w1 ⟨hc1,⟨hr,rfl⟩ | ⟨hr,rfl,hp1⟩⟩
  · exact ⟨rfl,ret_err (by rw [← H0.out];unfold arrLP;rw [hr];rfl) (C0.out.then hc1)⟩
  have C1:=Lib.hid (C0.out.then hc1)
  have HRES:=Lib.hid (hc1.heap (World.alloc_heap_new w arrZ) hne)
  have H1:=Lib.hid (show (Syn.number (Tk ys) (i+1)).on (fun v j=>(Syn.label (Tk ys) (ys.length+1) ns j).on fun l j=>(Syn.want (Tk ys) j [59]).on fun _ j=>.ok (⟨bl (tk ys len i).t,v,l⟩,j))=RR from by rw [← H0.out];unfold arrLP;rw [hr];rfl)
  have h2:=number_at hp1
  have HN1:=Lib.hid (nr_next HN0.out HP0.out hc1)
  have hs1:=hc1.size
  rw [World.size_alloc] at hs1
  have HP1:=Lib.hid hp1
  clear hc1 hr h1 hp1
  generalize (tk ys len i).t=s1 at *
  go_wp2_with fail
  go_at_call 145
  refine h2.mono ?_
  rintro e w2 ⟨hc2,⟨hr,rfl⟩ | ⟨hi,hr,rfl,hp2⟩⟩
  · exact ⟨rfl,ret_err (by rw [← H1.out];rw [hr];rfl) (C1.out.then hc2)⟩
  have C2:=Lib.hid (C1.out.then hc2)
  have HRES2:=Lib.hid (hc2.heap HRES.out hne)
  have HN2:=Lib.hid (nr_next HN1.out HP1.out hc2)
  have h3:=ret_cases (label_any hw hp2 HN2.out)
  have hvb:=tk_good hw len hi
  have H2:=Lib.hid (show (Syn.label (Tk ys) (ys.length+1) ns (i+1+1)).on (fun l j=>(Syn.want (Tk ys) j [59]).on fun _ j=>.ok (⟨bl s1,(tk ys len (i+1)).v,l⟩,j))=RR from by rw [← H1.out,hr];rfl)
  have hs2:=hc2.size
  clear hc2 hr h2 hp2 HP1
  generalize (tk ys len (i+1)).t=s2 at *
  generalize (tk ys len (i+1)).v=v2 at *
  generalize (tk ys len (i+1)).k=k2 at *
  generalize (tk ys len (i+1)).a=a2 at *
  go_wp2_with fail
  go_at_call 146
  refine h3.mono ?_
  rintro e w3 ⟨hc3,⟨er,k,hr,rfl⟩ | ⟨l,j,hr,rfl,hl,hp3,hn3⟩⟩
  · exact ⟨rfl,ret_err (by rw [← H2.out,hr];rfl) (C2.out.then hc3)⟩
  have C3:=Lib.hid (C2.out.then hc3)
  have HRES3:=Lib.hid (hc3.heap HRES2.out hne)
  have H3:=Lib.hid (show (Syn.want (Tk ys) j [59]).on (fun _ k=>.ok ((⟨bl s1,v2,l⟩:Syn.Ar),k))=RR from by rw [← H2.out,hr];rfl)
  have hs3:=hc3.size
  have HP3:=Lib.hid (hp3.alloc (.cells #[.string s1,.int .i64 (v2:Nat),.int .u64 (l:Nat)] 39))
  have HN3:=Lib.hid (nr_alloc hn3 (.cells #[.string s1,.int .i64 (v2:Nat),.int .u64 (l:Nat)] 39))
  have hsN:=Lib.hid (World.alloc_heap_new w3 (.cells #[.string s1,.int .i64 (v2:Nat),.int .u64 (l:Nat)] 39))
  have h4:=want_at hw HP3.out ⟨#[59]⟩ mk_59
  clear hc3 hr h3 hp3 hn3 hvb
  go_wp2_with fail
  go_at_call 143
  refine h4.mono ?_
  rintro e w4 ⟨hc4,⟨hr,rfl⟩ | ⟨hr,rfl,hp4⟩⟩
  · exact ⟨rfl,ret_err (by rw [← H3.out,show ([59]:List Nat)=bl ⟨#[59]⟩ from rfl,hr];rfl) ((C3.out.alloc _).then hc4)⟩
  have hn4:=nr_next HN3.out HP3.out hc4
  obtain ⟨r0,r1,r2,f0,f1,f2⟩:=three_cells (hc4.heap (heap_new _ _ HRES3.out) hne)
  obtain ⟨s0,s1',s2',_,_,_⟩:=three_cells (hc4.heap hsN.out (by omega))
  have HE:=Lib.hid (show .ok ((⟨bl s1,v2,l⟩:Syn.Ar),j+1)=RR from by rw [← H3.out,show ([59]:List Nat)=bl ⟨#[59]⟩ from rfl,hr];rfl)
  have hcs:=chg_three (Chg.refl (fun k=>k=w.heap.size) w4) (.inl rfl) (.string s1) (.int .i64 (v2:Nat)) (.int .u64 (l:Nat))
  have HEND:=Lib.hid (show Chg (fun k=>k=bp) w _∧AOk ys len bp bw vp ns ⟨bl s1,v2,l⟩ (j+1) (.returned (.agg #[.string s1,.int .i64 (v2:Nat),.int .u64 (l:Nat)])) _ from
    ⟨chg_three ((C3.out.alloc _).then hc4) (.inr (Nat.le_refl _)) (.string s1) (.int .i64 (v2:Nat)) (.int .u64 (l:Nat)),by rw [sb_bl],hl,hp4.chg hcs (fun e=>hne e.symm) (by omega),nr_chg hn4 hcs (fun k hk e=>by have:=hvp.out k hk;omega)⟩)
  clear hc4 hr hp4 hn4 h4 hcs hl
  go_wp2
  exact bodyPost_ret (v:=.agg #[.string s1,.int .i64 (v2:Nat),.int .u64 (l:Nat)]) (by simp [results,Tryz.results118,go_sem,r0,r1,r2]) rfl (ret_ok HE.out.symm HEND.out.1 HEND.out.2)
end
end Go.Proofs.YtlpdjfimefjmcaaGreatDoor.Q
