/- The parser's small readers, way by way; what is handed out of an expression. send and store of the parser. named of the parser: a statement that begins with a name. -/
import Derived.Test.YtlpdjfimefjmcaaGreatDoorFlOpenPR26
open Go.Lib (hid)
namespace Go.Proofs.YtlpdjfimefjmcaaGreatDoor.Q
open Go Go.RowKit Go.Proofs.Mm
section
variable {ys:List It} {len bp bw i:Nat} {vp:Value} {w:World} {α:Type}
theorem ret_cases {K:FuncId} {args:Array Value} {S:Nat→Prop} {r:Syn.R α} {ok:α→Nat→Ending→World→Prop} (h:Calls Tryz.prog K args w (Ret ys len S w r ok)) :
 Calls Tryz.prog K args w fun e w'=>Chg S w w'∧((∃er k,r=.error (er,k)∧e=.panicked (gv er ((tk ys len k).a:Nat)))∨∃x j,r=.ok (x,j)∧ok x j e w'):=by
 refine h.mono fun e w' ⟨h1,h2⟩=>⟨h1,?_⟩
 cases r with
 | error q=>exact .inl ⟨q.1,q.2,rfl,h2⟩
 | ok q=>exact .inr ⟨q.1,q.2,rfl,h2⟩
theorem ret_err {S:Nat→Prop} {r:Syn.R α} {ok:α→Nat→Ending→World→Prop} {w':World} {er k:Nat} (h:r=.error (er,k)) (hC:Chg S w w'):Ret ys len S w r ok (.panicked (gv er ((tk ys len k).a:Nat))) w':=by
 rw [h];exact ⟨hC,rfl⟩
theorem ret_ok {S:Nat→Prop} {r:Syn.R α} {ok:α→Nat→Ending→World→Prop} {w':World} {x:α} {j:Nat} {e:Ending} (h:r=.ok (x,j)) (hC:Chg S w w') (h2:ok x j e w'):Ret ys len S w r ok e w':=by
 rw [h];exact ⟨hC,h2⟩
theorem want_at (hw:Ws ys) (h:PS ys len bp bw vp w i) (s:ByteArray) (hs:Mk (bl s)=true) :
 Calls Tryz.prog 143 #[.pointer (some ⟨bp,0,none⟩),.string s] w fun e w'=>Chg (fun k=>k=bp) w w'∧((Syn.want (Tk ys) i (bl s)=.error (50,i)∧e=.panicked (gv (50:Nat) ((tk ys len i).a:Nat)))∨(Syn.want (Tk ys) i (bl s)=.ok ((),i+1)∧e=.returned (.tuple #[])∧PS ys len bp bw vp w' (i+1))):=by
 cases hx:Syn.is (Tk ys) i (bl s) with
 | true =>
  refine (want_yes h (lt_of_is hx) s (by rw [eq_text,is_text hw len i hs];exact hx)).mono ?_
  rintro e w' ⟨rfl,hc,hp⟩
  exact ⟨hc,.inr ⟨if_pos hx,rfl,hp⟩⟩
 | false =>
  refine (want_no h s (by rw [eq_text,is_text hw len i hs];exact hx) (fun k=>k=bp)).mono ?_
  rintro e w' ⟨rfl,hc⟩
  exact ⟨hc,.inl ⟨if_neg (by rw [hx];simp),rfl⟩⟩
theorem name_at (h:PS ys len bp bw vp w i) :
 Calls Tryz.prog 144 #[.pointer (some ⟨bp,0,none⟩)] w fun e w'=>Chg (fun k=>k=bp) w w'∧((Syn.name (Tk ys) i=.error (50,i)∧e=.panicked (gv (50:Nat) ((tk ys len i).a:Nat)))∨(Syn.name (Tk ys) i=.ok (bl (tk ys len i).t,i+1)∧e=.returned (.string (tk ys len i).t)∧PS ys len bp bw vp w' (i+1))):=by
 cases hx:Syn.named (Tk ys) i with
 | true =>
  refine (name_one h hx).mono ?_
  rintro e w' ⟨rfl,hc,hp⟩
  exact ⟨hc,.inr ⟨name_yes len hx,rfl,hp⟩⟩
 | false =>
  refine (name_none h hx (fun k=>k=bp) rfl).mono ?_
  rintro e w' ⟨rfl,hc⟩
  exact ⟨hc,.inl ⟨name_no hx,rfl⟩⟩
theorem expr_at (hw:Ws ys) (h:PS ys len bp bw vp w i) {m:Mem} (hm:Has w m) (hbm:m bp=none) :
 Calls Tryz.prog 175 #[.pointer (some ⟨bp,0,none⟩)] w fun e w'=>Chg (fun k=>k=bp) w w'∧((∃er k,Syn.expr (Tk ys) (ys.length+1) i=.error (er,k)∧e=.panicked (gv er ((tk ys len k).a:Nat))) ∨
  ∃l j q c m',Syn.expr (Tk ys) (ys.length+1) i=.ok (l,j)∧e=.returned (.slice q l.length c)∧m.More w m'∧Has w' m'∧m' bp=none∧TmM m' (.slice q l.length c) l∧PS ys len bp bw vp w' j):=by
 refine (ret_cases (expr_any hw h)).mono ?_
 rintro e w' ⟨hc,⟨er,k,h1,h2⟩|⟨l,j,h1,v,rfl,h3,h4,h5⟩⟩
 ·exact ⟨hc,.inl ⟨er,k,h1,h2⟩⟩
 ·obtain ⟨q,c,rfl⟩:=own_shape h3
  obtain ⟨m2,d1,d2,d3,d4⟩:=RowM.done h3 (hm.chg hc (fun k e=>by subst e;exact hbm)) (fun k hk=>hm.lt (h5 k hk))
  have hnew:∀k,m k=none→k<w.heap.size→m2 k=none:=fun k e hk=>by
   cases e2:m2 k with
   | none=>rfl
   | some o =>
    rcases d2 k (by rw [e2];simp) with e3|e3
    ·exact (e3 e).elim
    ·have:=h5 k e3;omega
  exact ⟨hc,.inr ⟨l,j,q,c,m2,h1,rfl,⟨d1,hnew⟩,d3,hnew bp hbm h.lt.1,d4,h4⟩⟩
theorem put_new {m:Mem} {W:World} (hm:Has W m) (o:Obj):Has (W.alloc o) (m.put W.heap.size o)∧m.More W (m.put W.heap.size o)∧(m.put W.heap.size o) W.heap.size=some o :=
 ⟨(hm.chg ((Chg.refl (fun _=>False) W).alloc o) (fun _ e=>e.elim)).put (World.alloc_heap_new W o),Mem.More.put (hm.lt (Nat.le_refl _)) (Nat.le_refl _),Mem.put_same _ _ _⟩
theorem ex_one {m:Mem} {g:Nat} {u:Value} {l:List Syn.Tm} (hg:m g=some (.cells #[u] 97 (0,0))) (h:TmM m u l):ExM m (.slice (some ⟨g,0,none⟩) 1 1) [l] :=
 ⟨[u],⟨rfl,.inr ⟨g,1,#[u],rfl,hg,Nat.le_refl _,by simp [maxLen],rfl,rfl⟩⟩,[u],[],rfl,⟨u,rfl,h⟩,rfl⟩
theorem ex_two {m:Mem} {g:Nat} {u v:Value} {l r:List Syn.Tm} (hg:m g=some (.cells #[u,v] 97 (0,0))) (h:TmM m u l) (h':TmM m v r):ExM m (.slice (some ⟨g,0,none⟩) 2 2) [l,r] :=
 ⟨[u,v],⟨rfl,.inr ⟨g,2,#[u,v],rfl,hg,Nat.le_refl _,by simp [maxLen],rfl,rfl⟩⟩,[u],[v],rfl,⟨u,rfl,h⟩,[v],[],rfl,⟨v,rfl,h'⟩,rfl⟩
theorem ex_nil (m:Mem):ExM m (.slice none 0 0) []:=⟨[],RowM.nil _ _ _,rfl⟩
theorem str_nil (m:Mem):StrM m (.slice none 0 0) []:=RowM.nil _ _ _
def SOk (ys:List It) (len bp bw:Nat) (vp:Value) (m:Mem) (w:World) (st:Syn.St) (j:Nat) (e:Ending) (w':World):Prop :=
 ∃vt ve m',e=.returned (.agg #[.int .i64 (st.kind:Int),.string (sb st.name),vt,ve])∧m.More w m'∧Has w' m'∧m' bp=none∧StrM m' vt st.targets∧ExM m' ve st.exprs∧PS ys len bp bw vp w' j
theorem mk_59:Mk (bl ⟨#[59]⟩)=true:=by decide
theorem mk_61:Mk (bl ⟨#[61]⟩)=true:=by decide
def callP (T:Nat→Option Syn.K) (F:Nat) (ts:List (List Nat)) (s:List Nat) (i:Nat):Syn.R Syn.St :=
 (Syn.list T F [41] i).on fun l i=>(Syn.want T i [59]).on fun _ i=>.ok (⟨4,s,ts,l⟩,i)
def stmtZ:Obj:=.cells #[.int .i64 0,.string ⟨#[]⟩,.slice none 0 0,.slice none 0 0] 47
theorem chg_four {S:Nat→Prop} {a w:World} (h:Chg S a w) {g:Nat} (hg:S g∨a.heap.size≤g) (x0 x1 x2 x3:Value) :
 Chg S a ((((w.setCell ⟨g,0,none⟩ x0).setCell ⟨g,1,none⟩ x1).setCell ⟨g,2,none⟩ x2).setCell ⟨g,3,none⟩ x3):=chg_set4 h hg x0 x1 x2 x3
theorem four_cells {W:World} {g:Nat} {x0 x1 x2 x3:Value} {T:TypeId} (h:W.heap[g]?=some (.cells #[x0,x1,x2,x3] T (0,0))) :
 W.cell? ⟨g,0,none⟩=some x0∧W.cell? ⟨g,1,none⟩=some x1∧W.cell? ⟨g,2,none⟩=some x2∧W.cell? ⟨g,3,none⟩=some x3∧W.frozen? ⟨g,0,none⟩=false∧W.frozen? ⟨g,1,none⟩=false∧W.frozen? ⟨g,2,none⟩=false∧W.frozen? ⟨g,3,none⟩=false :=
 ⟨cell_of h rfl,cell_of h rfl,cell_of h rfl,cell_of h rfl,free_of h,free_of h,free_of h,free_of h⟩
theorem sok_end {m m3:Mem} {w w3:World} {vt ve:Value} {st:Syn.St} {j:Nat} (C:Chg (fun k=>k=bp) w w3) (hmo:m.More w m3) (hH:Has w3 m3) (hb:m3 bp=none) (hRm:m3 w.heap.size=none) (ht:StrM m3 vt st.targets) (hex:ExM m3 ve st.exprs) (hp:PS ys len bp bw vp w3 j) (hne:¬w.heap.size=bp) (hbw:bw<w.heap.size) (x0 x1 x2 x3:Value) :
 Chg (fun k=>k=bp) w ((((w3.setCell ⟨w.heap.size,0,none⟩ x0).setCell ⟨w.heap.size,1,none⟩ x1).setCell ⟨w.heap.size,2,none⟩ x2).setCell ⟨w.heap.size,3,none⟩ x3) ∧
 SOk ys len bp bw vp m w st j (.returned (.agg #[.int .i64 (st.kind:Int),.string (sb st.name),vt,ve])) ((((w3.setCell ⟨w.heap.size,0,none⟩ x0).setCell ⟨w.heap.size,1,none⟩ x1).setCell ⟨w.heap.size,2,none⟩ x2).setCell ⟨w.heap.size,3,none⟩ x3):=by
 have hc:=chg_four (Chg.refl (fun k=>k=w.heap.size) w3) (.inl rfl) x0 x1 x2 x3
 exact ⟨chg_four C (.inr (Nat.le_refl _)) _ _ _ _,vt,ve,m3,rfl,hmo,hH.chg hc (fun k e=>by subst e;exact hRm),hb,ht,hex,hp.chg hc (fun e=>hne e.symm) (by omega)⟩
set_option maxRecDepth 100000 in
set_option maxHeartbeats 1000000 in
theorem call_any (hw:Ws ys) (h:PS ys len bp bw vp w i) {m:Mem} (hm:Has w m) (hbm:m bp=none) (s:ByteArray) {qt:Option Addr} {nt ct:Nat} {ts:List (List Nat)} (ht:StrM m (.slice qt nt ct) ts) :
 Calls Tryz.prog 183 #[.pointer (some ⟨bp,0,none⟩),.string s,.slice qt nt ct] w (Ret ys len (fun k=>k=bp) w (callP (Tk ys) (ys.length+1) ts (bl s) i) (SOk ys len bp bw vp m w)):=by
 obtain ⟨hlt,hlb⟩:=h.lt
 have h1:=ret_cases (exprs_any hw (h.alloc stmtZ) ⟨#[41]⟩ mk_41 (by decide) (hm.chg ((Chg.refl (fun _=>False) w).alloc stmtZ) (fun _ e=>e.elim)) hbm)
 obtain ⟨RR,hRR⟩:∃RR,callP (Tk ys) (ys.length+1) ts (bl s) i=RR:=⟨_,rfl⟩
 rw [hRR]
 have H0:=hid hRR
 have C0:=hid ((Chg.refl (fun k=>k=bp) w).alloc stmtZ)
 have Hm:=hid hm
 have HT:=hid ht
 have hne:¬w.heap.size=bp:=by omega
 clear hRR h hm ht
 unfold stmtZ at h1 C0
 go_enter Tryz.func183,Tryz.ntmps183
 go_wp2_with fail
 go_at_call 151
 refine h1.mono ?_
 rintro e w1 ⟨hc1,⟨er,k,hr,rfl⟩|⟨es,j,hr,ve,m1,rfl,hmo,hH,hb1,hex,hp1⟩⟩
 ·exact ⟨rfl,ret_err (by rw [←H0.out];unfold callP;rw [show ([41]:List Nat)=bl ⟨#[41]⟩ from rfl,hr];rfl) (C0.out.then hc1)⟩
 ·have C1:=hid (C0.out.then hc1)
  have H1:=hid (show (Syn.want (Tk ys) j [59]).on (fun _ i=>.ok ((⟨4,bl s,ts,es⟩:Syn.St),i))=RR from by rw [←H0.out];unfold callP;rw [show ([41]:List Nat)=bl ⟨#[41]⟩ from rfl,hr];rfl)
  have hres:=hc1.heap (World.alloc_heap_new w (.cells #[.int .i64 0,.string ⟨#[]⟩,.slice none 0 0,.slice none 0 0] 47)) hne
  obtain ⟨qe,ne,ce,rfl⟩:∃q n c,ve=.slice q n c:=by
   obtain ⟨cs,⟨_,⟨rfl,_⟩|⟨g,cap,cur,rfl,_⟩⟩,_⟩:=hex
   ·exact ⟨_,_,_,rfl⟩
   ·exact ⟨_,_,_,rfl⟩
  have EX:=hid hex
  have HH:=hid hH
  have MO:=hid hmo
  have HP1:=hid hp1
  have HRES:=hid hres
  clear hc1 hr hex hH hmo hp1 hres h1
  have hS:=hid (want_at hw (HP1.out.alloc (.cells #[.int .i64 4,.string s,.slice qt nt ct,.slice qe ne ce] 47)) ⟨#[59]⟩ mk_59)
  have hbl:=heap_lt HRES.out
  have hsN:=World.alloc_heap_new w1 (.cells #[.int .i64 4,.string s,.slice qt nt ct,.slice qe ne ce] 47)
  go_wp2_with fail
  go_at_call 143
  refine hS.out.mono ?_
  rintro e w3 ⟨hc3,⟨hr,rfl⟩|⟨hr,rfl,hp3⟩⟩
  ·exact ⟨rfl,ret_err (by rw [←H1.out,show ([59]:List Nat)=bl ⟨#[59]⟩ from rfl,hr];rfl) ((C1.out.alloc _).then hc3)⟩
  ·have HE:=hid (show (.ok ((⟨4,bl s,ts,es⟩:Syn.St),j+1))=RR from by rw [←H1.out,show ([59]:List Nat)=bl ⟨#[59]⟩ from rfl,hr];rfl)
   have hnes:¬w1.heap.size=bp:=by have:=HP1.out.lt;omega
   obtain ⟨r0,r1,r2,r3,f0,f1,f2,f3⟩:=four_cells (hc3.heap (heap_new w1 (.cells #[.int .i64 4,.string s,.slice qt nt ct,.slice qe ne ce] 47) HRES.out) hne)
   obtain ⟨s0,s1,s2,s3,_,_,_,_⟩:=four_cells (hc3.heap hsN hnes)
   have hz1:m1 w.heap.size=none:=MO.out.new _ (Hm.out.lt (Nat.le_refl _)) (by simp)
   have HEND:=hid (sok_end (m:=m) (st:=⟨4,bl s,ts,es⟩) (w:=w) (w3:=w3) ((C1.out.alloc (.cells #[.int .i64 4,.string s,.slice qt nt ct,.slice qe ne ce] 47)).then hc3) (MO.out.from (by simp)) ((HH.out.chg ((Chg.refl (fun _=>False) w1).alloc _) (fun _ e=>e.elim)).chg hc3 (fun k e=>by subst e;exact hb1)) hb1 hz1 (RowM.le HT.out MO.out.le) EX.out hp3 hne hlb (.int .i64 4) (.string s) (.slice qt nt ct) (.slice qe ne ce))
   clear hc3 hr hp3 hsN
   go_wp2
   refine bodyPost_ret (v:=.agg #[.int .i64 4,.string s,.slice qt nt ct,.slice qe ne ce]) (by simp [results,Tryz.results183,go_sem,r0,r1,r2,r3]) rfl (ret_ok HE.out.symm HEND.out.1 ?_)
   have:=HEND.out.2
   rw [sb_bl] at this
   exact this
end
def sendP (T:Nat→Option Syn.K) (F:Nat) (i:Nat):Syn.R Syn.St :=
 (Syn.name T i).on fun c i=>(Syn.expr T F i).on fun e i=>(Syn.want T i [59]).on fun _ i=>.ok (⟨3,c,[],[e]⟩,i)
def storeP (T:Nat→Option Syn.K) (F:Nat) (s:List Nat) (i:Nat):Syn.R Syn.St :=
 (Syn.expr T F i).on fun a i=>(Syn.want T i [93]).on fun _ i=>(Syn.want T i [61]).on fun _ i=>(Syn.expr T F i).on fun b i=>(Syn.want T i [59]).on fun _ i=>.ok (⟨2,s,[],[a,b]⟩,i)
section
variable {ys:List It} {len bp bw i:Nat} {vp:Value} {w:World}
set_option maxRecDepth 100000 in
set_option maxHeartbeats 1000000 in
theorem send_any (hw:Ws ys) (h:PS ys len bp bw vp w i) {m:Mem} (hm:Has w m) (hbm:m bp=none) :
 Calls Tryz.prog 172 #[.pointer (some ⟨bp,0,none⟩)] w (Ret ys len (fun k=>k=bp) w (sendP (Tk ys) (ys.length+1) i) (SOk ys len bp bw vp m w)):=by
 obtain ⟨hlt,hlb⟩:=h.lt
 have h1:=name_at (h.alloc stmtZ)
 obtain ⟨RR,hRR⟩:∃RR,sendP (Tk ys) (ys.length+1) i=RR:=⟨_,rfl⟩
 rw [hRR]
 have H0:=hid hRR
 have C0:=hid ((Chg.refl (fun k=>k=bp) w).alloc stmtZ)
 have M0:=hid (hm.chg ((Chg.refl (fun _=>False) w).alloc stmtZ) (fun _ e=>e.elim))
 have Hm:=hid hm
 have hne:¬w.heap.size=bp:=by omega
 clear hRR h hm
 unfold stmtZ at h1 C0 M0
 go_enter Tryz.func172,Tryz.ntmps172
 go_wp2_with fail
 go_at_call 144
 refine h1.mono ?_
 rintro e w1 ⟨hc1,⟨hr,rfl⟩|⟨hr,rfl,hp1⟩⟩
 ·exact ⟨rfl,ret_err (by rw [←H0.out];unfold sendP;rw [hr];rfl) (C0.out.then hc1)⟩
 have C1:=hid (C0.out.then hc1)
 have M1:=hid (M0.out.chg hc1 (fun k e=>by subst e;exact hbm))
 have H1:=hid (show (Syn.expr (Tk ys) (ys.length+1) (i+1)).on (fun e k=>(Syn.want (Tk ys) k [59]).on fun _ k=>.ok ((⟨3,bl (tk ys len i).t,[],[e]⟩:Syn.St),k))=RR from by rw [←H0.out];unfold sendP;rw [hr];rfl)
 have HRES:=hid (hc1.heap (World.alloc_heap_new w (.cells #[.int .i64 0,.string ⟨#[]⟩,.slice none 0 0,.slice none 0 0] 47)) hne)
 have h2:=expr_at hw hp1 M1.out hbm
 have hs1:=hc1.size
 rw [World.size_alloc] at hs1
 clear hc1 hr h1 hp1
 generalize (tk ys len i).t=s1 at *
 go_wp2_with fail
 go_at_call 175
 refine h2.mono ?_
 rintro e w2 ⟨hc2,⟨er,k,hr,rfl⟩|⟨l,j,q,c,m2,hr,rfl,hmo,hH,hb2,htm,hp2⟩⟩
 ·exact ⟨rfl,ret_err (by rw [←H1.out,hr];rfl) (C1.out.then hc2)⟩
 have C2:=hid (C1.out.then hc2)
 have H2:=hid (show (Syn.want (Tk ys) j [59]).on (fun _ k=>.ok ((⟨3,bl s1,[],[l]⟩:Syn.St),k))=RR from by rw [←H1.out,hr];rfl)
 have HRES2:=hid (hc2.heap HRES.out hne)
 obtain ⟨p1,p2,p3⟩:=put_new hH (.cells #[.slice q l.length c] 97)
 have P1:=hid (p1.chg ((Chg.refl (fun _=>False) _).alloc (.cells #[.int .i64 3,.string s1,.slice none 0 0,.slice (some ⟨w2.heap.size,0,none⟩) 1 1] 47)) (fun _ e=>e.elim))
 have hs2:=hc2.size
 have P2:=hid ((hmo.from (w:=w) (by omega)).trans p2 (by omega))
 have EX:=hid (ex_one (g:=w2.heap.size) p3 (RowM.le htm p2.le))
 have hbg:(m2.put w2.heap.size (.cells #[.slice q l.length c] 97)) bp=none:=by rw [Mem.put_other (by omega)];exact hb2
 have hzg:(m2.put w2.heap.size (.cells #[.slice q l.length c] 97)) w.heap.size=none:=by
  rw [Mem.put_other (by omega)]
  exact hmo.new _ (Hm.out.lt (Nat.le_refl _)) (by omega)
 have HP2:=hid ((hp2.alloc (.cells #[.slice q l.length c] 97)).alloc (.cells #[.int .i64 3,.string s1,.slice none 0 0,.slice (some ⟨w2.heap.size,0,none⟩) 1 1] 47))
 have hS:=hid (want_at hw HP2.out ⟨#[59]⟩ mk_59)
 have hsN:=World.alloc_heap_new (w2.alloc (.cells #[.slice q l.length c] 97)) (.cells #[.int .i64 3,.string s1,.slice none 0 0,.slice (some ⟨w2.heap.size,0,none⟩) 1 1] 47)
 rw [World.size_alloc] at hsN
 have HSN:=hid hsN
 generalize (m2.put w2.heap.size (.cells #[.slice q l.length c] 97))=m3 at *
 clear hc2 hr h2 hmo hH hb2 htm hp2 p1 p2 p3 hsN
 go_wp2_with fail
 go_at_call 143
 refine hS.out.mono ?_
 rintro e w3 ⟨hc3,⟨hr,rfl⟩|⟨hr,rfl,hp3⟩⟩
 ·exact ⟨rfl,ret_err (by rw [←H2.out,show ([59]:List Nat)=bl ⟨#[59]⟩ from rfl,hr];rfl) (((C2.out.alloc _).alloc _).then hc3)⟩
 have HE:=hid (show (.ok ((⟨3,bl s1,[],[l]⟩:Syn.St),j+1))=RR from by rw [←H2.out,show ([59]:List Nat)=bl ⟨#[59]⟩ from rfl,hr];rfl)
 obtain ⟨r0,r1,r2,r3,f0,f1,f2,f3⟩:=four_cells (hc3.heap (heap_new _ _ (heap_new _ _ HRES2.out)) hne)
 obtain ⟨s0,s1',s2,s3,_,_,_,_⟩:=four_cells (hc3.heap HSN.out (by omega))
 have HEND:=hid (sok_end (m:=m) (st:=⟨3,bl s1,[],[l]⟩) (w:=w) (w3:=w3) (((C2.out.alloc _).alloc _).then hc3) P2.out (P1.out.chg hc3 (fun k e=>by subst e;exact hbg)) hbg hzg (str_nil _) EX.out hp3 hne hlb (.int .i64 3) (.string s1) (.slice none 0 0) (.slice (some ⟨w2.heap.size,0,none⟩) 1 1))
 clear hc3 hr hp3
 go_wp2
 refine bodyPost_ret (v:=.agg #[.int .i64 3,.string s1,.slice none 0 0,.slice (some ⟨w2.heap.size,0,none⟩) 1 1]) (by simp [results,Tryz.results172,go_sem,r0,r1,r2,r3]) rfl (ret_ok HE.out.symm HEND.out.1 ?_)
 have:=HEND.out.2
 rw [sb_bl] at this
 exact this
set_option maxRecDepth 100000 in
set_option maxHeartbeats 1000000 in
theorem store_any (hw:Ws ys) (h:PS ys len bp bw vp w i) {m:Mem} (hm:Has w m) (hbm:m bp=none) (s1:ByteArray) :
 Calls Tryz.prog 182 #[.pointer (some ⟨bp,0,none⟩),.string s1] w (Ret ys len (fun k=>k=bp) w (storeP (Tk ys) (ys.length+1) (bl s1) i) (SOk ys len bp bw vp m w)):=by
 obtain ⟨hlt,hlb⟩:=h.lt
 obtain ⟨RR,hRR⟩:∃RR,storeP (Tk ys) (ys.length+1) (bl s1) i=RR:=⟨_,rfl⟩
 rw [hRR]
 have H0:=hid hRR
 have C0:=hid ((Chg.refl (fun k=>k=bp) w).alloc stmtZ)
 have hM0:=hm.chg ((Chg.refl (fun _=>False) w).alloc stmtZ) (fun _ e=>e.elim)
 have h1:=expr_at hw (h.alloc stmtZ) hM0 hbm
 have Hm:=hid hm
 have hne:¬w.heap.size=bp:=by omega
 clear hRR h hm hM0
 unfold stmtZ at h1 C0
 go_enter Tryz.func182,Tryz.ntmps182
 go_wp2_with fail
 go_at_call 175
 refine h1.mono ?_
 rintro e w1 ⟨hc1,⟨er,k,hr,rfl⟩|⟨l,j,q,c,m1,hr,rfl,hmo,hH,hb1,htm,hp1⟩⟩
 ·exact ⟨rfl,ret_err (by rw [←H0.out];unfold storeP;rw [hr];rfl) (C0.out.then hc1)⟩
 have C1:=hid (C0.out.then hc1)
 have H1:=hid (show (Syn.want (Tk ys) j [93]).on (fun _ i=>(Syn.want (Tk ys) i [61]).on fun _ i=>(Syn.expr (Tk ys) (ys.length+1) i).on fun b i=>(Syn.want (Tk ys) i [59]).on fun _ i=>.ok ((⟨2,bl s1,[],[l,b]⟩:Syn.St),i))=RR from by rw [←H0.out];unfold storeP;rw [hr];rfl)
 have HRES:=hid (hc1.heap (World.alloc_heap_new w (.cells #[.int .i64 0,.string ⟨#[]⟩,.slice none 0 0,.slice none 0 0] 47)) hne)
 have hs1:=hc1.size
 rw [World.size_alloc] at hs1
 have h2:=want_at hw hp1 ⟨#[93]⟩ mk_93
 have HH1:=hid hH
 have MO1:=hid hmo
 have TM1:=hid htm
 clear hc1 hr h1 hp1 hH hmo htm
 go_wp2_with fail
 go_at_call 143
 refine h2.mono ?_
 rintro e w2 ⟨hc2,⟨hr,rfl⟩|⟨hr,rfl,hp2⟩⟩
 ·exact ⟨rfl,ret_err (by rw [←H1.out,show ([93]:List Nat)=bl ⟨#[93]⟩ from rfl,hr];rfl) (C1.out.then hc2)⟩
 have C2:=hid (C1.out.then hc2)
 have H2:=hid (show (Syn.want (Tk ys) (j+1) [61]).on (fun _ i=>(Syn.expr (Tk ys) (ys.length+1) i).on fun b i=>(Syn.want (Tk ys) i [59]).on fun _ i=>.ok ((⟨2,bl s1,[],[l,b]⟩:Syn.St),i))=RR from by rw [←H1.out,show ([93]:List Nat)=bl ⟨#[93]⟩ from rfl,hr];rfl)
 have HRES2:=hid (hc2.heap HRES.out hne)
 have HH2:=hid (HH1.out.chg hc2 (fun k e=>by subst e;exact hb1))
 have hs2:=hc2.size
 have h3:=want_at hw hp2 ⟨#[61]⟩ mk_61
 clear hc2 hr h2 hp2
 go_wp2_with fail
 go_at_call 143
 refine h3.mono ?_
 rintro e w3 ⟨hc3,⟨hr,rfl⟩|⟨hr,rfl,hp3⟩⟩
 ·exact ⟨rfl,ret_err (by rw [←H2.out,show ([61]:List Nat)=bl ⟨#[61]⟩ from rfl,hr];rfl) (C2.out.then hc3)⟩
 have C3:=hid (C2.out.then hc3)
 have H3:=hid (show (Syn.expr (Tk ys) (ys.length+1) (j+1+1)).on (fun b i=>(Syn.want (Tk ys) i [59]).on fun _ i=>.ok ((⟨2,bl s1,[],[l,b]⟩:Syn.St),i))=RR from by rw [←H2.out,show ([61]:List Nat)=bl ⟨#[61]⟩ from rfl,hr];rfl)
 have HRES3:=hid (hc3.heap HRES2.out hne)
 have HH3:=hid (HH2.out.chg hc3 (fun k e=>by subst e;exact hb1))
 have hs3:=hc3.size
 have h4:=expr_at hw hp3 HH3.out hb1
 clear hc3 hr h3 hp3
 go_wp2_with fail
 go_at_call 175
 refine h4.mono ?_
 rintro e w4 ⟨hc4,⟨er,k,hr,rfl⟩|⟨l',j',q',c',m4,hr,rfl,hmo4,hH4,hb4,htm4,hp4⟩⟩
 ·exact ⟨rfl,ret_err (by rw [←H3.out,hr];rfl) (C3.out.then hc4)⟩
 have C4:=hid (C3.out.then hc4)
 have H4:=hid (show (Syn.want (Tk ys) j' [59]).on (fun _ i=>.ok ((⟨2,bl s1,[],[l,l']⟩:Syn.St),i))=RR from by rw [←H3.out,hr];rfl)
 have HRES4:=hid (hc4.heap HRES3.out hne)
 obtain ⟨p1,p2,p3⟩:=put_new hH4 (.cells #[.slice q l.length c,.slice q' l'.length c'] 97)
 have P1:=hid (p1.chg ((Chg.refl (fun _=>False) _).alloc (.cells #[.int .i64 2,.string s1,.slice none 0 0,.slice (some ⟨w4.heap.size,0,none⟩) 2 2] 47)) (fun _ e=>e.elim))
 have hs4:=hc4.size
 have P2:=hid (((MO1.out.from (w:=w) (by simp)).trans (hmo4.from (w:=w) (by omega)) (Nat.le_refl _)).trans p2 (by omega))
 have EX:=hid (ex_two (g:=w4.heap.size) p3 (RowM.le (RowM.le TM1.out hmo4.le) p2.le) (RowM.le htm4 p2.le))
 have hbg:(m4.put w4.heap.size (.cells #[.slice q l.length c,.slice q' l'.length c'] 97)) bp=none:=by rw [Mem.put_other (by omega)];exact hb4
 have hzg:(m4.put w4.heap.size (.cells #[.slice q l.length c,.slice q' l'.length c'] 97)) w.heap.size=none:=by
  rw [Mem.put_other (by omega)]
  exact hmo4.new _ (MO1.out.new _ (Hm.out.lt (Nat.le_refl _)) (by simp)) (by omega)
 have HP4:=hid ((hp4.alloc (.cells #[.slice q l.length c,.slice q' l'.length c'] 97)).alloc (.cells #[.int .i64 2,.string s1,.slice none 0 0,.slice (some ⟨w4.heap.size,0,none⟩) 2 2] 47))
 have hS:=hid (want_at hw HP4.out ⟨#[59]⟩ mk_59)
 have hsN:=World.alloc_heap_new (w4.alloc (.cells #[.slice q l.length c,.slice q' l'.length c'] 97)) (.cells #[.int .i64 2,.string s1,.slice none 0 0,.slice (some ⟨w4.heap.size,0,none⟩) 2 2] 47)
 rw [World.size_alloc] at hsN
 have HSN:=hid hsN
 generalize (m4.put w4.heap.size (.cells #[.slice q l.length c,.slice q' l'.length c'] 97))=m5 at *
 clear hc4 hr h4 hmo4 hH4 hb4 htm4 hp4 p1 p2 p3 hsN
 go_wp2_with fail
 go_at_call 143
 refine hS.out.mono ?_
 rintro e w5 ⟨hc5,⟨hr,rfl⟩|⟨hr,rfl,hp5⟩⟩
 ·exact ⟨rfl,ret_err (by rw [←H4.out,show ([59]:List Nat)=bl ⟨#[59]⟩ from rfl,hr];rfl) (((C4.out.alloc _).alloc _).then hc5)⟩
 have HE:=hid (show (.ok ((⟨2,bl s1,[],[l,l']⟩:Syn.St),j'+1))=RR from by rw [←H4.out,show ([59]:List Nat)=bl ⟨#[59]⟩ from rfl,hr];rfl)
 obtain ⟨r0,r1,r2,r3,f0,f1,f2,f3⟩:=four_cells (hc5.heap (heap_new _ _ (heap_new _ _ HRES4.out)) hne)
 obtain ⟨s0,s1',s2,s3,_,_,_,_⟩:=four_cells (hc5.heap HSN.out (by omega))
 have HEND:=hid (sok_end (m:=m) (st:=⟨2,bl s1,[],[l,l']⟩) (w:=w) (w3:=w5) (((C4.out.alloc _).alloc _).then hc5) P2.out (P1.out.chg hc5 (fun k e=>by subst e;exact hbg)) hbg hzg (str_nil _) EX.out hp5 hne hlb (.int .i64 2) (.string s1) (.slice none 0 0) (.slice (some ⟨w4.heap.size,0,none⟩) 2 2))
 clear hc5 hr hp5
 go_wp2
 refine bodyPost_ret (v:=.agg #[.int .i64 2,.string s1,.slice none 0 0,.slice (some ⟨w4.heap.size,0,none⟩) 2 2]) (by simp [results,Tryz.results182,go_sem,r0,r1,r2,r3]) rfl (ret_ok HE.out.symm HEND.out.1 ?_)
 have:=HEND.out.2
 rw [sb_bl] at this
 exact this
end
def assignP (T:Nat→Option Syn.K) (F:Nat) (ts:List (List Nat)) (i:Nat):Syn.R Syn.St :=
 (Syn.expr T F i).on fun e i=>(Syn.want T i [59]).on fun _ i=>.ok (⟨1,[],ts,[e]⟩,i)
def callsP (T:Nat→Option Syn.K) (F:Nat) (ts:List (List Nat)) (i:Nat):Syn.R Syn.St :=
 (Syn.name T i).on fun s i=>(Syn.want T i [40]).on fun _ i=>callP T F ts s i
def restP (T:Nat→Option Syn.K) (F:Nat) (ts:List (List Nat)) (i:Nat):Syn.R Syn.St :=
 (Syn.want T i [61]).on fun _ i=>if ts.length=1∧¬(Syn.named T i=true∧Syn.is T (i+1) [40]=true) then assignP T F ts i else callsP T F ts i
def namedP (T:Nat→Option Syn.K) (F:Nat) (i:Nat):Syn.R Syn.St :=
 (Syn.name T i).on fun s i =>
  if Syn.is T i [91] then storeP T F s (i+1)
  else if Syn.is T i [40] then callP T F [] s (i+1)
  else (Syn.targetsF T F [s] i).on fun ts i=>restP T F ts i
def oneP (r:Syn.R Syn.St):Syn.R (List Syn.St):=r.on fun s j=>.ok ([s],j)
theorem on_on {α β γ:Type} (r:Syn.R α) (f:α→Nat→Syn.R β) (g:β→Nat→Syn.R γ):(r.on f).on g=r.on fun x i=>(f x i).on g:=by
 cases r with
 | error q=>rfl
 | ok q=>rfl
theorem call_eq (T:Nat→Option Syn.K) (F:Nat) (ts:List (List Nat)) (s:List Nat) (i:Nat):Syn.call T F ts s i=oneP ((Syn.want T i [40]).on fun _ i=>callP T F ts s i):=by
 unfold Syn.call oneP callP
 simp only [on_on]
 rfl
theorem plain_eq (T:Nat→Option Syn.K) (F:Nat) (i:Nat):Syn.plain T F i=oneP (namedP T F i):=by
 unfold Syn.plain oneP namedP
 rw [on_on]
 congr 1
 funext s i
 by_cases h1:Syn.is T i [91]=true
 ·rw [if_pos h1,if_pos h1]
  unfold storeP
  simp only [on_on]
  rfl
 ·rw [if_neg h1,if_neg h1]
  by_cases h2:Syn.is T i [40]=true
  ·rw [if_pos h2,if_pos h2,call_eq]
   rw [show Syn.want T i [40]=.ok ((),i+1) from if_pos h2]
   rfl
  ·rw [if_neg h2,if_neg h2,on_on]
   congr 1
   funext ts i
   unfold restP
   rw [on_on]
   congr 1
   funext _ i
   by_cases h3:ts.length=1∧¬(Syn.named T i=true∧Syn.is T (i+1) [40]=true)
   ·rw [if_pos h3,if_pos h3]
    unfold assignP
    simp only [on_on]
    rfl
   ·rw [if_neg h3,if_neg h3]
    unfold callsP
    rw [on_on]
    congr 1
    funext s i
    rw [call_eq]
    rfl
section
variable {ys:List It} {len bp bw i:Nat} {vp:Value} {w:World}
theorem row_shape {m:Mem} {E:TypeId} {size n:Nat} {v:Value} {xs:List Value} (h:RowM m E size v n xs):∃q c,v=.slice q n c:=by
 obtain ⟨_,⟨rfl,rfl⟩|⟨g,cap,cur,rfl,_⟩⟩:=h
 ·exact ⟨_,_,rfl⟩
 ·exact ⟨_,_,rfl⟩
theorem ex_shape {m:Mem} {v:Value} {l:List (List Syn.Tm)} (h:ExM m v l):∃q c,v=.slice q l.length c:=by
 obtain ⟨cs,h1,_⟩:=h
 exact row_shape h1
set_option maxRecDepth 100000 in
theorem named_bad (h:PS ys len bp bw vp w i) (hn:Syn.named (Tk ys) i=false) (S:Nat→Prop) (hS:S bp) :
 Calls Tryz.prog 173 #[.pointer (some ⟨bp,0,none⟩)] w fun e w'=>e=.panicked (gv 50 ((tk ys len i).a:Nat))∧Chg S w w':=by
 have h1:=name_none (h.alloc stmtZ) hn S hS
 unfold stmtZ at h1
 go_enter Tryz.func173,Tryz.ntmps173
 go_wp2_with fail
 go_at_call 144
 refine h1.mono ?_
 rintro e w1 ⟨rfl,hc⟩
 exact ⟨rfl,rfl,((Chg.refl S w).alloc _).then hc⟩
set_option maxRecDepth 100000 in
set_option maxHeartbeats 1000000 in
theorem named_store (hw:Ws ys) (h:PS ys len bp bw vp w i) {m:Mem} (hm:Has w m) (hbm:m bp=none) (hn:Syn.named (Tk ys) i=true) (hb:Syn.is (Tk ys) (i+1) [91]=true) :
 Calls Tryz.prog 173 #[.pointer (some ⟨bp,0,none⟩)] w (Ret ys len (fun k=>k=bp) w (storeP (Tk ys) (ys.length+1) (bl (tk ys len i).t) (i+1+1)) (SOk ys len bp bw vp m w)):=by
 obtain ⟨hlt,hlb⟩:=h.lt
 have hn1:=name_one (h.alloc stmtZ) hn
 have Hm:=hid hm
 have C0:=hid ((Chg.refl (fun k=>k=bp) w).alloc stmtZ)
 have M0:=hid (hm.chg ((Chg.refl (fun _=>False) w).alloc stmtZ) (fun _ e=>e.elim))
 have hne:¬w.heap.size=bp:=by omega
 have HSK:=hid (fun w1 (hp:PS ys len bp bw vp w1 (i+1))=>skip_yes hp (lt_of_is hb) ⟨#[91]⟩ (by rw [eq_text,is_text hw len (i+1) mk_91];exact hb))
 obtain ⟨RR,hRR⟩:∃RR,storeP (Tk ys) (ys.length+1) (bl (tk ys len i).t) (i+1+1)=RR:=⟨_,rfl⟩
 rw [hRR]
 have H0:=hid hRR
 clear hRR h hm hn hb
 unfold stmtZ at hn1 C0 M0
 go_enter Tryz.func173,Tryz.ntmps173
 go_wp2_with fail
 go_at_call 144
 refine hn1.mono ?_
 rintro e w1 ⟨rfl,hc1,hp1⟩
 have hs1:=hc1.size
 rw [World.size_alloc] at hs1
 have C1:=hid (C0.out.then hc1)
 have M1:=hid (M0.out.chg hc1 (fun k e=>by subst e;exact hbm))
 have HRES:=hid (hc1.heap (World.alloc_heap_new w (.cells #[.int .i64 0,.string ⟨#[]⟩,.slice none 0 0,.slice none 0 0] 47)) hne)
 have hsk:=HSK.out w1 hp1
 clear hc1 hp1 hn1
 go_wp2_with fail
 go_at_call 115
 refine hsk.mono ?_
 rintro e w2 ⟨rfl,hc2,hp2⟩
 go_wp2_with fail
 have hs2:=hc2.size
 have C2:=hid (C1.out.then hc2)
 have M2:=hid (M1.out.chg hc2 (fun k e=>by subst e;exact hbm))
 have HRES2:=hid (hc2.heap HRES.out hne)
 have hst:=ret_cases (store_any hw hp2 M2.out hbm (tk ys len i).t)
 clear hc2 hp2 hsk
 go_at_call 182
 refine hst.mono ?_
 rintro e w3 ⟨hc3,⟨er,k,hr,rfl⟩|⟨st,j,hr,vt,ve,m',rfl,hmo,hH,hb3,ht,hex,hp3⟩⟩
 ·exact ⟨rfl,ret_err (by rw [←H0.out,hr]) (C2.out.then hc3)⟩
 obtain ⟨qt,ct,rfl⟩:=row_shape ht
 obtain ⟨qe,ce,rfl⟩:=ex_shape hex
 have HE:=hid (show .ok (st,j)=RR from by rw [←H0.out,hr])
 obtain ⟨r0,r1,r2,r3,f0,f1,f2,f3⟩:=four_cells (hc3.heap HRES2.out hne)
 have HEND:=hid (sok_end (m:=m) (st:=st) (w:=w) (w3:=w3) (C2.out.then hc3) (hmo.from (by omega)) hH hb3 (hmo.new _ (Hm.out.lt (Nat.le_refl _)) (by omega)) ht hex hp3 hne hlb (.int .i64 (st.kind:Int)) (.string (sb st.name)) (.slice qt st.targets.length ct) (.slice qe st.exprs.length ce))
 clear hc3 hr hp3 hmo hH hb3 ht hex hst
 go_wp2
 exact bodyPost_ret (v:=.agg #[.int .i64 (st.kind:Int),.string (sb st.name),.slice qt st.targets.length ct,.slice qe st.exprs.length ce]) (by simp [results,Tryz.results173,go_sem,r0,r1,r2,r3]) rfl (ret_ok HE.out.symm HEND.out.1 HEND.out.2)
set_option maxRecDepth 100000 in
set_option maxHeartbeats 1000000 in
theorem named_call (hw:Ws ys) (h:PS ys len bp bw vp w i) {m:Mem} (hm:Has w m) (hbm:m bp=none) (hn:Syn.named (Tk ys) i=true) (hb:Syn.is (Tk ys) (i+1) [91]=false) (hq:Syn.is (Tk ys) (i+1) [40]=true) :
 Calls Tryz.prog 173 #[.pointer (some ⟨bp,0,none⟩)] w (Ret ys len (fun k=>k=bp) w (callP (Tk ys) (ys.length+1) [] (bl (tk ys len i).t) (i+1+1)) (SOk ys len bp bw vp m w)):=by
 obtain ⟨hlt,hlb⟩:=h.lt
 have hn1:=name_one (h.alloc stmtZ) hn
 have Hm:=hid hm
 have C0:=hid ((Chg.refl (fun k=>k=bp) w).alloc stmtZ)
 have M0:=hid (hm.chg ((Chg.refl (fun _=>False) w).alloc stmtZ) (fun _ e=>e.elim))
 have hne:¬w.heap.size=bp:=by omega
 have HSK:=hid (fun w1 (hp:PS ys len bp bw vp w1 (i+1))=>skip_no hp ⟨#[91]⟩ (by rw [eq_text,is_text hw len (i+1) mk_91];exact hb))
 have HSQ:=hid (fun w1 (hp:PS ys len bp bw vp w1 (i+1))=>skip_yes hp (lt_of_is hq) ⟨#[40]⟩ (by rw [eq_text,is_text hw len (i+1) mk_40];exact hq))
 obtain ⟨RR,hRR⟩:∃RR,callP (Tk ys) (ys.length+1) [] (bl (tk ys len i).t) (i+1+1)=RR:=⟨_,rfl⟩
 rw [hRR]
 have H0:=hid hRR
 clear hRR h hm hn hb hq
 unfold stmtZ at hn1 C0 M0
 go_enter Tryz.func173,Tryz.ntmps173
 go_wp2_with fail
 go_at_call 144
 refine hn1.mono ?_
 rintro e w1 ⟨rfl,hc1,hp1⟩
 have hs1:=hc1.size
 rw [World.size_alloc] at hs1
 have C1:=hid (C0.out.then hc1)
 have M1:=hid (M0.out.chg hc1 (fun k e=>by subst e;exact hbm))
 have HRES:=hid (hc1.heap (World.alloc_heap_new w (.cells #[.int .i64 0,.string ⟨#[]⟩,.slice none 0 0,.slice none 0 0] 47)) hne)
 have hsk:=HSK.out w1 hp1
 have hsq:=HSQ.out w1 hp1
 clear hc1 hp1 hn1
 go_wp2_with fail
 go_at_call 115
 refine hsk.mono ?_
 rintro e w2 ⟨rfl,rfl⟩
 go_wp2_with fail
 go_at_call 115
 refine hsq.mono ?_
 rintro e w2 ⟨rfl,hc2,hp2⟩
 have hs2:=hc2.size
 have C2:=hid (C1.out.then hc2)
 have M2:=hid (M1.out.chg hc2 (fun k e=>by subst e;exact hbm))
 have HRES2:=hid (hc2.heap HRES.out hne)
 have hst:=ret_cases (call_any hw hp2 M2.out hbm (tk ys len i).t (str_nil m))
 clear hc2 hp2 hsk hsq
 go_wp2_with fail
 go_at_call 183
 refine hst.mono ?_
 rintro e w3 ⟨hc3,⟨er,k,hr,rfl⟩|⟨st,j,hr,vt,ve,m',rfl,hmo,hH,hb3,ht,hex,hp3⟩⟩
 ·exact ⟨rfl,ret_err (by rw [←H0.out,hr]) (C2.out.then hc3)⟩
 obtain ⟨qt,ct,rfl⟩:=row_shape ht
 obtain ⟨qe,ce,rfl⟩:=ex_shape hex
 have HE:=hid (show .ok (st,j)=RR from by rw [←H0.out,hr])
 obtain ⟨r0,r1,r2,r3,f0,f1,f2,f3⟩:=four_cells (hc3.heap HRES2.out hne)
 have HEND:=hid (sok_end (m:=m) (st:=st) (w:=w) (w3:=w3) (C2.out.then hc3) (hmo.from (by omega)) hH hb3 (hmo.new _ (Hm.out.lt (Nat.le_refl _)) (by omega)) ht hex hp3 hne hlb (.int .i64 (st.kind:Int)) (.string (sb st.name)) (.slice qt st.targets.length ct) (.slice qe st.exprs.length ce))
 clear hc3 hr hp3 hmo hH hb3 ht hex hst
 go_wp2
 exact bodyPost_ret (v:=.agg #[.int .i64 (st.kind:Int),.string (sb st.name),.slice qt st.targets.length ct,.slice qe st.exprs.length ce]) (by simp [results,Tryz.results173,go_sem,r0,r1,r2,r3]) rfl (ret_ok HE.out.symm HEND.out.1 HEND.out.2)
end
end Go.Proofs.YtlpdjfimefjmcaaGreatDoor.Q
