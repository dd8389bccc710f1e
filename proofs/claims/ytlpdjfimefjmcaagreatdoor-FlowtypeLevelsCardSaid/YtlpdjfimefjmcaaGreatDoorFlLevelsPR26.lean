/- send and store of the parser. named of the parser: a statement that begins with a name. named of the parser: targets, then a call or an expression. -/
import Derived.Test.YtlpdjfimefjmcaaGreatDoorFlLevelsPR25
namespace Go.Proofs.YtlpdjfimefjmcaaGreatDoor.Q
open Go Go.RowKit Go.Proofs.Mm
def sendP (T:Nat→Option Syn.K) (F:Nat) (i:Nat):Syn.R Syn.St :=
  (Syn.name T i).on fun c i=>(Syn.expr T F i).on fun e i=>(Syn.want T i [59]).on fun _ i=>.ok (⟨3,c,[],[e]⟩,i)
def storeP (T:Nat→Option Syn.K) (F:Nat) (s:List Nat) (i:Nat):Syn.R Syn.St :=
  (Syn.expr T F i).on fun a i=>(Syn.want T i [93]).on fun _ i=>(Syn.want T i [61]).on fun _ i=>(Syn.expr T F i).on fun b i=>(Syn.want T i [59]).on fun _ i=>.ok (⟨2,s,[],[a,b]⟩,i)
section
variable {ys:List It} {len bp bw i:Nat} {vp:Value} {w:World}
set_option maxRecDepth 100000 in
set_option maxHeartbeats 1000000 in
theorem send_any (hw:Ws ys) (h:PS ys len bp bw vp w i) {m:Mem} (hm:Has w m) (hbm:m bp=none) :
    Calls Tryz.prog 172 #[.pointer (some ⟨bp,0,none⟩)] w (Ret ys len (fun k=>k=bp) w (sendP (Tk ys) (ys.length+1) i) (SOk ys len bp bw vp m w)):=by
  obtain ⟨hlt,hlb⟩:=h.lt
  have h1:=name_at (h.alloc stmtZ)
  obtain ⟨RR,hRR⟩:∃ RR,sendP (Tk ys) (ys.length+1) i=RR:=⟨_,rfl⟩
  rw [hRR]
  have H0:=Lib.hid hRR
  have C0:=Lib.hid ((Chg.refl (fun k=>k=bp) w).alloc stmtZ)
  have M0:=Lib.hid (hm.chg ((Chg.refl (fun _=>False) w).alloc stmtZ) (fun _ e=>e.elim))
  have Hm:=Lib.hid hm
  have hne:¬ w.heap.size=bp:=by omega
  clear hRR h hm
  unfold stmtZ at h1 C0 M0
  go_enter Tryz.func172,Tryz.ntmps172
  go_wp2_with fail
  go_at_call 144
  refine h1.mono ?_
  rintro e w1 ⟨hc1,⟨hr,rfl⟩ | ⟨hr,rfl,hp1⟩⟩
  · exact ⟨rfl,ret_err (by rw [← H0.out];unfold sendP;rw [hr];rfl) (C0.out.then hc1)⟩
  have C1:=Lib.hid (C0.out.then hc1)
  have M1:=Lib.hid (M0.out.chg hc1 (fun k e=>by subst e;exact hbm))
  have H1:=Lib.hid (show (Syn.expr (Tk ys) (ys.length+1) (i+1)).on (fun e k=>(Syn.want (Tk ys) k [59]).on fun _ k=>.ok ((⟨3,bl (tk ys len i).t,[],[e]⟩:Syn.St),k))=RR from by rw [← H0.out];unfold sendP;rw [hr];rfl)
  have HRES:=Lib.hid (hc1.heap (World.alloc_heap_new w (.cells #[.int .i64 0,.string ⟨#[]⟩,.slice none 0 0,.slice none 0 0] 47)) hne)
  have h2:=expr_at hw hp1 M1.out hbm
  have hs1:=hc1.size
  rw [World.size_alloc] at hs1
  clear hc1 hr h1 hp1
  generalize (tk ys len i).t=s1 at *
  go_wp2_with fail
  go_at_call 175
  refine h2.mono ?_
  rintro e w2 ⟨hc2,⟨er,k,hr,rfl⟩ | ⟨l,j,q,c,m2,hr,rfl,hmo,hH,hb2,htm,hp2⟩⟩
  · exact ⟨rfl,ret_err (by rw [← H1.out,hr];rfl) (C1.out.then hc2)⟩
  have C2:=Lib.hid (C1.out.then hc2)
  have H2:=Lib.hid (show (Syn.want (Tk ys) j [59]).on (fun _ k=>.ok ((⟨3,bl s1,[],[l]⟩:Syn.St),k))=RR from by rw [← H1.out,hr];rfl)
  have HRES2:=Lib.hid (hc2.heap HRES.out hne)
  obtain ⟨p1,p2,p3⟩:=put_new hH (.cells #[.slice q l.length c] 97)
  have P1:=Lib.hid (p1.chg ((Chg.refl (fun _=>False) _).alloc (.cells #[.int .i64 3,.string s1,.slice none 0 0,.slice (some ⟨w2.heap.size,0,none⟩) 1 1] 47)) (fun _ e=>e.elim))
  have hs2:=hc2.size
  have P2:=Lib.hid ((hmo.from (w:=w) (by omega)).trans p2 (by omega))
  have EX:=Lib.hid (ex_one (g:=w2.heap.size) p3 (RowM.le htm p2.le))
  have hbg:(m2.put w2.heap.size (.cells #[.slice q l.length c] 97)) bp=none:=by rw [Mem.put_other (by omega)];exact hb2
  have hzg:(m2.put w2.heap.size (.cells #[.slice q l.length c] 97)) w.heap.size=none:=by
    rw [Mem.put_other (by omega)]
    exact hmo.new _ (Hm.out.lt (Nat.le_refl _)) (by omega)
  have HP2:=Lib.hid ((hp2.alloc (.cells #[.slice q l.length c] 97)).alloc (.cells #[.int .i64 3,.string s1,.slice none 0 0,.slice (some ⟨w2.heap.size,0,none⟩) 1 1] 47))
  have hS:=Lib.hid (want_at hw HP2.out ⟨#[59]⟩ mk_59)
  have hsN:=World.alloc_heap_new (w2.alloc (.cells #[.slice q l.length c] 97)) (.cells #[.int .i64 3,.string s1,.slice none 0 0,.slice (some ⟨w2.heap.size,0,none⟩) 1 1] 47)
  rw [World.size_alloc] at hsN
  have HSN:=Lib.hid hsN
  generalize (m2.put w2.heap.size (.cells #[.slice q l.length c] 97))=m3 at *
  clear hc2 hr h2 hmo hH hb2 htm hp2 p1 p2 p3 hsN
  go_wp2_with fail
  go_at_call 143
  refine hS.out.mono ?_
  rintro e w3 ⟨hc3,⟨hr,rfl⟩ | ⟨hr,rfl,hp3⟩⟩
  · exact ⟨rfl,ret_err (by rw [← H2.out,show ([59]:List Nat)=bl ⟨#[59]⟩ from rfl,hr];rfl) (((C2.out.alloc _).alloc _).then hc3)⟩
  have HE:=Lib.hid (show (.ok ((⟨3,bl s1,[],[l]⟩:Syn.St),j+1))=RR from by rw [← H2.out,show ([59]:List Nat)=bl ⟨#[59]⟩ from rfl,hr];rfl)
  obtain ⟨r0,r1,r2,r3,f0,f1,f2,f3⟩:=four_cells (hc3.heap (heap_new _ _ (heap_new _ _ HRES2.out)) hne)
  obtain ⟨s0,s1',s2,s3,_,_,_,_⟩:=four_cells (hc3.heap HSN.out (by omega))
  have HEND:=Lib.hid (sok_end (m:=m) (st:=⟨3,bl s1,[],[l]⟩) (w:=w) (w3:=w3) (((C2.out.alloc _).alloc _).then hc3) P2.out (P1.out.chg hc3 (fun k e=>by subst e;exact hbg)) hbg hzg (str_nil _) EX.out hp3 hne hlb (.int .i64 3) (.string s1) (.slice none 0 0) (.slice (some ⟨w2.heap.size,0,none⟩) 1 1))
  clear hc3 hr hp3
  go_wp2
  refine bodyPost_ret (v:=.agg #[.int .i64 3,.string s1,.slice none 0 0,.slice (some ⟨w2.heap.size,0,none⟩) 1 1]) (by simp [results,Tryz.results172,go_sem,r0,r1,r2,r3]) rfl (ret_ok HE.out.symm HEND.out.1 ?_)
  have:=HEND.out.2
  rw [sb_bl] at this
  exact this
set_option maxRecDepth 100000 in
set_option maxHeartbeats 1000000 in
theorem store_any (hw:Ws ys) (h:PS ys len bp bw vp w i) {m:Mem} (hm:Has w m) (hbm:m bp=none) (s1:ByteArray) :
    Calls Tryz.prog 182 #[.pointer (some ⟨bp,0,none⟩),.string s1] w (Ret ys len (fun k=>k=bp) w (storeP (Tk ys) (ys.length+1) (bl s1) i) (SOk ys len bp bw vp m w)):=by
  obtain ⟨hlt,hlb⟩:=h.lt
  obtain ⟨RR,hRR⟩:∃ RR,storeP (Tk ys) (ys.length+1) (bl s1) i=RR:=⟨_,rfl⟩
  rw [hRR]
  have H0:=Lib.hid hRR
  have C0:=Lib.hid ((Chg.refl (fun k=>k=bp) w).alloc stmtZ)
  have hM0:=hm.chg ((Chg.refl (fun _=>False) w).alloc stmtZ) (fun _ e=>e.elim)
  have h1:=expr_at hw (h.alloc stmtZ) hM0 hbm
  have Hm:=Lib.hid hm
  have hne:¬ w.heap.size=bp:=by omega
  clear hRR h hm hM0
  unfold stmtZ at h1 C0
  go_enter Tryz.func182,Tryz.ntmps182
  go_wp2_with fail
  go_at_call 175
  refine h1.mono ?_
  rintro e w1 ⟨hc1,⟨er,k,hr,rfl⟩ | ⟨l,j,q,c,m1,hr,rfl,hmo,hH,hb1,htm,hp1⟩⟩
  · exact ⟨rfl,ret_err (by rw [← H0.out];unfold storeP;rw [hr];rfl) (C0.out.then hc1)⟩
  have C1:=Lib.hid (C0.out.then hc1)
  have H1:=Lib.hid (show (Syn.want (Tk ys) j [93]).on (fun _ i=>(Syn.want (Tk ys) i [61]).on fun _ i=>(Syn.expr (Tk ys) (ys.length+1) i).on fun b i=>(Syn.want (Tk ys) i [59]).on fun _ i=>.ok ((⟨2,bl s1,[],[l,b]⟩:Syn.St),i))=RR from by rw [← H0.out];unfold storeP;rw [hr];rfl)
  have HRES:=Lib.hid (hc1.heap (World.alloc_heap_new w (.cells #[.int .i64 0,.string ⟨#[]⟩,.slice none 0 0,.slice none 0 0] 47)) hne)
  have hs1:=hc1.size
  rw [World.size_alloc] at hs1
  have h2:=want_at hw hp1 ⟨#[93]⟩ mk_93
  have HH1:=Lib.hid hH
  have MO1:=Lib.hid hmo
  have TM1:=Lib.hid htm
  clear hc1 hr h1 hp1 hH hmo htm
  go_wp2_with fail
  go_at_call 143
  refine h2.mono ?_
  rintro e w2 ⟨hc2,⟨hr,rfl⟩ | ⟨hr,rfl,hp2⟩⟩
  · exact ⟨rfl,ret_err (by rw [← H1.out,show ([93]:List Nat)=bl ⟨#[93]⟩ from rfl,hr];rfl) (C1.out.then hc2)⟩
  have C2:=Lib.hid (C1.out.then hc2)
  have H2:=Lib.hid (show (Syn.want (Tk ys) (j+1) [61]).on (fun _ i=>(Syn.expr (Tk ys) (ys.length+1) i).on fun b i=>(Syn.want (Tk ys) i [59]).on fun _ i=>.ok ((⟨2,bl s1,[],[l,b]⟩:Syn.St),i))=RR from by rw [← H1.out,show ([93]:List Nat)=bl ⟨#[93]⟩ from rfl,hr];rfl)
  have HRES2:=Lib.hid (hc2.heap HRES.out hne)
  have HH2:=Lib.hid (HH1.out.chg hc2 (fun k e=>by subst e;exact hb1))
  have hs2:=hc2.size
  have h3:=want_at hw hp2 ⟨#[61]⟩ mk_61
  clear hc2 hr h2 hp2
  go_wp2_with fail
  go_at_call 143
  refine h3.mono ?_
  rintro e w3 ⟨hc3,⟨hr,rfl⟩ | ⟨hr,rfl,hp3⟩⟩
  · exact ⟨rfl,ret_err (by rw [← H2.out,show ([61]:List Nat)=bl ⟨#[61]⟩ from rfl,hr];rfl) (C2.out.then hc3)⟩
  have C3:=Lib.hid (C2.out.then hc3)
  have H3:=Lib.hid (show (Syn.expr (Tk ys) (ys.length+1) (j+1+1)).on (fun b i=>(Syn.want (Tk ys) i [59]).on fun _ i=>.ok ((⟨2,bl s1,[],[l,b]⟩:Syn.St),i))=RR from by rw [← H2.out,show ([61]:List Nat)=bl ⟨#[61]⟩ from rfl,hr];rfl)
  have HRES3:=Lib.hid (hc3.heap HRES2.out hne)
  have HH3:=Lib.hid (HH2.out.chg hc3 (fun k e=>by subst e;exact hb1))
  have hs3:=hc3.size
  have h4:=expr_at hw hp3 HH3.out hb1
  clear hc3 hr h3 hp3
  go_wp2_with fail
  go_at_call 175
  refine h4.mono ?_
  rintro e w4 ⟨hc4,⟨er,k,hr,rfl⟩ | ⟨l',j',q',c',m4,hr,rfl,hmo4,hH4,hb4,htm4,hp4⟩⟩
  · exact ⟨rfl,ret_err (by rw [← H3.out,hr];rfl) (C3.out.then hc4)⟩
  have C4:=Lib.hid (C3.out.then hc4)
  have H4:=Lib.hid (show (Syn.want (Tk ys) j' [59]).on (fun _ i=>.ok ((⟨2,bl s1,[],[l,l']⟩:Syn.St),i))=RR from by rw [← H3.out,hr];rfl)
  have HRES4:=Lib.hid (hc4.heap HRES3.out hne)
  obtain ⟨p1,p2,p3⟩:=put_new hH4 (.cells #[.slice q l.length c,.slice q' l'.length c'] 97)
  have P1:=Lib.hid (p1.chg ((Chg.refl (fun _=>False) _).alloc (.cells #[.int .i64 2,.string s1,.slice none 0 0,.slice (some ⟨w4.heap.size,0,none⟩) 2 2] 47)) (fun _ e=>e.elim))
  have hs4:=hc4.size
  have P2:=Lib.hid (((MO1.out.from (w:=w) (by simp)).trans (hmo4.from (w:=w) (by omega)) (Nat.le_refl _)).trans p2 (by omega))
  have EX:=Lib.hid (ex_two (g:=w4.heap.size) p3 (RowM.le (RowM.le TM1.out hmo4.le) p2.le) (RowM.le htm4 p2.le))
  have hbg:(m4.put w4.heap.size (.cells #[.slice q l.length c,.slice q' l'.length c'] 97)) bp=none:=by rw [Mem.put_other (by omega)];exact hb4
  have hzg:(m4.put w4.heap.size (.cells #[.slice q l.length c,.slice q' l'.length c'] 97)) w.heap.size=none:=by
    rw [Mem.put_other (by omega)]
    exact hmo4.new _ (MO1.out.new _ (Hm.out.lt (Nat.le_refl _)) (by simp)) (by omega)
  have HP4:=Lib.hid ((hp4.alloc (.cells #[.slice q l.length c,.slice q' l'.length c'] 97)).alloc (.cells #[.int .i64 2,.string s1,.slice none 0 0,.slice (some ⟨w4.heap.size,0,none⟩) 2 2] 47))
  have hS:=Lib.hid (want_at hw HP4.out ⟨#[59]⟩ mk_59)
  have hsN:=World.alloc_heap_new (w4.alloc (.cells #[.slice q l.length c,.slice q' l'.length c'] 97)) (.cells #[.int .i64 2,.string s1,.slice none 0 0,.slice (some ⟨w4.heap.size,0,none⟩) 2 2] 47)
  rw [World.size_alloc] at hsN
  have HSN:=Lib.hid hsN
  generalize (m4.put w4.heap.size (.cells #[.slice q l.length c,.slice q' l'.length c'] 97))=m5 at *
  clear hc4 hr h4 hmo4 hH4 hb4 htm4 hp4 p1 p2 p3 hsN
  go_wp2_with fail
  go_at_call 143
  refine hS.out.mono ?_
  rintro e w5 ⟨hc5,⟨hr,rfl⟩ | ⟨hr,rfl,hp5⟩⟩
  · exact ⟨rfl,ret_err (by rw [← H4.out,show ([59]:List Nat)=bl ⟨#[59]⟩ from rfl,hr];rfl) (((C4.out.alloc _).alloc _).then hc5)⟩
  have HE:=Lib.hid (show (.ok ((⟨2,bl s1,[],[l,l']⟩:Syn.St),j'+1))=RR from by rw [← H4.out,show ([59]:List Nat)=bl ⟨#[59]⟩ from rfl,hr];rfl)
  obtain ⟨r0,r1,r2,r3,f0,f1,f2,f3⟩:=four_cells (hc5.heap (heap_new _ _ (heap_new _ _ HRES4.out)) hne)
  obtain ⟨s0,s1',s2,s3,_,_,_,_⟩:=four_cells (hc5.heap HSN.out (by omega))
  have HEND:=Lib.hid (sok_end (m:=m) (st:=⟨2,bl s1,[],[l,l']⟩) (w:=w) (w3:=w5) (((C4.out.alloc _).alloc _).then hc5) P2.out (P1.out.chg hc5 (fun k e=>by subst e;exact hbg)) hbg hzg (str_nil _) EX.out hp5 hne hlb (.int .i64 2) (.string s1) (.slice none 0 0) (.slice (some ⟨w4.heap.size,0,none⟩) 2 2))
  clear hc5 hr hp5
  go_wp2
  refine bodyPost_ret (v:=.agg #[.int .i64 2,.string s1,.slice none 0 0,.slice (some ⟨w4.heap.size,0,none⟩) 2 2]) (by simp [results,Tryz.results182,go_sem,r0,r1,r2,r3]) rfl (ret_ok HE.out.symm HEND.out.1 ?_)
  have:=HEND.out.2
  rw [sb_bl] at this
  exact this
end
end Go.Proofs.YtlpdjfimefjmcaaGreatDoor.Q
namespace Go.Proofs.YtlpdjfimefjmcaaGreatDoor.Q
open Go Go.RowKit Go.Proofs.Mm
def assignP (T:Nat→Option Syn.K) (F:Nat) (ts:List (List Nat)) (i:Nat):Syn.R Syn.St :=
  (Syn.expr T F i).on fun e i=>(Syn.want T i [59]).on fun _ i=>.ok (⟨1,[],ts,[e]⟩,i)
def callsP (T:Nat→Option Syn.K) (F:Nat) (ts:List (List Nat)) (i:Nat):Syn.R Syn.St :=
  (Syn.name T i).on fun s i=>(Syn.want T i [40]).on fun _ i=>callP T F ts s i
def restP (T:Nat→Option Syn.K) (F:Nat) (ts:List (List Nat)) (i:Nat):Syn.R Syn.St :=
  (Syn.want T i [61]).on fun _ i=>if ts.length=1∧¬ (Syn.named T i=true∧Syn.is T (i+1) [40]=true) then assignP T F ts i else callsP T F ts i
def namedP (T:Nat→Option Syn.K) (F:Nat) (i:Nat):Syn.R Syn.St :=
  (Syn.name T i).on fun s i =>
    if Syn.is T i [91] then storeP T F s (i+1)
    else if Syn.is T i [40] then callP T F [] s (i+1)
    else (Syn.targetsF T F [s] i).on fun ts i=>restP T F ts i
def oneP (r:Syn.R Syn.St):Syn.R (List Syn.St):=r.on fun s j=>.ok ([s],j)
theorem on_on {α β γ:Type} (r:Syn.R α) (f:α→Nat→Syn.R β) (g:β→Nat→Syn.R γ):(r.on f).on g=r.on fun x i=>(f x i).on g:=by
  cases r with
  | error q=>rfl
  | ok q=>rfl
theorem call_eq (T:Nat→Option Syn.K) (F:Nat) (ts:List (List Nat)) (s:List Nat) (i:Nat):Syn.call T F ts s i=oneP ((Syn.want T i [40]).on fun _ i=>callP T F ts s i):=by
  unfold Syn.call oneP callP
  simp only [on_on]
  rfl
theorem plain_eq (T:Nat→Option Syn.K) (F:Nat) (i:Nat):Syn.plain T F i=oneP (namedP T F i):=by
  unfold Syn.plain oneP namedP
  rw [on_on]
  congr 1
  funext s i
  by_cases h1:Syn.is T i [91]=true
  · rw [if_pos h1,if_pos h1]
    unfold storeP
    simp only [on_on]
    rfl
  · rw [if_neg h1,if_neg h1]
    by_cases h2:Syn.is T i [40]=true
    · rw [if_pos h2,if_pos h2,call_eq]
      rw [show Syn.want T i [40]=.ok ((),i+1) from if_pos h2]
      rfl
    · rw [if_neg h2,if_neg h2,on_on]
      congr 1
      funext ts i
      unfold restP
      rw [on_on]
      congr 1
      funext _ i
      by_cases h3:ts.length=1∧¬ (Syn.named T i=true∧Syn.is T (i+1) [40]=true)
      · rw [if_pos h3,if_pos h3]
        unfold assignP
        simp only [on_on]
        rfl
      · rw [if_neg h3,if_neg h3]
        unfold callsP
        rw [on_on]
        congr 1
        funext s i
        rw [call_eq]
        rfl
section
variable {ys:List It} {len bp bw i:Nat} {vp:Value} {w:World}
theorem row_shape {m:Mem} {E:TypeId} {size n:Nat} {v:Value} {xs:List Value} (h:RowM m E size v n xs):∃ q c,v=.slice q n c:=by
  obtain ⟨_,⟨rfl,rfl⟩ | ⟨g,cap,cur,rfl,_⟩⟩:=h
  · exact ⟨_,_,rfl⟩
  · exact ⟨_,_,rfl⟩
theorem ex_shape {m:Mem} {v:Value} {l:List (List Syn.Tm)} (h:ExM m v l):∃ q c,v=.slice q l.length c:=by
  obtain ⟨cs,h1,_⟩:=h
  exact row_shape h1
set_option maxRecDepth 100000 in
theorem named_bad (h:PS ys len bp bw vp w i) (hn:Syn.named (Tk ys) i=false) (S:Nat→Prop) (hS:S bp) :
    Calls Tryz.prog 173 #[.pointer (some ⟨bp,0,none⟩)] w fun e w'=>e=.panicked (gv 50 ((tk ys len i).a:Nat))∧Chg S w w':=by
  have h1:=name_none (h.alloc stmtZ) hn S hS
  unfold stmtZ at h1
  go_enter Tryz.func173,Tryz.ntmps173
  go_wp2_with fail
  go_at_call 144
  refine h1.mono ?_
  rintro e w1 ⟨rfl,hc⟩
  exact ⟨rfl,rfl,((Chg.refl S w).alloc _).then hc⟩
set_option maxRecDepth 100000 in
set_option maxHeartbeats 1000000 in
theorem named_store (hw:Ws ys) (h:PS ys len bp bw vp w i) {m:Mem} (hm:Has w m) (hbm:m bp=none) (hn:Syn.named (Tk ys) i=true) (hb:Syn.is (Tk ys) (i+1) [91]=true) :
    Calls Tryz.prog 173 #[.pointer (some ⟨bp,0,none⟩)] w (Ret ys len (fun k=>k=bp) w (storeP (Tk ys) (ys.length+1) (bl (tk ys len i).t) (i+1+1)) (SOk ys len bp bw vp m w)):=by
  obtain ⟨hlt,hlb⟩:=h.lt
  have hn1:=name_one (h.alloc stmtZ) hn
  have Hm:=Lib.hid hm
  have C0:=Lib.hid ((Chg.refl (fun k=>k=bp) w).alloc stmtZ)
  have M0:=Lib.hid (hm.chg ((Chg.refl (fun _=>False) w).alloc stmtZ) (fun _ e=>e.elim))
  have hne:¬ w.heap.size=bp:=by omega
  have HSK:=Lib.hid (fun w1 (hp:PS ys len bp bw vp w1 (i+1))=>skip_yes hp (lt_of_is hb) ⟨#[91]⟩ (by rw [eq_text,is_text hw len (i+1) mk_91];exact hb))
  obtain ⟨RR,hRR⟩:∃ RR,storeP (Tk ys) (ys.length+1) (bl (tk ys len i).t) (i+1+1)=RR:=⟨_,rfl⟩
  rw [hRR]
  have H0:=Lib.hid hRR
  clear hRR h hm hn hb
  unfold stmtZ at hn1 C0 M0
  go_enter Tryz.func173,Tryz.ntmps173
  go_wp2_with fail
  go_at_call 144
  refine hn1.mono ?_
  rintro e w1 ⟨rfl,hc1,hp1⟩
  have hs1:=hc1.size
  rw [World.size_alloc] at hs1
  have C1:=Lib.hid (C0.out.then hc1)
  have M1:=Lib.hid (M0.out.chg hc1 (fun k e=>by subst e;exact hbm))
  have HRES:=Lib.hid (hc1.heap (World.alloc_heap_new w (.cells #[.int .i64 0,.string ⟨#[]⟩,.slice none 0 0,.slice none 0 0] 47)) hne)
  have hsk:=HSK.out w1 hp1
  clear hc1 hp1 hn1
  go_wp2_with fail
  go_at_call 115
  refine hsk.mono ?_
  rintro e w2 ⟨rfl,hc2,hp2⟩
  go_wp2_with fail
  have hs2:=hc2.size
  have C2:=Lib.hid (C1.out.then hc2)
  have M2:=Lib.hid (M1.out.chg hc2 (fun k e=>by subst e;exact hbm))
  have HRES2:=Lib.hid (hc2.heap HRES.out hne)
  have hst:=ret_cases (store_any hw hp2 M2.out hbm (tk ys len i).t)
  clear hc2 hp2 hsk
  go_at_call 182
  refine hst.mono ?_
  rintro e w3 ⟨hc3,⟨er,k,hr,rfl⟩ | ⟨st,j,hr,vt,ve,m',rfl,hmo,hH,hb3,ht,hex,hp3⟩⟩
  · exact ⟨rfl,ret_err (by rw [← H0.out,hr]) (C2.out.then hc3)⟩
  obtain ⟨qt,ct,rfl⟩:=row_shape ht
  obtain ⟨qe,ce,rfl⟩:=ex_shape hex
  have HE:=Lib.hid (show .ok (st,j)=RR from by rw [← H0.out,hr])
  obtain ⟨r0,r1,r2,r3,f0,f1,f2,f3⟩:=four_cells (hc3.heap HRES2.out hne)
  have HEND:=Lib.hid (sok_end (m:=m) (st:=st) (w:=w) (w3:=w3) (C2.out.then hc3) (hmo.from (by omega)) hH hb3 (hmo.new _ (Hm.out.lt (Nat.le_refl _)) (by omega)) ht hex hp3 hne hlb (.int .i64 (st.kind:Int)) (.string (sb st.name)) (.slice qt st.targets.length ct) (.slice qe st.exprs.length ce))
  clear hc3 hr hp3 hmo hH hb3 ht hex hst
  go_wp2
  exact bodyPost_ret (v:=.agg #[.int .i64 (st.kind:Int),.string (sb st.name),.slice qt st.targets.length ct,.slice qe st.exprs.length ce]) (by simp [results,Tryz.results173,go_sem,r0,r1,r2,r3]) rfl (ret_ok HE.out.symm HEND.out.1 HEND.out.2)
set_option maxRecDepth 100000 in
set_option maxHeartbeats 1000000 in
theorem named_call (hw:Ws ys) (h:PS ys len bp bw vp w i) {m:Mem} (hm:Has w m) (hbm:m bp=none) (hn:Syn.named (Tk ys) i=true) (hb:Syn.is (Tk ys) (i+1) [91]=false) (hq:Syn.is (Tk ys) (i+1) [40]=true) :
    Calls Tryz.prog 173 #[.pointer (some ⟨bp,0,none⟩)] w (Ret ys len (fun k=>k=bp) w (callP (Tk ys) (ys.length+1) [] (bl (tk ys len i).t) (i+1+1)) (SOk ys len bp bw vp m w)):=by
  obtain ⟨hlt,hlb⟩:=h.lt
  have hn1:=name_one (h.alloc stmtZ) hn
  have Hm:=Lib.hid hm
  have C0:=Lib.hid ((Chg.refl (fun k=>k=bp) w).alloc stmtZ)
  have M0:=Lib.hid (hm.chg ((Chg.refl (fun _=>False) w).alloc stmtZ) (fun _ e=>e.elim))
  have hne:¬ w.heap.size=bp:=by omega
  have HSK:=Lib.hid (fun w1 (hp:PS ys len bp bw vp w1 (i+1))=>skip_no hp ⟨#[91]⟩ (by rw [eq_text,is_text hw len (i+1) mk_91];exact hb))
  have HSQ:=Lib.hid (fun w1 (hp:PS ys len bp bw vp w1 (i+1))=>skip_yes hp (lt_of_is hq) ⟨#[40]⟩ (by rw [eq_text,is_text hw len (i+1) mk_40];exact hq))
  obtain ⟨RR,hRR⟩:∃ RR,callP (Tk ys) (ys.length+1) [] (bl (tk ys len i).t) (i+1+1)=RR:=⟨_,rfl⟩
  rw [hRR]
  have H0:=Lib.hid hRR
  clear hRR h hm hn hb hq
  unfold stmtZ at hn1 C0 M0
  go_enter Tryz.func173,Tryz.ntmps173
  go_wp2_with fail
  go_at_call 144
  refine hn1.mono ?_
  rintro e w1 ⟨rfl,hc1,hp1⟩
  have hs1:=hc1.size
  rw [World.size_alloc] at hs1
  have C1:=Lib.hid (C0.out.then hc1)
  have M1:=Lib.hid (M0.out.chg hc1 (fun k e=>by subst e;exact hbm))
  have HRES:=Lib.hid (hc1.heap (World.alloc_heap_new w (.cells #[.int .i64 0,.string ⟨#[]⟩,.slice none 0 0,.slice none 0 0] 47)) hne)
  have hsk:=HSK.out w1 hp1
  have hsq:=HSQ.out w1 hp1
  clear hc1 hp1 hn1
  go_wp2_with fail
  go_at_call 115
  refine hsk.mono ?_
  rintro e w2 ⟨rfl,rfl⟩
  go_wp2_with fail
  go_at_call 115
  refine hsq.mono ?_
  rintro e w2 ⟨rfl,hc2,hp2⟩
  have hs2:=hc2.size
  have C2:=Lib.hid (C1.out.then hc2)
  have M2:=Lib.hid (M1.out.chg hc2 (fun k e=>by subst e;exact hbm))
  have HRES2:=Lib.hid (hc2.heap HRES.out hne)
  have hst:=ret_cases (call_any hw hp2 M2.out hbm (tk ys len i).t (str_nil m))
  clear hc2 hp2 hsk hsq
  go_wp2_with fail
  go_at_call 183
  refine hst.mono ?_
  rintro e w3 ⟨hc3,⟨er,k,hr,rfl⟩ | ⟨st,j,hr,vt,ve,m',rfl,hmo,hH,hb3,ht,hex,hp3⟩⟩
  · exact ⟨rfl,ret_err (by rw [← H0.out,hr]) (C2.out.then hc3)⟩
  obtain ⟨qt,ct,rfl⟩:=row_shape ht
  obtain ⟨qe,ce,rfl⟩:=ex_shape hex
  have HE:=Lib.hid (show .ok (st,j)=RR from by rw [← H0.out,hr])
  obtain ⟨r0,r1,r2,r3,f0,f1,f2,f3⟩:=four_cells (hc3.heap HRES2.out hne)
  have HEND:=Lib.hid (sok_end (m:=m) (st:=st) (w:=w) (w3:=w3) (C2.out.then hc3) (hmo.from (by omega)) hH hb3 (hmo.new _ (Hm.out.lt (Nat.le_refl _)) (by omega)) ht hex hp3 hne hlb (.int .i64 (st.kind:Int)) (.string (sb st.name)) (.slice qt st.targets.length ct) (.slice qe st.exprs.length ce))
  clear hc3 hr hp3 hmo hH hb3 ht hex hst
  go_wp2
  exact bodyPost_ret (v:=.agg #[.int .i64 (st.kind:Int),.string (sb st.name),.slice qt st.targets.length ct,.slice qe st.exprs.length ce]) (by simp [results,Tryz.results173,go_sem,r0,r1,r2,r3]) rfl (ret_ok HE.out.symm HEND.out.1 HEND.out.2)
end
end Go.Proofs.YtlpdjfimefjmcaaGreatDoor.Q
namespace Go.Proofs.YtlpdjfimefjmcaaGreatDoor.Q
open Go Go.RowKit Go.Proofs.Mm
theorem infoStr:∃ i,Tryz.prog.info? 9=some i∧i.zero=some (.string ⟨#[]⟩)∧i.size=1∧i.bytes=16:=by
  have h:(Tryz.prog.info? 9).map (fun i=>(i.zero,i.size,i.bytes))=some (some (.string ⟨#[]⟩),1,16):=by kernel_rfl
  cases hi:Tryz.prog.info? 9 with
  | none=>rw [hi] at h;cases h
  | some i =>
    rw [hi] at h
    simp only [Option.map_some,Option.some.injEq,Prod.mk.injEq] at h
    obtain ⟨e1,e2,e3⟩:=h
    exact ⟨i,rfl,e1,e2,e3⟩
def strC (l:List (List Nat)):List Value:=l.map fun s=>.string (sb s)
theorem one_str (s:ByteArray):∀ u ∈ [Value.string s],u.oneCell'=true:=by
  intro u hu
  rw [List.mem_singleton] at hu
  subst hu;rfl
section
variable {ys:List It} {len bp bw i:Nat} {vp:Value} {w:World}
theorem skip_t (hw:Ws ys) (h:PS ys len bp bw vp w i) (s:ByteArray) (hs:Mk (bl s)=true) (hx:Syn.is (Tk ys) i (bl s)=true) :
    Calls Tryz.prog 115 #[.pointer (some ⟨bp,0,none⟩),.string s] w fun e w'=>e=.returned (.bool true)∧Chg (fun k=>k=bp) w w'∧PS ys len bp bw vp w' (i+1) :=
  skip_yes h (lt_of_is hx) s (by rw [eq_text,is_text hw len i hs];exact hx)
theorem skip_f (hw:Ws ys) (h:PS ys len bp bw vp w i) (s:ByteArray) (hs:Mk (bl s)=true) (hx:Syn.is (Tk ys) i (bl s)=false) :
    Calls Tryz.prog 115 #[.pointer (some ⟨bp,0,none⟩),.string s] w fun e w'=>e=.returned (.bool false)∧w=w' :=
  skip_no h s (by rw [eq_text,is_text hw len i hs];exact hx)
theorem eq_40 (t:ByteArray):(t.toList == ([40]:List UInt8))=(bl t == [40]):=by
  have h:=eq_text t ⟨#[40]⟩
  rw [Lib.toList_data ⟨#[40]⟩] at h
  exact h
theorem PS.raw2 (h:PS ys len bp bw vp w i) (hi:i<ys.length):w.cell? ⟨bw,4 * i+4+1,none⟩=some (.string (tk ys len (i+1)).t):=by
  obtain ⟨arr,h4,h5⟩:=h.toks
  obtain ⟨a0,a1,a2,a3⟩:=h5 (i+1) hi
  rw [show 4 * i+4+1=4 * (i+1)+1 by omega]
  exact cell_of h4 a1
theorem row_done {m:Mem} {W:World} {B n:Nat} {E:TypeId} {v:Value} {xs:List Value} (h:W.ownsRow B E 1 v n xs) (hm:Has W m) (hB:∀ k,B≤k→m k=none) (hbp:bp<B) (hbm:m bp=none) :
    ∃ m',m.le m'∧(∀ k,k<B→m k=none→m' k=none)∧Has W m'∧m' bp=none∧RowM m' E 1 v n xs:=by
  obtain ⟨m2,d1,d2,d3,d4⟩:=RowM.done h hm (fun k hk=>hB k (h.lt k hk).1)
  have hnew:∀ k,k<B→m k=none→m2 k=none:=fun k hk e=>by
    cases e2:m2 k with
    | none=>rfl
    | some o =>
      rcases d2 k (by rw [e2];simp) with e3 | e3
      · exact (e3 e).elim
      · have:=(h.lt k e3).1;omega
  exact ⟨m2,d1,hnew,d3,hnew bp hbp hbm,d4⟩
set_option maxRecDepth 100000 in
set_option maxHeartbeats 4000000 in
theorem named_rest (hw:Ws ys) (h:PS ys len bp bw vp w i) {m:Mem} (hm:Has w m) (hbm:m bp=none) (hn:Syn.named (Tk ys) i=true) (hb:Syn.is (Tk ys) (i+1) [91]=false) (hq:Syn.is (Tk ys) (i+1) [40]=false) :
    Calls Tryz.prog 173 #[.pointer (some ⟨bp,0,none⟩)] w (Ret ys len (fun k=>k=bp) w ((Syn.targetsF (Tk ys) (ys.length+1) [bl (tk ys len i).t] (i+1)).on fun ts i=>restP (Tk ys) (ys.length+1) ts i) (SOk ys len bp bw vp m w)):=by
  obtain ⟨hlt,hlb⟩:=h.lt
  have hn1:=name_one (h.alloc stmtZ) hn
  have Hm:=Lib.hid hm
  have C0:=Lib.hid ((Chg.refl (fun k=>k=bp) w).alloc stmtZ)
  have M0:=Lib.hid (hm.chg ((Chg.refl (fun _=>False) w).alloc stmtZ) (fun _ e=>e.elim))
  have hne:¬ w.heap.size=bp:=by omega
  have hfit:=Syn.targetsF_fit (tk_nones ys) (ys.length+1) [bl (tk ys len i).t] (i+1) (lt_of_named hn) (by omega)
  have hi0:=lt_of_named hn
  have hfew:=h.few
  obtain ⟨j0,hj0,hy0,hy1,hy2⟩:=infoStr
  have HSK:=Lib.hid (fun w1 (hp:PS ys len bp bw vp w1 (i+1))=>skip_no hp ⟨#[91]⟩ (by rw [eq_text,is_text hw len (i+1) mk_91];exact hb))
  have HSQ:=Lib.hid (fun w1 (hp:PS ys len bp bw vp w1 (i+1))=>skip_no hp ⟨#[40]⟩ (by rw [eq_text,is_text hw len (i+1) mk_40];exact hq))
  obtain ⟨RT,hRT⟩:∃ RT,Syn.targetsF (Tk ys) (ys.length+1) [bl (tk ys len i).t] (i+1)=RT:=⟨_,rfl⟩
  rw [hRT] at hfit ⊢
  obtain ⟨RR,hRR⟩:∃ RR,RT.on (fun ts i=>restP (Tk ys) (ys.length+1) ts i)=RR:=⟨_,rfl⟩
  rw [hRR]
  have HRT:=Lib.hid hRT
  have HRR:=Lib.hid hRR
  have HFIT:=Lib.hid hfit
  have HM0:=Lib.hid (fun k (hk:w.heap.size≤k)=>hm.lt hk)
  clear hRT hRR h hm hn hb hq hfit
  unfold stmtZ at hn1 C0 M0
  go_enter Tryz.func173,Tryz.ntmps173
  go_wp2_with fail
  go_at_call 144
  refine hn1.mono ?_
  rintro e w1 ⟨rfl,hc1,hp1⟩
  have hs1:=hc1.size
  rw [World.size_alloc] at hs1
  have C1:=Lib.hid (C0.out.then hc1)
  have M1:=Lib.hid (M0.out.chg hc1 (fun k e=>by subst e;exact hbm))
  have HRES:=Lib.hid (hc1.heap (World.alloc_heap_new w (.cells #[.int .i64 0,.string ⟨#[]⟩,.slice none 0 0,.slice none 0 0] 47)) hne)
  have hsk:=HSK.out w1 hp1
  have hsq:=HSQ.out w1 hp1
  have hp1':=hp1.alloc (.cells #[.string (tk ys len i).t] 9)
  have hrow:(w1.alloc (.cells #[.string (tk ys len i).t] 9)).ownsRow w1.heap.size 9 1 (.slice (some ⟨w1.heap.size,0,none⟩) 1 1) 1 (strC [bl (tk ys len i).t]):=by
    refine ⟨rfl,.inr ⟨w1.heap.size,1,#[.string (tk ys len i).t],rfl,Nat.le_refl _,World.alloc_heap_new w1 _,Nat.le_refl _,by simp [maxLen],rfl,?_⟩⟩
    unfold strC;rw [List.map_singleton,sb_bl];rfl
  have M1':=Lib.hid (M1.out.chg ((Chg.refl (fun _=>False) w1).alloc (.cells #[.string (tk ys len i).t] 9)) (fun _ e=>e.elim))
  have HRES':=Lib.hid (heap_new w1 (.cells #[.string (tk ys len i).t] 9) HRES.out)
  have C1':=Lib.hid (C1.out.alloc (.cells #[.string (tk ys len i).t] 9))
  have HROW:=Lib.hid hrow
  have HP1:=Lib.hid hp1'
  clear hc1 hp1 hn1 hp1' hrow C0 M0
  generalize (tk ys len i).t=s0 at *
  go_wp2_with fail
  go_at_call 115
  refine hsk.mono ?_
  rintro e w2 ⟨rfl,rfl⟩
  go_wp2_with fail
  go_at_call 115
  refine hsq.mono ?_
  rintro e w2 ⟨rfl,rfl⟩
  clear hsk hsq
  go_wp2_with fail
  go_loopw [4] (fun a wr=>∃ f ts j q c,1≤ts.length∧ts.length≤j∧j≤ys.length∧a=.slice q ts.length c∧Hid (Syn.targetsF (Tk ys) f ts j=RT)∧Hid (wr.ownsRow w1.heap.size 9 1 (.slice q ts.length c) ts.length (strC ts))∧Hid (PS ys len bp bw vp wr j)∧Hid (Chg (fun k=>k=bp) w wr)∧Hid (Has wr m)∧Hid (wr.heap[w.heap.size]?=some (.cells #[.int .i64 0,.string ⟨#[]⟩,.slice none 0 0,.slice none 0 0] 47 (0,0)))∧w1.heap.size≤wr.heap.size)
    (fun _ wr=>posW bp wr)
  case atStart=>exact ⟨ys.length+1,[bl s0],i+1,some ⟨w1.heap.size,0,none⟩,1,Nat.le_refl _,by simp,hi0,rfl,HRT,HROW,HP1,C1',M1',HRES',by simp⟩
  case round =>
    obtain ⟨f,ts,j,q,c,hts,htj,hj,rfl,HF,HRw,HPr,HCr,HMr,HRr,hszr⟩:=hrel
    obtain ⟨nt,hnt⟩:∃ nt,ts.length=nt:=⟨_,rfl⟩
    have HNT:=Lib.hid hnt
    have HRW2:=Lib.hid (show wr.ownsRow w1.heap.size 9 1 (.slice q nt c) nt (strC ts) from by rw [← hnt];exact HRw.out)
    rw [hnt] at hts htj ⊢
    clear hnt HRw
    cases hx:Syn.is (Tk ys) j [44] with
    | true =>
      have hsk2:=skip_t hw HPr.out ⟨#[44]⟩ mk_44 hx
      have hlt2:=lt_of_is hx
      cases f with
      | zero=>exact (HFIT.out.no99 (j:=j) (by rw [← HF.out];rfl)).elim
      | succ f =>
        have hF2:(Syn.name (Tk ys) (j+1)).on (fun s i=>Syn.targetsF (Tk ys) f (ts++[s]) i)=RT:=by
          rw [← HF.out,Syn.targetsF,hx,if_pos rfl]
        have HF2:=Lib.hid hF2
        clear hx hF2
        go_wp2_with (go_at_call 115;refine hsk2.mono ?_;rintro e w3 ⟨rfl,hc3,hp3⟩)
        have hn3:=name_at hp3
        have C3:=Lib.hid (HCr.out.then hc3)
        have M3:=Lib.hid (HMr.out.chg hc3 (fun k e=>by subst e;exact hbm))
        have R3:=Lib.hid (hc3.heap HRr.out hne)
        have W3:=Lib.hid (own_chg HRW2.out hc3 (fun k hk e=>by have:=(HRW2.out.lt k hk).1;omega))
        have hs3:=hc3.size
        clear hc3 hp3 hsk2
        go_wp2_with fail
        go_at_call 144
        refine hn3.mono ?_
        rintro e w4 ⟨hc4,⟨hr,rfl⟩ | ⟨hr,rfl,hp4⟩⟩
        · exact ⟨rfl,ret_err (by rw [← HRR.out,← HF2.out,hr];rfl) (C3.out.then hc4)⟩
        have C4:=Lib.hid (C3.out.then hc4)
        have M4:=Lib.hid (M3.out.chg hc4 (fun k e=>by subst e;exact hbm))
        have R4:=Lib.hid (hc4.heap R3.out hne)
        have hrow4:=own_chg W3.out hc4 (fun k hk e=>by have:=(W3.out.lt k hk).1;omega)
        have hs4:=hc4.size
        have HF4:=Lib.hid (show Syn.targetsF (Tk ys) f (ts++[bl (tk ys len (j+1)).t]) (j+1+1)=RT from by rw [← HF2.out,hr];rfl)
        have hlt4:j+1<ys.length:=by
          rcases Nat.lt_or_ge (j+1) ys.length with q | q
          · exact q
          · exfalso;unfold Syn.name at hr;rw [Tk_none q] at hr;cases hr
        have HP4:=Lib.hid hp4
        clear hc4 hr hn3 hp4
        generalize (tk ys len (j+1)).t=s4 at *
        go_wp2_with (at_builtin;refine wpList_append_own_at _ rfl _ _ 22 rfl w1.heap.size 9 j0 _ 1 16 Tryz.underlying22 hj0 hy0 hy1 hy2 rfl (by decide) _ _ _ rfl (hrow4.alloc _) ⟨w4.heap.size,0,none⟩ 1 1 [.string s4] rfl rfl (row_new w4 [.string s4] 9) (one_str s4) (by unfold maxLen;omega) (by omega) (by simp;omega) ?_)
        intro v' w9 hown9 hgrow9 _ hat9
        obtain ⟨q9,c9,rfl⟩:=own_shape hown9
        have hC9:Chg (fun k=>w1.heap.size≤k) w4 w9:=((Chg.refl _ w4).alloc _).then (grown_chg hgrow9 (fun k hk=>.inl (hrow4.lt k hk).1))
        have hp9:=HP4.out.chg hC9 (by omega) (by omega)
        have HEND:=Lib.hid (show Hid (w9.ownsRow w1.heap.size 9 1 (.slice q9 (nt+1) c9) (nt+1) (strC (ts++[bl s4])))∧Hid (PS ys len bp bw vp w9 (j+1+1))∧Hid (Chg (fun k=>k=bp) w w9)∧Hid (Has w9 m)∧Hid (w9.heap[w.heap.size]?=some (.cells #[.int .i64 0,.string ⟨#[]⟩,.slice none 0 0,.slice none 0 0] 47 (0,0)))∧w1.heap.size≤w9.heap.size from
          ⟨by unfold strC;rw [List.map_append,List.map_singleton,sb_bl];exact hown9,hp9,C4.out.trans hC9 (fun k e=>.inr (by omega)),M4.out.chg hC9 (fun k e=>HM0.out k (by omega)),hC9.heap R4.out (by omega),by have:=hC9.size;omega⟩)
        have hpos9:=hp9.pos
        have hpos:=HPr.out.pos
        clear hown9 hgrow9 hat9 hC9 hp9 hrow4
        go_wp2
        refine ⟨⟨f,ts++[bl s4],j+1+1,q9,c9,?_,?_,by omega,?_,HF4,?_,HEND.out.2⟩,?_⟩
        · rw [List.length_append,List.length_singleton];omega
        · rw [List.length_append,List.length_singleton,HNT.out];omega
        · rw [List.length_append,List.length_singleton,HNT.out]
        · rw [List.length_append,List.length_singleton,HNT.out];exact HEND.out.1
        · rw [hpos9,hpos];omega
    | false =>
      have hsk2:=skip_f hw HPr.out ⟨#[44]⟩ mk_44 hx
      have HRe:=Lib.hid (show restP (Tk ys) (ys.length+1) ts j=RR from by
        have h2:RT=.ok (ts,j):=by
          have:=HF.out
          cases f with
          | zero=>exact (HFIT.out.no99 (j:=j) (by rw [← HF.out];rfl)).elim
          | succ f=>rw [← this,Syn.targetsF,hx,if_neg (by simp)]
        rw [← HRR.out,h2];rfl)
      clear hx
      go_wp2_with (go_at_call 115;refine hsk2.mono ?_;rintro e w3 ⟨rfl,rfl⟩)
      have C3:=HCr
      have R3:=HRr
      have hp3:=HPr.out
      obtain ⟨m3,k1,k2,k3,k4,k5⟩:=row_done (m:=m) HRW2.out HMr.out (fun k hk=>HM0.out k (by omega)) (bp:=bp) (by omega) hbm
      have STR:=Lib.hid (show StrM m3 (.slice q nt c) ts from by unfold StrM;rw [HNT.out];exact k5)
      have MO3:=Lib.hid (show m.More w m3 from ⟨k1,fun k e hk=>k2 k (by omega) e⟩)
      have M3:=Lib.hid k3
      have hz3:m3 w.heap.size=none:=k2 _ (by omega) (HM0.out _ (Nat.le_refl _))
      have hw5:=want_at hw hp3 ⟨#[61]⟩ mk_61
      clear hp3 hsk2 k1 k2 k3 k5
      go_wp2_with fail
      go_at_call 143
      refine hw5.mono ?_
      rintro e w5 ⟨hc5,⟨hr,rfl⟩ | ⟨hr,rfl,hp5⟩⟩
      · exact ⟨rfl,ret_err (by rw [← HRe.out];unfold restP;rw [show ([61]:List Nat)=bl ⟨#[61]⟩ from rfl,hr];rfl) (C3.out.then hc5)⟩
      have C5:=Lib.hid (C3.out.then hc5)
      have R5:=Lib.hid (hc5.heap R3.out hne)
      have M5:=Lib.hid (M3.out.chg hc5 (fun k e=>by subst e;exact k4))
      have HR5:=Lib.hid (show (if ts.length=1∧¬ (Syn.named (Tk ys) (j+1)=true∧Syn.is (Tk ys) (j+1+1) [40]=true) then assignP (Tk ys) (ys.length+1) ts (j+1) else callsP (Tk ys) (ys.length+1) ts (j+1))=RR from by rw [← HRe.out];unfold restP;rw [show ([61]:List Nat)=bl ⟨#[61]⟩ from rfl,hr];rfl)
      have HP5:=Lib.hid hp5
      have hs5:=hc5.size
      have hle5:=hp5.le
      clear hc5 hr hp5 hw5
      by_cases hgt:1<nt
      · have HC:=Lib.hid (show callsP (Tk ys) (ys.length+1) ts (j+1)=RR from by
          rw [← HR5.out,if_neg (by rw [HNT.out];omega)])
        have hgt1:decide ((1:Int)<(nt:Int))=true:=by simp;omega
        go_wp2_with fail
        have h6:=name_at HP5.out
        go_at_call 144
        refine h6.mono ?_
        rintro e w6 ⟨hc6,⟨hr,rfl⟩ | ⟨hr,rfl,hp6⟩⟩
        · exact ⟨rfl,ret_err (by rw [← HC.out];unfold callsP;rw [hr];rfl) (C5.out.then hc6)⟩
        have C6:=Lib.hid (C5.out.then hc6)
        have R6:=Lib.hid (hc6.heap R5.out hne)
        have M6:=Lib.hid (M5.out.chg hc6 (fun k e=>by subst e;exact k4))
        have HC6:=Lib.hid (show (Syn.want (Tk ys) (j+1+1) [40]).on (fun _ i=>callP (Tk ys) (ys.length+1) ts (bl (tk ys len (j+1)).t) i)=RR from by rw [← HC.out];unfold callsP;rw [hr];rfl)
        have hs6:=hc6.size
        have h7:=want_at hw hp6 ⟨#[40]⟩ mk_40
        clear hc6 hr hp6 h6
        generalize (tk ys len (j+1)).t=s6 at *
        go_wp2_with fail
        go_at_call 143
        refine h7.mono ?_
        rintro e w7 ⟨hc7,⟨hr,rfl⟩ | ⟨hr,rfl,hp7⟩⟩
        · exact ⟨rfl,ret_err (by rw [← HC6.out,show ([40]:List Nat)=bl ⟨#[40]⟩ from rfl,hr];rfl) (C6.out.then hc7)⟩
        have C7:=Lib.hid (C6.out.then hc7)
        have R7:=Lib.hid (hc7.heap R6.out hne)
        have HC7:=Lib.hid (show callP (Tk ys) (ys.length+1) ts (bl s6) (j+1+1+1)=RR from by rw [← HC6.out,show ([40]:List Nat)=bl ⟨#[40]⟩ from rfl,hr];rfl)
        have hs7:=hc7.size
        have h8:=ret_cases (call_any hw hp7 (M6.out.chg hc7 (fun k e=>by subst e;exact k4)) k4 s6 STR.out)
        clear hc7 hr hp7 h7
        go_wp2_with fail
        go_at_call 183
        refine h8.mono ?_
        rintro e w8 ⟨hc8,⟨er,k,hr,rfl⟩ | ⟨st,jj,hr,vt,ve,m',rfl,hmo,hH,hb8,ht,hex,hp8⟩⟩
        · exact ⟨rfl,ret_err (by rw [← HC7.out,hr]) (C7.out.then hc8)⟩
        obtain ⟨qt,ct,rfl⟩:=row_shape ht
        obtain ⟨qe,ce,rfl⟩:=ex_shape hex
        have HE:=Lib.hid (show .ok (st,jj)=RR from by rw [← HC7.out,hr])
        obtain ⟨r0,r1,r2,r3,f0,f1,f2,f3⟩:=four_cells (hc8.heap R7.out hne)
        have HEND:=Lib.hid (sok_end (m:=m) (st:=st) (w:=w) (w3:=w8) (C7.out.then hc8) (MO3.out.trans (hmo.from (w:=w) (by omega)) (Nat.le_refl _)) hH hb8 (hmo.new _ hz3 (by omega)) ht hex hp8 hne hlb (.int .i64 (st.kind:Int)) (.string (sb st.name)) (.slice qt st.targets.length ct) (.slice qe st.exprs.length ce))
        clear hc8 hr hp8 hmo hH hb8 ht hex h8
        go_wp2
        exact bodyPost_ret (v:=.agg #[.int .i64 (st.kind:Int),.string (sb st.name),.slice qt st.targets.length ct,.slice qe st.exprs.length ce]) (by simp [results,Tryz.results173,go_sem,r0,r1,r2,r3]) rfl (ret_ok HE.out.symm HEND.out.1 HEND.out.2)
      obtain rfl:nt=1:=by omega
      cases hnm:Syn.named (Tk ys) (j+1) with
      | false =>
        have HC:=Lib.hid (show assignP (Tk ys) (ys.length+1) ts (j+1)=RR from by
          rw [← HR5.out,if_pos ⟨HNT.out,by rw [hnm];simp⟩])
        have hk:=isKind_ps HP5.out 1
        rw [named_kind,hnm] at hk
        clear hnm hgt
        go_wp2_with (go_at_call 167;refine hk.mono ?_;rintro e w' ⟨rfl,rfl⟩)
        go_wp2_with fail
        have h6:=expr_at hw HP5.out M5.out k4
        go_at_call 175
        refine h6.mono ?_
        rintro e w6 ⟨hc6,⟨er,k,hr,rfl⟩ | ⟨l,j',q',c',m6,hr,rfl,hmo,hH,hb6,htm,hp6⟩⟩
        · exact ⟨rfl,ret_err (by rw [← HC.out];unfold assignP;rw [hr];rfl) (C5.out.then hc6)⟩
        have C6:=Lib.hid (C5.out.then hc6)
        have HC6:=Lib.hid (show (Syn.want (Tk ys) j' [59]).on (fun _ i=>.ok ((⟨1,[],ts,[l]⟩:Syn.St),i))=RR from by rw [← HC.out];unfold assignP;rw [hr];rfl)
        have R6:=Lib.hid (hc6.heap R5.out hne)
        have hs6:=hc6.size
        obtain ⟨p1,p2,p3⟩:=put_new hH (.cells #[.slice q' l.length c'] 97)
        have P1:=Lib.hid (p1.chg ((Chg.refl (fun _=>False) _).alloc (.cells #[.int .i64 1,.string ⟨#[]⟩,.slice q 1 c,.slice (some ⟨w6.heap.size,0,none⟩) 1 1] 47)) (fun _ e=>e.elim))
        have P2:=Lib.hid ((MO3.out.trans (hmo.from (w:=w) (by omega)) (Nat.le_refl _)).trans p2 (by omega))
        have EX:=Lib.hid (ex_one (g:=w6.heap.size) p3 (RowM.le htm p2.le))
        have STR6:=Lib.hid (RowM.le (RowM.le STR.out hmo.le) p2.le)
        have hbg:(m6.put w6.heap.size (.cells #[.slice q' l.length c'] 97)) bp=none:=by rw [Mem.put_other (by omega)];exact hb6
        have hzg:(m6.put w6.heap.size (.cells #[.slice q' l.length c'] 97)) w.heap.size=none:=by
          rw [Mem.put_other (by omega)]
          exact hmo.new _ hz3 (by omega)
        have HP6:=Lib.hid ((hp6.alloc (.cells #[.slice q' l.length c'] 97)).alloc (.cells #[.int .i64 1,.string ⟨#[]⟩,.slice q 1 c,.slice (some ⟨w6.heap.size,0,none⟩) 1 1] 47))
        have hS:=Lib.hid (want_at hw HP6.out ⟨#[59]⟩ mk_59)
        have hsN:=World.alloc_heap_new (w6.alloc (.cells #[.slice q' l.length c'] 97)) (.cells #[.int .i64 1,.string ⟨#[]⟩,.slice q 1 c,.slice (some ⟨w6.heap.size,0,none⟩) 1 1] 47)
        rw [World.size_alloc] at hsN
        have HSN:=Lib.hid hsN
        generalize (m6.put w6.heap.size (.cells #[.slice q' l.length c'] 97))=m7 at *
        clear hc6 hr h6 hmo hH hb6 htm hp6 p1 p2 p3 hsN
        go_wp2_with fail
        go_at_call 143
        refine hS.out.mono ?_
        rintro e w7 ⟨hc7,⟨hr,rfl⟩ | ⟨hr,rfl,hp7⟩⟩
        · exact ⟨rfl,ret_err (by rw [← HC6.out,show ([59]:List Nat)=bl ⟨#[59]⟩ from rfl,hr];rfl) (((C6.out.alloc _).alloc _).then hc7)⟩
        have HE:=Lib.hid (show (.ok ((⟨1,[],ts,[l]⟩:Syn.St),j'+1))=RR from by rw [← HC6.out,show ([59]:List Nat)=bl ⟨#[59]⟩ from rfl,hr];rfl)
        obtain ⟨r0,r1,r2,r3,f0,f1,f2,f3⟩:=four_cells (hc7.heap (heap_new _ _ (heap_new _ _ R6.out)) hne)
        obtain ⟨s0,s1',s2,s3,_,_,_,_⟩:=four_cells (hc7.heap HSN.out (by omega))
        have HEND:=Lib.hid (sok_end (m:=m) (st:=⟨1,[],ts,[l]⟩) (w:=w) (w3:=w7) (((C6.out.alloc _).alloc _).then hc7) P2.out (P1.out.chg hc7 (fun k e=>by subst e;exact hbg)) hbg hzg STR6.out EX.out hp7 hne hlb (.int .i64 1) (.string ⟨#[]⟩) (.slice q 1 c) (.slice (some ⟨w6.heap.size,0,none⟩) 1 1))
        clear hc7 hr hp7
        go_wp2
        exact bodyPost_ret (v:=.agg #[.int .i64 1,.string ⟨#[]⟩,.slice q 1 c,.slice (some ⟨w6.heap.size,0,none⟩) 1 1]) (by simp [results,Tryz.results173,go_sem,r0,r1,r2,r3]) rfl (ret_ok HE.out.symm HEND.out.1 HEND.out.2)
      | true =>
        have hlt6:=lt_of_named hnm
        have hk:=isKind_ps HP5.out 1
        rw [named_kind,hnm] at hk
        obtain ⟨cc,z0,zf,zc,zc2,z1,z2,z3,z4⟩:=HP5.out.raw
        have z5:=HP5.out.raw2 hlt6
        have hm1:1<ys.length+1 - (j+1):=by omega
        have hm2:ys.length+1 - (j+1)≤100000:=by omega
        clear zf zc zc2 z1 z2 z3 z4
        cases hx4:Syn.is (Tk ys) (j+1+1) [40] with
        | true =>
          have HC:=Lib.hid (show callsP (Tk ys) (ys.length+1) ts (j+1)=RR from by
            rw [← HR5.out,if_neg (by rw [hnm,hx4];simp)])
          have ht4:((tk ys len (j+1+1)).t.toList == ([40]:List UInt8))=true:=by rw [eq_40];rw [← hx4];exact is_text hw len (j+1+1) mk_40
          clear hnm hgt hx4
          generalize ys.length+1 - (j+1)=mm at *
          generalize 4 * (j+1)=oo at *
          go_wp2_with (go_at_call 167;refine hk.mono ?_;rintro e w' ⟨rfl,rfl⟩)
          clear z0 z5 hm1 hm2 ht4 hk
          go_wp2_with fail
          have h6:=name_at HP5.out
          go_at_call 144
          refine h6.mono ?_
          rintro e w6 ⟨hc6,⟨hr,rfl⟩ | ⟨hr,rfl,hp6⟩⟩
          · exact ⟨rfl,ret_err (by rw [← HC.out];unfold callsP;rw [hr];rfl) (C5.out.then hc6)⟩
          have C6:=Lib.hid (C5.out.then hc6)
          have R6:=Lib.hid (hc6.heap R5.out hne)
          have M6:=Lib.hid (M5.out.chg hc6 (fun k e=>by subst e;exact k4))
          have HC6:=Lib.hid (show (Syn.want (Tk ys) (j+1+1) [40]).on (fun _ i=>callP (Tk ys) (ys.length+1) ts (bl (tk ys len (j+1)).t) i)=RR from by rw [← HC.out];unfold callsP;rw [hr];rfl)
          have hs6:=hc6.size
          have h7:=want_at hw hp6 ⟨#[40]⟩ mk_40
          clear hc6 hr hp6 h6
          generalize (tk ys len (j+1)).t=s6 at *
          go_wp2_with fail
          go_at_call 143
          refine h7.mono ?_
          rintro e w7 ⟨hc7,⟨hr,rfl⟩ | ⟨hr,rfl,hp7⟩⟩
          · exact ⟨rfl,ret_err (by rw [← HC6.out,show ([40]:List Nat)=bl ⟨#[40]⟩ from rfl,hr];rfl) (C6.out.then hc7)⟩
          have C7:=Lib.hid (C6.out.then hc7)
          have R7:=Lib.hid (hc7.heap R6.out hne)
          have HC7:=Lib.hid (show callP (Tk ys) (ys.length+1) ts (bl s6) (j+1+1+1)=RR from by rw [← HC6.out,show ([40]:List Nat)=bl ⟨#[40]⟩ from rfl,hr];rfl)
          have hs7:=hc7.size
          have h8:=ret_cases (call_any hw hp7 (M6.out.chg hc7 (fun k e=>by subst e;exact k4)) k4 s6 STR.out)
          clear hc7 hr hp7 h7
          go_wp2_with fail
          go_at_call 183
          refine h8.mono ?_
          rintro e w8 ⟨hc8,⟨er,k,hr,rfl⟩ | ⟨st,jj,hr,vt,ve,m',rfl,hmo,hH,hb8,ht,hex,hp8⟩⟩
          · exact ⟨rfl,ret_err (by rw [← HC7.out,hr]) (C7.out.then hc8)⟩
          obtain ⟨qt,ct,rfl⟩:=row_shape ht
          obtain ⟨qe,ce,rfl⟩:=ex_shape hex
          have HE:=Lib.hid (show .ok (st,jj)=RR from by rw [← HC7.out,hr])
          obtain ⟨r0,r1,r2,r3,f0,f1,f2,f3⟩:=four_cells (hc8.heap R7.out hne)
          have HEND:=Lib.hid (sok_end (m:=m) (st:=st) (w:=w) (w3:=w8) (C7.out.then hc8) (MO3.out.trans (hmo.from (w:=w) (by omega)) (Nat.le_refl _)) hH hb8 (hmo.new _ hz3 (by omega)) ht hex hp8 hne hlb (.int .i64 (st.kind:Int)) (.string (sb st.name)) (.slice qt st.targets.length ct) (.slice qe st.exprs.length ce))
          clear hc8 hr hp8 hmo hH hb8 ht hex h8
          go_wp2
          exact bodyPost_ret (v:=.agg #[.int .i64 (st.kind:Int),.string (sb st.name),.slice qt st.targets.length ct,.slice qe st.exprs.length ce]) (by simp [results,Tryz.results173,go_sem,r0,r1,r2,r3]) rfl (ret_ok HE.out.symm HEND.out.1 HEND.out.2)
        | false =>
          have HC:=Lib.hid (show assignP (Tk ys) (ys.length+1) ts (j+1)=RR from by
            rw [← HR5.out,if_pos ⟨HNT.out,by rw [hx4];simp⟩])
          have ht4:((tk ys len (j+1+1)).t.toList == ([40]:List UInt8))=false:=by rw [eq_40];rw [← hx4];exact is_text hw len (j+1+1) mk_40
          clear hnm hgt hx4
          generalize ys.length+1 - (j+1)=mm at *
          generalize 4 * (j+1)=oo at *
          go_wp2_with (go_at_call 167;refine hk.mono ?_;rintro e w' ⟨rfl,rfl⟩)
          clear z0 z5 hm1 hm2 ht4 hk
          go_wp2_with fail
          have h6:=expr_at hw HP5.out M5.out k4
          go_at_call 175
          refine h6.mono ?_
          rintro e w6 ⟨hc6,⟨er,k,hr,rfl⟩ | ⟨l,j',q',c',m6,hr,rfl,hmo,hH,hb6,htm,hp6⟩⟩
          · exact ⟨rfl,ret_err (by rw [← HC.out];unfold assignP;rw [hr];rfl) (C5.out.then hc6)⟩
          have C6:=Lib.hid (C5.out.then hc6)
          have HC6:=Lib.hid (show (Syn.want (Tk ys) j' [59]).on (fun _ i=>.ok ((⟨1,[],ts,[l]⟩:Syn.St),i))=RR from by rw [← HC.out];unfold assignP;rw [hr];rfl)
          have R6:=Lib.hid (hc6.heap R5.out hne)
          have hs6:=hc6.size
          obtain ⟨p1,p2,p3⟩:=put_new hH (.cells #[.slice q' l.length c'] 97)
          have P1:=Lib.hid (p1.chg ((Chg.refl (fun _=>False) _).alloc (.cells #[.int .i64 1,.string ⟨#[]⟩,.slice q 1 c,.slice (some ⟨w6.heap.size,0,none⟩) 1 1] 47)) (fun _ e=>e.elim))
          have P2:=Lib.hid ((MO3.out.trans (hmo.from (w:=w) (by omega)) (Nat.le_refl _)).trans p2 (by omega))
          have EX:=Lib.hid (ex_one (g:=w6.heap.size) p3 (RowM.le htm p2.le))
          have STR6:=Lib.hid (RowM.le (RowM.le STR.out hmo.le) p2.le)
          have hbg:(m6.put w6.heap.size (.cells #[.slice q' l.length c'] 97)) bp=none:=by rw [Mem.put_other (by omega)];exact hb6
          have hzg:(m6.put w6.heap.size (.cells #[.slice q' l.length c'] 97)) w.heap.size=none:=by
            rw [Mem.put_other (by omega)]
            exact hmo.new _ hz3 (by omega)
          have HP6:=Lib.hid ((hp6.alloc (.cells #[.slice q' l.length c'] 97)).alloc (.cells #[.int .i64 1,.string ⟨#[]⟩,.slice q 1 c,.slice (some ⟨w6.heap.size,0,none⟩) 1 1] 47))
          have hS:=Lib.hid (want_at hw HP6.out ⟨#[59]⟩ mk_59)
          have hsN:=World.alloc_heap_new (w6.alloc (.cells #[.slice q' l.length c'] 97)) (.cells #[.int .i64 1,.string ⟨#[]⟩,.slice q 1 c,.slice (some ⟨w6.heap.size,0,none⟩) 1 1] 47)
          rw [World.size_alloc] at hsN
          have HSN:=Lib.hid hsN
          generalize (m6.put w6.heap.size (.cells #[.slice q' l.length c'] 97))=m7 at *
          clear hc6 hr h6 hmo hH hb6 htm hp6 p1 p2 p3 hsN
          go_wp2_with fail
          go_at_call 143
          refine hS.out.mono ?_
          rintro e w7 ⟨hc7,⟨hr,rfl⟩ | ⟨hr,rfl,hp7⟩⟩
          · exact ⟨rfl,ret_err (by rw [← HC6.out,show ([59]:List Nat)=bl ⟨#[59]⟩ from rfl,hr];rfl) (((C6.out.alloc _).alloc _).then hc7)⟩
          have HE:=Lib.hid (show (.ok ((⟨1,[],ts,[l]⟩:Syn.St),j'+1))=RR from by rw [← HC6.out,show ([59]:List Nat)=bl ⟨#[59]⟩ from rfl,hr];rfl)
          obtain ⟨r0,r1,r2,r3,f0,f1,f2,f3⟩:=four_cells (hc7.heap (heap_new _ _ (heap_new _ _ R6.out)) hne)
          obtain ⟨s0,s1',s2,s3,_,_,_,_⟩:=four_cells (hc7.heap HSN.out (by omega))
          have HEND:=Lib.hid (sok_end (m:=m) (st:=⟨1,[],ts,[l]⟩) (w:=w) (w3:=w7) (((C6.out.alloc _).alloc _).then hc7) P2.out (P1.out.chg hc7 (fun k e=>by subst e;exact hbg)) hbg hzg STR6.out EX.out hp7 hne hlb (.int .i64 1) (.string ⟨#[]⟩) (.slice q 1 c) (.slice (some ⟨w6.heap.size,0,none⟩) 1 1))
          clear hc7 hr hp7
          go_wp2
          exact bodyPost_ret (v:=.agg #[.int .i64 1,.string ⟨#[]⟩,.slice q 1 c,.slice (some ⟨w6.heap.size,0,none⟩) 1 1]) (by simp [results,Tryz.results173,go_sem,r0,r1,r2,r3]) rfl (ret_ok HE.out.symm HEND.out.1 HEND.out.2)
end
end Go.Proofs.YtlpdjfimefjmcaaGreatDoor.Q
