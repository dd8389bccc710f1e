/- Package flowtype: keeps, whatever the statement. Plain: in a source without a fault every use is found, as what it must be, and no two names are one. Package flowtype, plain: names in order give StOk; which statement first does not keep the labels. The kit's lent rows: strings, terms; they read as w -/
import Derived.Test.YtlpdjfimefjmcaaGreatDoorFlLevelsPR15
import Derived.Test.YtlpdjfimefjmcaaGreatDoorFlLevelsPR3
import Derived.Lib.Hide
import Derived.Laws.AppendOwnNone
namespace Go.Proofs.YtlpdjfimefjmcaaGreatDoor
open Go Go.RowKit Go.Proofs.Mm
structure StOk (s:SoZ) (f:Nat) (x:StZ):Prop where
  asn:x.kind=1→∃ t l z,x.targets=t :: l∧fndZ s (f:Int) t=some z
  nam:x.kind=2 ∨ x.kind=3→∃ z,fndZ s (f:Int) x.name=some z
  cal:x.kind=4→∃ z,fndZ s (f:Int) x.name=some z∧∃ hf:z.2<s.funcs.length,x.exprs.length≤s.funcs[z.2].params.length∧x.targets.length≤s.funcs[z.2].results.length∧∀ t ∈ x.targets,∃ z,fndZ s (f:Int) t=some z
  ret:x.kind=9→∃ hf:f<s.funcs.length,x.exprs.length≤s.funcs[f].results.length
section
variable {W:World} {lt:Bool} {C:Cl} {s:SoZ} {q1:Option Addr} {c1:Nat} {q2:Option Addr} {c2:Nat} {q3:Option Addr} {c3:Nat} {q4:Option Addr} {c4:Nat} {q5:Option Addr} {c5:Nat}
theorem keeps_p (h:SrcO lt C s q1 c1 q2 c2 q3 c3 q4 c4 q5 c5) (hC:CLe C (wC W)) (f lv:Nat) (hlv:lv<u64B) (x:StZ) (qt qe:Option Addr) (ct ce:Nat) (he:ExW lt C W qe x.exprs) (hln:x.exprs.length<9223372036854775807) (htg:StrR lt C (.slice qt x.targets.length ct) x.targets) (ok:StOk s f x) :
    Calls Tryz.prog 23 #[.agg (srV s q1 c1 q2 c2 q3 c3 q4 c4 q5 c5),.int .i64 (f:Int),.agg #[.int .i64 x.kind,.string x.name,.slice qt x.targets.length ct,.slice qe x.exprs.length ce],.int .u64 (lv:Nat)] W (RetB (.bool (keepsZ s f x lv)) W):=by
  obtain ⟨kd,xn,ts,xs⟩:=x
  obtain ⟨o1,o2,o4,o9⟩:=ok
  simp only at he hln htg o1 o2 o4 o9 ⊢
  by_cases h1:kd=1
  · subst h1
    obtain ⟨t,l,z,rfl,hz⟩:=o1 rfl
    obtain ⟨g,o,hq,hc⟩:=htg.cells 0 (by simp)
    have e:keepsZ s f ⟨1,xn,t :: l,xs⟩ lv=within (exsL s f xs ||| lv) (toZ s f t):=rfl
    rw [e]
    exact keeps_1 h hC f lv hlv xn xs qt qe _ ct ce he t g o hq (by simp) (hC _ _ (by simpa using hc)) hln z hz
  by_cases h2:kd=2
  · subst h2
    obtain ⟨z,hz⟩:=o2 (.inl rfl)
    exact keeps_2 h hC f lv hlv xn xs qt qe _ ct ce he hln z hz
  by_cases h3:kd=3
  · subst h3
    obtain ⟨z,hz⟩:=o2 (.inr rfl)
    exact keeps_3 h hC f lv hlv xn xs qt qe _ ct ce he hln z hz
  by_cases h4:kd=4
  · subst h4
    obtain ⟨z,hz,hf,l1,l2,l3⟩:=o4 rfl
    have e:keepsZ s f ⟨4,xn,ts,xs⟩ lv=flowF lv s.funcs[z.2].results (ts.map (toZ s f)) (flowF lv (oneL s f xs) (s.funcs[z.2].params.map DeZ.label) true && within (0 ||| lv) s.funcs[z.2].level):=by
      unfold keepsZ
      simp [hz,List.getElem?_eq_getElem hf]
    rw [e]
    exact keeps_4 h hC f lv hlv xn xs ts qt qe ct ce he hln htg z hz hf l1 l2 l3
  by_cases h9:kd=9
  · subst h9
    obtain ⟨hf,l1⟩:=o9 rfl
    have e:keepsZ s f ⟨9,xn,ts,xs⟩ lv=flowF lv (oneL s f xs) s.funcs[f].results true:=by
      unfold keepsZ
      simp [List.getElem?_eq_getElem hf]
    rw [e]
    exact keeps_9 h hC f lv hf hlv xn xs qt qe _ ct ce he hln l1
  have e:keepsZ s f ⟨kd,xn,ts,xs⟩ lv=true:=by unfold keepsZ;simp [h1,h2,h3,h4,h9]
  rw [e]
  exact keeps_other f kd lv xn qt qe _ ct _ ce h1 h2 h3 h4 h9
end
end Go.Proofs.YtlpdjfimefjmcaaGreatDoor
namespace Go.Proofs.YtlpdjfimefjmcaaGreatDoor
open Go
theorem grp_err {most:Nat} {e:Nat→Nat} {base:Nat}:∀ {n k a er:Nat},grpF most e base n k=some (a,er)→er ≠ 0
  | 0,_,_,_,h=>by cases h
  | n+1,k,a,er,h=>by
    rw [grpF] at h
    split at h
    · injection h with h;injection h with _ h;omega
    · split at h
      · exact grp_err h
      · rename_i hne
        injection h with h;injection h with _ h;omega
theorem orO_err {a b:Option (Nat × Nat)} {x y:Nat} (h:orO a b=some (x,y)) (ha:∀ u v,a=some (u,v)→v ≠ 0) (hb:∀ u v,b=some (u,v)→v ≠ 0):y ≠ 0:=by
  cases a with
  | none=>exact hb _ _ h
  | some p=>exact ha _ _ h
theorem decls_err {s:SoZ} {a e:Nat} (h:declsZE s=some (a,e)):e ≠ 0:=by
  unfold declsZE at h
  refine orO_err h (fun _ _=>grp_err) fun _ _ h=>orO_err h (fun _ _=>grp_err) fun _ _ h=>orO_err h (fun _ _=>grp_err) fun _ _ h=>orO_err h (fun _ _=>grp_err) fun _ _=>grp_err
theorem fst0_zero:∀ {l:List Nat},fst0 l=0→∀ e ∈ l,e=0
  | [],_,e,he=>by cases he
  | x :: l,h,e,he=>by
    rw [fst0] at h
    split at h
    · rename_i hx
      rcases List.mem_cons.1 he with rfl | he
      · exact hx
      · exact fst0_zero h e he
    · rename_i hx
      exact absurd h hx
theorem body_err {s:SoZ} {f:Nat}:∀ {l:List StZ} {i:Nat} {a:Int} {e:Nat},bodyF s f l i=some (a,e)→e ≠ 0
  | [],_,_,_,h=>by cases h
  | x :: l,i,a,e,h=>by
    rw [bodyF] at h
    split at h
    · exact body_err h
    · rename_i hx
      injection h with h;injection h with _ h;omega
theorem body_none {s:SoZ} {f:Nat}:∀ {l:List StZ} {i:Nat},bodyF s f l i=none→∀ x ∈ l,stE s f x=0
  | [],_,_,x,hx=>by cases hx
  | y :: l,i,h,x,hx=>by
    rw [bodyF] at h
    split at h
    · rename_i he
      rcases List.mem_cons.1 hx with rfl | hx
      · exact he
      · exact body_none h x hx
    · cases h
section
variable {nest:List Int→Bool}
theorem fnE_err {s:SoZ} {f:Nat} {d:FnZ} {a:Int} {e:Nat} (h:fnE nest s f d=some (a,e)):e ≠ 0:=by
  unfold fnE at h
  simp only at h
  split at h
  · exact body_err h
  · rename_i hne
    injection h with h;injection h with _ h
    rw [← h];exact hne
theorem fns_err {s:SoZ}:∀ {l:List FnZ} {f g:Nat} {a:Int} {e:Nat},fnsF nest s l f=some (g,a,e)→e ≠ 0
  | [],_,_,_,_,h=>by cases h
  | d :: l,f,g,a,e,h=>by
    rw [fnsF] at h
    split at h
    · rename_i a' e' he
      injection h with h;injection h with _ h;injection h with _ h
      rw [← h];exact fnE_err he
    · exact fns_err h
theorem fns_none {s:SoZ}:∀ {l:List FnZ} {f:Nat},fnsF nest s l f=none→∀ j (hj:j<l.length),fnE nest s (f+j) l[j]=none
  | [],_,_,j,hj=>absurd hj (by simp)
  | d :: l,f,h,j,hj=>by
    rw [fnsF] at h
    split at h
    · cases h
    · rename_i he
      cases j with
      | zero=>exact he
      | succ j =>
        have:=fns_none h j (by simpa using hj)
        rw [show f+(j+1)=f+1+j by omega]
        exact this
theorem chk_zero {s:SoZ} (h:chkZ nest s=(0,0,0)):declsZE s=none∧fnsF nest s s.funcs 0=none:=by
  unfold chkZ at h
  cases hd:declsZE s with
  | some p =>
    obtain ⟨a,e⟩:=p
    rw [hd] at h
    have:=decls_err hd
    simp only [Prod.mk.injEq] at h
    omega
  | none =>
    rw [hd] at h
    cases hf:fnsF nest s s.funcs 0 with
    | none=>exact ⟨rfl,rfl⟩
    | some p =>
      obtain ⟨f,a,e⟩:=p
      rw [hf] at h
      have:=fns_err hf
      simp only [Prod.mk.injEq] at h
      omega
theorem unl_zero {b:Bool} {e:Nat} (he:e ≠ 0) (h:unl b e=0):b=true:=by
  unfold unl at h
  split at h
  · assumption
  · exact absurd h he
end
end Go.Proofs.YtlpdjfimefjmcaaGreatDoor
namespace Go.Proofs.YtlpdjfimefjmcaaGreatDoor
open Go
theorem use_found {s:SoZ} {f:Nat} {x:StZ} (h:usesE s f x=0) {u:ByteArray × Nat} (hu:u ∈ usesZ x):∃ k j,fndZ s (f:Int) u.1=some (k,j)∧(k=u.2 ∨ u.2=2∧k=1):=by
  have h0:=fst0_zero h (useE s f u) (List.mem_map_of_mem hu)
  unfold useE at h0
  cases hz:fndZ s (f:Int) u.1 with
  | none=>rw [hz] at h0;cases h0
  | some z =>
    obtain ⟨k,j⟩:=z
    rw [hz] at h0
    have:=unl_zero (by decide) h0
    refine ⟨k,j,rfl,?_⟩
    simpa using this
theorem st_ok {s:SoZ} {f:Nat} (hf:f<s.funcs.length) {x:StZ} (h:stE s f x=0):StOk s f x:=by
  have hz:=fst0_zero h
  have hfit:=unl_zero (by decide) (hz _ (.head _))
  have huse:=hz (usesE s f x) (by simp)
  have hcnt:=hz (cntE s f x) (by simp)
  clear hz h
  refine ⟨fun hk=>?_,fun hk=>?_,fun hk=>?_,fun hk=>?_⟩
  · unfold fitZ formZ at hfit
    rw [hk] at hfit
    simp [isC] at hfit
    obtain ⟨t,l,e⟩:=List.exists_cons_of_length_pos (l:=x.targets) (by omega)
    obtain ⟨k,j,hz,-⟩:=use_found huse (u:=(t,2)) (by unfold usesZ;rw [e];simp)
    exact ⟨t,l,(k,j),e,hz⟩
  · rcases hk with hk | hk
    · obtain ⟨k,j,hz,-⟩:=use_found huse (u:=(x.name,3)) (by unfold usesZ;simp [hk])
      exact ⟨(k,j),hz⟩
    · obtain ⟨k,j,hz,-⟩:=use_found huse (u:=(x.name,4)) (by unfold usesZ;simp [hk])
      exact ⟨(k,j),hz⟩
  · obtain ⟨k,j,hz,hkk⟩:=use_found huse (u:=(x.name,5)) (by unfold usesZ;simp [hk])
    obtain rfl:k=5:=by simpa using hkk
    have hr:=fnd_ref hz
    unfold RefOk at hr
    have hj:j<s.funcs.length:=by simpa using hr
    unfold cntE at hcnt
    rw [if_pos hk,show fndZ s (f:Int) x.name=some (5,j) from hz] at hcnt
    simp only [Option.getD_some,List.getElem?_eq_getElem hj] at hcnt
    have hc:=unl_zero (by decide) hcnt
    simp at hc
    refine ⟨(5,j),hz,hj,?_,?_,fun t ht=>?_⟩
    · exact Nat.le_of_eq hc.1
    · show x.targets.length≤s.funcs[j].results.length
      rcases hc.2 with h0 | h0
      · rw [h0];simp
      · exact Nat.le_of_eq h0
    · obtain ⟨k,i,hz,-⟩:=use_found huse (u:=(t,2)) (by unfold usesZ;simp [ht])
      exact ⟨(k,i),hz⟩
  · unfold cntE at hcnt
    rw [if_neg (by omega),if_pos hk,List.getElem?_eq_getElem hf] at hcnt
    have hc:=unl_zero (by decide) hcnt
    simp at hc
    exact ⟨hf,Nat.le_of_eq hc⟩
theorem all_ok {nest:List Int→Bool} {s:SoZ} (h:chkZ nest s=(0,0,0)) {f:Nat} (hf:f<s.funcs.length):nest (s.funcs[f].body.map StZ.kind)=true∧∀ x ∈ s.funcs[f].body,StOk s f x:=by
  have h1:=fns_none (chk_zero h).2 f hf
  rw [Nat.zero_add] at h1
  unfold fnE at h1
  simp only at h1
  split at h1
  · rename_i he
    have hz:=fst0_zero he
    refine ⟨?_,fun x hx=>st_ok hf (body_none h1 x hx)⟩
    have h2:=hz (unl (nest (s.funcs[f].body.map StZ.kind) && decide (deepZ s.funcs[f].body 0 0≤12) && onceZ s.funcs[f].body) 50) (by simp)
    have h3:=unl_zero (by decide) h2
    simp only [Bool.and_eq_true] at h3
    exact h3.1.1
  · cases h1
def badF (s:SoZ) (f:Nat):List StZ→List Nat→Nat→Option Nat
  | x :: l,lv :: ls,i=>if keepsZ s f x lv then badF s f l ls (i+1) else some i
  | _,_,_=>none
def flowsF (s:SoZ):List FnZ→Nat→Option (Nat × Nat)
  | [],_=>none
  | d :: l,f=>match badF s f d.body (levelsZ s f) 0 with
    | some i=>some (f,i)
    | none=>flowsF s l (f+1)
def flowZ (s:SoZ):Int × Int × Int:=if chkZ nstZ s=(0,0,0) then (match flowsF s s.funcs 0 with | none=>(0,0,0) | some p=>(80,p.1,p.2)) else chkZ nstZ s
theorem lvF_length (s:SoZ) (f:Nat):∀ (l:List StZ) (row:List Nat),(lvF s f l row).length=l.length
  | [],_=>rfl
  | x :: l,row=>by rw [lvF,List.length_cons,List.length_cons,lvF_length s f l _]
theorem levels_length {s:SoZ} (h:chkZ nstZ s=(0,0,0)) {f:Nat} (hf:f<s.funcs.length):(levelsZ s f).length=s.funcs[f].body.length:=by
  unfold levelsZ
  rw [List.getElem?_eq_getElem hf]
  simp only [(all_ok h hf).1,if_true]
  exact lvF_length _ _ _ _
end Go.Proofs.YtlpdjfimefjmcaaGreatDoor
namespace Go.Proofs.YtlpdjfimefjmcaaGreatDoor
open Go Go.RowKit Go.Proofs.Mm
theorem str_len (c:List Value) (d:ByteArray) (h:c=[Value.string d]):c.length=1:=str_lenZ c d h
theorem tm_len (c:List Value) (d:TmZ) (h:c=tmZ d):c.length=3:=tm_lenZ c d h
theorem ex_len {lt:Bool} {C:Cl} (c:List Value) (d:List TmZ) (h:ExR1 lt C c d):c.length=1:=ex_lenZ c d h
theorem st_len {lt:Bool} {C:Cl} (c:List Value) (d:StZ) (h:StR1 lt C c d):c.length=4:=st_lenZ c d h
theorem und_strs:Tryz.prog.underlying 22=some (.slice 9):=by kernel_rfl
theorem und_tms:Tryz.prog.underlying 97=some (.slice 140):=by kernel_rfl
theorem und_exs:Tryz.prog.underlying 45=some (.slice 97):=by kernel_rfl
theorem und_sts:Tryz.prog.underlying 41=some (.slice 47):=by kernel_rfl
theorem infoOf {P:Program} {t:TypeId} {z:Value} {size bytes:Nat} (h:(P.info? t).map (fun i=>(i.zero,i.size,i.bytes))=some (some z,size,bytes)):∃ i,P.info? t=some i∧i.zero=some z∧i.size=size∧i.bytes=bytes:=by
  cases hi:P.info? t with
  | none=>rw [hi] at h;cases h
  | some i =>
    rw [hi] at h
    simp only [Option.map_some,Option.some.injEq,Prod.mk.injEq] at h
    exact ⟨i,rfl,h.1,h.2.1,h.2.2⟩
theorem infoSr:∃ i,Tryz.prog.info? 9=some i∧i.zero=some (.string ⟨#[]⟩)∧i.size=1∧i.bytes=16:=infoOf (by kernel_rfl)
theorem infoTz:∃ i,Tryz.prog.info? 140=some i∧i.zero=some (.agg #[.int .i64 0,.int .i64 0,.string ⟨#[]⟩])∧i.size=3∧i.bytes=32:=infoOf (by kernel_rfl)
theorem infoEz:∃ i,Tryz.prog.info? 97=some i∧i.zero=some (.slice none 0 0)∧i.size=1∧i.bytes=24:=infoOf (by kernel_rfl)
theorem infoSz:∃ i,Tryz.prog.info? 47=some i∧i.zero=some (.agg #[.int .i64 0,.string ⟨#[]⟩,.slice none 0 0,.slice none 0 0])∧i.size=4∧i.bytes=72:=infoOf (by kernel_rfl)
theorem lent_done {α:Type} {w w':World} {m:Mem} {E:TypeId} {size bs n c:Nat} {q:Option Addr} {cs mk:List Value} {R:Mem→List Value→α→Prop} {l:List α} (hm:Has w' m) (hv:∀ k,(Value.slice q (n+1) c).ownBlock=some k→m k=none)
    (hrow:w'.ownsRow w.heap.size E size (.slice q (n+1) c) (n+1) (cs++mk)) (hl:l.length=n) (he:Enc (R m) cs l) (hR:∀ m m':Mem,m.le m'→∀ c x,R m c x→R m' c x) (hb:n * bs≤140737488351232) :
    ∃ m',m.More w m'∧Has w' m'∧SlX mk bs (mC m') (R m') (.slice q n c) l:=by
  have hcap:n+1≤c∧c≤maxLen∧q ≠ none:=by
    rcases hrow.2 with ⟨_,h0⟩ | ⟨g',cap',cur,h0,_,_,h1,h2,_⟩
    · omega
    · injection h0 with h3 _ h4
      subst h4
      exact ⟨h1,h2,by rw [h3];simp⟩
  obtain ⟨m',h1,h2,h3,h4⟩:=RowM.done hrow hm hv
  refine ⟨m',⟨h1,fun k hk hlt=>?_⟩,h3,q,c,cs,by rw [hl],.inr (by omega),RowM.rdO h4,he.mono (hR _ _ h1),by rw [hl];exact hb,hcap.2.1,fun h=>absurd h hcap.2.2,by omega⟩
  cases hx:m' k with
  | none=>rfl
  | some o =>
    rcases h2 k (by rw [hx];simp) with h | h
    · exact absurd hk h
    · have:=(hrow.lt k h).1
      omega
theorem has_grown {w w':World} {m:Mem} (h:Has w m) (hb:Below w.heap.size w w'):Has w' m:=fun k o e=>by
  have:=h k o e
  rw [hb.block k (heap_lt this)];exact this
theorem enc_cells {α:Type} {C:Cl} {R:List Value→α→Prop} {l:List α} {cs:List Value} {g o:Nat} (_h:Enc R cs l) (hr:∀ j u,cs[j]?=some u→C ⟨g,o+j,none⟩=some u):∀ j u,cs[j]?=some u→C ((⟨g,o,none⟩:Addr).add j)=some u:=by
  intro j u hu
  rw [show ((⟨g,o,none⟩:Addr).add j)=⟨g,o+j,none⟩ from by unfold Addr.add;split <;> simp_all]
  exact hr j u hu
theorem str_one {l:List ByteArray} {cs:List Value} (h:Enc (fun c s=>c=[Value.string s]) cs l):∀ u ∈ cs,u.oneCell'=true:=by
  induction l generalizing cs with
  | nil=>obtain rfl:cs=[]:=h;intro u hu;cases hu
  | cons x l ih =>
    obtain ⟨c,r,rfl,rfl,h2⟩:=h
    intro u hu
    rcases List.mem_append.1 hu with hu | hu
    · rw [List.mem_singleton.1 hu];rfl
    · exact ih h2 u hu
theorem tms_one {l:List TmZ} {cs:List Value} (h:Enc (fun c s=>c=tmZ s) cs l):∀ u ∈ cs,u.oneCell'=true:=by
  induction l generalizing cs with
  | nil=>obtain rfl:cs=[]:=h;intro u hu;cases hu
  | cons x l ih =>
    obtain ⟨c,r,rfl,rfl,h2⟩:=h
    intro u hu
    rcases List.mem_append.1 hu with hu | hu
    · simp only [tmZ,List.mem_cons,List.not_mem_nil,or_false] at hu
      rcases hu with rfl | rfl | rfl <;> rfl
    · exact ih h2 u hu
set_option maxRecDepth 100000 in
set_option maxHeartbeats 2000000 in
theorem lentStrings_any {w:World} {v:Value} {l:List ByteArray} (h:StrR false (wC w) v l) {m:Mem} (hm:Has w m) :
    Calls Tryz.prog 19 #[v] w fun e w'=>∃ v' m',e=.returned v'∧Below w.heap.size w w'∧m.More w m'∧Has w' m'∧StrR true (mC m') v' l:=by
  obtain ⟨q,c,cs,rfl,_,hr,he,hb,hmax,hqn,hlc⟩:=h
  obtain ⟨n,hn⟩:∃ n,l.length=n:=⟨_,rfl⟩
  obtain ⟨hcl,_⟩:=encZ_at str_len he
  have hon:=str_one he
  have HE:=Lib.hid he
  have HN:=Lib.hid hn
  have HM:=Lib.hid hm
  rw [hn] at hb hcl hlc ⊢
  clear he hn hm
  obtain ⟨i2,h2,h3,h4,h5⟩:=infoSr
  have hnil:=World.ownsRow_nil w w.heap.size 9 1
  have HF:=Lib.hid (show ∀ k,w.heap.size≤k→m k=none from fun k hk=>HM.out.lt hk)
  have hone:∀ u ∈ mkS true,u.oneCell'=true:=by intro u hu;simp only [mkS,if_true,List.mem_cons,List.not_mem_nil,or_false] at hu;(subst hu;rfl)
  rcases q with _ | ad
  · obtain rfl:c=0:=hqn rfl
    obtain rfl:n=0:=by omega
    have hc0:cs=[]:=List.eq_nil_of_length_eq_zero (by simpa using hcl)
    subst hc0
    have hR1:=hnil.alloc (.cells (mkS true).toArray 9)
    have hnew:=row_new w (mkS true) 9
    go_enter Tryz.func19,Tryz.ntmps19
    go_wp2_with (first | (at_builtin;refine wpList_append_own_none rfl _ _ 22 rfl w.heap.size 9 i2 1 und_strs h2 _ 0 [] rfl hnil rfl ?_) | (at_builtin;refine wpList_append_own _ rfl _ _ 22 rfl w.heap.size 9 i2 _ 1 16 und_strs h2 h3 h4 h5 rfl (by decide) _ 0 [] rfl hR1 ⟨w.heap.size,0,none⟩ 1 1 (mkS true) rfl rfl hnew hone (by unfold maxLen;omega) (by omega) (by simp) ?_))
    intro v2 w2 hR2 hg2 _
    obtain ⟨q2,c2,rfl⟩:=own_shape hR2
    have hB2:Below w.heap.size w w2:=grown_below ((Below.refl _ w).alloc (Nat.le_refl _) _) (by simp) hg2 (fun j hj=>(hR1.lt j hj).1)
    have HD:=Lib.hid (lent_done (w:=w) (bs:=16) (R:=fun _=>(fun c s=>c=[Value.string s])) (has_grown HM.out hB2) (fun k hk=>HF.out k (hR2.lt k hk).1) (by simpa using hR2) HN.out HE.out (fun _ _ _ _ _ h=>h) (by omega))
    have HB:=Lib.hid hB2
    have hcap:1≤c2:=by
      rcases hR2.2 with ⟨_,h0⟩ | ⟨g',cap',cur,h0,_,_,h1,_,_⟩
      · omega
      · injection h0 with _ _ h4
        omega
    clear hg2 hR1 hnil hB2 hR2
    go_wp2
    go_ret
    obtain ⟨m',d1,d2,d3⟩:=HD.out
    exact ⟨_,m',rfl,HB.out,d1,d2,d3⟩
  · have hcl2:∀ j u,cs[j]?=some u→w.cell? (ad.add j)=some u:=by
      rcases hr with hr | ⟨g,o,hq,hr⟩
      · have:=(List.append_eq_nil_iff.1 hr).1
        subst this
        intro j u hu
        simp at hu
      · injection hq with hq
        subst hq
        exact enc_cells HE.out (fun j u hu=>hr j u (by rw [List.getElem?_append_left ((List.getElem?_eq_some_iff.1 hu).1)];exact hu))
    clear hr
    go_enter Tryz.func19,Tryz.ntmps19
    go_wp2_with (at_builtin;refine wpList_append_own _ rfl _ _ 22 rfl w.heap.size 9 i2 _ 1 16 und_strs h2 h3 h4 h5 rfl (by decide) _ 0 [] rfl hnil ad n c cs rfl hcl hcl2 hon (by unfold maxLen;omega) (by omega) (Nat.le_refl _) ?_)
    intro v1 w1 hR1 hg1 _
    obtain ⟨q1,c1,rfl⟩:=own_shape hR1
    have hB1:Below w.heap.size w w1:=grown_below (Below.refl _ w) (Nat.le_refl _) hg1 (fun j hj=>by cases hj)
    have hw1:=hB1.size
    have hR1':=hR1.alloc (.cells (mkS true).toArray 9)
    have hnew:=row_new w1 (mkS true) 9
    try simp only [Nat.zero_add,List.nil_append] at hR1 hR1'
    clear hg1 hnil hcl2 hon hR1
    go_wp2_with (at_builtin;refine wpList_append_own _ rfl _ _ 22 rfl w.heap.size 9 i2 _ 1 16 und_strs h2 h3 h4 h5 rfl (by decide) _ n cs rfl hR1' ⟨w1.heap.size,0,none⟩ 1 1 (mkS true) rfl rfl hnew hone (by unfold maxLen;omega) (by omega) (by simp <;> omega) ?_)
    intro v2 w2 hR2 hg2 _
    obtain ⟨q2,c2,rfl⟩:=own_shape hR2
    have hB2:Below w.heap.size w w2:=grown_below (hB1.alloc hw1 _) (by simp;omega) hg2 (fun j hj=>(hR1'.lt j hj).1)
    have HD:=Lib.hid (lent_done (w:=w) (bs:=16) (R:=fun _=>(fun c s=>c=[Value.string s])) (has_grown HM.out hB2) (fun k hk=>HF.out k (hR2.lt k hk).1) hR2 HN.out HE.out (fun _ _ _ _ _ h=>h) (by omega))
    have HB:=Lib.hid hB2
    have hcap:n+1≤c2:=by
      rcases hR2.2 with ⟨_,h0⟩ | ⟨g',cap',cur,h0,_,_,h1,_,_⟩
      · omega
      · injection h0 with _ _ h4
        omega
    clear hg2 hR1' hB2 hR2 hB1
    go_wp2
    go_ret
    obtain ⟨m',d1,d2,d3⟩:=HD.out
    exact ⟨_,m',rfl,HB.out,d1,d2,d3⟩
set_option maxRecDepth 100000 in
set_option maxHeartbeats 2000000 in
theorem lentTerms_any {w:World} {v:Value} {l:List TmZ} (h:TmsR false (wC w) v l) {m:Mem} (hm:Has w m) :
    Calls Tryz.prog 46 #[v] w fun e w'=>∃ v' m',e=.returned v'∧Below w.heap.size w w'∧m.More w m'∧Has w' m'∧TmsR true (mC m') v' l:=by
  obtain ⟨q,c,cs,rfl,_,hr,he,hb,hmax,hqn,hlc⟩:=h
  obtain ⟨n,hn⟩:∃ n,l.length=n:=⟨_,rfl⟩
  obtain ⟨hcl,_⟩:=encZ_at tm_len he
  have hon:=tms_one he
  have HE:=Lib.hid he
  have HN:=Lib.hid hn
  have HM:=Lib.hid hm
  rw [hn] at hb hcl hlc ⊢
  clear he hn hm
  obtain ⟨i2,h2,h3,h4,h5⟩:=infoTz
  have hnil:=World.ownsRow_nil w w.heap.size 140 3
  have HF:=Lib.hid (show ∀ k,w.heap.size≤k→m k=none from fun k hk=>HM.out.lt hk)
  have hone:∀ u ∈ mkT true,u.oneCell'=true:=by intro u hu;simp only [mkT,if_true,List.mem_cons,List.not_mem_nil,or_false] at hu;(rcases hu with rfl | rfl | rfl <;> rfl)
  rcases q with _ | ad
  · obtain rfl:c=0:=hqn rfl
    obtain rfl:n=0:=by omega
    have hc0:cs=[]:=List.eq_nil_of_length_eq_zero (by simpa using hcl)
    subst hc0
    have hR1:=hnil.alloc (.cells (mkT true).toArray 140)
    have hnew:=row_new w (mkT true) 140
    go_enter Tryz.func46,Tryz.ntmps46
    go_wp2_with (first | (at_builtin;refine wpList_append_own_none rfl _ _ 97 rfl w.heap.size 140 i2 3 und_tms h2 _ 0 [] rfl hnil rfl ?_) | (at_builtin;refine wpList_append_own _ rfl _ _ 97 rfl w.heap.size 140 i2 _ 3 32 und_tms h2 h3 h4 h5 rfl (by decide) _ 0 [] rfl hR1 ⟨w.heap.size,0,none⟩ 1 1 (mkT true) rfl rfl hnew hone (by unfold maxLen;omega) (by omega) (by simp) ?_))
    intro v2 w2 hR2 hg2 _
    obtain ⟨q2,c2,rfl⟩:=own_shape hR2
    have hB2:Below w.heap.size w w2:=grown_below ((Below.refl _ w).alloc (Nat.le_refl _) _) (by simp) hg2 (fun j hj=>(hR1.lt j hj).1)
    have HD:=Lib.hid (lent_done (w:=w) (bs:=32) (R:=fun _=>(fun c s=>c=tmZ s)) (has_grown HM.out hB2) (fun k hk=>HF.out k (hR2.lt k hk).1) (by simpa using hR2) HN.out HE.out (fun _ _ _ _ _ h=>h) (by omega))
    have HB:=Lib.hid hB2
    have hcap:1≤c2:=by
      rcases hR2.2 with ⟨_,h0⟩ | ⟨g',cap',cur,h0,_,_,h1,_,_⟩
      · omega
      · injection h0 with _ _ h4
        omega
    clear hg2 hR1 hnil hB2 hR2
    go_wp2
    go_ret
    obtain ⟨m',d1,d2,d3⟩:=HD.out
    exact ⟨_,m',rfl,HB.out,d1,d2,d3⟩
  · have hcl2:∀ j u,cs[j]?=some u→w.cell? (ad.add j)=some u:=by
      rcases hr with hr | ⟨g,o,hq,hr⟩
      · have:=(List.append_eq_nil_iff.1 hr).1
        subst this
        intro j u hu
        simp at hu
      · injection hq with hq
        subst hq
        exact enc_cells HE.out (fun j u hu=>hr j u (by rw [List.getElem?_append_left ((List.getElem?_eq_some_iff.1 hu).1)];exact hu))
    clear hr
    go_enter Tryz.func46,Tryz.ntmps46
    go_wp2_with (at_builtin;refine wpList_append_own _ rfl _ _ 97 rfl w.heap.size 140 i2 _ 3 32 und_tms h2 h3 h4 h5 rfl (by decide) _ 0 [] rfl hnil ad n c cs rfl hcl hcl2 hon (by unfold maxLen;omega) (by omega) (Nat.le_refl _) ?_)
    intro v1 w1 hR1 hg1 _
    obtain ⟨q1,c1,rfl⟩:=own_shape hR1
    have hB1:Below w.heap.size w w1:=grown_below (Below.refl _ w) (Nat.le_refl _) hg1 (fun j hj=>by cases hj)
    have hw1:=hB1.size
    have hR1':=hR1.alloc (.cells (mkT true).toArray 140)
    have hnew:=row_new w1 (mkT true) 140
    try simp only [Nat.zero_add,List.nil_append] at hR1 hR1'
    clear hg1 hnil hcl2 hon hR1
    go_wp2_with (at_builtin;refine wpList_append_own _ rfl _ _ 97 rfl w.heap.size 140 i2 _ 3 32 und_tms h2 h3 h4 h5 rfl (by decide) _ n cs rfl hR1' ⟨w1.heap.size,0,none⟩ 1 1 (mkT true) rfl rfl hnew hone (by unfold maxLen;omega) (by omega) (by simp <;> omega) ?_)
    intro v2 w2 hR2 hg2 _
    obtain ⟨q2,c2,rfl⟩:=own_shape hR2
    have hB2:Below w.heap.size w w2:=grown_below (hB1.alloc hw1 _) (by simp;omega) hg2 (fun j hj=>(hR1'.lt j hj).1)
    have HD:=Lib.hid (lent_done (w:=w) (bs:=32) (R:=fun _=>(fun c s=>c=tmZ s)) (has_grown HM.out hB2) (fun k hk=>HF.out k (hR2.lt k hk).1) hR2 HN.out HE.out (fun _ _ _ _ _ h=>h) (by omega))
    have HB:=Lib.hid hB2
    have hcap:n+1≤c2:=by
      rcases hR2.2 with ⟨_,h0⟩ | ⟨g',cap',cur,h0,_,_,h1,_,_⟩
      · omega
      · injection h0 with _ _ h4
        omega
    clear hg2 hR1' hB2 hR2 hB1
    go_wp2
    go_ret
    obtain ⟨m',d1,d2,d3⟩:=HD.out
    exact ⟨_,m',rfl,HB.out,d1,d2,d3⟩
end Go.Proofs.YtlpdjfimefjmcaaGreatDoor
namespace Go.Proofs.YtlpdjfimefjmcaaGreatDoor
open Go Go.RowKit Go.Proofs.Mm
theorem und_des:Tryz.prog.underlying 23=some (.slice 37):=by kernel_rfl
theorem und_las:Tryz.prog.underlying 40=some (.slice 29):=by kernel_rfl
theorem infoDz:∃ i,Tryz.prog.info? 37=some i∧i.zero=some (.agg #[.string ⟨#[]⟩,.int .u64 0])∧i.size=2∧i.bytes=24:=infoOf (by kernel_rfl)
theorem infoLz:∃ i,Tryz.prog.info? 29=some i∧i.zero=some (.int .u64 0)∧i.size=1∧i.bytes=8:=infoOf (by kernel_rfl)
theorem one_De {l:List DeZ} {cs:List Value} (h:Enc (fun c s=>c=deZ s∧s.label<u64B) cs l):∀ u ∈ cs,u.oneCell'=true:=by
  induction l generalizing cs with
  | nil=>obtain rfl:cs=[]:=h;intro u hu;cases hu
  | cons x l ih =>
    obtain ⟨c,r,rfl,⟨rfl,_⟩,h2⟩:=h
    intro u hu
    rcases List.mem_append.1 hu with hu | hu
    · simp only [deZ,List.mem_cons,List.not_mem_nil,or_false] at hu
      rcases hu with rfl | rfl <;> rfl
    · exact ih h2 u hu
set_option maxRecDepth 100000 in
set_option maxHeartbeats 2000000 in
theorem lentDecls_any {w:World} {v:Value} {l:List DeZ} (h:DesR false (wC w) v l) {m:Mem} (hm:Has w m) :
    Calls Tryz.prog 20 #[v] w fun e w'=>∃ v' m',e=.returned v'∧Below w.heap.size w w'∧m.More w m'∧Has w' m'∧DesR true (mC m') v' l:=by
  obtain ⟨q,c,cs,rfl,_,hr,he,hb,hmax,hqn,hlc⟩:=h
  obtain ⟨n,hn⟩:∃ n,l.length=n:=⟨_,rfl⟩
  obtain ⟨hcl,_⟩:=encZ_at de_lenZ he
  have hon:=one_De he
  have HE:=Lib.hid he
  have HN:=Lib.hid hn
  have HM:=Lib.hid hm
  rw [hn] at hb hcl hlc ⊢
  clear he hn hm
  obtain ⟨i2,h2,h3,h4,h5⟩:=infoDz
  have hnil:=World.ownsRow_nil w w.heap.size 37 2
  have HF:=Lib.hid (show ∀ k,w.heap.size≤k→m k=none from fun k hk=>HM.out.lt hk)
  have hone:∀ u ∈ mkD true,u.oneCell'=true:=by intro u hu;simp only [mkD,if_true,List.mem_cons,List.not_mem_nil,or_false] at hu;(rcases hu with rfl | rfl <;> rfl)
  rcases q with _ | ad
  · obtain rfl:c=0:=hqn rfl
    obtain rfl:n=0:=by omega
    have hc0:cs=[]:=List.eq_nil_of_length_eq_zero (by simpa using hcl)
    subst hc0
    have hR1:=hnil.alloc (.cells (mkD true).toArray 37)
    have hnew:=row_new w (mkD true) 37
    go_enter Tryz.func20,Tryz.ntmps20
    go_wp2_with (first | (at_builtin;refine wpList_append_own_none rfl _ _ 23 rfl w.heap.size 37 i2 2 und_des h2 _ 0 [] rfl hnil rfl ?_) | (at_builtin;refine wpList_append_own _ rfl _ _ 23 rfl w.heap.size 37 i2 _ 2 24 und_des h2 h3 h4 h5 rfl (by decide) _ 0 [] rfl hR1 ⟨w.heap.size,0,none⟩ 1 1 (mkD true) rfl rfl hnew hone (by unfold maxLen;omega) (by omega) (by simp) ?_))
    intro v2 w2 hR2 hg2 _
    obtain ⟨q2,c2,rfl⟩:=own_shape hR2
    have hB2:Below w.heap.size w w2:=grown_below ((Below.refl _ w).alloc (Nat.le_refl _) _) (by simp) hg2 (fun j hj=>(hR1.lt j hj).1)
    have HD:=Lib.hid (lent_done (w:=w) (bs:=24) (R:=fun _=>(fun c s=>c=deZ s∧s.label<u64B)) (has_grown HM.out hB2) (fun k hk=>HF.out k (hR2.lt k hk).1) (by simpa using hR2) HN.out HE.out (fun _ _ _ _ _ h=>h) (by omega))
    have HB:=Lib.hid hB2
    have hcap:1≤c2:=by
      rcases hR2.2 with ⟨_,h0⟩ | ⟨g',cap',cur,h0,_,_,h1,_,_⟩
      · omega
      · injection h0 with _ _ h4
        omega
    clear hg2 hR1 hnil hB2 hR2
    go_wp2
    go_ret
    obtain ⟨m',d1,d2,d3⟩:=HD.out
    exact ⟨_,m',rfl,HB.out,d1,d2,d3⟩
  · have hcl2:∀ j u,cs[j]?=some u→w.cell? (ad.add j)=some u:=by
      rcases hr with hr | ⟨g,o,hq,hr⟩
      · have:=(List.append_eq_nil_iff.1 hr).1
        subst this
        intro j u hu
        simp at hu
      · injection hq with hq
        subst hq
        exact enc_cells HE.out (fun j u hu=>hr j u (by rw [List.getElem?_append_left ((List.getElem?_eq_some_iff.1 hu).1)];exact hu))
    clear hr
    go_enter Tryz.func20,Tryz.ntmps20
    go_wp2_with (at_builtin;refine wpList_append_own _ rfl _ _ 23 rfl w.heap.size 37 i2 _ 2 24 und_des h2 h3 h4 h5 rfl (by decide) _ 0 [] rfl hnil ad n c cs rfl hcl hcl2 hon (by unfold maxLen;omega) (by omega) (Nat.le_refl _) ?_)
    intro v1 w1 hR1 hg1 _
    obtain ⟨q1,c1,rfl⟩:=own_shape hR1
    have hB1:Below w.heap.size w w1:=grown_below (Below.refl _ w) (Nat.le_refl _) hg1 (fun j hj=>by cases hj)
    have hw1:=hB1.size
    have hR1':=hR1.alloc (.cells (mkD true).toArray 37)
    have hnew:=row_new w1 (mkD true) 37
    try simp only [Nat.zero_add,List.nil_append] at hR1 hR1'
    clear hg1 hnil hcl2 hon hR1
    go_wp2_with (at_builtin;refine wpList_append_own _ rfl _ _ 23 rfl w.heap.size 37 i2 _ 2 24 und_des h2 h3 h4 h5 rfl (by decide) _ n cs rfl hR1' ⟨w1.heap.size,0,none⟩ 1 1 (mkD true) rfl rfl hnew hone (by unfold maxLen;omega) (by omega) (by simp <;> omega) ?_)
    intro v2 w2 hR2 hg2 _
    obtain ⟨q2,c2,rfl⟩:=own_shape hR2
    have hB2:Below w.heap.size w w2:=grown_below (hB1.alloc hw1 _) (by simp;omega) hg2 (fun j hj=>(hR1'.lt j hj).1)
    have HD:=Lib.hid (lent_done (w:=w) (bs:=24) (R:=fun _=>(fun c s=>c=deZ s∧s.label<u64B)) (has_grown HM.out hB2) (fun k hk=>HF.out k (hR2.lt k hk).1) hR2 HN.out HE.out (fun _ _ _ _ _ h=>h) (by omega))
    have HB:=Lib.hid hB2
    have hcap:n+1≤c2:=by
      rcases hR2.2 with ⟨_,h0⟩ | ⟨g',cap',cur,h0,_,_,h1,_,_⟩
      · omega
      · injection h0 with _ _ h4
        omega
    clear hg2 hR1' hB2 hR2 hB1
    go_wp2
    go_ret
    obtain ⟨m',d1,d2,d3⟩:=HD.out
    exact ⟨_,m',rfl,HB.out,d1,d2,d3⟩
theorem one_La {l:List Nat} {cs:List Value} (h:Enc (fun c s=>c=laZ s∧s<u64B) cs l):∀ u ∈ cs,u.oneCell'=true:=by
  induction l generalizing cs with
  | nil=>obtain rfl:cs=[]:=h;intro u hu;cases hu
  | cons x l ih =>
    obtain ⟨c,r,rfl,⟨rfl,_⟩,h2⟩:=h
    intro u hu
    rcases List.mem_append.1 hu with hu | hu
    · simp only [laZ,List.mem_cons,List.not_mem_nil,or_false] at hu
      (subst hu;rfl)
    · exact ih h2 u hu
set_option maxRecDepth 100000 in
set_option maxHeartbeats 2000000 in
theorem lentLabels_any {w:World} {v:Value} {l:List Nat} (h:LasR false (wC w) v l) {m:Mem} (hm:Has w m) :
    Calls Tryz.prog 21 #[v] w fun e w'=>∃ v' m',e=.returned v'∧Below w.heap.size w w'∧m.More w m'∧Has w' m'∧LasR true (mC m') v' l:=by
  obtain ⟨q,c,cs,rfl,_,hr,he,hb,hmax,hqn,hlc⟩:=h
  obtain ⟨n,hn⟩:∃ n,l.length=n:=⟨_,rfl⟩
  obtain ⟨hcl,_⟩:=encZ_at la_lenZ he
  have hon:=one_La he
  have HE:=Lib.hid he
  have HN:=Lib.hid hn
  have HM:=Lib.hid hm
  rw [hn] at hb hcl hlc ⊢
  clear he hn hm
  obtain ⟨i2,h2,h3,h4,h5⟩:=infoLz
  have hnil:=World.ownsRow_nil w w.heap.size 29 1
  have HF:=Lib.hid (show ∀ k,w.heap.size≤k→m k=none from fun k hk=>HM.out.lt hk)
  have hone:∀ u ∈ mkL true,u.oneCell'=true:=by intro u hu;simp only [mkL,if_true,List.mem_cons,List.not_mem_nil,or_false] at hu;(subst hu;rfl)
  rcases q with _ | ad
  · obtain rfl:c=0:=hqn rfl
    obtain rfl:n=0:=by omega
    have hc0:cs=[]:=List.eq_nil_of_length_eq_zero (by simpa using hcl)
    subst hc0
    have hR1:=hnil.alloc (.cells (mkL true).toArray 29)
    have hnew:=row_new w (mkL true) 29
    go_enter Tryz.func21,Tryz.ntmps21
    go_wp2_with (first | (at_builtin;refine wpList_append_own_none rfl _ _ 40 rfl w.heap.size 29 i2 1 und_las h2 _ 0 [] rfl hnil rfl ?_) | (at_builtin;refine wpList_append_own _ rfl _ _ 40 rfl w.heap.size 29 i2 _ 1 8 und_las h2 h3 h4 h5 rfl (by decide) _ 0 [] rfl hR1 ⟨w.heap.size,0,none⟩ 1 1 (mkL true) rfl rfl hnew hone (by unfold maxLen;omega) (by omega) (by simp) ?_))
    intro v2 w2 hR2 hg2 _
    obtain ⟨q2,c2,rfl⟩:=own_shape hR2
    have hB2:Below w.heap.size w w2:=grown_below ((Below.refl _ w).alloc (Nat.le_refl _) _) (by simp) hg2 (fun j hj=>(hR1.lt j hj).1)
    have HD:=Lib.hid (lent_done (w:=w) (bs:=8) (R:=fun _=>(fun c s=>c=laZ s∧s<u64B)) (has_grown HM.out hB2) (fun k hk=>HF.out k (hR2.lt k hk).1) (by simpa using hR2) HN.out HE.out (fun _ _ _ _ _ h=>h) (by omega))
    have HB:=Lib.hid hB2
    have hcap:1≤c2:=by
      rcases hR2.2 with ⟨_,h0⟩ | ⟨g',cap',cur,h0,_,_,h1,_,_⟩
      · omega
      · injection h0 with _ _ h4
        omega
    clear hg2 hR1 hnil hB2 hR2
    go_wp2
    go_ret
    obtain ⟨m',d1,d2,d3⟩:=HD.out
    exact ⟨_,m',rfl,HB.out,d1,d2,d3⟩
  · have hcl2:∀ j u,cs[j]?=some u→w.cell? (ad.add j)=some u:=by
      rcases hr with hr | ⟨g,o,hq,hr⟩
      · have:=(List.append_eq_nil_iff.1 hr).1
        subst this
        intro j u hu
        simp at hu
      · injection hq with hq
        subst hq
        exact enc_cells HE.out (fun j u hu=>hr j u (by rw [List.getElem?_append_left ((List.getElem?_eq_some_iff.1 hu).1)];exact hu))
    clear hr
    go_enter Tryz.func21,Tryz.ntmps21
    go_wp2_with (at_builtin;refine wpList_append_own _ rfl _ _ 40 rfl w.heap.size 29 i2 _ 1 8 und_las h2 h3 h4 h5 rfl (by decide) _ 0 [] rfl hnil ad n c cs rfl hcl hcl2 hon (by unfold maxLen;omega) (by omega) (Nat.le_refl _) ?_)
    intro v1 w1 hR1 hg1 _
    obtain ⟨q1,c1,rfl⟩:=own_shape hR1
    have hB1:Below w.heap.size w w1:=grown_below (Below.refl _ w) (Nat.le_refl _) hg1 (fun j hj=>by cases hj)
    have hw1:=hB1.size
    have hR1':=hR1.alloc (.cells (mkL true).toArray 29)
    have hnew:=row_new w1 (mkL true) 29
    try simp only [Nat.zero_add,List.nil_append] at hR1 hR1'
    clear hg1 hnil hcl2 hon hR1
    go_wp2_with (at_builtin;refine wpList_append_own _ rfl _ _ 40 rfl w.heap.size 29 i2 _ 1 8 und_las h2 h3 h4 h5 rfl (by decide) _ n cs rfl hR1' ⟨w1.heap.size,0,none⟩ 1 1 (mkL true) rfl rfl hnew hone (by unfold maxLen;omega) (by omega) (by simp <;> omega) ?_)
    intro v2 w2 hR2 hg2 _
    obtain ⟨q2,c2,rfl⟩:=own_shape hR2
    have hB2:Below w.heap.size w w2:=grown_below (hB1.alloc hw1 _) (by simp;omega) hg2 (fun j hj=>(hR1'.lt j hj).1)
    have HD:=Lib.hid (lent_done (w:=w) (bs:=8) (R:=fun _=>(fun c s=>c=laZ s∧s<u64B)) (has_grown HM.out hB2) (fun k hk=>HF.out k (hR2.lt k hk).1) hR2 HN.out HE.out (fun _ _ _ _ _ h=>h) (by omega))
    have HB:=Lib.hid hB2
    have hcap:n+1≤c2:=by
      rcases hR2.2 with ⟨_,h0⟩ | ⟨g',cap',cur,h0,_,_,h1,_,_⟩
      · omega
      · injection h0 with _ _ h4
        omega
    clear hg2 hR1' hB2 hR2 hB1
    go_wp2
    go_ret
    obtain ⟨m',d1,d2,d3⟩:=HD.out
    exact ⟨_,m',rfl,HB.out,d1,d2,d3⟩
end Go.Proofs.YtlpdjfimefjmcaaGreatDoor
