/- Lists in memory that is handed out; the parser's list, over any item. Expressions with commas: the parser's exprs. exprs of the parser. The parser's small readers, way by way; what is handed out of an expression. -/
import Derived.Test.YtlpdjfimefjmcaaGreatDoorFlLevelsPR24
import Derived.Deep.RegionHeldLaw
import Derived.Deep.RegionLaw
namespace Go.Proofs.YtlpdjfimefjmcaaGreatDoor.Q
open Go Go.RowKit Go.Proofs.Mm
def Enc {α:Type} (R:List Value→α→Prop):List Value→List α→Prop
  | cs,[]=>cs=[]
  | cs,x :: xs=>∃ c r,cs=c++r∧R c x∧Enc R r xs
theorem Enc.app {α:Type} {R:List Value→α→Prop}:∀ {xs ys:List α} {cs ds:List Value},Enc R cs xs→Enc R ds ys→Enc R (cs++ds) (xs++ys)
  | [],ys,cs,ds,h,h'=>by
    obtain rfl:cs=[]:=h
    exact h'
  | x :: xs,ys,cs,ds,h,h'=>by
    obtain ⟨c,r,rfl,h1,h2⟩:=h
    exact ⟨c,r++ds,by rw [List.append_assoc],h1,h2.app h'⟩
theorem Enc.one {α:Type} {R:List Value→α→Prop} {c:List Value} {x:α} (h:R c x):Enc R c [x]:=⟨c,[],by simp,h,rfl⟩
theorem Enc.nil {α:Type} {R:List Value→α→Prop}:Enc R [] ([]:List α):=rfl
theorem Enc.mono {α:Type} {R R':List Value→α→Prop} (hR:∀ c x,R c x→R' c x):∀ {xs:List α} {cs:List Value},Enc R cs xs→Enc R' cs xs
  | [],_,h=>h
  | _ :: _,_,⟨c,r,e,h1,h2⟩=>⟨c,r,e,hR _ _ h1,h2.mono hR⟩
def TmM (m:Mem) (v:Value) (l:List Syn.Tm):Prop:=RowM m 140 3 v l.length (tmCells l)
def StrM (m:Mem) (v:Value) (l:List (List Nat)):Prop:=RowM m 9 1 v l.length (l.map fun s=>.string (sb s))
def ExM (m:Mem) (v:Value) (l:List (List Syn.Tm)):Prop:=∃ cs,RowM m 97 1 v l.length cs∧Enc (fun c x=>∃ u,c=[u]∧TmM m u x) cs l
def StM (m:Mem) (c:List Value) (s:Syn.St):Prop:=∃ vt ve,c=[.int .i64 (s.kind:Int),.string (sb s.name),vt,ve]∧StrM m vt s.targets∧ExM m ve s.exprs
theorem ExM.le {m m':Mem} {v:Value} {l:List (List Syn.Tm)} (h:ExM m v l) (hm:m.le m'):ExM m' v l:=by
  obtain ⟨cs,h1,h2⟩:=h
  exact ⟨cs,h1.le hm,h2.mono fun c x ⟨u,e,h⟩=>⟨u,e,RowM.le h hm⟩⟩
theorem StM.le {m m':Mem} {c:List Value} {s:Syn.St} (h:StM m c s) (hm:m.le m'):StM m' c s:=by
  obtain ⟨vt,ve,e,h1,h2⟩:=h
  exact ⟨vt,ve,e,RowM.le h1 hm,h2.le hm⟩
section
variable {α:Type}
def lsF (T:Nat→Option Syn.K) (r:Nat→Syn.R α) (fin:List Nat):Nat→List α→Nat→Syn.R (List α)
  | 0,_,i=>.error (99,i)
  | f+1,l,i=>(r i).on fun x i =>
      if Syn.is T i fin then .ok (l++[x],i+1) else if Syn.is T i [44] then lsF T r fin f (l++[x]) (i+1) else .error (50,i)
def ls (T:Nat→Option Syn.K) (F:Nat) (r:Nat→Syn.R α) (fin:List Nat) (i:Nat):Syn.R (List α):=if Syn.is T i fin then .ok ([],i+1) else lsF T r fin F [] i
theorem listF_ls (T:Nat→Option Syn.K) (e:Nat→Syn.R (List Syn.Tm)) (fin:List Nat):∀ (f:Nat) (l:List (List Syn.Tm)) (i:Nat),Syn.listF T e fin f l i=lsF T e fin f l i
  | 0,_,_=>rfl
  | f+1,l,i=>by
    rw [Syn.listF,lsF]
    cases e i with
    | error q=>rfl
    | ok q=>simp only [Syn.R.on,listF_ls T e fin f]
theorem rowF_ls (T:Nat→Option Syn.K) (p:Nat→Syn.R α):∀ (f:Nat) (l:List α) (i:Nat),Syn.rowF T p f l i=lsF T p [41] f l i
  | 0,_,_=>rfl
  | f+1,l,i=>by
    rw [Syn.rowF,lsF]
    cases p i with
    | error q=>rfl
    | ok q=>simp only [Syn.R.on,rowF_ls T p f]
theorem lsF_fit {T:Nat→Option Syn.K} {n:Nat} (hN:∀ i,n≤i→T i=none) {r:Nat→Syn.R α} (hr:Syn.FitP n r) (fin:List Nat):∀ (f:Nat) (l:List α) (i:Nat),i≤n→n<f+i→Syn.Fit n (lsF T r fin f l i)
  | 0,_,_,h,hf=>by omega
  | f+1,l,i,h,hf=>by
    rw [lsF]
    exact (hr i h).1.on fun x j hx hj=>Syn.Fit.sw (fun hc=>Syn.Fit.ok _ (Syn.is_lt hN hc)) fun _=>Syn.Fit.sw (fun hc=>lsF_fit hN hr fin f _ _ (Syn.is_lt hN hc) (by have:=(hr i h).2 _ _ hx;omega)) fun _=>Syn.Fit.err hj
def tailF (T:Nat→Option Syn.K) (r:Nat→Syn.R α) (fin:List Nat) (f:Nat) (l:List α) (j:Nat):Syn.R (List α) :=
  if Syn.is T j fin then .ok (l,j+1) else if Syn.is T j [44] then lsF T r fin f l (j+1) else .error (50,j)
theorem lsF_tail (T:Nat→Option Syn.K) (r:Nat→Syn.R α) (fin:List Nat) (f:Nat) (l:List α) (i:Nat):lsF T r fin (f+1) l i=(r i).on fun x j=>tailF T r fin f (l++[x]) j:=rfl
def posW (bp:Nat) (W:World):Nat:=match W.cell? ⟨bp,0,none⟩ with | some v=>sLen v | none=>0
theorem PS.pos {ys:List It} {len bp bw i:Nat} {vp:Value} {w:World} (h:PS ys len bp bw vp w i):posW bp w=ys.length+1 - i:=by
  obtain ⟨c,h0,_⟩:=h.raw
  unfold posW;rw [h0];rfl
def SB (bp B:Nat):Nat→Prop:=fun k=>k=bp ∨ B≤k
def ItOk (ys:List It) (len bp bw B:Nat) (vp:Value) (K:Nat) (caps:Array Value) (J:List α→World→Prop) (r:Nat→Syn.R α):Prop :=
  ∀ W i acc,J acc W→PS ys len bp bw vp W i→B≤W.heap.size→acc.length+(ys.length - i)≤131072→Calls Tryz.prog K caps W (Ret ys len (SB bp B) W (r i) fun x j e W'=>(e=.returned (.tuple #[])∧J (acc++[x]) W')∧PS ys len bp bw vp W' j)
end
theorem mk_44:Mk (bl ⟨#[44]⟩)=true:=by decide
theorem sb_of {bp B:Nat} {a b:World} (h:Chg (fun k=>k=bp) a b):Chg (SB bp B) a b:=h.mono fun _ e=>.inl (.inl e)
section
variable {ys:List It} {len bp bw i:Nat} {vp:Value} {w:World} {α:Type}
theorem skip_at (hw:Ws ys) (h:PS ys len bp bw vp w i) (s:ByteArray) (hs:Mk (bl s)=true) :
    Calls Tryz.prog 115 #[.pointer (some ⟨bp,0,none⟩),.string s] w fun e w'=>∃ t,e=.returned (.bool t)∧t=Syn.is (Tk ys) i (bl s)∧Chg (fun k=>k=bp) w w'∧PS ys len bp bw vp w' (if Syn.is (Tk ys) i (bl s)=true then i+1 else i):=by
  cases hx:Syn.is (Tk ys) i (bl s) with
  | true =>
    refine (skip_yes h (lt_of_is hx) s (by rw [eq_text,is_text hw len i hs];exact hx)).mono ?_
    rintro e w' ⟨rfl,hc,hp⟩
    exact ⟨true,rfl,rfl,hc,hp⟩
  | false =>
    refine (skip_no h s (by rw [eq_text,is_text hw len i hs];exact hx)).mono ?_
    rintro e w' ⟨rfl,rfl⟩
    exact ⟨false,rfl,rfl,Chg.refl _ _,h⟩
theorem is_uniq {T:Nat→Option Syn.K} {j:Nat} {s t:List Nat} (h:Syn.is T j s=true) (h':Syn.is T j t=true):s=t:=by
  unfold Syn.is at h h'
  cases hT:T j with
  | none=>rw [hT] at h;cases h
  | some k =>
    rw [hT] at h h'
    simp only [Bool.and_eq_true,beq_iff_eq] at h h'
    exact h.2.symm.trans h'.2
set_option maxRecDepth 100000 in
set_option maxHeartbeats 1000000 in
theorem list_any (hw:Ws ys) (h:PS ys len bp bw vp w i) {B:Nat} (hB:B≤w.heap.size) (_hbw:bw<B) (_hbp:bp<B) (s:ByteArray) (hs:Mk (bl s)=true) (hs44:bl s ≠ [44]) {K:Nat} {caps:Array Value} (eg:∀ args w,(callFunc K args).run Tryz.prog w=.ok (.enter K args) w) {J:List α→World→Prop} {r:Nat→Syn.R α} (hfit:Syn.FitP ys.length r)
    (hJ:∀ l W i W',J l W→PS ys len bp bw vp W i→Chg (fun k=>k=bp) W W'→J l W') (hit:ItOk ys len bp bw B vp K caps J r) (h0:J [] w) :
    Calls Tryz.prog 147 #[.pointer (some ⟨bp,0,none⟩),.string s,.func (.func K) #[] caps] w (Ret ys len (SB bp B) w (ls (Tk ys) (ys.length+1) r (bl s) i) fun l j e w'=>(e=.returned (.tuple #[])∧J l w')∧PS ys len bp bw vp w' j):=by
  have hsk:=skip_at hw h s hs
  have HPS:=Lib.hid h
  unfold ls
  cases hx:Syn.is (Tk ys) i (bl s) with
  | true =>
    rw [hx] at hsk
    clear hx
    go_enter Tryz.func147,Tryz.ntmps147
    go_wp2_with (go_at_call 115;refine hsk.mono ?_;rintro e w1 ⟨t,rfl,rfl,hc,hp⟩)
    refine bodyPost_ret (results_none rfl _ _ _) rfl ?_
    exact ⟨sb_of hc,⟨rfl,hJ _ _ _ _ h0 HPS.out hc⟩,hp⟩
  | false =>
    rw [hx] at hsk
    rw [if_neg (by simp)]
    have hf0:=h.few
    have hle:=h.le
    obtain ⟨RR,hRR⟩:∃ RR,lsF (Tk ys) r (bl s) (ys.length+1) [] i=RR:=⟨_,rfl⟩
    have hlf:=lsF_fit (tk_nones ys) hfit (bl s) (ys.length+1) [] i h.le (by omega)
    rw [hRR] at hlf ⊢
    rw [lsF_tail] at hRR
    have HRR:=Lib.hid hRR
    have HLF:=Lib.hid hlf
    have HIT:=Lib.hid hit
    have HJ:=Lib.hid hJ
    have HFIT:=Lib.hid hfit
    clear hx hRR hlf hit hJ hfit
    go_enter Tryz.func147,Tryz.ntmps147
    go_wp2_with (go_at_call 115;refine hsk.mono ?_;rintro e w1 ⟨t,rfl,rfl,hc,hp⟩)
    have hcall:=HIT.out w1 i [] (HJ.out _ _ _ _ h0 HPS.out hc) hp (Nat.le_trans hB hc.size) (by simp;omega)
    have HC1:=Lib.hid (sb_of (B:=B) hc)
    clear hc hsk
    cases hri:r i with
    | error q =>
      obtain ⟨er,k⟩:=q
      rw [hri] at hcall
      have HRe:=Lib.hid (show RR=.error (er,k) from by rw [← HRR.out,hri];rfl)
      clear hri
      refine hcall.mono ?_
      rintro e w2 ⟨hc2,rfl⟩
      refine ⟨rfl,?_⟩
      rw [HRe.out]
      exact ⟨HC1.out.then hc2,rfl⟩
    | ok q =>
      obtain ⟨x1,j1⟩:=q
      rw [hri] at hcall
      have HT:=Lib.hid (show tailF (Tk ys) r (bl s) ys.length [x1] j1=RR from by rw [← HRR.out,hri];rfl)
      have HX:=Lib.hid ((HFIT.out i hle).2 _ _ hri)
      clear hri
      refine hcall.mono ?_
      rintro e w2 ⟨hc2,⟨rfl,hJ2⟩,hp2⟩
      have HC2:=Lib.hid (HC1.out.then hc2)
      have HJ2:=Lib.hid hJ2
      have HP2:=Lib.hid hp2
      clear hc2 hJ2 hp2 hcall
      go_wp2_with fail
      go_loopw [12] (fun _ wr=>∃ f l j,Hid (tailF (Tk ys) r (bl s) f l j=RR)∧Hid (J l wr)∧Hid (PS ys len bp bw vp wr j)∧Hid (Chg (SB bp B) w wr)∧Hid (l.length+(ys.length - j)≤131072))
        (fun _ wr=>posW bp wr)
      case atStart=>exact ⟨ys.length,[x1],j1,HT,HJ2,HP2,HC2,Lib.hid (by simp;omega)⟩
      case round =>
        obtain ⟨f,l,j,HTr,HJr,HPr,HCr,HLr⟩:=hrel
        clear h0 hp
        have hsk2:=skip_at hw HPr.out ⟨#[44]⟩ mk_44
        rw [show bl ⟨#[44]⟩=[44] from rfl] at hsk2
        cases hx:Syn.is (Tk ys) j [44] with
        | true =>
          rw [hx] at hsk2
          have hfin:Syn.is (Tk ys) j (bl s)=false:=by
            cases hf:Syn.is (Tk ys) j (bl s) with
            | false=>rfl
            | true=>exact (hs44 (is_uniq hf hx)).elim
          have hlt:=lt_of_is hx
          have hgo:lsF (Tk ys) r (bl s) f l (j+1)=RR:=by
            have:=HTr.out
            unfold tailF at this
            rw [hfin,if_neg (by simp),hx,if_pos rfl] at this
            exact this
          cases f with
          | zero=>exact (HLF.out.no99 (j:=j+1) (by rw [← hgo];rfl)).elim
          | succ f =>
            rw [lsF_tail] at hgo
            have HGO:=Lib.hid hgo
            clear hx hfin hgo
            go_wp2_with (go_at_call 115;refine hsk2.mono ?_;rintro e w3 ⟨t3,rfl,rfl,hc3,hp3⟩)
            have hl3:=HLr.out
            have hcall:=HIT.out w3 (j+1) l (HJ.out _ _ _ _ HJr.out HPr.out hc3) hp3 (Nat.le_trans hB (Nat.le_trans HCr.out.size hc3.size)) (by omega)
            have HC3:=Lib.hid (HCr.out.then (sb_of (B:=B) hc3))
            clear hc3 hp3 hsk2 hl3
            cases hri:r (j+1) with
            | error q =>
              obtain ⟨er,k⟩:=q
              rw [hri] at hcall
              have HRe:=Lib.hid (show RR=.error (er,k) from by rw [← HGO.out,hri];rfl)
              clear hri
              refine hcall.mono ?_
              rintro e w4 ⟨hc4,rfl⟩
              refine ⟨rfl,?_⟩
              rw [HRe.out]
              exact ⟨HC3.out.then hc4,rfl⟩
            | ok q =>
              obtain ⟨x4,j4⟩:=q
              rw [hri] at hcall
              have HT4:=Lib.hid (show tailF (Tk ys) r (bl s) f (l++[x4]) j4=RR from by rw [← HGO.out,hri];rfl)
              have hj4:=(HFIT.out (j+1) hlt).2 _ _ hri
              have hj5:=(HFIT.out (j+1) hlt).1.pos hri
              have HL4:=Lib.hid (show (l++[x4]).length+(ys.length - j4)≤131072 from by
                have:=HLr.out
                rw [List.length_append,List.length_singleton];omega)
              clear hri
              refine hcall.mono ?_
              rintro e w4 ⟨hc4,⟨rfl,hJ4⟩,hp4⟩
              have HC4:=Lib.hid (HC3.out.then hc4)
              have HJ4:=Lib.hid hJ4
              have HP4:=Lib.hid hp4
              have hpos4:=hp4.pos
              have hpos:=HPr.out.pos
              clear hc4 hJ4 hp4 hcall
              go_wp2_with fail
              refine ⟨⟨f,l++[x4],j4,HT4,HJ4,HP4,HC4,HL4⟩,?_⟩
              rw [hpos4,hpos];omega
        | false =>
          rw [hx] at hsk2
          cases hfin:Syn.is (Tk ys) j (bl s) with
          | true =>
            have HRe:=Lib.hid (show RR=.ok (l,j+1) from by
              have:=HTr.out
              unfold tailF at this
              rw [hfin,if_pos rfl] at this
              exact this.symm)
            have HW:=Lib.hid (fun w3 (hp3:PS ys len bp bw vp w3 j)=>want_yes hp3 (lt_of_is hfin) s (by rw [eq_text,is_text hw len j hs];exact hfin))
            clear hx hfin
            go_wp2_with (go_at_call 115;refine hsk2.mono ?_;rintro e w3 ⟨t3,rfl,rfl,hc3,hp3⟩)
            go_at_call 143
            refine (HW.out w3 hp3).mono ?_
            rintro e w4 ⟨rfl,hc4,hp4⟩
            go_wp2_with fail
            go_end0
            rw [HRe.out]
            exact ⟨(HCr.out.then (sb_of hc3)).then (sb_of hc4),⟨rfl,HJ.out _ _ _ _ (HJ.out _ _ _ _ HJr.out HPr.out hc3) hp3 hc4⟩,hp4⟩
          | false =>
            have HRe:=Lib.hid (show RR=.error (50,j) from by
              have:=HTr.out
              unfold tailF at this
              rw [hfin,if_neg (by simp),hx,if_neg (by simp)] at this
              exact this.symm)
            have HW:=Lib.hid (fun w3 (hp3:PS ys len bp bw vp w3 j)=>want_no hp3 s (by rw [eq_text,is_text hw len j hs];exact hfin) (SB bp B))
            clear hx hfin
            go_wp2_with (go_at_call 115;refine hsk2.mono ?_;rintro e w3 ⟨t3,rfl,rfl,hc3,hp3⟩)
            go_at_call 143
            refine (HW.out w3 hp3).mono ?_
            rintro e w4 ⟨rfl,hc4⟩
            refine ⟨rfl,?_⟩
            rw [HRe.out]
            exact ⟨(HCr.out.then (sb_of hc3)).then hc4,rfl⟩
end
end Go.Proofs.YtlpdjfimefjmcaaGreatDoor.Q
namespace Go
theorem step_append_mine {P:Program} {ops:Array Oper} {o:Oper} {a:Act} {w:World} {K:Act→World→Prop} {Q:Exit→Act→World→Prop} {E:Prop}
    (hg:o.guard=none) (s x:Operand) (t:TypeId) (hop:o.op=Op.call { callee:=Callee.builtin Builtin.append,args:=#[s,x],argTypes:=#[t,t] })
    (base:Nat) (e:TypeId) (i:TypeInfo) (z:Value) (size bytes:Nat) (ht:P.underlying t=some (.slice e)) (hi:P.info? e=some i) (hz:i.zero=some z)
    (hsize:i.size=size) (hby:i.bytes=bytes) (hzs:z.cells.size=size) (hsz:0<size)
    (v:Value) (n:Nat) (xs:List Value) (hs:a.eval s=v) (hown:w.ownsRow base e size v n xs)
    (ad:Addr) (m c:Nat) (news:List Value) (hx:a.eval x=.slice (some ad) m c) (hl:news.length=m * size) (hnews:∀ j u,news[j]?=some u→w.cell? (ad.add j)=some u) (h1:∀ u ∈ news,u.oneCell'=true)
    (h63:n+m≤maxLen) (hbytes:(n+m) * bytes≤140737488355328) (hbase:base≤w.heap.size)
    (hK:∀ v' w',w'.ownsRow base e size v' (n+m) (xs++news)→w.grownBy w' v.ownBlock→(v'.ownBlock=v.ownBlock ∨ v'.ownBlock=some w.heap.size)→K (a.put o.dst v') w') :
    if Region.wanted o (yielded ops a.tmps)=true then Oper.wp P o a w K Q else E:=by
  have hw:Region.wanted o (yielded ops a.tmps)=true:=by simp [Region.wanted,hg]
  rw [if_pos hw]
  obtain ⟨v',w',hr,h2,h3,_,h5⟩:=run_append_own_at (P:=P) w base t o.type e i z size bytes ht hi hz hsize hby hzs hsz v n xs hown ad m c news hl hnews h1 h63 hbytes hbase
  unfold Oper.wp
  simp only [hop,execOp,resolve,invoke,builtin,Sem.run_bind,Sem.run_pure,Result.andThen_ok,List.map_toArray,List.map_cons,List.map_nil,hs,hx,hr]
  exact hK v' w' h2 h3 h5
end Go
namespace Go.Proofs.YtlpdjfimefjmcaaGreatDoor.Q
open Go Go.RowKit Go.Proofs.Mm
theorem infoTms:∃ i,Tryz.prog.info? 97=some i∧i.zero=some (.slice none 0 0)∧i.size=1∧i.bytes=24:=by
  have h:(Tryz.prog.info? 97).map (fun i=>(i.zero,i.size,i.bytes))=some (some (.slice none 0 0),1,24):=by kernel_rfl
  cases hi:Tryz.prog.info? 97 with
  | none=>rw [hi] at h;cases h
  | some i =>
    rw [hi] at h
    simp only [Option.map_some,Option.some.injEq,Prod.mk.injEq] at h
    obtain ⟨e1,e2,e3⟩:=h
    exact ⟨i,rfl,e1,e2,e3⟩
def TmR (m:Mem) (c:List Value) (x:List Syn.Tm):Prop:=∃ u,c=[u]∧TmM m u x
theorem TmR.le {m m':Mem} (hm:m.le m'):∀ c x,TmR m c x→TmR m' c x:=fun _ _ ⟨u,e,h⟩=>⟨u,e,RowM.le h hm⟩
theorem one_slice (q:Option Addr) (n c:Nat):∀ u ∈ [Value.slice q n c],u.oneCell'=true:=by
  intro u hu
  rw [List.mem_singleton] at hu
  subst hu;rfl
def EJ (m0:Mem) (w0:World) (ba b1 bp B:Nat) (acc:List (List Syn.Tm)) (W:World):Prop :=
  ∃ q c cs m',W.heap[ba]?=some (.cells #[.slice q acc.length c] 45 (0,0))∧W.heap[b1]?=some (.cells #[.pointer (some ⟨bp,0,none⟩)] 119 (0,0)) ∧
    W.ownsRow B 97 1 (.slice q acc.length c) acc.length cs∧Enc (TmR m') cs acc∧Has W m'∧m0.More w0 m'∧m' ba=none∧m' b1=none∧m' bp=none∧(∀ k,Value.ownBlock (.slice q acc.length c)=some k→m' k=none)∧w0.heap.size≤W.heap.size
section
variable {ys:List It} {len bp bw i:Nat} {vp:Value} {w:World}
theorem exprs1_end {m0 m':Mem} {w0 W w1 w9:World} {ba b1 B j c c1 c9:Nat} {q q1 q9:Option Addr} {acc:List (List Syn.Tm)} {x:List Syn.Tm} {cs:List Value} (hB:B≤ba) (hba1:ba ≠ b1) (_hBW:B≤W.heap.size) (hnba:¬ ba=bp) (hnb1:¬ b1=bp) (hbp:bp<B)
    (h1:W.heap[ba]?=some (.cells #[.slice q acc.length c] 45 (0,0))) (h3:W.ownsRow B 97 1 (.slice q acc.length c) acc.length cs) (h4:Enc (TmR m') cs acc) (h5:Has W m') (h6:m0.More w0 m') (h7:m' ba=none) (h8:m' b1=none) (h9:m' bp=none) (h10:∀ k,Value.ownBlock (.slice q acc.length c)=some k→m' k=none) (h11:w0.heap.size≤W.heap.size)
    (hcc:Chg (fun k=>k=bp) W w1) (a1:TR w1 (.slice q1 x.length c1) x) (a2:PS ys len bp bw vp w1 j) (a3:∀ k,Value.ownBlock (.slice q1 x.length c1)=some k→W.heap.size≤k)
    (hown9:w9.ownsRow B 97 1 (.slice q9 (acc.length+1) c9) (acc.length+1) (cs++[.slice q1 x.length c1])) (hgrow9:(w1.alloc (.cells #[.slice q1 x.length c1] 97)).grownBy w9 (Value.ownBlock (.slice q acc.length c))) (hat9:Value.ownBlock (.slice q9 (acc.length+1) c9)=Value.ownBlock (.slice q acc.length c) ∨ Value.ownBlock (.slice q9 (acc.length+1) c9)=some (w1.heap.size+1))
    (g1:w9.heap[ba]?=some (.cells #[.slice q acc.length c] 45 (0,0))) (g2:w9.heap[b1]?=some (.cells #[.pointer (some ⟨bp,0,none⟩)] 119 (0,0))) :
    Chg (SB bp B) W (w9.setCell ⟨ba,0,none⟩ (.slice q9 (acc.length+1) c9))∧EJ m0 w0 ba b1 bp B (acc++[x]) (w9.setCell ⟨ba,0,none⟩ (.slice q9 (acc.length+1) c9))∧PS ys len bp bw vp (w9.setCell ⟨ba,0,none⟩ (.slice q9 (acc.length+1) c9)) j:=by
  have hs1:=hcc.size
  have hC9:Chg (fun k=>k=bp ∨ Value.ownBlock (.slice q acc.length c)=some k) W w9:=((hcc.alloc _).mono (fun k e=>.inl (.inl e))).then (grown_chg hgrow9 (fun k e=>.inl (.inr e)))
  have hC:Chg (fun k=>k=bp ∨ Value.ownBlock (.slice q acc.length c)=some k ∨ k=ba) W (w9.setCell ⟨ba,0,none⟩ (.slice q9 (acc.length+1) c9)):=(hC9.mono (fun k e=>.inl (by rcases e with e | e <;> simp [e]))).setCell (p:=⟨ba,0,none⟩) (.inl (.inr (.inr rfl))) _
  have hS:∀ k,(k=bp ∨ Value.ownBlock (.slice q acc.length c)=some k ∨ k=ba)→m' k=none:=by
    rintro k (rfl | e | rfl)
    · exact h9
    · exact h10 k e
    · exact h7
  have h5':Has w1 m':=h5.chg hcc (fun k e=>by subst e;exact h9)
  obtain ⟨m2,d1,d2,d3,d4⟩:=RowM.done a1 h5' (fun k hk=>h5.lt (a3 k hk))
  have hm2:∀ k,k<W.heap.size→m' k=none→m2 k=none:=fun k hk e=>by
    cases e2:m2 k with
    | none=>rfl
    | some o =>
      rcases d2 k (by rw [e2];simp) with e3 | e3
      · exact (e3 e).elim
      · have:=a3 k e3;omega
  have hqlt:∀ k,Value.ownBlock (.slice q acc.length c)=some k→k<W.heap.size:=fun k hk=>(h3.lt k hk).2
  have hbal:=heap_lt h1
  have hCw:Chg (fun k=>Value.ownBlock (.slice q acc.length c)=some k ∨ k=ba) w1 (w9.setCell ⟨ba,0,none⟩ (.slice q9 (acc.length+1) c9)) :=
    ((((Chg.refl _ w1).alloc _).then (grown_chg hgrow9 (fun k e=>.inl (.inl e)))).setCell (p:=⟨ba,0,none⟩) (.inl (.inr rfl)) _)
  have hH:Has (w9.setCell ⟨ba,0,none⟩ (.slice q9 (acc.length+1) c9)) m2:=d3.chg hCw (fun k e=>by
    rcases e with e | rfl
    · exact hm2 k (hqlt k e) (h10 k e)
    · exact hm2 _ hbal h7)
  have hb1w:b1<W.heap.size ∨ m2 b1=none:=by
    rcases Nat.lt_or_ge b1 W.heap.size with e | e
    · exact .inl e
    · right
      cases e2:m2 b1 with
      | none=>rfl
      | some o =>
        have hx:=d3 b1 o e2
        rcases d2 b1 (by rw [e2];simp) with e3 | e3
        · exact (e3 h8).elim
        · obtain ⟨cur,hcu⟩:=own_type a1 e3
          have:=hC9.size
          have h9':=((Chg.refl (fun k=>Value.ownBlock (.slice q acc.length c)=some k) w1).alloc (.cells #[.slice q1 x.length c1] 97)).then (grown_chg hgrow9 (fun k e=>.inl e))
          have:=h9'.heap hcu (fun e4=>by have:=hqlt _ e4;omega)
          rw [g2] at this;simp at this
  refine ⟨hC.mono (fun k e=>?_),⟨q9,c9,cs++[.slice q1 x.length c1],m2,?_,heap_other g2 (fun e=>hba1 e.symm),?_,(h4.mono (TmR.le d1)).app (Enc.one (show TmR m2 [.slice q1 x.length c1] x from ⟨_,rfl,d4⟩)),hH,⟨h6.le.trans d1,fun k e hk=>hm2 k (by omega) (h6.new k e hk)⟩,hm2 _ hbal h7,?_,hm2 _ (by omega) h9,?_,?_⟩,?_⟩
  · rcases e with rfl | e | rfl
    · exact .inl (.inl rfl)
    · exact .inl (.inr (h3.lt k e).1)
    · exact .inl (.inr hB)
  · rw [List.length_append,List.length_singleton];exact heap_set g1 0 _
  · rw [List.length_append,List.length_singleton]
    exact own_chg hown9 ((Chg.refl (fun k=>k=ba) w9).setCell (p:=⟨ba,0,none⟩) (.inl rfl) _) (fun k hk e=>by
      subst e
      obtain ⟨cur,hcu⟩:=own_type hown9 hk
      rw [g1] at hcu;simp at hcu)
  · rcases hb1w with e | e
    · exact hm2 _ e h8
    · exact e
  · rw [List.length_append,List.length_singleton]
    intro k hk
    rcases hat9 with e | e
    · rw [e] at hk;exact hm2 k (hqlt k hk) (h10 k hk)
    · rw [e] at hk
      obtain rfl:w1.heap.size+1=k:=by simpa using hk
      exact d3.lt (by omega)
  · have:=hC.size;omega
  · refine a2.chg hCw (fun e=>?_) (fun e=>?_)
    · rcases e with e | e
      · have:=(h3.lt _ e).1;omega
      · exact hnba e.symm
    · rcases e with e | e
      · obtain ⟨arr,b2,_⟩:=a2.toks
        obtain ⟨cur,hcu⟩:=own_type h3 e
        have h9':=hcc.heap hcu (fun e5=>by have:=(h3.lt _ e).1;omega)
        rw [b2] at h9';simp at h9'
      · obtain ⟨arr,b2,_⟩:=a2.toks
        have h9':=hcc.heap h1 hnba
        rw [← e,b2] at h9';simp at h9'
set_option maxRecDepth 100000 in
set_option maxHeartbeats 1000000 in
theorem exprs1_any (hw:Ws ys) {m0:Mem} {w0:World} {ba b1 B:Nat} (hB:B≤ba) (hbp:bp<B) (hba1:ba ≠ b1) :
    ItOk ys len bp bw B vp 174 #[.pointer (some ⟨ba,0,none⟩),.pointer (some ⟨b1,0,none⟩)] (EJ m0 w0 ba b1 bp B) (Syn.expr (Tk ys) (ys.length+1)):=by
  intro W i acc hJ hp hBW hb
  obtain ⟨q,c,cs,m',h1,h2,h3,h4,h5,h6,h7,h8,h9,h10,h11⟩:=hJ
  obtain ⟨j0,hj0,hy0,hy1,hy2⟩:=infoTms
  have hc1:=cell_of (j:=0) h1 rfl
  have hf1:=free_of (j:=0) h1
  have hc2:=cell_of (j:=0) h2 rfl
  have hlt1:=heap_lt h1
  have hlt2:=heap_lt h2
  have hpd:PS ys len bp bw vp W.drew i:=hp.chg (S:=fun _=>False) (Chg.refl _ _).drew id id
  have hmx:Tryz.prog.follows .mixedOrders=true:=by kernel_rfl
  have hnba:¬ ba=bp:=by omega
  have hnb1:¬ b1=bp:=fun e=>by
    subst e
    obtain ⟨⟨c',a1,_⟩,_⟩:=hp
    rw [h2] at a1;simp at a1
  have HE:=Lib.hid (expr_any hw hpd)
  cases hri:Syn.expr (Tk ys) (ys.length+1) i with
  | error q0 =>
    obtain ⟨er,k⟩:=q0
    have HRI:=Lib.hid hri
    clear hri
    have hS0:W.drew.cell? ⟨ba,0,none⟩=some (.slice q acc.length c)∧W.drew.cell? ⟨b1,0,none⟩=some (.pointer (some ⟨bp,0,none⟩)):=⟨hc1,hc2⟩
    go_enter Tryz.func174,Tryz.ntmps174
    refine wp_region_held_drew (S:=fun w'=>w'.cell? ⟨ba,0,none⟩=some (.slice q acc.length c)∧w'.cell? ⟨b1,0,none⟩=some (.pointer (some ⟨bp,0,none⟩))) hmx hS0 (fun hHeld=>?_)
    refine wpAnyH_take (i:=0) (v:=.slice q acc.length c) rfl (by kernel_rfl) (by kernel_rfl) (by kernel_rfl) (fun _ _ _ h=>h) (Or.inl ⟨by rfl,fun w hSw=>by obtain ⟨s1,s2⟩:=hSw;go_simp⟩) (by assumption) ?_
    simp only [Act.put,List.setIfInBounds_toArray,List.set_cons_zero,List.set_cons_succ,List.getElem_toArray,List.getElem_cons_zero]
    refine wpAnyH_take (i:=1) (v:=.pointer (some ⟨bp,0,none⟩)) rfl (by kernel_rfl) (by kernel_rfl) (by kernel_rfl) (fun _ _ _ h=>h) (Or.inl ⟨by rfl,fun w hSw=>by obtain ⟨s1,s2⟩:=hSw;go_simp⟩) (by assumption) ?_
    simp only [Act.put,List.setIfInBounds_toArray,List.set_cons_zero,List.set_cons_succ,List.getElem_toArray,List.getElem_cons_zero,List.getElem_cons_succ]
    refine wpAnyH_ready (rs:=[2]) (by kernel_rfl) (by simp) ?_
    refine AllReadyH.cons rfl (fun K hK=>?_) AllReadyH.nil
    go_simp
    go_at_call 175
    refine HE.out.mono ?_
    rw [HRI.out]
    rintro e w' ⟨hcc,rfl⟩
    exact ⟨rfl,((Chg.refl (SB bp B) W).drew).then (sb_of hcc),rfl⟩
  | ok q0 =>
    obtain ⟨x,j⟩:=q0
    have HRI:=Lib.hid hri
    clear hri
    have HROW:=Lib.hid (fun w1 (hc:Chg (fun k=>k=bp) W.drew w1)=>own_chg (w:=W.drew) (w':=w1) (xs:=cs) (v:=.slice q acc.length c) (n:=acc.length) (size:=1) (B:=B) (E:=97) (show W.drew.ownsRow B 97 1 (.slice q acc.length c) acc.length cs from h3) hc (fun k hk e=>by have:=(h3.lt k hk).1;omega))
    have HAPP:=Lib.hid (fun w1 w9 (u:Value) (hc:Chg (fun k=>k=bp) W.drew w1) (hg:(w1.alloc (.cells #[u] 97)).grownBy w9 (Value.ownBlock (.slice q acc.length c)))=>by
      have hcc:Chg (fun k=>k=bp ∨ Value.ownBlock (.slice q acc.length c)=some k) W.drew w9:=((hc.alloc _).mono (fun k e=>.inl (.inl e))).then (grown_chg hg (fun k e=>.inl (.inr e)))
      have n1:∀ (k:Nat) (arr:Array Value) (E:TypeId),W.heap[k]?=some (.cells arr E (0,0))→E ≠ 97→k ≠ bp→w9.heap[k]?=some (.cells arr E (0,0)):=fun k arr E hk hE hkb =>
        hcc.heap (show W.drew.heap[k]?=_ from hk) (fun e=>by
          rcases e with e | e
          · exact hkb e
          · obtain ⟨cur,hcu⟩:=own_type h3 e
            rw [hk] at hcu
            simp only [Option.some.injEq,Obj.cells.injEq] at hcu
            exact hE hcu.2.1)
      exact (⟨n1 ba _ _ h1 (by decide) hnba,n1 b1 _ _ h2 (by decide) hnb1⟩:w9.heap[ba]?=some (.cells #[.slice q acc.length c] 45 (0,0))∧w9.heap[b1]?=some (.cells #[.pointer (some ⟨bp,0,none⟩)] 119 (0,0))))
    go_enter Tryz.func174,Tryz.ntmps174
    go_region_law
      (first
        | (go_simp;go_at_call 175;refine HE.out.mono ?_;rw [HRI.out];rintro e w1 ⟨hcc,v1,rfl,a1,a2,a3⟩;obtain ⟨q1,c1,rfl⟩:=own_shape a1;have k1:=hcc.cell (show W.drew.cell? ⟨ba,0,none⟩=_ from hc1) hnba;have k2:=hcc.cell (show W.drew.cell? ⟨b1,0,none⟩=_ from hc2) hnb1;have p1:=hcc.heap (show W.drew.heap[ba]?=_ from h1) hnba;have p2:=hcc.heap (show W.drew.heap[b1]?=_ from h2) hnb1;have k3:=free_of (j:=0) p1;have kk:=And.intro (cell_of (j:=0) (heap_new _ (.cells #[.slice q1 x.length c1] 97) p1) rfl) (And.intro (cell_of (j:=0) (heap_new _ (.cells #[.slice q1 x.length c1] 97) p2) rfl) (free_of (j:=0) (heap_new _ (.cells #[.slice q1 x.length c1] 97) p1))))
        | (refine step_append_mine rfl (.tmp 2) (.tmp 5) 45 rfl B 97 j0 (.slice none 0 0) 1 24 Tryz.underlying45 hj0 hy0 hy1 hy2 rfl (by decide) (.slice q acc.length c) acc.length cs (by simp [Act.eval]) ((HROW.out _ hcc).alloc _) ⟨_,0,none⟩ 1 1 [.slice q1 x.length c1] (by simp [Act.eval]) rfl (row_new _ [.slice q1 x.length c1] 97) (one_slice _ _ _) (by unfold maxLen;omega) (by omega) (Nat.le_trans hBW (Nat.le_trans hcc.size (by simp))) ?_;intro v9 w9 hown9 hgrow9 hat9;obtain ⟨q9,c9,rfl⟩:=own_shape hown9;obtain ⟨g1,g2⟩:=HAPP.out _ _ _ hcc hgrow9;have k4:=cell_of (j:=0) g1 rfl;have k5:=cell_of (j:=0) g2 rfl;have k6:=free_of (j:=0) g1))
    all_goals
      go_end0
      obtain ⟨r1,r2,r3⟩:=exprs1_end (m0:=m0) (w0:=w0) hB hba1 hBW hnba hnb1 hbp h1 h3 h4 h5 h6 h7 h8 h9 h10 h11 (show Chg (fun k=>k=bp) W w1 from ((Chg.refl _ W).drew).then hcc) a1 a2 a3 hown9 hgrow9 (by simpa using hat9) g1 g2
      exact ⟨r1,⟨rfl,r2⟩,r3⟩
end
end Go.Proofs.YtlpdjfimefjmcaaGreatDoor.Q
namespace Go.Proofs.YtlpdjfimefjmcaaGreatDoor.Q
open Go Go.RowKit Go.Proofs.Mm
theorem list_ls (T:Nat→Option Syn.K) (F:Nat) (fin:List Nat) (i:Nat):Syn.list T F fin i=ls T F (Syn.expr T F) fin i:=by
  unfold Syn.list ls
  rw [listF_ls]
section
variable {ys:List It} {len bp bw i:Nat} {vp:Value} {w:World}
def ExOk (ys:List It) (len bp bw:Nat) (vp:Value) (m:Mem) (w:World) (es:List (List Syn.Tm)) (j:Nat) (e:Ending) (w':World):Prop :=
  ∃ v m',e=.returned v∧m.More w m'∧Has w' m'∧m' bp=none∧ExM m' v es∧PS ys len bp bw vp w' j
theorem ej_done {m0:Mem} {w0 W:World} {ba b1 B:Nat} {acc:List (List Syn.Tm)} (h:EJ m0 w0 ba b1 bp B acc W) (hB:B=w0.heap.size) (hbp:bp<w0.heap.size) :
    ∃ q c,W.heap[ba]?=some (.cells #[.slice q acc.length c] 45 (0,0))∧∃ m',m0.More w0 m'∧Has W m'∧m' bp=none∧ExM m' (.slice q acc.length c) acc:=by
  obtain ⟨q,c,cs,m',h1,h2,h3,h4,h5,h6,h7,h8,h9,h10,h11⟩:=h
  obtain ⟨m2,d1,d2,d3,d4⟩:=RowM.done h3 h5 h10
  refine ⟨q,c,h1,m2,⟨h6.le.trans d1,fun k e hk=>?_⟩,d3,?_,cs,d4,h4.mono (TmR.le d1)⟩
  · cases e2:m2 k with
    | none=>rfl
    | some o =>
      rcases d2 k (by rw [e2];simp) with e3 | e3
      · exact (e3 (h6.new k e hk)).elim
      · have:=(h3.lt k e3).1;omega
  · cases e2:m2 bp with
    | none=>rfl
    | some o =>
      rcases d2 bp (by rw [e2];simp) with e3 | e3
      · exact (e3 h9).elim
      · have:=(h3.lt bp e3).1;omega
theorem exprs_facts {m:Mem} (h:PS ys len bp bw vp w i) (hm:Has w m) (hbm:m bp=none) :
    PS ys len bp bw vp ((w.alloc (.cells #[.pointer (some ⟨bp,0,none⟩)] 119)).alloc (.cells #[.slice none 0 0] 45)) i ∧
    EJ m w (w.heap.size+1) w.heap.size bp w.heap.size [] ((w.alloc (.cells #[.pointer (some ⟨bp,0,none⟩)] 119)).alloc (.cells #[.slice none 0 0] 45)) ∧
    (∀ l W i W',EJ m w (w.heap.size+1) w.heap.size bp w.heap.size l W→PS ys len bp bw vp W i→Chg (fun k=>k=bp) W W'→EJ m w (w.heap.size+1) w.heap.size bp w.heap.size l W'):=by
  obtain ⟨hlt,hlb⟩:=h.lt
  have hC0:Chg (fun _=>False) w ((w.alloc (.cells #[.pointer (some ⟨bp,0,none⟩)] 119)).alloc (.cells #[.slice none 0 0] 45)):=((Chg.refl _ w).alloc _).alloc _
  have hm2:=hm.chg hC0 (fun k e=>e.elim)
  have hz1:m (w.heap.size+1)=none:=hm.lt (by omega)
  have hz2:m w.heap.size=none:=hm.lt (Nat.le_refl _)
  have hsz0:w.heap.size≤((w.alloc (.cells #[.pointer (some ⟨bp,0,none⟩)] 119)).alloc (.cells #[.slice none 0 0] 45)).heap.size:=hC0.size
  refine ⟨(h.alloc _).alloc _,⟨none,0,[],m,?_,heap_new _ _ (World.alloc_heap_new w _),World.ownsRow_nil _ _ _ _,Enc.nil,hm2,Mem.More.refl _ _,hz1,hz2,hbm,(fun k e=>by cases e),hsz0⟩,?_⟩
  · have:=World.alloc_heap_new (w.alloc (.cells #[.pointer (some ⟨bp,0,none⟩)] 119)) (.cells #[.slice none 0 0] 45)
    rwa [World.size_alloc] at this
  · rintro l W i W' ⟨q,c,cs,m',h1,h2,h3,h4,h5,h6,h7,h8,h9,h10,h11⟩ hp hc
    have hsz:=hc.size
    exact ⟨q,c,cs,m',hc.heap h1 (by omega),hc.heap h2 (by omega),own_chg h3 hc (fun k hk e=>by have:=(h3.lt k hk).1;omega),h4,h5.chg hc (fun k e=>by subst e;exact h9),h6,h7,h8,h9,h10,by omega⟩
set_option maxRecDepth 100000 in
theorem exprs_any (hw:Ws ys) (h:PS ys len bp bw vp w i) (s:ByteArray) (hs:Mk (bl s)=true) (hs44:bl s ≠ [44]) {m:Mem} (hm:Has w m) (hbm:m bp=none) :
    Calls Tryz.prog 151 #[.pointer (some ⟨bp,0,none⟩),.string s] w (Ret ys len (fun k=>k=bp) w (Syn.list (Tk ys) (ys.length+1) (bl s) i) (ExOk ys len bp bw vp m w)):=by
  obtain ⟨hlt,hlb⟩:=h.lt
  obtain ⟨f1,f2,f3⟩:=exprs_facts (w:=w) h hm hbm
  have hlist:=list_any (len:=len) (bp:=bp) (bw:=bw) (vp:=vp) hw f1 (B:=w.heap.size) (by simp;omega) hlb hlt s hs hs44 (K:=174) (caps:=#[.pointer (some ⟨w.heap.size+1,0,none⟩),.pointer (some ⟨w.heap.size,0,none⟩)]) (enters_of Tryz.func174 (by kernel_rfl) rfl) (J:=EJ m w (w.heap.size+1) w.heap.size bp w.heap.size)
    (Syn.expr_fit (tk_nones ys) (by omega) 12) f3 (exprs1_any hw (by omega) hlt (by omega)) f2
  rw [list_ls]
  have hmf:∀ (fn:Fn) (first cap:Array Value) (w:World),(Instr.makeFunc fn first cap).run Tryz.prog w=.ok (.func fn first cap) w:=fun _ _ _ _=>rfl
  have hC0:Chg (fun k=>k=bp) w ((w.alloc (.cells #[.pointer (some ⟨bp,0,none⟩)] 119)).alloc (.cells #[.slice none 0 0] 45)):=((Chg.refl _ w).alloc _).alloc _
  have hSB:∀ {a b:World},Chg (SB bp w.heap.size) a b→w.heap.size≤a.heap.size→Chg (fun k=>k=bp ∨ w.heap.size≤k) a b:=fun hc _=>hc
  change Calls _ _ _ _ (Ret ys len _ w (ls (Tk ys) (ys.length+1) (Syn.expr (Tk ys) (ys.length+1)) (bl s) i) _)
  change Calls _ _ _ _ (Ret ys len _ _ (ls (Tk ys) (ys.length+1) (Syn.expr (Tk ys) (ys.length+1)) (bl s) i) _) at hlist
  obtain ⟨RR,hRR⟩:∃ RR,ls (Tk ys) (ys.length+1) (Syn.expr (Tk ys) (ys.length+1)) (bl s) i=RR:=⟨_,rfl⟩
  rw [hRR] at hlist ⊢
  clear hRR f3
  cases RR with
  | error q =>
    go_enter Tryz.func151,Tryz.ntmps151
    go_wp2_with (go_at_call 147;refine hlist.mono ?_;rintro e w1 ⟨hc,rfl⟩)
    exact ⟨rfl,hC0.trans hc (fun k e=>by rcases e with e | e;exact .inl e;exact .inr e),rfl⟩
  | ok q =>
    obtain ⟨es,j⟩:=q
    go_enter Tryz.func151,Tryz.ntmps151
    go_wp2_with fail
    go_at_call 147
    refine hlist.mono ?_
    rintro e w1 ⟨hc,⟨rfl,hej⟩,hp⟩
    obtain ⟨q,c,g1,m',g2,g3,g4,g5⟩:=ej_done hej rfl hlt
    have hcell:=cell_of (j:=0) g1 rfl
    have HEND:=Lib.hid (show Chg (fun k=>k=bp) w w1∧ExOk ys len bp bw vp m w es j (.returned (.slice q es.length c)) w1 from
      ⟨hC0.trans hc (fun k e=>by rcases e with e | e;exact .inl e;exact .inr e),_,m',rfl,g2,g3,g4,g5,hp⟩)
    clear g2 g3 g4 g5 hej hc hC0 hp g1
    go_wp2
    go_ret
    exact HEND.out
end
end Go.Proofs.YtlpdjfimefjmcaaGreatDoor.Q
namespace Go.Proofs.YtlpdjfimefjmcaaGreatDoor.Q
open Go Go.RowKit Go.Proofs.Mm
section
variable {ys:List It} {len bp bw i:Nat} {vp:Value} {w:World} {α:Type}
theorem ret_cases {K:FuncId} {args:Array Value} {S:Nat→Prop} {r:Syn.R α} {ok:α→Nat→Ending→World→Prop} (h:Calls Tryz.prog K args w (Ret ys len S w r ok)) :
    Calls Tryz.prog K args w fun e w'=>Chg S w w'∧((∃ er k,r=.error (er,k)∧e=.panicked (gv er ((tk ys len k).a:Nat))) ∨ ∃ x j,r=.ok (x,j)∧ok x j e w'):=by
  refine h.mono fun e w' ⟨h1,h2⟩=>⟨h1,?_⟩
  cases r with
  | error q=>exact .inl ⟨q.1,q.2,rfl,h2⟩
  | ok q=>exact .inr ⟨q.1,q.2,rfl,h2⟩
theorem ret_err {S:Nat→Prop} {r:Syn.R α} {ok:α→Nat→Ending→World→Prop} {w':World} {er k:Nat} (h:r=.error (er,k)) (hC:Chg S w w'):Ret ys len S w r ok (.panicked (gv er ((tk ys len k).a:Nat))) w':=by
  rw [h];exact ⟨hC,rfl⟩
theorem ret_ok {S:Nat→Prop} {r:Syn.R α} {ok:α→Nat→Ending→World→Prop} {w':World} {x:α} {j:Nat} {e:Ending} (h:r=.ok (x,j)) (hC:Chg S w w') (h2:ok x j e w'):Ret ys len S w r ok e w':=by
  rw [h];exact ⟨hC,h2⟩
theorem want_at (hw:Ws ys) (h:PS ys len bp bw vp w i) (s:ByteArray) (hs:Mk (bl s)=true) :
    Calls Tryz.prog 143 #[.pointer (some ⟨bp,0,none⟩),.string s] w fun e w'=>Chg (fun k=>k=bp) w w'∧((Syn.want (Tk ys) i (bl s)=.error (50,i)∧e=.panicked (gv (50:Nat) ((tk ys len i).a:Nat))) ∨ (Syn.want (Tk ys) i (bl s)=.ok ((),i+1)∧e=.returned (.tuple #[])∧PS ys len bp bw vp w' (i+1))):=by
  cases hx:Syn.is (Tk ys) i (bl s) with
  | true =>
    refine (want_yes h (lt_of_is hx) s (by rw [eq_text,is_text hw len i hs];exact hx)).mono ?_
    rintro e w' ⟨rfl,hc,hp⟩
    exact ⟨hc,.inr ⟨if_pos hx,rfl,hp⟩⟩
  | false =>
    refine (want_no h s (by rw [eq_text,is_text hw len i hs];exact hx) (fun k=>k=bp)).mono ?_
    rintro e w' ⟨rfl,hc⟩
    exact ⟨hc,.inl ⟨if_neg (by rw [hx];simp),rfl⟩⟩
theorem name_at (h:PS ys len bp bw vp w i) :
    Calls Tryz.prog 144 #[.pointer (some ⟨bp,0,none⟩)] w fun e w'=>Chg (fun k=>k=bp) w w'∧((Syn.name (Tk ys) i=.error (50,i)∧e=.panicked (gv (50:Nat) ((tk ys len i).a:Nat))) ∨ (Syn.name (Tk ys) i=.ok (bl (tk ys len i).t,i+1)∧e=.returned (.string (tk ys len i).t)∧PS ys len bp bw vp w' (i+1))):=by
  cases hx:Syn.named (Tk ys) i with
  | true =>
    refine (name_one h hx).mono ?_
    rintro e w' ⟨rfl,hc,hp⟩
    exact ⟨hc,.inr ⟨name_yes len hx,rfl,hp⟩⟩
  | false =>
    refine (name_none h hx (fun k=>k=bp) rfl).mono ?_
    rintro e w' ⟨rfl,hc⟩
    exact ⟨hc,.inl ⟨name_no hx,rfl⟩⟩
theorem expr_at (hw:Ws ys) (h:PS ys len bp bw vp w i) {m:Mem} (hm:Has w m) (hbm:m bp=none) :
    Calls Tryz.prog 175 #[.pointer (some ⟨bp,0,none⟩)] w fun e w'=>Chg (fun k=>k=bp) w w'∧((∃ er k,Syn.expr (Tk ys) (ys.length+1) i=.error (er,k)∧e=.panicked (gv er ((tk ys len k).a:Nat))) ∨
      ∃ l j q c m',Syn.expr (Tk ys) (ys.length+1) i=.ok (l,j)∧e=.returned (.slice q l.length c)∧m.More w m'∧Has w' m'∧m' bp=none∧TmM m' (.slice q l.length c) l∧PS ys len bp bw vp w' j):=by
  refine (ret_cases (expr_any hw h)).mono ?_
  rintro e w' ⟨hc,⟨er,k,h1,h2⟩ | ⟨l,j,h1,v,rfl,h3,h4,h5⟩⟩
  · exact ⟨hc,.inl ⟨er,k,h1,h2⟩⟩
  · obtain ⟨q,c,rfl⟩:=own_shape h3
    obtain ⟨m2,d1,d2,d3,d4⟩:=RowM.done h3 (hm.chg hc (fun k e=>by subst e;exact hbm)) (fun k hk=>hm.lt (h5 k hk))
    have hnew:∀ k,m k=none→k<w.heap.size→m2 k=none:=fun k e hk=>by
      cases e2:m2 k with
      | none=>rfl
      | some o =>
        rcases d2 k (by rw [e2];simp) with e3 | e3
        · exact (e3 e).elim
        · have:=h5 k e3;omega
    exact ⟨hc,.inr ⟨l,j,q,c,m2,h1,rfl,⟨d1,hnew⟩,d3,hnew bp hbm h.lt.1,d4,h4⟩⟩
theorem put_new {m:Mem} {W:World} (hm:Has W m) (o:Obj):Has (W.alloc o) (m.put W.heap.size o)∧m.More W (m.put W.heap.size o)∧(m.put W.heap.size o) W.heap.size=some o :=
  ⟨(hm.chg ((Chg.refl (fun _=>False) W).alloc o) (fun _ e=>e.elim)).put (World.alloc_heap_new W o),Mem.More.put (hm.lt (Nat.le_refl _)) (Nat.le_refl _),Mem.put_same _ _ _⟩
theorem ex_one {m:Mem} {g:Nat} {u:Value} {l:List Syn.Tm} (hg:m g=some (.cells #[u] 97 (0,0))) (h:TmM m u l):ExM m (.slice (some ⟨g,0,none⟩) 1 1) [l] :=
  ⟨[u],⟨rfl,.inr ⟨g,1,#[u],rfl,hg,Nat.le_refl _,by simp [maxLen],rfl,rfl⟩⟩,[u],[],rfl,⟨u,rfl,h⟩,rfl⟩
theorem ex_two {m:Mem} {g:Nat} {u v:Value} {l r:List Syn.Tm} (hg:m g=some (.cells #[u,v] 97 (0,0))) (h:TmM m u l) (h':TmM m v r):ExM m (.slice (some ⟨g,0,none⟩) 2 2) [l,r] :=
  ⟨[u,v],⟨rfl,.inr ⟨g,2,#[u,v],rfl,hg,Nat.le_refl _,by simp [maxLen],rfl,rfl⟩⟩,[u],[v],rfl,⟨u,rfl,h⟩,[v],[],rfl,⟨v,rfl,h'⟩,rfl⟩
theorem ex_nil (m:Mem):ExM m (.slice none 0 0) []:=⟨[],RowM.nil _ _ _,rfl⟩
theorem str_nil (m:Mem):StrM m (.slice none 0 0) []:=RowM.nil _ _ _
def SOk (ys:List It) (len bp bw:Nat) (vp:Value) (m:Mem) (w:World) (st:Syn.St) (j:Nat) (e:Ending) (w':World):Prop :=
  ∃ vt ve m',e=.returned (.agg #[.int .i64 (st.kind:Int),.string (sb st.name),vt,ve])∧m.More w m'∧Has w' m'∧m' bp=none∧StrM m' vt st.targets∧ExM m' ve st.exprs∧PS ys len bp bw vp w' j
theorem mk_59:Mk (bl ⟨#[59]⟩)=true:=by decide
theorem mk_61:Mk (bl ⟨#[61]⟩)=true:=by decide
def callP (T:Nat→Option Syn.K) (F:Nat) (ts:List (List Nat)) (s:List Nat) (i:Nat):Syn.R Syn.St :=
  (Syn.list T F [41] i).on fun l i=>(Syn.want T i [59]).on fun _ i=>.ok (⟨4,s,ts,l⟩,i)
def stmtZ:Obj:=.cells #[.int .i64 0,.string ⟨#[]⟩,.slice none 0 0,.slice none 0 0] 47
theorem chg_four {S:Nat→Prop} {a w:World} (h:Chg S a w) {g:Nat} (hg:S g ∨ a.heap.size≤g) (x0 x1 x2 x3:Value) :
    Chg S a ((((w.setCell ⟨g,0,none⟩ x0).setCell ⟨g,1,none⟩ x1).setCell ⟨g,2,none⟩ x2).setCell ⟨g,3,none⟩ x3):=chg_set4 h hg x0 x1 x2 x3
theorem four_cells {W:World} {g:Nat} {x0 x1 x2 x3:Value} {T:TypeId} (h:W.heap[g]?=some (.cells #[x0,x1,x2,x3] T (0,0))) :
    W.cell? ⟨g,0,none⟩=some x0∧W.cell? ⟨g,1,none⟩=some x1∧W.cell? ⟨g,2,none⟩=some x2∧W.cell? ⟨g,3,none⟩=some x3∧W.frozen? ⟨g,0,none⟩=false∧W.frozen? ⟨g,1,none⟩=false∧W.frozen? ⟨g,2,none⟩=false∧W.frozen? ⟨g,3,none⟩=false :=
  ⟨cell_of h rfl,cell_of h rfl,cell_of h rfl,cell_of h rfl,free_of h,free_of h,free_of h,free_of h⟩
theorem sok_end {m m3:Mem} {w w3:World} {vt ve:Value} {st:Syn.St} {j:Nat} (C:Chg (fun k=>k=bp) w w3) (hmo:m.More w m3) (hH:Has w3 m3) (hb:m3 bp=none) (hRm:m3 w.heap.size=none) (ht:StrM m3 vt st.targets) (hex:ExM m3 ve st.exprs) (hp:PS ys len bp bw vp w3 j) (hne:¬ w.heap.size=bp) (hbw:bw<w.heap.size) (x0 x1 x2 x3:Value) :
    Chg (fun k=>k=bp) w ((((w3.setCell ⟨w.heap.size,0,none⟩ x0).setCell ⟨w.heap.size,1,none⟩ x1).setCell ⟨w.heap.size,2,none⟩ x2).setCell ⟨w.heap.size,3,none⟩ x3) ∧
    SOk ys len bp bw vp m w st j (.returned (.agg #[.int .i64 (st.kind:Int),.string (sb st.name),vt,ve])) ((((w3.setCell ⟨w.heap.size,0,none⟩ x0).setCell ⟨w.heap.size,1,none⟩ x1).setCell ⟨w.heap.size,2,none⟩ x2).setCell ⟨w.heap.size,3,none⟩ x3):=by
  have hc:=chg_four (Chg.refl (fun k=>k=w.heap.size) w3) (.inl rfl) x0 x1 x2 x3
  exact ⟨chg_four C (.inr (Nat.le_refl _)) _ _ _ _,vt,ve,m3,rfl,hmo,hH.chg hc (fun k e=>by subst e;exact hRm),hb,ht,hex,hp.chg hc (fun e=>hne e.symm) (by omega)⟩
set_option maxRecDepth 100000 in
set_option maxHeartbeats 1000000 in
theorem call_any (hw:Ws ys) (h:PS ys len bp bw vp w i) {m:Mem} (hm:Has w m) (hbm:m bp=none) (s:ByteArray) {qt:Option Addr} {nt ct:Nat} {ts:List (List Nat)} (ht:StrM m (.slice qt nt ct) ts) :
    Calls Tryz.prog 183 #[.pointer (some ⟨bp,0,none⟩),.string s,.slice qt nt ct] w (Ret ys len (fun k=>k=bp) w (callP (Tk ys) (ys.length+1) ts (bl s) i) (SOk ys len bp bw vp m w)):=by
  obtain ⟨hlt,hlb⟩:=h.lt
  have h1:=ret_cases (exprs_any hw (h.alloc stmtZ) ⟨#[41]⟩ mk_41 (by decide) (hm.chg ((Chg.refl (fun _=>False) w).alloc stmtZ) (fun _ e=>e.elim)) hbm)
  obtain ⟨RR,hRR⟩:∃ RR,callP (Tk ys) (ys.length+1) ts (bl s) i=RR:=⟨_,rfl⟩
  rw [hRR]
  have H0:=Lib.hid hRR
  have C0:=Lib.hid ((Chg.refl (fun k=>k=bp) w).alloc stmtZ)
  have Hm:=Lib.hid hm
  have HT:=Lib.hid ht
  have hne:¬ w.heap.size=bp:=by omega
  clear hRR h hm ht
  unfold stmtZ at h1 C0
  go_enter Tryz.func183,Tryz.ntmps183
  go_wp2_with fail
  go_at_call 151
  refine h1.mono ?_
  rintro e w1 ⟨hc1,⟨er,k,hr,rfl⟩ | ⟨es,j,hr,ve,m1,rfl,hmo,hH,hb1,hex,hp1⟩⟩
  · exact ⟨rfl,ret_err (by rw [← H0.out];unfold callP;rw [show ([41]:List Nat)=bl ⟨#[41]⟩ from rfl,hr];rfl) (C0.out.then hc1)⟩
  · have C1:=Lib.hid (C0.out.then hc1)
    have H1:=Lib.hid (show (Syn.want (Tk ys) j [59]).on (fun _ i=>.ok ((⟨4,bl s,ts,es⟩:Syn.St),i))=RR from by rw [← H0.out];unfold callP;rw [show ([41]:List Nat)=bl ⟨#[41]⟩ from rfl,hr];rfl)
    have hres:=hc1.heap (World.alloc_heap_new w (.cells #[.int .i64 0,.string ⟨#[]⟩,.slice none 0 0,.slice none 0 0] 47)) hne
    obtain ⟨qe,ne,ce,rfl⟩:∃ q n c,ve=.slice q n c:=by
      obtain ⟨cs,⟨_,⟨rfl,_⟩ | ⟨g,cap,cur,rfl,_⟩⟩,_⟩:=hex
      · exact ⟨_,_,_,rfl⟩
      · exact ⟨_,_,_,rfl⟩
    have EX:=Lib.hid hex
    have HH:=Lib.hid hH
    have MO:=Lib.hid hmo
    have HP1:=Lib.hid hp1
    have HRES:=Lib.hid hres
    clear hc1 hr hex hH hmo hp1 hres h1
    have hS:=Lib.hid (want_at hw (HP1.out.alloc (.cells #[.int .i64 4,.string s,.slice qt nt ct,.slice qe ne ce] 47)) ⟨#[59]⟩ mk_59)
    have hbl:=heap_lt HRES.out
    have hsN:=World.alloc_heap_new w1 (.cells #[.int .i64 4,.string s,.slice qt nt ct,.slice qe ne ce] 47)
    go_wp2_with fail
    go_at_call 143
    refine hS.out.mono ?_
    rintro e w3 ⟨hc3,⟨hr,rfl⟩ | ⟨hr,rfl,hp3⟩⟩
    · exact ⟨rfl,ret_err (by rw [← H1.out,show ([59]:List Nat)=bl ⟨#[59]⟩ from rfl,hr];rfl) ((C1.out.alloc _).then hc3)⟩
    · have HE:=Lib.hid (show (.ok ((⟨4,bl s,ts,es⟩:Syn.St),j+1))=RR from by rw [← H1.out,show ([59]:List Nat)=bl ⟨#[59]⟩ from rfl,hr];rfl)
      have hnes:¬ w1.heap.size=bp:=by have:=HP1.out.lt;omega
      obtain ⟨r0,r1,r2,r3,f0,f1,f2,f3⟩:=four_cells (hc3.heap (heap_new w1 (.cells #[.int .i64 4,.string s,.slice qt nt ct,.slice qe ne ce] 47) HRES.out) hne)
      obtain ⟨s0,s1,s2,s3,_,_,_,_⟩:=four_cells (hc3.heap hsN hnes)
      have hz1:m1 w.heap.size=none:=MO.out.new _ (Hm.out.lt (Nat.le_refl _)) (by simp)
      have HEND:=Lib.hid (sok_end (m:=m) (st:=⟨4,bl s,ts,es⟩) (w:=w) (w3:=w3) ((C1.out.alloc (.cells #[.int .i64 4,.string s,.slice qt nt ct,.slice qe ne ce] 47)).then hc3) (MO.out.from (by simp)) ((HH.out.chg ((Chg.refl (fun _=>False) w1).alloc _) (fun _ e=>e.elim)).chg hc3 (fun k e=>by subst e;exact hb1)) hb1 hz1 (RowM.le HT.out MO.out.le) EX.out hp3 hne hlb (.int .i64 4) (.string s) (.slice qt nt ct) (.slice qe ne ce))
      clear hc3 hr hp3 hsN
      go_wp2
      refine bodyPost_ret (v:=.agg #[.int .i64 4,.string s,.slice qt nt ct,.slice qe ne ce]) (by simp [results,Tryz.results183,go_sem,r0,r1,r2,r3]) rfl (ret_ok HE.out.symm HEND.out.1 ?_)
      have:=HEND.out.2
      rw [sb_bl] at this
      exact this
end
end Go.Proofs.YtlpdjfimefjmcaaGreatDoor.Q
