/- Rows of statements that grow; block of the parser. Plain: statements are no more than their words; how the parser's own functions part a statement. block, branch and loop of the parser. branch and loop of the parser. -/
import Derived.Test.YtlpdjfimefjmcaaGreatDoorFlLevelsPR26
namespace Go.Proofs.YtlpdjfimefjmcaaGreatDoor.Q
open Go Go.RowKit Go.Proofs.Mm
def start (T : Nat → Option Syn.K) (i : Nat) : Bool := Syn.is T i (Syn.tx "if") || Syn.is T i (Syn.tx "while") || Syn.is T i (Syn.tx "send") || Syn.named T i
def stF (T:Nat→Option Syn.K) (s:Nat→Syn.R (List Syn.St)):Nat→List Syn.St→Nat→Syn.R (List Syn.St)
  | 0,_,i=>.error (99,i)
  | f+1,l,i=>if start T i then (s i).on fun x j=>stF T s f (l++x) j else .ok (l,i)
theorem not_start {T : Nat → Option Syn.K} {i : Nat} {fin : List Nat} (h : Syn.is T i fin = true) (h1 : fin ≠ Syn.tx "if") (h2 : fin ≠ Syn.tx "while") (h3 : fin ≠ Syn.tx "send") : start T i = false := by
  have hn:Syn.named T i=false:=by
    cases hh:Syn.named T i with
    | false=>rfl
    | true=>rw [Syn.not_is hh] at h;cases h
  have key:∀ s,fin ≠ s→Syn.is T i s=false:=fun s hs=>by
    cases hh:Syn.is T i s with
    | false=>rfl
    | true=>exact (hs (is_uniq h hh)).elim
  unfold start
  rw [key _ h1,key _ h2,key _ h3,hn];rfl
theorem stmtsF_split {T : Nat → Option Syn.K} {s : Nat → Syn.R (List Syn.St)} {fin : List Nat} (h1 : fin ≠ Syn.tx "if") (h2 : fin ≠ Syn.tx "while") (h3 : fin ≠ Syn.tx "send") (hs : ∀ i, start T i = false → s i = .error (50, i)) :
    ∀ (f:Nat) (l:List Syn.St) (i:Nat),Syn.stmtsF T s fin f l i=(stF T s f l i).on fun l j=>(Syn.want T j fin).on fun _ j=>.ok (l,j)
  | 0,_,_=>rfl
  | f+1,l,i=>by
    rw [Syn.stmtsF,stF]
    by_cases hf:Syn.is T i fin=true
    · rw [if_pos hf,not_start hf h1 h2 h3,if_neg (by simp)]
      show _=(Syn.want T i fin).on fun _ j=>.ok (l,j)
      rw [show Syn.want T i fin=.ok ((),i+1) from if_pos hf];rfl
    · rw [if_neg hf]
      cases hst:start T i with
      | false =>
        rw [if_neg (by simp),hs i hst]
        show _=(Syn.want T i fin).on fun _ j=>.ok (l,j)
        rw [show Syn.want T i fin=.error (50,i) from if_neg hf];rfl
      | true =>
        rw [if_pos rfl]
        cases s i with
        | error q=>rfl
        | ok q=>exact stmtsF_split h1 h2 h3 hs f _ _
theorem stmtOf_no {T:Nat→Option Syn.K} {F:Nat} {s:Option (Nat→Syn.R (List Syn.St))} {i:Nat} (h:start T i=false):Syn.stmtOf T F s i=.error (50,i):=by
  unfold start at h
  simp only [Bool.or_eq_false_iff] at h
  obtain ⟨⟨⟨h1,h2⟩,h3⟩,h4⟩:=h
  unfold Syn.stmtOf
  rw [h1,h2,h3,if_neg (by simp),if_neg (by simp),if_neg (by simp),plain_eq]
  unfold oneP namedP
  have:Syn.name T i=.error (50,i):=by
    unfold Syn.named at h4
    unfold Syn.name
    cases hT:T i with
    | none=>rfl
    | some k=>rw [hT] at h4;exact if_neg (by simpa using h4)
  rw [this];rfl
theorem infoSt:∃ i,Tryz.prog.info? 47=some i∧i.zero=some (.agg #[.int .i64 0,.string ⟨#[]⟩,.slice none 0 0,.slice none 0 0])∧i.size=4∧i.bytes=72:=by
  have h:(Tryz.prog.info? 47).map (fun i=>(i.zero,i.size,i.bytes))=some (some (.agg #[.int .i64 0,.string ⟨#[]⟩,.slice none 0 0,.slice none 0 0]),4,72):=by kernel_rfl
  cases hi:Tryz.prog.info? 47 with
  | none=>rw [hi] at h;cases h
  | some i =>
    rw [hi] at h
    simp only [Option.map_some,Option.some.injEq,Prod.mk.injEq] at h
    obtain ⟨e1,e2,e3⟩:=h
    exact ⟨i,rfl,e1,e2,e3⟩
def BR (w:World) (m:Mem) (v:Value) (l:List Syn.St):Prop:=∃ cs,w.ownsRow 0 47 4 v l.length cs∧Enc (StM m) cs l
def BOk (ys:List It) (len bp bw:Nat) (vp:Value) (m:Mem) (st0:List Syn.St) (v:Value) (w:World) (l:List Syn.St) (j:Nat) (e:Ending) (w':World):Prop :=
  ∃ v' m',e=.returned v'∧m.More w m'∧Has w' m'∧m' bp=none∧BR w' m' v' (st0++l)∧(∀ k,v'.ownBlock=some k→m' k=none)∧Ob v w v'∧PS ys len bp bw vp w' j
def RdS (ys:List It) (len bp bw:Nat) (vp:Value) (K:FuncId) (args:Value→Array Value) (r:Nat→Syn.R (List Syn.St)):Prop :=
  ∀ w i v st0 m,PS ys len bp bw vp w i→Has w m→m bp=none→BR w m v st0→(∀ k,v.ownBlock=some k→m k=none)→st0.length+(ys.length - i)≤131072 →
    Calls Tryz.prog K (args v) w (Ret ys len (TS bp v) w (r i) (BOk ys len bp bw vp m st0 v w))
section
variable {ys:List It} {len bp bw i:Nat} {vp:Value} {w:World}
theorem br_shape {m:Mem} {v:Value} {l:List Syn.St} (h:BR w m v l):∃ q c,v=.slice q l.length c:=by
  obtain ⟨cs,h1,_⟩:=h
  exact own_shape h1
theorem br_not (h:PS ys len bp bw vp w i) {m:Mem} {v:Value} {l:List Syn.St} (hr:BR w m v l):v.ownBlock ≠ some bp∧v.ownBlock ≠ some bw:=by
  obtain ⟨cs,hr,_⟩:=hr
  obtain ⟨⟨c,a1,_⟩,⟨arr,b1,_⟩,_,_⟩:=h
  constructor
  · intro e
    obtain ⟨cur,h2⟩:=own_type hr e
    have:=a1.symm.trans h2
    simp at this
  · intro e
    obtain ⟨cur,h2⟩:=own_type hr e
    have:=b1.symm.trans h2
    simp at this
theorem br_le {m m':Mem} {v:Value} {l:List Syn.St} (h:BR w m v l) (hm:m.le m'):BR w m' v l:=by
  obtain ⟨cs,h1,h2⟩:=h
  exact ⟨cs,h1,h2.mono fun _ _ h=>h.le hm⟩
theorem br_chg {m:Mem} {v:Value} {l:List Syn.St} (hr:BR w m v l) {w':World} {S:Nat→Prop} (hc:Chg S w w') (hn:∀ k,v.ownBlock=some k→¬ S k):BR w' m v l:=by
  obtain ⟨cs,h1,h2⟩:=hr
  exact ⟨cs,own_chg h1 hc hn,h2⟩
theorem br_next (h:PS ys len bp bw vp w i) {m:Mem} {v:Value} {l:List Syn.St} (hr:BR w m v l) {w':World} (hc:Chg (fun k=>k=bp) w w'):BR w' m v l :=
  br_chg hr hc (fun k hk e=>by subst e;exact (br_not h hr).1 hk)
theorem br_alloc {m:Mem} {v:Value} {l:List Syn.St} (hr:BR w m v l) (o:Obj):BR (w.alloc o) m v l:=br_chg hr ((Chg.refl (fun _=>False) w).alloc o) (fun _ _ e=>e)
theorem br_app (h:PS ys len bp bw vp w i) {m:Mem} {v v':Value} {l:List Syn.St} {cs:List Value} (hr:w.ownsRow 0 47 4 v l.length cs) (he:Enc (StM m) cs l) (hH:Has w m) (hv:∀ k,v.ownBlock=some k→m k=none) {st:Syn.St} {cells:List Value} (hst:StM m cells st) {w9:World} (T:TypeId)
    (hown:w9.ownsRow 0 47 4 v' (l.length+1) (cs++cells)) (hg:(w.alloc (.cells cells.toArray T)).grownBy w9 v.ownBlock) (hat:v'.ownBlock=v.ownBlock ∨ v'.ownBlock=some (w.heap.size+1)) :
    BR w9 m v' (l++[st])∧Has w9 m∧(∀ k,v'.ownBlock=some k→m k=none)∧Ob v w v'∧PS ys len bp bw vp w9 i∧Chg (fun k=>v.ownBlock=some k) w w9:=by
  have hC:Chg (fun k=>v.ownBlock=some k) w w9:=((Chg.refl _ w).alloc _).then (grown_chg hg (fun k hk=>.inl hk))
  have hn:=br_not h (m:=m) ⟨cs,hr,he⟩
  refine ⟨⟨cs++cells,by rw [List.length_append,List.length_singleton];exact hown,he.app (Enc.one hst)⟩,hH.chg hC (fun k e=>hv k e),fun k hk=>?_,fun k hk=>?_,h.chg hC hn.1 hn.2,hC⟩
  · rcases hat with e | e
    · rw [e] at hk;exact hv k hk
    · rw [e] at hk
      obtain rfl:w.heap.size+1=k:=by simpa using hk
      exact hH.lt (by omega)
  · rcases hat with e | e
    · rw [e] at hk;exact .inl hk
    · rw [e] at hk
      obtain rfl:w.heap.size+1=k:=by simpa using hk
      exact .inr (by omega)
theorem st_one (k:Int) (s:ByteArray) (q1 q2:Option Addr) (n1 c1 n2 c2:Nat):∀ u ∈ [Value.int .i64 k,.string s,.slice q1 n1 c1,.slice q2 n2 c2],u.oneCell'=true:=by
  intro u hu
  rcases List.mem_cons.1 hu with rfl | hu
  · rfl
  rcases List.mem_cons.1 hu with rfl | hu
  · rfl
  rcases List.mem_cons.1 hu with rfl | hu
  · rfl
  rcases List.mem_cons.1 hu with rfl | hu
  · rfl
  · exact absurd hu (by simp)
theorem mk_123:Mk (bl ⟨#[123]⟩)=true:=by decide
theorem mk_125:Mk (bl ⟨#[125]⟩)=true:=by decide
theorem ts_of {v:Value} {a b:World} (h:Chg (fun k=>k=bp) a b):Chg (TS bp v) a b:=h.mono fun _ e=>.inl (.inl e)
set_option maxRecDepth 100000 in
theorem block_deep (hw:Ws ys) (h:PS ys len bp bw vp w i) (v:Value) (ok:List Syn.St→Nat→Ending→World→Prop) :
    Calls Tryz.prog 181 #[.pointer (some ⟨bp,0,none⟩),v,.int .i64 12] w (Ret ys len (TS bp v) w (Syn.block (Tk ys) (ys.length+1) none i) ok):=by
  unfold Syn.block
  have h1:=is_ps h ⟨#[123]⟩
  rw [eq_text,is_text hw len i mk_123,show bl ⟨#[123]⟩=[123] from rfl] at h1
  cases hx:Syn.is (Tk ys) i [123] with
  | true =>
    rw [hx] at h1
    clear hx
    go_enter Tryz.func181,Tryz.ntmps181
    go_wp2_with (first | (go_at_call 139;refine h1.mono ?_;rintro e w' ⟨rfl,rfl⟩) | (go_at_call 138;refine (fail_ps h 51 (TS bp v)).mono ?_;rintro e w' ⟨rfl,hc⟩))
    exact ⟨rfl,hc,rfl⟩
  | false =>
    rw [hx] at h1
    have h2:=want_no h ⟨#[123]⟩ (by rw [eq_text,is_text hw len i mk_123];exact hx) (TS bp v)
    clear hx
    go_enter Tryz.func181,Tryz.ntmps181
    go_wp2_with (first | (go_at_call 139;refine h1.mono ?_;rintro e w' ⟨rfl,rfl⟩) | (go_at_call 143;refine h2.mono ?_;rintro e w' ⟨rfl,hc⟩))
    exact ⟨rfl,hc,rfl⟩
end
end Go.Proofs.YtlpdjfimefjmcaaGreatDoor.Q
namespace Go.Proofs.YtlpdjfimefjmcaaGreatDoor.Q
open Go Go.RowKit Go.Proofs.Mm
def CntS (p:Nat→Syn.R (List Syn.St)):Prop:=∀ i l j,p i=.ok (l,j)→l.length+i≤j
section
variable {T:Nat→Option Syn.K} {F:Nat}
def branchP (T:Nat→Option Syn.K) (F:Nat) (s:Option (Nat→Syn.R (List Syn.St))) (i:Nat):Syn.R (List Syn.St) :=
  (Syn.expr T F i).on fun e i=>(Syn.block T F s i).on fun a i =>
    if Syn.is T i (Syn.tx "else") then (Syn.block T F s (i + 1)).on fun b i => .ok (⟨5, [], [], [e]⟩ :: a ++ ⟨6, [], [], []⟩ :: b ++ [⟨8, [], [], []⟩], i)
    else .ok (⟨5,[],[],[e]⟩ :: a++[⟨8,[],[],[]⟩],i)
def loopP (T:Nat→Option Syn.K) (F:Nat) (s:Option (Nat→Syn.R (List Syn.St))) (i:Nat):Syn.R (List Syn.St) :=
  (Syn.expr T F i).on fun e i=>(Syn.block T F s i).on fun a i=>.ok (⟨7,[],[],[e]⟩ :: a++[⟨8,[],[],[]⟩],i)
theorem stmtOf_eq (s:Option (Nat→Syn.R (List Syn.St))) (i:Nat):Syn.stmtOf T F s i =
    if Syn.is T i (Syn.tx "if") then branchP T F s (i + 1) else if Syn.is T i (Syn.tx "while") then loopP T F s (i + 1) else if Syn.is T i (Syn.tx "send") then oneP (sendP T F (i + 1)) else oneP (namedP T F i) := by
  unfold Syn.stmtOf
  rw [plain_eq]
  congr 3
  unfold oneP sendP
  simp only [on_on]
  rfl
theorem stF_cnt {s:Nat→Syn.R (List Syn.St)} (hs:CntS s):∀ (f:Nat) (l:List Syn.St) (i:Nat) (l':List Syn.St) (j:Nat),stF T s f l i=.ok (l',j)→l'.length+i≤l.length+j
  | 0,_,_,_,_,h=>by cases h
  | f+1,l,i,l',j,h=>by
    rw [stF] at h
    split at h
    · obtain ⟨x,i2,h1,h2⟩:=Syn.R.on_ok h
      have a:=hs _ _ _ h1
      have b:=stF_cnt hs f _ _ _ _ h2
      rw [List.length_append] at b
      omega
    · injection h with h;injection h with h1 h2
      subst h1;subst h2;exact Nat.le_refl _
theorem stF_fit {n:Nat} (hN:∀ i,n≤i→T i=none) {s:Nat→Syn.R (List Syn.St)} (hs:∀ i,i≤n→Syn.Fit n (s i)) (hg:Syn.GoodS s):∀ (f:Nat) (l:List Syn.St) (i:Nat),i≤n→n<f+i→Syn.Fit n (stF T s f l i)
  | 0,_,_,h,hf=>by omega
  | f+1,l,i,h,hf=>by
    rw [stF]
    refine Syn.Fit.sw (fun _=>(hs i h).on fun x j hx hj=>stF_fit hN hs hg f _ j hj ?_) (fun _=>Syn.Fit.ok _ h)
    have:=(hg _ _ _ hx).2.2
    omega
theorem block_cnt {s:Option (Nat→Syn.R (List Syn.St))} (hs:∀ p,s=some p→CntS p) (hn:∀ p,s=some p→∀ i,start T i=false→p i=.error (50,i)) {i j:Nat} {l:List Syn.St} (h:Syn.block T F s i=.ok (l,j)):l.length+i+2≤j:=by
  unfold Syn.block at h
  split at h
  · split at h <;> cases h
  · rename_i p
    obtain ⟨_,i1,h1,h⟩:=Syn.R.on_ok h
    have e1:=(Syn.want_ok h1).2
    rw [stmtsF_split (by decide) (by decide) (by decide) (hn p rfl)] at h
    obtain ⟨l1,i2,h2,h⟩:=Syn.R.on_ok h
    obtain ⟨_,i3,h3,h⟩:=Syn.R.on_ok h
    injection h with h;injection h with h4 h5
    subst h4;subst h5
    have a:=stF_cnt (hs p rfl) _ _ _ _ _ h2
    have e3:=(Syn.want_ok h3).2
    simp only [List.length_nil] at a
    omega
theorem branch_cnt {s:Option (Nat→Syn.R (List Syn.St))} (hs:∀ p,s=some p→CntS p) (hn:∀ p,s=some p→∀ i,start T i=false→p i=.error (50,i)):CntS (branchP T F s):=by
  intro i l j h
  unfold branchP at h
  obtain ⟨e,i1,h1,h⟩:=Syn.R.on_ok h
  obtain ⟨a,i2,h2,h⟩:=Syn.R.on_ok h
  have g1:=(Syn.expr_good 12 _ _ _ h1).2
  have g2:=block_cnt hs hn h2
  split at h
  · obtain ⟨b,i3,h3,h⟩:=Syn.R.on_ok h
    have g3:=block_cnt hs hn h3
    injection h with h;injection h with h4 h5
    subst h4;subst h5
    simp only [List.length_append,List.length_cons,List.length_nil];omega
  · injection h with h;injection h with h4 h5
    subst h4;subst h5
    simp only [List.length_append,List.length_cons,List.length_nil];omega
theorem loopP_cnt {s:Option (Nat→Syn.R (List Syn.St))} (hs:∀ p,s=some p→CntS p) (hn:∀ p,s=some p→∀ i,start T i=false→p i=.error (50,i)):CntS (loopP T F s):=by
  intro i l j h
  unfold loopP at h
  obtain ⟨e,i1,h1,h⟩:=Syn.R.on_ok h
  obtain ⟨a,i2,h2,h⟩:=Syn.R.on_ok h
  have g1:=(Syn.expr_good 12 _ _ _ h1).2
  have g2:=block_cnt hs hn h2
  injection h with h;injection h with h4 h5
  subst h4;subst h5
  simp only [List.length_append,List.length_cons,List.length_nil];omega
theorem one_cnt {r:Syn.R Syn.St} {l:List Syn.St} {j:Nat} (h:oneP r=.ok (l,j)):l.length=1:=by
  unfold oneP at h
  obtain ⟨x,i1,h1,h⟩:=Syn.R.on_ok h
  injection h with h;injection h with h4 h5
  subst h4;rfl
theorem stmtOf_cnt {s:Option (Nat→Syn.R (List Syn.St))} (hs:∀ p,s=some p→CntS p) (hn:∀ p,s=some p→∀ i,start T i=false→p i=.error (50,i)) (hg:∀ p,s=some p→Syn.GoodS p):CntS (Syn.stmtOf T F s):=by
  intro i l j h
  have hlt:=(Syn.stmtOf_good hg _ _ _ h).2.2
  rw [stmtOf_eq] at h
  split at h
  · have:=branch_cnt hs hn _ _ _ h;omega
  · split at h
    · have:=loopP_cnt hs hn _ _ _ h;omega
    · split at h
      · have:=one_cnt h;omega
      · have:=one_cnt h;omega
theorem stmtD_no:∀ (d i:Nat),start T i=false→Syn.stmtD T F d i=.error (50,i)
  | 0,_,h=>stmtOf_no h
  | _+1,_,h=>stmtOf_no h
theorem stmtD_cnt:∀ d,CntS (Syn.stmtD T F d)
  | 0=>stmtOf_cnt (fun p h=>by cases h) (fun p h=>by cases h) (fun p h=>by cases h)
  | d+1=>stmtOf_cnt (s:=some (Syn.stmtD T F d)) (fun p h=>by cases h;exact stmtD_cnt d) (fun p h=>by cases h;exact stmtD_no d) (fun p h=>by cases h;exact Syn.stmt_good d)
end
def SOkD (ys:List It) (len bp bw:Nat) (vp:Value) (d:Nat) (s:Option (Nat→Syn.R (List Syn.St))):Prop :=
  (d=12∧s=none) ∨ (d<12∧∃ p,s=some p∧CntS p∧(∀ i,i≤ys.length→Syn.Fit ys.length (p i))∧Syn.GoodS p∧(∀ i,start (Tk ys) i=false→p i=.error (50,i)) ∧
    RdS ys len bp bw vp 150 (fun v=>#[.pointer (some ⟨bp,0,none⟩),v,.int .i64 ((d:Int)+1)]) (fun i=>stF (Tk ys) p (ys.length+1) [] i))
section
variable {ys:List It} {len bp bw d:Nat} {vp:Value} {s:Option (Nat→Syn.R (List Syn.St))} (h:SOkD ys len bp bw vp d s)
include h
theorem SOkD.cnt:∀ p,s=some p→CntS p:=by
  rcases h with ⟨_,rfl⟩ | ⟨_,r,rfl,h,_⟩
  · intro p hp;cases hp
  · intro p hp;cases hp;exact h
theorem SOkD.fit:∀ p,s=some p→∀ i,i≤ys.length→Syn.Fit ys.length (p i):=by
  rcases h with ⟨_,rfl⟩ | ⟨_,r,rfl,_,h,_⟩
  · intro p hp;cases hp
  · intro p hp;cases hp;exact h
theorem SOkD.good:∀ p,s=some p→Syn.GoodS p:=by
  rcases h with ⟨_,rfl⟩ | ⟨_,r,rfl,_,_,h,_⟩
  · intro p hp;cases hp
  · intro p hp;cases hp;exact h
theorem SOkD.no:∀ p,s=some p→∀ i,start (Tk ys) i=false→p i=.error (50,i):=by
  rcases h with ⟨_,rfl⟩ | ⟨_,r,rfl,_,_,_,h,_⟩
  · intro p hp;cases hp
  · intro p hp;cases hp;exact h
end
end Go.Proofs.YtlpdjfimefjmcaaGreatDoor.Q
namespace Go.Proofs.YtlpdjfimefjmcaaGreatDoor.Q
open Go Go.RowKit Go.Proofs.Mm
section
variable {ys:List It} {len bp bw i:Nat} {vp:Value} {w:World}
set_option maxRecDepth 100000 in
set_option maxHeartbeats 1000000 in
theorem block_any (hw:Ws ys) {d:Nat} {s:Option (Nat→Syn.R (List Syn.St))} (hs:SOkD ys len bp bw vp d s) :
    RdS ys len bp bw vp 181 (fun v=>#[.pointer (some ⟨bp,0,none⟩),v,.int .i64 (d:Int)]) (Syn.block (Tk ys) (ys.length+1) s):=by
  intro w i v st0 m h hm hbm hb hv hcount
  rcases hs with ⟨rfl,rfl⟩ | ⟨hd,p,rfl,hcnt,hfit,hgood,hno,hR⟩
  · exact block_deep hw h v _
  obtain ⟨qv,cv,rfl⟩:=br_shape hb
  have h1:=is_ps h ⟨#[123]⟩
  rw [eq_text,is_text hw len i mk_123,show bl ⟨#[123]⟩=[123] from rfl] at h1
  obtain ⟨RR,hRR⟩:∃ RR,Syn.block (Tk ys) (ys.length+1) (some p) i=RR:=⟨_,rfl⟩
  show Calls _ _ _ _ (Ret ys len _ w (Syn.block (Tk ys) (ys.length+1) (some p) i) _)
  rw [hRR]
  have hR0:(Syn.want (Tk ys) i [123]).on (fun _ i=>(stF (Tk ys) p (ys.length+1) [] i).on fun l j=>(Syn.want (Tk ys) j [125]).on fun _ j=>.ok (l,j))=RR:=by
    rw [← hRR]
    unfold Syn.block
    congr 1
    funext _ i
    rw [stmtsF_split (by decide) (by decide) (by decide) hno]
  clear hRR
  have hne:((d:Int) == 12)=false:=by simp;omega
  cases hx:Syn.is (Tk ys) i [123] with
  | false =>
    rw [hx] at h1
    have h2:=want_no h ⟨#[123]⟩ (by rw [eq_text,is_text hw len i mk_123];exact hx) (TS bp (.slice qv st0.length cv))
    have HE:=Lib.hid (show RR=.error (50,i) from by rw [← hR0,show Syn.want (Tk ys) i [123]=.error (50,i) from if_neg (by rw [hx];simp)];rfl)
    clear hx hR0
    go_enter Tryz.func181,Tryz.ntmps181
    go_wp2_with (first | (go_at_call 139;refine h1.mono ?_;rintro e w' ⟨rfl,rfl⟩) | (go_at_call 143;refine h2.mono ?_;rintro e w' ⟨rfl,hc⟩))
    exact ⟨rfl,ret_err HE.out hc⟩
  | true =>
    rw [hx] at h1
    have hlt:=lt_of_is hx
    have h2:=want_yes h hlt ⟨#[123]⟩ (by rw [eq_text,is_text hw len i mk_123];exact hx)
    have HR0:=Lib.hid (show (stF (Tk ys) p (ys.length+1) [] (i+1)).on (fun l j=>(Syn.want (Tk ys) j [125]).on fun _ j=>.ok (l,j))=RR from by rw [← hR0,show Syn.want (Tk ys) i [123]=.ok ((),i+1) from if_pos hx];rfl)
    have HRd:=Lib.hid hR
    have Hm:=Lib.hid hm
    have HB:=Lib.hid hb
    have HV:=Lib.hid hv
    have HP:=Lib.hid h
    clear hx hR0 hR hm hb hv h
    go_enter Tryz.func181,Tryz.ntmps181
    go_wp2_with (first | (go_at_call 139;refine h1.mono ?_;rintro e w' ⟨rfl,rfl⟩) | (go_at_call 143;refine h2.mono ?_;rintro e w1 ⟨rfl,hc1,hp1⟩))
    have h3:=ret_cases (HRd.out w1 (i+1) _ st0 m hp1 (Hm.out.chg hc1 (fun k e=>by subst e;exact hbm)) hbm (br_next HP.out HB.out hc1) HV.out (by omega))
    have C1:=Lib.hid (ts_of (v:=.slice qv st0.length cv) hc1)
    have hs1:=hc1.size
    clear hc1 hp1 h2 h1
    go_at_call 150
    refine h3.mono ?_
    rintro e w2 ⟨hc2,⟨er,k,hr,rfl⟩ | ⟨l,j,hr,v2,m2,rfl,hmo,hH,hb2,hB2,hv2,ho2,hp2⟩⟩
    · exact ⟨rfl,ret_err (by rw [← HR0.out,show stF (Tk ys) p (ys.length+1) [] (i+1)=_ from hr];rfl) (C1.out.then hc2)⟩
    obtain ⟨q2,c2,rfl⟩:=br_shape hB2
    have C2:=Lib.hid (C1.out.then hc2)
    have HR2:=Lib.hid (show (Syn.want (Tk ys) j [125]).on (fun _ j=>.ok (l,j))=RR from by rw [← HR0.out,show stF (Tk ys) p (ys.length+1) [] (i+1)=_ from hr];rfl)
    have h4:=want_at hw hp2 ⟨#[125]⟩ mk_125
    have HH:=Lib.hid hH
    have HB2:=Lib.hid hB2
    have HV2:=Lib.hid hv2
    have MO:=Lib.hid (hmo.from (w:=w) hs1)
    have HO:=Lib.hid (show Ob (.slice qv st0.length cv) w (.slice q2 (st0++l).length c2) from fun k hk=>by rcases ho2 k hk with q | q <;> first | exact .inl q | exact .inr (by omega))
    have HP2:=Lib.hid hp2
    clear hc2 hr h3 hmo hH hB2 hv2 ho2 hp2
    generalize hLn:(st0++l).length=Ln at *
    have HLn:=Lib.hid hLn
    clear hLn
    go_wp2_with fail
    go_at_call 143
    refine h4.mono ?_
    rintro e w3 ⟨hc3,⟨hr,rfl⟩ | ⟨hr,rfl,hp3⟩⟩
    · exact ⟨rfl,ret_err (by rw [← HR2.out,show ([125]:List Nat)=bl ⟨#[125]⟩ from rfl,hr];rfl) (C2.out.then (ts_of hc3))⟩
    have HEND:=Lib.hid (show Ret ys len (TS bp (.slice qv st0.length cv)) w RR (BOk ys len bp bw vp m st0 (.slice qv st0.length cv) w) (.returned (.slice q2 Ln c2)) w3 from
      ret_ok (x:=l) (j:=j+1) (by rw [← HR2.out,show ([125]:List Nat)=bl ⟨#[125]⟩ from rfl,hr];rfl) (C2.out.then (ts_of hc3)) ⟨_,m2,rfl,MO.out,HH.out.chg hc3 (fun k e=>by subst e;exact hb2),hb2,br_next HP2.out HB2.out hc3,HV2.out,HO.out,hp3⟩)
    clear hc3 hr hp3 h4
    go_wp2
    go_ret
    exact HEND.out
end
end Go.Proofs.YtlpdjfimefjmcaaGreatDoor.Q
namespace Go.Proofs.YtlpdjfimefjmcaaGreatDoor.Q
open Go Go.RowKit Go.Proofs.Mm
section
variable {ys:List It} {len bp bw i:Nat} {vp:Value} {w:World}
theorem br_app' (h:PS ys len bp bw vp w i) {m:Mem} {v v':Value} {l:List Syn.St} {n:Nat} {cs:List Value} (hn:l.length=n) (hr:w.ownsRow 0 47 4 v n cs) (he:Enc (StM m) cs l) (hH:Has w m) (hv:∀ k,v.ownBlock=some k→m k=none) {st:Syn.St} {cells:List Value} (hst:StM m cells st) {w9:World} (T:TypeId)
    (hown:w9.ownsRow 0 47 4 v' (n+1) (cs++cells)) (hg:(w.alloc (.cells cells.toArray T)).grownBy w9 v.ownBlock) (hat:v'.ownBlock=v.ownBlock ∨ v'.ownBlock=some (w.heap.size+1)) :
    (l++[st]).length=n+1∧BR w9 m v' (l++[st])∧Has w9 m∧(∀ k,v'.ownBlock=some k→m k=none)∧Ob v w v'∧PS ys len bp bw vp w9 i∧Chg (TS bp v) w w9:=by
  subst hn
  obtain ⟨a,b,c,d,e,f⟩:=br_app h hr he hH hv hst T hown hg hat
  exact ⟨by simp,a,b,c,d,e,f.mono (fun k q=>.inl (.inr q))⟩
theorem st_bare (m:Mem) (k:Nat):StM m [.int .i64 (k:Int),.string ⟨#[]⟩,.slice none 0 0,.slice none 0 0] ⟨k,[],[],[]⟩:=⟨_,_,rfl,str_nil m,ex_nil m⟩
theorem br_own {m:Mem} {v:Value} {l:List Syn.St} {n:Nat} (h:BR w m v l) (hn:l.length=n):∃ cs,w.ownsRow 0 47 4 v n cs∧Enc (StM m) cs l:=by subst hn;exact h
theorem mk_else:Mk (bl ⟨#[101,108,115,101]⟩)=true:=by decide
theorem tx_else : Syn.tx "else" = bl ⟨#[101, 108, 115, 101]⟩ := by decide
theorem ob_from {v v' v'':Value} {w w1:World} (h:Ob v w v') (h':Ob v' w1 v'') (hw:w.heap.size≤w1.heap.size):Ob v w v'':=h.trans h' hw
set_option maxRecDepth 100000 in
set_option maxHeartbeats 4000000 in
theorem loop_any (hw:Ws ys) {d:Nat} {s:Option (Nat→Syn.R (List Syn.St))} (hs:SOkD ys len bp bw vp d s) :
    RdS ys len bp bw vp 171 (fun v=>#[.pointer (some ⟨bp,0,none⟩),v,.int .i64 (d:Int)]) (loopP (Tk ys) (ys.length+1) s):=by
  intro w i v st0 m h hm hbm hb hv hcount
  obtain ⟨qv,cv,rfl⟩:=br_shape hb
  obtain ⟨n0,hn0⟩:∃ n0,st0.length=n0:=⟨_,rfl⟩
  rw [hn0] at hcount hb hv ⊢
  have HL0:=Lib.hid hn0
  obtain ⟨j0,hj0,hy0,hy1,hy2⟩:=infoSt
  obtain ⟨hlt,hlb⟩:=h.lt
  have hexp:=expr_at hw h hm hbm
  obtain ⟨RR,hRR⟩:∃ RR,loopP (Tk ys) (ys.length+1) s i=RR:=⟨_,rfl⟩
  rw [hRR]
  have HR0:=Lib.hid hRR
  have Hb:=Lib.hid hb
  have Hv:=Lib.hid hv
  have Hp:=Lib.hid h
  have Hm:=Lib.hid hm
  have hle0:=h.le
  clear hRR h hm hb hv hn0
  go_enter Tryz.func171,Tryz.ntmps171
  go_wp2_with fail
  go_at_call 175
  refine hexp.mono ?_
  rintro e w1 ⟨hc1,⟨er,k,hr,rfl⟩ | ⟨l,i1,q,c,m1,hr,rfl,hmo,hH,hb1,htm,hp1⟩⟩
  · exact ⟨rfl,ret_err (by rw [← HR0.out];unfold loopP;rw [hr];rfl) (ts_of hc1)⟩
  have hgo:=(Syn.expr_good 12 _ _ _ hr).2
  have hi1:=hp1.le
  obtain ⟨p1,p2,p3⟩:=put_new hH (.cells #[.slice q l.length c] 97)
  have hs1:=hc1.size
  have hz1:w.heap.size≤(w1.alloc (.cells #[.slice q l.length c] 97)).heap.size:=by simp;omega
  have HH1:=Lib.hid p1
  have hb1':(m1.put w1.heap.size (.cells #[.slice q l.length c] 97)) bp=none:=by rw [Mem.put_other (by omega)];exact hb1
  have MO1:=Lib.hid (hmo.trans p2 hs1)
  have EX:=Lib.hid (ex_one (g:=w1.heap.size) p3 (RowM.le htm p2.le))
  have HP1:=Lib.hid (hp1.alloc (.cells #[.slice q l.length c] 97))
  have HB1:=Lib.hid (br_le (br_alloc (br_next Hp.out Hb.out hc1) (.cells #[.slice q l.length c] 97)) MO1.out.le)
  have HV1:=Lib.hid (fun k (hk:Value.ownBlock (.slice qv n0 cv)=some k)=>MO1.out.new k (Hv.out k hk) (by obtain ⟨cs,h1,_⟩:=Hb.out;exact (h1.lt k hk).2))
  have HO1:=Lib.hid (show Ob (.slice qv n0 cv) w (.slice qv n0 cv) from fun k hk=>.inl hk)
  have C1:=Lib.hid ((ts_of (v:=.slice qv n0 cv) hc1).alloc (.cells #[.slice q l.length c] 97))
  have HL1:=HL0
  have HST:=Lib.hid (show StM (m1.put w1.heap.size (.cells #[.slice q l.length c] 97)) [.int .i64 7,.string ⟨#[]⟩,.slice none 0 0,.slice (some ⟨w1.heap.size,0,none⟩) 1 1] ⟨7,[],[],[l]⟩ from ⟨_,_,rfl,str_nil _,EX.out⟩)
  have HR2:=Lib.hid (show (Syn.block (Tk ys) (ys.length+1) s i1).on (fun a i=>.ok ((⟨7,[],[],[l]⟩:Syn.St) :: a++[(⟨8,[],[],[]⟩:Syn.St)],i))=RR from by rw [← HR0.out];unfold loopP;rw [hr];rfl)
  clear hc1 hr hexp hmo hH hb1 htm hp1 p1 p2 p3
  generalize (m1.put w1.heap.size (.cells #[.slice q l.length c] 97))=m2 at *
  have hnw:=row_new (w1.alloc (.cells #[.slice q l.length c] 97)) [.int .i64 7,.string ⟨#[]⟩,.slice none 0 0,.slice (some ⟨w1.heap.size,0,none⟩) 1 1] 47
  rw [World.size_alloc] at hnw
  obtain ⟨cs1,hr1,he1⟩:=br_own HB1.out HL1.out
  go_wp2_with (at_builtin;refine wpList_append_own_at _ rfl _ _ 41 rfl 0 47 j0 _ 4 72 Tryz.underlying41 hj0 hy0 hy1 hy2 rfl (by decide) _ _ _ rfl (hr1.alloc _) ⟨w1.heap.size+1,0,none⟩ 1 1 [.int .i64 7,.string ⟨#[]⟩,.slice none 0 0,.slice (some ⟨w1.heap.size,0,none⟩) 1 1] rfl rfl hnw (st_one _ _ _ _ _ _ _ _) (by unfold maxLen;omega) (by omega) (Nat.zero_le _) ?_)
  intro v2 w2 hown1 hgrow1 _ hat1
  obtain ⟨q2,c2,rfl⟩:=own_shape hown1
  obtain ⟨z1,z2,z3,z4,z5,z6,z7⟩:=br_app' HP1.out HL1.out hr1 he1 HH1.out HV1.out (cells:=[.int .i64 7,.string ⟨#[]⟩,.slice none 0 0,.slice (some ⟨w1.heap.size,0,none⟩) 1 1]) HST.out 47 hown1 hgrow1 (by simpa using hat1)
  have hz2:w.heap.size≤w2.heap.size:=by have:=z7.size;omega
  have HL2:=Lib.hid z1
  have HB2:=Lib.hid z2
  have HH2:=Lib.hid z3
  have HV2:=Lib.hid z4
  have HO2:=Lib.hid (ob_from HO1.out z5 hz1)
  have HP2:=Lib.hid z6
  have C2:=Lib.hid (show Chg (TS bp (.slice qv n0 cv)) w w2 from C1.out.trans z7 (fun k e=>HO1.out.ts k e))
  clear z1 z2 z3 z4 z5 z6 z7 hown1 hgrow1 hat1 hr1 he1
  have hb2:=hb1'
  have MO2:=MO1
  have hblk:=ret_cases (block_any (len:=len) (bp:=bp) (bw:=bw) (vp:=vp) hw hs w2 i1 _ (st0++[(⟨7,[],[],[l]⟩:Syn.St)]) m2 HP2.out HH2.out hb2 HB2.out HV2.out (by rw [HL2.out];omega))
  go_wp2_with fail
  go_at_call 181
  refine hblk.mono ?_
  rintro e w3 ⟨hc,⟨er,k,hr,rfl⟩ | ⟨a2,j2,hr,v3,m3,rfl,hmo,hH,hb3,hB,hv,ho,hp⟩⟩
  · exact ⟨rfl,ret_err (by rw [← HR2.out,hr];rfl) (C2.out.trans hc (fun k e=>HO2.out.ts k e))⟩
  obtain ⟨q3,c3,rfl⟩:=br_shape hB
  have hz3:w.heap.size≤w3.heap.size:=by have:=hc.size;omega
  have C3:=Lib.hid (show Chg (TS bp (.slice qv n0 cv)) w w3 from C2.out.trans hc (fun k e=>HO2.out.ts k e))
  have HR3:=Lib.hid (show .ok ((⟨7,[],[],[l]⟩:Syn.St) :: a2++[(⟨8,[],[],[]⟩:Syn.St)],j2)=RR from by rw [← HR2.out,hr];rfl)
  have HH3:=Lib.hid hH
  have HB3:=Lib.hid hB
  have HV3:=Lib.hid hv
  have MO3:=Lib.hid (MO2.out.trans (hmo.from (w:=w) hz2) (Nat.le_refl _))
  have HO3:=Lib.hid (show Ob (.slice qv n0 cv) w (.slice q3 ((st0++[(⟨7,[],[],[l]⟩:Syn.St)])++a2).length c3) from HO2.out.trans ho hz2)
  have HP3:=Lib.hid hp
  have hcnt2:=block_cnt hs.cnt hs.no hr
  have hpos2:=hp.le
  obtain ⟨n3,hn3⟩:∃ n,((st0++[(⟨7,[],[],[l]⟩:Syn.St)])++a2).length=n:=⟨_,rfl⟩
  have hnn3:n3≤(n0+1)+a2.length:=by rw [← hn3,List.length_append,HL2.out];exact Nat.le_refl _
  rw [hn3] at HB3 HV3 HO3
  rw [hn3]
  have HL3:=Lib.hid hn3
  clear hc hr hblk hmo hH hB hv ho hp hn3
  obtain ⟨cs3,hr3,he3⟩:=br_own HB3.out HL3.out
  go_wp2_with (at_builtin;refine wpList_append_own_at _ rfl _ _ 41 rfl 0 47 j0 _ 4 72 Tryz.underlying41 hj0 hy0 hy1 hy2 rfl (by decide) _ _ _ rfl (hr3.alloc _) ⟨w3.heap.size,0,none⟩ 1 1 [.int .i64 8,.string ⟨#[]⟩,.slice none 0 0,.slice none 0 0] rfl rfl (row_new w3 [.int .i64 8,.string ⟨#[]⟩,.slice none 0 0,.slice none 0 0] 47) (st_one _ _ _ _ _ _ _ _) (by unfold maxLen;omega) (by omega) (Nat.zero_le _) ?_)
  intro v4 w4 hown3 hgrow3 _ hat3
  obtain ⟨q4,c4,rfl⟩:=own_shape hown3
  obtain ⟨z1,z2,z3,z4,z5,z6,z7⟩:=br_app' HP3.out HL3.out hr3 he3 HH3.out HV3.out (cells:=[.int .i64 8,.string ⟨#[]⟩,.slice none 0 0,.slice none 0 0]) (st_bare _ 8) 47 hown3 hgrow3 hat3
  have hz4:w.heap.size≤w4.heap.size:=by have:=z7.size;omega
  have HL4:=Lib.hid z1
  have HB4:=Lib.hid z2
  have HH4:=Lib.hid z3
  have HV4:=Lib.hid z4
  have HO4:=Lib.hid (ob_from HO3.out z5 hz3)
  have HP4:=Lib.hid z6
  have C4:=Lib.hid (show Chg (TS bp (.slice qv n0 cv)) w w4 from C3.out.trans z7 (fun k e=>HO3.out.ts k e))
  clear z1 z2 z3 z4 z5 z6 z7 hown3 hgrow3 hat3 hr3 he3
  have HEND:=Lib.hid (show Ret ys len (TS bp (.slice qv n0 cv)) w RR (BOk ys len bp bw vp m st0 (.slice qv n0 cv) w) (.returned (.slice q4 (n3+1) c4)) w4 from
    ret_ok (x:=(⟨7,[],[],[l]⟩:Syn.St) :: a2++[(⟨8,[],[],[]⟩:Syn.St)]) (j:=j2) HR3.out.symm C4.out ⟨_,m3,rfl,MO3.out,HH4.out,hb3,(by
      have hx:=HB4.out
      rw [show (st0++[(⟨7,[],[],[l]⟩:Syn.St)])++a2++[(⟨8,[],[],[]⟩:Syn.St)]=st0++((⟨7,[],[],[l]⟩:Syn.St) :: a2++[(⟨8,[],[],[]⟩:Syn.St)]) from by simp [List.append_assoc]] at hx
      exact hx),HV4.out,HO4.out,HP4.out⟩)
  go_wp2
  go_ret
  exact HEND.out
set_option maxRecDepth 100000 in
set_option maxHeartbeats 4000000 in
theorem branch_any (hw:Ws ys) {d:Nat} {s:Option (Nat→Syn.R (List Syn.St))} (hs:SOkD ys len bp bw vp d s) :
    RdS ys len bp bw vp 170 (fun v=>#[.pointer (some ⟨bp,0,none⟩),v,.int .i64 (d:Int)]) (branchP (Tk ys) (ys.length+1) s):=by
  intro w i v st0 m h hm hbm hb hv hcount
  obtain ⟨qv,cv,rfl⟩:=br_shape hb
  obtain ⟨n0,hn0⟩:∃ n0,st0.length=n0:=⟨_,rfl⟩
  rw [hn0] at hcount hb hv ⊢
  have HL0:=Lib.hid hn0
  obtain ⟨j0,hj0,hy0,hy1,hy2⟩:=infoSt
  obtain ⟨hlt,hlb⟩:=h.lt
  have hexp:=expr_at hw h hm hbm
  obtain ⟨RR,hRR⟩:∃ RR,branchP (Tk ys) (ys.length+1) s i=RR:=⟨_,rfl⟩
  rw [hRR]
  have HR0:=Lib.hid hRR
  have Hb:=Lib.hid hb
  have Hv:=Lib.hid hv
  have Hp:=Lib.hid h
  have Hm:=Lib.hid hm
  have hle0:=h.le
  clear hRR h hm hb hv hn0
  go_enter Tryz.func170,Tryz.ntmps170
  go_wp2_with fail
  go_at_call 175
  refine hexp.mono ?_
  rintro e w1 ⟨hc1,⟨er,k,hr,rfl⟩ | ⟨l,i1,q,c,m1,hr,rfl,hmo,hH,hb1,htm,hp1⟩⟩
  · exact ⟨rfl,ret_err (by rw [← HR0.out];unfold branchP;rw [hr];rfl) (ts_of hc1)⟩
  have hgo:=(Syn.expr_good 12 _ _ _ hr).2
  have hi1:=hp1.le
  obtain ⟨p1,p2,p3⟩:=put_new hH (.cells #[.slice q l.length c] 97)
  have hs1:=hc1.size
  have hz1:w.heap.size≤(w1.alloc (.cells #[.slice q l.length c] 97)).heap.size:=by simp;omega
  have HH1:=Lib.hid p1
  have hb1':(m1.put w1.heap.size (.cells #[.slice q l.length c] 97)) bp=none:=by rw [Mem.put_other (by omega)];exact hb1
  have MO1:=Lib.hid (hmo.trans p2 hs1)
  have EX:=Lib.hid (ex_one (g:=w1.heap.size) p3 (RowM.le htm p2.le))
  have HP1:=Lib.hid (hp1.alloc (.cells #[.slice q l.length c] 97))
  have HB1:=Lib.hid (br_le (br_alloc (br_next Hp.out Hb.out hc1) (.cells #[.slice q l.length c] 97)) MO1.out.le)
  have HV1:=Lib.hid (fun k (hk:Value.ownBlock (.slice qv n0 cv)=some k)=>MO1.out.new k (Hv.out k hk) (by obtain ⟨cs,h1,_⟩:=Hb.out;exact (h1.lt k hk).2))
  have HO1:=Lib.hid (show Ob (.slice qv n0 cv) w (.slice qv n0 cv) from fun k hk=>.inl hk)
  have C1:=Lib.hid ((ts_of (v:=.slice qv n0 cv) hc1).alloc (.cells #[.slice q l.length c] 97))
  have HL1:=HL0
  have HST:=Lib.hid (show StM (m1.put w1.heap.size (.cells #[.slice q l.length c] 97)) [.int .i64 5,.string ⟨#[]⟩,.slice none 0 0,.slice (some ⟨w1.heap.size,0,none⟩) 1 1] ⟨5,[],[],[l]⟩ from ⟨_,_,rfl,str_nil _,EX.out⟩)
  have HR2 := Lib.hid (show (Syn.block (Tk ys) (ys.length + 1) s i1).on (fun a i => if Syn.is (Tk ys) i (Syn.tx "else") then (Syn.block (Tk ys) (ys.length + 1) s (i + 1)).on fun b i => .ok ((⟨5, [], [], [l]⟩ : Syn.St) :: a ++ ⟨6, [], [], []⟩ :: b ++ [(⟨8, [], [], []⟩ : Syn.St)], i) else .ok ((⟨5, [], [], [l]⟩ : Syn.St) :: a ++ [(⟨8, [], [], []⟩ : Syn.St)], i)) = RR from by rw [← HR0.out]; unfold branchP; rw [hr]; rfl)
  clear hc1 hr hexp hmo hH hb1 htm hp1 p1 p2 p3
  generalize (m1.put w1.heap.size (.cells #[.slice q l.length c] 97))=m2 at *
  have hnw:=row_new (w1.alloc (.cells #[.slice q l.length c] 97)) [.int .i64 5,.string ⟨#[]⟩,.slice none 0 0,.slice (some ⟨w1.heap.size,0,none⟩) 1 1] 47
  rw [World.size_alloc] at hnw
  obtain ⟨cs1,hr1,he1⟩:=br_own HB1.out HL1.out
  go_wp2_with (at_builtin;refine wpList_append_own_at _ rfl _ _ 41 rfl 0 47 j0 _ 4 72 Tryz.underlying41 hj0 hy0 hy1 hy2 rfl (by decide) _ _ _ rfl (hr1.alloc _) ⟨w1.heap.size+1,0,none⟩ 1 1 [.int .i64 5,.string ⟨#[]⟩,.slice none 0 0,.slice (some ⟨w1.heap.size,0,none⟩) 1 1] rfl rfl hnw (st_one _ _ _ _ _ _ _ _) (by unfold maxLen;omega) (by omega) (Nat.zero_le _) ?_)
  intro v2 w2 hown1 hgrow1 _ hat1
  obtain ⟨q2,c2,rfl⟩:=own_shape hown1
  obtain ⟨z1,z2,z3,z4,z5,z6,z7⟩:=br_app' HP1.out HL1.out hr1 he1 HH1.out HV1.out (cells:=[.int .i64 5,.string ⟨#[]⟩,.slice none 0 0,.slice (some ⟨w1.heap.size,0,none⟩) 1 1]) HST.out 47 hown1 hgrow1 (by simpa using hat1)
  have hz2:w.heap.size≤w2.heap.size:=by have:=z7.size;omega
  have HL2:=Lib.hid z1
  have HB2:=Lib.hid z2
  have HH2:=Lib.hid z3
  have HV2:=Lib.hid z4
  have HO2:=Lib.hid (ob_from HO1.out z5 hz1)
  have HP2:=Lib.hid z6
  have C2:=Lib.hid (show Chg (TS bp (.slice qv n0 cv)) w w2 from C1.out.trans z7 (fun k e=>HO1.out.ts k e))
  clear z1 z2 z3 z4 z5 z6 z7 hown1 hgrow1 hat1 hr1 he1
  have hb2:=hb1'
  have MO2:=MO1
  have hblk:=ret_cases (block_any (len:=len) (bp:=bp) (bw:=bw) (vp:=vp) hw hs w2 i1 _ (st0++[(⟨5,[],[],[l]⟩:Syn.St)]) m2 HP2.out HH2.out hb2 HB2.out HV2.out (by rw [HL2.out];omega))
  go_wp2_with fail
  go_at_call 181
  refine hblk.mono ?_
  rintro e w3 ⟨hc,⟨er,k,hr,rfl⟩ | ⟨a2,j2,hr,v3,m3,rfl,hmo,hH,hb3,hB,hv,ho,hp⟩⟩
  · exact ⟨rfl,ret_err (by rw [← HR2.out,hr];rfl) (C2.out.trans hc (fun k e=>HO2.out.ts k e))⟩
  obtain ⟨q3,c3,rfl⟩:=br_shape hB
  have hz3:w.heap.size≤w3.heap.size:=by have:=hc.size;omega
  have C3:=Lib.hid (show Chg (TS bp (.slice qv n0 cv)) w w3 from C2.out.trans hc (fun k e=>HO2.out.ts k e))
  have HR3 := Lib.hid (show (if Syn.is (Tk ys) j2 (Syn.tx "else") then (Syn.block (Tk ys) (ys.length + 1) s (j2 + 1)).on fun b i => .ok ((⟨5, [], [], [l]⟩ : Syn.St) :: a2 ++ ⟨6, [], [], []⟩ :: b ++ [(⟨8, [], [], []⟩ : Syn.St)], i) else .ok ((⟨5, [], [], [l]⟩ : Syn.St) :: a2 ++ [(⟨8, [], [], []⟩ : Syn.St)], j2)) = RR from by rw [← HR2.out, hr]; rfl)
  have HH3:=Lib.hid hH
  have HB3:=Lib.hid hB
  have HV3:=Lib.hid hv
  have MO3:=Lib.hid (MO2.out.trans (hmo.from (w:=w) hz2) (Nat.le_refl _))
  have HO3:=Lib.hid (show Ob (.slice qv n0 cv) w (.slice q3 ((st0++[(⟨5,[],[],[l]⟩:Syn.St)])++a2).length c3) from HO2.out.trans ho hz2)
  have HP3:=Lib.hid hp
  have hcnt2:=block_cnt hs.cnt hs.no hr
  have hpos2:=hp.le
  obtain ⟨n3,hn3⟩:∃ n,((st0++[(⟨5,[],[],[l]⟩:Syn.St)])++a2).length=n:=⟨_,rfl⟩
  have hnn3:n3≤(n0+1)+a2.length:=by rw [← hn3,List.length_append,HL2.out];exact Nat.le_refl _
  rw [hn3] at HB3 HV3 HO3
  rw [hn3]
  have HL3:=Lib.hid hn3
  clear hc hr hblk hmo hH hB hv ho hp hn3
  cases hx : Syn.is (Tk ys) j2 (Syn.tx "else") with
  | false =>
    have HR4:=Lib.hid (show .ok ((⟨5,[],[],[l]⟩:Syn.St) :: a2++[(⟨8,[],[],[]⟩:Syn.St)],j2)=RR from by rw [← HR3.out,hx];rfl)
    have hsk:=skip_f hw HP3.out ⟨#[101,108,115,101]⟩ mk_else (by rw [← tx_else];exact hx)
    clear hx
    go_wp2_with fail
    go_at_call 115
    refine hsk.mono ?_
    rintro e w' ⟨rfl,rfl⟩
    clear hsk
    obtain ⟨cs3,hr3,he3⟩:=br_own HB3.out HL3.out
    go_wp2_with (at_builtin;refine wpList_append_own_at _ rfl _ _ 41 rfl 0 47 j0 _ 4 72 Tryz.underlying41 hj0 hy0 hy1 hy2 rfl (by decide) _ _ _ rfl (hr3.alloc _) ⟨w3.heap.size,0,none⟩ 1 1 [.int .i64 8,.string ⟨#[]⟩,.slice none 0 0,.slice none 0 0] rfl rfl (row_new w3 [.int .i64 8,.string ⟨#[]⟩,.slice none 0 0,.slice none 0 0] 47) (st_one _ _ _ _ _ _ _ _) (by unfold maxLen;omega) (by omega) (Nat.zero_le _) ?_)
    intro v4 w4 hown3 hgrow3 _ hat3
    obtain ⟨q4,c4,rfl⟩:=own_shape hown3
    obtain ⟨z1,z2,z3,z4,z5,z6,z7⟩:=br_app' HP3.out HL3.out hr3 he3 HH3.out HV3.out (cells:=[.int .i64 8,.string ⟨#[]⟩,.slice none 0 0,.slice none 0 0]) (st_bare _ 8) 47 hown3 hgrow3 hat3
    have hz4:w.heap.size≤w4.heap.size:=by have:=z7.size;omega
    have HL4:=Lib.hid z1
    have HB4:=Lib.hid z2
    have HH4:=Lib.hid z3
    have HV4:=Lib.hid z4
    have HO4:=Lib.hid (ob_from HO3.out z5 hz3)
    have HP4:=Lib.hid z6
    have C4:=Lib.hid (show Chg (TS bp (.slice qv n0 cv)) w w4 from C3.out.trans z7 (fun k e=>HO3.out.ts k e))
    clear z1 z2 z3 z4 z5 z6 z7 hown3 hgrow3 hat3 hr3 he3
    have HEND:=Lib.hid (show Ret ys len (TS bp (.slice qv n0 cv)) w RR (BOk ys len bp bw vp m st0 (.slice qv n0 cv) w) (.returned (.slice q4 (n3+1) c4)) w4 from
      ret_ok (x:=(⟨5,[],[],[l]⟩:Syn.St) :: a2++[(⟨8,[],[],[]⟩:Syn.St)]) (j:=j2) HR4.out.symm C4.out ⟨_,m3,rfl,MO3.out,HH4.out,hb3,(by
        have hx:=HB4.out
        rw [show (st0++[(⟨5,[],[],[l]⟩:Syn.St)])++a2++[(⟨8,[],[],[]⟩:Syn.St)]=st0++((⟨5,[],[],[l]⟩:Syn.St) :: a2++[(⟨8,[],[],[]⟩:Syn.St)]) from by simp [List.append_assoc]] at hx
        exact hx),HV4.out,HO4.out,HP4.out⟩)
    go_wp2
    go_ret
    exact HEND.out
  | true =>
    have hlt2:=lt_of_is hx
    have HR5:=Lib.hid (show (Syn.block (Tk ys) (ys.length+1) s (j2+1)).on (fun b i=>.ok ((⟨5,[],[],[l]⟩:Syn.St) :: a2++⟨6,[],[],[]⟩ :: b++[(⟨8,[],[],[]⟩:Syn.St)],i))=RR from by rw [← HR3.out,hx];rfl)
    have hsk:=skip_t hw HP3.out ⟨#[101,108,115,101]⟩ mk_else (by rw [← tx_else];exact hx)
    clear hx
    go_wp2_with fail
    go_at_call 115
    refine hsk.mono ?_
    rintro e w4 ⟨rfl,hc4,hp4⟩
    have hz4:w.heap.size≤w4.heap.size:=by have:=hc4.size;omega
    have HB4:=Lib.hid (br_next HP3.out HB3.out hc4)
    have HH4:=Lib.hid (HH3.out.chg hc4 (fun k e=>by subst e;exact hb3))
    have HV4:=HV3
    have HO4:=HO3
    have HL4:=HL3
    have HP4:=Lib.hid hp4
    have C4:=Lib.hid (C3.out.then (ts_of hc4))
    clear hsk hc4 hp4
    obtain ⟨cs4,hr4,he4⟩:=br_own HB4.out HL4.out
    go_wp2_with (at_builtin;refine wpList_append_own_at _ rfl _ _ 41 rfl 0 47 j0 _ 4 72 Tryz.underlying41 hj0 hy0 hy1 hy2 rfl (by decide) _ _ _ rfl (hr4.alloc _) ⟨w4.heap.size,0,none⟩ 1 1 [.int .i64 6,.string ⟨#[]⟩,.slice none 0 0,.slice none 0 0] rfl rfl (row_new w4 [.int .i64 6,.string ⟨#[]⟩,.slice none 0 0,.slice none 0 0] 47) (st_one _ _ _ _ _ _ _ _) (by unfold maxLen;omega) (by omega) (Nat.zero_le _) ?_)
    intro v5 w5 hown4 hgrow4 _ hat4
    obtain ⟨q5,c5,rfl⟩:=own_shape hown4
    obtain ⟨z1,z2,z3,z4,z5,z6,z7⟩:=br_app' HP4.out HL4.out hr4 he4 HH4.out HV4.out (cells:=[.int .i64 6,.string ⟨#[]⟩,.slice none 0 0,.slice none 0 0]) (st_bare _ 6) 47 hown4 hgrow4 hat4
    have hz5:w.heap.size≤w5.heap.size:=by have:=z7.size;omega
    have HL5:=Lib.hid z1
    have HB5:=Lib.hid z2
    have HH5:=Lib.hid z3
    have HV5:=Lib.hid z4
    have HO5:=Lib.hid (ob_from HO4.out z5 hz4)
    have HP5:=Lib.hid z6
    have C5:=Lib.hid (show Chg (TS bp (.slice qv n0 cv)) w w5 from C4.out.trans z7 (fun k e=>HO4.out.ts k e))
    clear z1 z2 z3 z4 z5 z6 z7 hown4 hgrow4 hat4 hr4 he4
    have hb5:=hb3
    have MO5:=MO3
    have hblk:=ret_cases (block_any (len:=len) (bp:=bp) (bw:=bw) (vp:=vp) hw hs w5 (j2+1) _ ((st0++[(⟨5,[],[],[l]⟩:Syn.St)])++a2++[(⟨6,[],[],[]⟩:Syn.St)]) m3 HP5.out HH5.out hb5 HB5.out HV5.out (by rw [HL5.out];omega))
    go_wp2_with fail
    go_at_call 181
    refine hblk.mono ?_
    rintro e w6 ⟨hc,⟨er,k,hr,rfl⟩ | ⟨a5,j5,hr,v6,m6,rfl,hmo,hH,hb6,hB,hv,ho,hp⟩⟩
    · exact ⟨rfl,ret_err (by rw [← HR5.out,hr];rfl) (C5.out.trans hc (fun k e=>HO5.out.ts k e))⟩
    obtain ⟨q6,c6,rfl⟩:=br_shape hB
    have hz6:w.heap.size≤w6.heap.size:=by have:=hc.size;omega
    have C6:=Lib.hid (show Chg (TS bp (.slice qv n0 cv)) w w6 from C5.out.trans hc (fun k e=>HO5.out.ts k e))
    have HR6:=Lib.hid (show .ok ((⟨5,[],[],[l]⟩:Syn.St) :: a2++⟨6,[],[],[]⟩ :: a5++[(⟨8,[],[],[]⟩:Syn.St)],j5)=RR from by rw [← HR5.out,hr];rfl)
    have HH6:=Lib.hid hH
    have HB6:=Lib.hid hB
    have HV6:=Lib.hid hv
    have MO6:=Lib.hid (MO5.out.trans (hmo.from (w:=w) hz5) (Nat.le_refl _))
    have HO6:=Lib.hid (show Ob (.slice qv n0 cv) w (.slice q6 (((st0++[(⟨5,[],[],[l]⟩:Syn.St)])++a2++[(⟨6,[],[],[]⟩:Syn.St)])++a5).length c6) from HO5.out.trans ho hz5)
    have HP6:=Lib.hid hp
    have hcnt5:=block_cnt hs.cnt hs.no hr
    have hpos5:=hp.le
    obtain ⟨n6,hn6⟩:∃ n,(((st0++[(⟨5,[],[],[l]⟩:Syn.St)])++a2++[(⟨6,[],[],[]⟩:Syn.St)])++a5).length=n:=⟨_,rfl⟩
    have hnn6:n6≤(n3+1)+a5.length:=by rw [← hn6,List.length_append,HL5.out];exact Nat.le_refl _
    rw [hn6] at HB6 HV6 HO6
    rw [hn6]
    have HL6:=Lib.hid hn6
    clear hc hr hblk hmo hH hB hv ho hp hn6
    obtain ⟨cs6,hr6,he6⟩:=br_own HB6.out HL6.out
    go_wp2_with (at_builtin;refine wpList_append_own_at _ rfl _ _ 41 rfl 0 47 j0 _ 4 72 Tryz.underlying41 hj0 hy0 hy1 hy2 rfl (by decide) _ _ _ rfl (hr6.alloc _) ⟨w6.heap.size,0,none⟩ 1 1 [.int .i64 8,.string ⟨#[]⟩,.slice none 0 0,.slice none 0 0] rfl rfl (row_new w6 [.int .i64 8,.string ⟨#[]⟩,.slice none 0 0,.slice none 0 0] 47) (st_one _ _ _ _ _ _ _ _) (by unfold maxLen;omega) (by omega) (Nat.zero_le _) ?_)
    intro v7 w7 hown6 hgrow6 _ hat6
    obtain ⟨q7,c7,rfl⟩:=own_shape hown6
    obtain ⟨z1,z2,z3,z4,z5,z6,z7⟩:=br_app' HP6.out HL6.out hr6 he6 HH6.out HV6.out (cells:=[.int .i64 8,.string ⟨#[]⟩,.slice none 0 0,.slice none 0 0]) (st_bare _ 8) 47 hown6 hgrow6 hat6
    have hz7:w.heap.size≤w7.heap.size:=by have:=z7.size;omega
    have HL7:=Lib.hid z1
    have HB7:=Lib.hid z2
    have HH7:=Lib.hid z3
    have HV7:=Lib.hid z4
    have HO7:=Lib.hid (ob_from HO6.out z5 hz6)
    have HP7:=Lib.hid z6
    have C7:=Lib.hid (show Chg (TS bp (.slice qv n0 cv)) w w7 from C6.out.trans z7 (fun k e=>HO6.out.ts k e))
    clear z1 z2 z3 z4 z5 z6 z7 hown6 hgrow6 hat6 hr6 he6
    have HEND:=Lib.hid (show Ret ys len (TS bp (.slice qv n0 cv)) w RR (BOk ys len bp bw vp m st0 (.slice qv n0 cv) w) (.returned (.slice q7 (n6+1) c7)) w7 from
      ret_ok (x:=(⟨5,[],[],[l]⟩:Syn.St) :: a2++⟨6,[],[],[]⟩ :: a5++[(⟨8,[],[],[]⟩:Syn.St)]) (j:=j5) HR6.out.symm C7.out ⟨_,m6,rfl,MO6.out,HH7.out,hb6,(by
        have hx:=HB7.out
        rw [show (st0++[(⟨5,[],[],[l]⟩:Syn.St)])++a2++[(⟨6,[],[],[]⟩:Syn.St)]++a5++[(⟨8,[],[],[]⟩:Syn.St)]=st0++((⟨5,[],[],[l]⟩:Syn.St) :: a2++⟨6,[],[],[]⟩ :: a5++[(⟨8,[],[],[]⟩:Syn.St)]) from by simp [List.append_assoc]] at hx
        exact hx),HV7.out,HO7.out,HP7.out⟩)
    go_wp2
    go_ret
    exact HEND.out
end
end Go.Proofs.YtlpdjfimefjmcaaGreatDoor.Q
