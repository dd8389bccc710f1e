/- source of the parser. -/
import Derived.Test.YtlpdjfimefjmcaaGreatDoorFlOpenPR33
import Derived.Deep.Cut
open Go.Lib (hid)
namespace Go.Proofs.YtlpdjfimefjmcaaGreatDoor.Q
open Go Go.RowKit Go.Proofs.Mm
section
variable (T:Nat→Option Syn.K) (F:Nat)
def declsP (ns:List (List Nat)):Nat→Syn.So→Nat→Syn.R Syn.So
 | 0,_,i=>.error (99,i)
 | f+1,s,i =>
  if Syn.is T i (Syn.tx "global") then (declLP T F ns (i + 1)).on fun d i => declsP ns f { s with globals := s.globals ++ [d] } i
  else if Syn.is T i (Syn.tx "array") then (arrLP T F ns (i + 1)).on fun d i => declsP ns f { s with arrays := s.arrays ++ [d] } i
  else if Syn.is T i (Syn.tx "channel") then (declLP T F ns (i + 1)).on fun d i => declsP ns f { s with channels := s.channels ++ [d] } i
  else if Syn.is T i (Syn.tx "func") then (Syn.func T F ns (i + 1)).on fun d i => declsP ns f { s with funcs := s.funcs ++ [d] } i
  else .ok (s,i)
def endP {α:Type} (s:α) (i:Nat):Syn.R α:=if (T i).isSome then .error (50,i) else .ok (s,i)
def srcP:Syn.R Syn.So:=(Syn.principalsF T F F [] 0).on fun ns i=>declsP T F ns F ⟨ns,[],[],[],[]⟩ i
variable {T} in
theorem is_two {i:Nat} {s s':List Nat} (h:Syn.is T i s=true) (hn:s≠s'):Syn.is T i s'=false:=by
 unfold Syn.is at h ⊢
 split
 ·rename_i k hk
  rw [hk] at h
  simp only [Bool.and_eq_true,beq_iff_eq] at h
  rw [h.2]
  simp [hn]
 ·rfl
theorem decls_eq (ns:List (List Nat)):∀(f:Nat) (s:Syn.So) (i:Nat),(declsP T F ns f s i).on (endP T)=Syn.declsF T F ns f s i
 | 0,_,_=>rfl
 | f+1,s,i=>by
  rw [declsP,Syn.declsF]
  cases hT:T i with
  | none =>
   have hno:∀t,Syn.is T i t=false:=by intro t;unfold Syn.is;rw [hT]
   simp only [hno]
   show endP T s i=_
   unfold endP;rw [hT];rfl
  | some k =>
   simp only
   by_cases h1 : Syn.is T i (Syn.tx "global") = true
   ·rw [if_pos h1,if_pos h1];simp only [declLP,on_on,on_ok',decls_eq ns f]
   ·rw [if_neg h1,if_neg h1]
    by_cases h2 : Syn.is T i (Syn.tx "channel") = true
    ·rw [if_neg (by rw [is_two h2 (by decide)];simp),if_pos h2,if_pos h2];simp only [declLP,on_on,on_ok',decls_eq ns f]
    ·rw [if_neg h2,if_neg h2]
     by_cases h3 : Syn.is T i (Syn.tx "array") = true
     ·rw [if_pos h3,if_pos h3];simp only [arrLP,on_on,on_ok',decls_eq ns f]
     ·rw [if_neg h3,if_neg h3]
      by_cases h4 : Syn.is T i (Syn.tx "func") = true
      ·rw [if_pos h4,if_pos h4];simp only [on_on,decls_eq ns f]
      ·rw [if_neg h4,if_neg h4,on_ok'];unfold endP;rw [hT];rfl
theorem src_eq:(srcP T F).on (endP T)=Syn.source T F:=by
 unfold srcP Syn.source
 rw [on_on]
 congr 1
 funext ns i
 exact decls_eq T F ns F _ i
theorem prin_split (f : Nat) (l : List (List Nat)) (i : Nat) : Syn.principalsF T F (f + 1) l i = if Syn.is T i (Syn.tx "principal") then (lineG T F l (i + 1)).on fun l i => Syn.principalsF T F f l i else .ok (l, i) := by
 rw [Syn.principalsF];unfold lineG;simp only [on_on,on_ok']
variable {T F}
theorem arrLP_ge {n:Nat} (hN:∀i,n≤i→T i=none) (hF:n<F) {ns:List (List Nat)} {i j:Nat} {x:Syn.Ar} (hi:i≤n) (h:arrLP T F ns i=.ok (x,j)):i≤j:=by
 unfold arrLP at h
 obtain ⟨a,i1,h1,h⟩:=Syn.R.on_ok h
 obtain ⟨b,i2,h2,h⟩:=Syn.R.on_ok h
 obtain ⟨c,i3,h3,h⟩:=Syn.R.on_ok h
 obtain ⟨d,i4,h4,h⟩:=Syn.R.on_ok h
 injection h with h;injection h with _ h
 have e1:=(Syn.name_ok h1).2.1
 have e2:i2=i1+1:=by
  unfold Syn.number at h2
  split at h2
  ·split at h2
   ·injection h2 with h2;injection h2 with _ h2;exact h2.symm
   ·cases h2
  ·cases h2
 have l2:i2≤n:=(Syn.number_fit hN (i:=i1) ((Syn.name_fit hN hi).pos h1)).pos h2
 have e3:=(Syn.label_fitP hN hF ns i2 l2).2 _ _ h3
 have e4:=(Syn.want_ok h4).2
 omega
theorem func_ge {n:Nat} (_hN:∀i,n≤i→T i=none) (hF:n<F) {ns:List (List Nat)} {i j:Nat} {x:Syn.Fn} (_hi:i≤n) (h:Syn.func T F ns i=.ok (x,j)):i≤j :=
 Syn.on_from (fun i=>(Syn.func_loc (T':=T) (m:=0) (fun _ _=>rfl) (by omega) ns i).1) i _ _ h
end
section
variable {ys:List It} {len bp bw i:Nat} {vp:Value} {w:World} {ns:List (List Nat)} {α:Type}
def srZ:Obj:=.cells #[.slice none 0 0,.slice none 0 0,.slice none 0 0,.slice none 0 0,.slice none 0 0] 27
def SoOk (ys:List It) (len bp bw:Nat) (m:Mem) (w:World) (s:Syn.So) (j:Nat) (e:Ending) (w':World):Prop :=
 ∃p a b d e' m' v,e=.returned (.agg #[p,a,b,d,e'])∧SoM m' [p,a,b,d,e'] s∧m.More w m'∧Has w' m'∧m' bp=none∧PS ys len bp bw v w' j
theorem mk_kw1:Mk (bl ⟨#[112,114,105,110,99,105,112,97,108]⟩)=true:=by decide
theorem tx_kw1 : Syn.tx "principal" = bl ⟨#[112, 114, 105, 110, 99, 105, 112, 97, 108]⟩ := by decide
theorem mk_kwG:Mk (bl ⟨#[103,108,111,98,97,108]⟩)=true:=by decide
theorem tx_kwG : Syn.tx "global" = bl ⟨#[103, 108, 111, 98, 97, 108]⟩ := by decide
theorem mk_kwA:Mk (bl ⟨#[97,114,114,97,121]⟩)=true:=by decide
theorem tx_kwA : Syn.tx "array" = bl ⟨#[97, 114, 114, 97, 121]⟩ := by decide
theorem mk_kwC:Mk (bl ⟨#[99,104,97,110,110,101,108]⟩)=true:=by decide
theorem tx_kwC : Syn.tx "channel" = bl ⟨#[99, 104, 97, 110, 110, 101, 108]⟩ := by decide
theorem mk_kwD:Mk (bl ⟨#[102,117,110,99]⟩)=true:=by decide
theorem tx_kwD : Syn.tx "func" = bl ⟨#[102, 117, 110, 99]⟩ := by decide
theorem five_cells {W:World} {g:Nat} {x0 x1 x2 x3 x4:Value} {T:TypeId} (h:W.heap[g]?=some (.cells #[x0,x1,x2,x3,x4] T (0,0))) :
 W.cell? ⟨g,0,none⟩=some x0∧W.cell? ⟨g,1,none⟩=some x1∧W.cell? ⟨g,2,none⟩=some x2∧W.cell? ⟨g,3,none⟩=some x3∧W.cell? ⟨g,4,none⟩=some x4:=⟨cell_of h rfl,cell_of h rfl,cell_of h rfl,cell_of h rfl,cell_of h rfl⟩
theorem chg_five {S:Nat→Prop} {a w:World} (h:Chg S a w) {g:Nat} (hg:S g∨a.heap.size≤g) (x0 x1 x2 x3 x4:Value) :
 Chg S a (((((w.setCell ⟨g,0,none⟩ x0).setCell ⟨g,1,none⟩ x1).setCell ⟨g,2,none⟩ x2).setCell ⟨g,3,none⟩ x3).setCell ⟨g,4,none⟩ x4) :=
 (chg_four h hg x0 x1 x2 x3).setCell (p:=⟨g,4,none⟩) hg _
theorem one_ar (s:ByteArray) (n l:Nat):∀u∈[Value.string s,.int .i64 (n:Nat),.int .u64 (l:Nat)],u.oneCell'=true:=by
 intro u hu
 simp only [List.mem_cons,List.not_mem_nil,or_false] at hu
 rcases hu with rfl|rfl|rfl <;> rfl
theorem one_fn (s:ByteArray) (l:Nat) (qa qb qd qe:Option Addr) (na ca nb cb nd cd ne ce:Nat):∀u∈[Value.string s,.int .u64 (l:Nat),.slice qa na ca,.slice qb nb cb,.slice qd nd cd,.slice qe ne ce],u.oneCell'=true:=by
 intro u hu
 simp only [List.mem_cons,List.not_mem_nil,or_false] at hu
 rcases hu with rfl|rfl|rfl|rfl|rfl|rfl <;> rfl
def SrI (ys:List It) (len bp bw:Nat) (ns:List (List Nat)) (v:Value) (g:Nat) (m:Mem) (w w0:World) (RR:Syn.R Syn.So) (wr:World) (f:Nat) (s:Syn.So) (j:Nat):Prop :=
 ∃m' G A C D csG csA csC csD,Hid (declsP (Tk ys) (ys.length+1) ns f s j=RR)∧Hid (SJ ys len bp bw v ns g (w.heap.size+1) m w0 s j m' G A C D csG csA csC csD wr)∧Hid (Chg (fun k=>k=bp) w wr)∧Hid (wr.heap[w.heap.size]?=some srZ) ∧
  Hid (s.globals.length+s.arrays.length+s.channels.length+s.funcs.length+(ys.length - j)≤131072)
set_option maxRecDepth 100000 in
set_option maxHeartbeats 8000000 in
theorem source_any (hw:Ws ys) (h:PS ys len bp bw (.slice none 0 0) w 0) {m:Mem} (hm:Has w m) (hbm:m bp=none) :
 Calls Tryz.prog 66 #[.pointer (some ⟨bp,0,none⟩)] w (Ret ys len (fun k=>k=bp) w (srcP (Tk ys) (ys.length+1)) (SoOk ys len bp bw m w)):=by
 obtain ⟨hlt,hlb⟩:=h.lt
 have hne:¬w.heap.size=bp:=by omega
 have hmx:Tryz.prog.follows .mixedOrders=true:=by kernel_rfl
 have hfew:=h.few
 obtain ⟨RR,hRR⟩:∃RR,srcP (Tk ys) (ys.length+1)=RR:=⟨_,rfl⟩
 have hfit:=Syn.source_fit (tk_nones ys) (F:=ys.length+1) (by omega)
 rw [←src_eq,hRR] at hfit
 rw [hRR]
 have HNO:=hid (show ∀j,RR≠.error (99,j) from fun j e=>by rw [e] at hfit;exact Syn.Fit.no99 hfit rfl)
 have H0:=hid (show (Syn.principalsF (Tk ys) (ys.length+1) (ys.length+1) [] 0).on (fun ns i=>declsP (Tk ys) (ys.length+1) ns (ys.length+1) ⟨ns,[],[],[],[]⟩ i)=RR from hRR)
 have C0:=hid ((Chg.refl (fun k=>k=bp) w).alloc srZ)
 have HP0:=hid (h.alloc srZ)
 have HR0:=hid (World.alloc_heap_new w srZ)
 have HM:=hid hm
 have hN0:NR (w.alloc srZ) (.slice none 0 0) []:=⟨World.ownsRow_nil _ _ _ _,by simp,by simp⟩
 have HN0:=hid hN0
 clear hRR hfit h hm hN0
 go_enter Tryz.func66,Tryz.ntmps66
 go_wp2_with fail
 go_loopw [5] (fun _ wr=>∃f l j v,Hid ((Syn.principalsF (Tk ys) (ys.length+1) f l j).on (fun ns i=>declsP (Tk ys) (ys.length+1) ns (ys.length+1) ⟨ns,[],[],[],[]⟩ i)=RR)∧Hid (PS ys len bp bw v wr j)∧Hid (NR wr v l)∧Hid (∀k,v.ownBlock=some k→w.heap.size+1≤k)∧Hid (Chg (fun k=>k=bp) w wr)∧Hid (wr.heap[w.heap.size]?=some srZ))
  (fun _ wr=>posW bp wr)
 case atStart=>exact ⟨ys.length+1,[],0,.slice none 0 0,H0,HP0,HN0,hid (fun k e=>by cases e),C0,HR0⟩
 case round =>
  obtain ⟨f,ns,j,v,HF,HPr,HNr,HOr,HCr,HRr⟩:=hrel
  have hszr:w.heap.size+1≤wr.heap.size:=heap_lt HRr.out
  cases f with
  | zero=>exact (HNO.out j (by rw [←HF.out];rfl)).elim
  | succ f =>
   have HPOS:=hid HPr.out.pos
   have hF:=HF.out
   rw [prin_split,tx_kw1] at hF
   cases hx:Syn.is (Tk ys) j (bl ⟨#[112,114,105,110,99,105,112,97,108]⟩) with
   | true =>
    have HSTEP:=hid (show (lineG (Tk ys) (ys.length+1) ns (j+1)).on (fun ns i=>(Syn.principalsF (Tk ys) (ys.length+1) f ns i).on (fun ns i=>declsP (Tk ys) (ys.length+1) ns (ys.length+1) ⟨ns,[],[],[],[]⟩ i))=RR from by rw [←hF,hx,if_pos rfl,on_on])
    have hsk:=skip_t hw HPr.out ⟨#[112,114,105,110,99,105,112,97,108]⟩ mk_kw1 hx
    clear hx hF
    go_wp2_with (go_at_call 115;refine hsk.mono ?_;rintro e w3 ⟨rfl,hc3,hp3⟩)
    have hn3:=nr_next HNr.out HPr.out hc3
    have hC3:Chg (fun k=>k=bp) w w3:=HCr.out.then hc3
    have hR3:=hc3.heap HRr.out hne
    have hline:=ret_cases (principalLine_any hw hp3 hn3)
    go_at_call 116
    refine hline.mono ?_
    rintro e w4 ⟨hc4,⟨er,k,hr,rfl⟩|⟨l4,j4,hr,rfl,v4,hp4,hn4,ho4⟩⟩
    ·exact ⟨rfl,ret_err (by rw [←HSTEP.out,hr];rfl) (hC3.trans hc4 (fun k e=>by rcases e with e|e;exact .inl e;exact .inr (by have:=HOr.out k e;omega)))⟩
    have HF4:=hid (show (Syn.principalsF (Tk ys) (ys.length+1) f l4 j4).on (fun ns i=>declsP (Tk ys) (ys.length+1) ns (ys.length+1) ⟨ns,[],[],[],[]⟩ i)=RR from by rw [←HSTEP.out,hr];rfl)
    have hj4:j+1<j4:=by
     unfold lineG at hr
     obtain ⟨s1,i1,g1,g2⟩:=Syn.R.on_ok hr
     obtain ⟨s2,i2,g3,g4⟩:=Syn.R.on_ok g2
     injection g4 with g4;injection g4 with _ g4
     have h3:=(Syn.want_ok g3).2
     have:=Syn.on_from (fun i=>(Syn.namesF_loc (T:=Tk ys) (T':=Tk ys) (m:=0) (fun _ _=>rfl) (ys.length+1) ns i).1) (j+1) _ _ g1
     omega
    have hle4:=hp4.le
    have hpos4:=hp4.pos
    have HP4:=hid hp4
    have HN4:=hid hn4
    have hs3:=hc3.size
    have HO4:=hid (show ∀k,v4.ownBlock=some k→w.heap.size+1≤k from fun k hk=>by rcases ho4 k hk with e|e;exact HOr.out k e;omega)
    have HC4:=hid (hC3.trans hc4 (fun k e=>by rcases e with e|e;exact .inl e;exact .inr (by have:=HOr.out k e;omega)))
    have HR4:=hid (hc4.heap hR3 (fun e=>by rcases e with e|e;exact hne e;have:=HOr.out _ e;omega))
    clear hc4 hr hp4 hn4 hline hsk ho4 hc3 hp3 hn3 hC3 hR3
    go_wp2
    refine ⟨⟨f,l4,j4,v4,HF4,HP4,HN4,HO4,HC4,HR4⟩,?_⟩
    rw [hpos4,HPOS.out];omega
   | false =>
    have hsk:=skip_f hw HPr.out ⟨#[112,114,105,110,99,105,112,97,108]⟩ mk_kw1 hx
    have HG:=hid (show declsP (Tk ys) (ys.length+1) ns (ys.length+1) ⟨ns,[],[],[],[]⟩ j=RR from by rw [←hF,hx,if_neg (by simp),on_ok'])
    obtain ⟨qv,cv,rfl⟩:=own_shape HNr.out.1
    have hc1:=HPr.out.raw1
    have hlej:=HPr.out.le
    obtain ⟨w0,hw0⟩:∃w0:World,w0.heap.size=w.heap.size+1:=⟨w.alloc srZ,by simp⟩
    have hO:Chg (fun k=>k=bp) w (wr.alloc (.cells #[(.slice qv ns.length cv),.slice none 0 0,.slice none 0 0,.slice none 0 0,.slice none 0 0] 27)):=HCr.out.alloc _
    have hHr:=HM.out.chg hO (fun k e=>by subst e;exact hbm)
    have HSJ:=hid (show SJ ys len bp bw (.slice qv ns.length cv) ns wr.heap.size (w.heap.size+1) m w0 ⟨ns,[],[],[],[]⟩ j m (.slice none 0 0) (.slice none 0 0) (.slice none 0 0) (.slice none 0 0) [] [] [] [] (wr.alloc (.cells #[(.slice qv ns.length cv),.slice none 0 0,.slice none 0 0,.slice none 0 0,.slice none 0 0] 27)) from
     ⟨World.alloc_heap_new wr _,World.ownsRow_nil _ _ _ _,Enc.nil,World.ownsRow_nil _ _ _ _,Enc.nil,World.ownsRow_nil _ _ _ _,Enc.nil,World.ownsRow_nil _ _ _ _,Enc.nil,hHr,Mem.More.refl _ _,HM.out.lt (by omega),hbm,fun k hk=>HM.out.lt (by have:=HOr.out k hk;omega),(fun k e=>by cases e),(fun k e=>by cases e),(fun k e=>by cases e),(fun k e=>by cases e),(fun k e=>by cases e),by rw [World.size_alloc];omega,nr_alloc HNr.out _,rfl,HPr.out.alloc _⟩)
    have HRS:=hid (heap_new _ (.cells #[(.slice qv ns.length cv),.slice none 0 0,.slice none 0 0,.slice none 0 0,.slice none 0 0] 27) HRr.out)
    have HO:=hid hO
    have hgB:w.heap.size+1≤wr.heap.size:=hszr
    clear hx hF hO hHr HF
    go_wp2_with (go_at_call 115;refine hsk.mono ?_;rintro e w3 ⟨rfl,rfl⟩)
    go_wp2_with fail
    generalize wr.heap.size=g at *
    generalize wr.alloc (.cells #[.slice qv ns.length cv,.slice none 0 0,.slice none 0 0,.slice none 0 0,.slice none 0 0] 27)=W0 at *
    generalize Value.slice qv ns.length cv=v at *
    have hv:=HOr.out
    clear HPr HNr HOr HCr HRr HPOS hsk hc1 hszr
    have HV:=hid hv
    clear hv
    go_loopw [16] (fun _ wr=>∃f s j,SrI ys len bp bw ns v g m w w0 RR wr f s j)
     (fun _ wr=>posW bp wr)
    case atStart=>exact ⟨ys.length+1,⟨ns,[],[],[],[]⟩,j,m,_,_,_,_,_,_,_,_,HG,HSJ,HO,HRS,hid (by simp;omega)⟩
    case round =>
     clear HG HSJ HO HRS hlej
     clear j
     obtain ⟨f,s,j,m7,G,A,C,D,csG,csA,csC,csD,HF,HS,HCr,HRr,HLr⟩:=hrel
     cases f with
     | zero=>exact (HNO.out j (by rw [←HF.out];rfl)).elim
     | succ f =>
      cases hx:Syn.is (Tk ys) j (bl ⟨#[103,108,111,98,97,108]⟩) with
      | true =>
       have hsk:=skip_t hw HS.out.ps ⟨#[103,108,111,98,97,108]⟩ mk_kwG hx
       have hltj:=lt_of_is hx
       have hff:(declLP (Tk ys) (ys.length+1) ns (j+1)).on (fun d i=>declsP (Tk ys) (ys.length+1) ns f { s with globals:=s.globals++[d] } i)=RR:=by
        rw [←HF.out,declsP,tx_kwG,hx,if_pos rfl]
       have HF2:=hid hff
       clear hx hff
       go_wp2_with (go_at_call 115;refine hsk.mono ?_;rintro e w7 ⟨rfl,hc7,hp7⟩)
       have hc7':Chg (fun k=>k=bp) w w7:=HCr.out.then hc7
       have HR7:=hid (hc7.heap HRr.out hne)
       have HS7:=hid (HS.out.next hc7 hp7)
       have HC7:=hid hc7'
       have hlen:=HLr.out
       have hsz7:=hc7'.size
       have HPOS:=hid HS.out.ps.pos
       clear hc7 hc7' hsk HF HS HCr HRr HLr
       obtain ⟨q,c,rfl⟩:=own_shape HS7.out.rG
       obtain ⟨j0,hj0,hy0,hy1,hy2⟩:=infoDe
       have hnb:¬g=bp:=HS7.out.gb
       have hc1:=cell_of (j:=1) HS7.out.blk rfl
       have hlt1:=heap_lt HS7.out.blk
       have hpd:PS ys len bp bw v w7.drew (j+1):=hp7.chg (S:=fun _=>False) (Chg.refl _ _).drew id id
       have hnd:NR w7.drew v ns:=nr_chg HS7.out.nr ((Chg.refl (fun _=>False) w7).drew) (fun _ _ e=>e)
       have hhd:Has w7.drew m7:=HS7.out.has.chg ((Chg.refl (fun _=>False) w7).drew) (fun _ e=>e.elim)
       have HE:=hid (declLine_any hw hpd hnd)
       cases hri:declLP (Tk ys) (ys.length+1) ns (j+1) with
       | error q0 =>
        obtain ⟨er,k⟩:=q0
        have HRI:=hid hri
        clear hri
        have hS0:w7.drew.cell? ⟨g,1,none⟩=some (.slice q s.globals.length c):=hc1
        refine wp_region_held_drew (S:=fun w'=>w'.cell? ⟨g,1,none⟩=some (.slice q s.globals.length c)) hmx hS0 (fun hHeld=>?_)
        refine wpAnyH_take (i:=0) (v:=.pointer (some ⟨g,1,none⟩)) rfl (by kernel_rfl) (by kernel_rfl) (by kernel_rfl) (fun _ _ _ h=>h) (Or.inl ⟨by rfl,fun w hSw=>by go_simp⟩) (by assumption) ?_
        try simp only [Act.put,List.setIfInBounds_toArray,List.set_cons_zero,List.set_cons_succ,List.getElem_toArray,List.getElem_cons_zero]
        refine wpAnyH_take (i:=1) (v:=.slice q s.globals.length c) rfl (by kernel_rfl) (by kernel_rfl) (by kernel_rfl) (fun _ _ _ h=>h) (Or.inl ⟨by rfl,fun w hSw=>by go_simp⟩) (by assumption) ?_
        try simp only [Act.put,List.setIfInBounds_toArray,List.set_cons_zero,List.set_cons_succ,List.getElem_toArray,List.getElem_cons_zero,List.getElem_cons_succ]
        refine wpAnyH_take (i:=2) (v:=.pointer (some ⟨bp,0,none⟩)) rfl (by kernel_rfl) (by kernel_rfl) (by kernel_rfl) (fun _ _ _ h=>h) (Or.inl ⟨by rfl,fun w hSw=>by go_simp⟩) (by assumption) ?_
        try simp only [Act.put,List.setIfInBounds_toArray,List.set_cons_zero,List.set_cons_succ,List.getElem_toArray,List.getElem_cons_zero,List.getElem_cons_succ]
        refine wpAnyH_ready (rs:=[3]) (by kernel_rfl) (by simp) ?_
        refine AllReadyH.cons rfl (fun K hK=>?_) AllReadyH.nil
        go_simp
        go_at_call 117
        refine HE.out.mono ?_
        rw [HRI.out]
        rintro e w' ⟨hcc,rfl⟩
        exact ⟨rfl,ret_err (by rw [←HF2.out,HRI.out];rfl) (HC7.out.drew.then hcc)⟩
       | ok q0 =>
        obtain ⟨x,j8⟩:=q0
        have HRI:=hid hri
        have hj8:j+1≤j8:=(declLP_fitP (tk_nones ys) (F:=ys.length+1) (by omega) ns (j+1) hltj).2 _ _ hri
        clear hri
        have h1d:w7.drew.heap[g]?=some (.cells #[v,.slice q s.globals.length c,A,C,D] 27 (0,0)):=HS7.out.blk
        have h2d:w7.drew.ownsRow (w.heap.size+1) 37 2 (.slice q s.globals.length c) s.globals.length csG:=HS7.out.rG
        obtain ⟨xt,hxt⟩:=hpd.blk
        have HROW:=hid (fun w1 (hc:Chg (fun k=>k=bp) w7.drew w1)=>own_chg h2d hc (fun k hk e=>by subst e;exact blk_own hxt h2d (by decide) hk))
        have HAPP:=hid (fun w1 w9 (o:Obj) (hc:Chg (fun k=>k=bp) w7.drew w1) (hg:(w1.alloc o).grownBy w9 (Value.ownBlock (.slice q s.globals.length c)))=>gj_mid h2d hc hg h1d (by decide) hnb)
        have hlb3:s.globals.length≤131072:=by omega
        go_region_law
         (first
          | (go_simp;go_at_call 117;refine HE.out.mono ?_;rw [HRI.out];rintro e w1 ⟨hcc,rfl,a1,a2,a3⟩;have k1:=hcc.cell (show w7.drew.cell? ⟨g,1,none⟩=_ from hc1) hnb;have p1:=hcc.heap h1d hnb;have k3:=free_of (j:=1) p1;have kk:=And.intro (cell_of (j:=1) (heap_new _ (.cells #[.string (sb x.name),.int .u64 (x.label:Nat)] 37) p1) rfl) (free_of (j:=1) (heap_new _ (.cells #[.string (sb x.name),.int .u64 (x.label:Nat)] 37) p1)))
          | (refine step_append_mine rfl (.tmp 18) (.tmp 21) 23 rfl (w.heap.size+1) 37 j0 (.agg #[.string ⟨#[]⟩,.int .u64 0]) 2 24 Tryz.underlying23 hj0 hy0 hy1 hy2 rfl (by decide) (.slice q s.globals.length c) s.globals.length csG (by simp [Act.eval]) ((HROW.out _ hcc).alloc _) ⟨_,0,none⟩ 1 1 [.string (sb x.name),.int .u64 (x.label:Nat)] (by simp [Act.eval]) rfl (row_new _ [.string (sb x.name),.int .u64 (x.label:Nat)] 37) (one_de _ _) (by unfold maxLen;omega) (by omega) (by have:=hcc.size;simp at this;have:=heap_lt p1;simp;omega) ?_;intro v9 w9 hown9 hgrow9 hat9;obtain ⟨q9,c9,rfl⟩:=own_shape hown9;have g1:=HAPP.out _ _ _ hcc hgrow9;have k4:=cell_of (j:=1) g1 rfl;have k6:=free_of (j:=1) g1))
        all_goals
         have hcw:Chg (fun k=>k=bp) w7 w1:=((Chg.refl _ w7).drew).then hcc
         skip
         obtain ⟨m9,cs9,hsj,hch⟩:=HS7.out.addG (x:=x) hgB hcw (Mem.More.refl _ _) (HS7.out.has.chg hcw (fun k e=>by rw [e];exact HS7.out.mb)) (show DeR m7 _ x from ⟨rfl,a1⟩) a2 a3 hown9 hgrow9 (by simpa using hat9)
         have HS9:=hid hsj
         have HC9:=hid (HC7.out.trans hch (fun k e=>by rcases e with e|e;exact .inl e;exact .inr (by omega)))
         have HR9:=hid (hch.heap HR7.out (fun e=>by rcases e with e|e;exact hne e;omega))
         have hpos9:=hsj.ps.pos
         clear hsj hch
         go_wp2_with fail
         refine ⟨⟨f,_,j8,m9,_,_,_,_,_,_,_,_,hid (by rw [←HF2.out,HRI.out];rfl),HS9,HC9,HR9,hid (by simp only [List.length_append,List.length_singleton];omega)⟩,?_⟩
         rw [hpos9,HPOS.out];omega
      | false =>
      have hxG:=hx
      have HSKG:=hid (skip_f hw HS.out.ps ⟨#[103,108,111,98,97,108]⟩ mk_kwG hx)
      clear hx
      cases hx:Syn.is (Tk ys) j (bl ⟨#[97,114,114,97,121]⟩) with
      | true =>
       have hsk:=skip_t hw HS.out.ps ⟨#[97,114,114,97,121]⟩ mk_kwA hx
       have hltj:=lt_of_is hx
       have hff:(arrLP (Tk ys) (ys.length+1) ns (j+1)).on (fun d i=>declsP (Tk ys) (ys.length+1) ns f { s with arrays:=s.arrays++[d] } i)=RR:=by
        rw [←HF.out,declsP,tx_kwG,hxG,if_neg (by simp),tx_kwA,hx,if_pos rfl]
       have HF2:=hid hff
       clear hx hff
       go_wp2_with fail
       go_at_call 115
       refine HSKG.out.mono ?_
       rintro e wzG ⟨rfl,rfl⟩
       go_wp2_with (go_at_call 115;refine hsk.mono ?_;rintro e w7 ⟨rfl,hc7,hp7⟩)
       have hc7':Chg (fun k=>k=bp) w w7:=HCr.out.then hc7
       have HR7:=hid (hc7.heap HRr.out hne)
       have HS7:=hid (HS.out.next hc7 hp7)
       have HC7:=hid hc7'
       have hlen:=HLr.out
       have hsz7:=hc7'.size
       have HPOS:=hid HS.out.ps.pos
       clear hc7 hc7' hsk HF HS HCr HRr HLr
       obtain ⟨q,c,rfl⟩:=own_shape HS7.out.rA
       obtain ⟨j0,hj0,hy0,hy1,hy2⟩:=infoAr
       have hnb:¬g=bp:=HS7.out.gb
       have hc1:=cell_of (j:=2) HS7.out.blk rfl
       have hlt1:=heap_lt HS7.out.blk
       have hpd:PS ys len bp bw v w7.drew (j+1):=hp7.chg (S:=fun _=>False) (Chg.refl _ _).drew id id
       have hnd:NR w7.drew v ns:=nr_chg HS7.out.nr ((Chg.refl (fun _=>False) w7).drew) (fun _ _ e=>e)
       have hhd:Has w7.drew m7:=HS7.out.has.chg ((Chg.refl (fun _=>False) w7).drew) (fun _ e=>e.elim)
       have HE:=hid (arrayLine_any hw hpd hnd)
       cases hri:arrLP (Tk ys) (ys.length+1) ns (j+1) with
       | error q0 =>
        obtain ⟨er,k⟩:=q0
        have HRI:=hid hri
        clear hri
        have hS0:w7.drew.cell? ⟨g,2,none⟩=some (.slice q s.arrays.length c):=hc1
        refine wp_region_held_drew (S:=fun w'=>w'.cell? ⟨g,2,none⟩=some (.slice q s.arrays.length c)) hmx hS0 (fun hHeld=>?_)
        refine wpAnyH_take (i:=0) (v:=.pointer (some ⟨g,2,none⟩)) rfl (by kernel_rfl) (by kernel_rfl) (by kernel_rfl) (fun _ _ _ h=>h) (Or.inl ⟨by rfl,fun w hSw=>by go_simp⟩) (by assumption) ?_
        try simp only [Act.put,List.setIfInBounds_toArray,List.set_cons_zero,List.set_cons_succ,List.getElem_toArray,List.getElem_cons_zero]
        refine wpAnyH_take (i:=1) (v:=.slice q s.arrays.length c) rfl (by kernel_rfl) (by kernel_rfl) (by kernel_rfl) (fun _ _ _ h=>h) (Or.inl ⟨by rfl,fun w hSw=>by go_simp⟩) (by assumption) ?_
        try simp only [Act.put,List.setIfInBounds_toArray,List.set_cons_zero,List.set_cons_succ,List.getElem_toArray,List.getElem_cons_zero,List.getElem_cons_succ]
        refine wpAnyH_take (i:=2) (v:=.pointer (some ⟨bp,0,none⟩)) rfl (by kernel_rfl) (by kernel_rfl) (by kernel_rfl) (fun _ _ _ h=>h) (Or.inl ⟨by rfl,fun w hSw=>by go_simp⟩) (by assumption) ?_
        try simp only [Act.put,List.setIfInBounds_toArray,List.set_cons_zero,List.set_cons_succ,List.getElem_toArray,List.getElem_cons_zero,List.getElem_cons_succ]
        refine wpAnyH_ready (rs:=[3]) (by kernel_rfl) (by simp) ?_
        refine AllReadyH.cons rfl (fun K hK=>?_) AllReadyH.nil
        go_simp
        go_at_call 118
        refine HE.out.mono ?_
        rw [HRI.out]
        rintro e w' ⟨hcc,rfl⟩
        exact ⟨rfl,ret_err (by rw [←HF2.out,HRI.out];rfl) (HC7.out.drew.then hcc)⟩
       | ok q0 =>
        obtain ⟨x,j8⟩:=q0
        have HRI:=hid hri
        have hj8:j+1≤j8:=arrLP_ge (tk_nones ys) (F:=ys.length+1) (by omega) hltj hri
        clear hri
        have h1d:w7.drew.heap[g]?=some (.cells #[v,G,.slice q s.arrays.length c,C,D] 27 (0,0)):=HS7.out.blk
        have h2d:w7.drew.ownsRow (w.heap.size+1) 39 3 (.slice q s.arrays.length c) s.arrays.length csA:=HS7.out.rA
        obtain ⟨xt,hxt⟩:=hpd.blk
        have HROW:=hid (fun w1 (hc:Chg (fun k=>k=bp) w7.drew w1)=>own_chg h2d hc (fun k hk e=>by subst e;exact blk_own hxt h2d (by decide) hk))
        have HAPP:=hid (fun w1 w9 (o:Obj) (hc:Chg (fun k=>k=bp) w7.drew w1) (hg:(w1.alloc o).grownBy w9 (Value.ownBlock (.slice q s.arrays.length c)))=>gj_mid h2d hc hg h1d (by decide) hnb)
        have hlb3:s.arrays.length≤131072:=by omega
        go_region_law
         (first
          | (go_simp;go_at_call 118;refine HE.out.mono ?_;rw [HRI.out];rintro e w1 ⟨hcc,rfl,a1,a2,a3⟩;have k1:=hcc.cell (show w7.drew.cell? ⟨g,2,none⟩=_ from hc1) hnb;have p1:=hcc.heap h1d hnb;have k3:=free_of (j:=2) p1;have kk:=And.intro (cell_of (j:=2) (heap_new _ (.cells #[.string (sb x.name),.int .i64 (x.len:Nat),.int .u64 (x.label:Nat)] 39) p1) rfl) (free_of (j:=2) (heap_new _ (.cells #[.string (sb x.name),.int .i64 (x.len:Nat),.int .u64 (x.label:Nat)] 39) p1)))
          | (refine step_append_mine rfl (.tmp 28) (.tmp 31) 24 rfl (w.heap.size+1) 39 j0 (.agg #[.string ⟨#[]⟩,.int .i64 0,.int .u64 0]) 3 32 Tryz.underlying24 hj0 hy0 hy1 hy2 rfl (by decide) (.slice q s.arrays.length c) s.arrays.length csA (by simp [Act.eval]) ((HROW.out _ hcc).alloc _) ⟨_,0,none⟩ 1 1 [.string (sb x.name),.int .i64 (x.len:Nat),.int .u64 (x.label:Nat)] (by simp [Act.eval]) rfl (row_new _ [.string (sb x.name),.int .i64 (x.len:Nat),.int .u64 (x.label:Nat)] 39) (one_ar _ _ _) (by unfold maxLen;omega) (by omega) (by have:=hcc.size;simp at this;have:=heap_lt p1;simp;omega) ?_;intro v9 w9 hown9 hgrow9 hat9;obtain ⟨q9,c9,rfl⟩:=own_shape hown9;have g1:=HAPP.out _ _ _ hcc hgrow9;have k4:=cell_of (j:=2) g1 rfl;have k6:=free_of (j:=2) g1))
        all_goals
         have hcw:Chg (fun k=>k=bp) w7 w1:=((Chg.refl _ w7).drew).then hcc
         skip
         obtain ⟨m9,cs9,hsj,hch⟩:=HS7.out.addA (x:=x) hgB hcw (Mem.More.refl _ _) (HS7.out.has.chg hcw (fun k e=>by rw [e];exact HS7.out.mb)) (show ArR m7 _ x from ⟨rfl,a1⟩) a2 a3 hown9 hgrow9 (by simpa using hat9)
         have HS9:=hid hsj
         have HC9:=hid (HC7.out.trans hch (fun k e=>by rcases e with e|e;exact .inl e;exact .inr (by omega)))
         have HR9:=hid (hch.heap HR7.out (fun e=>by rcases e with e|e;exact hne e;omega))
         have hpos9:=hsj.ps.pos
         clear hsj hch
         go_wp2_with fail
         refine ⟨⟨f,_,j8,m9,_,_,_,_,_,_,_,_,hid (by rw [←HF2.out,HRI.out];rfl),HS9,HC9,HR9,hid (by simp only [List.length_append,List.length_singleton];omega)⟩,?_⟩
         rw [hpos9,HPOS.out];omega
      | false =>
      have hxA:=hx
      have HSKA:=hid (skip_f hw HS.out.ps ⟨#[97,114,114,97,121]⟩ mk_kwA hx)
      clear hx
      cases hx:Syn.is (Tk ys) j (bl ⟨#[99,104,97,110,110,101,108]⟩) with
      | true =>
       have hsk:=skip_t hw HS.out.ps ⟨#[99,104,97,110,110,101,108]⟩ mk_kwC hx
       have hltj:=lt_of_is hx
       have hff:(declLP (Tk ys) (ys.length+1) ns (j+1)).on (fun d i=>declsP (Tk ys) (ys.length+1) ns f { s with channels:=s.channels++[d] } i)=RR:=by
        rw [←HF.out,declsP,tx_kwG,hxG,if_neg (by simp),tx_kwA,hxA,if_neg (by simp),tx_kwC,hx,if_pos rfl]
       have HF2:=hid hff
       clear hx hff
       go_wp2_with fail
       go_at_call 115
       refine HSKG.out.mono ?_
       rintro e wzG ⟨rfl,rfl⟩
       go_wp2_with fail
       go_at_call 115
       refine HSKA.out.mono ?_
       rintro e wzA ⟨rfl,rfl⟩
       go_wp2_with (go_at_call 115;refine hsk.mono ?_;rintro e w7 ⟨rfl,hc7,hp7⟩)
       have hc7':Chg (fun k=>k=bp) w w7:=HCr.out.then hc7
       have HR7:=hid (hc7.heap HRr.out hne)
       have HS7:=hid (HS.out.next hc7 hp7)
       have HC7:=hid hc7'
       have hlen:=HLr.out
       have hsz7:=hc7'.size
       have HPOS:=hid HS.out.ps.pos
       clear hc7 hc7' hsk HF HS HCr HRr HLr
       obtain ⟨q,c,rfl⟩:=own_shape HS7.out.rC
       obtain ⟨j0,hj0,hy0,hy1,hy2⟩:=infoDe
       have hnb:¬g=bp:=HS7.out.gb
       have hc1:=cell_of (j:=3) HS7.out.blk rfl
       have hlt1:=heap_lt HS7.out.blk
       have hpd:PS ys len bp bw v w7.drew (j+1):=hp7.chg (S:=fun _=>False) (Chg.refl _ _).drew id id
       have hnd:NR w7.drew v ns:=nr_chg HS7.out.nr ((Chg.refl (fun _=>False) w7).drew) (fun _ _ e=>e)
       have hhd:Has w7.drew m7:=HS7.out.has.chg ((Chg.refl (fun _=>False) w7).drew) (fun _ e=>e.elim)
       have HE:=hid (declLine_any hw hpd hnd)
       cases hri:declLP (Tk ys) (ys.length+1) ns (j+1) with
       | error q0 =>
        obtain ⟨er,k⟩:=q0
        have HRI:=hid hri
        clear hri
        have hS0:w7.drew.cell? ⟨g,3,none⟩=some (.slice q s.channels.length c):=hc1
        refine wp_region_held_drew (S:=fun w'=>w'.cell? ⟨g,3,none⟩=some (.slice q s.channels.length c)) hmx hS0 (fun hHeld=>?_)
        refine wpAnyH_take (i:=0) (v:=.pointer (some ⟨g,3,none⟩)) rfl (by kernel_rfl) (by kernel_rfl) (by kernel_rfl) (fun _ _ _ h=>h) (Or.inl ⟨by rfl,fun w hSw=>by go_simp⟩) (by assumption) ?_
        try simp only [Act.put,List.setIfInBounds_toArray,List.set_cons_zero,List.set_cons_succ,List.getElem_toArray,List.getElem_cons_zero]
        refine wpAnyH_take (i:=1) (v:=.slice q s.channels.length c) rfl (by kernel_rfl) (by kernel_rfl) (by kernel_rfl) (fun _ _ _ h=>h) (Or.inl ⟨by rfl,fun w hSw=>by go_simp⟩) (by assumption) ?_
        try simp only [Act.put,List.setIfInBounds_toArray,List.set_cons_zero,List.set_cons_succ,List.getElem_toArray,List.getElem_cons_zero,List.getElem_cons_succ]
        refine wpAnyH_take (i:=2) (v:=.pointer (some ⟨bp,0,none⟩)) rfl (by kernel_rfl) (by kernel_rfl) (by kernel_rfl) (fun _ _ _ h=>h) (Or.inl ⟨by rfl,fun w hSw=>by go_simp⟩) (by assumption) ?_
        try simp only [Act.put,List.setIfInBounds_toArray,List.set_cons_zero,List.set_cons_succ,List.getElem_toArray,List.getElem_cons_zero,List.getElem_cons_succ]
        refine wpAnyH_ready (rs:=[3]) (by kernel_rfl) (by simp) ?_
        refine AllReadyH.cons rfl (fun K hK=>?_) AllReadyH.nil
        go_simp
        go_at_call 117
        refine HE.out.mono ?_
        rw [HRI.out]
        rintro e w' ⟨hcc,rfl⟩
        exact ⟨rfl,ret_err (by rw [←HF2.out,HRI.out];rfl) (HC7.out.drew.then hcc)⟩
       | ok q0 =>
        obtain ⟨x,j8⟩:=q0
        have HRI:=hid hri
        have hj8:j+1≤j8:=(declLP_fitP (tk_nones ys) (F:=ys.length+1) (by omega) ns (j+1) hltj).2 _ _ hri
        clear hri
        have h1d:w7.drew.heap[g]?=some (.cells #[v,G,A,.slice q s.channels.length c,D] 27 (0,0)):=HS7.out.blk
        have h2d:w7.drew.ownsRow (w.heap.size+1) 37 2 (.slice q s.channels.length c) s.channels.length csC:=HS7.out.rC
        obtain ⟨xt,hxt⟩:=hpd.blk
        have HROW:=hid (fun w1 (hc:Chg (fun k=>k=bp) w7.drew w1)=>own_chg h2d hc (fun k hk e=>by subst e;exact blk_own hxt h2d (by decide) hk))
        have HAPP:=hid (fun w1 w9 (o:Obj) (hc:Chg (fun k=>k=bp) w7.drew w1) (hg:(w1.alloc o).grownBy w9 (Value.ownBlock (.slice q s.channels.length c)))=>gj_mid h2d hc hg h1d (by decide) hnb)
        have hlb3:s.channels.length≤131072:=by omega
        go_region_law
         (first
          | (go_simp;go_at_call 117;refine HE.out.mono ?_;rw [HRI.out];rintro e w1 ⟨hcc,rfl,a1,a2,a3⟩;have k1:=hcc.cell (show w7.drew.cell? ⟨g,3,none⟩=_ from hc1) hnb;have p1:=hcc.heap h1d hnb;have k3:=free_of (j:=3) p1;have kk:=And.intro (cell_of (j:=3) (heap_new _ (.cells #[.string (sb x.name),.int .u64 (x.label:Nat)] 37) p1) rfl) (free_of (j:=3) (heap_new _ (.cells #[.string (sb x.name),.int .u64 (x.label:Nat)] 37) p1)))
          | (refine step_append_mine rfl (.tmp 38) (.tmp 41) 23 rfl (w.heap.size+1) 37 j0 (.agg #[.string ⟨#[]⟩,.int .u64 0]) 2 24 Tryz.underlying23 hj0 hy0 hy1 hy2 rfl (by decide) (.slice q s.channels.length c) s.channels.length csC (by simp [Act.eval]) ((HROW.out _ hcc).alloc _) ⟨_,0,none⟩ 1 1 [.string (sb x.name),.int .u64 (x.label:Nat)] (by simp [Act.eval]) rfl (row_new _ [.string (sb x.name),.int .u64 (x.label:Nat)] 37) (one_de _ _) (by unfold maxLen;omega) (by omega) (by have:=hcc.size;simp at this;have:=heap_lt p1;simp;omega) ?_;intro v9 w9 hown9 hgrow9 hat9;obtain ⟨q9,c9,rfl⟩:=own_shape hown9;have g1:=HAPP.out _ _ _ hcc hgrow9;have k4:=cell_of (j:=3) g1 rfl;have k6:=free_of (j:=3) g1))
        all_goals
         have hcw:Chg (fun k=>k=bp) w7 w1:=((Chg.refl _ w7).drew).then hcc
         skip
         obtain ⟨m9,cs9,hsj,hch⟩:=HS7.out.addC (x:=x) hgB hcw (Mem.More.refl _ _) (HS7.out.has.chg hcw (fun k e=>by rw [e];exact HS7.out.mb)) (show DeR m7 _ x from ⟨rfl,a1⟩) a2 a3 hown9 hgrow9 (by simpa using hat9)
         have HS9:=hid hsj
         have HC9:=hid (HC7.out.trans hch (fun k e=>by rcases e with e|e;exact .inl e;exact .inr (by omega)))
         have HR9:=hid (hch.heap HR7.out (fun e=>by rcases e with e|e;exact hne e;omega))
         have hpos9:=hsj.ps.pos
         clear hsj hch
         go_wp2_with fail
         refine ⟨⟨f,_,j8,m9,_,_,_,_,_,_,_,_,hid (by rw [←HF2.out,HRI.out];rfl),HS9,HC9,HR9,hid (by simp only [List.length_append,List.length_singleton];omega)⟩,?_⟩
         rw [hpos9,HPOS.out];omega
      | false =>
      have hxC:=hx
      have HSKC:=hid (skip_f hw HS.out.ps ⟨#[99,104,97,110,110,101,108]⟩ mk_kwC hx)
      clear hx
      cases hx:Syn.is (Tk ys) j (bl ⟨#[102,117,110,99]⟩) with
      | true =>
       have hsk:=skip_t hw HS.out.ps ⟨#[102,117,110,99]⟩ mk_kwD hx
       have hltj:=lt_of_is hx
       have hff:(Syn.func (Tk ys) (ys.length+1) ns (j+1)).on (fun d i=>declsP (Tk ys) (ys.length+1) ns f { s with funcs:=s.funcs++[d] } i)=RR:=by
        rw [←HF.out,declsP,tx_kwG,hxG,if_neg (by simp),tx_kwA,hxA,if_neg (by simp),tx_kwC,hxC,if_neg (by simp),tx_kwD,hx,if_pos rfl]
       have HF2:=hid hff
       clear hx hff
       go_wp2_with fail
       go_at_call 115
       refine HSKG.out.mono ?_
       rintro e wzG ⟨rfl,rfl⟩
       go_wp2_with fail
       go_at_call 115
       refine HSKA.out.mono ?_
       rintro e wzA ⟨rfl,rfl⟩
       go_wp2_with fail
       go_at_call 115
       refine HSKC.out.mono ?_
       rintro e wzC ⟨rfl,rfl⟩
       go_wp2_with (go_at_call 115;refine hsk.mono ?_;rintro e w7 ⟨rfl,hc7,hp7⟩)
       have hc7':Chg (fun k=>k=bp) w w7:=HCr.out.then hc7
       have HR7:=hid (hc7.heap HRr.out hne)
       have HS7:=hid (HS.out.next hc7 hp7)
       have HC7:=hid hc7'
       have hlen:=HLr.out
       have hsz7:=hc7'.size
       have HPOS:=hid HS.out.ps.pos
       clear hc7 hc7' hsk HF HS HCr HRr HLr
       obtain ⟨q,c,rfl⟩:=own_shape HS7.out.rD
       obtain ⟨j0,hj0,hy0,hy1,hy2⟩:=infoFn
       have hnb:¬g=bp:=HS7.out.gb
       have hc1:=cell_of (j:=4) HS7.out.blk rfl
       have hlt1:=heap_lt HS7.out.blk
       have hpd:PS ys len bp bw v w7.drew (j+1):=hp7.chg (S:=fun _=>False) (Chg.refl _ _).drew id id
       have hnd:NR w7.drew v ns:=nr_chg HS7.out.nr ((Chg.refl (fun _=>False) w7).drew) (fun _ _ e=>e)
       have hhd:Has w7.drew m7:=HS7.out.has.chg ((Chg.refl (fun _=>False) w7).drew) (fun _ e=>e.elim)
       have HE:=hid (function_any hw hpd hnd hhd HS7.out.mb)
       cases hri:Syn.func (Tk ys) (ys.length+1) ns (j+1) with
       | error q0 =>
        obtain ⟨er,k⟩:=q0
        have HRI:=hid hri
        clear hri
        have hS0:w7.drew.cell? ⟨g,4,none⟩=some (.slice q s.funcs.length c):=hc1
        refine wp_region_held_drew (S:=fun w'=>w'.cell? ⟨g,4,none⟩=some (.slice q s.funcs.length c)) hmx hS0 (fun hHeld=>?_)
        refine wpAnyH_take (i:=0) (v:=.pointer (some ⟨g,4,none⟩)) rfl (by kernel_rfl) (by kernel_rfl) (by kernel_rfl) (fun _ _ _ h=>h) (Or.inl ⟨by rfl,fun w hSw=>by go_simp⟩) (by assumption) ?_
        try simp only [Act.put,List.setIfInBounds_toArray,List.set_cons_zero,List.set_cons_succ,List.getElem_toArray,List.getElem_cons_zero]
        refine wpAnyH_take (i:=1) (v:=.slice q s.funcs.length c) rfl (by kernel_rfl) (by kernel_rfl) (by kernel_rfl) (fun _ _ _ h=>h) (Or.inl ⟨by rfl,fun w hSw=>by go_simp⟩) (by assumption) ?_
        try simp only [Act.put,List.setIfInBounds_toArray,List.set_cons_zero,List.set_cons_succ,List.getElem_toArray,List.getElem_cons_zero,List.getElem_cons_succ]
        refine wpAnyH_take (i:=2) (v:=.pointer (some ⟨bp,0,none⟩)) rfl (by kernel_rfl) (by kernel_rfl) (by kernel_rfl) (fun _ _ _ h=>h) (Or.inl ⟨by rfl,fun w hSw=>by go_simp⟩) (by assumption) ?_
        try simp only [Act.put,List.setIfInBounds_toArray,List.set_cons_zero,List.set_cons_succ,List.getElem_toArray,List.getElem_cons_zero,List.getElem_cons_succ]
        refine wpAnyH_ready (rs:=[3]) (by kernel_rfl) (by simp) ?_
        refine AllReadyH.cons rfl (fun K hK=>?_) AllReadyH.nil
        go_simp
        go_at_call 119
        refine HE.out.mono ?_
        rw [HRI.out]
        rintro e w' ⟨hcc,rfl⟩
        exact ⟨rfl,ret_err (by rw [←HF2.out,HRI.out];rfl) (HC7.out.drew.then hcc)⟩
       | ok q0 =>
        obtain ⟨x,j8⟩:=q0
        have HRI:=hid hri
        have hj8:j+1≤j8:=func_ge (tk_nones ys) (F:=ys.length+1) (by omega) hltj hri
        clear hri
        have h1d:w7.drew.heap[g]?=some (.cells #[v,G,A,C,.slice q s.funcs.length c] 27 (0,0)):=HS7.out.blk
        have h2d:w7.drew.ownsRow (w.heap.size+1) 43 6 (.slice q s.funcs.length c) s.funcs.length csD:=HS7.out.rD
        obtain ⟨xt,hxt⟩:=hpd.blk
        have HROW:=hid (fun w1 (hc:Chg (fun k=>k=bp) w7.drew w1)=>own_chg h2d hc (fun k hk e=>by subst e;exact blk_own hxt h2d (by decide) hk))
        have HAPP:=hid (fun w1 w9 (o:Obj) (hc:Chg (fun k=>k=bp) w7.drew w1) (hg:(w1.alloc o).grownBy w9 (Value.ownBlock (.slice q s.funcs.length c)))=>gj_mid h2d hc hg h1d (by decide) hnb)
        have hlb3:s.funcs.length≤131072:=by omega
        go_region_law
         (first
          | (go_simp;go_at_call 119;refine HE.out.mono ?_;rw [HRI.out];rintro e w1 ⟨hcc,qa,na,ca,qb,nb,cb,qd,nd,cd,qe,ne,ce,m1,rfl,b1,b2,b3,b4,a2,a3⟩;have k1:=hcc.cell (show w7.drew.cell? ⟨g,4,none⟩=_ from hc1) hnb;have p1:=hcc.heap h1d hnb;have k3:=free_of (j:=4) p1;have kk:=And.intro (cell_of (j:=4) (heap_new _ (.cells #[.string (sb x.name),.int .u64 (x.level:Nat),.slice qa na ca,.slice qb nb cb,.slice qd nd cd,.slice qe ne ce] 43) p1) rfl) (free_of (j:=4) (heap_new _ (.cells #[.string (sb x.name),.int .u64 (x.level:Nat),.slice qa na ca,.slice qb nb cb,.slice qd nd cd,.slice qe ne ce] 43) p1)))
          | (refine step_append_mine rfl (.tmp 48) (.tmp 51) 25 rfl (w.heap.size+1) 43 j0 (.agg #[.string ⟨#[]⟩,.int .u64 0,.slice none 0 0,.slice none 0 0,.slice none 0 0,.slice none 0 0]) 6 120 Tryz.underlying25 hj0 hy0 hy1 hy2 rfl (by decide) (.slice q s.funcs.length c) s.funcs.length csD (by simp [Act.eval]) ((HROW.out _ hcc).alloc _) ⟨_,0,none⟩ 1 1 [.string (sb x.name),.int .u64 (x.level:Nat),.slice qa na ca,.slice qb nb cb,.slice qd nd cd,.slice qe ne ce] (by simp [Act.eval]) rfl (row_new _ [.string (sb x.name),.int .u64 (x.level:Nat),.slice qa na ca,.slice qb nb cb,.slice qd nd cd,.slice qe ne ce] 43) (one_fn _ _ _ _ _ _ _ _ _ _ _ _ _ _) (by unfold maxLen;omega) (by omega) (by have:=hcc.size;simp at this;have:=heap_lt p1;simp;omega) ?_;intro v9 w9 hown9 hgrow9 hat9;obtain ⟨q9,c9,rfl⟩:=own_shape hown9;have g1:=HAPP.out _ _ _ hcc hgrow9;have k4:=cell_of (j:=4) g1 rfl;have k6:=free_of (j:=4) g1))
        all_goals
         have hcw:Chg (fun k=>k=bp) w7 w1:=((Chg.refl _ w7).drew).then hcc
         have b2p:m7.More w7 m1:=⟨b2.le,b2.new⟩
         obtain ⟨m9,cs9,hsj,hch⟩:=HS7.out.addD (x:=x) hgB hcw b2p b3 b1 a2 a3 hown9 hgrow9 (by simpa using hat9)
         have HS9:=hid hsj
         have HC9:=hid (HC7.out.trans hch (fun k e=>by rcases e with e|e;exact .inl e;exact .inr (by omega)))
         have HR9:=hid (hch.heap HR7.out (fun e=>by rcases e with e|e;exact hne e;omega))
         have hpos9:=hsj.ps.pos
         clear hsj hch
         go_wp2_with fail
         refine ⟨⟨f,_,j8,m9,_,_,_,_,_,_,_,_,hid (by rw [←HF2.out,HRI.out];rfl),HS9,HC9,HR9,hid (by simp only [List.length_append,List.length_singleton];omega)⟩,?_⟩
         rw [hpos9,HPOS.out];omega
      | false =>
      have hxD:=hx
      have HSKD:=hid (skip_f hw HS.out.ps ⟨#[102,117,110,99]⟩ mk_kwD hx)
      clear hx
      have HE:=hid (show RR=.ok (s,j) from by
       rw [←HF.out,declsP,tx_kwG,hxG,if_neg (by simp),tx_kwA,hxA,if_neg (by simp),tx_kwC,hxC,if_neg (by simp),tx_kwD,hxD,if_neg (by simp)])
      obtain ⟨qv,cv,rfl⟩:=own_shape HS.out.nr.1
      obtain ⟨qG,cG,rfl⟩:=own_shape HS.out.rG
      obtain ⟨qA,cA,rfl⟩:=own_shape HS.out.rA
      obtain ⟨qC,cC,rfl⟩:=own_shape HS.out.rC
      obtain ⟨qD,cD,rfl⟩:=own_shape HS.out.rD
      go_wp2_with fail
      go_at_call 115
      refine HSKG.out.mono ?_
      rintro e wzG ⟨rfl,rfl⟩
      go_wp2_with fail
      go_at_call 115
      refine HSKA.out.mono ?_
      rintro e wzA ⟨rfl,rfl⟩
      go_wp2_with fail
      go_at_call 115
      refine HSKC.out.mono ?_
      rintro e wzC ⟨rfl,rfl⟩
      go_wp2_with fail
      go_at_call 115
      refine HSKD.out.mono ?_
      rintro e wzD ⟨rfl,rfl⟩
      obtain ⟨m2,d1,d2,d3,d4,d5⟩:=HS.out.done (by omega) (by rw [hw0];exact HV.out)
      obtain ⟨r0,r1,r2,r3,r4⟩:=five_cells HS.out.blk
      obtain ⟨z0,z1,z2,z3,z4⟩:=five_cells HRr.out
      have f0:=free_of (j:=0) HRr.out
      have f1:=free_of (j:=1) HRr.out
      have f2:=free_of (j:=2) HRr.out
      have f3:=free_of (j:=3) HRr.out
      have f4:=free_of (j:=4) HRr.out
      have hgw:¬g=w.heap.size:=by omega
      have hcs:=chg_five (Chg.refl (fun k=>k=w.heap.size) wr) (.inl rfl) (.slice qv ns.length cv) (.slice qG s.globals.length cG) (.slice qA s.arrays.length cA) (.slice qC s.channels.length cC) (.slice qD s.funcs.length cD)
      have hmw:m2 w.heap.size=none:=d1.new _ (HM.out.lt (Nat.le_refl _)) (by omega)
      have HEND:=hid (show Chg (fun k=>k=bp) w _∧SoOk ys len bp bw m w s j (.returned (.agg #[(.slice qv ns.length cv),(.slice qG s.globals.length cG),(.slice qA s.arrays.length cA),(.slice qC s.channels.length cC),(.slice qD s.funcs.length cD)])) _ from
       ⟨chg_five HCr.out (.inr (Nat.le_refl _)) (.slice qv ns.length cv) (.slice qG s.globals.length cG) (.slice qA s.arrays.length cA) (.slice qC s.channels.length cC) (.slice qD s.funcs.length cD),(.slice qv ns.length cv),(.slice qG s.globals.length cG),(.slice qA s.arrays.length cA),(.slice qC s.channels.length cC),(.slice qD s.funcs.length cD),m2,(.slice qv ns.length cv),rfl,d5,d1.from (by omega),d2.chg hcs (fun k e=>by rw [e];exact hmw),d4,HS.out.ps.chg hcs (fun e=>hne e.symm) (by omega)⟩)
      clear d1 d2 d3 d4 d5 hcs HS HCr HRr HF
      go_wp2
      exact bodyPost_ret (v:=.agg #[(.slice qv ns.length cv),(.slice qG s.globals.length cG),(.slice qA s.arrays.length cA),(.slice qC s.channels.length cC),(.slice qD s.funcs.length cD)]) (by simp [results,Tryz.results66,go_sem,z0,z1,z2,z3,z4]) rfl (ret_ok HE.out HEND.out.1 HEND.out.2)
end
end Go.Proofs.YtlpdjfimefjmcaaGreatDoor.Q
