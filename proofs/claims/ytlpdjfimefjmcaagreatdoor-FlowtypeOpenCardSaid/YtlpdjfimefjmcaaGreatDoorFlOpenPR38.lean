/- From what the cards list to the memory that package lex's calls ask; and what every law's row comes to: it returns true, and below the memory that came in nothing has turned. A body that comes in, opened: rows of statements of whatever kinds. A source that comes in, opened, whatever its size. (Writt -/
import Derived.Test.YtlpdjfimefjmcaaGreatDoorFlOpenPR22
import Derived.Test.YtlpdjfimefjmcaaGreatDoorTie
import Derived.Test.YtlpdjfimefjmcaaGreatDoorCards
import Derived.ProofKit
import Derived.OpenShut
import Derived.LaidMore
import Derived.Lay
import Derived.SizedLaws
import Derived.ChangeMaps5
import Derived.SevenTiedAt
import Derived.Stop.Joined
import Derived.Stop.LaidErr
import Derived.Stop.ErrReads
import Derived.PinnedBridge
import Derived.Lib.LaidU8T
import Derived.Test.YtlpdjfimefjmcaaGreatDoorFlOpenPR2
import Derived.Deep.Slices
import Derived.ChangeArms
import Derived.Lib.LaidU8
import Derived.Test.YtlpdjfimefjmcaaGreatDoorFlOpenPR3
namespace Go.Proofs.YtlpdjfimefjmcaaGreatDoor
open Go Go.ChangeShapes Go.WideShapes Go.ChangeAt Go.RowKit Go.Lib
theorem own_knob:ownKnob Tryz.prog.godebug=none:=by kernel_rfl
theorem laidOut:laidOutB Tryz.prog=true:=by kernel_rfl
def lays5 : List (String × DataW Unit) := [("math/bits.deBruijn32tab", Rows.laid_math_bits_deBruijn32tab), ("math/bits.deBruijn64tab", Rows.laid_math_bits_deBruijn64tab), ("internal/strconv.uint64pow10", Rows.laid_internal_strconv_uint64pow10), ("strconv.ErrRange", Rows.laid_strconv_ErrRange), ("strconv.ErrSyntax", Rows.laid_strconv_ErrSyntax)]
theorem gErrR : Tryz.prog.globalNamed "strconv.ErrRange" = some 1 := by kernel_rfl
theorem sentinel {W:World} {n:String} {nm:String} {d:DataW Unit} {g:Nat} (hg:Tryz.prog.globalNamed n=some g) (hty:(Tryz.prog.globals[g]?).map (·.type)=some 219) (h:VarReads Tryz.prog W n (.iface nm d)):∃tp p,W.var? Tryz.prog n=some #[.iface tp p]:=by
 obtain ⟨g',t,cs,fuel,p,hg',hty',hvar,hd⟩:=h
 obtain rfl:=Option.some.inj (hg.symm.trans hg')
 obtain rfl:=Option.some.inj (hty.symm.trans hty')
 obtain ⟨f1,u,v,hcs,-,-⟩:=iface_of_trod Tryz.underlying219 hd
 obtain ⟨l⟩:=cs
 obtain rfl:l=[.iface u v]:=hcs
 exact ⟨u,v,hvar⟩
theorem env_of_laid {W:World} (h:laidMetH Tryz.prog lays5 W):Q.Env W:=by
 rw [MakeChecks.laidMetH_plain _ _ _ (by kernel_rfl)] at h
 obtain ⟨tp, p, hv⟩ := sentinel gErrR (by kernel_rfl) (Lib.laidMet.reads h (n := "strconv.ErrRange") (d := Rows.laid_strconv_ErrRange) (by simp [lays5]))
 exact ⟨tp,p,by rw [World.var?_cell gErrR hv 0];rfl⟩
theorem trodAll_below {H:Type} {enc:TypeId × Value→H} {P:Program} (hl:laidOutB P=true) {W W':World} (hb:Below W.heap.size W W') (ts:List TypeId):∀{vs:List Value} {ds:List (DataW H)} {ps:List MemPlace},
 (∀t∈ts,P.readableRec t=true∧t<P.types.size)→DataW.TrodAll enc P W 0 (fun _=>true) true ts vs ds ps→(∀x∈ps,x.block<W.heap.size)→DataW.TrodAll enc P W' 0 (fun b=>decide (b<W.heap.size)) true ts vs ds ps:=by
 induction ts with
 | nil =>
  intro vs ds ps _ h _
  cases vs <;> cases ds <;> exact h
 | cons t ts ih =>
  intro vs ds ps hr h hlt
  cases vs with
  | nil=>cases ds <;> cases h
  | cons v vs=>cases ds with
   | nil=>cases h
   | cons d ds =>
    obtain ⟨p,q,h1,h2,rfl⟩:=h
    have ht:=hr t (List.mem_cons_self ..)
    exact ⟨p,q,Below.trod hl ht.1 ht.2 h1 hb fun x hx=>hlt x (List.mem_append_left _ hx),ih (fun u hu=>hr u (List.mem_cons_of_mem _ hu)) h2 fun x hx=>hlt x (List.mem_append_right _ hx),rfl⟩
theorem post_true {H:Type} {enc:TypeId × Value→H} {fn:Func} {s:ChangeSpec} {W W':World} {args:Array Value} {ds:List (DataW H)} {before:List MemPlace} (hv:s.vars=[]) (hrt:fn.resultTypes=#[4])
 (hr:∀t∈fn.params.toList,Tryz.prog.readableRec t=true∧t<Tryz.prog.types.size) (hs:s.fn H ds={ results:=[.lit (.bool true)],args:=ds,vars:=[] })
 (hW:DataW.Whole enc Tryz.prog fn.params.toList s.vars false W args.toList ds [] before) (hb:Below W.heap.size W W'):s.post enc Tryz.prog fn false true false false W args (.bool true) W':=by
 have hW':=hW
 obtain ⟨p,q,hA,hV,rfl,hfz,_⟩:=hW
 rw [hv] at hV
 obtain rfl:q=[]:=hV
 refine ⟨ds,[],p++[],[],p,[],hW',?_,?_,?_,hb.frame _,fun h=>by cases h⟩
 ·rw [List.append_nil,hs,hrt];exact trodAll_mk1 (shut_bool Tryz.underlying4 _)
 ·rw [List.append_nil,hs]
  exact trodAll_below laidOut hb _ hr hA fun x hx=>by simpa using hW'.lt x (List.mem_append_left _ hx)
 ·rw [List.append_nil,hs,hv];rfl
end Go.Proofs.YtlpdjfimefjmcaaGreatDoor
namespace Go.Proofs.YtlpdjfimefjmcaaGreatDoor
open Go Go.RowKit Go.Proofs.Mm Go.ChangeShapes Go.WideShapes
def Wt {H:Type} (t:TypeId) (d:DataW H):Prop:=∀x∈d.weights Tryz.prog t,x≤reachBytes
theorem all_mem {H:Type} {P:Program} {e:TypeId}:∀{l:List (DataW H)} {d:DataW H},d∈l→∀x∈d.weights P e,x∈DataW.weightsAll P e l
 | y::l,d,hd,x,hx=>by
  simp only [DataW.weightsAll,List.mem_append]
  rcases List.mem_cons.1 hd with rfl|hd
  ·exact .inl hx
  ·exact .inr (all_mem hd x hx)
theorem enc_range {α:Type} {R:List Value→α→Prop} (f:Nat→α) (g:Nat→List Value):∀n,(∀i,i<n→R (g i) (f i))→Enc R ((List.range n).flatMap g) ((List.range n).map f)
 | 0,_=>rfl
 | n+1,h=>by
  rw [List.range_succ,List.flatMap_append,List.map_append]
  refine (enc_range f g n fun i hi=>h i (by omega)).app ?_
  simp only [List.flatMap_cons,List.flatMap_nil,List.append_nil,List.map_cons,List.map_nil]
  exact Enc.one (h n (by omega))
theorem open_sl {H:Type} {enc:TypeId × Value→H} {w:World} {α:Type} [Inhabited α] {t e:TypeId} {size bs fuel:Nat} {cs:List Value} {d:DataW H} {p:List MemPlace} (ht:Tryz.prog.underlying t=some (.slice e)) (hc:Tryz.prog.cellsOf e=size) (hs:0<size) (hbs:Tryz.prog.bytesOf e=bs)
 {R:List Value→α→Prop} (hR:∀c x,R c x→c.length=size)
 (hopen:∀n cs' d p,cs'.length=size→DataW.trod enc Tryz.prog w 0 (fun _=>true) true n e cs'=some (d,p)→Wt e d→∃a,R cs' a)
 (h:DataW.trod enc Tryz.prog w 0 (fun _=>true) true fuel t cs=some (d,p)) (hw:Wt t d):∃v l,cs=[v]∧SlX [] bs (wC w) R v l:=by
 rcases Go.Deep.open_slice ht h with ⟨rfl,hx⟩|⟨a,len,cap,m,n,D,Pl,rfl,hb,hl,hm,hmm,hx,hel⟩
 ·exact ⟨_,[],rfl,none,0,[],rfl,.inl rfl,.inl rfl,Enc.nil,by simp,by unfold maxLen;omega,fun _=>rfl,by simp⟩
 ·rw [if_pos rfl] at hmm
  subst hmm
  rw [hc] at hel
  injection hx with hx1 hx2
  subst hx1
  have hwl:m*bs≤reachBytes:=by
   have:=hw (((List.range len).map D).length+((List.range (m - len)).map fun j=>D (len+j)).length |>.mul (Tryz.prog.bytesOf e)) (by simp only [DataW.weights,ht];exact List.mem_cons_self ..)
   simp only [List.length_map,List.length_range,hbs] at this
   rw [show len+(m - len)=m by omega] at this
   exact this
  have hDm:∀i,i<len→D i∈((List.range len).map D):=fun i hi=>List.mem_map.2 ⟨i,List.mem_range.2 hi,rfl⟩
  have hch:∀i,i<len→∃y:List Value × α,w.cells? 0 (a.add (i*size)) size=some y.1∧R y.1 y.2:=fun i hi=>by
   obtain ⟨cs',h1,h2⟩:=hel i (by omega)
   obtain ⟨_,hlen,_⟩:=World.cells?_some h1
   obtain ⟨x,hx⟩:=hopen n cs' (D i) (Pl i) hlen h2 (fun x hx=>hw x (by
    simp only [DataW.weights,ht]
    exact List.mem_cons_of_mem _ (List.mem_append_left _ (all_mem (hDm i hi) x hx))))
   exact ⟨(cs',x),h1,hx⟩
  obtain ⟨f,hf⟩:=Go.Deep.choose_lt hch
  have hE:Enc R ((List.range len).flatMap fun i=>(f i).1) ((List.range len).map fun i=>(f i).2):=enc_range _ _ len fun i hi=>(hf i hi).2
  refine ⟨_,(List.range len).map fun i=>(f i).2,rfl,some a,m,(List.range len).flatMap fun i=>(f i).1,by simp,.inl rfl,?_,hE,by simp only [List.length_map,List.length_range];have hrb:reachBytes=140737488351232:=rfl;have:=Nat.mul_le_mul_right bs hl;omega,hm,by simp,by simpa using hl⟩
  rw [List.append_nil]
  by_cases h0:len=0
  ·subst h0;exact .inl rfl
  ·refine .inr ?_
   obtain ⟨b,off,sp⟩:=a
   have hE':Enc (fun c i=>c=(f i).1∧i<len) ((List.range len).flatMap fun i=>(f i).1) ((List.range len).map fun i=>i):=enc_range _ _ len fun i hi=>⟨rfl,hi⟩
   have hlen:∀c i,(c=(f i).1∧i<len)→c.length=size:=fun c i ⟨e,hi⟩=>by rw [e];exact hR _ _ (hf i hi).2
   obtain ⟨hL,hA⟩:=encZ_at hlen hE'
   have hsp:sp=none:=by
    obtain ⟨_,h2,h3⟩:=World.cells?_some (hf 0 (by omega)).1
    have h4:=h3 0 hs
    rw [List.getElem?_eq_getElem (by omega)] at h4
    rw [Nat.zero_mul] at h4
    have h5:(((⟨b,off,sp⟩:Addr).add 0).add 0)=⟨b,off,sp⟩:=by simp [Addr.add]
    rw [h5] at h4
    exact cell_spot h4
   subst hsp
   refine ⟨b,off,rfl,fun j u hu=>?_⟩
   have hj:j<len*size:=by
    have:=(List.getElem?_eq_some_iff.1 hu).1
    rw [hL] at this
    simpa using this
   have hq:j / size<len:=(Nat.div_lt_iff_lt_mul hs).2 hj
   obtain ⟨c,⟨e1,_⟩,e2⟩:=hA (j / size) (by simpa using hq)
   have hr:j % size<size:=Nat.mod_lt _ hs
   have e3:=e2 (j % size) hr
   have hjj:j / size*size+j % size=j:=by rw [Nat.mul_comm];exact Nat.div_add_mod j size
   rw [hjj,hu] at e3
   simp only [List.getElem_map,List.getElem_range] at e1
   obtain ⟨_,_,h3⟩:=World.cells?_some (hf (j / size) hq).1
   have h4:=h3 (j % size) hr
   rw [←e1,←e3] at h4
   have h5:(((⟨b,off,none⟩:Addr).add (j / size*size)).add (j % size))=⟨b,off+j,none⟩:=by
    rw [Go.Deep.add_add,hjj]
    unfold Addr.add
    split <;> simp_all
   rw [h5] at h4
   exact h4
set_option maxRecDepth 100000 in
theorem tm_open {H:Type} {enc:TypeId × Value→H} {w:World} {n:Nat} {cs:List Value} {d:DataW H} {p:List MemPlace} (hl:cs.length=3) (h:DataW.trod enc Tryz.prog w 0 (fun _=>true) true n 140 cs=some (d,p)):∃t:TmZ,cs=tmZ t:=by
 obtain ⟨xs,n',rfl,hx,_,hlen,hf⟩:=DataW.trod_struct Tryz.underlying140 h
 have h0:=hf 0 _ rfl
 have h1:=hf 1 _ rfl
 have h2:=hf 2 _ rfl
 match cs,hl with
 | [c0,c1,c2],_ =>
  have l3:xs.length=3:=hlen
  rw [List.getElem?_eq_getElem (by omega)] at h0 h1 h2
  obtain ⟨a,ha,_⟩:=DataW.trod_int (k:=.i64) (by kernel_rfl) h0
  obtain ⟨b,hb,_⟩:=DataW.trod_int (k:=.i64) (by kernel_rfl) h1
  obtain ⟨c,hc,_⟩:=DataW.trod_string (by kernel_rfl) h2
  refine ⟨⟨a,b,c⟩,?_⟩
  have ha':[c0]=[.int .i64 a]:=ha
  have hb':[c1]=[.int .i64 b]:=hb
  have hc':[c2]=[.string c]:=hc
  injection ha' with e1
  injection hb' with e2
  injection hc' with e3
  rw [e1,e2,e3];rfl
section
set_option maxRecDepth 100000
variable {H:Type} {enc:TypeId × Value→H} {w:World} {n:Nat} {cs:List Value} {d:DataW H} {p:List MemPlace}
theorem tms_open (h:DataW.trod enc Tryz.prog w 0 (fun _=>true) true n 97 cs=some (d,p)) (hw:Wt 97 d):∃v l,cs=[v]∧TmsR false (wC w) v l :=
 open_sl (size:=3) (bs:=32) (R:=fun c t=>c=tmZ t) (e:=140) (by kernel_rfl) (by kernel_rfl) (by decide) (by kernel_rfl) (fun c x e=>by rw [e];rfl) (fun _ _ _ _ hl h _=>tm_open hl h) h hw
theorem strs_open (h:DataW.trod enc Tryz.prog w 0 (fun _=>true) true n 22 cs=some (d,p)) (hw:Wt 22 d):∃v l,cs=[v]∧StrR false (wC w) v l :=
 open_sl (size:=1) (bs:=16) (R:=fun c t=>c=[Value.string t]) (e:=9) (by kernel_rfl) (by kernel_rfl) (by decide) (by kernel_rfl) (fun c x e=>by rw [e];rfl) (fun _ _ _ _ hl h _=>by
  obtain ⟨s,hs,_⟩:=DataW.trod_string (by kernel_rfl) h
  exact ⟨s,hs⟩) h hw
theorem exs_open (h:DataW.trod enc Tryz.prog w 0 (fun _=>true) true n 45 cs=some (d,p)) (hw:Wt 45 d):∃v l,cs=[v]∧ExsR false (wC w) v l :=
 open_sl (size:=1) (bs:=24) (R:=ExR1 false (wC w)) (e:=97) (by kernel_rfl) (by kernel_rfl) (by decide) (by kernel_rfl) (fun c x ⟨u,e,_⟩=>by rw [e];rfl) (fun _ _ _ _ _ h hw=>by
  obtain ⟨v,l,hv,hl⟩:=tms_open h hw
  exact ⟨l,v,hv,hl⟩) h hw
theorem st_open (hl:cs.length=4) (h:DataW.trod enc Tryz.prog w 0 (fun _=>true) true n 47 cs=some (d,p)) (hw:Wt 47 d):∃s,StR1 false (wC w) cs s:=by
 obtain ⟨c0,c1,c2,c3,rfl⟩:∃c0 c1 c2 c3,cs=[c0,c1,c2,c3]:=by
  match cs,hl with
  | [c0,c1,c2,c3],_=>exact ⟨c0,c1,c2,c3,rfl⟩
 obtain ⟨xs,n',rfl,hx,_,hlen,hf⟩:=DataW.trod_struct Tryz.underlying47 h
 have h0:=hf 0 _ rfl
 have h1:=hf 1 _ rfl
 have h2:=hf 2 _ rfl
 have h3:=hf 3 _ rfl
 injection hx with hd _
 subst hd
 have l4:xs.length=4:=hlen
 have hwe:∀j (hj:j<4) t,([3,9,22,45]:List TypeId)[j]?=some t→Wt t (xs[j]'(by omega)).1:=fun j hj t ht x hx=>hw x (by
  simp only [DataW.weights,Tryz.underlying47]
  refine DataW.weights_mem_each (j:=j) (t:=t) ?_ ?_ x hx
  ·exact ht
  ·rw [List.getElem?_map,List.getElem?_eq_getElem (by omega)];rfl)
 rw [List.getElem?_eq_getElem (by omega)] at h0 h1 h2 h3
 obtain ⟨a,ha,_⟩:=DataW.trod_int (k:=.i64) (by kernel_rfl) h0
 obtain ⟨b,hb,_⟩:=DataW.trod_string (by kernel_rfl) h1
 obtain ⟨vt,lt,ht,hT⟩:=strs_open (d:=(xs[2]'(by omega)).1) (p:=(xs[2]'(by omega)).2) h2 (hwe 2 (by omega) _ rfl)
 obtain ⟨ve,le,he,hE⟩:=exs_open (d:=(xs[3]'(by omega)).1) (p:=(xs[3]'(by omega)).2) h3 (hwe 3 (by omega) _ rfl)
 refine ⟨⟨a,b,lt,le⟩,vt,ve,?_,hT,hE⟩
 have ha':[c0]=[.int .i64 a]:=ha
 have hb':[c1]=[.string b]:=hb
 have hc':[c2]=[vt]:=ht
 have hd':[c3]=[ve]:=he
 injection ha' with e1
 injection hb' with e2
 injection hc' with e3
 injection hd' with e4
 rw [e1,e2,e3,e4]
theorem bd_open (h:DataW.trod enc Tryz.prog w 0 (fun _=>true) true n 41 cs=some (d,p)) (hw:Wt 41 d):∃v l,cs=[v]∧BdR false (wC w) v l :=
 open_sl (size:=4) (bs:=72) (R:=StR1 false (wC w)) (e:=47) (by kernel_rfl) (by kernel_rfl) (by decide) (by kernel_rfl) (fun c x ⟨_,_,e,_⟩=>by rw [e];rfl) (fun _ _ _ _ hl h hw=>st_open hl h hw) h hw
end
section
set_option maxRecDepth 100000
variable {H:Type} {enc:TypeId × Value→H} {w:World} {n:Nat} {cs:List Value} {d:DataW H} {p:List MemPlace}
theorem wf_le {k:IntKind} {n:Int} (h:(Lit.int k n).wf=true):k.min≤n∧n≤k.max:=by
 unfold Lit.wf at h
 rw [Bool.and_eq_true,decide_eq_true_eq,decide_eq_true_eq] at h
 exact h
theorem max_u64:IntKind.max .u64=18446744073709551615:=by decide
theorem min_u64:IntKind.min .u64=0:=by decide
theorem lab_open (h:DataW.trod enc Tryz.prog w 0 (fun _=>true) true n 29 cs=some (d,p)):∃l:Nat,cs=[.int .u64 (l:Nat)]∧l<u64B:=by
 obtain ⟨a,ha,_,hw⟩:=DataW.trod_int (k:=.u64) (by kernel_rfl) h
 have h1:=wf_le hw
 rw [min_u64,max_u64] at h1
 exact ⟨a.toNat,by rw [ha,Int.toNat_of_nonneg h1.1],by unfold u64B;omega⟩
theorem de_open (hl:cs.length=2) (h:DataW.trod enc Tryz.prog w 0 (fun _=>true) true n 37 cs=some (d,p)) (hw:Wt 37 d):∃t:DeZ,cs=deZ t∧t.label<u64B:=by
 obtain ⟨c0,c1,rfl⟩:∃c0 c1,cs=[c0,c1]:=by
  match cs,hl with
  | [c0,c1],_=>exact ⟨c0,c1,rfl⟩
 obtain ⟨xs,n',rfl,hx,_,hlen,hf⟩:=DataW.trod_struct Tryz.underlying37 h
 have h0:=hf 0 _ rfl
 have h1:=hf 1 _ rfl
 injection hx with hd _
 subst hd
 have lk:xs.length=2:=hlen
 have hwe:∀j (hj:j<2) t,([9,29]:List TypeId)[j]?=some t→Wt t (xs[j]'(by omega)).1:=fun j hj t ht x hx=>hw x (by
  simp only [DataW.weights,Tryz.underlying37]
  refine DataW.weights_mem_each (j:=j) (t:=t) ?_ ?_ x hx
  ·exact ht
  ·rw [List.getElem?_map,List.getElem?_eq_getElem (by omega)];rfl)
 rw [List.getElem?_eq_getElem (by omega)] at h0 h1
 obtain ⟨v0,e0,_⟩:=DataW.trod_string (by kernel_rfl) h0
 obtain ⟨v1,e1,r1⟩:=lab_open h1
 have z0:[c0]=[.string v0]:=e0
 injection z0 with y0
 have z1:[c1]=[.int .u64 (v1:Nat)]:=e1
 injection z1 with y1
 subst y0 y1
 exact ⟨⟨v0,v1⟩,rfl,r1⟩
theorem ar_open (hl:cs.length=3) (h:DataW.trod enc Tryz.prog w 0 (fun _=>true) true n 39 cs=some (d,p)) (hw:Wt 39 d):∃t:ArZ,cs=arZv t∧t.label<u64B:=by
 obtain ⟨c0,c1,c2,rfl⟩:∃c0 c1 c2,cs=[c0,c1,c2]:=by
  match cs,hl with
  | [c0,c1,c2],_=>exact ⟨c0,c1,c2,rfl⟩
 obtain ⟨xs,n',rfl,hx,_,hlen,hf⟩:=DataW.trod_struct Tryz.underlying39 h
 have h0:=hf 0 _ rfl
 have h1:=hf 1 _ rfl
 have h2:=hf 2 _ rfl
 injection hx with hd _
 subst hd
 have lk:xs.length=3:=hlen
 have hwe:∀j (hj:j<3) t,([9,3,29]:List TypeId)[j]?=some t→Wt t (xs[j]'(by omega)).1:=fun j hj t ht x hx=>hw x (by
  simp only [DataW.weights,Tryz.underlying39]
  refine DataW.weights_mem_each (j:=j) (t:=t) ?_ ?_ x hx
  ·exact ht
  ·rw [List.getElem?_map,List.getElem?_eq_getElem (by omega)];rfl)
 rw [List.getElem?_eq_getElem (by omega)] at h0 h1 h2
 obtain ⟨v0,e0,_⟩:=DataW.trod_string (by kernel_rfl) h0
 obtain ⟨v1,e1,_⟩:=DataW.trod_int (k:=.i64) (by kernel_rfl) h1
 obtain ⟨v2,e2,r2⟩:=lab_open h2
 have z0:[c0]=[.string v0]:=e0
 injection z0 with y0
 have z1:[c1]=[.int .i64 v1]:=e1
 injection z1 with y1
 have z2:[c2]=[.int .u64 (v2:Nat)]:=e2
 injection z2 with y2
 subst y0 y1 y2
 exact ⟨⟨v0,v1,v2⟩,rfl,r2⟩
theorem des_open (h:DataW.trod enc Tryz.prog w 0 (fun _=>true) true n 23 cs=some (d,p)) (hw:Wt 23 d):∃v l,cs=[v]∧DesR false (wC w) v l :=
 open_sl (size:=2) (bs:=24) (R:=fun c d=>c=deZ d∧d.label<u64B) (e:=37) (by kernel_rfl) (by kernel_rfl) (by decide) (by kernel_rfl) de_lenZ (fun _ _ _ _ hl h hw=>de_open hl h hw) h hw
theorem las_open (h:DataW.trod enc Tryz.prog w 0 (fun _=>true) true n 40 cs=some (d,p)) (hw:Wt 40 d):∃v l,cs=[v]∧LasR false (wC w) v l :=
 open_sl (size:=1) (bs:=8) (R:=fun c d=>c=laZ d∧d<u64B) (e:=29) (by kernel_rfl) (by kernel_rfl) (by decide) (by kernel_rfl) la_lenZ (fun _ _ _ _ _ h _=>lab_open h) h hw
theorem ars_open (h:DataW.trod enc Tryz.prog w 0 (fun _=>true) true n 24 cs=some (d,p)) (hw:Wt 24 d):∃v l,cs=[v]∧ArsR false (wC w) v l :=
 open_sl (size:=3) (bs:=32) (R:=fun c d=>c=arZv d∧d.label<u64B) (e:=39) (by kernel_rfl) (by kernel_rfl) (by decide) (by kernel_rfl) ar_lenZ (fun _ _ _ _ hl h hw=>ar_open hl h hw) h hw
theorem fn_open (hl:cs.length=6) (h:DataW.trod enc Tryz.prog w 0 (fun _=>true) true n 43 cs=some (d,p)) (hw:Wt 43 d):∃f:FnZ,FnR1 false (wC w) cs f:=by
 obtain ⟨c0,c1,c2,c3,c4,c5,rfl⟩:∃c0 c1 c2 c3 c4 c5,cs=[c0,c1,c2,c3,c4,c5]:=by
  match cs,hl with
  | [c0,c1,c2,c3,c4,c5],_=>exact ⟨c0,c1,c2,c3,c4,c5,rfl⟩
 obtain ⟨xs,n',rfl,hx,_,hlen,hf⟩:=DataW.trod_struct Tryz.underlying43 h
 have h0:=hf 0 _ rfl
 have h1:=hf 1 _ rfl
 have h2:=hf 2 _ rfl
 have h3:=hf 3 _ rfl
 have h4:=hf 4 _ rfl
 have h5:=hf 5 _ rfl
 injection hx with hd _
 subst hd
 have lk:xs.length=6:=hlen
 have hwe:∀j (hj:j<6) t,([9,29,23,40,23,41]:List TypeId)[j]?=some t→Wt t (xs[j]'(by omega)).1:=fun j hj t ht x hx=>hw x (by
  simp only [DataW.weights,Tryz.underlying43]
  refine DataW.weights_mem_each (j:=j) (t:=t) ?_ ?_ x hx
  ·exact ht
  ·rw [List.getElem?_map,List.getElem?_eq_getElem (by omega)];rfl)
 rw [List.getElem?_eq_getElem (by omega)] at h0 h1 h2 h3 h4 h5
 obtain ⟨v0,e0,_⟩:=DataW.trod_string (by kernel_rfl) h0
 obtain ⟨v1,e1,r1⟩:=lab_open h1
 obtain ⟨w2,v2,e2,r2⟩:=des_open (d:=(xs[2]'(by omega)).1) (p:=(xs[2]'(by omega)).2) h2 (hwe 2 (by omega) _ rfl)
 obtain ⟨w3,v3,e3,r3⟩:=las_open (d:=(xs[3]'(by omega)).1) (p:=(xs[3]'(by omega)).2) h3 (hwe 3 (by omega) _ rfl)
 obtain ⟨w4,v4,e4,r4⟩:=des_open (d:=(xs[4]'(by omega)).1) (p:=(xs[4]'(by omega)).2) h4 (hwe 4 (by omega) _ rfl)
 obtain ⟨w5,v5,e5,r5⟩:=bd_open (d:=(xs[5]'(by omega)).1) (p:=(xs[5]'(by omega)).2) h5 (hwe 5 (by omega) _ rfl)
 have z0:[c0]=[.string v0]:=e0
 injection z0 with y0
 have z1:[c1]=[.int .u64 (v1:Nat)]:=e1
 injection z1 with y1
 have z2:[c2]=[w2]:=e2
 injection z2 with y2
 have z3:[c3]=[w3]:=e3
 injection z3 with y3
 have z4:[c4]=[w4]:=e4
 injection z4 with y4
 have z5:[c5]=[w5]:=e5
 injection z5 with y5
 subst y0 y1 y2 y3 y4 y5
 exact ⟨⟨v0,v1,v2,v3,v4,v5⟩,c2,c3,c4,c5,rfl,r1,r2,r3,r4,r5⟩
theorem fns_open (h:DataW.trod enc Tryz.prog w 0 (fun _=>true) true n 25 cs=some (d,p)) (hw:Wt 25 d):∃v l,cs=[v]∧FnsR false (wC w) v l :=
 open_sl (size:=6) (bs:=120) (R:=FnR1 false (wC w)) (e:=43) (by kernel_rfl) (by kernel_rfl) (by decide) (by kernel_rfl) fn_lenZ (fun _ _ _ _ hl h hw=>fn_open hl h hw) h hw
theorem src_open (hl:cs.length=5) (h:DataW.trod enc Tryz.prog w 0 (fun _=>true) true n 27 cs=some (d,p)) (hw:Wt 27 d):∃s:SoZ,∃v,cs=v∧SrcR false (wC w) (.agg v.toArray) s:=by
 obtain ⟨c0,c1,c2,c3,c4,rfl⟩:∃c0 c1 c2 c3 c4,cs=[c0,c1,c2,c3,c4]:=by
  match cs,hl with
  | [c0,c1,c2,c3,c4],_=>exact ⟨c0,c1,c2,c3,c4,rfl⟩
 obtain ⟨xs,n',rfl,hx,_,hlen,hf⟩:=DataW.trod_struct Tryz.underlying27 h
 have h0:=hf 0 _ rfl
 have h1:=hf 1 _ rfl
 have h2:=hf 2 _ rfl
 have h3:=hf 3 _ rfl
 have h4:=hf 4 _ rfl
 injection hx with hd _
 subst hd
 have lk:xs.length=5:=hlen
 have hwe:∀j (hj:j<5) t,([22,23,24,23,25]:List TypeId)[j]?=some t→Wt t (xs[j]'(by omega)).1:=fun j hj t ht x hx=>hw x (by
  simp only [DataW.weights,Tryz.underlying27]
  refine DataW.weights_mem_each (j:=j) (t:=t) ?_ ?_ x hx
  ·exact ht
  ·rw [List.getElem?_map,List.getElem?_eq_getElem (by omega)];rfl)
 rw [List.getElem?_eq_getElem (by omega)] at h0 h1 h2 h3 h4
 obtain ⟨w0,v0,e0,r0⟩:=strs_open (d:=(xs[0]'(by omega)).1) (p:=(xs[0]'(by omega)).2) h0 (hwe 0 (by omega) _ rfl)
 obtain ⟨w1,v1,e1,r1⟩:=des_open (d:=(xs[1]'(by omega)).1) (p:=(xs[1]'(by omega)).2) h1 (hwe 1 (by omega) _ rfl)
 obtain ⟨w2,v2,e2,r2⟩:=ars_open (d:=(xs[2]'(by omega)).1) (p:=(xs[2]'(by omega)).2) h2 (hwe 2 (by omega) _ rfl)
 obtain ⟨w3,v3,e3,r3⟩:=des_open (d:=(xs[3]'(by omega)).1) (p:=(xs[3]'(by omega)).2) h3 (hwe 3 (by omega) _ rfl)
 obtain ⟨w4,v4,e4,r4⟩:=fns_open (d:=(xs[4]'(by omega)).1) (p:=(xs[4]'(by omega)).2) h4 (hwe 4 (by omega) _ rfl)
 have z0:[c0]=[w0]:=e0
 injection z0 with y0
 have z1:[c1]=[w1]:=e1
 injection z1 with y1
 have z2:[c2]=[w2]:=e2
 injection z2 with y2
 have z3:[c3]=[w3]:=e3
 injection z3 with y3
 have z4:[c4]=[w4]:=e4
 injection z4 with y4
 subst y0 y1 y2 y3 y4
 exact ⟨⟨v0,v1,v2,v3,v4⟩,_,rfl,c0,c1,c2,c3,c4,rfl,r0,r1,r2,r3,r4⟩
end
end Go.Proofs.YtlpdjfimefjmcaaGreatDoor
