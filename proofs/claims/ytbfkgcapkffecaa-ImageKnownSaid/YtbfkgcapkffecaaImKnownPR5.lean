/- The reader: lists. The reader: a function, functions, a module. The reader: functions, a module. -/
import Derived.Test.YtbfkgcapkffecaaImKnownPR4
namespace Go.Proofs.Ytbfkgcapkffecaa
open Go Go.RowKit Go.Proofs.Mm Go.Sort
section
variable {α:Type} {f:List Nat→Option (α × List Nat)}
def Eats (f:List Nat→Option (α × List Nat)):Prop:=∀ l x r,f l=some (x,r)→r.length<l.length
theorem rdN_len (he:Eats f):∀ (n:Nat) (l:List Nat) (xs:List α) (r:List Nat),rdN f n l=some (xs,r)→xs.length=n∧n+r.length≤l.length
  | 0,l,xs,r,e=>by
    rw [rdN] at e
    injection e with e
    injection e with ha hb
    subst ha hb
    exact ⟨rfl,by omega⟩
  | n+1,l,xs,r,e=>by
    rw [rdN] at e
    split at e
    · cases e
    · rename_i x r1 h1
      split at e
      · cases e
      · rename_i ys r2 h2
        injection e with e
        injection e with ha hb
        subst ha hb
        obtain ⟨p1,p2⟩:=rdN_len he n _ _ _ h2
        have:=he _ _ _ h1
        exact ⟨by simp [p1],by omega⟩
theorem rdN_snoc:∀ {k:Nat} {l:List Nat} {xs:List α} {r:List Nat} {x:α} {r':List Nat},rdN f k l=some (xs,r)→f r=some (x,r')→rdN f (k+1) l=some (xs++[x],r')
  | 0,l,xs,r,x,r',e,h=>by
    rw [rdN] at e
    injection e with e
    injection e with ha hb
    subst ha hb
    rw [rdN,h]
    rfl
  | k+1,l,xs,r,x,r',e,h=>by
    rw [rdN] at e
    split at e
    · cases e
    · rename_i y r1 h1
      split at e
      · cases e
      · rename_i ys r2 h2
        injection e with e
        injection e with ha hb
        subst ha hb
        have:=rdN_snoc h2 h
        rw [rdN,h1]
        simp only
        rw [this]
        rfl
theorem rdN_stop:∀ {k n:Nat} {l:List Nat} {xs:List α} {r:List Nat},rdN f k l=some (xs,r)→f r=none→k<n→rdN f n l=none
  | 0,n+1,l,xs,r,e,h,_=>by
    rw [rdN] at e
    injection e with e
    injection e with ha hb
    subst ha hb
    rw [rdN,h]
  | k+1,n+1,l,xs,r,e,h,hk=>by
    rw [rdN] at e
    split at e
    · cases e
    · rename_i y r1 h1
      split at e
      · cases e
      · rename_i ys r2 h2
        injection e with e
        injection e with ha hb
        subst ha hb
        have:=rdN_stop (n:=n) h2 h (by omega)
        rw [rdN,h1]
        simp only
        rw [this]
theorem rdList_none {l:List Nat} (h:rdU l=none):rdList f l=none:=by unfold rdList;rw [h]
theorem rdList_of {l:List Nat} {n:Nat} {l1:List Nat} (h:rdU l=some (n,l1)):rdList f l=rdN f n l1:=by unfold rdList;rw [h]
end
theorem eats_U:Eats rdU:=fun l n r h=>by
  obtain ⟨_,h2⟩:=rdU_is h
  have:=List.length_pos_iff.2 (putU_ne n)
  rw [h2,List.length_append];omega
theorem eats_lab:Eats rdLab:=fun l x r h=>by
  obtain ⟨_,h2⟩:=rb_lab _ _ _ h
  have:=List.length_pos_iff.2 (putU_ne x.toNat)
  rw [h2,List.length_append]
  unfold labF
  omega
theorem eats_ar:Eats rdAr:=fun l x r h=>by
  obtain ⟨_,h2⟩:=rb_ar _ _ _ h
  have:=List.length_pos_iff.2 (putU_ne x.2.toNat)
  rw [h2,List.length_append]
  unfold arF labF
  rw [List.length_append]
  omega
theorem eats_in:Eats rdIn:=fun l x r h=>by
  obtain ⟨h1,h2⟩:=rb_in _ _ _ h
  have:0<(inF x).length:=by unfold inF putI;rw [h1.1];simp
  rw [h2,List.length_append]
  omega
theorem eats_fn:Eats rdFn:=fun l x r h=>by
  obtain ⟨_,h2⟩:=rb_fn _ _ _ h
  have:=List.length_pos_iff.2 (putU_ne x.level.toNat)
  rw [h2,List.length_append]
  unfold fnF labF
  rw [List.length_append]
  omega
def LiP {α:Type} (bs:Nat) (R:Mem→List Value→α→Prop) (rb:Nat) (w:World) (m:Mem) (l:List Nat) (f:List Nat→Option (α × List Nat)) (e:Ending) (w':World):Prop :=
  Rdk rb w w'∧match rdList f l with
  | none=>e=.panicked (rfV 120)
  | some (xs,r)=>∃ v m',e=.returned v∧RdS rb w' r∧m.More w m'∧Has w' m'∧SlX [] bs (mC m') (R m') v xs
def ItP {α:Type} (R:Mem→List Value→α→Prop) (rb:Nat) (w:World) (m:Mem) (l:List Nat) (f:List Nat→Option (α × List Nat)) (e:Ending) (w':World):Prop :=
  Rdk rb w w'∧match f l with
  | none=>e=.panicked (rfV 120)
  | some (x,r)=>∃ cs m',e=.returned (.agg cs.toArray)∧RdS rb w' r∧m.More w m'∧Has w' m'∧R m' cs x
section
variable {rb:Nat} {w w':World} {l:List Nat} {m:Mem}
theorem LiP.bad {α:Type} {bs:Nat} {R:Mem→List Value→α→Prop} {f:List Nat→Option (α × List Nat)} (h:rdList f l=none) (hc:Rdk rb w w'):LiP bs R rb w m l f (.panicked (rfV 120)) w':=⟨hc,by rw [h]⟩
theorem LiP.none {α:Type} {bs:Nat} {R:Mem→List Value→α→Prop} {f:List Nat→Option (α × List Nat)} {e:Ending} (h:LiP bs R rb w m l f e w') (hf:rdList f l=none):Rdk rb w w'∧e=.panicked (rfV 120):=by
  obtain ⟨h1,h2⟩:=h
  rw [hf] at h2
  exact ⟨h1,h2⟩
theorem LiP.some {α:Type} {bs:Nat} {R:Mem→List Value→α→Prop} {f:List Nat→Option (α × List Nat)} {e:Ending} {xs:List α} {r:List Nat} (h:LiP bs R rb w m l f e w') (hf:rdList f l=some (xs,r)) :
    Rdk rb w w'∧∃ v m',e=.returned v∧RdS rb w' r∧m.More w m'∧Has w' m'∧SlX [] bs (mC m') (R m') v xs:=by
  obtain ⟨h1,h2⟩:=h
  rw [hf] at h2
  exact ⟨h1,h2⟩
theorem ItP.bad {α:Type} {R:Mem→List Value→α→Prop} {f:List Nat→Option (α × List Nat)} (h:f l=none) (hc:Rdk rb w w'):ItP R rb w m l f (.panicked (rfV 120)) w':=⟨hc,by rw [h]⟩
theorem ItP.none {α:Type} {R:Mem→List Value→α→Prop} {f:List Nat→Option (α × List Nat)} {e:Ending} (h:ItP R rb w m l f e w') (hf:f l=none):Rdk rb w w'∧e=.panicked (rfV 120):=by
  obtain ⟨h1,h2⟩:=h
  rw [hf] at h2
  exact ⟨h1,h2⟩
theorem ItP.some {α:Type} {R:Mem→List Value→α→Prop} {f:List Nat→Option (α × List Nat)} {e:Ending} {x:α} {r:List Nat} (h:ItP R rb w m l f e w') (hf:f l=some (x,r)) :
    Rdk rb w w'∧∃ cs m',e=.returned (.agg cs.toArray)∧RdS rb w' r∧m.More w m'∧Has w' m'∧R m' cs x:=by
  obtain ⟨h1,h2⟩:=h
  rw [hf] at h2
  exact ⟨h1,h2⟩
theorem has_rdk (h:Has w m) (hc:Rdk rb w w') (hr:m rb=none):Has w' m:=h.chg hc (fun k e=>by subst e;exact hr)
def LiI {α:Type} (E:TypeId) (size:Nat) (R:Mem→List Value→α→Prop) (rb:Nat) (w:World) (m:Mem) (f:List Nat→Option (α × List Nat)) (l1:List Nat) (n:Nat) (vF iV:Value) (wr:World):Prop :=
  ∃ k q c cs xs r m',k≤n∧iV=.int .u64 (k:Nat)∧vF=.slice q k c∧Hid (rdN f k l1=some (xs,r))∧Hid (wr.ownsRow w.heap.size E size (.slice q k c) k cs)∧Hid (Enc (R m') cs xs)∧Hid (Has wr m')∧Hid (m.More w m')∧Hid (∀ b,(Value.slice q k c).ownBlock=some b→m' b=none)∧Hid (RdS rb wr r)∧Hid (Rdk rb w wr)
theorem LiI.start {α:Type} {E:TypeId} {size:Nat} {R:Mem→List Value→α→Prop} {f:List Nat→Option (α × List Nat)} {l1:List Nat} {n:Nat} {w1:World} (h:Has w1 m) (hs:RdS rb w1 l1) (hb:Rdk rb w w1):LiI E size R rb w m f l1 n (.slice none 0 0) (.int .u64 0) w1 :=
  ⟨0,none,0,[],[],l1,m,Nat.zero_le _,rfl,rfl,Lib.hid rfl,Lib.hid (World.ownsRow_nil _ _ _ _),Lib.hid Enc.nil,Lib.hid h,Lib.hid (Mem.More.refl _ _),Lib.hid (fun b hb=>by cases hb),Lib.hid hs,Lib.hid hb⟩
theorem li_own {E:TypeId} {size k c:Nat} {q:Option Addr} {cs:List Value} {wr:World} (hrw:rb<w.heap.size) (hrow:wr.ownsRow w.heap.size E size (.slice q k c) k cs) (hb:Rdk rb wr w'):w'.ownsRow w.heap.size E size (.slice q k c) k cs :=
  own_chg hrow hb (fun t ht e=>by have:=(hrow.lt t ht).1;omega)
theorem li_step {α:Type} {E:TypeId} {size:Nat} {R:Mem→List Value→α→Prop} {f:List Nat→Option (α × List Nat)} {l1 r r':List Nat} {x:α} {xs:List α} {wr w9:World} {m' m'':Mem} {k c:Nat} {q:Option Addr} {cs news:List Value} {v9:Value} {o:Obj} (hrw:rb<w.heap.size)
    (hN:rdN f k l1=some (xs,r)) (hx:f r=some (x,r')) (hE:Enc (R m') cs xs) (hMo:m.More w m') (hFr:∀ b,(Value.slice q k c).ownBlock=some b→m' b=none) (hB:Rdk rb w wr) (hrow:wr.ownsRow w.heap.size E size (.slice q k c) k cs)
    (hb:Rdk rb wr w') (hmo:m'.More wr m'') (hH:Has w' m'') (hR:∀ m m':Mem,m.le m'→∀ c x,R m c x→R m' c x) (hxR:R m'' news x) (hS:RdS rb w' r')
    (hown:w9.ownsRow w.heap.size E size v9 (k+1) (cs++news)) (hg:(w'.alloc o).grownBy w9 (Value.slice q k c).ownBlock) (hat:v9.ownBlock=(Value.slice q k c).ownBlock ∨ v9.ownBlock=some (w'.heap.size+1)) :
    ∃ q9 c9,v9=.slice q9 (k+1) c9∧Hid (rdN f (k+1) l1=some (xs++[x],r'))∧Hid (w9.ownsRow w.heap.size E size (.slice q9 (k+1) c9) (k+1) (cs++news))∧Hid (Enc (R m'') (cs++news) (xs++[x]))∧Hid (Has w9 m'')∧Hid (m.More w m'')∧Hid (∀ b,(Value.slice q9 (k+1) c9).ownBlock=some b→m'' b=none)∧Hid (RdS rb w9 r')∧Hid (Rdk rb w w9):=by
  obtain ⟨q9,c9,rfl⟩:=own_shape hown
  have h1:=hB.size
  have h2:=hb.size
  have hfr:∀ b,(Value.slice q k c).ownBlock=some b→m'' b=none:=fun b e=>hmo.new b (hFr b e) (hrow.lt b e).2
  have hC:Chg (fun b=>(Value.slice q k c).ownBlock=some b) w' w9:=((Chg.refl _ w').alloc _).then (grown_chg hg (fun b hb=>.inl hb))
  have hge:∀ b,(Value.slice q k c).ownBlock=some b→w.heap.size≤b:=fun b e=>(hrow.lt b e).1
  refine ⟨q9,c9,rfl,Lib.hid (rdN_snoc hN hx),Lib.hid hown,Lib.hid ?_,Lib.hid (hH.chg hC hfr),Lib.hid (hMo.trans hmo h1),Lib.hid (fun b hb=>?_),Lib.hid ?_,Lib.hid ?_⟩
  · exact (hE.mono (hR _ _ hmo.le)).app (Enc.one hxR)
  · rcases hat with hat | hat
    · exact hfr b (hat.symm.trans hb)
    · have:=hat.symm.trans hb
      injection this with this
      exact hH.lt (by omega)
  · obtain ⟨q',c',k1,k2,k3⟩:=hS.ex
    exact ⟨⟨q',c',hC.heap k1 (fun e=>by have:=hge _ e;omega),by_chg k2 hC (fun t e=>by have:=hge _ e;omega),k3⟩,hS.bs⟩
  · exact (hB.then hb).trans hC (fun t e=>.inr (hge _ e))
theorem li_end {α:Type} {E:TypeId} {size bs:Nat} {R:Mem→List Value→α→Prop} {f:List Nat→Option (α × List Nat)} {l1 r:List Nat} {xs:List α} {wr:World} {m':Mem} {n c:Nat} {q:Option Addr} {cs:List Value} (he:Eats f)
    (hf:rdList f l=rdN f n l1) (hN:rdN f n l1=some (xs,r)) (hE:Enc (R m') cs xs) (hMo:m.More w m') (hFr:∀ b,(Value.slice q n c).ownBlock=some b→m' b=none) (hrow:wr.ownsRow w.heap.size E size (.slice q n c) n cs) (hH:Has wr m') (hR:∀ m m':Mem,m.le m'→∀ c x,R m c x→R m' c x)
    (hS:RdS rb wr r) (hB:Rdk rb w wr) (hl:l1.length≤262144) (hbs:bs≤100):LiP bs R rb w m l f (.returned (.slice q n c)) wr:=by
  refine ⟨hB,?_⟩
  rw [hf,hN]
  obtain ⟨p1,p2⟩:=rdN_len he n l1 xs r hN
  obtain ⟨m9,h1,h2,h3,h4⟩:=RowM.done hrow hH hFr
  have hbnd:xs.length * bs≤140737488351232:=by
    have:xs.length * bs≤262144 * 100:=Nat.mul_le_mul (by omega) hbs
    omega
  have hcap:n≤c∧c≤maxLen∧(q=none→c=0):=by
    rcases hrow.2 with ⟨h0,h00⟩ | ⟨g',cap',cur,h0,_,_,k1,k2,_⟩
    · injection h0 with e1 e2 e3
      subst e1 e3
      exact ⟨by omega,by unfold maxLen;omega,fun _=>rfl⟩
    · injection h0 with e1 _ e3
      subst e1 e3
      exact ⟨k1,k2,fun h=>by cases h⟩
  refine ⟨_,m9,rfl,hS,hMo.trans ⟨h1,fun t ht hlt=>?_⟩ (Nat.le_refl _),h3,q,c,cs,by rw [p1],.inl rfl,by rw [List.append_nil];exact RowM.rdO h4,hE.mono (hR _ _ h1),hbnd,hcap.2.1,hcap.2.2,by rw [p1];exact hcap.1⟩
  cases hx:m9 t with
  | none=>rfl
  | some o =>
    rcases h2 t (by rw [hx];simp) with h | h
    · exact absurd ht h
    · have:=(hrow.lt t h).1
      omega
set_option maxRecDepth 100000 in
set_option maxHeartbeats 4000000 in
theorem listedL_any (h:RdS rb w l) (hl:l.length≤262144) (hm:Has w m) (hmr:m rb=none) :
    Calls Try.prog 72 #[.pointer (some ⟨rb,0,none⟩),.func (.func 73) #[.pointer (some ⟨rb,0,none⟩)] #[]] w (LiP 8 (fun _=>laR) rb w m l rdLab):=by
  obtain ⟨i,hi,hz,hs,hbb⟩:=infoL
  have HT:=Lib.hid (rnumber_any h)
  have HLT:=Lib.hid h.lt
  have HM:=Lib.hid hm
  have HMR:=Lib.hid hmr
  clear h hm hmr
  cases hu:rdU l with
  | none =>
    have HU:=Lib.hid hu
    clear hu
    go_enter Try.func72,Try.ntmps72
    go_wp2_with fail
    refine HT.out.mono ?_
    rintro e w1 hp
    obtain ⟨h1,rfl⟩:=hp.none HU.out
    exact ⟨rfl,LiP.bad (rdList_none HU.out) h1⟩
  | some x =>
    obtain ⟨n,l1⟩:=x
    have HU:=Lib.hid hu
    have hn:=(rdU_is hu).1
    have hl1:l1.length≤262144:=by have:=eats_U _ _ _ hu;omega
    unfold W64 at hn
    clear hu hl
    go_enter Try.func72,Try.ntmps72
    go_wp2_with fail
    refine HT.out.mono ?_
    rintro e w1 hp
    obtain ⟨h1,rfl,h2⟩:=hp.some HU.out
    have HI0:=Lib.hid (LiI.start (E:=53) (size:=1) (R:=(fun _=>laR)) (f:=rdLab) (n:=n) (has_rdk HM.out h1 HMR.out) h2 h1)
    clear h1 h2 hp
    go_wp2_with fail
    go_loopw [5,8] (LiI 53 1 (fun _=>laR) rb w m rdLab l1 n) (fun _ i _=>n - (intOf i).toNat)
    case atStart=>exact HI0.out
    case round =>
      obtain ⟨k,q,c,cs,xs,r,m',hk,rfl,rfl,HN,HROW,HE,HH,HMO,HFR,HS,HB⟩:=hrel
      by_cases hlt:k<n
      · have hki:(k:Int)<(n:Int):=by omega
        have hmr':m' rb=none:=HMO.out.new rb HMR.out HLT.out
        cases hx:rdLab r with
        | none =>
          have HX:=Lib.hid hx
          have HC:=Lib.hid (rlabel_any HS.out)
          clear hx hmr'
          go_wp2_with fail
          refine HC.out.mono ?_
          rintro e w2 hp
          obtain ⟨h1,rfl⟩:=hp.none HX.out
          exact ⟨rfl,LiP.bad ((rdList_of HU.out).trans (rdN_stop HN.out HX.out hlt)) (HB.out.then h1)⟩
        | some y =>
          obtain ⟨x,r'⟩:=y
          have HX:=Lib.hid hx
          have HC:=Lib.hid (rlabel_any HS.out)
          clear hx
          go_wp2_with fail
          refine HC.out.mono ?_
          rintro e w2 hp
          obtain ⟨h1,rfl,h2⟩:=hp.some HX.out
          have H1:=Lib.hid h1
          have H2:=Lib.hid (And.intro (Mem.More.refl wr m') (has_rdk HH.out h1 hmr'))
          have H3:=Lib.hid h2
          clear h1 h2 hp hmr'
          have hrow:=li_own HLT.out HROW.out H1.out
          have hws:w.heap.size≤w2.heap.size:=Nat.le_trans HB.out.size H1.out.size
          have hlen:=rdN_len eats_lab _ _ _ _ HN.out
          have hnew:=row_new w2 [.int .u64 x] 53
          have hone:∀ u ∈ ([.int .u64 x]:List Value),u.oneCell'=true:=by intro u hu;simp at hu;subst hu;rfl
          go_wp2_with (at_builtin;refine wpList_append_own_at _ rfl _ _ 22 rfl w.heap.size 53 i _ 1 8 und_L hi hz hs hbb rfl (by decide) _ _ _ rfl (hrow.alloc _) ⟨w2.heap.size,0,none⟩ 1 1 [.int .u64 x] rfl rfl hnew hone (by unfold maxLen;omega) (by omega) (by simp;omega) ?_)
          intro v10 w10 hR10 hg10 _ hat
          obtain ⟨q10,c10,rfl,r1,r2,r3,r4,r5,r6,r7,r8⟩:=li_step (R:=(fun _=>laR)) HLT.out HN.out HX.out HE.out HMO.out HFR.out HB.out HROW.out H1.out H2.out.1 H2.out.2 (fun _ _ _ _ _ h=>h) rfl H3.out hR10 hg10 (by simpa using hat)
          clear hR10 hg10 hat hrow hnew hone hws
          have hkw:IntKind.u64.wrap ((k:Int)+1)=((k+1:Nat):Int):=by rw [wrapU64];omega
          go_wp2
          exact ⟨⟨k+1,q10,c10,_,_,_,_,by omega,by go_num,rfl,r1,r2,r3,r4,r5,r6,r7,r8⟩,by simp [intOf];omega⟩
      · obtain rfl:k=n:=by omega
        go_wp2
        go_ret
        exact li_end eats_lab (rdList_of HU.out) HN.out HE.out HMO.out HFR.out HROW.out HH.out (fun _ _ _ _ _ h=>h) HS.out HB.out hl1 (by decide)
set_option maxRecDepth 100000 in
set_option maxHeartbeats 4000000 in
theorem listedA_any (h:RdS rb w l) (hl:l.length≤262144) (hm:Has w m) (hmr:m rb=none) :
    Calls Try.prog 74 #[.pointer (some ⟨rb,0,none⟩),.func (.func 75) #[.pointer (some ⟨rb,0,none⟩)] #[]] w (LiP 16 (fun _=>arR) rb w m l rdAr):=by
  obtain ⟨i,hi,hz,hs,hbb⟩:=infoA
  have HT:=Lib.hid (rnumber_any h)
  have HLT:=Lib.hid h.lt
  have HM:=Lib.hid hm
  have HMR:=Lib.hid hmr
  clear h hm hmr
  cases hu:rdU l with
  | none =>
    have HU:=Lib.hid hu
    clear hu
    go_enter Try.func74,Try.ntmps74
    go_wp2_with fail
    refine HT.out.mono ?_
    rintro e w1 hp
    obtain ⟨h1,rfl⟩:=hp.none HU.out
    exact ⟨rfl,LiP.bad (rdList_none HU.out) h1⟩
  | some x =>
    obtain ⟨n,l1⟩:=x
    have HU:=Lib.hid hu
    have hn:=(rdU_is hu).1
    have hl1:l1.length≤262144:=by have:=eats_U _ _ _ hu;omega
    unfold W64 at hn
    clear hu hl
    go_enter Try.func74,Try.ntmps74
    go_wp2_with fail
    refine HT.out.mono ?_
    rintro e w1 hp
    obtain ⟨h1,rfl,h2⟩:=hp.some HU.out
    have HI0:=Lib.hid (LiI.start (E:=55) (size:=2) (R:=(fun _=>arR)) (f:=rdAr) (n:=n) (has_rdk HM.out h1 HMR.out) h2 h1)
    clear h1 h2 hp
    go_wp2_with fail
    go_loopw [5,8] (LiI 55 2 (fun _=>arR) rb w m rdAr l1 n) (fun _ i _=>n - (intOf i).toNat)
    case atStart=>exact HI0.out
    case round =>
      obtain ⟨k,q,c,cs,xs,r,m',hk,rfl,rfl,HN,HROW,HE,HH,HMO,HFR,HS,HB⟩:=hrel
      by_cases hlt:k<n
      · have hki:(k:Int)<(n:Int):=by omega
        have hmr':m' rb=none:=HMO.out.new rb HMR.out HLT.out
        cases hx:rdAr r with
        | none =>
          have HX:=Lib.hid hx
          have HC:=Lib.hid (rarray_any HS.out)
          clear hx hmr'
          go_wp2_with fail
          refine HC.out.mono ?_
          rintro e w2 hp
          obtain ⟨h1,rfl⟩:=hp.none HX.out
          exact ⟨rfl,LiP.bad ((rdList_of HU.out).trans (rdN_stop HN.out HX.out hlt)) (HB.out.then h1)⟩
        | some y =>
          obtain ⟨x,r'⟩:=y
          have HX:=Lib.hid hx
          have HC:=Lib.hid (rarray_any HS.out)
          clear hx
          go_wp2_with fail
          refine HC.out.mono ?_
          rintro e w2 hp
          obtain ⟨h1,rfl,h2⟩:=hp.some HX.out
          have H1:=Lib.hid h1
          have H2:=Lib.hid (And.intro (Mem.More.refl wr m') (has_rdk HH.out h1 hmr'))
          have H3:=Lib.hid h2
          clear h1 h2 hp hmr'
          have hrow:=li_own HLT.out HROW.out H1.out
          have hws:w.heap.size≤w2.heap.size:=Nat.le_trans HB.out.size H1.out.size
          have hlen:=rdN_len eats_ar _ _ _ _ HN.out
          have hnew:=row_new w2 [.int .i64 x.1,.int .u64 x.2] 55
          have hone:∀ u ∈ ([.int .i64 x.1,.int .u64 x.2]:List Value),u.oneCell'=true:=by intro u hu;simp at hu;rcases hu with rfl | rfl <;> rfl
          go_wp2_with (at_builtin;refine wpList_append_own_at _ rfl _ _ 23 rfl w.heap.size 55 i _ 2 16 und_A hi hz hs hbb rfl (by decide) _ _ _ rfl (hrow.alloc _) ⟨w2.heap.size,0,none⟩ 1 1 [.int .i64 x.1,.int .u64 x.2] rfl rfl hnew hone (by unfold maxLen;omega) (by omega) (by simp;omega) ?_)
          intro v10 w10 hR10 hg10 _ hat
          obtain ⟨q10,c10,rfl,r1,r2,r3,r4,r5,r6,r7,r8⟩:=li_step (R:=(fun _=>arR)) HLT.out HN.out HX.out HE.out HMO.out HFR.out HB.out HROW.out H1.out H2.out.1 H2.out.2 (fun _ _ _ _ _ h=>h) rfl H3.out hR10 hg10 (by simpa using hat)
          clear hR10 hg10 hat hrow hnew hone hws
          have hkw:IntKind.u64.wrap ((k:Int)+1)=((k+1:Nat):Int):=by rw [wrapU64];omega
          go_wp2
          exact ⟨⟨k+1,q10,c10,_,_,_,_,by omega,by go_num,rfl,r1,r2,r3,r4,r5,r6,r7,r8⟩,by simp [intOf];omega⟩
      · obtain rfl:k=n:=by omega
        go_wp2
        go_ret
        exact li_end eats_ar (rdList_of HU.out) HN.out HE.out HMO.out HFR.out HROW.out HH.out (fun _ _ _ _ _ h=>h) HS.out HB.out hl1 (by decide)
set_option maxRecDepth 100000 in
set_option maxHeartbeats 4000000 in
theorem listedI_any (h:RdS rb w l) (hl:l.length≤262144) (hm:Has w m) (hmr:m rb=none) :
    Calls Try.prog 94 #[.pointer (some ⟨rb,0,none⟩),.func (.func 95) #[.pointer (some ⟨rb,0,none⟩)] #[]] w (LiP 16 (fun _=>inR) rb w m l rdIn):=by
  obtain ⟨i,hi,hz,hs,hbb⟩:=infoI
  have HT:=Lib.hid (rnumber_any h)
  have HLT:=Lib.hid h.lt
  have HM:=Lib.hid hm
  have HMR:=Lib.hid hmr
  clear h hm hmr
  cases hu:rdU l with
  | none =>
    have HU:=Lib.hid hu
    clear hu
    go_enter Try.func94,Try.ntmps94
    go_wp2_with fail
    refine HT.out.mono ?_
    rintro e w1 hp
    obtain ⟨h1,rfl⟩:=hp.none HU.out
    exact ⟨rfl,LiP.bad (rdList_none HU.out) h1⟩
  | some x =>
    obtain ⟨n,l1⟩:=x
    have HU:=Lib.hid hu
    have hn:=(rdU_is hu).1
    have hl1:l1.length≤262144:=by have:=eats_U _ _ _ hu;omega
    unfold W64 at hn
    clear hu hl
    go_enter Try.func94,Try.ntmps94
    go_wp2_with fail
    refine HT.out.mono ?_
    rintro e w1 hp
    obtain ⟨h1,rfl,h2⟩:=hp.some HU.out
    have HI0:=Lib.hid (LiI.start (E:=57) (size:=2) (R:=(fun _=>inR)) (f:=rdIn) (n:=n) (has_rdk HM.out h1 HMR.out) h2 h1)
    clear h1 h2 hp
    go_wp2_with fail
    go_loopw [5,8] (LiI 57 2 (fun _=>inR) rb w m rdIn l1 n) (fun _ i _=>n - (intOf i).toNat)
    case atStart=>exact HI0.out
    case round =>
      obtain ⟨k,q,c,cs,xs,r,m',hk,rfl,rfl,HN,HROW,HE,HH,HMO,HFR,HS,HB⟩:=hrel
      by_cases hlt:k<n
      · have hki:(k:Int)<(n:Int):=by omega
        have hmr':m' rb=none:=HMO.out.new rb HMR.out HLT.out
        cases hx:rdIn r with
        | none =>
          have HX:=Lib.hid hx
          have HC:=Lib.hid (rinstr_any HS.out)
          clear hx hmr'
          go_wp2_with fail
          refine HC.out.mono ?_
          rintro e w2 hp
          obtain ⟨h1,rfl⟩:=hp.none HX.out
          exact ⟨rfl,LiP.bad ((rdList_of HU.out).trans (rdN_stop HN.out HX.out hlt)) (HB.out.then h1)⟩
        | some y =>
          obtain ⟨x,r'⟩:=y
          have HX:=Lib.hid hx
          have HC:=Lib.hid (rinstr_any HS.out)
          clear hx
          go_wp2_with fail
          refine HC.out.mono ?_
          rintro e w2 hp
          obtain ⟨h1,rfl,h2⟩:=hp.some HX.out
          have H1:=Lib.hid h1
          have H2:=Lib.hid (And.intro (Mem.More.refl wr m') (has_rdk HH.out h1 hmr'))
          have H3:=Lib.hid h2
          clear h1 h2 hp hmr'
          have hrow:=li_own HLT.out HROW.out H1.out
          have hws:w.heap.size≤w2.heap.size:=Nat.le_trans HB.out.size H1.out.size
          have hlen:=rdN_len eats_in _ _ _ _ HN.out
          have hnew:=row_new w2 [.int .i64 x.1,.int .i64 x.2] 57
          have hone:∀ u ∈ ([.int .i64 x.1,.int .i64 x.2]:List Value),u.oneCell'=true:=by intro u hu;simp at hu;rcases hu with rfl | rfl <;> rfl
          go_wp2_with (at_builtin;refine wpList_append_own_at _ rfl _ _ 58 rfl w.heap.size 57 i _ 2 16 und_I hi hz hs hbb rfl (by decide) _ _ _ rfl (hrow.alloc _) ⟨w2.heap.size,0,none⟩ 1 1 [.int .i64 x.1,.int .i64 x.2] rfl rfl hnew hone (by unfold maxLen;omega) (by omega) (by simp;omega) ?_)
          intro v10 w10 hR10 hg10 _ hat
          obtain ⟨q10,c10,rfl,r1,r2,r3,r4,r5,r6,r7,r8⟩:=li_step (R:=(fun _=>inR)) HLT.out HN.out HX.out HE.out HMO.out HFR.out HB.out HROW.out H1.out H2.out.1 H2.out.2 (fun _ _ _ _ _ h=>h) rfl H3.out hR10 hg10 (by simpa using hat)
          clear hR10 hg10 hat hrow hnew hone hws
          have hkw:IntKind.u64.wrap ((k:Int)+1)=((k+1:Nat):Int):=by rw [wrapU64];omega
          go_wp2
          exact ⟨⟨k+1,q10,c10,_,_,_,_,by omega,by go_num,rfl,r1,r2,r3,r4,r5,r6,r7,r8⟩,by simp [intOf];omega⟩
      · obtain rfl:k=n:=by omega
        go_wp2
        go_ret
        exact li_end eats_in (rdList_of HU.out) HN.out HE.out HMO.out HFR.out HROW.out HH.out (fun _ _ _ _ _ h=>h) HS.out HB.out hl1 (by decide)
end
end Go.Proofs.Ytbfkgcapkffecaa
namespace Go.Proofs.Ytbfkgcapkffecaa
open Go Go.RowKit Go.Proofs.Mm Go.Sort
theorem eats_sz:Eats rdSz:=fun l x r h=>by
  obtain ⟨h1,h2⟩:=rb_sz _ _ _ h
  have:=List.length_pos_iff.2 (putU_ne x.toNat)
  rw [h2,List.length_append,szF_of h1]
  omega
theorem eats_list {α:Type} {f:List Nat→Option (α × List Nat)} (he:Eats f):Eats (rdList f):=fun l x r h=>by
  cases hu:rdU l with
  | none=>rw [rdList_none hu] at h;cases h
  | some y =>
    obtain ⟨n,l1⟩:=y
    rw [rdList_of hu] at h
    have:=(rdN_len he _ _ _ _ h).2
    have:=eats_U _ _ _ hu
    omega
section
variable {rb:Nat} {w w':World} {l:List Nat} {m0:Mem}
set_option maxRecDepth 100000 in
set_option maxHeartbeats 8000000 in
theorem rfunction_any (h:RdS rb w l) (hl:l.length≤262144) (hm:Has w m0) (hmr:m0 rb=none) :
    Calls Try.prog 77 #[.pointer (some ⟨rb,0,none⟩)] w (ItP (fun m=>FnR1 false (mC m)) rb w m0 l rdFn):=by
  have S0:=Lib.hid (h.alloc (.cells #[.int .u64 0,.slice none 0 0,.slice none 0 0,.int .i64 0,.int .i64 0,.slice none 0 0] 60))
  have B0:=Lib.hid (show Rdk rb w (w.alloc (.cells #[.int .u64 0,.slice none 0 0,.slice none 0 0,.int .i64 0,.int .i64 0,.slice none 0 0] 60)) from (Chg.refl _ w).alloc _)
  have I0:=Lib.hid (InB.new w #[.int .u64 0,.slice none 0 0,.slice none 0 0,.int .i64 0,.int .i64 0,.slice none 0 0] 60)
  have H0:=Lib.hid (has_rdk hm B0.out hmr)
  have N0:=Lib.hid hmr
  have M0:=Lib.hid (Mem.More.refl (w.alloc (.cells #[.int .u64 0,.slice none 0 0,.slice none 0 0,.int .i64 0,.int .i64 0,.slice none 0 0] 60)) m0)
  have H0Z:=Lib.hid (show m0 w.heap.size=none from hm.lt (Nat.le_refl _))
  have L0:=Lib.hid hl
  have HNE:=Lib.hid (show w.heap.size ≠ rb from by have:=h.lt;omega)
  have HLT:=Lib.hid h.lt
  clear h hl hm hmr
  go_enter Try.func77,Try.ntmps77
  have HC:=Lib.hid (rlabel_any S0.out)
  go_wp2_with fail
  refine HC.out.mono ?_
  rintro e w1 hp
  clear HC
  cases hx:rdLab l with
  | none =>
    obtain ⟨h1,rfl⟩:=hp.none hx
    exact ⟨rfl,ItP.bad (by unfold rdFn;rw [hx]) (B0.out.then h1)⟩
  | some y =>
    obtain ⟨lv,r1⟩:=y
    obtain ⟨h1,rfl,h2⟩:=hp.some hx
    have H1:=Lib.hid (has_rdk H0.out h1 N0.out)
    have N1:=N0
    have M1:=M0
    have S1:=Lib.hid h2
    have B1:=Lib.hid (B0.out.then h1)
    have I1:=Lib.hid (own_blk I0.out h1 HNE.out)
    have L1:=Lib.hid (show r1.length≤262144 from Nat.le_trans (Nat.le_of_lt (eats_lab _ _ _ hx)) L0.out)
    have X1:=Lib.hid hx
    clear hp hx h1 h2
    have HC:=Lib.hid (listedL_any S1.out L1.out H1.out N1.out)
    go_wp2_with fail
    refine HC.out.mono ?_
    rintro e w2 hp
    clear HC
    cases hx:rdList rdLab r1 with
    | none =>
      obtain ⟨h1,rfl⟩:=hp.none hx
      exact ⟨rfl,ItP.bad (by unfold rdFn;rw [X1.out];simp only;rw [hx]) (B1.out.then h1)⟩
    | some y =>
      obtain ⟨ps,r2⟩:=y
      obtain ⟨h1,v2,m2,rfl,h2,h3,h4,h5⟩:=hp.some hx
      obtain ⟨q2,n2,c2,rfl⟩:∃ q n c,v2=.slice q n c:=let ⟨q,c,e⟩:=slx_shape h5;⟨q,_,c,e⟩
      have H2:=Lib.hid h4
      have N2:=Lib.hid (h3.new rb N1.out S1.out.lt)
      have M2:=Lib.hid (M1.out.trans h3 (by have:=heap_lt I1.out;simp <;> omega))
      have Z2_2:=Lib.hid (show LasR false (mC m2) (.slice q2 n2 c2) ps from h5)
      have S2:=Lib.hid h2
      have B2:=Lib.hid (B1.out.then h1)
      have I2:=Lib.hid (own_blk I1.out h1 HNE.out)
      have L2:=Lib.hid (show r2.length≤262144 from Nat.le_trans (Nat.le_of_lt (eats_list eats_lab _ _ _ hx)) L1.out)
      have X2:=Lib.hid hx
      clear hp hx h1 h2 h3 h4 h5
      have HC:=Lib.hid (listedL_any S2.out L2.out H2.out N2.out)
      go_wp2_with fail
      refine HC.out.mono ?_
      rintro e w3 hp
      clear HC
      cases hx:rdList rdLab r2 with
      | none =>
        obtain ⟨h1,rfl⟩:=hp.none hx
        exact ⟨rfl,ItP.bad (by unfold rdFn;rw [X1.out];simp only;rw [X2.out];simp only;rw [hx]) (B2.out.then h1)⟩
      | some y =>
        obtain ⟨rs,r3⟩:=y
        obtain ⟨h1,v3,m3,rfl,h2,h3,h4,h5⟩:=hp.some hx
        obtain ⟨q3,n3,c3,rfl⟩:∃ q n c,v3=.slice q n c:=let ⟨q,c,e⟩:=slx_shape h5;⟨q,_,c,e⟩
        have H3:=Lib.hid h4
        have N3:=Lib.hid (h3.new rb N2.out S2.out.lt)
        have M3:=Lib.hid (M2.out.trans h3 (by have:=heap_lt I2.out;simp <;> omega))
        have Z2_3:=Lib.hid (Z2_2.out.le (mle_cle h3.le))
        have Z3_3:=Lib.hid (show LasR false (mC m3) (.slice q3 n3 c3) rs from h5)
        have S3:=Lib.hid h2
        have B3:=Lib.hid (B2.out.then h1)
        have I3:=Lib.hid (own_blk I2.out h1 HNE.out)
        have L3:=Lib.hid (show r3.length≤262144 from Nat.le_trans (Nat.le_of_lt (eats_list eats_lab _ _ _ hx)) L2.out)
        have X3:=Lib.hid hx
        clear hp hx h1 h2 h3 h4 h5
        have HC:=Lib.hid (rsize_any S3.out)
        go_wp2_with fail
        refine HC.out.mono ?_
        rintro e w4 hp
        clear HC
        cases hx:rdSz r3 with
        | none =>
          obtain ⟨h1,rfl⟩:=hp.none hx
          exact ⟨rfl,ItP.bad (by unfold rdFn;rw [X1.out];simp only;rw [X2.out];simp only;rw [X3.out];simp only;rw [hx]) (B3.out.then h1)⟩
        | some y =>
          obtain ⟨lo,r4⟩:=y
          obtain ⟨h1,rfl,h2⟩:=hp.some hx
          have H4:=Lib.hid (has_rdk H3.out h1 N3.out)
          have N4:=N3
          have M4:=M3
          have Z2_4:=Z2_3
          have Z3_4:=Z3_3
          have S4:=Lib.hid h2
          have B4:=Lib.hid (B3.out.then h1)
          have I4:=Lib.hid (own_blk I3.out h1 HNE.out)
          have L4:=Lib.hid (show r4.length≤262144 from Nat.le_trans (Nat.le_of_lt (eats_sz _ _ _ hx)) L3.out)
          have X4:=Lib.hid hx
          clear hp hx h1 h2
          have HC:=Lib.hid (rsize_any S4.out)
          go_wp2_with fail
          refine HC.out.mono ?_
          rintro e w5 hp
          clear HC
          cases hx:rdSz r4 with
          | none =>
            obtain ⟨h1,rfl⟩:=hp.none hx
            exact ⟨rfl,ItP.bad (by unfold rdFn;rw [X1.out];simp only;rw [X2.out];simp only;rw [X3.out];simp only;rw [X4.out];simp only;rw [hx]) (B4.out.then h1)⟩
          | some y =>
            obtain ⟨st,r5⟩:=y
            obtain ⟨h1,rfl,h2⟩:=hp.some hx
            have H5:=Lib.hid (has_rdk H4.out h1 N4.out)
            have N5:=N4
            have M5:=M4
            have Z2_5:=Z2_4
            have Z3_5:=Z3_4
            have S5:=Lib.hid h2
            have B5:=Lib.hid (B4.out.then h1)
            have I5:=Lib.hid (own_blk I4.out h1 HNE.out)
            have L5:=Lib.hid (show r5.length≤262144 from Nat.le_trans (Nat.le_of_lt (eats_sz _ _ _ hx)) L4.out)
            have X5:=Lib.hid hx
            clear hp hx h1 h2
            have HC:=Lib.hid (listedI_any S5.out L5.out H5.out N5.out)
            go_wp2_with fail
            refine HC.out.mono ?_
            rintro e w6 hp
            clear HC
            cases hx:rdList rdIn r5 with
            | none =>
              obtain ⟨h1,rfl⟩:=hp.none hx
              exact ⟨rfl,ItP.bad (by unfold rdFn;rw [X1.out];simp only;rw [X2.out];simp only;rw [X3.out];simp only;rw [X4.out];simp only;rw [X5.out];simp only;rw [hx]) (B5.out.then h1)⟩
            | some y =>
              obtain ⟨cd,r6⟩:=y
              obtain ⟨h1,v6,m6,rfl,h2,h3,h4,h5⟩:=hp.some hx
              obtain ⟨q6,n6,c6,rfl⟩:∃ q n c,v6=.slice q n c:=let ⟨q,c,e⟩:=slx_shape h5;⟨q,_,c,e⟩
              have H6:=Lib.hid h4
              have N6:=Lib.hid (h3.new rb N5.out S5.out.lt)
              have M6:=Lib.hid (M5.out.trans h3 (by have:=heap_lt I5.out;simp <;> omega))
              have Z2_6:=Lib.hid (Z2_5.out.le (mle_cle h3.le))
              have Z3_6:=Lib.hid (Z3_5.out.le (mle_cle h3.le))
              have Z6_6:=Lib.hid (show CdR false (mC m6) (.slice q6 n6 c6) cd from h5)
              have S6:=Lib.hid h2
              have B6:=Lib.hid (B5.out.then h1)
              have I6:=Lib.hid (own_blk I5.out h1 HNE.out)
              have L6:=Lib.hid (show r6.length≤262144 from Nat.le_trans (Nat.le_of_lt (eats_list eats_in _ _ _ hx)) L5.out)
              have X6:=Lib.hid hx
              clear hp hx h1 h2 h3 h4 h5
              have d:=I6.out
              have d0:=d.free 0
              have d1:=d.free 1
              have d2:=d.free 2
              have d3:=d.free 3
              have d4:=d.free 4
              have d5:=d.free 5
              have e0:=d.cell (j:=0) rfl
              have e1:=d.cell (j:=1) rfl
              have e2:=d.cell (j:=2) rfl
              have e3:=d.cell (j:=3) rfl
              have e4:=d.cell (j:=4) rfl
              have e5:=d.cell (j:=5) rfl
              clear d
              go_wp2
              refine bodyPost_ret (results_cell_row rfl _ _ w.heap.size 60 #[.int .u64 lv,.slice q2 n2 c2,.slice q3 n3 c3,.int .i64 lo,.int .i64 st,.slice q6 n6 c6] (0,0) _ rfl (heap_set (heap_set (heap_set (heap_set (heap_set (heap_set I6.out 0 _) 1 _) 2 _) 3 _) 4 _) 5 _) Try.underlying60 rfl (by kernel_rfl)) rfl ?_
              have hC:Chg (fun k=>k=w.heap.size) w6 ((((((w6.setCell ⟨w.heap.size,0,none⟩ (.int .u64 lv)).setCell ⟨w.heap.size,1,none⟩ (.slice q2 n2 c2)).setCell ⟨w.heap.size,2,none⟩ (.slice q3 n3 c3)).setCell ⟨w.heap.size,3,none⟩ (.int .i64 lo)).setCell ⟨w.heap.size,4,none⟩ (.int .i64 st)).setCell ⟨w.heap.size,5,none⟩ (.slice q6 n6 c6)) :=
                ((((((Chg.refl (fun k=>k=w.heap.size) w6).setCell (p:=⟨w.heap.size,0,none⟩) (.inl rfl) _).setCell (p:=⟨w.heap.size,1,none⟩) (.inl rfl) _).setCell (p:=⟨w.heap.size,2,none⟩) (.inl rfl) _).setCell (p:=⟨w.heap.size,3,none⟩) (.inl rfl) _).setCell (p:=⟨w.heap.size,4,none⟩) (.inl rfl) _).setCell (p:=⟨w.heap.size,5,none⟩) (.inl rfl) _
              obtain ⟨qs,cs,k1,k2,k3⟩:=S6.out.ex
              refine ⟨B6.out.trans hC (fun t e=>.inr (by omega)),?_⟩
              rw [show rdFn l=some (⟨lv,ps,rs,lo,st,cd⟩,r6) from by unfold rdFn;rw [X1.out];simp only;rw [X2.out];simp only;rw [X3.out];simp only;rw [X4.out];simp only;rw [X5.out];simp only;rw [X6.out]]
              refine ⟨[.int .u64 lv,.slice q2 n2 c2,.slice q3 n3 c3,.int .i64 lo,.int .i64 st,.slice q6 n6 c6],m6,rfl,⟨⟨qs,cs,hC.heap k1 (fun e=>HNE.out e.symm),by_chg k2 hC (fun t e=>by have:=HLT.out;omega),k3⟩,S6.out.bs⟩,M6.out.from (by simp),H6.out.chg hC (fun t e=>by subst e;exact M6.out.new w.heap.size H0Z.out (by simp)),?_⟩
              exact ⟨_,_,_,rfl,Z2_6.out,Z3_6.out,Z6_6.out⟩
end
end Go.Proofs.Ytbfkgcapkffecaa
namespace Go.Proofs.Ytbfkgcapkffecaa
open Go Go.RowKit Go.Proofs.Mm Go.Sort
theorem fnR_monoF:∀ m m':Mem,m.le m'→∀ c x,FnR1 false (mC m) c x→FnR1 false (mC m') c x:=fun _ _ h _ _ e=>e.le (mle_cle h)
section
variable {rb:Nat} {w w':World} {l:List Nat} {m m0:Mem}
set_option maxRecDepth 100000 in
set_option maxHeartbeats 4000000 in
theorem listedF_any (h:RdS rb w l) (hl:l.length≤262144) (hm:Has w m) (hmr:m rb=none) :
    Calls Try.prog 76 #[.pointer (some ⟨rb,0,none⟩),.func (.func 77) #[.pointer (some ⟨rb,0,none⟩)] #[]] w (LiP 96 (fun m=>FnR1 false (mC m)) rb w m l rdFn):=by
  obtain ⟨i,hi,hz,hs,hbb⟩:=infoF
  have HT:=Lib.hid (rnumber_any h)
  have HLT:=Lib.hid h.lt
  have HM:=Lib.hid hm
  have HMR:=Lib.hid hmr
  clear h hm hmr
  cases hu:rdU l with
  | none =>
    have HU:=Lib.hid hu
    clear hu
    go_enter Try.func76,Try.ntmps76
    go_wp2_with fail
    refine HT.out.mono ?_
    rintro e w1 hp
    obtain ⟨h1,rfl⟩:=hp.none HU.out
    exact ⟨rfl,LiP.bad (rdList_none HU.out) h1⟩
  | some x =>
    obtain ⟨n,l1⟩:=x
    have HU:=Lib.hid hu
    have hn:=(rdU_is hu).1
    have hl1:l1.length≤262144:=by have:=eats_U _ _ _ hu;omega
    unfold W64 at hn
    clear hu hl
    go_enter Try.func76,Try.ntmps76
    go_wp2_with fail
    refine HT.out.mono ?_
    rintro e w1 hp
    obtain ⟨h1,rfl,h2⟩:=hp.some HU.out
    have HI0:=Lib.hid (LiI.start (E:=60) (size:=6) (R:=(fun m=>FnR1 false (mC m))) (f:=rdFn) (n:=n) (has_rdk HM.out h1 HMR.out) h2 h1)
    clear h1 h2 hp
    go_wp2_with fail
    go_loopw [5,8] (LiI 60 6 (fun m=>FnR1 false (mC m)) rb w m rdFn l1 n) (fun _ i _=>n - (intOf i).toNat)
    case atStart=>exact HI0.out
    case round =>
      obtain ⟨k,q,c,cs,xs,r,m',hk,rfl,rfl,HN,HROW,HE,HH,HMO,HFR,HS,HB⟩:=hrel
      by_cases hlt:k<n
      · have hki:(k:Int)<(n:Int):=by omega
        have hmr':m' rb=none:=HMO.out.new rb HMR.out HLT.out
        cases hx:rdFn r with
        | none =>
          have HX:=Lib.hid hx
          have HC:=Lib.hid (rfunction_any HS.out (Nat.le_trans (by have:=(rdN_len eats_fn _ _ _ _ HN.out).2;omega) hl1) HH.out hmr')
          clear hx hmr'
          go_wp2_with fail
          refine HC.out.mono ?_
          rintro e w2 hp
          obtain ⟨h1,rfl⟩:=hp.none HX.out
          exact ⟨rfl,LiP.bad ((rdList_of HU.out).trans (rdN_stop HN.out HX.out hlt)) (HB.out.then h1)⟩
        | some y =>
          obtain ⟨x,r'⟩:=y
          have HX:=Lib.hid hx
          have HC:=Lib.hid (rfunction_any HS.out (Nat.le_trans (by have:=(rdN_len eats_fn _ _ _ _ HN.out).2;omega) hl1) HH.out hmr')
          clear hx
          go_wp2_with fail
          refine HC.out.mono ?_
          rintro e w2 hp
          obtain ⟨h1,ds,m2,rfl,h2,h3,h4,h5⟩:=hp.some HX.out
          obtain ⟨vp,vr,vc,rfl,z1,z2,z3⟩:=h5
          obtain ⟨qp,np,cp,rfl⟩:∃ q n c,vp=.slice q n c:=let ⟨q,c,e⟩:=slx_shape z1;⟨q,_,c,e⟩
          obtain ⟨qr,nr,cr,rfl⟩:∃ q n c,vr=.slice q n c:=let ⟨q,c,e⟩:=slx_shape z2;⟨q,_,c,e⟩
          obtain ⟨qc,nc,cc,rfl⟩:∃ q n c,vc=.slice q n c:=let ⟨q,c,e⟩:=slx_shape z3;⟨q,_,c,e⟩
          have H1:=Lib.hid h1
          have H2:=Lib.hid (And.intro h3 (And.intro h4 (show FnR1 false (mC m2) [.int .u64 x.level,.slice qp np cp,.slice qr nr cr,.int .i64 x.locals,.int .i64 x.stack,.slice qc nc cc] x from ⟨_,_,_,rfl,z1,z2,z3⟩)))
          have H3:=Lib.hid h2
          clear h1 h2 hp hmr' h3 h4 z1 z2 z3
          have hrow:=li_own HLT.out HROW.out H1.out
          have hws:w.heap.size≤w2.heap.size:=Nat.le_trans HB.out.size H1.out.size
          have hlen:=rdN_len eats_fn _ _ _ _ HN.out
          have hnew:=row_new w2 [.int .u64 x.level,.slice qp np cp,.slice qr nr cr,.int .i64 x.locals,.int .i64 x.stack,.slice qc nc cc] 60
          have hone:∀ u ∈ ([.int .u64 x.level,.slice qp np cp,.slice qr nr cr,.int .i64 x.locals,.int .i64 x.stack,.slice qc nc cc]:List Value),u.oneCell'=true:=by intro u hu;simp at hu;rcases hu with rfl | rfl | rfl | rfl | rfl | rfl <;> rfl
          go_wp2_with (at_builtin;refine wpList_append_own_at _ rfl _ _ 24 rfl w.heap.size 60 i _ 6 96 und_F hi hz hs hbb rfl (by decide) _ _ _ rfl (hrow.alloc _) ⟨w2.heap.size,0,none⟩ 1 1 [.int .u64 x.level,.slice qp np cp,.slice qr nr cr,.int .i64 x.locals,.int .i64 x.stack,.slice qc nc cc] rfl rfl hnew hone (by unfold maxLen;omega) (by omega) (by simp;omega) ?_)
          intro v10 w10 hR10 hg10 _ hat
          obtain ⟨q10,c10,rfl,r1,r2,r3,r4,r5,r6,r7,r8⟩:=li_step (R:=(fun m=>FnR1 false (mC m))) HLT.out HN.out HX.out HE.out HMO.out HFR.out HB.out HROW.out H1.out H2.out.1 H2.out.2.1 fnR_monoF H2.out.2.2 H3.out hR10 hg10 (by simpa using hat)
          clear hR10 hg10 hat hrow hnew hone hws
          have hkw:IntKind.u64.wrap ((k:Int)+1)=((k+1:Nat):Int):=by rw [wrapU64];omega
          go_wp2
          exact ⟨⟨k+1,q10,c10,_,_,_,_,by omega,by go_num,rfl,r1,r2,r3,r4,r5,r6,r7,r8⟩,by simp [intOf];omega⟩
      · obtain rfl:k=n:=by omega
        go_wp2
        go_ret
        exact li_end eats_fn (rdList_of HU.out) HN.out HE.out HMO.out HFR.out HROW.out HH.out fnR_monoF HS.out HB.out hl1 (by decide)
def MdP (rb:Nat) (w:World) (m0:Mem) (l:List Nat) (e:Ending) (w':World):Prop :=
  Rdk rb w w'∧((∃ mo v m',rdMo l=some (mo,[])∧e=.returned v∧m0.More w m'∧Has w' m'∧MoR false (mC m') v mo) ∨ ((∀ mo,rdMo l ≠ some (mo,[]))∧e=.panicked (rfV 120)))
theorem MdP.bad (h:rdMo l=none) (hc:Rdk rb w w'):MdP rb w m0 l (.panicked (rfV 120)) w':=⟨hc,.inr ⟨fun mo e=>(by rw [h] at e;cases e),rfl⟩⟩
set_option maxRecDepth 100000 in
set_option maxHeartbeats 8000000 in
theorem rmodule_any (h:RdS rb w l) (hl:l.length≤262144) (hm:Has w m0) (hmr:m0 rb=none) :
    Calls Try.prog 42 #[.pointer (some ⟨rb,0,none⟩)] w (MdP rb w m0 l):=by
  have S0:=Lib.hid (h.alloc (.cells #[.slice none 0 0,.slice none 0 0,.slice none 0 0,.slice none 0 0] 26))
  have B0:=Lib.hid (show Rdk rb w (w.alloc (.cells #[.slice none 0 0,.slice none 0 0,.slice none 0 0,.slice none 0 0] 26)) from (Chg.refl _ w).alloc _)
  have I0:=Lib.hid (InB.new w #[.slice none 0 0,.slice none 0 0,.slice none 0 0,.slice none 0 0] 26)
  have H0:=Lib.hid (has_rdk hm B0.out hmr)
  have N0:=Lib.hid hmr
  have M0:=Lib.hid (Mem.More.refl (w.alloc (.cells #[.slice none 0 0,.slice none 0 0,.slice none 0 0,.slice none 0 0] 26)) m0)
  have H0Z:=Lib.hid (show m0 w.heap.size=none from hm.lt (Nat.le_refl _))
  have L0:=Lib.hid hl
  have HNE:=Lib.hid (show w.heap.size ≠ rb from by have:=h.lt;omega)
  have HLT:=Lib.hid h.lt
  clear h hl hm hmr
  go_enter Try.func42,Try.ntmps42
  have HC:=Lib.hid (listedL_any S0.out L0.out H0.out N0.out)
  go_wp2_with fail
  refine HC.out.mono ?_
  rintro e w1 hp
  clear HC
  cases hx:rdList rdLab l with
  | none =>
    obtain ⟨h1,rfl⟩:=hp.none hx
    exact ⟨rfl,MdP.bad (by unfold rdMo;rw [hx]) (B0.out.then h1)⟩
  | some y =>
    obtain ⟨gs,r1⟩:=y
    obtain ⟨h1,v1,m1,rfl,h2,h3,h4,h5⟩:=hp.some hx
    obtain ⟨q1,n1,c1,rfl⟩:∃ q n c,v1=.slice q n c:=let ⟨q,c,e⟩:=slx_shape h5;⟨q,_,c,e⟩
    have H1:=Lib.hid h4
    have N1:=Lib.hid (h3.new rb N0.out S0.out.lt)
    have M1:=Lib.hid (M0.out.trans h3 (by have:=heap_lt I0.out;simp <;> omega))
    have Z1_1:=Lib.hid (show LasR false (mC m1) (.slice q1 n1 c1) gs from h5)
    have S1:=Lib.hid h2
    have B1:=Lib.hid (B0.out.then h1)
    have I1:=Lib.hid (own_blk I0.out h1 HNE.out)
    have L1:=Lib.hid (show r1.length≤262144 from Nat.le_trans (Nat.le_of_lt (eats_list eats_lab _ _ _ hx)) L0.out)
    have X1:=Lib.hid hx
    clear hp hx h1 h2 h3 h4 h5
    have HC:=Lib.hid (listedA_any S1.out L1.out H1.out N1.out)
    go_wp2_with fail
    refine HC.out.mono ?_
    rintro e w2 hp
    clear HC
    cases hx:rdList rdAr r1 with
    | none =>
      obtain ⟨h1,rfl⟩:=hp.none hx
      exact ⟨rfl,MdP.bad (by unfold rdMo;rw [X1.out];simp only;rw [hx]) (B1.out.then h1)⟩
    | some y =>
      obtain ⟨ars,r2⟩:=y
      obtain ⟨h1,v2,m2,rfl,h2,h3,h4,h5⟩:=hp.some hx
      obtain ⟨q2,n2,c2,rfl⟩:∃ q n c,v2=.slice q n c:=let ⟨q,c,e⟩:=slx_shape h5;⟨q,_,c,e⟩
      have H2:=Lib.hid h4
      have N2:=Lib.hid (h3.new rb N1.out S1.out.lt)
      have M2:=Lib.hid (M1.out.trans h3 (by have:=heap_lt I1.out;simp <;> omega))
      have Z1_2:=Lib.hid (Z1_1.out.le (mle_cle h3.le))
      have Z2_2:=Lib.hid (show ArsR false (mC m2) (.slice q2 n2 c2) ars from h5)
      have S2:=Lib.hid h2
      have B2:=Lib.hid (B1.out.then h1)
      have I2:=Lib.hid (own_blk I1.out h1 HNE.out)
      have L2:=Lib.hid (show r2.length≤262144 from Nat.le_trans (Nat.le_of_lt (eats_list eats_ar _ _ _ hx)) L1.out)
      have X2:=Lib.hid hx
      clear hp hx h1 h2 h3 h4 h5
      have HC:=Lib.hid (listedL_any S2.out L2.out H2.out N2.out)
      go_wp2_with fail
      refine HC.out.mono ?_
      rintro e w3 hp
      clear HC
      cases hx:rdList rdLab r2 with
      | none =>
        obtain ⟨h1,rfl⟩:=hp.none hx
        exact ⟨rfl,MdP.bad (by unfold rdMo;rw [X1.out];simp only;rw [X2.out];simp only;rw [hx]) (B2.out.then h1)⟩
      | some y =>
        obtain ⟨cs,r3⟩:=y
        obtain ⟨h1,v3,m3,rfl,h2,h3,h4,h5⟩:=hp.some hx
        obtain ⟨q3,n3,c3,rfl⟩:∃ q n c,v3=.slice q n c:=let ⟨q,c,e⟩:=slx_shape h5;⟨q,_,c,e⟩
        have H3:=Lib.hid h4
        have N3:=Lib.hid (h3.new rb N2.out S2.out.lt)
        have M3:=Lib.hid (M2.out.trans h3 (by have:=heap_lt I2.out;simp <;> omega))
        have Z1_3:=Lib.hid (Z1_2.out.le (mle_cle h3.le))
        have Z2_3:=Lib.hid (Z2_2.out.le (mle_cle h3.le))
        have Z3_3:=Lib.hid (show LasR false (mC m3) (.slice q3 n3 c3) cs from h5)
        have S3:=Lib.hid h2
        have B3:=Lib.hid (B2.out.then h1)
        have I3:=Lib.hid (own_blk I2.out h1 HNE.out)
        have L3:=Lib.hid (show r3.length≤262144 from Nat.le_trans (Nat.le_of_lt (eats_list eats_lab _ _ _ hx)) L2.out)
        have X3:=Lib.hid hx
        clear hp hx h1 h2 h3 h4 h5
        have HC:=Lib.hid (listedF_any S3.out L3.out H3.out N3.out)
        go_wp2_with fail
        refine HC.out.mono ?_
        rintro e w4 hp
        clear HC
        cases hx:rdList rdFn r3 with
        | none =>
          obtain ⟨h1,rfl⟩:=hp.none hx
          exact ⟨rfl,MdP.bad (by unfold rdMo;rw [X1.out];simp only;rw [X2.out];simp only;rw [X3.out];simp only;rw [hx]) (B3.out.then h1)⟩
        | some y =>
          obtain ⟨fs,r4⟩:=y
          obtain ⟨h1,v4,m4,rfl,h2,h3,h4,h5⟩:=hp.some hx
          obtain ⟨q4,n4,c4,rfl⟩:∃ q n c,v4=.slice q n c:=let ⟨q,c,e⟩:=slx_shape h5;⟨q,_,c,e⟩
          have H4:=Lib.hid h4
          have N4:=Lib.hid (h3.new rb N3.out S3.out.lt)
          have M4:=Lib.hid (M3.out.trans h3 (by have:=heap_lt I3.out;simp <;> omega))
          have Z1_4:=Lib.hid (Z1_3.out.le (mle_cle h3.le))
          have Z2_4:=Lib.hid (Z2_3.out.le (mle_cle h3.le))
          have Z3_4:=Lib.hid (Z3_3.out.le (mle_cle h3.le))
          have Z4_4:=Lib.hid (show FnsR false (mC m4) (.slice q4 n4 c4) fs from h5)
          have S4:=Lib.hid h2
          have B4:=Lib.hid (B3.out.then h1)
          have I4:=Lib.hid (own_blk I3.out h1 HNE.out)
          have L4:=Lib.hid (show r4.length≤262144 from Nat.le_trans (Nat.le_of_lt (eats_list eats_fn _ _ _ hx)) L3.out)
          have X4:=Lib.hid hx
          clear hp hx h1 h2 h3 h4 h5
          have HR:=Lib.hid (show rdMo l=some (⟨gs,ars,cs,fs⟩,r4) from by unfold rdMo;rw [X1.out];simp only;rw [X2.out];simp only;rw [X3.out];simp only;rw [X4.out])
          obtain ⟨qs,cq,k1,k2,k3⟩:=S4.out.ex
          have xr:=cell_of (j:=0) k1 rfl
          have hrs:=heap_lt k1
          clear k1 k2 k3
          cases r4 with
          | cons a r5 =>
            obtain ⟨lr,hlr⟩:∃ n,(a :: r5).length=n:=⟨_,rfl⟩
            rw [hlr] at xr
            have hpos:(0:Int)<(lr:Int):=by simp at hlr;omega
            clear hlr
            go_wp2_with fail
            refine (refuse_any _ _).mono ?_
            rintro e w5 ⟨rfl,rfl⟩
            exact ⟨rfl,B4.out.alloc _,.inr ⟨fun mo e=>(by rw [HR.out] at e;injection e with e;injection e with _ e2;cases e2),rfl⟩⟩
          | nil =>
            have d:=I4.out
            have d0:=d.free 0
            have d1:=d.free 1
            have d2:=d.free 2
            have d3:=d.free 3
            have e0:=d.cell (j:=0) rfl
            have e1:=d.cell (j:=1) rfl
            have e2:=d.cell (j:=2) rfl
            have e3:=d.cell (j:=3) rfl
            have hls:=heap_lt d
            clear d
            simp only [List.length_nil] at xr
            go_wp2
            have hC:Chg (fun k=>k=w.heap.size) w4 ((((w4.setCell ⟨w.heap.size,0,none⟩ (.slice q1 n1 c1)).setCell ⟨w.heap.size,1,none⟩ (.slice q2 n2 c2)).setCell ⟨w.heap.size,2,none⟩ (.slice q3 n3 c3)).setCell ⟨w.heap.size,3,none⟩ (.slice q4 n4 c4)) :=
              ((((Chg.refl (fun k=>k=w.heap.size) w4).setCell (p:=⟨w.heap.size,0,none⟩) (.inl rfl) _).setCell (p:=⟨w.heap.size,1,none⟩) (.inl rfl) _).setCell (p:=⟨w.heap.size,2,none⟩) (.inl rfl) _).setCell (p:=⟨w.heap.size,3,none⟩) (.inl rfl) _
            refine bodyPost_ret (results_cell_row rfl _ _ w.heap.size 26 #[.slice q1 n1 c1,.slice q2 n2 c2,.slice q3 n3 c3,.slice q4 n4 c4] (0,0) _ rfl (heap_new _ _ (heap_set (heap_set (heap_set (heap_set I4.out 0 _) 1 _) 2 _) 3 _)) Try.underlying26 rfl (by kernel_rfl)) rfl ?_
            refine ⟨(B4.out.trans hC (fun t e=>.inr (by omega))).alloc _,.inl ⟨_,_,m4,HR.out,rfl,M4.out.from (by simp),?_,?_⟩⟩
            · exact (H4.out.chg hC (fun t e=>by subst e;exact M4.out.new w.heap.size H0Z.out (by simp))).chg ((Chg.refl (fun _=>False) _).alloc _) (fun _ e=>e.elim)
            · exact ⟨_,_,_,_,rfl,Z1_4.out,Z2_4.out,Z3_4.out,Z4_4.out⟩
end
end Go.Proofs.Ytbfkgcapkffecaa
