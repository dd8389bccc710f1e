/- member and label of the parser. decl, declLine and arrayLine of the parser. A number that is wanted, and arrayLine of the parser. A row that grows in a field of a block of the call's own. The closures of function: parameters and results. -/
import Derived.Test.YtlpdjfimefjmcaaGreatDoorFlOpenPR29
open Go.Lib (hid)
namespace Go.Proofs.YtlpdjfimefjmcaaGreatDoor.Q
open Go Go.RowKit Go.Proofs.Mm
section
variable {ys:List It} {len bp bw i:Nat} {vp:Value} {w:World} {ns:List (List Nat)}
theorem PS.raw1 (h:PS ys len bp bw vp w i):w.cell? ⟨bp,1,none⟩=some vp:=by
 obtain ⟨c,h1,_⟩:=h.st
 exact cell_of h1 rfl
theorem PS.drewN (h:PS ys len bp bw vp w i) (n:Nat):PS ys len bp bw vp (w.drewN n) i:=h.chg (S:=fun _=>False) ((Chg.refl _ w).drewN n) id id
theorem nr_chg (hn:NR w vp ns) {w':World} {S:Nat→Prop} (hc:Chg S w w') (h:∀k,vp.ownBlock=some k→¬S k):NR w' vp ns:=⟨own_chg hn.1 hc h,hn.2⟩
theorem nr_bp (hn:NR w vp ns) (h:PS ys len bp bw vp w i):∀k,vp.ownBlock=some k→¬k=bp:=by
 rintro k hk rfl
 obtain ⟨cur,h2⟩:=own_type hn.1 hk
 obtain ⟨c,h1,_⟩:=h.st
 have:=h1.symm.trans h2
 simp at this
theorem nr_next (hn:NR w vp ns) (h:PS ys len bp bw vp w i) {w':World} (hc:Chg (fun k=>k=bp) w w'):NR w' vp ns:=nr_chg hn hc (nr_bp hn h)
def memberP (T:Nat→Option Syn.K) (ns:List (List Nat)) (i:Nat):Syn.R Nat :=
 (Syn.name T i).on fun s j=>if ns.idxOf s<ns.length then .ok (ns.idxOf s,j) else .error (10,i)
theorem index_flip {W:World} {q:Option Addr} {n c:Nat} (h:NR W (.slice q n c) ns) (hn:n=ns.length) (t:ByteArray) :
 Calls Tryz.prog 70 #[.slice q n c,.string t] W fun e w'=>e=.returned (.int .i64 (ixV ns (bl t)))∧w'=W:=(index_any h hn t).mono fun _ _ ⟨a,b⟩=>⟨a,b.symm⟩
set_option maxRecDepth 100000 in
set_option maxHeartbeats 1000000 in
theorem member_any (_hw:Ws ys) (h:PS ys len bp bw vp w i) (hn:NR w vp ns) :
 Calls Tryz.prog 169 #[.pointer (some ⟨bp,0,none⟩)] w (Ret ys len (fun k=>k=bp) w (memberP (Tk ys) ns i) fun k j e w'=>e=.returned (.int .i64 (k:Nat))∧k<64∧PS ys len bp bw vp w' j∧NR w' vp ns):=by
 obtain ⟨qv,cv,rfl⟩:=own_shape hn.1
 obtain ⟨c,h0,hf,hc,hc2,h1,h2,h3,h4⟩:=h.raw
 have h5:=h.raw1
 have hle:=h.le
 have hm:0<ys.length+1 - i:=by omega
 have HIX:=hid (fun n=>index_flip (W:=w.drewN n) (show NR (w.drewN n) (.slice qv ns.length cv) ns from nr_chg hn ((Chg.refl (fun _=>False) w).drewN n) (fun _ _ e=>e)) rfl (tk ys len i).t)
 have HP:=hid h
 have HN:=hid hn
 have hl64:=hn.2.1
 have HC0:=hid (fun n=>(Chg.refl (fun k=>k=bp) w).drewN n)
 have HNd:=hid (fun n=>nr_chg hn ((Chg.refl (fun _=>False) w).drewN n) (fun _ _ e=>e))
 cases hnm:Syn.named (Tk ys) i with
 | false =>
  have HK:=hid (fun n=>by
   have:=isKind_ps (h.drewN n) 1
   rw [named_kind,hnm] at this
   exact this)
  have HNO:=hid (fun n=>name_none (h.drewN n) hnm (fun k=>k=bp) rfl)
  have HE:=hid (show memberP (Tk ys) ns i=.error (50,i) from by unfold memberP;rw [name_no hnm];rfl)
  obtain ⟨iv,hiv⟩:∃iv,ixV ns (bl (tk ys len i).t)=iv:=⟨_,rfl⟩
  rw [hiv] at HIX
  have HIV:=hid hiv
  clear hiv h hn hf hc hc2 h1 h3 h4 hnm
  generalize ys.length+1 - i=m at *
  generalize 4*i=o at *
  go_enter Tryz.func169,Tryz.ntmps169
  go_wp2
  go_quiet ((go_at_call 70;exact Calls.quiet_of_same (HIX.out _)))
  go_wp2_with (go_at_call 167;refine (HK.out _).mono ?_;rintro e w' ⟨rfl,rfl⟩)
  go_at_call 144
  refine (HNO.out _).mono ?_
  rintro e w2 ⟨rfl,hc⟩
  exact ⟨rfl,ret_err HE.out ((HC0.out _).then hc)⟩
 | true =>
  have HK:=hid (fun n=>by
   have:=isKind_ps (h.drewN n) 1
   rw [named_kind,hnm] at this
   exact this)
  by_cases hx:ns.idxOf (bl (tk ys len i).t)<ns.length
  ·have HNO:=hid (fun n=>name_one (h.drewN n) hnm)
   have HE:=hid (show memberP (Tk ys) ns i=.ok (ns.idxOf (bl (tk ys len i).t),i+1) from by unfold memberP;rw [name_yes len hnm,on_ok',if_pos hx])
   have hiv:ixV ns (bl (tk ys len i).t)=(ns.idxOf (bl (tk ys len i).t):Int):=if_pos hx
   rw [hiv] at HIX
   have hl2:ns.idxOf (bl (tk ys len i).t)<64:=by omega
   have HPN:=hid (fun n=>h.drewN n)
   clear hiv h hn hf hc hc2 h1 h3 h4 hnm hx
   generalize ns.idxOf (bl (tk ys len i).t)=ix at *
   have hge:¬(ix:Int)<0:=by omega
   have hge2:decide ((ix:Int)<0)=false:=by simp
   generalize ys.length+1 - i=m at *
   generalize 4*i=o at *
   go_enter Tryz.func169,Tryz.ntmps169
   go_wp2
   go_quiet ((go_at_call 70;exact Calls.quiet_of_same (HIX.out _)))
   go_wp2_with (go_at_call 167;refine (HK.out _).mono ?_;rintro e w' ⟨rfl,rfl⟩)
   go_at_call 144
   refine (HNO.out _).mono ?_
   rintro e w2 ⟨rfl,hcw,hp⟩
   go_wp2
   go_ret
   exact ret_ok HE.out ((HC0.out _).then hcw) ⟨rfl,hl2,hp,nr_next (HNd.out _) (HPN.out _) hcw⟩
  ·have HF:=hid (fun n=>fail_ps (h.drewN n) 10 (fun k=>k=bp))
   have HE:=hid (show memberP (Tk ys) ns i=.error (10,i) from by unfold memberP;rw [name_yes len hnm,on_ok',if_neg hx])
   have hiv:ixV ns (bl (tk ys len i).t)=-1:=if_neg hx
   rw [hiv] at HIX
   clear hiv h hn hf hc hc2 h1 h3 h4 hnm hx
   generalize ys.length+1 - i=m at *
   generalize 4*i=o at *
   go_enter Tryz.func169,Tryz.ntmps169
   go_wp2
   go_quiet ((go_at_call 70;exact Calls.quiet_of_same (HIX.out _)))
   go_wp2_with (go_at_call 167;refine (HK.out _).mono ?_;rintro e w' ⟨rfl,rfl⟩)
   go_at_call 138
   refine (HF.out _).mono ?_
   rintro e w2 ⟨rfl,hc⟩
   exact ⟨rfl,ret_err HE.out ((HC0.out _).then hc)⟩
theorem or_pow (l k:Nat):l ||| 1 <<< k=orAll [l,ofInts [(k:Int)]]∨64≤k:=by
 by_cases hk:k<64
 ·left
  have hk2:(k:Int)<64:=by omega
  unfold orAll ofInts ofStep
  simp [Nat.one_shiftLeft,hk2]
 ·exact .inr (by omega)
theorem mk_123':Mk (bl ⟨#[123]⟩)=true:=by decide
def labP (T:Nat→Option Syn.K) (ns:List (List Nat)) (f l i:Nat):Syn.R Nat:=(Syn.labelF T ns f l i).on fun l i=>(Syn.want T i [125]).on fun _ i=>.ok (l,i)
set_option maxRecDepth 100000 in
set_option maxHeartbeats 1000000 in
theorem label_any (hw:Ws ys) (h:PS ys len bp bw vp w i) (hn:NR w vp ns) :
 Calls Tryz.prog 146 #[.pointer (some ⟨bp,0,none⟩)] w (Ret ys len (fun k=>k=bp) w (Syn.label (Tk ys) (ys.length+1) ns i) fun l j e w'=>e=.returned (.int .u64 (l:Nat))∧l<18446744073709551616∧PS ys len bp bw vp w' j∧NR w' vp ns):=by
 have hfit:=Syn.label_fit (tk_nones ys) (F:=ys.length+1) (by omega) ns h.le
 obtain ⟨RR,hRR⟩:∃RR,Syn.label (Tk ys) (ys.length+1) ns i=RR:=⟨_,rfl⟩
 rw [hRR] at hfit ⊢
 have hR0:(Syn.want (Tk ys) i [123]).on (fun _ i=>labP (Tk ys) ns (ys.length+1) 0 i)=RR:=hRR
 have HR0:=hid hR0
 have HFIT:=hid hfit
 have h1:=want_at hw h ⟨#[123]⟩ mk_123
 have HN:=hid hn
 have HP:=hid h
 clear hRR hR0 hfit hn h
 go_enter Tryz.func146,Tryz.ntmps146
 go_wp2_with fail
 go_at_call 143
 refine h1.mono ?_
 rintro e w1 ⟨hc1,⟨hr,rfl⟩|⟨hr,rfl,hp1⟩⟩
 ·exact ⟨rfl,ret_err (by rw [←HR0.out,show ([123]:List Nat)=bl ⟨#[123]⟩ from rfl,hr];rfl) hc1⟩
 have HR1:=hid (show labP (Tk ys) ns (ys.length+1) 0 (i+1)=RR from by rw [←HR0.out,show ([123]:List Nat)=bl ⟨#[123]⟩ from rfl,hr];rfl)
 have HN1:=hid (nr_next HN.out HP.out hc1)
 have C1:=hid hc1
 have HP1:=hid hp1
 clear hc1 hr h1 hp1
 go_wp2_with fail
 go_loopw [3] (fun a wr=>∃f l j,l<18446744073709551616∧a=.int .u64 (l:Nat)∧Hid (labP (Tk ys) ns f l j=RR)∧Hid (PS ys len bp bw vp wr j)∧Hid (NR wr vp ns)∧Hid (Chg (fun k=>k=bp) w wr))
  (fun _ wr=>posW bp wr)
 case atStart=>exact ⟨ys.length+1,0,i+1,by omega,rfl,HR1,HP1,HN1,C1⟩
 case round =>
  obtain ⟨f,l,j,hl,rfl,HF,HPr,HNr,HCr⟩:=hrel
  cases f with
  | zero=>exact (HFIT.out.no99 (j:=j) (by rw [←HF.out];rfl)).elim
  | succ f =>
   have HPOS:=hid HPr.out.pos
   have hF:=HF.out
   unfold labP at hF
   cases hx:Syn.is (Tk ys) j [125] with
   | true =>
    have hlt:=lt_of_is hx
    have HE:=hid (show RR=.ok (l,j+1) from by
     have hlf:Syn.labelF (Tk ys) ns (f+1) l j=.ok (l,j):=by
      rw [Syn.labelF]
      rw [Tk_some (len:=len) hlt]
      simp only
      rw [if_neg (fun e=>by
       have hnm:Syn.named (Tk ys) j=true:=by unfold Syn.named;rw [Tk_some (len:=len) hlt];simpa using e
       rw [Syn.not_is hnm] at hx;cases hx)]
     rw [←hF,hlf,on_ok',show Syn.want (Tk ys) j [125]=.ok ((),j+1) from if_pos hx];rfl)
    have hsk:=skip_t hw HPr.out ⟨#[125]⟩ mk_125 hx
    clear hx hF
    go_wp2_with (go_at_call 115;refine hsk.mono ?_;rintro e w3 ⟨rfl,hc3,hp3⟩)
    go_ret
    exact ret_ok HE.out (HCr.out.then hc3) ⟨rfl,hl,hp3,nr_next HNr.out HPr.out hc3⟩
   | false =>
    have hsk:=skip_f hw HPr.out ⟨#[125]⟩ mk_125 hx
    have hmem:=ret_cases (member_any hw HPr.out HNr.out)
    have HSTEP:=hid (show (memberP (Tk ys) ns j).on (fun k i=>labP (Tk ys) ns f (l ||| 1 <<< k) i)=RR from by
     rw [←hF]
     unfold memberP labP
     rw [Syn.labelF]
     cases hT:Tk ys j with
     | none =>
      unfold Syn.name
      rw [hT]
      simp only [Syn.R.on]
      rw [show Syn.want (Tk ys) j [125]=.error (50,j) from if_neg (by rw [hx];simp)]
     | some k =>
      unfold Syn.name
      rw [hT]
      simp only
      by_cases hk:k.kind=1
      ·rw [if_pos hk,if_pos hk,on_ok']
       by_cases hi:ns.idxOf k.text<ns.length
       ·rw [if_pos hi,if_pos hi];rfl
       ·rw [if_neg hi,if_neg hi];rfl
      ·rw [if_neg hk,if_neg hk]
       simp only [Syn.R.on]
       rw [show Syn.want (Tk ys) j [125]=.error (50,j) from if_neg (by rw [hx];simp)])
    clear hx hF
    go_wp2_with (go_at_call 115;refine hsk.mono ?_;rintro e w3 ⟨rfl,rfl⟩)
    go_at_call 169
    refine hmem.mono ?_
    rintro e w4 ⟨hc4,⟨er,k,hr,rfl⟩|⟨k,j4,hr,rfl,hk64,hp4,hn4⟩⟩
    ·exact ⟨rfl,ret_err (by rw [←HSTEP.out,hr];rfl) (HCr.out.then hc4)⟩
    have HF4:=hid (show labP (Tk ys) ns f (l ||| 1 <<< k) j4=RR from by rw [←HSTEP.out,hr];rfl)
    have hor:=(or_pow l k).resolve_right (by omega)
    have hl4:l ||| 1 <<< k<18446744073709551616:=by
     rw [hor]
     refine orAll_lt _ (fun z hz=>?_)
     rcases List.mem_cons.1 hz with rfl|hz
     ·exact hl
     ·rw [List.mem_singleton] at hz;subst hz;exact ofInts_lt _
    have hof:=of_any w4.heap.size 0 1 [(k:Int)] (by simp [maxLen]) (w4.alloc (.cells #[.int .i64 (k:Nat)] 3)) (fun i hi=>by
     obtain rfl:i=0:=by simpa using hi
     exact cell_of (World.alloc_heap_new w4 _) rfl)
    have hjn:=join_any (w4.heap.size+1) 0 2 [l,ofInts [(k:Int)]] (fun z hz=>by
     rcases List.mem_cons.1 hz with rfl|hz
     ·exact hl
     ·rw [List.mem_singleton] at hz;subst hz;exact ofInts_lt _) (by simp [maxLen]) ((w4.alloc (.cells #[.int .i64 (k:Nat)] 3)).alloc (.cells #[.int .u64 (l:Nat),.int .u64 (ofInts [(k:Int)]:Nat)] 29)) (fun i hi=>by
     have hnew:=World.alloc_heap_new (w4.alloc (.cells #[.int .i64 (k:Nat)] 3)) (.cells #[.int .u64 (l:Nat),.int .u64 (ofInts [(k:Int)]:Nat)] 29)
     rw [World.size_alloc] at hnew
     rcases (show i=0∨i=1 by simp at hi;omega) with rfl|rfl
     ·exact cell_of hnew rfl
     ·exact cell_of hnew rfl)
    rw [←hor] at hjn
    have HC4:=hid (((HCr.out.then hc4).alloc (.cells #[.int .i64 (k:Nat)] 3)).alloc (.cells #[.int .u64 (l:Nat),.int .u64 (ofInts [(k:Int)]:Nat)] 29))
    have HP4:=hid ((hp4.alloc (.cells #[.int .i64 (k:Nat)] 3)).alloc (.cells #[.int .u64 (l:Nat),.int .u64 (ofInts [(k:Int)]:Nat)] 29))
    have HN4:=hid (nr_chg hn4 (((Chg.refl (fun _=>False) w4).alloc (.cells #[.int .i64 (k:Nat)] 3)).alloc (.cells #[.int .u64 (l:Nat),.int .u64 (ofInts [(k:Int)]:Nat)] 29)) (fun _ _ e=>e))
    have hpos4:=HP4.out.pos
    have hj4:j<j4:=by
     unfold memberP at hr
     obtain ⟨s1,i1,g1,g2⟩:=Syn.R.on_ok hr
     have:=(Syn.name_ok g1).2.1
     split at g2
     ·injection g2 with g2;injection g2 with _ g2;omega
     ·cases g2
    have hle4:=hp4.le
    clear hor hc4 hr hp4 hn4 hmem hsk
    generalize ofInts [(k:Int)]=on at *
    generalize (l ||| 1 <<< k)=l4 at *
    go_wp2_with fail
    go_at_call 168
    refine hof.mono ?_
    rintro e w' ⟨rfl,rfl⟩
    go_wp2_with fail
    go_at_call 25
    refine hjn.mono ?_
    rintro e w' ⟨rfl,rfl⟩
    go_wp2
    refine ⟨⟨f,l4,j4,hl4,rfl,HF4,HP4,HN4,HC4⟩,?_⟩
    rw [hpos4,HPOS.out];omega
end
section
variable {ys:List It} {len bp bw i:Nat} {vp:Value} {w:World} {ns:List (List Nat)}
theorem nr_alloc (hn:NR w vp ns) (o:Obj):NR (w.alloc o) vp ns:=nr_chg hn ((Chg.refl (fun _=>False) w).alloc o) (fun _ _ e=>e)
def DOk (ys:List It) (len bp bw:Nat) (vp:Value) (ns:List (List Nat)) (d:Syn.De) (j:Nat) (e:Ending) (w':World):Prop :=
 e=.returned (.agg #[.string (sb d.name),.int .u64 (d.label:Nat)])∧d.label<18446744073709551616∧PS ys len bp bw vp w' j∧NR w' vp ns
theorem chg_two {S:Nat→Prop} {a w:World} (h:Chg S a w) {g:Nat} (hg:S g∨a.heap.size≤g) (x0 x1:Value):Chg S a ((w.setCell ⟨g,0,none⟩ x0).setCell ⟨g,1,none⟩ x1) :=
 (h.setCell (p:=⟨g,0,none⟩) hg _).setCell (p:=⟨g,1,none⟩) hg _
theorem chg_three {S:Nat→Prop} {a w:World} (h:Chg S a w) {g:Nat} (hg:S g∨a.heap.size≤g) (x0 x1 x2:Value):Chg S a (((w.setCell ⟨g,0,none⟩ x0).setCell ⟨g,1,none⟩ x1).setCell ⟨g,2,none⟩ x2) :=
 (chg_two h hg x0 x1).setCell (p:=⟨g,2,none⟩) hg _
theorem two_cells {W:World} {g:Nat} {x0 x1:Value} {T:TypeId} (h:W.heap[g]?=some (.cells #[x0,x1] T (0,0))) :
 W.cell? ⟨g,0,none⟩=some x0∧W.cell? ⟨g,1,none⟩=some x1∧W.frozen? ⟨g,0,none⟩=false∧W.frozen? ⟨g,1,none⟩=false:=⟨cell_of h rfl,cell_of h rfl,free_of h,free_of h⟩
theorem three_cells {W:World} {g:Nat} {x0 x1 x2:Value} {T:TypeId} (h:W.heap[g]?=some (.cells #[x0,x1,x2] T (0,0))) :
 W.cell? ⟨g,0,none⟩=some x0∧W.cell? ⟨g,1,none⟩=some x1∧W.cell? ⟨g,2,none⟩=some x2∧W.frozen? ⟨g,0,none⟩=false∧W.frozen? ⟨g,1,none⟩=false∧W.frozen? ⟨g,2,none⟩=false:=⟨cell_of h rfl,cell_of h rfl,cell_of h rfl,free_of h,free_of h,free_of h⟩
set_option maxRecDepth 100000 in
set_option maxHeartbeats 1000000 in
theorem decl_any (hw:Ws ys) (h:PS ys len bp bw vp w i) (hn:NR w vp ns) :
 Calls Tryz.prog 142 #[.pointer (some ⟨bp,0,none⟩)] w (Ret ys len (fun k=>k=bp) w (Syn.decl (Tk ys) (ys.length+1) ns i) (DOk ys len bp bw vp ns)):=by
 obtain ⟨hlt,hlb⟩:=h.lt
 have hne:¬w.heap.size=bp:=by omega
 have h1:=name_at (h.alloc (.cells #[.string ⟨#[]⟩,.int .u64 0] 37))
 obtain ⟨RR,hRR⟩:∃RR,Syn.decl (Tk ys) (ys.length+1) ns i=RR:=⟨_,rfl⟩
 rw [hRR]
 have H0:=hid hRR
 have C0:=hid ((Chg.refl (fun k=>k=bp) w).alloc (.cells #[.string ⟨#[]⟩,.int .u64 0] 37))
 have HN0:=hid (nr_alloc hn (.cells #[.string ⟨#[]⟩,.int .u64 0] 37))
 have HP0:=hid (h.alloc (.cells #[.string ⟨#[]⟩,.int .u64 0] 37))
 have hvp:=hid (fun k (hk:vp.ownBlock=some k)=>(hn.1.lt k hk).2)
 clear hRR h hn
 go_enter Tryz.func142,Tryz.ntmps142
 go_wp2_with fail
 go_at_call 144
 refine h1.mono ?_
 rintro e w1 ⟨hc1,⟨hr,rfl⟩|⟨hr,rfl,hp1⟩⟩
 ·exact ⟨rfl,ret_err (by rw [←H0.out];unfold Syn.decl;rw [hr];rfl) (C0.out.then hc1)⟩
 have C1:=hid (C0.out.then hc1)
 have HRES:=hid (hc1.heap (World.alloc_heap_new w (.cells #[.string ⟨#[]⟩,.int .u64 0] 37)) hne)
 have H1:=hid (show (Syn.label (Tk ys) (ys.length+1) ns (i+1)).on (fun l k=>.ok ((⟨bl (tk ys len i).t,l⟩:Syn.De),k))=RR from by rw [←H0.out];unfold Syn.decl;rw [hr];rfl)
 have h2:=ret_cases (label_any hw hp1 (nr_next HN0.out HP0.out hc1))
 have hs1:=hc1.size
 rw [World.size_alloc] at hs1
 clear hc1 hr h1 hp1
 generalize (tk ys len i).t=s1 at *
 go_wp2_with fail
 go_at_call 146
 refine h2.mono ?_
 rintro e w2 ⟨hc2,⟨er,k,hr,rfl⟩|⟨l,j,hr,rfl,hl,hp2,hn2⟩⟩
 ·exact ⟨rfl,ret_err (by rw [←H1.out,hr];rfl) (C1.out.then hc2)⟩
 obtain ⟨r0,r1,f0,f1⟩:=two_cells (hc2.heap HRES.out hne)
 have HE:=hid (show .ok ((⟨bl s1,l⟩:Syn.De),j)=RR from by rw [←H1.out,hr];rfl)
 have hcs:=chg_two (Chg.refl (fun k=>k=w.heap.size) w2) (.inl rfl) (.string s1) (.int .u64 (l:Nat))
 have HEND:=hid (show Chg (fun k=>k=bp) w _∧DOk ys len bp bw vp ns ⟨bl s1,l⟩ j (.returned (.agg #[.string s1,.int .u64 (l:Nat)])) _ from
  ⟨chg_two (C1.out.then hc2) (.inr (Nat.le_refl _)) (.string s1) (.int .u64 (l:Nat)),by rw [sb_bl],hl,hp2.chg hcs (fun e=>hne e.symm) (by omega),nr_chg hn2 hcs (fun k hk e=>by have:=hvp.out k hk;omega)⟩)
 clear hc2 hr hp2 hn2 h2 hcs hl
 go_wp2
 exact bodyPost_ret (v:=.agg #[.string s1,.int .u64 (l:Nat)]) (by simp [results,Tryz.results142,go_sem,r0,r1]) rfl (ret_ok HE.out.symm HEND.out.1 HEND.out.2)
def declLP (T:Nat→Option Syn.K) (F:Nat) (ns:List (List Nat)) (i:Nat):Syn.R Syn.De:=(Syn.decl T F ns i).on fun d i=>(Syn.want T i [59]).on fun _ i=>.ok (d,i)
set_option maxRecDepth 100000 in
set_option maxHeartbeats 1000000 in
theorem declLine_any (hw:Ws ys) (h:PS ys len bp bw vp w i) (hn:NR w vp ns) :
 Calls Tryz.prog 117 #[.pointer (some ⟨bp,0,none⟩)] w (Ret ys len (fun k=>k=bp) w (declLP (Tk ys) (ys.length+1) ns i) (DOk ys len bp bw vp ns)):=by
 obtain ⟨hlt,hlb⟩:=h.lt
 have hne:¬w.heap.size=bp:=by omega
 have h1:=ret_cases (decl_any hw (h.alloc (.cells #[.string ⟨#[]⟩,.int .u64 0] 37)) (nr_alloc hn (.cells #[.string ⟨#[]⟩,.int .u64 0] 37)))
 obtain ⟨RR,hRR⟩:∃RR,declLP (Tk ys) (ys.length+1) ns i=RR:=⟨_,rfl⟩
 rw [hRR]
 have H0:=hid hRR
 have C0:=hid ((Chg.refl (fun k=>k=bp) w).alloc (.cells #[.string ⟨#[]⟩,.int .u64 0] 37))
 have hvp:=hid (fun k (hk:vp.ownBlock=some k)=>(hn.1.lt k hk).2)
 clear hRR h hn
 go_enter Tryz.func117,Tryz.ntmps117
 go_wp2_with fail
 go_at_call 142
 refine h1.mono ?_
 rintro e w1 ⟨hc1,⟨er,k,hr,rfl⟩|⟨d,j,hr,rfl,hl,hp1,hn1⟩⟩
 ·exact ⟨rfl,ret_err (by rw [←H0.out];unfold declLP;rw [hr];rfl) (C0.out.then hc1)⟩
 have C1:=hid (C0.out.then hc1)
 have HRES:=hid (hc1.heap (World.alloc_heap_new w (.cells #[.string ⟨#[]⟩,.int .u64 0] 37)) hne)
 have H1:=hid (show (Syn.want (Tk ys) j [59]).on (fun _ i=>.ok (d,i))=RR from by rw [←H0.out];unfold declLP;rw [hr];rfl)
 have hs1:=hc1.size
 rw [World.size_alloc] at hs1
 have HP1:=hid (hp1.alloc (.cells #[.string (sb d.name),.int .u64 (d.label:Nat)] 37))
 have HN1:=hid (nr_alloc hn1 (.cells #[.string (sb d.name),.int .u64 (d.label:Nat)] 37))
 have hsN:=hid (World.alloc_heap_new w1 (.cells #[.string (sb d.name),.int .u64 (d.label:Nat)] 37))
 have h2:=want_at hw HP1.out ⟨#[59]⟩ mk_59
 clear hc1 hr h1 hp1 hn1
 go_wp2_with fail
 go_at_call 143
 refine h2.mono ?_
 rintro e w2 ⟨hc2,⟨hr,rfl⟩|⟨hr,rfl,hp2⟩⟩
 ·exact ⟨rfl,ret_err (by rw [←H1.out,show ([59]:List Nat)=bl ⟨#[59]⟩ from rfl,hr];rfl) ((C1.out.alloc _).then hc2)⟩
 have hn2:=nr_next HN1.out HP1.out hc2
 obtain ⟨r0,r1,f0,f1⟩:=two_cells (hc2.heap (heap_new _ _ HRES.out) hne)
 obtain ⟨s0,s1,_,_⟩:=two_cells (hc2.heap hsN.out (by omega))
 have HE:=hid (show .ok (d,j+1)=RR from by rw [←H1.out,show ([59]:List Nat)=bl ⟨#[59]⟩ from rfl,hr];rfl)
 have hcs:=chg_two (Chg.refl (fun k=>k=w.heap.size) w2) (.inl rfl) (.string (sb d.name)) (.int .u64 (d.label:Nat))
 have HEND:=hid (show Chg (fun k=>k=bp) w _∧DOk ys len bp bw vp ns d (j+1) (.returned (.agg #[.string (sb d.name),.int .u64 (d.label:Nat)])) _ from
  ⟨chg_two ((C1.out.alloc _).then hc2) (.inr (Nat.le_refl _)) (.string (sb d.name)) (.int .u64 (d.label:Nat)),rfl,hl,hp2.chg hcs (fun e=>hne e.symm) (by omega),nr_chg hn2 hcs (fun k hk e=>by have:=hvp.out k hk;omega)⟩)
 clear hc2 hr hp2 hn2 h2 hcs hl
 go_wp2
 exact bodyPost_ret (v:=.agg #[.string (sb d.name),.int .u64 (d.label:Nat)]) (by simp [results,Tryz.results117,go_sem,r0,r1]) rfl (ret_ok HE.out.symm HEND.out.1 HEND.out.2)
end
section
variable {ys:List It} {len bp bw i:Nat} {vp:Value} {w:World} {ns:List (List Nat)}
theorem number_at (h:PS ys len bp bw vp w i) :
 Calls Tryz.prog 145 #[.pointer (some ⟨bp,0,none⟩),.int .i64 3] w fun e w'=>Chg (fun k=>k=bp) w w'∧((Syn.number (Tk ys) i=.error (50,i)∧e=.panicked (gv (50:Nat) ((tk ys len i).a:Nat))) ∨
  (i<ys.length∧Syn.number (Tk ys) i=.ok ((tk ys len i).v,i+1)∧e=.returned (.agg #[.int .i64 ((tk ys len i).k:Nat),.string (tk ys len i).t,.int .i64 ((tk ys len i).v:Nat),.int .i64 ((tk ys len i).a:Nat)])∧PS ys len bp bw vp w' (i+1))):=by
 rcases Nat.lt_or_ge i ys.length with hi|hi
 ·cases hx:(((tk ys len i).k:Int) == 3) with
  | true =>
   refine (wantKind_yes h hi 3 hx).mono ?_
   rintro e w' ⟨rfl,hc,hp⟩
   refine ⟨hc,.inr ⟨hi,?_,rfl,hp⟩⟩
   rw [beq_iff_eq] at hx
   unfold Syn.number
   rw [Tk_some (len:=len) hi]
   exact if_pos (by simp only [keyOf];omega)
  | false =>
   refine (wantKind_no h 3 hx (fun k=>k=bp)).mono ?_
   rintro e w' ⟨rfl,hc⟩
   refine ⟨hc,.inl ⟨?_,rfl⟩⟩
   rw [beq_eq_false_iff_ne] at hx
   unfold Syn.number
   rw [Tk_some (len:=len) hi]
   exact if_neg (by simp only [keyOf];omega)
 ·have hx:(((tk ys len i).k:Int) == 3)=false:=by rw [tk_end ys len hi];rfl
  refine (wantKind_no h 3 hx (fun k=>k=bp)).mono ?_
  rintro e w' ⟨rfl,hc⟩
  refine ⟨hc,.inl ⟨?_,rfl⟩⟩
  unfold Syn.number
  rw [Tk_none hi]
def arrLP (T:Nat→Option Syn.K) (F:Nat) (ns:List (List Nat)) (i:Nat):Syn.R Syn.Ar :=
 (Syn.name T i).on fun n i=>(Syn.number T i).on fun v i=>(Syn.label T F ns i).on fun l i=>(Syn.want T i [59]).on fun _ i=>.ok (⟨n,v,l⟩,i)
def AOk (ys:List It) (len bp bw:Nat) (vp:Value) (ns:List (List Nat)) (d:Syn.Ar) (j:Nat) (e:Ending) (w':World):Prop :=
 e=.returned (.agg #[.string (sb d.name),.int .i64 (d.len:Nat),.int .u64 (d.label:Nat)])∧d.label<18446744073709551616∧PS ys len bp bw vp w' j∧NR w' vp ns
def arrZ:Obj:=.cells #[.string ⟨#[]⟩,.int .i64 0,.int .u64 0] 39
attribute [local go_sem] tok_text tok_value
set_option maxRecDepth 100000 in
set_option maxHeartbeats 1000000 in
theorem arrayLine_any (hw:Ws ys) (h:PS ys len bp bw vp w i) (hn:NR w vp ns) :
 Calls Tryz.prog 118 #[.pointer (some ⟨bp,0,none⟩)] w (Ret ys len (fun k=>k=bp) w (arrLP (Tk ys) (ys.length+1) ns i) (AOk ys len bp bw vp ns)):=by
 obtain ⟨hlt,hlb⟩:=h.lt
 have hne:¬w.heap.size=bp:=by omega
 have C0:=hid ((Chg.refl (fun k=>k=bp) w).alloc arrZ)
 have HN0:=hid (nr_alloc hn arrZ)
 have HP0:=hid (h.alloc arrZ)
 have h1:=name_at HP0.out
 obtain ⟨RR,hRR⟩:∃RR,arrLP (Tk ys) (ys.length+1) ns i=RR:=⟨_,rfl⟩
 rw [hRR]
 have H0:=hid hRR
 have hvp:=hid (fun k (hk:vp.ownBlock=some k)=>(hn.1.lt k hk).2)
 clear hRR h hn
 go_enter Tryz.func118,Tryz.ntmps118
 go_wp2_with fail
 go_at_call 144
 refine h1.mono ?_
 rintro e w1 ⟨hc1,⟨hr,rfl⟩|⟨hr,rfl,hp1⟩⟩
 ·exact ⟨rfl,ret_err (by rw [←H0.out];unfold arrLP;rw [hr];rfl) (C0.out.then hc1)⟩
 have C1:=hid (C0.out.then hc1)
 have HRES:=hid (hc1.heap (World.alloc_heap_new w arrZ) hne)
 have H1:=hid (show (Syn.number (Tk ys) (i+1)).on (fun v j=>(Syn.label (Tk ys) (ys.length+1) ns j).on fun l j=>(Syn.want (Tk ys) j [59]).on fun _ j=>.ok (⟨bl (tk ys len i).t,v,l⟩,j))=RR from by rw [←H0.out];unfold arrLP;rw [hr];rfl)
 have h2:=number_at hp1
 have HN1:=hid (nr_next HN0.out HP0.out hc1)
 have hs1:=hc1.size
 rw [World.size_alloc] at hs1
 have HP1:=hid hp1
 clear hc1 hr h1 hp1
 generalize (tk ys len i).t=s1 at *
 go_wp2_with fail
 go_at_call 145
 refine h2.mono ?_
 rintro e w2 ⟨hc2,⟨hr,rfl⟩|⟨hi,hr,rfl,hp2⟩⟩
 ·exact ⟨rfl,ret_err (by rw [←H1.out];rw [hr];rfl) (C1.out.then hc2)⟩
 have C2:=hid (C1.out.then hc2)
 have HRES2:=hid (hc2.heap HRES.out hne)
 have HN2:=hid (nr_next HN1.out HP1.out hc2)
 have h3:=ret_cases (label_any hw hp2 HN2.out)
 have hvb:=tk_good hw len hi
 have H2:=hid (show (Syn.label (Tk ys) (ys.length+1) ns (i+1+1)).on (fun l j=>(Syn.want (Tk ys) j [59]).on fun _ j=>.ok (⟨bl s1,(tk ys len (i+1)).v,l⟩,j))=RR from by rw [←H1.out,hr];rfl)
 have hs2:=hc2.size
 clear hc2 hr h2 hp2 HP1
 generalize (tk ys len (i+1)).t=s2 at *
 generalize (tk ys len (i+1)).v=v2 at *
 generalize (tk ys len (i+1)).k=k2 at *
 generalize (tk ys len (i+1)).a=a2 at *
 go_wp2_with fail
 go_at_call 146
 refine h3.mono ?_
 rintro e w3 ⟨hc3,⟨er,k,hr,rfl⟩|⟨l,j,hr,rfl,hl,hp3,hn3⟩⟩
 ·exact ⟨rfl,ret_err (by rw [←H2.out,hr];rfl) (C2.out.then hc3)⟩
 have C3:=hid (C2.out.then hc3)
 have HRES3:=hid (hc3.heap HRES2.out hne)
 have H3:=hid (show (Syn.want (Tk ys) j [59]).on (fun _ k=>.ok ((⟨bl s1,v2,l⟩:Syn.Ar),k))=RR from by rw [←H2.out,hr];rfl)
 have hs3:=hc3.size
 have HP3:=hid (hp3.alloc (.cells #[.string s1,.int .i64 (v2:Nat),.int .u64 (l:Nat)] 39))
 have HN3:=hid (nr_alloc hn3 (.cells #[.string s1,.int .i64 (v2:Nat),.int .u64 (l:Nat)] 39))
 have hsN:=hid (World.alloc_heap_new w3 (.cells #[.string s1,.int .i64 (v2:Nat),.int .u64 (l:Nat)] 39))
 have h4:=want_at hw HP3.out ⟨#[59]⟩ mk_59
 clear hc3 hr h3 hp3 hn3 hvb
 go_wp2_with fail
 go_at_call 143
 refine h4.mono ?_
 rintro e w4 ⟨hc4,⟨hr,rfl⟩|⟨hr,rfl,hp4⟩⟩
 ·exact ⟨rfl,ret_err (by rw [←H3.out,show ([59]:List Nat)=bl ⟨#[59]⟩ from rfl,hr];rfl) ((C3.out.alloc _).then hc4)⟩
 have hn4:=nr_next HN3.out HP3.out hc4
 obtain ⟨r0,r1,r2,f0,f1,f2⟩:=three_cells (hc4.heap (heap_new _ _ HRES3.out) hne)
 obtain ⟨s0,s1',s2',_,_,_⟩:=three_cells (hc4.heap hsN.out (by omega))
 have HE:=hid (show .ok ((⟨bl s1,v2,l⟩:Syn.Ar),j+1)=RR from by rw [←H3.out,show ([59]:List Nat)=bl ⟨#[59]⟩ from rfl,hr];rfl)
 have hcs:=chg_three (Chg.refl (fun k=>k=w.heap.size) w4) (.inl rfl) (.string s1) (.int .i64 (v2:Nat)) (.int .u64 (l:Nat))
 have HEND:=hid (show Chg (fun k=>k=bp) w _∧AOk ys len bp bw vp ns ⟨bl s1,v2,l⟩ (j+1) (.returned (.agg #[.string s1,.int .i64 (v2:Nat),.int .u64 (l:Nat)])) _ from
  ⟨chg_three ((C3.out.alloc _).then hc4) (.inr (Nat.le_refl _)) (.string s1) (.int .i64 (v2:Nat)) (.int .u64 (l:Nat)),by rw [sb_bl],hl,hp4.chg hcs (fun e=>hne e.symm) (by omega),nr_chg hn4 hcs (fun k hk e=>by have:=hvp.out k hk;omega)⟩)
 clear hc4 hr hp4 hn4 h4 hcs hl
 go_wp2
 exact bodyPost_ret (v:=.agg #[.string s1,.int .i64 (v2:Nat),.int .u64 (l:Nat)]) (by simp [results,Tryz.results118,go_sem,r0,r1,r2]) rfl (ret_ok HE.out.symm HEND.out.1 HEND.out.2)
end
section
variable {ys:List It} {len bp bw i:Nat} {vp:Value} {w:World} {ns:List (List Nat)} {α:Type}
structure Tys (T E:TypeId):Prop where
 te:T≠E
 es:E≠9
 ts:T≠9
 ew:E≠163
 tw:T≠163
 eb:E≠119
 tb:T≠119
 ep:E≠165
 tp:T≠165
theorem blk_ne {W:World} {a b:Nat} {x y:Array Value} {T T':TypeId} (h:W.heap[a]?=some (.cells x T (0,0))) (h':W.heap[b]?=some (.cells y T' (0,0))) (ht:T≠T'):a≠b:=by
 rintro rfl
 rw [h] at h'
 simp only [Option.some.injEq,Obj.cells.injEq] at h'
 exact ht h'.2.1
theorem blk_own {W:World} {a:Nat} {x:Array Value} {T E:TypeId} {B n size:Nat} {v:Value} {xs:List Value} (h:W.heap[a]?=some (.cells x T (0,0))) (h':W.ownsRow B E size v n xs) (ht:T≠E):¬v.ownBlock=some a:=by
 intro e
 obtain ⟨cur,h2⟩:=own_type h' e
 exact blk_ne h h2 ht rfl
theorem own_own {W:World} {E E':TypeId} {B n size B' n' size':Nat} {v v':Value} {xs xs':List Value} (h:W.ownsRow B E size v n xs) (h':W.ownsRow B' E' size' v' n' xs') (ht:E≠E'):∀k,v.ownBlock=some k→¬v'.ownBlock=some k:=by
 intro k hk
 obtain ⟨cur,h2⟩:=own_type h hk
 exact blk_own h2 h' ht
theorem PS.blk (h:PS ys len bp bw vp w i):∃x,w.heap[bp]?=some (.cells x 165 (0,0)):=by
 obtain ⟨c,h1,_⟩:=h.st
 exact ⟨_,h1⟩
theorem PS.tok (h:PS ys len bp bw vp w i):∃x,w.heap[bw]?=some (.cells x 163 (0,0)):=by
 obtain ⟨c,h1,_⟩:=h.toks
 exact ⟨_,h1⟩
def GJ (R:Mem→List Value→α→Prop) (E:TypeId) (size:Nat) (T:TypeId) (arr:Value→Array Value) (bf bp B:Nat) (vp:Value) (ns:List (List Nat)) (m0:Mem) (w0:World) (acc:List α) (W:World):Prop :=
 ∃q c cs m',W.heap[bf]?=some (.cells (arr (.slice q acc.length c)) T (0,0))∧W.ownsRow B E size (.slice q acc.length c) acc.length cs∧Enc (R m') cs acc∧Has W m'∧m0.More w0 m'∧m' bf=none∧m' bp=none∧(∀k,Value.ownBlock (.slice q acc.length c)=some k→m' k=none)∧w0.heap.size≤W.heap.size∧NR W vp ns
def GS (bp bf:Nat) (v:Value):Nat→Prop:=fun k=>k=bp∨k=bf∨v.ownBlock=some k
variable {R:Mem→List Value→α→Prop} {E T:TypeId} {size:Nat} {arr:Value→Array Value} {bf B:Nat} {m0:Mem} {w0:World} {acc:List α} {W:World}
theorem GJ.next (h:GJ R E size T arr bf bp B vp ns m0 w0 acc W) (ht:Tys T E) (hp:PS ys len bp bw vp W i) {W':World} (hc:Chg (fun k=>k=bp) W W'):GJ R E size T arr bf bp B vp ns m0 w0 acc W':=by
 obtain ⟨q,c,cs,m',h1,h2,h3,h4,h5,h6,h7,h8,h9,h10⟩:=h
 have hsz:=hc.size
 obtain ⟨x,hx⟩:=hp.blk
 exact ⟨q,c,cs,m',hc.heap h1 (blk_ne h1 hx ht.tp),own_chg h2 hc (fun k hk e=>by subst e;exact blk_own hx h2 ht.ep.symm hk),h3,h4.chg hc (fun k e=>by subst e;exact h7),h5,h6,h7,h8,by omega,nr_next h10 hp hc⟩
theorem gj_mid {n:Nat} {v:Value} {cs:List Value} {w1 w9:World} {o:Obj} (h2:W.ownsRow B E size v n cs) (hcc:Chg (fun k=>k=bp) W w1) (hg:(w1.alloc o).grownBy w9 v.ownBlock) {k:Nat} {x:Array Value} {T':TypeId} (hk:W.heap[k]?=some (.cells x T' (0,0))) (hT:T'≠E) (hkb:¬k=bp):w9.heap[k]?=some (.cells x T' (0,0)):=by
 have hc:Chg (fun k=>k=bp∨v.ownBlock=some k) W w9:=((hcc.alloc _).mono (fun k e=>.inl (.inl e))).then (grown_chg hg (fun k e=>.inl (.inr e)))
 exact hc.heap hk (fun e=>by
  rcases e with e|e
  ·exact hkb e
  ·exact blk_own hk h2 hT e)
theorem gj_end {w1 w9:World} {j kf c c9:Nat} {q q9:Option Addr} {x:α} {cs news:List Value} {m' m1:Mem} (ht:Tys T E) (harr:∀v v',(arr v).setIfInBounds kf v'=arr v')
 (hp:PS ys len bp bw vp W i)
 (h1:W.heap[bf]?=some (.cells (arr (.slice q acc.length c)) T (0,0))) (h2:W.ownsRow B E size (.slice q acc.length c) acc.length cs) (h3:Enc (R m') cs acc) (_h4:Has W m') (h5:m0.More w0 m') (h6:m' bf=none) (h7:m' bp=none) (h8:∀k,Value.ownBlock (.slice q acc.length c)=some k→m' k=none) (h9:w0.heap.size≤W.heap.size)
 (hR:∀m m':Mem,m.le m'→∀c x,R m c x→R m' c x)
 (hcc:Chg (fun k=>k=bp) W w1) (a1:m'.More W m1) (a2:Has w1 m1) (a3:R m1 news x) (a4:PS ys len bp bw vp w1 j) (a5:NR w1 vp ns)
 (hown9:w9.ownsRow B E size (.slice q9 (acc.length+1) c9) (acc.length+1) (cs++news)) {o:Obj} (hgrow9:(w1.alloc o).grownBy w9 (Value.ownBlock (.slice q acc.length c))) (hat9:Value.ownBlock (.slice q9 (acc.length+1) c9)=Value.ownBlock (.slice q acc.length c)∨Value.ownBlock (.slice q9 (acc.length+1) c9)=some (w1.heap.size+1)) :
 Chg (GS bp bf (.slice q acc.length c)) W (w9.setCell ⟨bf,kf,none⟩ (.slice q9 (acc.length+1) c9))∧GJ R E size T arr bf bp B vp ns m0 w0 (acc++[x]) (w9.setCell ⟨bf,kf,none⟩ (.slice q9 (acc.length+1) c9))∧PS ys len bp bw vp (w9.setCell ⟨bf,kf,none⟩ (.slice q9 (acc.length+1) c9)) j:=by
 have hs1:=hcc.size
 obtain ⟨xb,hxb⟩:=hp.blk
 obtain ⟨xt,hxt⟩:=hp.tok
 have hnb:¬bf=bp:=blk_ne h1 hxb ht.tp
 have hC9:Chg (fun k=>k=bp∨Value.ownBlock (.slice q acc.length c)=some k) W w9:=((hcc.alloc _).mono (fun k e=>.inl (.inl e))).then (grown_chg hgrow9 (fun k e=>.inl (.inr e)))
 have hC:Chg (GS bp bf (.slice q acc.length c)) W (w9.setCell ⟨bf,kf,none⟩ (.slice q9 (acc.length+1) c9)):=(hC9.mono (fun k e=>.inl (by rcases e with e|e <;> simp [GS,e]))).setCell (p:=⟨bf,kf,none⟩) (.inl (.inr (.inl rfl))) _
 have hqlt:∀k,Value.ownBlock (.slice q acc.length c)=some k→k<W.heap.size:=fun k hk=>(h2.lt k hk).2
 have hbal:=heap_lt h1
 have hCw:Chg (fun k=>Value.ownBlock (.slice q acc.length c)=some k∨k=bf) w1 (w9.setCell ⟨bf,kf,none⟩ (.slice q9 (acc.length+1) c9)) :=
  ((((Chg.refl _ w1).alloc _).then (grown_chg hgrow9 (fun k e=>.inl (.inl e)))).setCell (p:=⟨bf,kf,none⟩) (.inl (.inr rfl)) _)
 have g1:=gj_mid h2 hcc hgrow9 h1 ht.te hnb
 have g2:=own_chg hown9 ((Chg.refl (fun k=>k=bf) w9).setCell (p:=⟨bf,kf,none⟩) (.inl rfl) (.slice q9 (acc.length+1) c9)) (fun k hk e=>by subst e;exact blk_own g1 hown9 ht.te hk)
 have hH:Has (w9.setCell ⟨bf,kf,none⟩ (.slice q9 (acc.length+1) c9)) m1:=a2.chg hCw (fun k e=>by
  rcases e with e|rfl
  ·exact a1.new k (h8 k e) (hqlt k e)
  ·exact a1.new _ h6 hbal)
 have hvq:=hcc.heap h1 hnb
 have hN:NR (w9.setCell ⟨bf,kf,none⟩ (.slice q9 (acc.length+1) c9)) vp ns:=nr_chg a5 hCw (fun k hk e=>by
  obtain ⟨cur,hcu⟩:=own_type a5.1 hk
  rcases e with e|rfl
  ·have h2':w1.ownsRow B E size (.slice q acc.length c) acc.length cs:=own_chg h2 hcc (fun k hk e=>by subst e;exact blk_own hxb h2 ht.ep.symm hk)
   exact blk_own hcu h2' ht.es.symm e
  ·exact blk_ne hvq hcu ht.ts rfl)
 refine ⟨hC,⟨q9,c9,cs++news,m1,?_,?_,(h3.mono (hR _ _ a1.le)).app (Enc.one a3),hH,h5.trans a1 h9,a1.new _ h6 hbal,a1.new _ h7 (heap_lt hxb),?_,?_,hN⟩,?_⟩
 ·rw [List.length_append,List.length_singleton]
  have:=heap_set g1 kf (.slice q9 (acc.length+1) c9)
  rwa [harr] at this
 ·rw [List.length_append,List.length_singleton];exact g2
 ·rw [List.length_append,List.length_singleton]
  intro k hk
  rcases hat9 with e|e
  ·rw [e] at hk;exact a1.new k (h8 k hk) (hqlt k hk)
  ·rw [e] at hk
   obtain rfl:w1.heap.size+1=k:=by simpa using hk
   exact a2.lt (by omega)
 ·have:=hC.size;omega
 ·obtain ⟨yb,hyb⟩:=a4.blk
  obtain ⟨yt,hyt⟩:=a4.tok
  have h2':w1.ownsRow B E size (.slice q acc.length c) acc.length cs:=own_chg h2 hcc (fun k hk e=>by subst e;exact blk_own hxb h2 ht.ep.symm hk)
  refine a4.chg hCw (fun e=>?_) (fun e=>?_)
  ·rcases e with e|e
   ·exact blk_own hyb h2' ht.ep.symm e
   ·exact hnb e.symm
  ·rcases e with e|e
   ·exact blk_own hyt h2' ht.ew.symm e
   ·exact blk_ne hvq hyt ht.tw e.symm
theorem gj_done (h:GJ R E size T arr bf bp B vp ns m0 w0 acc W) (ht:Tys T E) (hp:PS ys len bp bw vp W i) (hB:w0.heap.size≤B) (hR:∀m m':Mem,m.le m'→∀c x,R m c x→R m' c x) :
 ∃q c cs m2,W.heap[bf]?=some (.cells (arr (.slice q acc.length c)) T (0,0))∧m0.More w0 m2∧Has W m2∧m2 bf=none∧m2 bp=none∧RowM m2 E size (.slice q acc.length c) acc.length cs∧Enc (R m2) cs acc∧NR W vp ns∧w0.heap.size≤W.heap.size:=by
 obtain ⟨q,c,cs,m',h1,h2,h3,h4,h5,h6,h7,h8,h9,h10⟩:=h
 obtain ⟨m2,d1,d2,d3,d4⟩:=RowM.done h2 h4 h8
 obtain ⟨xb,hxb⟩:=hp.blk
 have hno:∀k,m' k=none→¬Value.ownBlock (.slice q acc.length c)=some k→m2 k=none:=fun k e hk=>by
  cases e2:m2 k with
  | none=>rfl
  | some o =>
   rcases d2 k (by rw [e2];simp) with e3|e3
   ·exact (e3 e).elim
   ·exact (hk e3).elim
 exact ⟨q,c,cs,m2,h1,⟨h5.le.trans d1,fun k e hk=>hno k (h5.new k e hk) (fun e3=>by have:=(h2.lt k e3).1;omega)⟩,d3,hno bf h6 (blk_own h1 h2 ht.te),hno bp h7 (blk_own hxb h2 ht.ep.symm),d4,h3.mono (hR _ _ d1),h10,h9⟩
end
theorem info_of {E:TypeId} {z:Value} {s b:Nat} (h:(Tryz.prog.info? E).map (fun i=>(i.zero,i.size,i.bytes))=some (some z,s,b)):∃i,Tryz.prog.info? E=some i∧i.zero=some z∧i.size=s∧i.bytes=b:=by
 cases hi:Tryz.prog.info? E with
 | none=>rw [hi] at h;cases h
 | some i =>
  rw [hi] at h
  simp only [Option.map_some,Option.some.injEq,Prod.mk.injEq] at h
  obtain ⟨e1,e2,e3⟩:=h
  exact ⟨i,rfl,e1,e2,e3⟩
def deV (d:Syn.De):List Value:=[.string (sb d.name),.int .u64 (d.label:Nat)]
def DeR (_:Mem) (c:List Value) (d:Syn.De):Prop:=c=deV d∧d.label<18446744073709551616
def LaR (_:Mem) (c:List Value) (l:Nat):Prop:=c=[.int .u64 (l:Nat)]∧l<18446744073709551616
theorem DeR.le:∀m m':Mem,m.le m'→∀c x,DeR m c x→DeR m' c x:=fun _ _ _ _ _ h=>h
theorem LaR.le:∀m m':Mem,m.le m'→∀c x,LaR m c x→LaR m' c x:=fun _ _ _ _ _ h=>h
theorem tys_de:Tys 43 37:=⟨by decide,by decide,by decide,by decide,by decide,by decide,by decide,by decide,by decide⟩
theorem tys_la:Tys 43 29:=⟨by decide,by decide,by decide,by decide,by decide,by decide,by decide,by decide,by decide⟩
theorem infoDe:∃i,Tryz.prog.info? 37=some i∧i.zero=some (.agg #[.string ⟨#[]⟩,.int .u64 0])∧i.size=2∧i.bytes=24:=info_of (by kernel_rfl)
theorem infoLa:∃i,Tryz.prog.info? 29=some i∧i.zero=some (.int .u64 0)∧i.size=1∧i.bytes=8:=info_of (by kernel_rfl)
theorem one_de (s:ByteArray) (l:Nat):∀u∈[Value.string s,.int .u64 (l:Nat)],u.oneCell'=true:=by
 intro u hu
 rcases List.mem_cons.1 hu with rfl|hu
 ·rfl
 ·rw [List.mem_singleton] at hu;subst hu;rfl
theorem one_la (l:Nat):∀u∈[Value.int .u64 (l:Nat)],u.oneCell'=true:=by
 intro u hu
 rw [List.mem_singleton] at hu;subst hu;rfl
section
variable {ys:List It} {len bp bw i:Nat} {vp:Value} {w:World} {ns:List (List Nat)} {α:Type}
def GB (R:Mem→List Value→α→Prop) (E:TypeId) (size:Nat) (T:TypeId) (arr:Value→Array Value) (bf b1 bp B:Nat) (vp:Value) (ns:List (List Nat)) (m0:Mem) (w0:World) (acc:List α) (W:World):Prop :=
 GJ R E size T arr bf bp B vp ns m0 w0 acc W∧W.heap[b1]?=some (.cells #[.pointer (some ⟨bp,0,none⟩)] 119 (0,0))
theorem GB.next {R:Mem→List Value→α→Prop} {E T:TypeId} {size:Nat} {arr:Value→Array Value} {bf b1 B:Nat} {m0:Mem} {w0 W:World} {acc:List α} (h:GB R E size T arr bf b1 bp B vp ns m0 w0 acc W) (ht:Tys T E) (hp:PS ys len bp bw vp W i) {W':World} (hc:Chg (fun k=>k=bp) W W'):GB R E size T arr bf b1 bp B vp ns m0 w0 acc W':=by
 obtain ⟨x,hx⟩:=hp.blk
 exact ⟨h.1.next ht hp hc,hc.heap h.2 (blk_ne h.2 hx (by decide))⟩
theorem gs_sb {bf B n c:Nat} {q:Option Addr} {W W':World} {E:TypeId} {size:Nat} {cs:List Value} (hB:B≤bf) (h2:W.ownsRow B E size (.slice q n c) n cs) (h:Chg (GS bp bf (.slice q n c)) W W'):Chg (SB bp B) W W' :=
 h.mono fun k e=>by
  rcases e with e|e|e
  ·exact .inl (.inl e)
  ·subst e;exact .inl (.inr hB)
  ·exact .inl (.inr (h2.lt k e).1)
set_option maxRecDepth 100000 in
set_option maxHeartbeats 1000000 in
theorem function1_any (hw:Ws ys) {m0:Mem} {w0:World} {bf b1 B:Nat} {nm lv xr xv xb:Value} (hB:B≤bf) :
 ItOk ys len bp bw B vp 148 #[.pointer (some ⟨bf,0,none⟩),.pointer (some ⟨b1,0,none⟩)] (GB DeR 37 2 43 (fun v=>#[nm,lv,v,xr,xv,xb]) bf b1 bp B vp ns m0 w0) (Syn.decl (Tk ys) (ys.length+1) ns):=by
 intro W i acc hJ hp hBW hb
 obtain ⟨⟨q,c,cs,m',h1,h2,h3,h4,h5,h6,h7,h8,h9,h10⟩,hbx⟩:=hJ
 obtain ⟨j0,hj0,hy0,hy1,hy2⟩:=infoDe
 obtain ⟨xp,hxp⟩:=hp.blk
 have hnb:¬bf=bp:=blk_ne h1 hxp tys_de.tp
 have hnb1:¬b1=bp:=blk_ne hbx hxp (by decide)
 have hc1:=cell_of (j:=2) h1 rfl
 have hc2:=cell_of (j:=0) hbx rfl
 have hlt1:=heap_lt h1
 have hlt2:=heap_lt hbx
 have hpd:PS ys len bp bw vp W.drew i:=hp.chg (S:=fun _=>False) (Chg.refl _ _).drew id id
 have hnd:NR W.drew vp ns:=nr_chg h10 ((Chg.refl (fun _=>False) W).drew) (fun _ _ e=>e)
 have hmx:Tryz.prog.follows .mixedOrders=true:=by kernel_rfl
 have HE:=hid (decl_any hw hpd hnd)
 cases hri:Syn.decl (Tk ys) (ys.length+1) ns i with
 | error q0 =>
  obtain ⟨er,k⟩:=q0
  have HRI:=hid hri
  clear hri
  have hS0:W.drew.cell? ⟨bf,2,none⟩=some (.slice q acc.length c)∧W.drew.cell? ⟨b1,0,none⟩=some (.pointer (some ⟨bp,0,none⟩)):=⟨hc1,hc2⟩
  go_enter Tryz.func148,Tryz.ntmps148
  refine wp_region_held_drew (S:=fun w'=>w'.cell? ⟨bf,2,none⟩=some (.slice q acc.length c)∧w'.cell? ⟨b1,0,none⟩=some (.pointer (some ⟨bp,0,none⟩))) hmx hS0 (fun hHeld=>?_)
  refine wpAnyH_take (i:=0) (v:=.pointer (some ⟨bf,2,none⟩)) rfl (by kernel_rfl) (by kernel_rfl) (by kernel_rfl) (fun _ _ _ h=>h) (Or.inl ⟨by rfl,fun w hSw=>by obtain ⟨s1,s2⟩:=hSw;go_simp⟩) (by assumption) ?_
  simp only [Act.put,List.setIfInBounds_toArray,List.set_cons_zero,List.set_cons_succ,List.getElem_toArray,List.getElem_cons_zero]
  refine wpAnyH_take (i:=1) (v:=.slice q acc.length c) rfl (by kernel_rfl) (by kernel_rfl) (by kernel_rfl) (fun _ _ _ h=>h) (Or.inl ⟨by rfl,fun w hSw=>by obtain ⟨s1,s2⟩:=hSw;go_simp⟩) (by assumption) ?_
  simp only [Act.put,List.setIfInBounds_toArray,List.set_cons_zero,List.set_cons_succ,List.getElem_toArray,List.getElem_cons_zero,List.getElem_cons_succ]
  refine wpAnyH_take (i:=2) (v:=.pointer (some ⟨bp,0,none⟩)) rfl (by kernel_rfl) (by kernel_rfl) (by kernel_rfl) (fun _ _ _ h=>h) (Or.inl ⟨by rfl,fun w hSw=>by obtain ⟨s1,s2⟩:=hSw;go_simp⟩) (by assumption) ?_
  simp only [Act.put,List.setIfInBounds_toArray,List.set_cons_zero,List.set_cons_succ,List.getElem_toArray,List.getElem_cons_zero,List.getElem_cons_succ]
  refine wpAnyH_ready (rs:=[3]) (by kernel_rfl) (by simp) ?_
  refine AllReadyH.cons rfl (fun K hK=>?_) AllReadyH.nil
  go_simp
  go_at_call 142
  refine HE.out.mono ?_
  rw [HRI.out]
  rintro e w' ⟨hcc,rfl⟩
  exact ⟨rfl,((Chg.refl (SB bp B) W).drew).then (sb_of hcc),rfl⟩
 | ok q0 =>
  obtain ⟨x,j⟩:=q0
  have HRI:=hid hri
  clear hri
  have h1d:W.drew.heap[bf]?=some (.cells #[nm,lv,.slice q acc.length c,xr,xv,xb] 43 (0,0)):=h1
  have hbxd:W.drew.heap[b1]?=some (.cells #[.pointer (some ⟨bp,0,none⟩)] 119 (0,0)):=hbx
  have h2d:W.drew.ownsRow B 37 2 (.slice q acc.length c) acc.length cs:=h2
  obtain ⟨xt,hxt⟩:=hpd.blk
  have HROW:=hid (fun w1 (hc:Chg (fun k=>k=bp) W.drew w1)=>own_chg h2d hc (fun k hk e=>by subst e;exact blk_own hxt h2d tys_de.ep.symm hk))
  have HAPP:=hid (fun w1 w9 (o:Obj) (hc:Chg (fun k=>k=bp) W.drew w1) (hg:(w1.alloc o).grownBy w9 (Value.ownBlock (.slice q acc.length c))) =>
   And.intro (gj_mid h2d hc hg h1d tys_de.te hnb) (gj_mid h2d hc hg hbxd (by decide) hnb1))
  go_enter Tryz.func148,Tryz.ntmps148
  go_region_law
   (first
    | (go_simp;go_at_call 142;refine HE.out.mono ?_;rw [HRI.out];rintro e w1 ⟨hcc,rfl,a1,a2,a3⟩;have k1:=hcc.cell (show W.drew.cell? ⟨bf,2,none⟩=_ from hc1) hnb;have k2:=hcc.cell (show W.drew.cell? ⟨b1,0,none⟩=_ from hc2) hnb1;have p1:=hcc.heap h1d hnb;have p2:=hcc.heap hbxd hnb1;have k3:=free_of (j:=2) p1;have kk:=And.intro (cell_of (j:=2) (heap_new _ (.cells #[.string (sb x.name),.int .u64 (x.label:Nat)] 37) p1) rfl) (And.intro (cell_of (j:=0) (heap_new _ (.cells #[.string (sb x.name),.int .u64 (x.label:Nat)] 37) p2) rfl) (free_of (j:=2) (heap_new _ (.cells #[.string (sb x.name),.int .u64 (x.label:Nat)] 37) p1))))
    | (refine step_append_mine rfl (.tmp 3) (.tmp 6) 23 rfl B 37 j0 (.agg #[.string ⟨#[]⟩,.int .u64 0]) 2 24 Tryz.underlying23 hj0 hy0 hy1 hy2 rfl (by decide) (.slice q acc.length c) acc.length cs (by simp [Act.eval]) ((HROW.out _ hcc).alloc _) ⟨_,0,none⟩ 1 1 [.string (sb x.name),.int .u64 (x.label:Nat)] (by simp [Act.eval]) rfl (row_new _ [.string (sb x.name),.int .u64 (x.label:Nat)] 37) (one_de _ _) (by unfold maxLen;omega) (by omega) (Nat.le_trans hBW (Nat.le_trans hcc.size (by simp))) ?_;intro v9 w9 hown9 hgrow9 hat9;obtain ⟨q9,c9,rfl⟩:=own_shape hown9;obtain ⟨g1,g2⟩:=HAPP.out _ _ _ hcc hgrow9;have k4:=cell_of (j:=2) g1 rfl;have k5:=cell_of (j:=0) g2 rfl;have k6:=free_of (j:=2) g1))
  all_goals
   go_end0
   have hcw:Chg (fun k=>k=bp) W w1:=((Chg.refl _ W).drew).then hcc
   obtain ⟨r1,r2,r3⟩:=gj_end (arr:=fun v=>#[nm,lv,v,xr,xv,xb]) (kf:=2) tys_de (fun _ _=>rfl) hp h1 h2 h3 h4 h5 h6 h7 h8 h9 DeR.le hcw (Mem.More.refl _ _) (h4.chg hcw (fun k e=>by subst e;exact h7)) (show DeR m' _ x from ⟨rfl,a1⟩) a2 a3 hown9 hgrow9 (by simpa using hat9)
   exact ⟨gs_sb hB h2 r1,⟨rfl,r2,by
    refine r1.heap hbx (fun e=>?_)
    rcases e with e|e|e
    ·exact hnb1 e
    ·exact blk_ne hbx h1 (by decide) e
    ·exact blk_own hbx h2 (by decide) e⟩,r3⟩
set_option maxRecDepth 100000 in
set_option maxHeartbeats 1000000 in
theorem function2_any (hw:Ws ys) {m0:Mem} {w0:World} {bf b1 B:Nat} {nm lv xp0 xv xb:Value} (hB:B≤bf) :
 ItOk ys len bp bw B vp 149 #[.pointer (some ⟨bf,0,none⟩),.pointer (some ⟨b1,0,none⟩)] (GB LaR 29 1 43 (fun v=>#[nm,lv,xp0,v,xv,xb]) bf b1 bp B vp ns m0 w0) (Syn.label (Tk ys) (ys.length+1) ns):=by
 intro W i acc hJ hp hBW hb
 obtain ⟨⟨q,c,cs,m',h1,h2,h3,h4,h5,h6,h7,h8,h9,h10⟩,hbx⟩:=hJ
 obtain ⟨j0,hj0,hy0,hy1,hy2⟩:=infoLa
 obtain ⟨xp,hxp⟩:=hp.blk
 have hnb:¬bf=bp:=blk_ne h1 hxp tys_la.tp
 have hnb1:¬b1=bp:=blk_ne hbx hxp (by decide)
 have hc1:=cell_of (j:=3) h1 rfl
 have hc2:=cell_of (j:=0) hbx rfl
 have hlt1:=heap_lt h1
 have hlt2:=heap_lt hbx
 have hpd:PS ys len bp bw vp W.drew i:=hp.chg (S:=fun _=>False) (Chg.refl _ _).drew id id
 have hnd:NR W.drew vp ns:=nr_chg h10 ((Chg.refl (fun _=>False) W).drew) (fun _ _ e=>e)
 have hmx:Tryz.prog.follows .mixedOrders=true:=by kernel_rfl
 have HE:=hid (label_any hw hpd hnd)
 cases hri:Syn.label (Tk ys) (ys.length+1) ns i with
 | error q0 =>
  obtain ⟨er,k⟩:=q0
  have HRI:=hid hri
  clear hri
  have hS0:W.drew.cell? ⟨bf,3,none⟩=some (.slice q acc.length c)∧W.drew.cell? ⟨b1,0,none⟩=some (.pointer (some ⟨bp,0,none⟩)):=⟨hc1,hc2⟩
  go_enter Tryz.func149,Tryz.ntmps149
  refine wp_region_held_drew (S:=fun w'=>w'.cell? ⟨bf,3,none⟩=some (.slice q acc.length c)∧w'.cell? ⟨b1,0,none⟩=some (.pointer (some ⟨bp,0,none⟩))) hmx hS0 (fun hHeld=>?_)
  refine wpAnyH_take (i:=0) (v:=.pointer (some ⟨bf,3,none⟩)) rfl (by kernel_rfl) (by kernel_rfl) (by kernel_rfl) (fun _ _ _ h=>h) (Or.inl ⟨by rfl,fun w hSw=>by obtain ⟨s1,s2⟩:=hSw;go_simp⟩) (by assumption) ?_
  simp only [Act.put,List.setIfInBounds_toArray,List.set_cons_zero,List.set_cons_succ,List.getElem_toArray,List.getElem_cons_zero]
  refine wpAnyH_take (i:=1) (v:=.slice q acc.length c) rfl (by kernel_rfl) (by kernel_rfl) (by kernel_rfl) (fun _ _ _ h=>h) (Or.inl ⟨by rfl,fun w hSw=>by obtain ⟨s1,s2⟩:=hSw;go_simp⟩) (by assumption) ?_
  simp only [Act.put,List.setIfInBounds_toArray,List.set_cons_zero,List.set_cons_succ,List.getElem_toArray,List.getElem_cons_zero,List.getElem_cons_succ]
  refine wpAnyH_take (i:=2) (v:=.pointer (some ⟨bp,0,none⟩)) rfl (by kernel_rfl) (by kernel_rfl) (by kernel_rfl) (fun _ _ _ h=>h) (Or.inl ⟨by rfl,fun w hSw=>by obtain ⟨s1,s2⟩:=hSw;go_simp⟩) (by assumption) ?_
  simp only [Act.put,List.setIfInBounds_toArray,List.set_cons_zero,List.set_cons_succ,List.getElem_toArray,List.getElem_cons_zero,List.getElem_cons_succ]
  refine wpAnyH_ready (rs:=[3]) (by kernel_rfl) (by simp) ?_
  refine AllReadyH.cons rfl (fun K hK=>?_) AllReadyH.nil
  go_simp
  go_at_call 146
  refine HE.out.mono ?_
  rw [HRI.out]
  rintro e w' ⟨hcc,rfl⟩
  exact ⟨rfl,((Chg.refl (SB bp B) W).drew).then (sb_of hcc),rfl⟩
 | ok q0 =>
  obtain ⟨x,j⟩:=q0
  have HRI:=hid hri
  clear hri
  have h1d:W.drew.heap[bf]?=some (.cells #[nm,lv,xp0,.slice q acc.length c,xv,xb] 43 (0,0)):=h1
  have hbxd:W.drew.heap[b1]?=some (.cells #[.pointer (some ⟨bp,0,none⟩)] 119 (0,0)):=hbx
  have h2d:W.drew.ownsRow B 29 1 (.slice q acc.length c) acc.length cs:=h2
  obtain ⟨xt,hxt⟩:=hpd.blk
  have HROW:=hid (fun w1 (hc:Chg (fun k=>k=bp) W.drew w1)=>own_chg h2d hc (fun k hk e=>by subst e;exact blk_own hxt h2d tys_la.ep.symm hk))
  have HAPP:=hid (fun w1 w9 (o:Obj) (hc:Chg (fun k=>k=bp) W.drew w1) (hg:(w1.alloc o).grownBy w9 (Value.ownBlock (.slice q acc.length c))) =>
   And.intro (gj_mid h2d hc hg h1d tys_la.te hnb) (gj_mid h2d hc hg hbxd (by decide) hnb1))
  go_enter Tryz.func149,Tryz.ntmps149
  go_region_law
   (first
    | (go_simp;go_at_call 146;refine HE.out.mono ?_;rw [HRI.out];rintro e w1 ⟨hcc,rfl,a1,a2,a3⟩;have k1:=hcc.cell (show W.drew.cell? ⟨bf,3,none⟩=_ from hc1) hnb;have k2:=hcc.cell (show W.drew.cell? ⟨b1,0,none⟩=_ from hc2) hnb1;have p1:=hcc.heap h1d hnb;have p2:=hcc.heap hbxd hnb1;have k3:=free_of (j:=3) p1;have kk:=And.intro (cell_of (j:=3) (heap_new _ (.cells #[.int .u64 (x:Nat)] 29) p1) rfl) (And.intro (cell_of (j:=0) (heap_new _ (.cells #[.int .u64 (x:Nat)] 29) p2) rfl) (free_of (j:=3) (heap_new _ (.cells #[.int .u64 (x:Nat)] 29) p1))))
    | (refine step_append_mine rfl (.tmp 3) (.tmp 6) 40 rfl B 29 j0 (.int .u64 0) 1 8 Tryz.underlying40 hj0 hy0 hy1 hy2 rfl (by decide) (.slice q acc.length c) acc.length cs (by simp [Act.eval]) ((HROW.out _ hcc).alloc _) ⟨_,0,none⟩ 1 1 [.int .u64 (x:Nat)] (by simp [Act.eval]) rfl (row_new _ [.int .u64 (x:Nat)] 29) (one_la _) (by unfold maxLen;omega) (by omega) (Nat.le_trans hBW (Nat.le_trans hcc.size (by simp))) ?_;intro v9 w9 hown9 hgrow9 hat9;obtain ⟨q9,c9,rfl⟩:=own_shape hown9;obtain ⟨g1,g2⟩:=HAPP.out _ _ _ hcc hgrow9;have k4:=cell_of (j:=3) g1 rfl;have k5:=cell_of (j:=0) g2 rfl;have k6:=free_of (j:=3) g1))
  all_goals
   go_end0
   have hcw:Chg (fun k=>k=bp) W w1:=((Chg.refl _ W).drew).then hcc
   obtain ⟨r1,r2,r3⟩:=gj_end (arr:=fun v=>#[nm,lv,xp0,v,xv,xb]) (kf:=3) tys_la (fun _ _=>rfl) hp h1 h2 h3 h4 h5 h6 h7 h8 h9 LaR.le hcw (Mem.More.refl _ _) (h4.chg hcw (fun k e=>by subst e;exact h7)) (show LaR m' _ x from ⟨rfl,a1⟩) a2 a3 hown9 hgrow9 (by simpa using hat9)
   exact ⟨gs_sb hB h2 r1,⟨rfl,r2,by
    refine r1.heap hbx (fun e=>?_)
    rcases e with e|e|e
    ·exact hnb1 e
    ·exact blk_ne hbx h1 (by decide) e
    ·exact blk_own hbx h2 (by decide) e⟩,r3⟩
end
end Go.Proofs.YtlpdjfimefjmcaaGreatDoor.Q
