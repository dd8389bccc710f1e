/- principal of the parser. principalLine of the parser. -/
import Derived.Test.YtlpdjfimefjmcaaGreatDoorFlOpenPR30
open Go.Lib (hid)
namespace Go.Proofs.YtlpdjfimefjmcaaGreatDoor.Q
open Go Go.RowKit Go.Proofs.Mm
section
variable {ys:List It} {len bp bw i:Nat} {vp:Value} {w:World} {ns:List (List Nat)} {α:Type}
def prinP (T:Nat→Option Syn.K) (ns:List (List Nat)) (i:Nat):Syn.R (List (List Nat)) :=
 (Syn.name T i).on fun s j=>if ns.length=64 then .error (74,i) else .ok (ns++[s],j)
def NOk (ys:List It) (len bp bw:Nat) (vp:Value) (w:World) (ns:List (List Nat)) (j:Nat) (e:Ending) (w':World):Prop:=e=.returned (.tuple #[])∧∃vp',PS ys len bp bw vp' w' j∧NR w' vp' ns∧Ob vp w vp'
theorem prin_end {w1 w9:World} {j n c c9:Nat} {q q9:Option Addr} {s:ByteArray} {o:Obj} (hn:n=ns.length) (h1:PS ys len bp bw (.slice q n c) w1 j) (h2:NR w1 (.slice q n c) ns) (hl:n≠64)
 (hown9:w9.ownsRow 0 9 1 (.slice q9 (n+1) c9) (n+1) (strC ns++[.string s])) (hgrow9:(w1.alloc o).grownBy w9 (Value.ownBlock (.slice q n c))) :
 Chg (TS bp (.slice q n c)) w1 (w9.setCell ⟨bp,1,none⟩ (.slice q9 (n+1) c9))∧PS ys len bp bw (.slice q9 (n+1) c9) (w9.setCell ⟨bp,1,none⟩ (.slice q9 (n+1) c9)) j∧NR (w9.setCell ⟨bp,1,none⟩ (.slice q9 (n+1) c9)) (.slice q9 (n+1) c9) (ns++[bl s]):=by
 subst hn
 have hC:Chg (fun k=>Value.ownBlock (.slice q ns.length c)=some k) w1 w9:=((Chg.refl _ w1).alloc _).then (grown_chg hgrow9 (fun k e=>.inl e))
 have hC2:Chg (TS bp (.slice q ns.length c)) w1 (w9.setCell ⟨bp,1,none⟩ (.slice q9 (ns.length+1) c9)):=(hC.mono (fun k e=>.inl (.inr e))).setCell (p:=⟨bp,1,none⟩) (.inl (.inl rfl)) _
 obtain ⟨⟨cw,a1,a2⟩,⟨arr,b1,b2⟩,h3,h4⟩:=h1
 have hb:=hC.heap a1 (blk_own a1 h2.1 (by decide))
 have hbt:=hC2.heap b1 (fun e=>by
  rcases e with e|e
  ·exact blk_ne b1 a1 (by decide) e
  ·exact blk_own b1 h2.1 (by decide) e)
 refine ⟨hC2,⟨⟨cw,heap_set hb 1 _,a2⟩,⟨arr,hbt,b2⟩,h3,h4⟩,?_,?_,?_⟩
 ·rw [List.length_append,List.length_singleton]
  have:=own_chg hown9 ((Chg.refl (fun k=>k=bp) w9).setCell (p:=⟨bp,1,none⟩) (.inl rfl) (.slice q9 (ns.length+1) c9)) (fun k hk e=>by subst e;exact blk_own hb hown9 (by decide) hk)
  unfold strC at this ⊢
  rw [List.map_append,List.map_singleton,sb_bl];exact this
 ·rw [List.length_append,List.length_singleton];have:=h2.2.1;omega
 ·intro t ht
  rcases List.mem_append.1 ht with ht|ht
  ·exact h2.2.2 t ht
  ·rw [List.mem_singleton.1 ht,sb_bl]
set_option maxRecDepth 100000 in
set_option maxHeartbeats 2000000 in
theorem principal_any (_hw:Ws ys) (h:PS ys len bp bw vp w i) (hn:NR w vp ns) :
 Calls Tryz.prog 141 #[.pointer (some ⟨bp,0,none⟩)] w (Ret ys len (TS bp vp) w (prinP (Tk ys) ns i) (NOk ys len bp bw vp w)):=by
 obtain ⟨q,c,rfl⟩:=own_shape hn.1
 obtain ⟨j0,hj0,hy0,hy1,hy2⟩:=infoStr
 have hmx:Tryz.prog.follows .mixedOrders=true:=by kernel_rfl
 have hc1:=h.raw1
 obtain ⟨xb,hxb⟩:=h.blk
 have hf1:=free_of (j:=1) hxb
 have hTS:∀{a b:World},Chg (fun k=>k=bp) a b→Chg (TS bp (.slice q ns.length c)) a b:=fun hc=>hc.mono fun _ e=>.inl (.inl e)
 have hK:=isKind_ps h 1
 rw [named_kind] at hK
 have hl64:=hn.2.1
 have hpd:PS ys len bp bw (.slice q ns.length c) w.drew i:=h.drewN 1
 have hS0:w.drew.cell? ⟨bp,1,none⟩=some (.slice q ns.length c):=hc1
 obtain ⟨n,hnn⟩:∃n,ns.length=n:=⟨_,rfl⟩
 cases hx:Syn.named (Tk ys) i with
 | false =>
  rw [hx] at hK
  have HE:=hid (show prinP (Tk ys) ns i=.error (50,i) from by unfold prinP;rw [name_no hx];rfl)
  have HNO:=hid (name_none hpd hx (TS bp (.slice q ns.length c)) (.inl rfl))
  clear hx hnn
  go_enter Tryz.func141,Tryz.ntmps141
  go_wp2_with (go_at_call 167;refine hK.mono ?_;rintro e w' ⟨rfl,rfl⟩)
  refine wp_region_held_drew (S:=fun w'=>w'.cell? ⟨bp,1,none⟩=some (.slice q ns.length c)) hmx hS0 (fun hHeld=>?_)
  refine wpAnyH_take (i:=0) (v:=.pointer (some ⟨bp,0,none⟩)) rfl (by kernel_rfl) (by kernel_rfl) (by kernel_rfl) (fun _ _ _ h=>h) (Or.inl ⟨by rfl,fun w hSw=>by go_simp⟩) (by assumption) ?_
  try simp only [Act.put,List.setIfInBounds_toArray,List.set_cons_zero,List.set_cons_succ,List.getElem_toArray,List.getElem_cons_zero]
  refine wpAnyH_take (i:=1) (v:=.pointer (some ⟨bp,0,none⟩)) rfl (by kernel_rfl) (by kernel_rfl) (by kernel_rfl) (fun _ _ _ h=>h) (Or.inl ⟨by rfl,fun w hSw=>by go_simp⟩) (by assumption) ?_
  try simp only [Act.put,List.setIfInBounds_toArray,List.set_cons_zero,List.set_cons_succ,List.getElem_toArray,List.getElem_cons_zero,List.getElem_cons_succ]
  refine wpAnyH_take (i:=2) (v:=.pointer (some ⟨bp,0,none⟩)) rfl (by kernel_rfl) (by kernel_rfl) (by kernel_rfl) (fun _ _ _ h=>h) (Or.inl ⟨by rfl,fun w hSw=>by go_simp⟩) (by assumption) ?_
  try simp only [Act.put,List.setIfInBounds_toArray,List.set_cons_zero,List.set_cons_succ,List.getElem_toArray,List.getElem_cons_zero,List.getElem_cons_succ]
  refine wpAnyH_take (i:=3) (v:=.pointer (some ⟨bp,1,none⟩)) rfl (by kernel_rfl) (by kernel_rfl) (by kernel_rfl) (fun _ _ _ h=>h) (Or.inl ⟨by rfl,fun w hSw=>by go_simp⟩) (by assumption) ?_
  try simp only [Act.put,List.setIfInBounds_toArray,List.set_cons_zero,List.set_cons_succ,List.getElem_toArray,List.getElem_cons_zero,List.getElem_cons_succ]
  refine wpAnyH_take (i:=4) (v:=.slice q ns.length c) rfl (by kernel_rfl) (by kernel_rfl) (by kernel_rfl) (fun _ _ _ h=>h) (Or.inl ⟨by rfl,fun w hSw=>by go_simp⟩) (by assumption) ?_
  try simp only [Act.put,List.setIfInBounds_toArray,List.set_cons_zero,List.set_cons_succ,List.getElem_toArray,List.getElem_cons_zero,List.getElem_cons_succ]
  refine wpAnyH_take (i:=5) (v:=.pointer (some ⟨bp,0,none⟩)) rfl (by kernel_rfl) (by kernel_rfl) (by kernel_rfl) (fun _ _ _ h=>h) (Or.inl ⟨by rfl,fun w hSw=>by go_simp⟩) (by assumption) ?_
  try simp only [Act.put,List.setIfInBounds_toArray,List.set_cons_zero,List.set_cons_succ,List.getElem_toArray,List.getElem_cons_zero,List.getElem_cons_succ]
  refine wpAnyH_ready (rs:=[6]) (by kernel_rfl) (by simp) ?_
  refine AllReadyH.cons rfl (fun K hK=>?_) AllReadyH.nil
  go_simp
  go_at_call 144
  refine HNO.out.mono ?_
  rintro e w' ⟨rfl,hc⟩
  exact ⟨rfl,ret_err HE.out (((Chg.refl (TS bp (.slice q ns.length c)) w).drew).then hc)⟩
 | true =>
  rw [hx] at hK
  by_cases h64:n=64
  ·have HE:=hid (show prinP (Tk ys) ns i=.error (74,i) from by unfold prinP;rw [name_yes len hx,on_ok',if_pos (hnn.trans h64)])
   have HF:=hid (fail_ps h 74 (TS bp (.slice q ns.length c)))
   have hq:((ns.length:Int) == 64)=true:=by rw [hnn,h64];rfl
   clear hx hnn
   go_enter Tryz.func141,Tryz.ntmps141
   go_wp2_with (go_at_call 167;refine hK.mono ?_;rintro e w' ⟨rfl,rfl⟩)
   go_at_call 138
   refine HF.out.mono ?_
   rintro e w' ⟨rfl,hc⟩
   exact ⟨rfl,ret_err HE.out hc⟩
  ·have HE:=hid (show prinP (Tk ys) ns i=.ok (ns++[bl (tk ys len i).t],i+1) from by unfold prinP;rw [name_yes len hx,on_ok',if_neg (by rw [hnn];exact h64)])
   have hq:((ns.length:Int) == 64)=false:=by rw [beq_eq_false_iff_ne];omega
   have HN1:=hid (name_one hpd hx)
   have HN:=hid hn
   have HD:=hid (show NR w.drew (.slice q ns.length c) ns from nr_chg hn ((Chg.refl (fun _=>False) w).drew) (fun _ _ e=>e))
   have hnb:∀k,Value.ownBlock (.slice q ns.length c)=some k→¬k=bp:=nr_bp hn h
   have hxd:w.drew.heap[bp]?=some (.cells xb 165 (0,0)):=hxb
   have HROW:=hid (fun w1 (hc:Chg (fun k=>k=bp) w.drew w1)=>own_chg HD.out.1 hc hnb)
   have HAPP:=hid (fun (w1 w9:World) (o:Obj) (hp:PS ys len bp bw (.slice q ns.length c) w1 (i+1)) (hn:NR w1 (.slice q ns.length c) ns) (hg:(w1.alloc o).grownBy w9 (Value.ownBlock (.slice q ns.length c)))=>by
    have hC:Chg (fun k=>Value.ownBlock (.slice q ns.length c)=some k) w1 w9:=((Chg.refl _ w1).alloc _).then (grown_chg hg (fun k e=>.inl e))
    obtain ⟨c',a1,_⟩:=hp.st
    have hb:=hC.heap a1 (blk_own a1 hn.1 (by decide))
    exact (⟨cell_of (j:=1) hb rfl,free_of hb⟩:w9.cell? ⟨bp,1,none⟩=some (.slice q ns.length c)∧w9.frozen? ⟨bp,1,none⟩=false))
   have hm64:ns.length≠64:=by rw [hnn];exact h64
   have hc1d:w.drew.cell? ⟨bp,1,none⟩=some (.slice q ns.length c):=hc1
   clear hx hnn h64
   go_enter Tryz.func141,Tryz.ntmps141
   go_wp2_with (go_at_call 167;refine hK.mono ?_;rintro e w' ⟨rfl,rfl⟩)
   go_region_law
    (first
     | (go_simp;go_at_call 144;refine HN1.out.mono ?_;rintro e w1 ⟨rfl,hcc,hp1⟩;have hn1:=nr_next HD.out hpd hcc;have k1:=hp1.raw1;have k2:=(hp1.alloc (.cells #[.string (tk ys len i).t] 9)).raw1)
     | (refine step_append_mine rfl (.tmp 18) (.tmp 21) 22 rfl 0 9 j0 (.string ⟨#[]⟩) 1 16 Tryz.underlying22 hj0 hy0 hy1 hy2 rfl (by decide) (.slice q ns.length c) ns.length (strC ns) (by simp [Act.eval]) (hn1.1.alloc _) ⟨_,0,none⟩ 1 1 [.string (tk ys len i).t] (by simp [Act.eval]) rfl (row_new _ [.string (tk ys len i).t] 9) (one_str _) (by unfold maxLen;omega) (by omega) (Nat.zero_le _) ?_;intro v9 w9 hown9 hgrow9 hat9;obtain ⟨q9,c9,rfl⟩:=own_shape hown9;obtain ⟨k4,k6⟩:=HAPP.out _ _ _ hp1 hn1 hgrow9))
   all_goals
    go_end0
    obtain ⟨r1,r2,r3⟩:=prin_end rfl hp1 hn1 hm64 hown9 hgrow9
    have hat:Value.ownBlock (.slice q9 (ns.length+1) c9)=Value.ownBlock (.slice q ns.length c)∨Value.ownBlock (.slice q9 (ns.length+1) c9)=some (w1.heap.size+1):=by simpa using hat9
    have hszw:w.heap.size≤w1.heap.size:=hcc.size
    exact ret_ok HE.out ((hTS (((Chg.refl (fun k=>k=bp) w).drew).then hcc)).then r1) ⟨rfl,_,r2,r3,fun k hk=>by
     rcases hat with e|e
     ·rw [e] at hk;exact .inl hk
     ·rw [e] at hk;injection hk with hk;right;omega⟩
end
section
variable (T:Nat→Option Syn.K)
def prinsP:Nat→List (List Nat)→Nat→Syn.R (List (List Nat))
 | 0,_,i=>.error (99,i)
 | f+1,l,i=>if Syn.is T i [59] then .ok (l,i+1) else (prinP T l i).on fun l i=>prinsP f l i
def prinLP (f:Nat) (l:List (List Nat)) (i:Nat):Syn.R (List (List Nat)):=(prinP T l i).on fun l i=>prinsP T f l i
def lineG (f:Nat) (l:List (List Nat)) (i:Nat):Syn.R (List (List Nat)):=(Syn.namesF T f l i).on fun l i=>(Syn.want T i [59]).on fun _ i=>.ok (l,i)
theorem line_eq:∀(f:Nat) (l:List (List Nat)) (i:Nat),(∀j,lineG T f l i≠.error (99,j))→prinLP T f l i=lineG T f l i
 | 0,l,i,h=>(h i rfl).elim
 | f+1,l,i,h=>by
  have hG:lineG T (f+1) l i=(Syn.name T i).on fun s j=>if l.length=64 then .error (74,i) else
   if Syn.named T j then lineG T f (l++[s]) j else (Syn.want T j [59]).on fun _ j=>.ok (l++[s],j):=by
   unfold lineG
   rw [Syn.namesF]
   cases Syn.name T i with
   | error e=>rfl
   | ok x =>
    obtain ⟨s,j⟩:=x
    simp only [Syn.R.on]
    by_cases h64:l.length=64
    ·simp only [if_pos h64]
    ·simp only [if_neg h64]
     cases Syn.named T j <;> rfl
  rw [hG] at h ⊢
  unfold prinLP prinP
  cases hs:Syn.name T i with
  | error e=>rfl
  | ok x =>
   obtain ⟨s,j⟩:=x
   rw [hs] at h
   simp only [Syn.R.on] at h ⊢
   by_cases h64:l.length=64
   ·simp only [if_pos h64]
   ·simp only [if_neg h64] at h ⊢
    rw [prinsP]
    cases hn:Syn.named T j with
    | true =>
     rw [hn,if_pos rfl] at h
     rw [Syn.not_is hn,if_neg (by simp),if_pos rfl]
     exact line_eq f (l++[s]) j h
    | false =>
     simp only [Bool.false_eq_true,if_false]
     unfold Syn.want
     cases hx:Syn.is T j [59] with
     | true=>rfl
     | false =>
      have hno:Syn.name T j=.error (50,j):=by
       unfold Syn.named at hn
       unfold Syn.name
       cases hT:T j with
       | none=>rfl
       | some k=>rw [hT] at hn;simp only at hn ⊢;exact if_neg (by simpa using hn)
      simp only [Bool.false_eq_true,if_false]
      unfold prinP
      rw [hno];rfl
theorem lineG_fit {T:Nat→Option Syn.K} {n:Nat} (hN:∀i,n≤i→T i=none) (f:Nat) (l:List (List Nat)) (i:Nat) (h:i≤n) (hF:n<f+i):Syn.Fit n (lineG T f l i) :=
 (Syn.namesF_fit hN f l i h hF).on fun _ _j _ hj=>(Syn.want_fit hN [59] hj).on fun _ _ _ hk=>Syn.Fit.ok _ hk
end
section
variable {ys:List It} {len bp bw i:Nat} {vp:Value} {w:World} {ns:List (List Nat)}
theorem mk_59b:Mk (bl ⟨#[59]⟩)=true:=by decide
set_option maxRecDepth 100000 in
set_option maxHeartbeats 1000000 in
theorem principalLine_any (hw:Ws ys) (h:PS ys len bp bw vp w i) (hn:NR w vp ns) :
 Calls Tryz.prog 116 #[.pointer (some ⟨bp,0,none⟩)] w (Ret ys len (TS bp vp) w (lineG (Tk ys) (ys.length+1) ns i) (NOk ys len bp bw vp w)):=by
 have hfit:=lineG_fit (tk_nones ys) (ys.length+1) ns i h.le (by omega)
 obtain ⟨RR,hRR⟩:∃RR,lineG (Tk ys) (ys.length+1) ns i=RR:=⟨_,rfl⟩
 have heq:=line_eq (Tk ys) (ys.length+1) ns i (fun j e=>by rw [e] at hfit;exact Syn.Fit.no99 hfit rfl)
 rw [hRR] at hfit heq ⊢
 have HR0:=hid heq
 have HFIT:=hid hfit
 have h1:=ret_cases (principal_any hw h hn)
 clear hRR hfit heq h hn
 go_enter Tryz.func116,Tryz.ntmps116
 go_wp2_with fail
 go_at_call 141
 refine h1.mono ?_
 rintro e w1 ⟨hc1,⟨er,k,hr,rfl⟩|⟨l1,j1,hr,rfl,v1,hp1,hn1,ho1⟩⟩
 ·exact ⟨rfl,ret_err (by rw [←HR0.out];unfold prinLP;rw [hr];rfl) hc1⟩
 have HR1:=hid (show prinsP (Tk ys) (ys.length+1) l1 j1=RR from by rw [←HR0.out];unfold prinLP;rw [hr];rfl)
 have HN1:=hid hn1
 have C1:=hid hc1
 have HP1:=hid hp1
 have HO1:=hid ho1
 clear hc1 hr h1 hp1 hn1 ho1
 go_wp2_with fail
 go_loopw [5] (fun _ wr=>∃f l j v,Hid (prinsP (Tk ys) f l j=RR)∧Hid (PS ys len bp bw v wr j)∧Hid (NR wr v l)∧Hid (Ob vp w v)∧Hid (Chg (TS bp vp) w wr))
  (fun _ wr=>posW bp wr)
 case atStart=>exact ⟨ys.length+1,l1,j1,v1,HR1,HP1,HN1,HO1,C1⟩
 case round =>
  obtain ⟨f,l,j,v,HF,HPr,HNr,HOr,HCr⟩:=hrel
  cases f with
  | zero=>exact (HFIT.out.no99 (j:=j) (by rw [←HF.out];rfl)).elim
  | succ f =>
   have HPOS:=hid HPr.out.pos
   have hF:=HF.out
   rw [prinsP] at hF
   cases hx:Syn.is (Tk ys) j [59] with
   | true =>
    have HE:=hid (show RR=.ok (l,j+1) from by rw [←hF,hx,if_pos rfl])
    have hsk:=skip_t hw HPr.out ⟨#[59]⟩ mk_59b hx
    clear hx hF
    go_wp2_with (go_at_call 115;refine hsk.mono ?_;rintro e w3 ⟨rfl,hc3,hp3⟩)
    go_end0
    exact ret_ok HE.out (HCr.out.then (hc3.mono (fun k e=>.inl (.inl e)))) ⟨rfl,v,hp3,nr_next HNr.out HPr.out hc3,HOr.out⟩
   | false =>
    have hsk:=skip_f hw HPr.out ⟨#[59]⟩ mk_59b hx
    have hmem:=ret_cases (principal_any hw HPr.out HNr.out)
    have HSTEP:=hid (show (prinP (Tk ys) l j).on (fun l i=>prinsP (Tk ys) f l i)=RR from by rw [←hF,hx,if_neg (by simp)])
    clear hx hF
    go_wp2_with (go_at_call 115;refine hsk.mono ?_;rintro e w3 ⟨rfl,rfl⟩)
    go_at_call 141
    refine hmem.mono ?_
    rintro e w4 ⟨hc4,⟨er,k,hr,rfl⟩|⟨l4,j4,hr,rfl,v4,hp4,hn4,ho4⟩⟩
    ·exact ⟨rfl,ret_err (by rw [←HSTEP.out,hr];rfl) (HCr.out.trans hc4 (fun k e=>HOr.out.ts k e))⟩
    have HF4:=hid (show prinsP (Tk ys) f l4 j4=RR from by rw [←HSTEP.out,hr];rfl)
    have hj4:j<j4:=by
     unfold prinP at hr
     obtain ⟨s1,i1,g1,g2⟩:=Syn.R.on_ok hr
     have:=(Syn.name_ok g1).2.1
     split at g2
     ·cases g2
     ·injection g2 with g2;injection g2 with _ g2;omega
    have hle4:=hp4.le
    have hpos4:=hp4.pos
    have HP4:=hid hp4
    have HN4:=hid hn4
    have HO4:=hid (HOr.out.trans ho4 HCr.out.size)
    have HC4:=hid (HCr.out.trans hc4 (fun k e=>HOr.out.ts k e))
    clear hc4 hr hp4 hn4 hmem hsk ho4
    go_wp2
    refine ⟨⟨f,l4,j4,v4,HF4,HP4,HN4,HO4,HC4⟩,?_⟩
    rw [hpos4,HPOS.out];omega
end
end Go.Proofs.YtlpdjfimefjmcaaGreatDoor.Q
