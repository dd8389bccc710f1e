/- Package names: terms that are right by themselves, expressions that are whole. Package names: whether a statement fits. (Written by a program.) Package names: sizes of a function, the grammar and the bulk of a statement. Package names: what a statement uses. -/
import Derived.Test.YtlpdjfimefjmcaaGreatDoorFlLevelsPR4
import Derived.Test.YtlpdjfimefjmcaaGreatDoorFlLevelsPR5
import Derived.Laws.EntriesVeiled
import Derived.Maps.OwnIn
namespace Go.Proofs.YtlpdjfimefjmcaaGreatDoor
open Go Go.RowKit Go.Proofs.Mm
def tv (t:TmZ):Value:=.agg #[.int .i64 t.kind,.int .i64 t.value,.string t.name]
section
variable {W:World}
set_option maxRecDepth 100000 in
theorem taken_p (t:TmZ) (W:World):Calls Tryz.prog 159 #[tv t] W (RetB (.int .i64 ((tkT t:Nat):Int)) W):=by
  obtain ⟨k,v,s⟩:=t
  unfold tv tkT
  simp only
  by_cases h5:k=5
  · subst h5
    go_enter Tryz.func159,Tryz.ntmps159
    go_wp2
    go_ret
    exact ⟨rfl,bl_al (Below.refl _ _) _⟩
  by_cases h3:k=3
  · subst h3
    go_enter Tryz.func159,Tryz.ntmps159
    go_wp2
    go_ret
    exact ⟨rfl,bl_al (Below.refl _ _) _⟩
  by_cases h4:k=4
  · subst h4
    go_enter Tryz.func159,Tryz.ntmps159
    go_wp2
    go_ret
    exact ⟨rfl,bl_al (Below.refl _ _) _⟩
  rw [if_neg h5,if_neg (by omega)]
  have e5:(k == 5)=false:=by simpa using h5
  have e3:(k == 3)=false:=by simpa using h3
  have e4:(k == 4)=false:=by simpa using h4
  go_enter Tryz.func159,Tryz.ntmps159
  go_wp2
  go_ret
  exact ⟨rfl,bl_al (Below.refl _ _) _⟩
theorem goodT_1 (v:Int) (s:ByteArray):goodT ⟨1,v,s⟩=(decide (0≤v) && s.toList.isEmpty):=rfl
theorem goodT_n {k:Int} (h:k=2 ∨ k=3) (v:Int) (s:ByteArray):goodT ⟨k,v,s⟩=(decide (v=0) && nameZ s):=by rcases h with rfl | rfl <;> rfl
theorem goodT_4 (v:Int) (s:ByteArray):goodT ⟨4,v,s⟩=(decide (15≤v∧v≤17) && s.toList.isEmpty):=rfl
theorem goodT_5 (v:Int) (s:ByteArray):goodT ⟨5,v,s⟩=(decide (1≤v∧v≤14) && s.toList.isEmpty):=rfl
theorem goodT_o {k:Int} (h1:¬ k=1) (h2:¬ k=2) (h3:¬ k=3) (h4:¬ k=4) (h5:¬ k=5) (v:Int) (s:ByteArray):goodT ⟨k,v,s⟩=false:=by
  unfold goodT
  simp only
  rw [if_neg h1,if_neg (by omega),if_neg h4,if_neg h5]
set_option maxRecDepth 100000 in
set_option maxHeartbeats 2000000 in
theorem good_p (t:TmZ) (W:World):Calls Tryz.prog 160 #[tv t] W (RetB (.bool (goodT t)) W):=by
  obtain ⟨k,v,s⟩:=t
  unfold tv
  simp only
  by_cases h1:k=1
  · subst h1
    rw [goodT_1]
    by_cases hv:0≤v
    · rw [decide_eq_true hv,Bool.true_and]
      cases hs:s.toList.isEmpty
      all_goals
        go_enter Tryz.func160,Tryz.ntmps160
        go_wp2
        go_ret
        exact ⟨rfl,bl_al (Below.refl _ _) _⟩
    · rw [decide_eq_false hv,Bool.false_and]
      go_enter Tryz.func160,Tryz.ntmps160
      go_wp2
      go_ret
      exact ⟨rfl,bl_al (Below.refl _ _) _⟩
  by_cases h23:k=2 ∨ k=3
  · rw [goodT_n h23]
    have e1:(k == 1)=false:=by simpa using h1
    have HN:=Lib.hid (fun W=>name_p s W)
    by_cases hv:v=0
    · subst hv
      rw [decide_eq_true rfl,Bool.true_and]
      generalize nameZ s=r at *
      rcases h23 with rfl | rfl
      all_goals
        go_enter Tryz.func160,Tryz.ntmps160
        go_wp2_with (go_at_call 121;refine (HN.out _).mono ?_;rintro e w1 ⟨rfl,rfl⟩)
        go_ret
        exact ⟨rfl,bl_al (Below.refl _ _) _⟩
    · have ev:(v == 0)=false:=by simpa using hv
      rw [decide_eq_false hv,Bool.false_and]
      rcases h23 with rfl | rfl
      all_goals
        go_enter Tryz.func160,Tryz.ntmps160
        go_wp2
        go_ret
        exact ⟨rfl,bl_al (Below.refl _ _) _⟩
  by_cases h4:k=4
  · subst h4
    rw [goodT_4]
    by_cases hv:15≤v
    · by_cases hu:v≤17
      · rw [decide_eq_true ⟨hv,hu⟩,Bool.true_and]
        cases hs:s.toList.isEmpty
        all_goals
          go_enter Tryz.func160,Tryz.ntmps160
          go_wp2
          go_ret
          exact ⟨rfl,bl_al (Below.refl _ _) _⟩
      · rw [decide_eq_false (by omega),Bool.false_and]
        go_enter Tryz.func160,Tryz.ntmps160
        go_wp2
        go_ret
        exact ⟨rfl,bl_al (Below.refl _ _) _⟩
    · rw [decide_eq_false (by omega),Bool.false_and]
      go_enter Tryz.func160,Tryz.ntmps160
      go_wp2
      go_ret
      exact ⟨rfl,bl_al (Below.refl _ _) _⟩
  by_cases h5:k=5
  · subst h5
    rw [goodT_5]
    by_cases hv:1≤v
    · by_cases hu:v≤14
      · rw [decide_eq_true ⟨hv,hu⟩,Bool.true_and]
        cases hs:s.toList.isEmpty
        all_goals
          go_enter Tryz.func160,Tryz.ntmps160
          go_wp2
          go_ret
          exact ⟨rfl,bl_al (Below.refl _ _) _⟩
      · rw [decide_eq_false (by omega),Bool.false_and]
        go_enter Tryz.func160,Tryz.ntmps160
        go_wp2
        go_ret
        exact ⟨rfl,bl_al (Below.refl _ _) _⟩
    · rw [decide_eq_false (by omega),Bool.false_and]
      go_enter Tryz.func160,Tryz.ntmps160
      go_wp2
      go_ret
      exact ⟨rfl,bl_al (Below.refl _ _) _⟩
  have h2:¬ k=2:=fun e=>h23 (.inl e)
  have h3:¬ k=3:=fun e=>h23 (.inr e)
  rw [goodT_o h1 h2 h3 h4 h5]
  have e1:(k == 1)=false:=by simpa using h1
  have e2:(k == 2)=false:=by simpa using h2
  have e3:(k == 3)=false:=by simpa using h3
  have e4:(k == 4)=false:=by simpa using h4
  have e5:(k == 5)=false:=by simpa using h5
  clear h23
  go_enter Tryz.func160,Tryz.ntmps160
  go_wp2
  go_ret
  exact ⟨rfl,bl_al (Below.refl _ _) _⟩
theorem whF_stop {t:TmZ} {r:List TmZ} {n:Nat} (h:goodT t=false ∨ n<tkT t):whF (t :: r) n=false:=by
  unfold whF
  rcases h with h | h
  · rw [h];simp
  · rw [decide_eq_false (by omega)];simp
theorem whF_go {t:TmZ} {r:List TmZ} {n:Nat} (h:goodT t=true) (h2:¬ n<tkT t):whF (t :: r) n=whF r (n - tkT t+1):=by
  rw [whF,h,decide_eq_true (by omega)];simp
theorem drop_next {α:Type} {l:List α} {k:Nat} (h:k<l.length):l.drop k=l[k] :: l.drop (k+1):=by rw [List.drop_eq_getElem_cons h]
set_option maxRecDepth 100000 in
set_option maxHeartbeats 2000000 in
theorem whole_p {C:Cl} {q:Option Addr} {c:Nat} (l:List TmZ) (hl:l.length≤4611686018427387904) (hrow:TmAt C q l) (hC:CLe C (wC W)):Calls Tryz.prog 132 #[.slice q l.length c] W (RetB (.bool (whF l 0)) W):=by
  have HA:=Lib.hid hrow
  have HCC:=Lib.hid hC
  obtain ⟨n,hn⟩:∃ n,l.length=n:=⟨_,rfl⟩
  have HN:=Lib.hid hn
  rw [hn] at hl ⊢
  clear hrow hC hn
  go_enter Tryz.func132,Tryz.ntmps132
  go_wp2
  go_loopw [3,9] (fun v i wr=>∃ k m:Nat,k≤n∧i=.int .i64 k∧m≤k∧v=.int .i64 (m:Nat)∧Hid (Below W.heap.size W wr)∧Hid (whF l 0=whF (l.drop k) m)) (fun _ i _=>n - (intOf i).toNat)
  case atStart=>exact ⟨0,0,Nat.zero_le _,rfl,Nat.le_refl _,rfl,Lib.hid (Below.refl _ _),Lib.hid rfl⟩
  case round =>
    obtain ⟨k,m,hk,rfl,hm,rfl,HB,HT⟩:=hrel
    by_cases hlt:k<n
    · have hk1:k<l.length:=by rw [HN.out];exact hlt
      obtain ⟨g,o,rfl,a0,a1,a2⟩:=HA.out k hk1
      have HD:=Lib.hid (drop_next hk1)
      have e0:wr.cell? ⟨g,o+k * 3,none⟩=some (.int .i64 l[k].kind):=below_cle HB.out _ _ (HCC.out _ _ a0)
      have e1:wr.cell? ⟨g,o+k * 3+1,none⟩=some (.int .i64 l[k].value):=below_cle HB.out _ _ (HCC.out _ _ a1)
      have e2:wr.cell? ⟨g,o+k * 3+2,none⟩=some (.string l[k].name):=below_cle HB.out _ _ (HCC.out _ _ a2)
      have hg:g<wr.heap.size:=cell_lt e0
      clear a0 a1 a2
      generalize l[k]=t at *
      have HTK:=Lib.hid (fun w=>taken_p t w)
      have HGD:=Lib.hid (fun w=>good_p t w)
      have HST:=Lib.hid (fun r=>@whF_stop t r m)
      have HGO:=Lib.hid (fun r=>@whF_go t r m)
      have htk:tkT t≤2:=by unfold tkT;split <;> (try split) <;> omega
      clear hk1
      obtain ⟨kd,vl,nm⟩:=t
      unfold tv at HTK HGD
      generalize tkT ⟨kd,vl,nm⟩=tk at *
      generalize goodT ⟨kd,vl,nm⟩=gd at *
      have hki:(k:Int)<(n:Int):=by omega
      simp only at e0 e1 e2 HTK HGD
      obtain ⟨bx,hbx⟩:∃ bx,wr.heap.size=bx:=⟨_,rfl⟩
      have hbb:Below wr.heap.size wr (wr.alloc (.cells #[.int .i64 kd,.int .i64 vl,.string nm] 140)):=bl_al (Below.refl _ _) _
      have hrow0:(wr.alloc (.cells #[.int .i64 kd,.int .i64 vl,.string nm] 140)).heap[bx]?=some (.cells #[.int .i64 kd,.int .i64 vl,.string nm] 140 (0,0)):=by rw [← hbx];exact World.alloc_heap_new _ _
      have HBX:=Lib.hid hbb
      have HRW:=Lib.hid hrow0
      have HSZ:=Lib.hid (show bx<(wr.alloc (.cells #[.int .i64 kd,.int .i64 vl,.string nm] 140)).heap.size by simp [hbx])
      clear hbb hrow0
      go_wp2_with fail
      generalize wr.alloc (.cells #[.int .i64 kd,.int .i64 vl,.string nm] 140)=w0 at *
      go_at_call 159
      refine (HTK.out _).mono ?_
      rintro e w1 ⟨rfl,hb1⟩
      have hr1:=(hb1.block bx HSZ.out).trans HRW.out
      have HB1:=Lib.hid (bl_tr (bl_tr HB.out HBX.out) hb1)
      have g0:=cell_of (j:=0) hr1 rfl
      have g1:=cell_of (j:=1) hr1 rfl
      have g2:=cell_of (j:=2) hr1 rfl
      clear hb1 hr1 e0 e1 e2
      go_wp2_with fail
      go_at_call 160
      refine (HGD.out _).mono ?_
      rintro e w2 ⟨rfl,hb2⟩
      have HB2:=Lib.hid (bl_tr HB1.out hb2)
      clear hb2 g0 g1 g2
      by_cases hlt2:m<tk
      · have HF:=Lib.hid (show whF l 0=false by rw [HT.out,HD.out];exact HST.out _ (.inr hlt2))
        have hlt3:((m:Nat):Int)<((tk:Nat):Int):=by omega
        cases gd
        all_goals
          go_wp2
          go_ret
          exact ⟨ret_bool HF.out.symm,HB2.out⟩
      · have hlt3:¬ ((m:Nat):Int)<((tk:Nat):Int):=by omega
        cases hgd:gd
        · have HF:=Lib.hid (show whF l 0=false by rw [HT.out,HD.out];exact HST.out _ (.inl hgd))
          clear hgd
          go_wp2
          go_ret
          exact ⟨ret_bool HF.out.symm,HB2.out⟩
        · have HF:=Lib.hid (show whF l 0=whF (l.drop (k+1)) (m - tk+1) by rw [HT.out,HD.out];exact HGO.out _ hgd hlt2)
          clear hgd
          go_wp2
          exact ⟨⟨k+1,m - tk+1,by omega,by go_num,by omega,by
            congr 1
            first | omega | (unfold wrap64;omega),HB2,HF⟩,by simp [intOf];omega⟩
    · have hk':k=n:=by omega
      subst hk'
      have HF:=Lib.hid (show whF l 0=(m == 1) by rw [HT.out,List.drop_of_length_le (by rw [HN.out];exact Nat.le_refl _)];rfl)
      by_cases h1:m=1
      · subst h1
        go_wp2
        go_ret
        exact ⟨ret_bool HF.out.symm,HB.out⟩
      · have h2:(((m:Nat):Int) == 1)=false:=by simp;omega
        go_wp2
        go_ret
        exact ⟨ret_bool (by rw [HF.out];symm;simpa using h1),HB.out⟩
end
end Go.Proofs.YtlpdjfimefjmcaaGreatDoor
namespace Go.Proofs.YtlpdjfimefjmcaaGreatDoor
open Go Go.RowKit Go.Proofs.Mm
def cnI:Option Nat→Int
  | none=>-1
  | some k=>(k:Int)
def fmV (x:Bool × Option Nat × Option Nat):Value:=.agg #[.bool x.1,.int .i64 (cnI x.2.1),.int .i64 (cnI x.2.2)]
def foV:Option (Bool × Option Nat × Option Nat)→Value
  | some x=>.tuple #[fmV x,.bool true]
  | none=>.tuple #[.agg #[.bool false,.int .i64 0,.int .i64 0],.bool false]
section
variable {W:World}
set_option maxRecDepth 100000 in
set_option maxHeartbeats 1000000 in
theorem formOf_p (k:Int) (W:World):Calls Tryz.prog 129 #[.int .i64 k] W (RetB (foV (formZ k)) W):=by
  by_cases h1:k=1
  · subst h1
    show Calls _ _ _ _ (RetB (foV (some (false,some 1,some 1))) W)
    go_enter Tryz.func129,Tryz.ntmps129
    go_wp2
    exact bodyPost_ret (v:=foV (some (false,some 1,some 1))) (by simp [results,Tryz.results129,go_sem,foV,fmV,cnI]) rfl ⟨rfl,by repeat (first | exact Below.refl _ _ | refine bl_al ?_ _ | refine bl_dr ?_)⟩
  by_cases h2:k=2
  · subst h2
    show Calls _ _ _ _ (RetB (foV (some (true,some 0,some 2))) W)
    go_enter Tryz.func129,Tryz.ntmps129
    go_wp2
    exact bodyPost_ret (v:=foV (some (true,some 0,some 2))) (by simp [results,Tryz.results129,go_sem,foV,fmV,cnI]) rfl ⟨rfl,by repeat (first | exact Below.refl _ _ | refine bl_al ?_ _ | refine bl_dr ?_)⟩
  by_cases h3:k=3
  · subst h3
    show Calls _ _ _ _ (RetB (foV (some (true,some 0,some 1))) W)
    go_enter Tryz.func129,Tryz.ntmps129
    go_wp2
    exact bodyPost_ret (v:=foV (some (true,some 0,some 1))) (by simp [results,Tryz.results129,go_sem,foV,fmV,cnI]) rfl ⟨rfl,by repeat (first | exact Below.refl _ _ | refine bl_al ?_ _ | refine bl_dr ?_)⟩
  by_cases h4:k=4
  · subst h4
    show Calls _ _ _ _ (RetB (foV (some (true,none,none))) W)
    go_enter Tryz.func129,Tryz.ntmps129
    go_wp2
    exact bodyPost_ret (v:=foV (some (true,none,none))) (by simp [results,Tryz.results129,go_sem,foV,fmV,cnI]) rfl ⟨rfl,by repeat (first | exact Below.refl _ _ | refine bl_al ?_ _ | refine bl_dr ?_)⟩
  by_cases h5:k=5
  · subst h5
    show Calls _ _ _ _ (RetB (foV (some (false,some 0,some 1))) W)
    go_enter Tryz.func129,Tryz.ntmps129
    go_wp2
    exact bodyPost_ret (v:=foV (some (false,some 0,some 1))) (by simp [results,Tryz.results129,go_sem,foV,fmV,cnI]) rfl ⟨rfl,by repeat (first | exact Below.refl _ _ | refine bl_al ?_ _ | refine bl_dr ?_)⟩
  by_cases h6:k=6
  · subst h6
    show Calls _ _ _ _ (RetB (foV (some (false,some 0,some 0))) W)
    go_enter Tryz.func129,Tryz.ntmps129
    go_wp2
    exact bodyPost_ret (v:=foV (some (false,some 0,some 0))) (by simp [results,Tryz.results129,go_sem,foV,fmV,cnI]) rfl ⟨rfl,by repeat (first | exact Below.refl _ _ | refine bl_al ?_ _ | refine bl_dr ?_)⟩
  by_cases h7:k=7
  · subst h7
    show Calls _ _ _ _ (RetB (foV (some (false,some 0,some 1))) W)
    go_enter Tryz.func129,Tryz.ntmps129
    go_wp2
    exact bodyPost_ret (v:=foV (some (false,some 0,some 1))) (by simp [results,Tryz.results129,go_sem,foV,fmV,cnI]) rfl ⟨rfl,by repeat (first | exact Below.refl _ _ | refine bl_al ?_ _ | refine bl_dr ?_)⟩
  by_cases h8:k=8
  · subst h8
    show Calls _ _ _ _ (RetB (foV (some (false,some 0,some 0))) W)
    go_enter Tryz.func129,Tryz.ntmps129
    go_wp2
    exact bodyPost_ret (v:=foV (some (false,some 0,some 0))) (by simp [results,Tryz.results129,go_sem,foV,fmV,cnI]) rfl ⟨rfl,by repeat (first | exact Below.refl _ _ | refine bl_al ?_ _ | refine bl_dr ?_)⟩
  by_cases h9:k=9
  · subst h9
    show Calls _ _ _ _ (RetB (foV (some (false,some 0,none))) W)
    go_enter Tryz.func129,Tryz.ntmps129
    go_wp2
    exact bodyPost_ret (v:=foV (some (false,some 0,none))) (by simp [results,Tryz.results129,go_sem,foV,fmV,cnI]) rfl ⟨rfl,by repeat (first | exact Below.refl _ _ | refine bl_al ?_ _ | refine bl_dr ?_)⟩
  have hz:formZ k=none:=by
    unfold formZ
    rw [if_neg h1,if_neg h2,if_neg h3,if_neg h4,if_neg (by omega),if_neg (by omega),if_neg h9]
  rw [hz]
  have e1:(k == 1)=false:=by simpa using h1
  have e2:(k == 2)=false:=by simpa using h2
  have e3:(k == 3)=false:=by simpa using h3
  have e4:(k == 4)=false:=by simpa using h4
  have e5:(k == 5)=false:=by simpa using h5
  have e6:(k == 6)=false:=by simpa using h6
  have e7:(k == 7)=false:=by simpa using h7
  have e8:(k == 8)=false:=by simpa using h8
  have e9:(k == 9)=false:=by simpa using h9
  clear h1 h2 h3 h4 h5 h6 h7 h8 h9 hz
  go_enter Tryz.func129,Tryz.ntmps129
  go_wp2
  exact bodyPost_ret (v:=foV none) (by simp [results,Tryz.results129,go_sem,foV]) rfl ⟨rfl,by repeat (first | exact Below.refl _ _ | refine bl_al ?_ _ | refine bl_dr ?_)⟩
theorem isCount_p (n:Nat) (x:Option Nat) (W:World):Calls Tryz.prog 156 #[.int .i64 (n:Int),.int .i64 (cnI x)] W fun e w'=>e=.returned (.bool (isC n x))∧W=w':=by
  cases x with
  | none =>
    show Calls Tryz.prog 156 #[.int .i64 (n:Int),.int .i64 (-1)] W _
    go_enter Tryz.func156,Tryz.ntmps156
    go_wp2
    go_ret
    exact ⟨rfl,rfl⟩
  | some m =>
    show Calls Tryz.prog 156 #[.int .i64 (n:Int),.int .i64 (m:Int)] W _
    have h1:((m:Int) == -1)=false:=by rw [beq_eq_false_iff_ne];omega
    go_enter Tryz.func156,Tryz.ntmps156
    go_wp2
    go_ret
    exact ⟨ret_bool (by rw [Bool.eq_iff_iff];first | (simp [isC];done) | (simp [isC];omega)),rfl⟩
def stV (x:StZ) (qt:Option Addr) (ct:Nat) (qe:Option Addr) (ce:Nat):Value:=.agg #[.int .i64 x.kind,.string x.name,.slice qt x.targets.length ct,.slice qe x.exprs.length ce]
set_option maxRecDepth 100000 in
set_option maxHeartbeats 2000000 in
theorem matches_p (x:StZ) (qt:Option Addr) (ct:Nat) (qe:Option Addr) (ce:Nat) (nd:Bool) (tg ex:Option Nat) (W:World) :
    Calls Tryz.prog 130 #[fmV (nd,tg,ex),stV x qt ct qe ce] W (RetB (.bool ((if nd then nameZ x.name else x.name.toList.isEmpty) && isC x.targets.length tg && isC x.exprs.length ex)) W):=by
  obtain ⟨kd,nm,ts,es⟩:=x
  unfold fmV stV
  simp only
  have HT:=Lib.hid (fun W=>isCount_p ts.length tg W)
  have HE:=Lib.hid (fun W=>isCount_p es.length ex W)
  have HN:=Lib.hid (fun W=>name_p nm W)
  generalize ts.length=nt at *
  generalize es.length=ne at *
  generalize isC nt tg=b1 at *
  generalize isC ne ex=b2 at *
  generalize cnI tg=z1 at *
  generalize cnI ex=z2 at *
  generalize nameZ nm=b3 at *
  cases nd
  · rw [if_neg (by decide)]
    cases hs:nm.toList.isEmpty
    · go_enter Tryz.func130,Tryz.ntmps130
      go_wp2
      go_ret
      exact ⟨rfl,by repeat (first | exact Below.refl _ _ | refine bl_al ?_ _ | refine bl_dr ?_)⟩
    · go_enter Tryz.func130,Tryz.ntmps130
      go_wp2_with fail
      go_at_call 156
      refine (HT.out _).mono ?_
      rintro e w1 ⟨rfl,rfl⟩
      cases b1
      · go_wp2
        go_ret
        exact ⟨rfl,by repeat (first | exact Below.refl _ _ | refine bl_al ?_ _ | refine bl_dr ?_)⟩
      · go_wp2_with fail
        go_at_call 156
        refine (HE.out _).mono ?_
        rintro e w1 ⟨rfl,rfl⟩
        go_wp2
        go_ret
        exact ⟨rfl,by repeat (first | exact Below.refl _ _ | refine bl_al ?_ _ | refine bl_dr ?_)⟩
  · rw [if_pos rfl]
    cases b3
    · go_enter Tryz.func130,Tryz.ntmps130
      go_wp2_with (go_at_call 121;refine (HN.out _).mono ?_;rintro e w1 ⟨rfl,rfl⟩)
      go_ret
      exact ⟨rfl,by repeat (first | exact Below.refl _ _ | refine bl_al ?_ _ | refine bl_dr ?_)⟩
    · go_enter Tryz.func130,Tryz.ntmps130
      go_wp2_with fail
      go_at_call 121
      refine (HN.out _).mono ?_
      rintro e w1 ⟨rfl,rfl⟩
      go_wp2_with fail
      go_at_call 156
      refine (HT.out _).mono ?_
      rintro e w1 ⟨rfl,rfl⟩
      cases b1
      · go_wp2
        go_ret
        exact ⟨rfl,by repeat (first | exact Below.refl _ _ | refine bl_al ?_ _ | refine bl_dr ?_)⟩
      · go_wp2_with fail
        go_at_call 156
        refine (HE.out _).mono ?_
        rintro e w1 ⟨rfl,rfl⟩
        go_wp2
        go_ret
        exact ⟨rfl,by repeat (first | exact Below.refl _ _ | refine bl_al ?_ _ | refine bl_dr ?_)⟩
theorem fitZ_none {x:StZ} (h:formZ x.kind=none):fitZ x=false:=by unfold fitZ;rw [h]
theorem fitZ_some {x:StZ} {nd:Bool} {tg ex:Option Nat} (h:formZ x.kind=some (nd,tg,ex)):fitZ x=((((if nd then nameZ x.name else x.name.toList.isEmpty) && isC x.targets.length tg && isC x.exprs.length ex) && x.targets.all nameZ) && x.exprs.all fun e=>whF e 0):=by unfold fitZ;rw [h]
set_option maxRecDepth 100000 in
set_option maxHeartbeats 4000000 in
theorem fits_p {lt:Bool} {C:Cl} (x:StZ) {qt:Option Addr} {ct:Nat} {qe:Option Addr} {ce:Nat} (ht:StrR lt C (.slice qt x.targets.length ct) x.targets) (he:ExsR lt C (.slice qe x.exprs.length ce) x.exprs) (hC:CLe C (wC W)) :
    Calls Tryz.prog 89 #[stV x qt ct qe ce] W (RetB (.bool (fitZ x)) W):=by
  have eN:Ent 121:=ent_of Tryz.func121 (by kernel_rfl) rfl
  have eW:Ent 132:=ent_of Tryz.func132 (by kernel_rfl) rfl
  have hlt:=slx_len ht
  have hle:=slx_len he
  have HF:=Lib.hid (fun W=>formOf_p x.kind W)
  have HM:=Lib.hid (fun nd tg ex W=>matches_p x qt ct qe ce nd tg ex W)
  have HT:=Lib.hid (fun (w:World) (hb:Below W.heap.size W w)=>allSr_p (W:=w) (c:=ct) (by omega) ht.cells (hC.trans (below_cle hb)) eN (ca:=#[]) nameZ (fun k hk w' _=>(name_p _ w').mono (fun _ _ h=>RetB.of_eq h)))
  have HE:=Lib.hid (fun (w:World) (hb:Below W.heap.size W w)=>allEx_p (W:=w) (c:=ce) (by omega) he.cells (hC.trans (below_cle hb)) eW (ca:=#[]) (fun e=>whF e 0) (fun k hk qe ce hx w' hb'=>whole_p _ (by have:=slx_len hx;omega) hx.cells ((hC.trans (below_cle hb)).trans (below_cle hb'))))
  have HZ0:=Lib.hid (fun h=>fitZ_none (x:=x) h)
  have HZ1:=Lib.hid (fun nd tg ex h=>fitZ_some (x:=x) (nd:=nd) (tg:=tg) (ex:=ex) h)
  clear ht he hC hlt hle eN eW
  unfold stV at HM ⊢
  obtain ⟨kd,nm,ts,es⟩:=x
  simp only at HF HM HT HE HZ0 HZ1 ⊢
  generalize ts.length=nt at *
  generalize es.length=ne at *
  generalize ts.all nameZ=b1 at *
  generalize (es.all fun e=>whF e 0)=b2 at *
  cases hf:formZ kd with
  | none =>
    have HZ2:=Lib.hid (HZ0.out hf)
    rw [hf] at HF
    clear hf HZ0 HZ1
    go_enter Tryz.func89,Tryz.ntmps89
    go_wp2_with fail
    go_at_call 129
    refine (HF.out _).mono ?_
    rintro e w1 ⟨rfl,hb1⟩
    have HB:=Lib.hid (bl_tr (bl_al (Below.refl W.heap.size W) _) hb1)
    clear hb1
    unfold foV
    go_wp2
    go_ret
    exact ⟨ret_bool HZ2.out.symm,by repeat (first | exact HB.out | refine bl_al ?_ _ | refine bl_dr ?_)⟩
  | some z =>
    obtain ⟨nd,tg,ex⟩:=z
    have HZ2:=Lib.hid (HZ1.out nd tg ex hf)
    rw [hf] at HF
    clear hf HZ0 HZ1
    have HM2:=Lib.hid (fun W=>HM.out nd tg ex W)
    try simp only at HZ2 HM2
    generalize ((if nd=true then nameZ nm else nm.toList.isEmpty) && isC nt tg && isC ne ex)=b0 at *
    simp only [foV,fmV] at HF
    simp only [fmV] at HM2
    generalize cnI tg=z1 at *
    generalize cnI ex=z2 at *
    clear HM
    go_enter Tryz.func89,Tryz.ntmps89
    go_wp2_with fail
    go_at_call 129
    refine (HF.out _).mono ?_
    rintro e w1 ⟨rfl,hb1⟩
    obtain ⟨bx,hbx⟩:∃ bx,W.heap.size=bx:=⟨_,rfl⟩
    have hrow0:(W.alloc (.cells #[.int .i64 kd,.string nm,.slice qt nt ct,.slice qe ne ce] 47)).heap[bx]?=some (.cells #[.int .i64 kd,.string nm,.slice qt nt ct,.slice qe ne ce] 47 (0,0)):=by rw [← hbx];exact World.alloc_heap_new _ _
    have HSZ:=Lib.hid (show bx<(W.alloc (.cells #[.int .i64 kd,.string nm,.slice qt nt ct,.slice qe ne ce] 47)).heap.size by simp [hbx])
    have hr1:=(hb1.block bx HSZ.out).trans hrow0
    have HR1:=Lib.hid hr1
    have HS1:=Lib.hid (Nat.lt_of_lt_of_le HSZ.out hb1.size)
    have HB:=Lib.hid (bl_tr (bl_al (Below.refl W.heap.size W) _) hb1)
    have g0:=cell_of (j:=0) hr1 rfl
    have g1:=cell_of (j:=1) hr1 rfl
    have g2:=cell_of (j:=2) hr1 rfl
    have g3:=cell_of (j:=3) hr1 rfl
    have HBX:=Lib.hid hbx
    clear hb1 hrow0 hr1 HSZ
    try rw [HBX.out]
    have hs1:=HS1.out
    go_wp2_with fail
    clear hs1
    generalize hw2:w1.alloc (.cells #[.bool nd,.int .i64 z1,.int .i64 z2] 174)=w2 at *
    have HB2:=Lib.hid (show Below W.heap.size W w2 by rw [← hw2];exact bl_al HB.out _)
    have HR2:=Lib.hid (show w2.heap[bx]?=some (.cells #[.int .i64 kd,.string nm,.slice qt nt ct,.slice qe ne ce] 47 (0,0)) by rw [← hw2];exact heap_new _ _ HR1.out)
    have HS2:=Lib.hid (heap_lt HR2.out)
    go_at_call 130
    refine (HM2.out _).mono ?_
    rintro e w3 ⟨rfl,hb3⟩
    have HB3:=Lib.hid (bl_tr HB2.out hb3)
    have HR3:=Lib.hid ((hb3.block bx HS2.out).trans HR2.out)
    clear hb3 hw2
    cases b0
    · go_wp2
      go_ret
      exact ⟨ret_bool (by rw [HZ2.out];rfl),HB3.out⟩
    · have k0:=cell_of (j:=0) HR3.out rfl
      have k1:=cell_of (j:=1) HR3.out rfl
      have k2:=cell_of (j:=2) HR3.out rfl
      have k3:=cell_of (j:=3) HR3.out rfl
      have HS3:=Lib.hid (heap_lt HR3.out)
      clear g0 g1 g2 g3
      go_wp2_with fail
      go_at_call 131
      refine (HT.out _ HB3.out).mono ?_
      rintro e w4 ⟨rfl,hb4⟩
      have HB4:=Lib.hid (bl_tr HB3.out hb4)
      have HR4:=Lib.hid ((hb4.block bx HS3.out).trans HR3.out)
      clear hb4 k0 k1 k2 k3
      cases b1
      · go_wp2
        go_ret
        exact ⟨ret_bool (by rw [HZ2.out];rfl),HB4.out⟩
      · have k0:=cell_of (j:=0) HR4.out rfl
        have k1:=cell_of (j:=1) HR4.out rfl
        have k2:=cell_of (j:=2) HR4.out rfl
        have k3:=cell_of (j:=3) HR4.out rfl
        go_wp2_with fail
        go_at_call 92
        refine (HE.out _ HB4.out).mono ?_
        rintro e w5 ⟨rfl,hb5⟩
        have HB5:=Lib.hid (bl_tr HB4.out hb5)
        clear hb5 k0 k1 k2 k3
        go_wp2
        go_ret
        exact ⟨ret_bool (by rw [HZ2.out];simp),HB5.out⟩
end
end Go.Proofs.YtlpdjfimefjmcaaGreatDoor
namespace Go.Proofs.YtlpdjfimefjmcaaGreatDoor
open Go Go.RowKit Go.Proofs.Mm
def fdA (d:FnZ) (qp:Option Addr) (cp:Nat) (qr:Option Addr) (cr:Nat) (qv:Option Addr) (cv:Nat) (qb:Option Addr) (cb:Nat):Array Value:=#[.string d.name,.int .u64 (d.level:Nat),.slice qp d.params.length cp,.slice qr d.results.length cr,.slice qv d.vars.length cv,.slice qb d.body.length cb]
def stA (x:StZ) (qt:Option Addr) (ct:Nat) (qe:Option Addr) (ce:Nat):Array Value:=#[.int .i64 x.kind,.string x.name,.slice qt x.targets.length ct,.slice qe x.exprs.length ce]
theorem Makes.mk {v:Value} {W w':World} {K:Nat} {ca:Array Value} (hb:Below W.heap.size W w') (ek:Ent K) (h:∀ w,Below w'.heap.size w' w→Calls Tryz.prog K ca w (RetB v w)):Makes v W (.returned (.func (.func K) #[] ca)) w' :=
  ⟨_,rfl,hb,K,ca,rfl,ek,h⟩
section
variable {lt:Bool} {C:Cl} {W:World} {qp:Option Addr} {cp:Nat} {qr:Option Addr} {cr:Nat} {qv:Option Addr} {cv:Nat} {qb:Option Addr} {cb:Nat} {qt:Option Addr} {ct:Nat} {qe:Option Addr} {ce:Nat}
set_option maxRecDepth 100000 in
set_option maxHeartbeats 4000000 in
theorem sizesC_p (d:FnZ) (b:Nat) (h0:InB W b (fdA d qp cp qr cr qv cv qb cb) 43) :
    Calls Tryz.prog 77 #[.pointer (some ⟨b,0,none⟩)] W (RetB (.int .i64 ((unl (decide (d.params.length≤8) && decide (d.results.length≤4) && decide (d.vars.length≤32) && decide (d.body.length≤256)) 74:Nat):Int)) W):=by
  obtain ⟨nm,lv,ps,rs,vs,bs⟩:=d
  have x0:=h0.cell (j:=0) (v:=.string nm) rfl
  have x1:=h0.cell (j:=1) (v:=.int .u64 (lv:Nat)) rfl
  have x2:=h0.cell (j:=2) (v:=.slice qp ps.length cp) rfl
  have x3:=h0.cell (j:=3) (v:=.slice qr rs.length cr) rfl
  have x4:=h0.cell (j:=4) (v:=.slice qv vs.length cv) rfl
  have x5:=h0.cell (j:=5) (v:=.slice qb bs.length cb) rfl
  have hlt:=h0.lt
  clear h0
  simp only
  generalize ps.length=n1 at *
  generalize rs.length=n2 at *
  generalize vs.length=n3 at *
  generalize bs.length=n4 at *
  have HU:=unless_p
  by_cases h1:n1≤8
  · have i1:(n1:Int)≤8:=by omega
    by_cases h2:n2≤4
    · have i2:(n2:Int)≤4:=by omega
      by_cases h3:n3≤32
      · have i3:(n3:Int)≤32:=by omega
        by_cases h4:n4≤256
        · have i4:(n4:Int)≤256:=by omega
          simp only [decide_eq_true h1,decide_eq_true h2,decide_eq_true h3,decide_eq_true h4,Bool.true_and]
          go_enter Tryz.func77,Tryz.ntmps77
          go_wp2_with (go_at_call 78;refine (HU _ _ _).mono ?_;rintro e w2 ⟨rfl,rfl⟩)
          go_ret
          exact ⟨rfl,Below.refl _ _⟩
        · have i4:¬ (n4:Int)≤256:=by omega
          simp only [decide_eq_true h1,decide_eq_true h2,decide_eq_true h3,decide_eq_false h4,Bool.true_and]
          go_enter Tryz.func77,Tryz.ntmps77
          go_wp2_with (go_at_call 78;refine (HU _ _ _).mono ?_;rintro e w2 ⟨rfl,rfl⟩)
          go_ret
          exact ⟨rfl,Below.refl _ _⟩
      · have i3:¬ (n3:Int)≤32:=by omega
        simp only [decide_eq_true h1,decide_eq_true h2,decide_eq_false h3,Bool.true_and,Bool.false_and]
        go_enter Tryz.func77,Tryz.ntmps77
        go_wp2_with (go_at_call 78;refine (HU _ _ _).mono ?_;rintro e w2 ⟨rfl,rfl⟩)
        go_ret
        exact ⟨rfl,Below.refl _ _⟩
    · have i2:¬ (n2:Int)≤4:=by omega
      simp only [decide_eq_true h1,decide_eq_false h2,Bool.true_and,Bool.false_and]
      go_enter Tryz.func77,Tryz.ntmps77
      go_wp2_with (go_at_call 78;refine (HU _ _ _).mono ?_;rintro e w2 ⟨rfl,rfl⟩)
      go_ret
      exact ⟨rfl,Below.refl _ _⟩
  · have i1:¬ (n1:Int)≤8:=by omega
    simp only [decide_eq_false h1,Bool.false_and]
    go_enter Tryz.func77,Tryz.ntmps77
    go_wp2_with (go_at_call 78;refine (HU _ _ _).mono ?_;rintro e w2 ⟨rfl,rfl⟩)
    go_ret
    exact ⟨rfl,Below.refl _ _⟩
set_option maxRecDepth 100000 in
theorem sizes_p (d:FnZ):Calls Tryz.prog 38 #[.agg (fdA d qp cp qr cr qv cv qb cb)] W (Makes (.int .i64 ((unl (decide (d.params.length≤8) && decide (d.results.length≤4) && decide (d.vars.length≤32) && decide (d.body.length≤256)) 74:Nat):Int)) W):=by
  have hmf:∀ (fn:Fn) (first cap:Array Value) (w:World),(Instr.makeFunc fn first cap).run Tryz.prog w=.ok (.func fn first cap) w:=fun _ _ _ _=>rfl
  have ek:Ent 77:=ent_of Tryz.func77 (by kernel_rfl) rfl
  have HI:=Lib.hid (InB.new W (fdA d qp cp qr cr qv cv qb cb) 43)
  have HM:=Lib.hid (fun (w':World) (h:InB w' W.heap.size (fdA d qp cp qr cr qv cv qb cb) 43) w hb=>sizesC_p (W:=w) d W.heap.size (h.le hb))
  generalize unl _ 74=E at *
  unfold fdA at HI HM ⊢
  go_enter Tryz.func38,Tryz.ntmps38
  go_wp2
  go_ret
  exact Makes.mk (bl_al (Below.refl _ _) _) ek (fun w hb=>HM.out _ HI.out w hb)
set_option maxRecDepth 100000 in
theorem grammarC_p (x:StZ) (b:Nat) (h0:InB W b (stA x qt ct qe ce) 47) (ht:StrR lt C (.slice qt x.targets.length ct) x.targets) (he:ExsR lt C (.slice qe x.exprs.length ce) x.exprs) (hC:CLe C (wC W)) :
    Calls Tryz.prog 88 #[.pointer (some ⟨b,0,none⟩)] W (RetB (.int .i64 ((unl (fitZ x) 50:Nat):Int)) W):=by
  have HF:=Lib.hid (fits_p x ht he hC)
  have x0:=h0.cell (j:=0) (v:=.int .i64 x.kind) rfl
  have x1:=h0.cell (j:=1) (v:=.string x.name) rfl
  have x2:=h0.cell (j:=2) (v:=.slice qt x.targets.length ct) rfl
  have x3:=h0.cell (j:=3) (v:=.slice qe x.exprs.length ce) rfl
  clear h0 ht he hC
  unfold stV at HF
  generalize fitZ x=r at *
  generalize x.kind=kd at *
  generalize x.name=nm at *
  generalize x.targets.length=nt at *
  generalize x.exprs.length=ne at *
  cases r
  all_goals
    go_enter Tryz.func88,Tryz.ntmps88
    go_wp2_with fail
    go_at_call 89
    refine HF.out.mono ?_
    rintro e w1 ⟨rfl,hb⟩
    go_wp2_with (go_at_call 78;refine (unless_p _ _ _).mono ?_;rintro e w2 ⟨rfl,rfl⟩)
    go_ret
    exact ⟨rfl,hb⟩
set_option maxRecDepth 100000 in
theorem grammar_p (x:StZ) (ht:StrR lt C (.slice qt x.targets.length ct) x.targets) (he:ExsR lt C (.slice qe x.exprs.length ce) x.exprs) (hC:CLe C (wC W)) :
    Calls Tryz.prog 42 #[.agg (stA x qt ct qe ce)] W (Makes (.int .i64 ((unl (fitZ x) 50:Nat):Int)) W):=by
  have hmf:∀ (fn:Fn) (first cap:Array Value) (w:World),(Instr.makeFunc fn first cap).run Tryz.prog w=.ok (.func fn first cap) w:=fun _ _ _ _=>rfl
  have ek:Ent 88:=ent_of Tryz.func88 (by kernel_rfl) rfl
  have HI:=Lib.hid (InB.new W (stA x qt ct qe ce) 47)
  have HM:=Lib.hid (fun (w':World) (hW:Below W.heap.size W w') (h:InB w' W.heap.size (stA x qt ct qe ce) 47) w hb=>grammarC_p (W:=w) x W.heap.size (h.le hb) ht he (hC.trans (below_cle (bl_tr hW hb))))
  generalize unl _ 50=E at *
  unfold stA at HI HM ⊢
  clear ht he hC
  go_enter Tryz.func42,Tryz.ntmps42
  go_wp2
  go_ret
  exact Makes.mk (bl_al (Below.refl _ _) _) ek (fun w hb=>HM.out _ (bl_al (Below.refl _ _) _) HI.out w hb)
set_option maxRecDepth 100000 in
theorem short_p (n c:Nat) (q:Option Addr) (W:World):Calls Tryz.prog 90 #[.slice q n c] W (RetB (.bool (decide (n≤48))) W):=by
  by_cases h:n≤48
  · have i1:(n:Int)≤48:=by omega
    rw [decide_eq_true h]
    go_enter Tryz.func90,Tryz.ntmps90
    go_wp2
    go_ret
    exact ⟨rfl,Below.refl _ _⟩
  · have i1:¬ (n:Int)≤48:=by omega
    rw [decide_eq_false h]
    go_enter Tryz.func90,Tryz.ntmps90
    go_wp2
    go_ret
    exact ⟨rfl,Below.refl _ _⟩
def bulkE (x:StZ):Nat:=unl (decide (x.exprs.length≤8) && x.exprs.all fun l=>decide (l.length≤48)) 74
set_option maxRecDepth 100000 in
set_option maxHeartbeats 1000000 in
theorem bulkC_p (x:StZ) (b b1:Nat) (h0:InB W b (stA x qt ct qe ce) 47) (h1:W.cell? ⟨b1,0,none⟩=some (.func (.func 90) #[] #[])) (he:ExsR lt C (.slice qe x.exprs.length ce) x.exprs) (hC:CLe C (wC W)) :
    Calls Tryz.prog 91 #[.pointer (some ⟨b,0,none⟩),.pointer (some ⟨b1,0,none⟩)] W (RetB (.int .i64 ((bulkE x:Nat):Int)) W):=by
  have ek:Ent 90:=ent_of Tryz.func90 (by kernel_rfl) rfl
  have hle:=slx_len he
  have HA:=Lib.hid (allEx_p (c:=ce) (by omega) he.cells hC ek (ca:=#[]) (fun l=>decide (l.length≤48)) (fun k hk qe ce _ w' _=>short_p _ _ _ w'))
  have HB:=Lib.hid (show bulkE x=unl (decide (x.exprs.length≤8) && x.exprs.all fun l=>decide (l.length≤48)) 74 from rfl)
  have x3:=h0.cell (j:=3) (v:=.slice qe x.exprs.length ce) rfl
  have hlt:=h0.lt
  clear h0 he hC hle ek
  generalize bulkE x=E at *
  generalize (x.exprs.all fun l=>decide (l.length≤48))=r at *
  generalize x.exprs.length=ne at *
  by_cases h8:ne≤8
  · have i1:(ne:Int)≤8:=by omega
    have HB2:=Lib.hid (show E=unl r 74 by rw [HB.out,decide_eq_true h8,Bool.true_and])
    cases r
    all_goals
      go_enter Tryz.func91,Tryz.ntmps91
      go_wp2_with fail
      go_at_call 92
      refine HA.out.mono ?_
      rintro e w1 ⟨rfl,hb⟩
      go_wp2_with (go_at_call 78;refine (unless_p _ _ _).mono ?_;rintro e w2 ⟨rfl,rfl⟩)
      go_ret
      exact ⟨by rw [HB2.out];rfl,hb⟩
  · have i1:¬ (ne:Int)≤8:=by omega
    have HB2:=Lib.hid (show E=74 by rw [HB.out,decide_eq_false h8,Bool.false_and];rfl)
    go_enter Tryz.func91,Tryz.ntmps91
    go_wp2_with (go_at_call 78;refine (unless_p _ _ _).mono ?_;rintro e w2 ⟨rfl,rfl⟩)
    go_ret
    exact ⟨by rw [HB2.out];rfl,Below.refl _ _⟩
set_option maxRecDepth 100000 in
theorem bulk_p (x:StZ) (he:ExsR lt C (.slice qe x.exprs.length ce) x.exprs) (hC:CLe C (wC W)) :
    Calls Tryz.prog 43 #[.agg (stA x qt ct qe ce)] W (Makes (.int .i64 ((bulkE x:Nat):Int)) W):=by
  have hmf:∀ (fn:Fn) (first cap:Array Value) (w:World),(Instr.makeFunc fn first cap).run Tryz.prog w=.ok (.func fn first cap) w:=fun _ _ _ _=>rfl
  have ek:Ent 91:=ent_of Tryz.func91 (by kernel_rfl) rfl
  have HM:=Lib.hid (fun (w':World) (b1:Nat) (hW:Below W.heap.size W w') (h:InB w' W.heap.size (stA x qt ct qe ce) 47) (h1:w'.cell? ⟨b1,0,none⟩=some (.func (.func 90) #[] #[])) w hb=>bulkC_p (W:=w) x W.heap.size b1 (h.le hb) (cell_b h1 hb) he (hC.trans (below_cle (bl_tr hW hb))))
  generalize bulkE x=E at *
  unfold stA at HM ⊢
  clear he hC
  go_enter Tryz.func43,Tryz.ntmps43
  go_wp2
  go_ret
  refine Makes.mk (bl_al (bl_al (Below.refl _ _) _) _) ek (fun w hb=>HM.out _ _ (bl_al (bl_al (Below.refl _ _) _) _) ?_ ?_ w hb)
  · exact (InB.new _ _ _).le (bl_al (Below.refl _ _) _)
  · exact new_cell' _ _ (by simp)
end
end Go.Proofs.YtlpdjfimefjmcaaGreatDoor
namespace Go.Proofs.YtlpdjfimefjmcaaGreatDoor
open Go Go.RowKit Go.Proofs.Mm
def usC (u:ByteArray × Nat):List Value:=[.string u.1,.int .i64 (u.2:Int)]
def usCs (l:List (ByteArray × Nat)):List Value:=l.flatMap usC
theorem usCs_len (l:List (ByteArray × Nat)):(usCs l).length=l.length * 2:=by
  induction l with
  | nil=>rfl
  | cons x l ih=>unfold usCs at ih ⊢;rw [List.flatMap_cons,List.length_append,ih,List.length_cons];simp [usC];omega
theorem usCs_app (l m:List (ByteArray × Nat)):usCs (l++m)=usCs l++usCs m:=List.flatMap_append
theorem usCs_one (u:ByteArray × Nat):usCs [u]=usC u:=by simp [usCs]
theorem usCs_cells (l:List (ByteArray × Nat)):∀ v ∈ usCs l,v.oneCell'=true:=by
  intro v hv
  obtain ⟨u,_,h⟩:=List.mem_flatMap.1 hv
  simp only [usC,List.mem_cons,List.not_mem_nil,or_false] at h
  rcases h with rfl | rfl <;> rfl
theorem und_uses:Tryz.prog.underlying 133=some (.slice 136):=by kernel_rfl
theorem infoUs:∃ i,Tryz.prog.info? 136=some i∧i.zero=some (.agg #[.string ⟨#[]⟩,.int .i64 0])∧i.size=2∧i.bytes=24:=by
  have h:(Tryz.prog.info? 136).map (fun i=>(i.zero,i.size,i.bytes))=some (some (.agg #[.string ⟨#[]⟩,.int .i64 0]),2,24):=by kernel_rfl
  cases hi:Tryz.prog.info? 136 with
  | none=>rw [hi] at h;cases h
  | some i =>
    rw [hi] at h
    simp only [Option.map_some,Option.some.injEq,Prod.mk.injEq] at h
    exact ⟨i,rfl,h.1,h.2.1,h.2.2⟩
def UsO (B:Nat) (w:World) (v:Value) (l:List (ByteArray × Nat)):Prop:=w.ownsRow B 136 2 v l.length (usCs l)
section
variable {lt:Bool} {C:Cl} {W:World} {q:Option Addr} {c:Nat}
set_option maxRecDepth 100000 in
set_option maxHeartbeats 4000000 in
theorem usesIn_p (l:List TmZ) (hl:l.length≤4398046511104) (hrow:TmAt C q l) (hC:CLe C (wC W)) :
    Calls Tryz.prog 135 #[.slice q l.length c] W fun e w'=>∃ v,e=.returned v∧Below W.heap.size W w'∧UsO W.heap.size w' v (usesT l):=by
  obtain ⟨i2,h2,h3,h4,h5⟩:=infoUs
  have HA:=Lib.hid hrow
  have HCC:=Lib.hid hC
  obtain ⟨n,hn⟩:∃ n,l.length=n:=⟨_,rfl⟩
  have HN:=Lib.hid hn
  rw [hn] at hl ⊢
  clear hrow hC hn
  go_enter Tryz.func135,Tryz.ntmps135
  go_wp2
  go_loopw [3,8] (fun v i wr=>∃ k:Nat,∃ qv:Option Addr,∃ m cv:Nat,k≤n∧i=.int .i64 k∧v=.slice qv m cv∧m≤k∧m=(usesT (l.take k)).length∧Hid (Below W.heap.size W wr)∧Hid (wr.ownsRow W.heap.size 136 2 (.slice qv m cv) m (usCs (usesT (l.take k))))) (fun _ i _=>n - (intOf i).toNat)
  case atStart=>exact ⟨0,none,0,0,Nat.zero_le _,rfl,rfl,Nat.le_refl _,rfl,Lib.hid (Below.refl _ _),Lib.hid (World.ownsRow_nil _ _ _ _)⟩
  case round =>
    obtain ⟨k,qv,m,cv,hk,rfl,rfl,hmk,hml,HB,HO⟩:=hrel
    have hsz:=HB.out.size
    by_cases hlt:k<n
    · have hk1:k<l.length:=by rw [HN.out];exact hlt
      obtain ⟨g,o,rfl,a0,a1,a2⟩:=HA.out k hk1
      have e0:=below_cle HB.out _ _ (HCC.out _ _ a0)
      have e1:=below_cle HB.out _ _ (HCC.out _ _ a1)
      have e2:=below_cle HB.out _ _ (HCC.out _ _ a2)
      unfold wC at e0 e1 e2
      have HTK:=Lib.hid (show usesT (l.take (k+1))=usesT (l.take k)++(if l[k].kind=2 then [(l[k].name,2)] else if l[k].kind=3 then [(l[k].name,3)] else []) by
        rw [List.take_succ_eq_append_getElem hk1];unfold usesT;rw [List.flatMap_append];simp)
      have HML:=Lib.hid hml
      clear a0 a1 a2 hml
      generalize l[k]=x at *
      obtain ⟨kd,vl,nm⟩:=x
      simp only at e0 e1 e2
      have hki:(k:Int)<(n:Int):=by omega
      have hg:g<wr.heap.size:=cell_lt e0
      have HKK:=Lib.hid hmk
      clear hk1
      by_cases hk2:kd=2
      · subst hk2
        have HTK2:=Lib.hid (show usCs (usesT (l.take (k+1)))=usCs (usesT (l.take k))++usC (nm,2) by rw [HTK.out,if_pos rfl,usCs_app,usCs_one])
        have HLN:=Lib.hid (show m+1=(usesT (l.take (k+1))).length by rw [HTK.out,if_pos rfl,List.length_append,← HML.out];rfl)
        have hrow1:=(HO.out.alloc (.cells #[.int .i64 2,.int .i64 vl,.string nm] 140)).alloc (.cells (usC (nm,2)).toArray 136)
        have hone:∀ u ∈ usC (nm,2),u.oneCell'=true:=fun u hu=>usCs_cells [(nm,2)] u (by rw [usCs_one];exact hu)
        have hnew:=row_new (wr.alloc (.cells #[.int .i64 2,.int .i64 vl,.string nm] 140)) (usC (nm,2)) 136
        rw [World.size_alloc] at hnew
        have HB1:=Lib.hid (bl_al (bl_al HB.out (.cells #[.int .i64 2,.int .i64 vl,.string nm] 140)) (.cells (usC (nm,2)).toArray 136))
        go_wp2_with (at_builtin;refine wpList_append_own _ rfl _ _ 133 rfl W.heap.size 136 i2 _ 2 24 und_uses h2 h3 h4 h5 rfl (by decide) _ m (usCs (usesT (l.take k))) rfl hrow1 ⟨wr.heap.size+1,0,none⟩ 1 1 (usC (nm,2)) rfl rfl hnew hone (by unfold maxLen;omega) (by omega) (by simp <;> omega) ?_)
        intro v2 w2 hR2 hg2 _
        obtain ⟨q2,c2,rfl⟩:=own_shape hR2
        have HB2:=Lib.hid (grown_below HB1.out HB1.out.size hg2 (fun j hj=>(hrow1.lt j hj).1))
        have HO2:=Lib.hid hR2
        clear hg2 hrow1 hnew hR2
        go_wp2
        exact ⟨⟨k+1,q2,m+1,c2,by omega,by go_num,rfl,by have:=HKK.out;omega,HLN.out,HB2,Lib.hid (by rw [HTK2.out];exact HO2.out)⟩,by simp [intOf];omega⟩
      by_cases hk3:kd=3
      · subst hk3
        have HTK2:=Lib.hid (show usCs (usesT (l.take (k+1)))=usCs (usesT (l.take k))++usC (nm,3) by rw [HTK.out,if_neg (show ¬ ((3:Int)=2) by decide),if_pos rfl,usCs_app,usCs_one])
        have HLN:=Lib.hid (show m+1=(usesT (l.take (k+1))).length by rw [HTK.out,if_neg (show ¬ ((3:Int)=2) by decide),if_pos rfl,List.length_append,← HML.out];rfl)
        have hrow1:=(HO.out.alloc (.cells #[.int .i64 3,.int .i64 vl,.string nm] 140)).alloc (.cells (usC (nm,3)).toArray 136)
        have hone:∀ u ∈ usC (nm,3),u.oneCell'=true:=fun u hu=>usCs_cells [(nm,3)] u (by rw [usCs_one];exact hu)
        have hnew:=row_new (wr.alloc (.cells #[.int .i64 3,.int .i64 vl,.string nm] 140)) (usC (nm,3)) 136
        rw [World.size_alloc] at hnew
        have HB1:=Lib.hid (bl_al (bl_al HB.out (.cells #[.int .i64 3,.int .i64 vl,.string nm] 140)) (.cells (usC (nm,3)).toArray 136))
        go_wp2_with (at_builtin;refine wpList_append_own _ rfl _ _ 133 rfl W.heap.size 136 i2 _ 2 24 und_uses h2 h3 h4 h5 rfl (by decide) _ m (usCs (usesT (l.take k))) rfl hrow1 ⟨wr.heap.size+1,0,none⟩ 1 1 (usC (nm,3)) rfl rfl hnew hone (by unfold maxLen;omega) (by omega) (by simp <;> omega) ?_)
        intro v2 w2 hR2 hg2 _
        obtain ⟨q2,c2,rfl⟩:=own_shape hR2
        have HB2:=Lib.hid (grown_below HB1.out HB1.out.size hg2 (fun j hj=>(hrow1.lt j hj).1))
        have HO2:=Lib.hid hR2
        clear hg2 hrow1 hnew hR2
        go_wp2
        exact ⟨⟨k+1,q2,m+1,c2,by omega,by go_num,rfl,by have:=HKK.out;omega,HLN.out,HB2,Lib.hid (by rw [HTK2.out];exact HO2.out)⟩,by simp [intOf];omega⟩
      have HTK2:=Lib.hid (show usesT (l.take (k+1))=usesT (l.take k) by rw [HTK.out,if_neg hk2,if_neg hk3,List.append_nil])
      have e5:(kd == 2)=false:=by rw [beq_eq_false_iff_ne];exact hk2
      have e6:(kd == 3)=false:=by rw [beq_eq_false_iff_ne];exact hk3
      have HB1:=Lib.hid (bl_al HB.out (.cells #[.int .i64 kd,.int .i64 vl,.string nm] 140))
      have HO1:=Lib.hid (HO.out.alloc (.cells #[.int .i64 kd,.int .i64 vl,.string nm] 140))
      clear hk2 hk3
      go_wp2
      exact ⟨⟨k+1,qv,m,cv,by omega,by go_num,rfl,by have:=HKK.out;omega,by rw [HTK2.out];exact HML.out,HB1,Lib.hid (by rw [HTK2.out];exact HO1.out)⟩,by simp [intOf];omega⟩
    · have hk':k=n:=by omega
      subst hk'
      have HL:=Lib.hid (show usesT (l.take k)=usesT l by rw [List.take_of_length_le (by rw [HN.out];exact Nat.le_refl _)])
      have HML:=Lib.hid hml
      clear hml
      go_wp2
      go_ret
      exact ⟨_,rfl,HB.out,by unfold UsO;rw [← HL.out,← HML.out];exact HO.out⟩
end
end Go.Proofs.YtlpdjfimefjmcaaGreatDoor
