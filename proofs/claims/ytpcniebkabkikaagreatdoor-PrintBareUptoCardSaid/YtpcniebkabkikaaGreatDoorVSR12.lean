/- Plain: the pieces of a text are short; bytes are bytes. Plain: the text of a label that can be read. Expr and Level of package print. each of package print, over whatever is to be called; at one type. (Written by a program.) list, lines of package print at one type, over whatever is to be called for an item. (Written by a program.) The lines of declarations. each of package print, over whatever is -/
import Derived.Test.YtpcniebkabkikaaGreatDoorVSR11
import Derived.Test.YtpcniebkabkikaaGreatDoorVSR2
import Derived.Test.YtpcniebkabkikaaGreatDoorVSR8
import Derived.Deep.QuietTactic
import Derived.Deep.RegionWith
import Derived.Deep.RegionHeldLaw
import Derived.Laws.BitsLemmas
import Derived.Test.YtpcniebkabkikaaGreatDoorVSR3
namespace Go.Proofs.YtpcniebkabkikaaGreatDoor
open Go
open Go.Proofs.Syn (K Ex Tm opLv opMark unMark opLv_le)
theorem bl_sb {l:List Nat} (h:∀ c ∈ l,c<256):bl (sb l)=l:=by
  unfold bl sb
  show (l.map UInt8.ofNat).map UInt8.toNat=l
  rw [List.map_map]
  refine (List.map_congr_left fun c hc=>?_).trans (List.map_id l)
  show (UInt8.ofNat c).toNat=c
  rw [UInt8.toNat_ofNat']
  have:=h c hc
  omega
theorem name_lt {c:Nat} (h:nameB c=true):c<256:=by
  unfold nameB letterB digitB at h
  simp only [Bool.or_eq_true,Bool.and_eq_true,decide_eq_true_eq,beq_iff_eq] at h
  omega
theorem pn_lt {s:List Nat} (h:PN s):∀ c ∈ s,c<256:=by
  have hw:=h.word
  cases s with
  | nil=>exact fun _ h=>absurd h (by simp)
  | cons x t =>
    by_cases hl:letterB x=true
    · rw [wordL,if_pos hl] at hw
      simp only at hw
      injection hw with h1 _
      have hall:(x :: t).takeWhile nameB=x :: t:=by
        have:=takeWhile_is_take (p:=nameB) (x :: t)
        rw [h1,List.take_length] at this
        exact this.symm
      exact fun c hc=>name_lt (mem_takeWhile (x :: t) c (by rw [hall];exact hc))
    · rw [wordL,if_neg hl] at hw
      split at hw
      · injection hw with _ h2;cases h2
      · split at hw
        · injection hw with _ h2;cases h2
        · split at hw
          · injection hw with _ h2;cases h2
          · injection hw with _ h2;cases h2
theorem dgN_lt (v:Nat):∀ c ∈ dgN v,c<256:=fun c hc=>by have:=digit_range ((dgN_all v v (Nat.le_refl _)).1 c hc);omega
theorem mark_lt:∀ o:Fin 18,(∀ c ∈ opMark o.val,c<256)∧∀ c ∈ unMark o.val,c<256:=by decide
theorem exText_lt:∀ (e:Ex) (lv:Nat),e.Wf→e.All PN (QN dgN)→∀ c ∈ exText dgN e lv,c<256
  | .num v,lv,_,h=>fun c hc=>dgN_lt v c (by simpa [exText] using hc)
  | .nm s,lv,_,h=>fun c hc=>pn_lt h c (by simpa [exText] using hc)
  | .idx s e,lv,hw,h=>fun c hc=>by
    have h2:=exText_lt e 0 hw h.2
    have h1:=pn_lt h.1
    simp only [exText,List.mem_append,List.mem_cons,List.not_mem_nil,or_false] at hc
    rcases hc with hc | hc | hc | hc
    · exact h1 c hc
    · omega
    · exact h2 c hc
    · omega
  | .un o e,lv,hw,h=>fun c hc=>by
    have h1:=(mark_lt ⟨o,by have:=hw.2.1;omega⟩).2
    have h2:=exText_lt e 6 hw.2.2 h
    simp only [exText,List.mem_append] at hc
    rcases hc with hc | hc
    · exact h1 c hc
    · exact h2 c hc
  | .bin o l r,lv,hw,h=>fun c hc=>by
    have h1:=(mark_lt ⟨o,by have:=hw.2.1;omega⟩).1
    have h2:=exText_lt l (opLv o) hw.2.2.1 h.1
    have h3:=exText_lt r (opLv o+1) hw.2.2.2 h.2
    rw [exText] at hc
    split at hc <;> simp only [List.mem_append,List.mem_cons,List.not_mem_nil,or_false] at hc
    · rcases hc with hc | (hc | hc | hc | hc | hc) | hc <;> first | omega | exact h1 c hc | exact h2 c hc | exact h3 c hc
    · rcases hc with hc | hc | hc | hc | hc <;> first | omega | exact h1 c hc | exact h2 c hc | exact h3 c hc
theorem exZ_lt {l:List TmZ} (hv:∀ t ∈ l,t.value≤9223372036854775807):∀ c ∈ exZ l,c<256:=by
  unfold exZ
  split
  · rename_i hw
    obtain ⟨e,⟨a,b⟩,_,d,_⟩:=whole_tree hw hv
    rw [d]
    exact exText_lt e 0 a b
  · exact fun _ h=>absurd h (by simp)
theorem runB_small:∀ (f:Nat) (row:List Pt) (rl:List Tm) (out Q:List (List Nat)),runB dgN f row rl out=some Q→(∀ p ∈ row,p.1.length≤1000)→(∀ t ∈ rl,∀ p ∈ ptsOf dgN t,p.1.length≤1000)→(∀ s ∈ out,s.length≤1000)→∀ s ∈ Q,s.length≤1000
  | 0,_,_,_,_,h,_,_,_=>by cases h
  | f+1,[],_,out,Q,h,_,_,ho=>by
    have h:some out=some Q:=h
    injection h with h;subst h;exact ho
  | f+1,p :: row,rl,out,Q,h,hr,ht,ho=>by
    have hr2:∀ p ∈ row,p.1.length≤1000:=fun x hx=>hr x (List.mem_cons_of_mem _ hx)
    by_cases hp:p.1=[]
    · cases rl with
      | nil =>
        have h0:runB dgN (f+1) (p :: row) [] out=none:=by
          show (if p.1 ≠ [] then _ else _)=_
          rw [if_neg (by simp [hp])]
        rw [h0] at h;cases h
      | cons t rl =>
        have h1:runB dgN f ((brT dgN p.2 t).reverse++row) rl out=some Q:=by
          rw [← h]
          show _=(if p.1 ≠ [] then _ else _)
          rw [if_neg (by simp [hp])]
        refine runB_small f _ rl out Q h1 (fun x hx=>?_) (fun t' h'=>ht t' (List.mem_cons_of_mem _ h')) ho
        rcases List.mem_append.1 hx with hx | hx
        · have hx:=List.mem_reverse.1 hx
          have hpt:=ht t (List.mem_cons_self ..)
          unfold brT at hx
          split at hx
          · exact hpt x hx
          · rcases List.mem_cons.1 hx with rfl | hx
            · simp
            · rcases List.mem_append.1 hx with hx | hx
              · exact hpt x hx
              · obtain rfl:=List.mem_singleton.1 hx
                simp
        · exact hr2 x hx
    · have h1:runB dgN f row rl (out++[p.1])=some Q:=by
        rw [← h]
        show _=(if p.1 ≠ [] then _ else _)
        rw [if_pos hp]
      refine runB_small f row rl _ Q h1 hr2 ht (fun s hs=>?_)
      rcases List.mem_append.1 hs with hs | hs
      · exact ho s hs
      · obtain rfl:=List.mem_singleton.1 hs
        exact hr p (List.mem_cons_self ..)
theorem pts_small {t:TmZ} (hr:rightZ t=true) (hv:t.value≤9223372036854775807):∀ p ∈ ptsOf dgN (tmN t),p.1.length≤1000:=by
  have ok:=tm_ok hr hv
  have hk:=right_k hr
  intro p hp
  unfold ptsOf at hp
  have hm:∀ n,n≤17→(opMark n).length≤1000∧(unMark n).length≤1000:=fun n hn=>by have:=mark_len ⟨n,by omega⟩;simp only at this;omega
  by_cases h1:(tmN t).kind=1
  · rw [if_pos h1] at hp
    obtain rfl:=List.mem_singleton.1 hp
    have:=dec_len0 20 (tmN t).value (by decide) (by have:(tmN t).value=t.value.toNat:=rfl;omega)
    show (dgN _).length≤1000
    omega
  rw [if_neg h1] at hp
  by_cases h2:(tmN t).kind=2
  · rw [if_pos h2] at hp
    obtain rfl:=List.mem_singleton.1 hp
    have:=(ok.two h2).1.name
    show (tmN t).name.length≤1000
    omega
  rw [if_neg h2] at hp
  by_cases h3:(tmN t).kind=3
  · rw [if_pos h3] at hp
    have:=(ok.three h3).1.name
    simp only [List.mem_cons,List.not_mem_nil,or_false] at hp
    rcases hp with rfl | rfl | rfl | rfl
    · show (tmN t).name.length≤1000;omega
    all_goals simp
  rw [if_neg h3] at hp
  by_cases h4:(tmN t).kind=4
  · rw [if_pos h4] at hp
    have:=(ok.four h4).2.1
    have hh:=hm (tmN t).value this
    simp only [List.mem_cons,List.not_mem_nil,or_false] at hp
    rcases hp with rfl | rfl
    · exact hh.2
    · simp
  rw [if_neg h4] at hp
  have h5:(tmN t).kind=5:=by have e:(tmN t).kind=t.kind.toNat:=rfl;omega
  have:=(ok.five h5).2.1
  have hh:=hm (tmN t).value (by omega)
  simp only [List.mem_cons,List.not_mem_nil,or_false] at hp
  rcases hp with rfl | rfl | rfl | rfl | rfl
  · simp
  · simp
  · exact hh.1
  · simp
  · simp
end Go.Proofs.YtpcniebkabkikaaGreatDoor
namespace Go.Proofs.YtpcniebkabkikaaGreatDoor
open Go
open Go.Proofs.Syn (K Ex Sx De Ar Fx mk4 nm1 lbNs)
end Go.Proofs.YtpcniebkabkikaaGreatDoor
namespace Go.Proofs.YtpcniebkabkikaaGreatDoor
open Go Go.RowKit Go.Proofs.Mm
open Go.Proofs.Syn (K Ex Tm opLv opMark unMark opLv_le)
section
variable {C:Cl} {W:World}
theorem textW_p (l:List TmZ) (hf:ExF l) (hw:wholeZ l=true) {q:Option Addr} {c:Nat} (hrow:TmRow C q l) (hc:c≤maxLen) (hlc:l.length≤c) (hr:CLe C (wC W)) (hE:EnvP W) :
    Calls Tryz.prog 44 #[.slice q l.length c] W fun e w'=>e=.returned (.string (sb (exZ l)))∧Below W.heap.size W w':=by
  have hv:∀ t ∈ l,t.value≤9223372036854775807:=fun t ht=>(hf.2 t ht).2
  obtain ⟨e,⟨a,b⟩,h1,h2,_⟩:=whole_tree hw hv
  obtain ⟨n,q',hq,hfl⟩:=runB_ex (dg:=dgN) a b
  have hw2:wholeF l 0=some 1:=by unfold wholeZ at hw;simpa using hw
  have hrt:=fun t ht=>whole_right hw2 t ht
  have hF:runB dgN (n+0+1) [([],0)] (l.map tmN).reverse []=some q':=by rw [h1];exact hq 0
  have hsm:=runB_small _ _ _ _ _ hF (fun p hp=>by obtain rfl:=List.mem_singleton.1 hp;simp) (fun t ht p hp=>by
    obtain ⟨z,hz,rfl⟩:=List.mem_map.1 (List.mem_reverse.1 ht)
    exact pts_small (hrt z hz) (hv z hz) p hp) (fun _ h=>absurd h (by simp))
  have h3:exZ l=q'.reverse.flatten:=by unfold exZ;rw [if_pos hw,h2,hfl]
  rw [h3]
  exact textOf_p l hf.1 (fun t ht=>⟨hrt t ht,hv t ht⟩) hrow hc hlc hr hE hsm hF
set_option maxRecDepth 100000 in
set_option maxHeartbeats 1000000 in
theorem expr_p (l:List TmZ) (hf:ExF l) {q:Option Addr} {c:Nat} (hrow:TmRow C q l) (hc:c≤maxLen) (hlc:l.length≤c) (hr:CLe C (wC W)) (hE:EnvP W) :
    Calls Tryz.prog 14 #[.slice q l.length c] W fun e w'=>∃ s,e=.returned (.tuple #[.string s,.bool (wholeZ l)])∧bl s=exZ l∧Below W.heap.size W w':=by
  have hwh:=whole_p l (by have:=hf.1;omega) (fun t ht=>(hf.2 t ht).1) (c:=c) hrow hr hE
  have HT:=Lib.hid (fun (h:wholeZ l=true) W' (hb:Below W.heap.size W W')=>textW_p (W:=W') l hf h hrow hc hlc (hr.trans (below_cle hb)) (hE.all hb))
  have HBL:=Lib.hid (bl_sb (exZ_lt (fun t ht=>(hf.2 t ht).2)))
  have HNO:=Lib.hid (show wholeZ l=false→exZ l=[] from fun h=>by unfold exZ;rw [h];rfl)
  obtain ⟨n,hn⟩:∃ n,l.length=n:=⟨_,rfl⟩
  rw [hn] at hwh HT ⊢
  clear hf hrow hc hlc hr hE hn
  cases hb:wholeZ l with
  | false =>
    rw [hb] at hwh
    have HE:=Lib.hid (HNO.out hb)
    go_enter Tryz.func14,Tryz.ntmps14
    go_wp2_with (go_at_call 43;refine hwh.mono ?_;rintro e w1 ⟨rfl,hb1⟩)
    go_ret2
    exact ⟨_,rfl,by rw [HE.out];rfl,hb1⟩
  | true =>
    rw [hb] at hwh
    have HT2:=Lib.hid (HT.out hb)
    clear hb
    go_enter Tryz.func14,Tryz.ntmps14
    go_wp2_with (go_at_call 43;refine hwh.mono ?_;rintro e w1 ⟨rfl,hb1⟩)
    go_at_call 44
    refine (HT2.out _ hb1).mono ?_
    rintro e w2 ⟨rfl,hb2⟩
    go_wp2
    go_ret2
    exact ⟨_,rfl,HBL.out,hb1.trans (hb2.mono hb1.size)⟩
end
end Go.Proofs.YtpcniebkabkikaaGreatDoor
namespace Go.Proofs.YtpcniebkabkikaaGreatDoor
open Go Go.RowKit Go.Proofs.Mm
section
variable {C:Cl} {B b:Nat} {vp:Value} {t:List Nat} {W:World}
set_option maxRecDepth 100000 in
set_option maxHeartbeats 2000000 in
theorem eachDe_p (hc:PC C B) (h:PI C B b vp t W) {q:Option Addr} {c:Nat} (l:List DeZ) (hl:l.length≤9223372036854775807) (hrow:∀ j (hj:j<l.length),∃ g o,q=some ⟨g,o,none⟩∧C ⟨g,o+j * 2,none⟩=some (.string l[j].name)∧C ⟨g,o+j * 2+1,none⟩=some (.int .u64 (l[j].label:Nat)))
    {Ka Ki:Nat} {ca fi ci:Array Value} (ea:∀ args w,(callFunc Ka args).run Tryz.prog w=.ok (.enter Ka args) w) (ei:∀ args w,(callFunc Ki args).run Tryz.prog w=.ok (.enter Ki args) w)
    {J J':Nat→World→Prop} {S:Nat→Prop} (hS:∀ i,S i→i<W.heap.size) {F A I:Nat→List Nat} (hF0:F 0=[]) (hF:∀ k,k<l.length→F (k+1)=F k++A k++I k) (h0:J 0 W)
    (hJ:∀ k wr w',J k wr→Below wr.heap.size wr w'→J k w')
    (hap:∀ k wr t',k<l.length→PI C B b vp t' wr→J k wr→Kp B S W wr→Calls Tryz.prog Ka ca wr fun e w'=>e=.returned (.tuple #[])∧PI C B b vp (t'++A k) w'∧J' k w'∧Kp B S wr w')
    (hit:∀ k (hk:k<l.length) x wr t',l[k]=x→PI C B b vp t' wr→J' k wr→Kp B S W wr→Calls Tryz.prog Ki (fi++#[.agg #[.string x.name,.int .u64 (x.label:Nat)]]++ci) wr fun e w'=>e=.returned (.tuple #[])∧PI C B b vp (t'++I k) w'∧J (k+1) w'∧Kp B S wr w') :
    Calls Tryz.prog 105 #[.pointer (some ⟨b,0,none⟩),.func (.func Ka) #[] ca,.func (.func Ki) fi ci,.slice q l.length c] W fun e w'=>e=.returned (.tuple #[])∧PI C B b vp (t++F l.length) w'∧Kp B S W w':=by
  have HC:=Lib.hid hc
  have HP:=Lib.hid h
  have HR:=Lib.hid hrow
  have HS:=Lib.hid hS
  have HF:=Lib.hid hF
  have HF0:=Lib.hid hF0
  have HJ0:=Lib.hid h0
  have HJ:=Lib.hid hJ
  have HAP:=Lib.hid hap
  have HIT:=Lib.hid hit
  obtain ⟨n,hn⟩:∃ n,l.length=n:=⟨_,rfl⟩
  have HN:=Lib.hid hn
  rw [hn] at hl ⊢
  clear h hrow hS hF hF0 h0 hJ hap hit hn hc
  go_enter Tryz.func105,Tryz.ntmps105
  go_wp2
  go_loopw [12] (fun i wr=>∃ k:Nat,k≤n∧i=.int .i64 k∧Hid (PI C B b vp (t++F k) wr)∧Hid (J k wr)∧Hid (Kp B S W wr)) (fun i _=>n - (intOf i).toNat)
  case atStart=>exact ⟨0,Nat.zero_le _,rfl,Lib.hid (by rw [HF0.out,List.append_nil];exact HP.out),HJ0,Lib.hid (Kp.refl _ _ _)⟩
  case round =>
    obtain ⟨k,hk,rfl,HPr,HJr,HKr⟩:=hrel
    by_cases hlt:k<n
    · have hk':k<l.length:=by rw [HN.out];exact hlt
      obtain ⟨x,hx,g,o,rfl,a0,a1⟩:∃ x,l[k]=x∧∃ g o,q=some ⟨g,o,none⟩∧C ⟨g,o+k * 2,none⟩=some (.string x.name)∧C ⟨g,o+k * 2+1,none⟩=some (.int .u64 (x.label:Nat)):=⟨_,rfl,HR.out k hk'⟩
      have HK':=Lib.hid hk'
      have hit1:=Lib.hid (HIT.out k hk')
      have hit2:=Lib.hid (fun wr t'=>hit1.out x wr t' hx)
      have e0:wr.cell? ⟨g,o+k * 2,none⟩=some (.string x.name):=HPr.out.rd _ _ a0
      clear a0
      have e1:wr.cell? ⟨g,o+k * 2+1,none⟩=some (.int .u64 (x.label:Nat)):=HPr.out.rd _ _ a1
      clear a1
      obtain ⟨lg,acc,hw,hla,hx2⟩:=HPr.out.wr
      obtain ⟨c2,_⟩:=hw.raw
      have c3:=(hw.keep ((Below.refl wr.heap.size wr).alloc (Nat.le_refl _) (.cells #[.string x.name,.int .u64 (x.label:Nat)] 59))).raw.1
      have HW:=Lib.hid hw
      clear hw hk' hx hit1
      have hki:(k:Int)<(n:Int):=by omega
      rcases hx2 with ⟨rfl,hacc⟩ | ⟨rfl,hlong⟩
      · clear hacc
        have HP1:=Lib.hid (HPr.out.alloc HC.out (.cells #[.string x.name,.int .u64 (x.label:Nat)] 59))
        have HJ1:=Lib.hid (HJ.out k _ _ HJr.out ((Below.refl _ _).alloc (Nat.le_refl _) (.cells #[.string x.name,.int .u64 (x.label:Nat)] 59)))
        have HK1:=Lib.hid (HKr.out.alloc HPr.out.low (.cells #[.string x.name,.int .u64 (x.label:Nat)] 59))
        have HB1:=Lib.hid (World.alloc_heap_new wr (.cells #[.string x.name,.int .u64 (x.label:Nat)] 59))
        have HL1:=Lib.hid HKr.out.size
        clear HPr HJr HKr HW
        go_wp2_with fail
        generalize (wr.alloc _:World)=w0 at *
        refine (HAP.out k w0 _ HK'.out HP1.out HJ1.out HK1.out).mono ?_
        rintro e w1 ⟨rfl,hp1,hj1,hk1⟩
        have hb1:=hk1.heap HB1.out (fun e=>by have:=HS.out _ e;have:=HL1.out;omega) (by decide)
        have d0:=cell_of (j:=0) hb1 rfl
        have d1:=cell_of (j:=1) hb1 rfl
        have HP2:=Lib.hid hp1
        have HJ2:=Lib.hid hj1
        have HK2:=Lib.hid (HK1.out.trans hk1)
        clear hp1 hj1 hk1 hb1 HP1 HJ1 HK1
        go_wp2_with fail
        refine (hit2.out w1 _ HP2.out HJ2.out HK2.out).mono ?_
        rintro e w2 ⟨rfl,hp3,hj3,hk3⟩
        rw [List.append_assoc,List.append_assoc,← List.append_assoc (F k),← HF.out k HK'.out] at hp3
        have HP3:=Lib.hid hp3
        have HJ3:=Lib.hid hj3
        have HK3:=Lib.hid (HK2.out.trans hk3)
        clear hp3 hj3 hk3 HP2 HJ2 HK2
        go_wp2_with fail
        exact ⟨⟨k+1,by omega,by go_num,HP3,HJ3,HK3⟩,by simp [intOf];omega⟩
      · have HLG:=Lib.hid hlong
        obtain ⟨r,hr⟩:=text_on (l:=l) HF.out (Nat.le_of_lt HK'.out)
        rw [HN.out] at hr
        have HR2:=Lib.hid hr
        clear hlong hr
        go_wp2
        first | go_end0 | refine bodyPost_ret (results_none rfl _ _ _) rfl ?_
        have hb:=(Below.refl wr.heap.size wr).alloc (Nat.le_refl _) (.cells #[.string x.name,.int .u64 (x.label:Nat)] 59)
        refine ⟨rfl,?_,HKr.out.alloc HPr.out.low _⟩
        rw [HR2.out,← List.append_assoc]
        exact (HPr.out.long HW.out hla HLG.out r).all HC.out hb
    · obtain rfl:k=n:=by omega
      go_wp2
      first | go_end0 | refine bodyPost_ret (results_none rfl _ _ _) rfl ?_
      exact ⟨rfl,HPr.out,HKr.out⟩
end
end Go.Proofs.YtpcniebkabkikaaGreatDoor
namespace Go.Proofs.YtpcniebkabkikaaGreatDoor
open Go Go.RowKit Go.Proofs.Mm
section
variable {C:Cl} {B b:Nat} {vp:Value} {t:List Nat} {W:World}
set_option maxRecDepth 100000 in
set_option maxHeartbeats 1000000 in
theorem sepDe_p (hc:PC C B) (h:PI C B b vp t W) {q:Option Addr} {c:Nat} (l:List DeZ) (hl:l.length≤9223372036854775807) (hrow:∀ j (hj:j<l.length),∃ g o,q=some ⟨g,o,none⟩∧C ⟨g,o+j * 2,none⟩=some (.string l[j].name)∧C ⟨g,o+j * 2+1,none⟩=some (.int .u64 (l[j].label:Nat)))
    {Ki:Nat} {fi ci:Array Value} (ei:∀ args w,(callFunc Ki args).run Tryz.prog w=.ok (.enter Ki args) w) {f:DeZ→List Nat}
    (hit:∀ k (hk:k<l.length) x wr t',l[k]=x→PI C B b vp t' wr→Kp B (fun k=>k=b) W wr→Calls Tryz.prog Ki (fi++#[.agg #[.string x.name,.int .u64 (x.label:Nat)]]++ci) wr fun e w'=>e=.returned (.tuple #[])∧PI C B b vp (t'++f x) w'∧Kp B (fun k=>k=b) wr w')
    {W1:World} (s:ByteArray) (hs:s.size≤140737488355327) {g:Nat} (hg:g=W.heap.size) (hp:PI C B b vp t W1) (hb:Below W.heap.size W W1) (hst:BtS b g s true W1) (hsz:W1.heap.size=g+3) :
    Calls Tryz.prog 105 #[.pointer (some ⟨b,0,none⟩),.func (.func 104) #[] (btC g),.func (.func Ki) fi ci,.slice q l.length c] W1 fun e w'=>e=.returned (.tuple #[])∧PI C B b vp (t++sepZ (bl s) f l) w'∧Kp B (fun k=>k=b) W w':=by
  subst hg
  have hbW:b<W.heap.size:=by obtain ⟨_,_,hw,_⟩:=h.wr;obtain ⟨_,_,_,hw,_⟩:=hw;exact heap_lt hw
  have hm:∀ {wr:World},Kp B (fun i=>i=b ∨ i=W.heap.size+2) W1 wr→Kp B (fun k=>k=b) W wr:=fun hk=>(Kp.all hb h.low).then hk (fun i e=>by rcases e with e | e <;> omega)
  refine (eachDe_p hc hp l hl hrow (Ka:=104) (ca:=btC W.heap.size) (enters_of Tryz.func104 (by kernel_rfl) rfl) ei (J:=fun k w=>BtS b W.heap.size s (k == 0) w) (J':=fun _ w=>BtS b W.heap.size s false w)
    (S:=fun i=>i=b ∨ i=W.heap.size+2) (fun i e=>by rcases e with e | e <;> omega) (F:=fun k=>sepZ (bl s) f (l.take k)) (A:=fun k=>if (k == 0)=true then [] else bl s) (I:=fun k=>if h:k<l.length then f l[k] else []) (by simp [sepZ]) (fun k hk=>by simp only [hk,dif_pos];exact sepZ_take _ _ _ _ hk) hst
    (fun k wr w' h hb=>h.keep hb)
    (fun k wr t' _ hp hj _=>between1_p hc hp hs hj hbW)
    (fun k hk x wr t' hx hp hj hkp=>(hit k hk x wr t' hx hp (hm hkp)).mono ?_)).mono ?_
  · rintro e w' ⟨rfl,hp',hk'⟩
    refine ⟨rfl,?_,?_,hk'.mono (fun i e=>.inl (.inl e))⟩
    · simp only [hk,dif_pos,hx];exact hp'
    · exact hj.kp hk' hbW
  · rintro e w' ⟨rfl,hp',hk'⟩
    rw [List.take_length] at hp'
    exact ⟨rfl,hp',hm hk'⟩
set_option maxRecDepth 100000 in
set_option maxHeartbeats 1000000 in
theorem listDe_p (hc:PC C B) (h:PI C B b vp t W) {q:Option Addr} {c:Nat} (l:List DeZ) (hl:l.length≤9223372036854775807) (hrow:∀ j (hj:j<l.length),∃ g o,q=some ⟨g,o,none⟩∧C ⟨g,o+j * 2,none⟩=some (.string l[j].name)∧C ⟨g,o+j * 2+1,none⟩=some (.int .u64 (l[j].label:Nat)))
    {Ki:Nat} {fi ci:Array Value} (ei:∀ args w,(callFunc Ki args).run Tryz.prog w=.ok (.enter Ki args) w) {f:DeZ→List Nat}
    (hit:∀ k (hk:k<l.length) x wr t',l[k]=x→PI C B b vp t' wr→Kp B (fun k=>k=b) W wr→Calls Tryz.prog Ki (fi++#[.agg #[.string x.name,.int .u64 (x.label:Nat)]]++ci) wr fun e w'=>e=.returned (.tuple #[])∧PI C B b vp (t'++f x) w'∧Kp B (fun k=>k=b) wr w') :
    Calls Tryz.prog 116 #[.pointer (some ⟨b,0,none⟩),.func (.func Ki) fi ci,.slice q l.length c] W fun e w'=>e=.returned (.tuple #[])∧PI C B b vp (t++sepZ [44,32] f l) w'∧Kp B (fun k=>k=b) W w':=by
  have hbt:=between_p hc h ⟨#[44,32]⟩
  have HS:=Lib.hid (fun W1=>sepDe_p (W1:=W1) hc h (c:=c) l hl hrow ei hit ⟨#[44,32]⟩ (by decide) rfl)
  obtain ⟨n,hn⟩:∃ n,l.length=n:=⟨_,rfl⟩
  rw [hn] at HS ⊢
  clear hrow hit hn h hc hl
  go_enter Tryz.func116,Tryz.ntmps116
  go_wp2_with (go_at_call 59;refine hbt.mono ?_)
  rintro e w1 ⟨rfl,hp1,hb1,hs1,hz1⟩
  have HX:=Lib.hid (HS.out w1 hp1 hb1 hs1 hz1)
  clear hp1 hb1 hs1 hz1 HS hbt
  unfold btC at HX ⊢
  go_wp2_with fail
  go_at_call 105
  refine HX.out.mono ?_
  rintro e w2 ⟨rfl,hp2,hk2⟩
  go_wp2_with fail
  first | go_end0 | refine bodyPost_ret (results_none rfl _ _ _) rfl ?_
  exact ⟨rfl,hp2,hk2⟩
set_option maxRecDepth 100000 in
theorem apartDe_p (w:World):Calls Tryz.prog 106 #[] w fun e w'=>e=.returned (.tuple #[])∧w=w':=by
  go_enter Tryz.func106,Tryz.ntmps106
  first | (go_wp2;go_end0) | go_end0
  exact ⟨rfl,rfl⟩
set_option maxRecDepth 100000 in
set_option maxHeartbeats 1000000 in
theorem linesDe_p (hc:PC C B) (h:PI C B b vp t W) {q:Option Addr} {c:Nat} (l:List DeZ) (hl:l.length≤9223372036854775807) (hrow:∀ j (hj:j<l.length),∃ g o,q=some ⟨g,o,none⟩∧C ⟨g,o+j * 2,none⟩=some (.string l[j].name)∧C ⟨g,o+j * 2+1,none⟩=some (.int .u64 (l[j].label:Nat)))
    {Ki:Nat} {fi ci:Array Value} (ei:∀ args w,(callFunc Ki args).run Tryz.prog w=.ok (.enter Ki args) w)
    {J:Nat→World→Prop} {S:Nat→Prop} (hS:∀ i,S i→i<W.heap.size) {F I:Nat→List Nat} (hF0:F 0=[]) (hF:∀ k,k<l.length→F (k+1)=F k++[]++I k) (h0:J 0 W)
    (hJ:∀ k wr w',J k wr→Below wr.heap.size wr w'→J k w')
    (hit:∀ k (hk:k<l.length) x wr t',l[k]=x→PI C B b vp t' wr→J k wr→Kp B S W wr→Calls Tryz.prog Ki (fi++#[.agg #[.string x.name,.int .u64 (x.label:Nat)]]++ci) wr fun e w'=>e=.returned (.tuple #[])∧PI C B b vp (t'++I k) w'∧J (k+1) w'∧Kp B S wr w') :
    Calls Tryz.prog 60 #[.pointer (some ⟨b,0,none⟩),.func (.func Ki) fi ci,.slice q l.length c] W fun e w'=>e=.returned (.tuple #[])∧PI C B b vp (t++F l.length) w'∧Kp B S W w':=by
  have HX:=Lib.hid (eachDe_p hc h (c:=c) l hl hrow (Ka:=106) (ca:=#[]) (enters_of Tryz.func106 (by kernel_rfl) rfl) ei (J':=J) hS hF0 hF h0 hJ
    (fun k wr t' _ hp hj _=>(apartDe_p wr).mono fun e w' ⟨he,hw⟩=>by subst hw;exact ⟨he,by rw [List.append_nil];exact hp,hj,Kp.refl _ _ _⟩) hit)
  obtain ⟨n,hn⟩:∃ n,l.length=n:=⟨_,rfl⟩
  rw [hn] at HX ⊢
  clear hrow hit hn h hc hl hF hF0 h0 hJ hS
  go_enter Tryz.func60,Tryz.ntmps60
  go_wp2_with fail
  go_at_call 105
  refine HX.out.mono ?_
  rintro e w2 ⟨rfl,hp2,hk2⟩
  go_wp2_with fail
  first | go_end0 | refine bodyPost_ret (results_none rfl _ _ _) rfl ?_
  exact ⟨rfl,hp2,hk2⟩
end
end Go.Proofs.YtpcniebkabkikaaGreatDoor
namespace Go.Proofs.YtpcniebkabkikaaGreatDoor
open Go Go.RowKit Go.Proofs.Mm
section
variable {C:Cl} {B b:Nat} {vp:Value} {t:List Nat} {W:World} {ns:List ByteArray}
def dlC (g:Nat):Array Value:=#[.pointer (some ⟨g,0,none⟩),.pointer (some ⟨g+1,0,none⟩)]
structure DlS (b g:Nat) (s:ByteArray) (w:World):Prop where
  c0:w.heap[g]?=some (.cells #[.pointer (some ⟨b,0,none⟩)] 75 (0,0))
  c1:w.heap[g+1]?=some (.cells #[.string s] 9 (0,0))
theorem DlS.kp {g:Nat} {s:ByteArray} {w w':World} (h:DlS b g s w) (hb:Kp B (fun k=>k=b) w w') (hn:b<g):DlS b g s w' :=
  ⟨hb.heap h.c0 (by omega) (by decide),hb.heap h.c1 (by omega) (by decide)⟩
theorem DlS.keep {g:Nat} {s:ByteArray} {w w':World} (h:DlS b g s w) (hb:Below w.heap.size w w'):DlS b g s w':=⟨(hb.block _ (heap_lt h.c0)).trans h.c0,(hb.block _ (heap_lt h.c1)).trans h.c1⟩
set_option maxRecDepth 100000 in
theorem declLine_p (s:ByteArray) (W:World) :
    Calls Tryz.prog 61 #[.pointer (some ⟨b,0,none⟩),.string s] W fun e w'=>e=.returned (.func (.func 107) #[] (dlC W.heap.size))∧Below W.heap.size W w'∧DlS b W.heap.size s w':=by
  have HB:=Lib.hid (((Below.refl W.heap.size W).alloc (Nat.le_refl _) (.cells #[.pointer (some ⟨b,0,none⟩)] 75)).alloc (by simp) (.cells #[.string s] 9))
  go_enter Tryz.func61,Tryz.ntmps61
  go_wp2
  go_ret
  refine ⟨rfl,HB.out,⟨?_,?_⟩⟩
  · exact heap_new _ _ (World.alloc_heap_new W _)
  · have:=World.alloc_heap_new (W.alloc (.cells #[.pointer (some ⟨b,0,none⟩)] 75)) (.cells #[.string s] 9)
    rw [World.size_alloc] at this
    exact this
set_option maxRecDepth 100000 in
set_option maxHeartbeats 1000000 in
theorem declLine1_p (hc:PC C B) (hv:PV C vp ns) (h:PI C B b vp t W) (d:DeZ) (hx:d.label<18446744073709551616) (hn:d.name.size≤140737488355327) {g:Nat} {s:ByteArray} (hs:s.size≤140737488355327) (hd:DlS b g s W) (hg:b<g) :
    Calls Tryz.prog 107 (#[.agg #[.string d.name,.int .u64 (d.label:Nat)]]++dlC g) W fun e w'=>e=.returned (.tuple #[])∧PI C B b vp (t++kdZ (bl s) ns d) w'∧DlS b g s w'∧Kp B (fun k=>k=b) W w':=by
  have hbW:b<W.heap.size:=by obtain ⟨_,_,hw,_⟩:=h.wr;obtain ⟨_,_,_,hw,_⟩:=hw;exact heap_lt hw
  obtain ⟨A,hA⟩:∃ A,Obj.cells #[.string d.name,.int .u64 (d.label:Nat)] 59=A:=⟨_,rfl⟩
  have hP1:=h.alloc hc A
  have hK:Kp B (fun k=>k=b) W (W.alloc A):=(Kp.refl B (fun k=>k=b) W).alloc h.low A
  have hA2:(W.alloc A).heap[W.heap.size]?=some A:=World.alloc_heap_new W A
  have hD2:DlS b g s (W.alloc A):=hd.kp hK hg
  have hw:=word_p hc hP1 s hs
  have HW:=Lib.hid hw
  have HA2:=Lib.hid hA2
  have HD2:=Lib.hid hD2
  have HK:=Lib.hid hK
  have HC:=Lib.hid hc
  have HV:=Lib.hid hv
  have a0:=cell_of hD2.c0 (j:=0) rfl
  have a1:=cell_of hD2.c1 (j:=0) rfl
  clear h hc hv hP1 hK hA2 hd hD2 hw
  subst hA
  unfold dlC
  go_enter Tryz.func107,Tryz.ntmps107
  go_wp2_with fail
  go_at_call 57
  refine HW.out.mono ?_
  rintro e w1 ⟨rfl,hp1,hk1⟩
  have hb1:=hk1.heap HA2.out (by omega) (by decide)
  have hd1:=HD2.out.kp hk1 hg
  have d0:=cell_of hb1 (j:=0) rfl
  have d1:=cell_of hb1 (j:=1) rfl
  have a0:=cell_of hd1.c0 (j:=0) rfl
  have HD1:=Lib.hid hd1
  have HL:=Lib.hid (decl_p HC.out HV.out hp1 d hx hn)
  have HK1:=Lib.hid (HK.out.trans hk1)
  clear hp1 hk1 hb1 hd1
  go_wp2_with fail
  go_at_call 108
  refine HL.out.mono ?_
  rintro e w2 ⟨rfl,hp2,hk2⟩
  have hd2:=HD1.out.kp hk2 hg
  have a0:=cell_of hd2.c0 (j:=0) rfl
  have HL2:=Lib.hid (word_p HC.out hp2 ⟨#[59,10]⟩ (by decide))
  have HK2:=Lib.hid (HK1.out.trans hk2)
  have HD3:=Lib.hid hd2
  clear hp2 hk2 hd2
  go_wp2_with fail
  go_at_call 57
  refine HL2.out.mono ?_
  rintro e w3 ⟨rfl,hp3,hk3⟩
  go_wp2_with fail
  first | go_end0 | refine bodyPost_ret (results_none rfl _ _ _) rfl ?_
  have h59:bl ⟨#[59,10]⟩=[59,10]:=rfl
  refine ⟨rfl,?_,HD3.out.kp hk3 hg,HK2.out.trans hk3⟩
  unfold kdZ
  simpa [List.append_assoc,h59] using hp3
set_option maxRecDepth 100000 in
set_option maxHeartbeats 1000000 in
theorem kinds_p (hc:PC C B) (hv:PV C vp ns) (h:PI C B b vp t W) {q:Option Addr} {c:Nat} (l:List DeZ) (hl:l.length≤9223372036854775807) (hrow:∀ j (hj:j<l.length),∃ g o,q=some ⟨g,o,none⟩∧C ⟨g,o+j * 2,none⟩=some (.string l[j].name)∧C ⟨g,o+j * 2+1,none⟩=some (.int .u64 (l[j].label:Nat)))
    (hok:∀ d ∈ l,d.label<18446744073709551616∧d.name.size≤140737488355327) {g:Nat} {s:ByteArray} (hs:s.size≤140737488355327) (hd:DlS b g s W) (hg:b<g) :
    Calls Tryz.prog 60 #[.pointer (some ⟨b,0,none⟩),.func (.func 107) #[] (dlC g),.slice q l.length c] W fun e w'=>e=.returned (.tuple #[])∧PI C B b vp (t++l.flatMap (kdZ (bl s) ns)) w'∧Kp B (fun k=>k=b) W w':=by
  have hbW:b<W.heap.size:=by obtain ⟨_,_,hw,_⟩:=h.wr;obtain ⟨_,_,_,hw,_⟩:=hw;exact heap_lt hw
  refine (linesDe_p hc h (c:=c) l hl hrow (fi:=#[]) (ci:=dlC g) (enters_of Tryz.func107 (by kernel_rfl) rfl) (J:=fun _ w=>DlS b g s w) (S:=fun k=>k=b) (fun i e=>by omega)
    (F:=fun k=>(l.take k).flatMap (kdZ (bl s) ns)) (I:=fun k=>if h:k<l.length then kdZ (bl s) ns l[k] else []) (by simp) (fun k hk=>by simp only [hk,dif_pos];exact flat_take _ _ _ hk) hd (fun _ _ _ h hb=>h.keep hb)
    (fun k hk x wr t' hx hp hj _=>?_)).mono ?_
  · have hm:=hok x (by rw [← hx];exact List.getElem_mem hk)
    simp only [hk,dif_pos,hx]
    exact declLine1_p hc hv hp x hm.1 hm.2 hs hj hg
  · rintro e w' ⟨rfl,hp',hk'⟩
    rw [List.take_length] at hp'
    exact ⟨rfl,hp',hk'⟩
end
end Go.Proofs.YtpcniebkabkikaaGreatDoor
namespace Go.Proofs.YtpcniebkabkikaaGreatDoor
open Go Go.RowKit Go.Proofs.Mm
section
variable {C:Cl} {B b:Nat} {vp:Value} {t:List Nat} {W:World}
set_option maxRecDepth 100000 in
set_option maxHeartbeats 2000000 in
theorem eachStr_p (hc:PC C B) (h:PI C B b vp t W) {q:Option Addr} {c:Nat} (l:List ByteArray) (hl:l.length≤9223372036854775807) (hrow:∀ j (hj:j<l.length),∃ g o,q=some ⟨g,o,none⟩∧C ⟨g,o+j,none⟩=some (.string l[j]))
    {Ka Ki:Nat} {ca fi ci:Array Value} (ea:∀ args w,(callFunc Ka args).run Tryz.prog w=.ok (.enter Ka args) w) (ei:∀ args w,(callFunc Ki args).run Tryz.prog w=.ok (.enter Ki args) w)
    {J J':Nat→World→Prop} {S:Nat→Prop} (hS:∀ i,S i→i<W.heap.size) {F A I:Nat→List Nat} (hF0:F 0=[]) (hF:∀ k,k<l.length→F (k+1)=F k++A k++I k) (h0:J 0 W)
    (hJ:∀ k wr w',J k wr→Below wr.heap.size wr w'→J k w')
    (hap:∀ k wr t',k<l.length→PI C B b vp t' wr→J k wr→Kp B S W wr→Calls Tryz.prog Ka ca wr fun e w'=>e=.returned (.tuple #[])∧PI C B b vp (t'++A k) w'∧J' k w'∧Kp B S wr w')
    (hit:∀ k (hk:k<l.length) x wr t',l[k]=x→PI C B b vp t' wr→J' k wr→Kp B S W wr→Calls Tryz.prog Ki (fi++#[.string x]++ci) wr fun e w'=>e=.returned (.tuple #[])∧PI C B b vp (t'++I k) w'∧J (k+1) w'∧Kp B S wr w') :
    Calls Tryz.prog 58 #[.pointer (some ⟨b,0,none⟩),.func (.func Ka) #[] ca,.func (.func Ki) fi ci,.slice q l.length c] W fun e w'=>e=.returned (.tuple #[])∧PI C B b vp (t++F l.length) w'∧Kp B S W w':=by
  have HC:=Lib.hid hc
  have HP:=Lib.hid h
  have HR:=Lib.hid hrow
  have HS:=Lib.hid hS
  have HF:=Lib.hid hF
  have HF0:=Lib.hid hF0
  have HJ0:=Lib.hid h0
  have HJ:=Lib.hid hJ
  have HAP:=Lib.hid hap
  have HIT:=Lib.hid hit
  obtain ⟨n,hn⟩:∃ n,l.length=n:=⟨_,rfl⟩
  have HN:=Lib.hid hn
  rw [hn] at hl ⊢
  clear h hrow hS hF hF0 h0 hJ hap hit hn hc
  go_enter Tryz.func58,Tryz.ntmps58
  go_wp2
  go_loopw [12] (fun i wr=>∃ k:Nat,k≤n∧i=.int .i64 k∧Hid (PI C B b vp (t++F k) wr)∧Hid (J k wr)∧Hid (Kp B S W wr)) (fun i _=>n - (intOf i).toNat)
  case atStart=>exact ⟨0,Nat.zero_le _,rfl,Lib.hid (by rw [HF0.out,List.append_nil];exact HP.out),HJ0,Lib.hid (Kp.refl _ _ _)⟩
  case round =>
    obtain ⟨k,hk,rfl,HPr,HJr,HKr⟩:=hrel
    by_cases hlt:k<n
    · have hk':k<l.length:=by rw [HN.out];exact hlt
      obtain ⟨x,hx,g,o,rfl,a0⟩:∃ x,l[k]=x∧∃ g o,q=some ⟨g,o,none⟩∧C ⟨g,o+k,none⟩=some (.string x):=⟨_,rfl,HR.out k hk'⟩
      have HK':=Lib.hid hk'
      have hit1:=Lib.hid (HIT.out k hk')
      have hit2:=Lib.hid (fun wr t'=>hit1.out x wr t' hx)
      have e0:wr.cell? ⟨g,o+k,none⟩=some (.string x):=HPr.out.rd _ _ a0
      clear a0
      obtain ⟨lg,acc,hw,hla,hx2⟩:=HPr.out.wr
      obtain ⟨c2,_⟩:=hw.raw
      have HW:=Lib.hid hw
      clear hw hk' hx hit1
      have hki:(k:Int)<(n:Int):=by omega
      rcases hx2 with ⟨rfl,hacc⟩ | ⟨rfl,hlong⟩
      · clear hacc
        clear HW
        have HP1:=HPr
        have HJ1:=HJr
        have HK1:=HKr
        clear HPr HJr HKr
        go_wp2_with fail
        refine (HAP.out k wr _ HK'.out HP1.out HJ1.out HK1.out).mono ?_
        rintro e w1 ⟨rfl,hp1,hj1,hk1⟩
        have HP2:=Lib.hid hp1
        have HJ2:=Lib.hid hj1
        have HK2:=Lib.hid (HK1.out.trans hk1)
        clear hp1 hj1 hk1 HP1 HJ1 HK1
        go_wp2_with fail
        refine (hit2.out w1 _ HP2.out HJ2.out HK2.out).mono ?_
        rintro e w2 ⟨rfl,hp3,hj3,hk3⟩
        rw [List.append_assoc,List.append_assoc,← List.append_assoc (F k),← HF.out k HK'.out] at hp3
        have HP3:=Lib.hid hp3
        have HJ3:=Lib.hid hj3
        have HK3:=Lib.hid (HK2.out.trans hk3)
        clear hp3 hj3 hk3 HP2 HJ2 HK2
        go_wp2_with fail
        exact ⟨⟨k+1,by omega,by go_num,HP3,HJ3,HK3⟩,by simp [intOf];omega⟩
      · have HLG:=Lib.hid hlong
        obtain ⟨r,hr⟩:=text_on (l:=l) HF.out (Nat.le_of_lt HK'.out)
        rw [HN.out] at hr
        have HR2:=Lib.hid hr
        clear hlong hr
        go_wp2
        first | go_end0 | refine bodyPost_ret (results_none rfl _ _ _) rfl ?_
        refine ⟨rfl,?_,HKr.out⟩
        rw [HR2.out,← List.append_assoc]
        exact HPr.out.long HW.out hla HLG.out r
    · obtain rfl:k=n:=by omega
      go_wp2
      first | go_end0 | refine bodyPost_ret (results_none rfl _ _ _) rfl ?_
      exact ⟨rfl,HPr.out,HKr.out⟩
end
end Go.Proofs.YtpcniebkabkikaaGreatDoor
namespace Go.Proofs.YtpcniebkabkikaaGreatDoor
open Go Go.RowKit Go.Proofs.Mm
section
variable {C:Cl} {B b:Nat} {vp:Value} {t:List Nat} {W:World}
set_option maxRecDepth 100000 in
set_option maxHeartbeats 1000000 in
theorem sepStr_p (hc:PC C B) (h:PI C B b vp t W) {q:Option Addr} {c:Nat} (l:List ByteArray) (hl:l.length≤9223372036854775807) (hrow:∀ j (hj:j<l.length),∃ g o,q=some ⟨g,o,none⟩∧C ⟨g,o+j,none⟩=some (.string l[j]))
    {Ki:Nat} {fi ci:Array Value} (ei:∀ args w,(callFunc Ki args).run Tryz.prog w=.ok (.enter Ki args) w) {f:ByteArray→List Nat}
    (hit:∀ k (hk:k<l.length) x wr t',l[k]=x→PI C B b vp t' wr→Kp B (fun k=>k=b) W wr→Calls Tryz.prog Ki (fi++#[.string x]++ci) wr fun e w'=>e=.returned (.tuple #[])∧PI C B b vp (t'++f x) w'∧Kp B (fun k=>k=b) wr w')
    {W1:World} (s:ByteArray) (hs:s.size≤140737488355327) {g:Nat} (hg:g=W.heap.size) (hp:PI C B b vp t W1) (hb:Below W.heap.size W W1) (hst:BtS b g s true W1) (hsz:W1.heap.size=g+3) :
    Calls Tryz.prog 58 #[.pointer (some ⟨b,0,none⟩),.func (.func 104) #[] (btC g),.func (.func Ki) fi ci,.slice q l.length c] W1 fun e w'=>e=.returned (.tuple #[])∧PI C B b vp (t++sepZ (bl s) f l) w'∧Kp B (fun k=>k=b) W w':=by
  subst hg
  have hbW:b<W.heap.size:=by obtain ⟨_,_,hw,_⟩:=h.wr;obtain ⟨_,_,_,hw,_⟩:=hw;exact heap_lt hw
  have hm:∀ {wr:World},Kp B (fun i=>i=b ∨ i=W.heap.size+2) W1 wr→Kp B (fun k=>k=b) W wr:=fun hk=>(Kp.all hb h.low).then hk (fun i e=>by rcases e with e | e <;> omega)
  refine (eachStr_p hc hp l hl hrow (Ka:=104) (ca:=btC W.heap.size) (enters_of Tryz.func104 (by kernel_rfl) rfl) ei (J:=fun k w=>BtS b W.heap.size s (k == 0) w) (J':=fun _ w=>BtS b W.heap.size s false w)
    (S:=fun i=>i=b ∨ i=W.heap.size+2) (fun i e=>by rcases e with e | e <;> omega) (F:=fun k=>sepZ (bl s) f (l.take k)) (A:=fun k=>if (k == 0)=true then [] else bl s) (I:=fun k=>if h:k<l.length then f l[k] else []) (by simp [sepZ]) (fun k hk=>by simp only [hk,dif_pos];exact sepZ_take _ _ _ _ hk) hst
    (fun k wr w' h hb=>h.keep hb)
    (fun k wr t' _ hp hj _=>between1_p hc hp hs hj hbW)
    (fun k hk x wr t' hx hp hj hkp=>(hit k hk x wr t' hx hp (hm hkp)).mono ?_)).mono ?_
  · rintro e w' ⟨rfl,hp',hk'⟩
    refine ⟨rfl,?_,?_,hk'.mono (fun i e=>.inl (.inl e))⟩
    · simp only [hk,dif_pos,hx];exact hp'
    · exact hj.kp hk' hbW
  · rintro e w' ⟨rfl,hp',hk'⟩
    rw [List.take_length] at hp'
    exact ⟨rfl,hp',hm hk'⟩
set_option maxRecDepth 100000 in
set_option maxHeartbeats 1000000 in
theorem listStr_p (hc:PC C B) (h:PI C B b vp t W) {q:Option Addr} {c:Nat} (l:List ByteArray) (hl:l.length≤9223372036854775807) (hrow:∀ j (hj:j<l.length),∃ g o,q=some ⟨g,o,none⟩∧C ⟨g,o+j,none⟩=some (.string l[j]))
    {Ki:Nat} {fi ci:Array Value} (ei:∀ args w,(callFunc Ki args).run Tryz.prog w=.ok (.enter Ki args) w) {f:ByteArray→List Nat}
    (hit:∀ k (hk:k<l.length) x wr t',l[k]=x→PI C B b vp t' wr→Kp B (fun k=>k=b) W wr→Calls Tryz.prog Ki (fi++#[.string x]++ci) wr fun e w'=>e=.returned (.tuple #[])∧PI C B b vp (t'++f x) w'∧Kp B (fun k=>k=b) wr w') :
    Calls Tryz.prog 242 #[.pointer (some ⟨b,0,none⟩),.func (.func Ki) fi ci,.slice q l.length c] W fun e w'=>e=.returned (.tuple #[])∧PI C B b vp (t++sepZ [44,32] f l) w'∧Kp B (fun k=>k=b) W w':=by
  have hbt:=between_p hc h ⟨#[44,32]⟩
  have HS:=Lib.hid (fun W1=>sepStr_p (W1:=W1) hc h (c:=c) l hl hrow ei hit ⟨#[44,32]⟩ (by decide) rfl)
  obtain ⟨n,hn⟩:∃ n,l.length=n:=⟨_,rfl⟩
  rw [hn] at HS ⊢
  clear hrow hit hn h hc hl
  go_enter Tryz.func242,Tryz.ntmps242
  go_wp2_with (go_at_call 59;refine hbt.mono ?_)
  rintro e w1 ⟨rfl,hp1,hb1,hs1,hz1⟩
  have HX:=Lib.hid (HS.out w1 hp1 hb1 hs1 hz1)
  clear hp1 hb1 hs1 hz1 HS hbt
  unfold btC at HX ⊢
  go_wp2_with fail
  go_at_call 58
  refine HX.out.mono ?_
  rintro e w2 ⟨rfl,hp2,hk2⟩
  go_wp2_with fail
  first | go_end0 | refine bodyPost_ret (results_none rfl _ _ _) rfl ?_
  exact ⟨rfl,hp2,hk2⟩
end
end Go.Proofs.YtpcniebkabkikaaGreatDoor
namespace Go.Proofs.YtpcniebkabkikaaGreatDoor
open Go Go.RowKit Go.Proofs.Mm
section
variable {C:Cl} {B b:Nat} {vp:Value} {t:List Nat} {W:World}
set_option maxRecDepth 100000 in
set_option maxHeartbeats 2000000 in
theorem eachEx_p (hc:PC C B) (h:PI C B b vp t W) {q:Option Addr} {c:Nat} (l:List (Value × List Nat)) (hl:l.length≤9223372036854775807) (hrow:∀ j (hj:j<l.length),∃ g o,q=some ⟨g,o,none⟩∧C ⟨g,o+j,none⟩=some (l[j].1))
    {Ka Ki:Nat} {ca fi ci:Array Value} (ea:∀ args w,(callFunc Ka args).run Tryz.prog w=.ok (.enter Ka args) w) (ei:∀ args w,(callFunc Ki args).run Tryz.prog w=.ok (.enter Ki args) w)
    {J J':Nat→World→Prop} {S:Nat→Prop} (hS:∀ i,S i→i<W.heap.size) {F A I:Nat→List Nat} (hF0:F 0=[]) (hF:∀ k,k<l.length→F (k+1)=F k++A k++I k) (h0:J 0 W)
    (hJ:∀ k wr w',J k wr→Below wr.heap.size wr w'→J k w')
    (hap:∀ k wr t',k<l.length→PI C B b vp t' wr→J k wr→Kp B S W wr→Calls Tryz.prog Ka ca wr fun e w'=>e=.returned (.tuple #[])∧PI C B b vp (t'++A k) w'∧J' k w'∧Kp B S wr w')
    (hit:∀ k (hk:k<l.length) x wr t',l[k]=x→PI C B b vp t' wr→J' k wr→Kp B S W wr→Calls Tryz.prog Ki (fi++#[x.1]++ci) wr fun e w'=>e=.returned (.tuple #[])∧PI C B b vp (t'++I k) w'∧J (k+1) w'∧Kp B S wr w') :
    Calls Tryz.prog 267 #[.pointer (some ⟨b,0,none⟩),.func (.func Ka) #[] ca,.func (.func Ki) fi ci,.slice q l.length c] W fun e w'=>e=.returned (.tuple #[])∧PI C B b vp (t++F l.length) w'∧Kp B S W w':=by
  have HC:=Lib.hid hc
  have HP:=Lib.hid h
  have HR:=Lib.hid hrow
  have HS:=Lib.hid hS
  have HF:=Lib.hid hF
  have HF0:=Lib.hid hF0
  have HJ0:=Lib.hid h0
  have HJ:=Lib.hid hJ
  have HAP:=Lib.hid hap
  have HIT:=Lib.hid hit
  obtain ⟨n,hn⟩:∃ n,l.length=n:=⟨_,rfl⟩
  have HN:=Lib.hid hn
  rw [hn] at hl ⊢
  clear h hrow hS hF hF0 h0 hJ hap hit hn hc
  go_enter Tryz.func267,Tryz.ntmps267
  go_wp2
  go_loopw [12] (fun i wr=>∃ k:Nat,k≤n∧i=.int .i64 k∧Hid (PI C B b vp (t++F k) wr)∧Hid (J k wr)∧Hid (Kp B S W wr)) (fun i _=>n - (intOf i).toNat)
  case atStart=>exact ⟨0,Nat.zero_le _,rfl,Lib.hid (by rw [HF0.out,List.append_nil];exact HP.out),HJ0,Lib.hid (Kp.refl _ _ _)⟩
  case round =>
    obtain ⟨k,hk,rfl,HPr,HJr,HKr⟩:=hrel
    by_cases hlt:k<n
    · have hk':k<l.length:=by rw [HN.out];exact hlt
      obtain ⟨x,hx,g,o,rfl,a0⟩:∃ x,l[k]=x∧∃ g o,q=some ⟨g,o,none⟩∧C ⟨g,o+k,none⟩=some (x.1):=⟨_,rfl,HR.out k hk'⟩
      have HK':=Lib.hid hk'
      have hit1:=Lib.hid (HIT.out k hk')
      have hit2:=Lib.hid (fun wr t'=>hit1.out x wr t' hx)
      have e0:wr.cell? ⟨g,o+k,none⟩=some (x.1):=HPr.out.rd _ _ a0
      clear a0
      obtain ⟨lg,acc,hw,hla,hx2⟩:=HPr.out.wr
      obtain ⟨c2,_⟩:=hw.raw
      have HW:=Lib.hid hw
      clear hw hk' hx hit1
      have hki:(k:Int)<(n:Int):=by omega
      rcases hx2 with ⟨rfl,hacc⟩ | ⟨rfl,hlong⟩
      · clear hacc
        clear HW
        have HP1:=HPr
        have HJ1:=HJr
        have HK1:=HKr
        clear HPr HJr HKr
        go_wp2_with fail
        refine (HAP.out k wr _ HK'.out HP1.out HJ1.out HK1.out).mono ?_
        rintro e w1 ⟨rfl,hp1,hj1,hk1⟩
        have HP2:=Lib.hid hp1
        have HJ2:=Lib.hid hj1
        have HK2:=Lib.hid (HK1.out.trans hk1)
        clear hp1 hj1 hk1 HP1 HJ1 HK1
        go_wp2_with fail
        refine (hit2.out w1 _ HP2.out HJ2.out HK2.out).mono ?_
        rintro e w2 ⟨rfl,hp3,hj3,hk3⟩
        rw [List.append_assoc,List.append_assoc,← List.append_assoc (F k),← HF.out k HK'.out] at hp3
        have HP3:=Lib.hid hp3
        have HJ3:=Lib.hid hj3
        have HK3:=Lib.hid (HK2.out.trans hk3)
        clear hp3 hj3 hk3 HP2 HJ2 HK2
        go_wp2_with fail
        exact ⟨⟨k+1,by omega,by go_num,HP3,HJ3,HK3⟩,by simp [intOf];omega⟩
      · have HLG:=Lib.hid hlong
        obtain ⟨r,hr⟩:=text_on (l:=l) HF.out (Nat.le_of_lt HK'.out)
        rw [HN.out] at hr
        have HR2:=Lib.hid hr
        clear hlong hr
        go_wp2
        first | go_end0 | refine bodyPost_ret (results_none rfl _ _ _) rfl ?_
        refine ⟨rfl,?_,HKr.out⟩
        rw [HR2.out,← List.append_assoc]
        exact HPr.out.long HW.out hla HLG.out r
    · obtain rfl:k=n:=by omega
      go_wp2
      first | go_end0 | refine bodyPost_ret (results_none rfl _ _ _) rfl ?_
      exact ⟨rfl,HPr.out,HKr.out⟩
end
end Go.Proofs.YtpcniebkabkikaaGreatDoor
namespace Go.Proofs.YtpcniebkabkikaaGreatDoor
open Go Go.RowKit Go.Proofs.Mm
section
variable {C:Cl} {B b:Nat} {vp:Value} {t:List Nat} {W:World}
set_option maxRecDepth 100000 in
set_option maxHeartbeats 1000000 in
theorem sepEx_p (hc:PC C B) (h:PI C B b vp t W) {q:Option Addr} {c:Nat} (l:List (Value × List Nat)) (hl:l.length≤9223372036854775807) (hrow:∀ j (hj:j<l.length),∃ g o,q=some ⟨g,o,none⟩∧C ⟨g,o+j,none⟩=some (l[j].1))
    {Ki:Nat} {fi ci:Array Value} (ei:∀ args w,(callFunc Ki args).run Tryz.prog w=.ok (.enter Ki args) w) {f:(Value × List Nat)→List Nat}
    (hit:∀ k (hk:k<l.length) x wr t',l[k]=x→PI C B b vp t' wr→Kp B (fun k=>k=b) W wr→Calls Tryz.prog Ki (fi++#[x.1]++ci) wr fun e w'=>e=.returned (.tuple #[])∧PI C B b vp (t'++f x) w'∧Kp B (fun k=>k=b) wr w')
    {W1:World} (s:ByteArray) (hs:s.size≤140737488355327) {g:Nat} (hg:g=W.heap.size) (hp:PI C B b vp t W1) (hb:Below W.heap.size W W1) (hst:BtS b g s true W1) (hsz:W1.heap.size=g+3) :
    Calls Tryz.prog 267 #[.pointer (some ⟨b,0,none⟩),.func (.func 104) #[] (btC g),.func (.func Ki) fi ci,.slice q l.length c] W1 fun e w'=>e=.returned (.tuple #[])∧PI C B b vp (t++sepZ (bl s) f l) w'∧Kp B (fun k=>k=b) W w':=by
  subst hg
  have hbW:b<W.heap.size:=by obtain ⟨_,_,hw,_⟩:=h.wr;obtain ⟨_,_,_,hw,_⟩:=hw;exact heap_lt hw
  have hm:∀ {wr:World},Kp B (fun i=>i=b ∨ i=W.heap.size+2) W1 wr→Kp B (fun k=>k=b) W wr:=fun hk=>(Kp.all hb h.low).then hk (fun i e=>by rcases e with e | e <;> omega)
  refine (eachEx_p hc hp l hl hrow (Ka:=104) (ca:=btC W.heap.size) (enters_of Tryz.func104 (by kernel_rfl) rfl) ei (J:=fun k w=>BtS b W.heap.size s (k == 0) w) (J':=fun _ w=>BtS b W.heap.size s false w)
    (S:=fun i=>i=b ∨ i=W.heap.size+2) (fun i e=>by rcases e with e | e <;> omega) (F:=fun k=>sepZ (bl s) f (l.take k)) (A:=fun k=>if (k == 0)=true then [] else bl s) (I:=fun k=>if h:k<l.length then f l[k] else []) (by simp [sepZ]) (fun k hk=>by simp only [hk,dif_pos];exact sepZ_take _ _ _ _ hk) hst
    (fun k wr w' h hb=>h.keep hb)
    (fun k wr t' _ hp hj _=>between1_p hc hp hs hj hbW)
    (fun k hk x wr t' hx hp hj hkp=>(hit k hk x wr t' hx hp (hm hkp)).mono ?_)).mono ?_
  · rintro e w' ⟨rfl,hp',hk'⟩
    refine ⟨rfl,?_,?_,hk'.mono (fun i e=>.inl (.inl e))⟩
    · simp only [hk,dif_pos,hx];exact hp'
    · exact hj.kp hk' hbW
  · rintro e w' ⟨rfl,hp',hk'⟩
    rw [List.take_length] at hp'
    exact ⟨rfl,hp',hm hk'⟩
set_option maxRecDepth 100000 in
set_option maxHeartbeats 1000000 in
theorem listEx_p (hc:PC C B) (h:PI C B b vp t W) {q:Option Addr} {c:Nat} (l:List (Value × List Nat)) (hl:l.length≤9223372036854775807) (hrow:∀ j (hj:j<l.length),∃ g o,q=some ⟨g,o,none⟩∧C ⟨g,o+j,none⟩=some (l[j].1))
    {Ki:Nat} {fi ci:Array Value} (ei:∀ args w,(callFunc Ki args).run Tryz.prog w=.ok (.enter Ki args) w) {f:(Value × List Nat)→List Nat}
    (hit:∀ k (hk:k<l.length) x wr t',l[k]=x→PI C B b vp t' wr→Kp B (fun k=>k=b) W wr→Calls Tryz.prog Ki (fi++#[x.1]++ci) wr fun e w'=>e=.returned (.tuple #[])∧PI C B b vp (t'++f x) w'∧Kp B (fun k=>k=b) wr w') :
    Calls Tryz.prog 243 #[.pointer (some ⟨b,0,none⟩),.func (.func Ki) fi ci,.slice q l.length c] W fun e w'=>e=.returned (.tuple #[])∧PI C B b vp (t++sepZ [44,32] f l) w'∧Kp B (fun k=>k=b) W w':=by
  have hbt:=between_p hc h ⟨#[44,32]⟩
  have HS:=Lib.hid (fun W1=>sepEx_p (W1:=W1) hc h (c:=c) l hl hrow ei hit ⟨#[44,32]⟩ (by decide) rfl)
  obtain ⟨n,hn⟩:∃ n,l.length=n:=⟨_,rfl⟩
  rw [hn] at HS ⊢
  clear hrow hit hn h hc hl
  go_enter Tryz.func243,Tryz.ntmps243
  go_wp2_with (go_at_call 59;refine hbt.mono ?_)
  rintro e w1 ⟨rfl,hp1,hb1,hs1,hz1⟩
  have HX:=Lib.hid (HS.out w1 hp1 hb1 hs1 hz1)
  clear hp1 hb1 hs1 hz1 HS hbt
  unfold btC at HX ⊢
  go_wp2_with fail
  go_at_call 267
  refine HX.out.mono ?_
  rintro e w2 ⟨rfl,hp2,hk2⟩
  go_wp2_with fail
  first | go_end0 | refine bodyPost_ret (results_none rfl _ _ _) rfl ?_
  exact ⟨rfl,hp2,hk2⟩
end
end Go.Proofs.YtpcniebkabkikaaGreatDoor
namespace Go.Proofs.YtpcniebkabkikaaGreatDoor
open Go Go.RowKit Go.Proofs.Mm
def StrRow (C:Cl) (q:Option Addr) (l:List ByteArray):Prop:=∀ j (hj:j<l.length),∃ g o,q=some ⟨g,o,none⟩∧C ⟨g,o+j,none⟩=some (.string l[j])
structure ExRow (C:Cl) (q:Option Addr) (l:List (List TmZ)) (vs:List Value):Prop where
  len:vs.length=l.length
  cells:∀ j (hj:j<vs.length),∃ g o,q=some ⟨g,o,none⟩∧C ⟨g,o+j,none⟩=some vs[j]
  each:∀ j (hj:j<vs.length) (hj':j<l.length),∃ qe ce,vs[j]=.slice qe l[j].length ce∧TmRow C qe l[j]∧ce≤maxLen∧l[j].length≤ce
def StF (s:StZ):Prop:=s.name.size≤140737488355327∧(∀ x ∈ s.targets,x.size≤140737488355327)∧(∀ e ∈ s.exprs,ExF e)∧s.targets.length≤9223372036854775807∧s.exprs.length≤9223372036854775807
structure StRd (C:Cl) (x:StV) (s:StZ):Prop where
  k:x.k=s.kind
  nm:x.nm=s.name
  n1:x.n1=s.targets.length
  n2:x.n2=s.exprs.length
  tg:StrRow C x.q1 s.targets
  ex:∃ vs,ExRow C x.q2 s.exprs vs
def stv (x:StV):Value:=.agg #[.int .i64 x.k,.string x.nm,.slice x.q1 x.n1 x.c1,.slice x.q2 x.n2 x.c2]
def stb (x:StV):Obj:=.cells #[.int .i64 x.k,.string x.nm,.slice x.q1 x.n1 x.c1,.slice x.q2 x.n2 x.c2] 57
section
variable {C:Cl} {B b:Nat} {vp:Value} {t:List Nat} {W:World}
theorem PI.b_lt (h:PI C B b vp t W):b<W.heap.size:=by obtain ⟨_,_,hw,_⟩:=h.wr;obtain ⟨_,_,_,hw,_⟩:=hw;exact heap_lt hw
set_option maxRecDepth 100000 in
theorem exprW_p (hc:PC C B) (h:PI C B b vp t W) (l:List TmZ) (hf:ExF l) {q:Option Addr} {c:Nat} (hrow:TmRow C q l) (hcm:c≤maxLen) (hlc:l.length≤c) :
    Calls Tryz.prog 244 #[.pointer (some ⟨b,0,none⟩),.slice q l.length c] W fun e w'=>e=.returned (.tuple #[])∧PI C B b vp (t++exZ l) w'∧Kp B (fun k=>k=b) W w':=by
  have hx:=expr_p l hf hrow hcm hlc h.rd h.env
  have HL:=Lib.hid (exZ_len hf)
  have HP:=Lib.hid h
  have HC:=Lib.hid hc
  clear h hc hrow hf hlc hcm
  generalize exZ l=tx at *
  generalize wholeZ l=wz at *
  generalize l.length=n at *
  go_enter Tryz.func244,Tryz.ntmps244
  go_wp2_with fail
  go_at_call 14
  refine hx.mono ?_
  rintro e w1 ⟨s,rfl,hbs,hb1⟩
  have hp1:=HP.out.all HC.out hb1
  have HW:=Lib.hid (word_p HC.out hp1 s (by rw [← bl_length,hbs];exact HL.out))
  have HK:=Lib.hid (Kp.all (S:=fun k=>k=b) hb1 HP.out.low)
  have HB:=Lib.hid hbs
  clear hp1 hb1 hx hbs
  go_wp2_with fail
  go_at_call 57
  refine HW.out.mono ?_
  rintro e w2 ⟨rfl,hp2,hk2⟩
  go_wp2_with fail
  first | go_end0 | refine bodyPost_ret (results_none rfl _ _ _) rfl ?_
  exact ⟨rfl,by rw [HB.out] at hp2;exact hp2,HK.out.trans hk2⟩
theorem ExRow.at {q:Option Addr} {l:List (List TmZ)} {vs:List Value} (h:ExRow C q l vs) {j:Nat} (hj:j<l.length):∃ g o qe ce,q=some ⟨g,o,none⟩∧C ⟨g,o+j,none⟩=some (.slice qe l[j].length ce)∧TmRow C qe l[j]∧ce≤maxLen∧l[j].length≤ce:=by
  obtain ⟨g,o,h1,h2⟩:=h.cells j (by rw [h.len];exact hj)
  obtain ⟨qe,ce,h3,h4⟩:=h.each j (by rw [h.len];exact hj) hj
  exact ⟨g,o,qe,ce,h1,by rw [h2,h3],h4⟩
theorem stb_below (W:World) (x:StV):Below W.heap.size W (W.alloc (stb x)):=(Below.refl _ _).alloc (Nat.le_refl _) _
set_option maxRecDepth 100000 in
theorem exprAt_p (x:StV) (s:StZ) (hx:StRd C x s) (hf:StF s) (k:Nat) (_hk:k≤1) (W:World) (hr:CLe C (wC W)) (hE:EnvP W) :
    Calls Tryz.prog 207 #[stv x,.int .i64 (k:Int)] W fun e w'=>∃ z,e=.returned (.string z)∧bl z=exAt s k∧Below W.heap.size W w':=by
  have HB:=Lib.hid (stb_below W x)
  obtain ⟨vs,hvs⟩:=hx.ex
  by_cases hlt:k<s.exprs.length
  · obtain ⟨g,o,qe,ce,hq,hc,hrow,hcm,hlc⟩:=hvs.at hlt
    have hr1:=hr.trans (below_cle (stb_below W x))
    have hcell:(W.alloc (stb x)).cell? ⟨g,o+k,none⟩=_:=hr1 _ _ hc
    have he:=Lib.hid (expr_p s.exprs[k] (hf.2.2.1 _ (List.getElem_mem hlt)) (W:=W.alloc (stb x)) hrow hcm hlc hr1 (hE.all HB.out))
    have HA:=Lib.hid (show exAt s k=exZ s.exprs[k] from by unfold exAt;rw [List.getElem?_eq_getElem hlt])
    have hn2:=hx.n2
    obtain ⟨xk,xnm,q1,n1,c1,q2,n2,c2⟩:=x
    simp only at hq hn2
    have hkn:(k:Int)<(n2:Int):=by omega
    have hkn2:k<n2:=by omega
    subst hq
    clear hx hvs hrow hr1 hr hE hf hc hcm hlc hn2
    generalize exZ s.exprs[k]=tx at *
    generalize s.exprs[k].length=ln at *
    generalize wholeZ s.exprs[k]=wz at *
    clear hlt
    unfold stv stb at *
    go_enter Tryz.func207,Tryz.ntmps207
    go_wp2_with fail
    go_at_call 14
    refine he.out.mono ?_
    rintro e w1 ⟨z,rfl,hz,hb1⟩
    have HZ:=Lib.hid (show bl z=exAt s k from by rw [hz,HA.out])
    have HB1:=Lib.hid (on_below HB.out hb1)
    clear hz hb1
    go_wp2
    go_ret
    exact ⟨z,rfl,HZ.out,HB1.out⟩
  · have HA:=Lib.hid (show exAt s k=[] from by unfold exAt;rw [List.getElem?_eq_none (by omega)])
    have hn2:=hx.n2
    obtain ⟨xk,xnm,q1,n1,c1,q2,n2,c2⟩:=x
    simp only at hn2
    have hkn:¬ (k:Int)<(n2:Int):=by omega
    have hkn2:(n2:Int)≤(k:Int):=by omega
    clear hx hvs hr hE hf hn2 hlt
    unfold stv stb at *
    go_enter Tryz.func207,Tryz.ntmps207
    go_wp2
    go_ret
    exact ⟨⟨#[]⟩,rfl,by rw [HA.out];rfl,HB.out⟩
end
end Go.Proofs.YtpcniebkabkikaaGreatDoor
namespace Go.Proofs.YtpcniebkabkikaaGreatDoor
open Go Go.RowKit Go.Proofs.Mm
section
variable {C:Cl} {B b:Nat} {vp:Value} {t:List Nat} {W:World}
def Wrote (C:Cl) (B b:Nat) (vp:Value) (W:World) (t:List Nat) (e:Ending) (w':World):Prop:=e=.returned (.tuple #[])∧PI C B b vp t w'∧Kp B (fun k=>k=b) W w'
theorem Wrote.mk {w1:World} {t':List Nat} (h:Kp B (fun k=>k=b) W w1) (hp:PI C B b vp t' w1):Wrote C B b vp W t' (.returned (.tuple #[])) w1:=⟨rfl,hp,h⟩
set_option maxRecDepth 100000 in
theorem targets_p (hc:PC C B) (h:PI C B b vp t W) (x:StV) (s:StZ) (hx:StRd C x s) (hf:StF s) :
    Calls Tryz.prog 206 #[.pointer (some ⟨b,0,none⟩),stv x] W (Wrote C B b vp W (t++tgZ s)):=by
  have hp1:=h.alloc hc (stb x)
  have HK:=Lib.hid ((Kp.refl B (fun k=>k=b) W).alloc h.low (stb x))
  have HL:=Lib.hid (listStr_p hc hp1 (c:=x.c1) s.targets hf.2.2.2.1 hx.tg (Ki:=57) (fi:=#[.pointer (some ⟨b,0,none⟩)]) (ci:=#[]) (enters_of Tryz.func57 (by kernel_rfl) rfl) (f:=bl)
    (fun k hk z wr t' hz hp _=>word_p hc hp z (hf.2.1 z (by rw [← hz];exact List.getElem_mem hk))))
  have hn1:=hx.n1
  obtain ⟨xk,xnm,q1,n1,c1,q2,n2,c2⟩:=x
  simp only at hn1
  subst hn1
  clear hp1 h hc hx hf
  unfold stv stb at *
  unfold tgZ
  generalize s.targets.length=n at *
  go_enter Tryz.func206,Tryz.ntmps206
  go_wp2_with fail
  go_at_call 242
  refine HL.out.mono ?_
  rintro e w2 ⟨rfl,hp2,hk2⟩
  go_wp2_with fail
  first | go_end0 | refine bodyPost_ret (results_none rfl _ _ _) rfl ?_
  exact Wrote.mk (HK.out.trans hk2) hp2
def prs (vs:List Value) (l:List (List TmZ)):List (Value × List Nat):=vs.zip (l.map exZ)
theorem sep_prs (s:List Nat):∀ (vs:List Value) (l:List (List TmZ)),vs.length=l.length→sepZ s Prod.snd (prs vs l)=sepZ s exZ l:=by
  have hm:∀ (vs:List Value) (l:List (List TmZ)),vs.length=l.length→((prs vs l).flatMap fun y=>s++y.2)=l.flatMap fun y=>s++exZ y:=by
    intro vs
    induction vs with
    | nil=>intro l h;cases l with
      | nil=>rfl
      | cons x l=>cases h
    | cons v vs ih=>intro l h;cases l with
      | nil=>cases h
      | cons x l =>
        show (s++exZ x)++((prs vs l).flatMap fun y=>s++y.2)=_
        rw [ih l (by simpa using h)];rfl
  intro vs l h
  cases vs with
  | nil=>cases l with
    | nil=>rfl
    | cons x l=>cases h
  | cons v vs=>cases l with
    | nil=>cases h
    | cons x l =>
      show exZ x++((prs vs l).flatMap fun y=>s++y.2)=_
      rw [hm vs l (by simpa using h)];rfl
theorem prs_len {vs:List Value} {l:List (List TmZ)} (h:vs.length=l.length):(prs vs l).length=l.length:=by unfold prs;simp [h]
theorem prs_at {vs:List Value} {l:List (List TmZ)} {j:Nat} (h:j<(prs vs l).length) (h1:j<vs.length) (h2:j<l.length):(prs vs l)[j]=(vs[j],exZ l[j]):=by
  simp only [prs,List.getElem_zip,List.getElem_map]
set_option maxRecDepth 100000 in
theorem exprs_p (hc:PC C B) (h:PI C B b vp t W) (s:StZ) (hf:StF s) {q:Option Addr} {c:Nat} {vs:List Value} (hx:ExRow C q s.exprs vs) :
    Calls Tryz.prog 243 #[.pointer (some ⟨b,0,none⟩),.func (.func 244) #[.pointer (some ⟨b,0,none⟩)] #[],.slice q s.exprs.length c] W (Wrote C B b vp W (t++exsZ s)):=by
  have hl:=prs_len hx.len
  have:=listEx_p hc h (q:=q) (c:=c) (prs vs s.exprs) (by rw [hl];exact hf.2.2.2.2) (fun j hj=>by
    obtain ⟨g,o,h1,h2⟩:=hx.cells j (by rw [hx.len,← hl];exact hj)
    exact ⟨g,o,h1,by rw [h2,prs_at hj (by rw [hx.len,← hl];exact hj) (by rw [← hl];exact hj)]⟩) (Ki:=244) (fi:=#[.pointer (some ⟨b,0,none⟩)]) (ci:=#[]) (enters_of Tryz.func244 (by kernel_rfl) rfl) (f:=Prod.snd)
    (fun k hk x wr t' hxk hp _=>by
      have hk0:=hk
      rw [hl] at hk
      obtain ⟨qe,ce,h1,h2,h3,h4⟩:=hx.each k (by rw [hx.len];exact hk) hk
      have hpa:=prs_at hk0 (by rw [hx.len];exact hk) hk
      rw [hxk] at hpa
      have hx1:x.1=.slice qe s.exprs[k].length ce:=by rw [hpa,← h1]
      have hx2:x.2=exZ s.exprs[k]:=by rw [hpa]
      rw [hx1,hx2]
      exact exprW_p hc hp s.exprs[k] (hf.2.2.1 _ (List.getElem_mem hk)) h2 h3 h4)
  rw [hl,sep_prs _ _ _ hx.len] at this
  exact this
end
end Go.Proofs.YtpcniebkabkikaaGreatDoor
namespace Go.Proofs.YtpcniebkabkikaaGreatDoor
open Go Go.RowKit Go.Proofs.Mm
def sv (s:StZ) (q1:Option Addr) (c1:Nat) (q2:Option Addr) (c2:Nat):Value:=.agg #[.int .i64 s.kind,.string s.name,.slice q1 s.targets.length c1,.slice q2 s.exprs.length c2]
def so (s:StZ) (q1:Option Addr) (c1:Nat) (q2:Option Addr) (c2:Nat):Obj:=.cells #[.int .i64 s.kind,.string s.name,.slice q1 s.targets.length c1,.slice q2 s.exprs.length c2] 57
structure SR (C:Cl) (s:StZ) (q1 q2:Option Addr):Prop where
  tg:StrRow C q1 s.targets
  ex:∃ vs,ExRow C q2 s.exprs vs
  f:StF s
section
variable {C:Cl} {B b:Nat} {vp:Value} {t:List Nat} {W:World}
set_option maxRecDepth 100000 in
theorem SR.rd {s:StZ} {q1 q2:Option Addr} (h:SR C s q1 q2) (c1 c2:Nat):StRd C ⟨s.kind,s.name,q1,s.targets.length,c1,q2,s.exprs.length,c2⟩ s:=⟨rfl,rfl,rfl,rfl,h.tg,h.ex⟩
theorem sv_eq (s:StZ) (q1:Option Addr) (c1:Nat) (q2:Option Addr) (c2:Nat):sv s q1 c1 q2 c2=stv ⟨s.kind,s.name,q1,s.targets.length,c1,q2,s.exprs.length,c2⟩:=rfl
theorem targets_s (hc:PC C B) (h:PI C B b vp t W) (s:StZ) {q1 q2:Option Addr} (c1 c2:Nat) (hs:SR C s q1 q2):Calls Tryz.prog 206 #[.pointer (some ⟨b,0,none⟩),sv s q1 c1 q2 c2] W (Wrote C B b vp W (t++tgZ s)):=by
  rw [sv_eq]
  exact targets_p hc h _ s (hs.rd c1 c2) hs.f
theorem exprAt_s (s:StZ) {q1 q2:Option Addr} (c1 c2:Nat) (hs:SR C s q1 q2) (k:Nat) (hk:k≤1) (W:World) (hr:CLe C (wC W)) (hE:EnvP W):Calls Tryz.prog 207 #[sv s q1 c1 q2 c2,.int .i64 (k:Int)] W fun e w'=>∃ z,e=.returned (.string z)∧bl z=exAt s k∧Below W.heap.size W w':=by
  rw [sv_eq]
  exact exprAt_p _ s (hs.rd c1 c2) hs.f k hk W hr hE
set_option maxRecDepth 100000 in
theorem putR_p (hc:PC C B) (h:PI C B b vp t W) (l:List ByteArray) (hl:l.length≤100) (hs:∀ s ∈ l,s.size≤140737488355327) {L:Array Value} (hL:L=(l.map Value.string).toArray) {n:Nat} (hn:n=l.length) :
    Calls Tryz.prog 111 #[.pointer (some ⟨b,0,none⟩),.slice (some ⟨W.heap.size,0,none⟩) n n] (W.alloc (.cells L 9)) (Wrote C B b vp W (t++l.flatMap bl)):=by
  subst hL;subst hn
  have hb:=h.b_lt
  refine (put_p (c:=l.length) hc (h.alloc hc _) l hl hs (World.alloc_heap_new W _) (by omega)).mono ?_
  rintro e w' ⟨rfl,hp,hk⟩
  exact ⟨rfl,hp,((Kp.refl B (fun k=>k=b) W).alloc h.low _).trans hk⟩
theorem so_cells {w:World} {g:Nat} {s:StZ} {q1:Option Addr} {c1:Nat} {q2:Option Addr} {c2:Nat} (h:w.heap[g]?=some (so s q1 c1 q2 c2)):w.cell? ⟨g,0,none⟩=some (.int .i64 s.kind)∧w.cell? ⟨g,1,none⟩=some (.string s.name)∧w.cell? ⟨g,2,none⟩=some (.slice q1 s.targets.length c1)∧w.cell? ⟨g,3,none⟩=some (.slice q2 s.exprs.length c2):=⟨cell_of h rfl,cell_of h rfl,cell_of h rfl,cell_of h rfl⟩
theorem so_kp {w w':World} {g:Nat} {s:StZ} {q1:Option Addr} {c1:Nat} {q2:Option Addr} {c2:Nat} (h:w.heap[g]?=some (so s q1 c1 q2 c2)) (hk:Kp B (fun k=>k=b) w w') (hg:g ≠ b):w'.heap[g]?=some (so s q1 c1 q2 c2):=hk.heap h hg (by decide)
theorem in_two {P:ByteArray→Prop} {a c:ByteArray} (h1:P a) (h2:P c):∀ s ∈ [a,c],P s:=by
  intro s hs
  rcases List.mem_cons.1 hs with rfl | hs
  · exact h1
  · rw [List.mem_singleton] at hs;subst hs;exact h2
theorem bl_c1:bl ⟨#[32,61,32]⟩=[32,61,32]:=rfl
theorem bl_c2:bl ⟨#[40]⟩=[40]:=rfl
theorem bl_c3:bl ⟨#[41,59]⟩=[41,59]:=rfl
theorem bl_c4:bl ⟨#[114,101,116,117,114,110]⟩=[114,101,116,117,114,110]:=rfl
theorem bl_c5:bl ⟨#[32]⟩=[32]:=rfl
theorem bl_c6:bl ⟨#[59]⟩=[59]:=rfl
set_option maxRecDepth 100000 in
set_option maxHeartbeats 2000000 in
theorem call_p (hc:PC C B) (h:PI C B b vp t W) (s:StZ) {q1 q2:Option Addr} (c1 c2:Nat) (hs:SR C s q1 q2) :
    Calls Tryz.prog 208 #[.pointer (some ⟨b,0,none⟩),sv s q1 c1 q2 c2] W (Wrote C B b vp W (t++((if s.targets.length=0 then [] else tgZ s++[32,61,32])++(bl s.name++([40]++(exsZ s++[41,59])))))):=by
  have hne:W.heap.size ≠ b:=by have:=h.b_lt;omega
  have HP1:=Lib.hid (h.alloc hc (so s q1 c1 q2 c2))
  have HK1:=Lib.hid ((Kp.refl B (fun k=>k=b) W).alloc h.low (so s q1 c1 q2 c2))
  have HX1:=Lib.hid (World.alloc_heap_new W (so s q1 c1 q2 c2))
  have HC:=Lib.hid hc
  have HS:=Lib.hid hs
  obtain ⟨vs,hv⟩:=hs.ex
  have HV:=Lib.hid hv
  clear h hc hs hv
  unfold so at HP1 HK1 HX1
  unfold sv
  by_cases h0:s.targets.length=0
  · skip
    rw [if_pos h0]
    have hgt:¬ (0:Int)<(s.targets.length:Int):=by omega
    clear h0
    go_enter Tryz.func208,Tryz.ntmps208
    go_upto_region 1 with fail
    generalize (W.alloc _:World)=w1 at *
    obtain ⟨d0,d1,d2,d3⟩:=so_cells HX1.out
    have HW:=Lib.hid (putR_p HC.out HP1.out [s.name,⟨#[40]⟩] (by simp) (in_two HS.out.f.1 (by decide)) (L:=#[.string s.name,.string ⟨#[40]⟩]) rfl (n:=2) rfl)
    go_wp2_with fail
    go_at_call 111
    refine HW.out.mono ?_
    rintro e w2 ⟨rfl,hp,hk⟩
    have HP2:=Lib.hid hp
    have HX2:=Lib.hid (so_kp HX1.out hk hne)
    have HK2:=Lib.hid (HK1.out.trans hk)
    clear hp hk d0 d1 d2 d3 HW HX1 HK1 HP1
    obtain ⟨d0,d1,d2,d3⟩:=so_cells HX2.out
    have HW:=Lib.hid (exprs_p HC.out HP2.out s HS.out.f (c:=c2) HV.out)
    go_wp2_with fail
    go_at_call 243
    refine HW.out.mono ?_
    rintro e w3 ⟨rfl,hp,hk⟩
    have HP3:=Lib.hid hp
    have HX3:=Lib.hid (so_kp HX2.out hk hne)
    have HK3:=Lib.hid (HK2.out.trans hk)
    clear hp hk d0 d1 d2 d3 HW HX2 HK2 HP2
    obtain ⟨d0,d1,d2,d3⟩:=so_cells HX3.out
    have HW:=Lib.hid (word_p HC.out HP3.out ⟨#[41,59]⟩ (by decide))
    go_wp2_with fail
    go_at_call 57
    refine HW.out.mono ?_
    rintro e w4 ⟨rfl,hp,hk⟩
    have HP4:=Lib.hid hp
    have HX4:=Lib.hid (so_kp HX3.out hk hne)
    have HK4:=Lib.hid (HK3.out.trans hk)
    clear hp hk d0 d1 d2 d3 HW HX3 HK3 HP3
    go_wp2_with fail
    first | go_end0 | refine bodyPost_ret (results_none rfl _ _ _) rfl ?_
    refine ⟨rfl,?_,HK4.out⟩
    have hp:=HP4.out
    simpa [List.append_assoc,bl_c1,bl_c2,bl_c3,bl_c4,bl_c5,bl_c6] using hp
  · skip
    rw [if_neg h0]
    have hgt:(0:Int)<(s.targets.length:Int):=by omega
    clear h0
    go_enter Tryz.func208,Tryz.ntmps208
    go_upto_region 1 with fail
    generalize (W.alloc _:World)=w1 at *
    obtain ⟨d0,d1,d2,d3⟩:=so_cells HX1.out
    have HW:=Lib.hid (targets_s HC.out HP1.out s c1 c2 HS.out)
    unfold sv at HW
    go_wp2_with fail
    go_at_call 206
    refine HW.out.mono ?_
    rintro e w2 ⟨rfl,hp,hk⟩
    have HP2:=Lib.hid hp
    have HX2:=Lib.hid (so_kp HX1.out hk hne)
    have HK2:=Lib.hid (HK1.out.trans hk)
    clear hp hk d0 d1 d2 d3 HW HX1 HK1 HP1
    obtain ⟨d0,d1,d2,d3⟩:=so_cells HX2.out
    have HW:=Lib.hid (word_p HC.out HP2.out ⟨#[32,61,32]⟩ (by decide))
    go_wp2_with fail
    go_at_call 57
    refine HW.out.mono ?_
    rintro e w3 ⟨rfl,hp,hk⟩
    have HP3:=Lib.hid hp
    have HX3:=Lib.hid (so_kp HX2.out hk hne)
    have HK3:=Lib.hid (HK2.out.trans hk)
    clear hp hk d0 d1 d2 d3 HW HX2 HK2 HP2
    obtain ⟨d0,d1,d2,d3⟩:=so_cells HX3.out
    have HW:=Lib.hid (putR_p HC.out HP3.out [s.name,⟨#[40]⟩] (by simp) (in_two HS.out.f.1 (by decide)) (L:=#[.string s.name,.string ⟨#[40]⟩]) rfl (n:=2) rfl)
    go_wp2_with fail
    go_at_call 111
    refine HW.out.mono ?_
    rintro e w4 ⟨rfl,hp,hk⟩
    have HP4:=Lib.hid hp
    have HX4:=Lib.hid (so_kp HX3.out hk hne)
    have HK4:=Lib.hid (HK3.out.trans hk)
    clear hp hk d0 d1 d2 d3 HW HX3 HK3 HP3
    obtain ⟨d0,d1,d2,d3⟩:=so_cells HX4.out
    have HW:=Lib.hid (exprs_p HC.out HP4.out s HS.out.f (c:=c2) HV.out)
    go_wp2_with fail
    go_at_call 243
    refine HW.out.mono ?_
    rintro e w5 ⟨rfl,hp,hk⟩
    have HP5:=Lib.hid hp
    have HX5:=Lib.hid (so_kp HX4.out hk hne)
    have HK5:=Lib.hid (HK4.out.trans hk)
    clear hp hk d0 d1 d2 d3 HW HX4 HK4 HP4
    obtain ⟨d0,d1,d2,d3⟩:=so_cells HX5.out
    have HW:=Lib.hid (word_p HC.out HP5.out ⟨#[41,59]⟩ (by decide))
    go_wp2_with fail
    go_at_call 57
    refine HW.out.mono ?_
    rintro e w6 ⟨rfl,hp,hk⟩
    have HP6:=Lib.hid hp
    have HX6:=Lib.hid (so_kp HX5.out hk hne)
    have HK6:=Lib.hid (HK5.out.trans hk)
    clear hp hk d0 d1 d2 d3 HW HX5 HK5 HP5
    go_wp2_with fail
    first | go_end0 | refine bodyPost_ret (results_none rfl _ _ _) rfl ?_
    refine ⟨rfl,?_,HK6.out⟩
    have hp:=HP6.out
    simpa [List.append_assoc,bl_c1,bl_c2,bl_c3,bl_c4,bl_c5,bl_c6] using hp
set_option maxRecDepth 100000 in
set_option maxHeartbeats 2000000 in
theorem results_p (hc:PC C B) (h:PI C B b vp t W) (s:StZ) {q1 q2:Option Addr} (c1 c2:Nat) (hs:SR C s q1 q2) :
    Calls Tryz.prog 209 #[.pointer (some ⟨b,0,none⟩),sv s q1 c1 q2 c2] W (Wrote C B b vp W (t++([114,101,116,117,114,110]++((if s.exprs.length=0 then [] else [32]++exsZ s)++[59])))):=by
  have hne:W.heap.size ≠ b:=by have:=h.b_lt;omega
  have HP1:=Lib.hid (h.alloc hc (so s q1 c1 q2 c2))
  have HK1:=Lib.hid ((Kp.refl B (fun k=>k=b) W).alloc h.low (so s q1 c1 q2 c2))
  have HX1:=Lib.hid (World.alloc_heap_new W (so s q1 c1 q2 c2))
  have HC:=Lib.hid hc
  have HS:=Lib.hid hs
  obtain ⟨vs,hv⟩:=hs.ex
  have HV:=Lib.hid hv
  clear h hc hs hv
  unfold so at HP1 HK1 HX1
  unfold sv
  by_cases h0:s.exprs.length=0
  · skip
    rw [if_pos h0]
    have hgt:¬ (0:Int)<(s.exprs.length:Int):=by omega
    clear h0
    go_enter Tryz.func209,Tryz.ntmps209
    go_upto_region 1 with fail
    generalize (W.alloc _:World)=w1 at *
    obtain ⟨d0,d1,d2,d3⟩:=so_cells HX1.out
    have HW:=Lib.hid (word_p HC.out HP1.out ⟨#[114,101,116,117,114,110]⟩ (by decide))
    go_wp2_with fail
    go_at_call 57
    refine HW.out.mono ?_
    rintro e w2 ⟨rfl,hp,hk⟩
    have HP2:=Lib.hid hp
    have HX2:=Lib.hid (so_kp HX1.out hk hne)
    have HK2:=Lib.hid (HK1.out.trans hk)
    clear hp hk d0 d1 d2 d3 HW HX1 HK1 HP1
    obtain ⟨d0,d1,d2,d3⟩:=so_cells HX2.out
    have HW:=Lib.hid (word_p HC.out HP2.out ⟨#[59]⟩ (by decide))
    go_wp2_with fail
    go_at_call 57
    refine HW.out.mono ?_
    rintro e w3 ⟨rfl,hp,hk⟩
    have HP3:=Lib.hid hp
    have HX3:=Lib.hid (so_kp HX2.out hk hne)
    have HK3:=Lib.hid (HK2.out.trans hk)
    clear hp hk d0 d1 d2 d3 HW HX2 HK2 HP2
    go_wp2_with fail
    first | go_end0 | refine bodyPost_ret (results_none rfl _ _ _) rfl ?_
    refine ⟨rfl,?_,HK3.out⟩
    have hp:=HP3.out
    simpa [List.append_assoc,bl_c1,bl_c2,bl_c3,bl_c4,bl_c5,bl_c6] using hp
  · skip
    rw [if_neg h0]
    have hgt:(0:Int)<(s.exprs.length:Int):=by omega
    clear h0
    go_enter Tryz.func209,Tryz.ntmps209
    go_upto_region 1 with fail
    generalize (W.alloc _:World)=w1 at *
    obtain ⟨d0,d1,d2,d3⟩:=so_cells HX1.out
    have HW:=Lib.hid (word_p HC.out HP1.out ⟨#[114,101,116,117,114,110]⟩ (by decide))
    go_wp2_with fail
    go_at_call 57
    refine HW.out.mono ?_
    rintro e w2 ⟨rfl,hp,hk⟩
    have HP2:=Lib.hid hp
    have HX2:=Lib.hid (so_kp HX1.out hk hne)
    have HK2:=Lib.hid (HK1.out.trans hk)
    clear hp hk d0 d1 d2 d3 HW HX1 HK1 HP1
    obtain ⟨d0,d1,d2,d3⟩:=so_cells HX2.out
    have HW:=Lib.hid (word_p HC.out HP2.out ⟨#[32]⟩ (by decide))
    go_wp2_with fail
    go_at_call 57
    refine HW.out.mono ?_
    rintro e w3 ⟨rfl,hp,hk⟩
    have HP3:=Lib.hid hp
    have HX3:=Lib.hid (so_kp HX2.out hk hne)
    have HK3:=Lib.hid (HK2.out.trans hk)
    clear hp hk d0 d1 d2 d3 HW HX2 HK2 HP2
    obtain ⟨d0,d1,d2,d3⟩:=so_cells HX3.out
    have HW:=Lib.hid (exprs_p HC.out HP3.out s HS.out.f (c:=c2) HV.out)
    go_wp2_with fail
    go_at_call 243
    refine HW.out.mono ?_
    rintro e w4 ⟨rfl,hp,hk⟩
    have HP4:=Lib.hid hp
    have HX4:=Lib.hid (so_kp HX3.out hk hne)
    have HK4:=Lib.hid (HK3.out.trans hk)
    clear hp hk d0 d1 d2 d3 HW HX3 HK3 HP3
    obtain ⟨d0,d1,d2,d3⟩:=so_cells HX4.out
    have HW:=Lib.hid (word_p HC.out HP4.out ⟨#[59]⟩ (by decide))
    go_wp2_with fail
    go_at_call 57
    refine HW.out.mono ?_
    rintro e w5 ⟨rfl,hp,hk⟩
    have HP5:=Lib.hid hp
    have HX5:=Lib.hid (so_kp HX4.out hk hne)
    have HK5:=Lib.hid (HK4.out.trans hk)
    clear hp hk d0 d1 d2 d3 HW HX4 HK4 HP4
    go_wp2_with fail
    first | go_end0 | refine bodyPost_ret (results_none rfl _ _ _) rfl ?_
    refine ⟨rfl,?_,HK5.out⟩
    have hp:=HP5.out
    simpa [List.append_assoc,bl_c1,bl_c2,bl_c3,bl_c4,bl_c5,bl_c6] using hp
end
end Go.Proofs.YtpcniebkabkikaaGreatDoor
namespace Go.Proofs.YtpcniebkabkikaaGreatDoor
open Go Go.RowKit Go.Proofs.Mm
theorem bl_rep:∀ n:Nat,(Lib.repeatL [32,32] n).map UInt8.toNat=List.replicate (2 * n) 32
  | 0=>rfl
  | n+1=>by
    show 32 :: 32 :: (Lib.repeatL [32,32] n).map UInt8.toNat=_
    rw [bl_rep n,show 2 * (n+1)=2 * n+1+1 by omega,List.replicate_succ,List.replicate_succ]
theorem in_three {P:ByteArray→Prop} {a c d:ByteArray} (h1:P a) (h2:P c) (h3:P d):∀ s ∈ [a,c,d],P s:=by
  intro s hs
  rcases List.mem_cons.1 hs with rfl | hs
  · exact h1
  · exact in_two h2 h3 s hs
theorem in_five {P:ByteArray→Prop} {a c d e f:ByteArray} (h1:P a) (h2:P c) (h3:P d) (h4:P e) (h5:P f):∀ s ∈ [a,c,d,e,f],P s:=by
  intro s hs
  rcases List.mem_cons.1 hs with rfl | hs
  · exact h1
  rcases List.mem_cons.1 hs with rfl | hs
  · exact h2
  · exact in_three h3 h4 h5 s hs
theorem in_six {P:ByteArray→Prop} {a c d e f g:ByteArray} (h1:P a) (h2:P c) (h3:P d) (h4:P e) (h5:P f) (h6:P g):∀ s ∈ [a,c,d,e,f,g],P s:=by
  intro s hs
  rcases List.mem_cons.1 hs with rfl | hs
  · exact h1
  · exact in_five h2 h3 h4 h5 h6 s hs
theorem exAt_len {s:StZ} (h:StF s) (k:Nat):(exAt s k).length≤140737488355327:=by
  unfold exAt
  split
  · rename_i e he
    exact exZ_len (h.2.2.1 e (List.mem_of_getElem? he))
  · decide
theorem so_cellsK {w:World} {g:Nat} {s:StZ} {q1:Option Addr} {c1:Nat} {q2:Option Addr} {c2:Nat} {kk:Int} (h:w.heap[g]?=some (so s q1 c1 q2 c2)) (hk:s.kind=kk):w.cell? ⟨g,0,none⟩=some (.int .i64 kk)∧w.cell? ⟨g,1,none⟩=some (.string s.name)∧w.cell? ⟨g,2,none⟩=some (.slice q1 s.targets.length c1)∧w.cell? ⟨g,3,none⟩=some (.slice q2 s.exprs.length c2):=by
  subst hk
  exact so_cells h
section
variable {C:Cl} {B b:Nat} {vp:Value} {t:List Nat} {W:World}
set_option maxRecDepth 100000 in
theorem repeat_p (hc:PC C B) (h:PI C B b vp t W) (n:Nat) (hn:n≤70368744177663):Calls Tryz.prog 205 #[.string ⟨#[32,32]⟩,.int .i64 (n:Int)] W fun e w'=>∃ z,e=.returned (.string z)∧bl z=List.replicate (2 * n) 32∧PI C B b vp t w'∧Below W.heap.size W w':=by
  refine (Tryz.strings_Repeat ⟨#[32,32]⟩ n W (by omega) (by show 2 * n≤_;omega)).mono ?_
  rintro e w' ⟨rfl,hb⟩
  exact ⟨_,rfl,by rw [bl_u8];exact bl_rep n,h.all hc hb,hb⟩
theorem put3 (t:List Nat) (a c d:ByteArray):t++[a,c,d].flatMap bl=t++(bl a++(bl c++bl d)):=by simp
theorem put5 (t:List Nat) (a c d e f:ByteArray):t++[a,c,d,e,f].flatMap bl=t++(bl a++(bl c++(bl d++(bl e++bl f)))):=by simp
theorem put6 (t:List Nat) (a c d e f g:ByteArray):t++[a,c,d,e,f,g].flatMap bl=t++(bl a++(bl c++(bl d++(bl e++(bl f++bl g))))):=by simp
theorem bl_d0:bl ⟨#[32,61,32]⟩=[32,61,32]:=rfl
theorem bl_d1:bl ⟨#[59]⟩=[59]:=rfl
theorem bl_d2:bl ⟨#[91]⟩=[91]:=rfl
theorem bl_d3:bl ⟨#[93,32,61,32]⟩=[93,32,61,32]:=rfl
theorem bl_d4:bl ⟨#[115,101,110,100,32]⟩=[115,101,110,100,32]:=rfl
theorem bl_d5:bl ⟨#[32]⟩=[32]:=rfl
theorem bl_d6:bl ⟨#[105,102,32]⟩=[105,102,32]:=rfl
theorem bl_d7:bl ⟨#[32,123]⟩=[32,123]:=rfl
theorem bl_d8:bl ⟨#[125,32,101,108,115,101,32,123]⟩=[125,32,101,108,115,101,32,123]:=rfl
theorem bl_d9:bl ⟨#[119,104,105,108,101,32]⟩=[119,104,105,108,101,32]:=rfl
theorem bl_d10:bl ⟨#[125]⟩=[125]:=rfl
theorem bl_d11:bl ⟨#[10]⟩=[10]:=rfl
end
end Go.Proofs.YtpcniebkabkikaaGreatDoor
namespace Go.Proofs.YtpcniebkabkikaaGreatDoor
open Go Go.RowKit Go.Proofs.Mm
section
variable {C:Cl} {B b:Nat} {vp:Value} {t:List Nat} {W:World}
set_option maxRecDepth 100000 in
set_option maxHeartbeats 4000000 in
theorem stmt_1 (hc:PC C B) (h:PI C B b vp t W) (s:StZ) (hk:s.kind=1) {q1 q2:Option Addr} (c1 c2:Nat) (hs:SR C s q1 q2) (dp:Int) (n:Nat) (hdp:max dp 0=(n:Int)) (hn:n≤70368744177663) :
    Calls Tryz.prog 166 #[.pointer (some ⟨b,0,none⟩),.int .i64 dp,sv s q1 c1 q2 c2] W (Wrote C B b vp W (t++(List.replicate (2 * n) 32++(lineZ s++[10])))):=by
  have hne:W.heap.size ≠ b:=by have:=h.b_lt;omega
  have HP1:=Lib.hid (h.alloc hc (so s q1 c1 q2 c2))
  have HK1:=Lib.hid ((Kp.refl B (fun k=>k=b) W).alloc h.low (so s q1 c1 q2 c2))
  have HX1:=Lib.hid (World.alloc_heap_new W (so s q1 c1 q2 c2))
  have HC:=Lib.hid hc
  have HS:=Lib.hid hs
  have HKK:=Lib.hid hk
  have hmx:Tryz.prog.follows .mixedOrders=true:=by kernel_rfl
  unfold so at HP1 HK1 HX1
  unfold sv
  rw [hk] at HP1 HK1 HX1 ⊢
  clear h hc hs hk
  go_enter Tryz.func166,Tryz.ntmps166
  go_upto_region 1 with fail
  generalize (W.alloc _:World)=w1 at *
  have HX1:Hid (w1.heap[W.heap.size]?=some (so s q1 c1 q2 c2)):=Lib.hid (by have:=HX1.out;unfold so;rw [HKK.out];exact this)
  obtain ⟨d0,d1,d2,d3⟩:=so_cellsK HX1.out HKK.out
  have HR:=Lib.hid (repeat_p HC.out HP1.out n hn)
  go_wp2_with fail
  go_at_call 205
  refine HR.out.mono ?_
  rintro e wr ⟨zr,rfl,hzr,hpr,hbr⟩
  have HWr:=Lib.hid (word_p HC.out hpr zr (by rw [← bl_length,hzr,List.length_replicate];omega))
  have HZr:=Lib.hid hzr
  have HKr:=Lib.hid (HK1.out.trans (Kp.all hbr HP1.out.low))
  have HXr:=Lib.hid ((hbr.block _ (heap_lt HX1.out)).trans HX1.out)
  clear hzr hpr hbr HR d0 d1 d2 d3
  obtain ⟨d0,d1,d2,d3⟩:=so_cellsK HXr.out HKK.out
  go_wp2_with fail
  go_at_call 57
  refine HWr.out.mono ?_
  rintro e w2 ⟨rfl,hp,hk⟩
  rw [HZr.out] at hp
  have HP2:=Lib.hid hp
  have HX2:=Lib.hid (so_kp HXr.out hk hne)
  have HK2:=Lib.hid (HKr.out.trans hk)
  clear hp hk d0 d1 d2 d3 HXr HKr HWr HZr HP1 HX1 HK1
  obtain ⟨d0,d1,d2,d3⟩:=so_cellsK HX2.out HKK.out
  have HW:=Lib.hid (targets_s HC.out HP2.out s c1 c2 HS.out)
  unfold sv at HW
  rw [HKK.out] at HW
  go_wp2_with fail
  go_at_call 206
  refine HW.out.mono ?_
  rintro e w3 ⟨rfl,hp,hk⟩
  have HP3:=Lib.hid hp
  have HX3:=Lib.hid (so_kp HX2.out hk hne)
  have HK3:=Lib.hid (HK2.out.trans hk)
  clear hp hk d0 d1 d2 d3 HX2 HK2 HP2 HW
  obtain ⟨d0,d1,d2,d3⟩:=so_cellsK HX3.out HKK.out
  have HW:=Lib.hid (exprAt_s s c1 c2 HS.out 0 (by omega) w3 HP3.out.rd HP3.out.env)
  unfold sv at HW
  rw [HKK.out] at HW
  go_wp2_with fail
  go_at_call 207
  refine HW.out.mono ?_
  rintro e wz ⟨z,rfl,hz,hb⟩
  have HPz:=Lib.hid (HP3.out.all HC.out hb)
  have HKz:=Lib.hid (HK3.out.trans (Kp.all hb HP3.out.low))
  have HXz:=Lib.hid ((hb.block _ (heap_lt HX3.out)).trans HX3.out)
  have HZ:=Lib.hid hz
  have HW2:=Lib.hid (putR_p HC.out HPz.out [⟨#[32,61,32]⟩,z,⟨#[59]⟩] (by simp) (in_three (by decide) (by rw [← bl_length,hz];exact exAt_len HS.out.f 0) (by decide)) (L:=#[.string ⟨#[32,61,32]⟩,.string z,.string ⟨#[59]⟩]) rfl (n:=3) rfl)
  clear hz hb HW HP3 HK3 HX3 d0 d1 d2 d3
  obtain ⟨d0,d1,d2,d3⟩:=so_cellsK HXz.out HKK.out
  go_wp2_with fail
  go_at_call 111
  refine HW2.out.mono ?_
  rintro e w4 ⟨rfl,hp,hk⟩
  have HP4:=Lib.hid (show PI C B b vp _ w4 from by rw [put3,HZ.out] at hp;exact hp)
  have HX4:=Lib.hid (so_kp HXz.out hk hne)
  have HK4:=Lib.hid (HKz.out.trans hk)
  clear hp hk d0 d1 d2 d3 HXz HKz HPz HW2 HZ
  obtain ⟨d0,d1,d2,d3⟩:=so_cellsK HX4.out HKK.out
  have HW:=Lib.hid (word_p HC.out HP4.out ⟨#[10]⟩ (by decide))
  go_wp2_with fail
  go_at_call 57
  refine HW.out.mono ?_
  rintro e w5 ⟨rfl,hp,hk⟩
  have HP5:=Lib.hid hp
  have HX5:=Lib.hid (so_kp HX4.out hk hne)
  have HK5:=Lib.hid (HK4.out.trans hk)
  clear hp hk d0 d1 d2 d3 HX4 HK4 HP4 HW
  go_wp2_with fail
  first | go_end0 | refine bodyPost_ret (results_none rfl _ _ _) rfl ?_
  refine ⟨rfl,?_,HK5.out⟩
  have hp:=HP5.out
  unfold lineZ
  rw [HKK.out]
  simpa [List.append_assoc,bl_d0,bl_d1,bl_d2,bl_d3,bl_d4,bl_d5,bl_d6,bl_d7,bl_d8,bl_d9,bl_d10,bl_d11] using hp
end
end Go.Proofs.YtpcniebkabkikaaGreatDoor
namespace Go.Proofs.YtpcniebkabkikaaGreatDoor
open Go Go.RowKit Go.Proofs.Mm
open List renaming setIfInBounds_toArray→n1,set_cons_zero→n2,set_cons_succ→n3,getElem_toArray→n4,getElem_cons_zero→n5,getElem_cons_succ→n6
section
variable {C:Cl} {B b:Nat} {vp:Value} {t:List Nat} {W:World}
set_option maxRecDepth 100000 in
set_option maxHeartbeats 4000000 in
theorem stmt_2 (hc:PC C B) (h:PI C B b vp t W) (s:StZ) (hk:s.kind=2) {q1 q2:Option Addr} (c1 c2:Nat) (hs:SR C s q1 q2) (dp:Int) (n:Nat) (hdp:max dp 0=(n:Int)) (hn:n≤70368744177663) :
    Calls Tryz.prog 166 #[.pointer (some ⟨b,0,none⟩),.int .i64 dp,sv s q1 c1 q2 c2] W (Wrote C B b vp W (t++(List.replicate (2 * n) 32++(lineZ s++[10])))):=by
  have hne:W.heap.size ≠ b:=by have:=h.b_lt;omega
  have HP1:=Lib.hid (h.alloc hc (so s q1 c1 q2 c2))
  have HK1:=Lib.hid ((Kp.refl B (fun k=>k=b) W).alloc h.low (so s q1 c1 q2 c2))
  have HX1:=Lib.hid (World.alloc_heap_new W (so s q1 c1 q2 c2))
  have HC:=Lib.hid hc
  have HS:=Lib.hid hs
  have HKK:=Lib.hid hk
  have hmx:Tryz.prog.follows .mixedOrders=true:=by kernel_rfl
  unfold so at HP1 HK1 HX1
  unfold sv
  rw [hk] at HP1 HK1 HX1 ⊢
  clear h hc hs hk
  go_enter Tryz.func166,Tryz.ntmps166
  go_upto_region 1 with fail
  generalize (W.alloc _:World)=w1 at *
  have HX1:Hid (w1.heap[W.heap.size]?=some (so s q1 c1 q2 c2)):=Lib.hid (by have:=HX1.out;unfold so;rw [HKK.out];exact this)
  obtain ⟨d0,d1,d2,d3⟩:=so_cellsK HX1.out HKK.out
  have HR:=Lib.hid (repeat_p HC.out HP1.out n hn)
  go_wp2_with fail
  go_at_call 205
  refine HR.out.mono ?_
  rintro e wr ⟨zr,rfl,hzr,hpr,hbr⟩
  have HWr:=Lib.hid (word_p HC.out hpr zr (by rw [← bl_length,hzr,List.length_replicate];omega))
  have HZr:=Lib.hid hzr
  have HKr:=Lib.hid (HK1.out.trans (Kp.all hbr HP1.out.low))
  have HXr:=Lib.hid ((hbr.block _ (heap_lt HX1.out)).trans HX1.out)
  clear hzr hpr hbr HR d0 d1 d2 d3
  obtain ⟨d0,d1,d2,d3⟩:=so_cellsK HXr.out HKK.out
  go_wp2_with fail
  go_at_call 57
  refine HWr.out.mono ?_
  rintro e w2 ⟨rfl,hp,hk⟩
  rw [HZr.out] at hp
  have HP2:=Lib.hid hp
  have HX2:=Lib.hid (so_kp HXr.out hk hne)
  have HK2:=Lib.hid (HKr.out.trans hk)
  clear hp hk d0 d1 d2 d3 HXr HKr HWr HZr HP1 HX1 HK1
  obtain ⟨d0,d1,d2,d3⟩:=so_cellsK HX2.out HKK.out
  go_upto_region 8 with fail
  have HPd:=Lib.hid (HP2.out.all HC.out (Below.refl _ w2).drew)
  have HKd:=Lib.hid (show Kp B (fun k=>k=b) W w2.drew from HK2.out.drewN 1)
  have HXd:=Lib.hid (show w2.drew.heap[W.heap.size]?=some (so s q1 c1 q2 c2) from HX2.out)
  have HE0:=Lib.hid (fun (w:World) (hp:PI C B b vp (t++List.replicate (2 * n) 32) w)=>exprAt_s s c1 c2 HS.out 0 (by omega) w hp.rd hp.env)
  have HE1:=Lib.hid (fun (w:World) (hp:PI C B b vp (t++List.replicate (2 * n) 32) w)=>exprAt_s s c1 c2 HS.out 1 (by omega) w hp.rd hp.env)
  unfold sv at HE0 HE1
  rw [HKK.out] at HE0 HE1
  have hS0:=so_cellsK HXd.out HKK.out
  refine wp_region_held_drew (S:=(fun w':World=>w'.cell? ⟨W.heap.size,0,none⟩=some (.int .i64 2)∧w'.cell? ⟨W.heap.size,1,none⟩=some (.string s.name)∧w'.cell? ⟨W.heap.size,2,none⟩=some (.slice q1 s.targets.length c1)∧w'.cell? ⟨W.heap.size,3,none⟩=some (.slice q2 s.exprs.length c2))) hmx hS0 (fun hHeld=>?_)
  refine wpAnyH_take (i:=0) (v:=.pointer (some ⟨b,0,none⟩)) rfl (by kernel_rfl) (by kernel_rfl) (by kernel_rfl) (fun _ _ _ h=>h) (Or.inl ⟨by rfl,fun w hSw=>by obtain ⟨s0,s1,s2,s3⟩:=hSw;go_simp⟩) (by assumption) ?_
  try simp only [Act.put,n1,n2,n3,n4,n5,n6]
  refine wpAnyH_take (i:=1) (v:=.pointer (some ⟨W.heap.size,1,none⟩)) rfl (by kernel_rfl) (by kernel_rfl) (by kernel_rfl) (fun _ _ _ h=>h) (Or.inl ⟨by rfl,fun w hSw=>by obtain ⟨s0,s1,s2,s3⟩:=hSw;go_simp⟩) (by assumption) ?_
  try simp only [Act.put,n1,n2,n3,n4,n5,n6]
  refine wpAnyH_take (i:=2) (v:=.string s.name) rfl (by kernel_rfl) (by kernel_rfl) (by kernel_rfl) (fun _ _ _ h=>h) (Or.inl ⟨by rfl,fun w hSw=>by obtain ⟨s0,s1,s2,s3⟩:=hSw;go_simp⟩) (by assumption) ?_
  try simp only [Act.put,n1,n2,n3,n4,n5,n6]
  refine wpAnyH_take (i:=3) (v:=.agg #[.int .i64 2,.string s.name,.slice q1 s.targets.length c1,.slice q2 s.exprs.length c2]) rfl (by kernel_rfl) (by kernel_rfl) (by kernel_rfl) (fun _ _ _ h=>h) (Or.inl ⟨by rfl,fun w hSw=>by obtain ⟨s0,s1,s2,s3⟩:=hSw;go_simp⟩) (by assumption) ?_
  try simp only [Act.put,n1,n2,n3,n4,n5,n6]
  refine wpAnyH_take (i:=5) (v:=.agg #[.int .i64 2,.string s.name,.slice q1 s.targets.length c1,.slice q2 s.exprs.length c2]) rfl (by kernel_rfl) (by kernel_rfl) (by kernel_rfl) (fun _ _ _ h=>h) (Or.inl ⟨by rfl,fun w hSw=>by obtain ⟨s0,s1,s2,s3⟩:=hSw;go_simp⟩) (by assumption) ?_
  try simp only [Act.put,n1,n2,n3,n4,n5,n6]
  refine wpAnyH_ready (rs:=[4]) (by kernel_rfl) (by simp) ?_
  refine AllReadyH.cons rfl (fun K1 hK1=>?_) AllReadyH.nil
  go_simp
  go_at_call 207
  refine (HE0.out _ HPd.out).mono ?_
  rintro e wz1 ⟨z1,rfl,hz1,hb⟩
  have HPz1:=Lib.hid (HPd.out.all HC.out hb)
  have HKz1:=Lib.hid (HKd.out.trans (Kp.all hb HPd.out.low))
  have HXz1:=Lib.hid ((hb.block _ (heap_lt HXd.out)).trans HXd.out)
  have HZ1:=Lib.hid hz1
  clear hb hz1
  refine hK1.out _ _ (so_cellsK HXz1.out HKK.out) (fun hHeld=>?_)
  try simp only [Act.put,n1,n2,n3,n4,n5,n6]
  refine wpAnyH_ready (rs:=[6]) (by kernel_rfl) (by simp) ?_
  refine AllReadyH.cons rfl (fun K2 hK2=>?_) AllReadyH.nil
  go_simp
  go_at_call 207
  refine (HE1.out _ HPz1.out).mono ?_
  rintro e wz2 ⟨z2,rfl,hz2,hb⟩
  have HPz2:=Lib.hid (HPz1.out.all HC.out hb)
  have HKz2:=Lib.hid (HKz1.out.trans (Kp.all hb HPz1.out.low))
  have HXz2:=Lib.hid ((hb.block _ (heap_lt HXz1.out)).trans HXz1.out)
  have HZ2:=Lib.hid hz2
  clear hb hz2
  refine hK2.out _ _ (so_cellsK HXz2.out HKK.out) (fun hHeld=>?_)
  try simp only [Act.put,n1,n2,n3,n4,n5,n6]
  refine wpAnyH_ready (rs:=[7]) (by kernel_rfl) (by simp) ?_
  refine AllReadyH.cons rfl (fun K3 hK3=>?_) AllReadyH.nil
  go_simp
  have HXa:=Lib.hid (heap_new wz2 (.cells #[.string s.name,.string ⟨#[91]⟩,.string z1,.string ⟨#[93,32,61,32]⟩,.string z2,.string ⟨#[59]⟩] 9) HXz2.out)
  refine hK3.out _ _ (so_cellsK HXa.out HKK.out) (fun hHeld=>?_)
  try simp only [Act.put,n1,n2,n3,n4,n5,n6]
  refine wpAnyH_ready (rs:=[8]) (by kernel_rfl) (by simp) ?_
  refine AllReadyH.cons rfl (fun K4 hK4=>?_) AllReadyH.nil
  go_simp
  have HW2:=Lib.hid (putR_p HC.out HPz2.out [s.name,⟨#[91]⟩,z1,⟨#[93,32,61,32]⟩,z2,⟨#[59]⟩] (by simp) (in_six HS.out.f.1 (by decide) (by rw [← bl_length,HZ1.out];exact exAt_len HS.out.f 0) (by decide) (by rw [← bl_length,HZ2.out];exact exAt_len HS.out.f 1) (by decide)) (L:=#[.string s.name,.string ⟨#[91]⟩,.string z1,.string ⟨#[93,32,61,32]⟩,.string z2,.string ⟨#[59]⟩]) rfl (n:=6) rfl)
  go_at_call 111
  refine HW2.out.mono ?_
  rintro e w3 ⟨rfl,hp,hk⟩
  have HP3:=Lib.hid (show PI C B b vp _ w3 from by rw [put6,HZ1.out,HZ2.out] at hp;exact hp)
  have HX3:=Lib.hid (so_kp HXz2.out hk hne)
  have HK3:=Lib.hid (HKz2.out.trans hk)
  clear hp hk
  refine hK4.out _ _ (so_cellsK HX3.out HKK.out) (fun hHeld=>?_)
  try simp only [Act.put,n1,n2,n3,n4,n5,n6]
  refine wpAnyH_done (by kernel_rfl) ?_ _
  obtain ⟨d0,d1,d2,d3⟩:=so_cellsK HX3.out HKK.out
  have HW:=Lib.hid (word_p HC.out HP3.out ⟨#[10]⟩ (by decide))
  go_wp2_with fail
  go_at_call 57
  refine HW.out.mono ?_
  rintro e w4 ⟨rfl,hp,hk⟩
  have HP4:=Lib.hid hp
  have HX4:=Lib.hid (so_kp HX3.out hk hne)
  have HK4:=Lib.hid (HK3.out.trans hk)
  clear hp hk d0 d1 d2 d3 HX3 HK3 HP3 HW
  go_wp2_with fail
  first | go_end0 | refine bodyPost_ret (results_none rfl _ _ _) rfl ?_
  refine ⟨rfl,?_,HK4.out⟩
  have hp:=HP4.out
  unfold lineZ
  rw [HKK.out]
  simpa [List.append_assoc,bl_d0,bl_d1,bl_d2,bl_d3,bl_d4,bl_d5,bl_d6,bl_d7,bl_d8,bl_d9,bl_d10,bl_d11] using hp
end
end Go.Proofs.YtpcniebkabkikaaGreatDoor
namespace Go.Proofs.YtpcniebkabkikaaGreatDoor
open Go Go.RowKit Go.Proofs.Mm
open List renaming setIfInBounds_toArray→n1,set_cons_zero→n2,set_cons_succ→n3,getElem_toArray→n4,getElem_cons_zero→n5,getElem_cons_succ→n6
section
variable {C:Cl} {B b:Nat} {vp:Value} {t:List Nat} {W:World}
set_option maxRecDepth 100000 in
set_option maxHeartbeats 4000000 in
theorem stmt_3 (hc:PC C B) (h:PI C B b vp t W) (s:StZ) (hk:s.kind=3) {q1 q2:Option Addr} (c1 c2:Nat) (hs:SR C s q1 q2) (dp:Int) (n:Nat) (hdp:max dp 0=(n:Int)) (hn:n≤70368744177663) :
    Calls Tryz.prog 166 #[.pointer (some ⟨b,0,none⟩),.int .i64 dp,sv s q1 c1 q2 c2] W (Wrote C B b vp W (t++(List.replicate (2 * n) 32++(lineZ s++[10])))):=by
  have hne:W.heap.size ≠ b:=by have:=h.b_lt;omega
  have HP1:=Lib.hid (h.alloc hc (so s q1 c1 q2 c2))
  have HK1:=Lib.hid ((Kp.refl B (fun k=>k=b) W).alloc h.low (so s q1 c1 q2 c2))
  have HX1:=Lib.hid (World.alloc_heap_new W (so s q1 c1 q2 c2))
  have HC:=Lib.hid hc
  have HS:=Lib.hid hs
  have HKK:=Lib.hid hk
  have hmx:Tryz.prog.follows .mixedOrders=true:=by kernel_rfl
  unfold so at HP1 HK1 HX1
  unfold sv
  rw [hk] at HP1 HK1 HX1 ⊢
  clear h hc hs hk
  go_enter Tryz.func166,Tryz.ntmps166
  go_upto_region 1 with fail
  generalize (W.alloc _:World)=w1 at *
  have HX1:Hid (w1.heap[W.heap.size]?=some (so s q1 c1 q2 c2)):=Lib.hid (by have:=HX1.out;unfold so;rw [HKK.out];exact this)
  obtain ⟨d0,d1,d2,d3⟩:=so_cellsK HX1.out HKK.out
  have HR:=Lib.hid (repeat_p HC.out HP1.out n hn)
  go_wp2_with fail
  go_at_call 205
  refine HR.out.mono ?_
  rintro e wr ⟨zr,rfl,hzr,hpr,hbr⟩
  have HWr:=Lib.hid (word_p HC.out hpr zr (by rw [← bl_length,hzr,List.length_replicate];omega))
  have HZr:=Lib.hid hzr
  have HKr:=Lib.hid (HK1.out.trans (Kp.all hbr HP1.out.low))
  have HXr:=Lib.hid ((hbr.block _ (heap_lt HX1.out)).trans HX1.out)
  clear hzr hpr hbr HR d0 d1 d2 d3
  obtain ⟨d0,d1,d2,d3⟩:=so_cellsK HXr.out HKK.out
  go_wp2_with fail
  go_at_call 57
  refine HWr.out.mono ?_
  rintro e w2 ⟨rfl,hp,hk⟩
  rw [HZr.out] at hp
  have HP2:=Lib.hid hp
  have HX2:=Lib.hid (so_kp HXr.out hk hne)
  have HK2:=Lib.hid (HKr.out.trans hk)
  clear hp hk d0 d1 d2 d3 HXr HKr HWr HZr HP1 HX1 HK1
  obtain ⟨d0,d1,d2,d3⟩:=so_cellsK HX2.out HKK.out
  go_upto_region 10 with fail
  have HPd:=Lib.hid (HP2.out.all HC.out (Below.refl _ w2).drew)
  have HKd:=Lib.hid (show Kp B (fun k=>k=b) W w2.drew from HK2.out.drewN 1)
  have HXd:=Lib.hid (show w2.drew.heap[W.heap.size]?=some (so s q1 c1 q2 c2) from HX2.out)
  have HE0:=Lib.hid (fun (w:World) (hp:PI C B b vp (t++List.replicate (2 * n) 32) w)=>exprAt_s s c1 c2 HS.out 0 (by omega) w hp.rd hp.env)
  have HE1:=Lib.hid (fun (w:World) (hp:PI C B b vp (t++List.replicate (2 * n) 32) w)=>exprAt_s s c1 c2 HS.out 1 (by omega) w hp.rd hp.env)
  unfold sv at HE0 HE1
  rw [HKK.out] at HE0 HE1
  have hS0:=so_cellsK HXd.out HKK.out
  refine wp_region_held_drew (S:=(fun w':World=>w'.cell? ⟨W.heap.size,0,none⟩=some (.int .i64 3)∧w'.cell? ⟨W.heap.size,1,none⟩=some (.string s.name)∧w'.cell? ⟨W.heap.size,2,none⟩=some (.slice q1 s.targets.length c1)∧w'.cell? ⟨W.heap.size,3,none⟩=some (.slice q2 s.exprs.length c2))) hmx hS0 (fun hHeld=>?_)
  refine wpAnyH_take (i:=0) (v:=.pointer (some ⟨b,0,none⟩)) rfl (by kernel_rfl) (by kernel_rfl) (by kernel_rfl) (fun _ _ _ h=>h) (Or.inl ⟨by rfl,fun w hSw=>by obtain ⟨s0,s1,s2,s3⟩:=hSw;go_simp⟩) (by assumption) ?_
  try simp only [Act.put,n1,n2,n3,n4,n5,n6]
  refine wpAnyH_take (i:=1) (v:=.pointer (some ⟨W.heap.size,1,none⟩)) rfl (by kernel_rfl) (by kernel_rfl) (by kernel_rfl) (fun _ _ _ h=>h) (Or.inl ⟨by rfl,fun w hSw=>by obtain ⟨s0,s1,s2,s3⟩:=hSw;go_simp⟩) (by assumption) ?_
  try simp only [Act.put,n1,n2,n3,n4,n5,n6]
  refine wpAnyH_take (i:=2) (v:=.string s.name) rfl (by kernel_rfl) (by kernel_rfl) (by kernel_rfl) (fun _ _ _ h=>h) (Or.inl ⟨by rfl,fun w hSw=>by obtain ⟨s0,s1,s2,s3⟩:=hSw;go_simp⟩) (by assumption) ?_
  try simp only [Act.put,n1,n2,n3,n4,n5,n6]
  refine wpAnyH_take (i:=3) (v:=.agg #[.int .i64 3,.string s.name,.slice q1 s.targets.length c1,.slice q2 s.exprs.length c2]) rfl (by kernel_rfl) (by kernel_rfl) (by kernel_rfl) (fun _ _ _ h=>h) (Or.inl ⟨by rfl,fun w hSw=>by obtain ⟨s0,s1,s2,s3⟩:=hSw;go_simp⟩) (by assumption) ?_
  try simp only [Act.put,n1,n2,n3,n4,n5,n6]
  refine wpAnyH_ready (rs:=[4]) (by kernel_rfl) (by simp) ?_
  refine AllReadyH.cons rfl (fun K1 hK1=>?_) AllReadyH.nil
  go_simp
  go_at_call 207
  refine (HE0.out _ HPd.out).mono ?_
  rintro e wz1 ⟨z1,rfl,hz1,hb⟩
  have HPz1:=Lib.hid (HPd.out.all HC.out hb)
  have HKz1:=Lib.hid (HKd.out.trans (Kp.all hb HPd.out.low))
  have HXz1:=Lib.hid ((hb.block _ (heap_lt HXd.out)).trans HXd.out)
  have HZ1:=Lib.hid hz1
  clear hb hz1
  refine hK1.out _ _ (so_cellsK HXz1.out HKK.out) (fun hHeld=>?_)
  try simp only [Act.put,n1,n2,n3,n4,n5,n6]
  refine wpAnyH_ready (rs:=[5]) (by kernel_rfl) (by simp) ?_
  refine AllReadyH.cons rfl (fun K2 hK2=>?_) AllReadyH.nil
  go_simp
  have HXa:=Lib.hid (heap_new wz1 (.cells #[.string ⟨#[115,101,110,100,32]⟩,.string s.name,.string ⟨#[32]⟩,.string z1,.string ⟨#[59]⟩] 9) HXz1.out)
  refine hK2.out _ _ (so_cellsK HXa.out HKK.out) (fun hHeld=>?_)
  try simp only [Act.put,n1,n2,n3,n4,n5,n6]
  refine wpAnyH_ready (rs:=[6]) (by kernel_rfl) (by simp) ?_
  refine AllReadyH.cons rfl (fun K3 hK3=>?_) AllReadyH.nil
  go_simp
  have HW2:=Lib.hid (putR_p HC.out HPz1.out [⟨#[115,101,110,100,32]⟩,s.name,⟨#[32]⟩,z1,⟨#[59]⟩] (by simp) (in_five (by decide) HS.out.f.1 (by decide) (by rw [← bl_length,HZ1.out];exact exAt_len HS.out.f 0) (by decide)) (L:=#[.string ⟨#[115,101,110,100,32]⟩,.string s.name,.string ⟨#[32]⟩,.string z1,.string ⟨#[59]⟩]) rfl (n:=5) rfl)
  go_at_call 111
  refine HW2.out.mono ?_
  rintro e w3 ⟨rfl,hp,hk⟩
  have HP3:=Lib.hid (show PI C B b vp _ w3 from by rw [put5,HZ1.out] at hp;exact hp)
  have HX3:=Lib.hid (so_kp HXz1.out hk hne)
  have HK3:=Lib.hid (HKz1.out.trans hk)
  clear hp hk
  refine hK3.out _ _ (so_cellsK HX3.out HKK.out) (fun hHeld=>?_)
  try simp only [Act.put,n1,n2,n3,n4,n5,n6]
  refine wpAnyH_done (by kernel_rfl) ?_ _
  obtain ⟨d0,d1,d2,d3⟩:=so_cellsK HX3.out HKK.out
  have HW:=Lib.hid (word_p HC.out HP3.out ⟨#[10]⟩ (by decide))
  go_wp2_with fail
  go_at_call 57
  refine HW.out.mono ?_
  rintro e w4 ⟨rfl,hp,hk⟩
  have HP4:=Lib.hid hp
  have HX4:=Lib.hid (so_kp HX3.out hk hne)
  have HK4:=Lib.hid (HK3.out.trans hk)
  clear hp hk d0 d1 d2 d3 HX3 HK3 HP3 HW
  go_wp2_with fail
  first | go_end0 | refine bodyPost_ret (results_none rfl _ _ _) rfl ?_
  refine ⟨rfl,?_,HK4.out⟩
  have hp:=HP4.out
  unfold lineZ
  rw [HKK.out]
  simpa [List.append_assoc,bl_d0,bl_d1,bl_d2,bl_d3,bl_d4,bl_d5,bl_d6,bl_d7,bl_d8,bl_d9,bl_d10,bl_d11] using hp
end
end Go.Proofs.YtpcniebkabkikaaGreatDoor
namespace Go.Proofs.YtpcniebkabkikaaGreatDoor
open Go Go.RowKit Go.Proofs.Mm
section
variable {C:Cl} {B b:Nat} {vp:Value} {t:List Nat} {W:World}
set_option maxRecDepth 100000 in
set_option maxHeartbeats 4000000 in
theorem stmt_4 (hc:PC C B) (h:PI C B b vp t W) (s:StZ) (hk:s.kind=4) {q1 q2:Option Addr} (c1 c2:Nat) (hs:SR C s q1 q2) (dp:Int) (n:Nat) (hdp:max dp 0=(n:Int)) (hn:n≤70368744177663) :
    Calls Tryz.prog 166 #[.pointer (some ⟨b,0,none⟩),.int .i64 dp,sv s q1 c1 q2 c2] W (Wrote C B b vp W (t++(List.replicate (2 * n) 32++(lineZ s++[10])))):=by
  have hne:W.heap.size ≠ b:=by have:=h.b_lt;omega
  have HP1:=Lib.hid (h.alloc hc (so s q1 c1 q2 c2))
  have HK1:=Lib.hid ((Kp.refl B (fun k=>k=b) W).alloc h.low (so s q1 c1 q2 c2))
  have HX1:=Lib.hid (World.alloc_heap_new W (so s q1 c1 q2 c2))
  have HC:=Lib.hid hc
  have HS:=Lib.hid hs
  have HKK:=Lib.hid hk
  have hmx:Tryz.prog.follows .mixedOrders=true:=by kernel_rfl
  unfold so at HP1 HK1 HX1
  unfold sv
  rw [hk] at HP1 HK1 HX1 ⊢
  clear h hc hs hk
  go_enter Tryz.func166,Tryz.ntmps166
  go_upto_region 1 with fail
  generalize (W.alloc _:World)=w1 at *
  have HX1:Hid (w1.heap[W.heap.size]?=some (so s q1 c1 q2 c2)):=Lib.hid (by have:=HX1.out;unfold so;rw [HKK.out];exact this)
  obtain ⟨d0,d1,d2,d3⟩:=so_cellsK HX1.out HKK.out
  have HR:=Lib.hid (repeat_p HC.out HP1.out n hn)
  go_wp2_with fail
  go_at_call 205
  refine HR.out.mono ?_
  rintro e wr ⟨zr,rfl,hzr,hpr,hbr⟩
  have HWr:=Lib.hid (word_p HC.out hpr zr (by rw [← bl_length,hzr,List.length_replicate];omega))
  have HZr:=Lib.hid hzr
  have HKr:=Lib.hid (HK1.out.trans (Kp.all hbr HP1.out.low))
  have HXr:=Lib.hid ((hbr.block _ (heap_lt HX1.out)).trans HX1.out)
  clear hzr hpr hbr HR d0 d1 d2 d3
  obtain ⟨d0,d1,d2,d3⟩:=so_cellsK HXr.out HKK.out
  go_wp2_with fail
  go_at_call 57
  refine HWr.out.mono ?_
  rintro e w2 ⟨rfl,hp,hk⟩
  rw [HZr.out] at hp
  have HP2:=Lib.hid hp
  have HX2:=Lib.hid (so_kp HXr.out hk hne)
  have HK2:=Lib.hid (HKr.out.trans hk)
  clear hp hk d0 d1 d2 d3 HXr HKr HWr HZr HP1 HX1 HK1
  obtain ⟨d0,d1,d2,d3⟩:=so_cellsK HX2.out HKK.out
  have HW:=Lib.hid (call_p HC.out HP2.out s c1 c2 HS.out)
  unfold sv at HW
  rw [HKK.out] at HW
  go_wp2_with fail
  go_at_call 208
  refine HW.out.mono ?_
  rintro e w3 ⟨rfl,hp,hk⟩
  have HP3:=Lib.hid hp
  have HX3:=Lib.hid (so_kp HX2.out hk hne)
  have HK3:=Lib.hid (HK2.out.trans hk)
  clear hp hk d0 d1 d2 d3 HX2 HK2 HP2 HW
  obtain ⟨d0,d1,d2,d3⟩:=so_cellsK HX3.out HKK.out
  have HW:=Lib.hid (word_p HC.out HP3.out ⟨#[10]⟩ (by decide))
  go_wp2_with fail
  go_at_call 57
  refine HW.out.mono ?_
  rintro e w4 ⟨rfl,hp,hk⟩
  have HP4:=Lib.hid hp
  have HX4:=Lib.hid (so_kp HX3.out hk hne)
  have HK4:=Lib.hid (HK3.out.trans hk)
  clear hp hk d0 d1 d2 d3 HX3 HK3 HP3 HW
  go_wp2_with fail
  first | go_end0 | refine bodyPost_ret (results_none rfl _ _ _) rfl ?_
  refine ⟨rfl,?_,HK4.out⟩
  have hp:=HP4.out
  unfold lineZ
  rw [HKK.out]
  simpa [List.append_assoc,bl_d0,bl_d1,bl_d2,bl_d3,bl_d4,bl_d5,bl_d6,bl_d7,bl_d8,bl_d9,bl_d10,bl_d11] using hp
end
end Go.Proofs.YtpcniebkabkikaaGreatDoor
namespace Go.Proofs.YtpcniebkabkikaaGreatDoor
open Go Go.RowKit Go.Proofs.Mm
section
variable {C:Cl} {B b:Nat} {vp:Value} {t:List Nat} {W:World}
set_option maxRecDepth 100000 in
set_option maxHeartbeats 4000000 in
theorem stmt_5 (hc:PC C B) (h:PI C B b vp t W) (s:StZ) (hk:s.kind=5) {q1 q2:Option Addr} (c1 c2:Nat) (hs:SR C s q1 q2) (dp:Int) (n:Nat) (hdp:max dp 0=(n:Int)) (hn:n≤70368744177663) :
    Calls Tryz.prog 166 #[.pointer (some ⟨b,0,none⟩),.int .i64 dp,sv s q1 c1 q2 c2] W (Wrote C B b vp W (t++(List.replicate (2 * n) 32++(lineZ s++[10])))):=by
  have hne:W.heap.size ≠ b:=by have:=h.b_lt;omega
  have HP1:=Lib.hid (h.alloc hc (so s q1 c1 q2 c2))
  have HK1:=Lib.hid ((Kp.refl B (fun k=>k=b) W).alloc h.low (so s q1 c1 q2 c2))
  have HX1:=Lib.hid (World.alloc_heap_new W (so s q1 c1 q2 c2))
  have HC:=Lib.hid hc
  have HS:=Lib.hid hs
  have HKK:=Lib.hid hk
  have hmx:Tryz.prog.follows .mixedOrders=true:=by kernel_rfl
  unfold so at HP1 HK1 HX1
  unfold sv
  rw [hk] at HP1 HK1 HX1 ⊢
  clear h hc hs hk
  go_enter Tryz.func166,Tryz.ntmps166
  go_upto_region 1 with fail
  generalize (W.alloc _:World)=w1 at *
  have HX1:Hid (w1.heap[W.heap.size]?=some (so s q1 c1 q2 c2)):=Lib.hid (by have:=HX1.out;unfold so;rw [HKK.out];exact this)
  obtain ⟨d0,d1,d2,d3⟩:=so_cellsK HX1.out HKK.out
  have HR:=Lib.hid (repeat_p HC.out HP1.out n hn)
  go_wp2_with fail
  go_at_call 205
  refine HR.out.mono ?_
  rintro e wr ⟨zr,rfl,hzr,hpr,hbr⟩
  have HWr:=Lib.hid (word_p HC.out hpr zr (by rw [← bl_length,hzr,List.length_replicate];omega))
  have HZr:=Lib.hid hzr
  have HKr:=Lib.hid (HK1.out.trans (Kp.all hbr HP1.out.low))
  have HXr:=Lib.hid ((hbr.block _ (heap_lt HX1.out)).trans HX1.out)
  clear hzr hpr hbr HR d0 d1 d2 d3
  obtain ⟨d0,d1,d2,d3⟩:=so_cellsK HXr.out HKK.out
  go_wp2_with fail
  go_at_call 57
  refine HWr.out.mono ?_
  rintro e w2 ⟨rfl,hp,hk⟩
  rw [HZr.out] at hp
  have HP2:=Lib.hid hp
  have HX2:=Lib.hid (so_kp HXr.out hk hne)
  have HK2:=Lib.hid (HKr.out.trans hk)
  clear hp hk d0 d1 d2 d3 HXr HKr HWr HZr HP1 HX1 HK1
  obtain ⟨d0,d1,d2,d3⟩:=so_cellsK HX2.out HKK.out
  have HW:=Lib.hid (exprAt_s s c1 c2 HS.out 0 (by omega) w2 HP2.out.rd HP2.out.env)
  unfold sv at HW
  rw [HKK.out] at HW
  go_wp2_with fail
  go_at_call 207
  refine HW.out.mono ?_
  rintro e wz ⟨z,rfl,hz,hb⟩
  have HPz:=Lib.hid (HP2.out.all HC.out hb)
  have HKz:=Lib.hid (HK2.out.trans (Kp.all hb HP2.out.low))
  have HXz:=Lib.hid ((hb.block _ (heap_lt HX2.out)).trans HX2.out)
  have HZ:=Lib.hid hz
  have HW2:=Lib.hid (putR_p HC.out HPz.out [⟨#[105,102,32]⟩,z,⟨#[32,123]⟩] (by simp) (in_three (by decide) (by rw [← bl_length,hz];exact exAt_len HS.out.f 0) (by decide)) (L:=#[.string ⟨#[105,102,32]⟩,.string z,.string ⟨#[32,123]⟩]) rfl (n:=3) rfl)
  clear hz hb HW HP2 HK2 HX2 d0 d1 d2 d3
  obtain ⟨d0,d1,d2,d3⟩:=so_cellsK HXz.out HKK.out
  go_wp2_with fail
  go_at_call 111
  refine HW2.out.mono ?_
  rintro e w3 ⟨rfl,hp,hk⟩
  have HP3:=Lib.hid (show PI C B b vp _ w3 from by rw [put3,HZ.out] at hp;exact hp)
  have HX3:=Lib.hid (so_kp HXz.out hk hne)
  have HK3:=Lib.hid (HKz.out.trans hk)
  clear hp hk d0 d1 d2 d3 HXz HKz HPz HW2 HZ
  obtain ⟨d0,d1,d2,d3⟩:=so_cellsK HX3.out HKK.out
  have HW:=Lib.hid (word_p HC.out HP3.out ⟨#[10]⟩ (by decide))
  go_wp2_with fail
  go_at_call 57
  refine HW.out.mono ?_
  rintro e w4 ⟨rfl,hp,hk⟩
  have HP4:=Lib.hid hp
  have HX4:=Lib.hid (so_kp HX3.out hk hne)
  have HK4:=Lib.hid (HK3.out.trans hk)
  clear hp hk d0 d1 d2 d3 HX3 HK3 HP3 HW
  go_wp2_with fail
  first | go_end0 | refine bodyPost_ret (results_none rfl _ _ _) rfl ?_
  refine ⟨rfl,?_,HK4.out⟩
  have hp:=HP4.out
  unfold lineZ
  rw [HKK.out]
  simpa [List.append_assoc,bl_d0,bl_d1,bl_d2,bl_d3,bl_d4,bl_d5,bl_d6,bl_d7,bl_d8,bl_d9,bl_d10,bl_d11] using hp
end
end Go.Proofs.YtpcniebkabkikaaGreatDoor
namespace Go.Proofs.YtpcniebkabkikaaGreatDoor
open Go Go.RowKit Go.Proofs.Mm
section
variable {C:Cl} {B b:Nat} {vp:Value} {t:List Nat} {W:World}
set_option maxRecDepth 100000 in
set_option maxHeartbeats 4000000 in
theorem stmt_6 (hc:PC C B) (h:PI C B b vp t W) (s:StZ) (hk:s.kind=6) {q1 q2:Option Addr} (c1 c2:Nat) (hs:SR C s q1 q2) (dp:Int) (n:Nat) (hdp:max dp 0=(n:Int)) (hn:n≤70368744177663) :
    Calls Tryz.prog 166 #[.pointer (some ⟨b,0,none⟩),.int .i64 dp,sv s q1 c1 q2 c2] W (Wrote C B b vp W (t++(List.replicate (2 * n) 32++(lineZ s++[10])))):=by
  have hne:W.heap.size ≠ b:=by have:=h.b_lt;omega
  have HP1:=Lib.hid (h.alloc hc (so s q1 c1 q2 c2))
  have HK1:=Lib.hid ((Kp.refl B (fun k=>k=b) W).alloc h.low (so s q1 c1 q2 c2))
  have HX1:=Lib.hid (World.alloc_heap_new W (so s q1 c1 q2 c2))
  have HC:=Lib.hid hc
  have HS:=Lib.hid hs
  have HKK:=Lib.hid hk
  have hmx:Tryz.prog.follows .mixedOrders=true:=by kernel_rfl
  unfold so at HP1 HK1 HX1
  unfold sv
  rw [hk] at HP1 HK1 HX1 ⊢
  clear h hc hs hk
  go_enter Tryz.func166,Tryz.ntmps166
  go_upto_region 1 with fail
  generalize (W.alloc _:World)=w1 at *
  have HX1:Hid (w1.heap[W.heap.size]?=some (so s q1 c1 q2 c2)):=Lib.hid (by have:=HX1.out;unfold so;rw [HKK.out];exact this)
  obtain ⟨d0,d1,d2,d3⟩:=so_cellsK HX1.out HKK.out
  have HR:=Lib.hid (repeat_p HC.out HP1.out n hn)
  go_wp2_with fail
  go_at_call 205
  refine HR.out.mono ?_
  rintro e wr ⟨zr,rfl,hzr,hpr,hbr⟩
  have HWr:=Lib.hid (word_p HC.out hpr zr (by rw [← bl_length,hzr,List.length_replicate];omega))
  have HZr:=Lib.hid hzr
  have HKr:=Lib.hid (HK1.out.trans (Kp.all hbr HP1.out.low))
  have HXr:=Lib.hid ((hbr.block _ (heap_lt HX1.out)).trans HX1.out)
  clear hzr hpr hbr HR d0 d1 d2 d3
  obtain ⟨d0,d1,d2,d3⟩:=so_cellsK HXr.out HKK.out
  go_wp2_with fail
  go_at_call 57
  refine HWr.out.mono ?_
  rintro e w2 ⟨rfl,hp,hk⟩
  rw [HZr.out] at hp
  have HP2:=Lib.hid hp
  have HX2:=Lib.hid (so_kp HXr.out hk hne)
  have HK2:=Lib.hid (HKr.out.trans hk)
  clear hp hk d0 d1 d2 d3 HXr HKr HWr HZr HP1 HX1 HK1
  obtain ⟨d0,d1,d2,d3⟩:=so_cellsK HX2.out HKK.out
  have HW:=Lib.hid (word_p HC.out HP2.out ⟨#[125,32,101,108,115,101,32,123]⟩ (by decide))
  go_wp2_with fail
  go_at_call 57
  refine HW.out.mono ?_
  rintro e w3 ⟨rfl,hp,hk⟩
  have HP3:=Lib.hid hp
  have HX3:=Lib.hid (so_kp HX2.out hk hne)
  have HK3:=Lib.hid (HK2.out.trans hk)
  clear hp hk d0 d1 d2 d3 HX2 HK2 HP2 HW
  obtain ⟨d0,d1,d2,d3⟩:=so_cellsK HX3.out HKK.out
  have HW:=Lib.hid (word_p HC.out HP3.out ⟨#[10]⟩ (by decide))
  go_wp2_with fail
  go_at_call 57
  refine HW.out.mono ?_
  rintro e w4 ⟨rfl,hp,hk⟩
  have HP4:=Lib.hid hp
  have HX4:=Lib.hid (so_kp HX3.out hk hne)
  have HK4:=Lib.hid (HK3.out.trans hk)
  clear hp hk d0 d1 d2 d3 HX3 HK3 HP3 HW
  go_wp2_with fail
  first | go_end0 | refine bodyPost_ret (results_none rfl _ _ _) rfl ?_
  refine ⟨rfl,?_,HK4.out⟩
  have hp:=HP4.out
  unfold lineZ
  rw [HKK.out]
  simpa [List.append_assoc,bl_d0,bl_d1,bl_d2,bl_d3,bl_d4,bl_d5,bl_d6,bl_d7,bl_d8,bl_d9,bl_d10,bl_d11] using hp
end
end Go.Proofs.YtpcniebkabkikaaGreatDoor
