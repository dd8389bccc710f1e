/- PrintBare, walked. A source that comes in, opened: its rows as they read, where its bulk is small. From what the cards list to the memory that package lex's calls ask; and what every law's row comes to: it returns true, and below the memory that came in nothing has turned. -/
import Derived.Test.YtpcniebkabkikaaGreatDoorVSR25
import Derived.Test.YtpcniebkabkikaaGreatDoorVSR23
import Derived.Deep.Cut
import Derived.Test.YtpcniebkabkikaaGreatDoorRows
import Derived.Deep.Slices
import Derived.SizedLaws
import Derived.ChangeArms
import Derived.Lib.LaidU8
import Derived.Test.YtpcniebkabkikaaGreatDoorVSR6
import Derived.Test.YtpcniebkabkikaaGreatDoorTie
import Derived.Test.YtpcniebkabkikaaGreatDoorCards
import Derived.ProofKit
import Derived.OpenShut
import Derived.LaidMore
import Derived.Lay
import Derived.ChangeMaps5
import Derived.SevenTiedAt
import Derived.Stop.Joined
import Derived.Stop.LaidErr
import Derived.Stop.ErrReads
import Derived.PinnedBridge
import Derived.Lib.LaidU8T
namespace Go.Proofs.YtpcniebkabkikaaGreatDoor
open Go Go.RowKit Go.Proofs.Mm
open List renaming setIfInBounds_toArray→n1,set_cons_zero→n2,set_cons_succ→n3,getElem_toArray→n4,getElem_cons_zero→n5,getElem_cons_succ→n6
open Go.Proofs.Syn (K Ex Tm)
section
variable {C:Cl} {W:World} {q:Option Addr} {c:Nat}
set_option maxRecDepth 100000 in
set_option maxHeartbeats 8000000 in
theorem bare_yes (l:List TmZ) (hf:ExF l) (k:Int) (hrow:TmRow C q l) (hc:c≤maxLen) (hlc:l.length≤c) (hr:CLe C (wC W)) (hE:EnvP W) (hwh:wholeZ l=true) (hlg:(exZ l).length≤2000) :
    Calls Tryz.prog 7 #[.slice q l.length c,.int .i64 k] W fun e w'=>e=.returned (.bool true)∧Below W.heap.size W w':=by
  have HX:=Lib.hid (expr_p (W:=W) l hf hrow hc hlc hr hE)
  have HE:=Lib.hid hE
  have HR:=Lib.hid hr
  have HROW:=Lib.hid hrow
  have hw2:wholeF l 0=some 1:=by unfold wholeZ at hwh;simpa using hwh
  obtain ⟨e,⟨a1,a2⟩,h1,h2,_⟩:=whole_tree hwh (fun t ht=>(hf.2 t ht).2)
  have he:exZ l=exText dgN e 0:=by unfold exZ;rw [if_pos hwh,h2]
  have HBK:=Lib.hid (show e.flat.map tmOf=l from by rw [← h1];exact tms_back (whole_right hw2))
  have HTM:=Lib.hid h1
  have HW:=Lib.hid (And.intro a1 a2)
  have hpos:=flat_pos e
  have hln:l.length=e.flat.length:=by rw [← h1,List.length_map]
  have HLEN:=Lib.hid hln
  rw [hwh] at HX
  rw [he] at HX hlg
  have hl1:l.length≤2097152:=hf.1
  have hl2:1≤l.length:=by omega
  clear hrow hr hE hc hlc hwh hf h1 h2 hw2 a1 a2 hpos hln he
  obtain ⟨n,hn⟩:∃ n,l.length=n:=⟨_,rfl⟩
  have HNN:=Lib.hid hn
  rw [hn] at HX hl1 hl2 ⊢
  clear hn
  go_enter Tryz.func7,Tryz.ntmps7
  go_wp2_with fail
  go_at_call 14
  refine HX.out.mono ?_
  rintro e1 w1 ⟨s,rfl,hs,hb1⟩
  have HS:=Lib.hid hs
  have hsz:s.size≤2000:=by rw [← bl_length,hs];exact hlg
  have hszi:¬ (2000:Int)<(s.size:Int):=by omega
  have HB1:=Lib.hid hb1
  clear hb1 hs hlg HX
  go_wp2_with fail
  go_at_call 12
  refine (awake_p _ (HE.out.all HB1.out)).mono ?_
  rintro e1 w2 ⟨rfl,hb2⟩
  have HB2:=Lib.hid (on_below HB1.out hb2)
  clear hb2
  have HPX:=Lib.hid (expr_of_any s w2 (HE.out.all HB2.out).lex (m:=fun _=>none) (fun _ _ e=>by cases e))
  go_wp2_with fail
  go_at_call 27
  refine HPX.out.mono ?_
  intro e1 w3 hres
  obtain ⟨hb3,⟨er,a,hexp,rfl⟩ | ⟨l3,q3,c3,m3,hexp,rfl,htm,_,hhas⟩⟩:=hres.cases
  · obtain rfl:er=51:=by
      rcases exp_text HW.out.1 HW.out.2 HS.out (by omega) with h | ⟨a',h⟩
      · rw [h] at hexp;cases hexp
      · rw [h] at hexp;injection hexp with hexp;injection hexp with h _;exact h.symm
    have HB3:=Lib.hid (on_below HB2.out hb3)
    have HB4:=Lib.hid (on_alloc HB3.out (.cells #[.int .i64 (51:Nat),.int .i64 (-1),.int .i64 (a:Nat)] 61))
    have hfl:=World.alloc_heap_new w3 (.cells #[.int .i64 (51:Nat),.int .i64 (-1),.int .i64 (a:Nat)] 61)
    have f0:=cell_of (j:=0) hfl rfl
    have f1:=cell_of (j:=1) hfl rfl
    have f2:=cell_of (j:=2) hfl rfl
    clear hb3 hres hexp HPX hfl
    go_wp2_with fail
    go_ret
    exact ⟨rfl,HB4.out⟩
  · obtain rfl:l3=e.flat:=by
      rcases exp_text HW.out.1 HW.out.2 HS.out (by omega) with h | ⟨a',h⟩
      · rw [h] at hexp;injection hexp with hexp;exact hexp.symm
      · rw [h] at hexp;cases hexp
    have HB3:=Lib.hid (on_below HB2.out hb3)
    obtain ⟨q3',c3',h3v,hrow3,hc3,hlc3⟩:=tm_rowM htm
    rw [HBK.out] at h3v hrow3 hlc3
    injection h3v with hq3 _ hcc3
    subst hq3 hcc3
    have hfn:e.flat.length=n:=by rw [← HLEN.out,HNN.out]
    rw [hfn]
    have HB4:=Lib.hid (on_alloc HB3.out (.cells #[.int .i64 0,.int .i64 0,.int .i64 0] 61))
    have hfl:=World.alloc_heap_new w3 (.cells #[.int .i64 0,.int .i64 0,.int .i64 0] 61)
    have f0:=cell_of (j:=0) hfl rfl
    have f1:=cell_of (j:=1) hfl rfl
    have f2:=cell_of (j:=2) hfl rfl
    have HKT:=Lib.hid (fun w (h:Below w3.heap.size w3 w) (h':Below W.heap.size W w)=>(kitTm (w:=w) (c:=c3) (c':=c) (by rw [HNN.out];omega) (by rw [HNN.out];omega) hrow3 HROW.out ((has_cle hhas).trans (below_cle h)) (HR.out.trans (below_cle h'))).mono (fun e w' h=>says_true rfl h))
    have hb4:Below w3.heap.size w3 (w3.alloc (.cells #[.int .i64 0,.int .i64 0,.int .i64 0] 61)):=(Below.refl _ _).alloc (Nat.le_refl _) _
    have HB34:=Lib.hid hb4
    rw [HNN.out] at HKT
    clear hb3 hres hexp HPX hfl hfn hrow3 hc3 hlc3 htm hhas hb4
    go_wp2_with fail
    go_at_call 28
    refine (HKT.out _ HB34.out HB4.out).mono ?_
    rintro e1 w5 h5
    obtain ⟨rfl,hb5⟩:=h5.below
    have HB5:=Lib.hid (on_below HB4.out hb5)
    clear hb5 h5 HKT HB34 f0 f1 f2 HB3 HB4
    obtain ⟨i3,h2,h3,h4,h5⟩:=infoIn
    obtain ⟨B,hB⟩:∃ B,w5.heap.size=B:=⟨_,rfl⟩
    have HBB:=Lib.hid hB
    go_upto_region 11 with fail
    go_loopw [9,10] (fun v i wr=>∃ kk:Nat,kk≤s.size∧i=.int .i64 (kk:Nat)∧Hid (wr.ownsRow B 3 1 v (opB (bl s) kk).length ((opB (bl s) kk).map fun n=>Value.int .i64 (n:Nat)))∧Hid (Below B w5 wr)) (fun _ i _=>s.size - (intOf i).toNat)
    case atStart=>exact ⟨0,Nat.zero_le _,rfl,Lib.hid (World.ownsRow_nil _ _ _ _),Lib.hid (Below.refl _ _)⟩
    case round =>
      obtain ⟨kk,hkk,rfl,HR1,HBW⟩:=hrel
      by_cases hlt:kk<s.size
      · have hlti:(kk:Int)<(s.size:Int):=by omega
        have hget:=bl_get s kk hlt
        have hsn:=opB_succ (bl s) kk
        rw [hget] at hsn
        have hBW:=HBW.out.size
        by_cases h40:(s[kk]).toNat=40
        · rw [h40,if_pos rfl] at hsn
          have HSN:=Lib.hid hsn
          have e40:(((s[kk]).toNat:Int) == 40)=true:=by rw [h40];rfl
          have hlen:=opB_len (bl s) kk
          clear hsn hget h40
          generalize opB (bl s) kk=ops at *
          obtain ⟨qv,cv,rfl⟩:=own_shape HR1.out
          have hR':=HR1.out.alloc (.cells #[.int .i64 (kk:Int)] 3)
          have hnew:=row_new wr [.int .i64 (kk:Int)] 3
          have hone:∀ u ∈ [Value.int .i64 (kk:Int)],u.oneCell'=true:=by intro u hu;rw [List.mem_singleton.1 hu];rfl
          go_wp2_with (at_builtin;refine wpList_append_own _ rfl _ _ 67 rfl B 3 i3 (.int .i64 0) 1 8 und_ints h2 h3 h4 h5 rfl (by decide) _ _ _ rfl hR' ⟨wr.heap.size,0,none⟩ 1 1 [.int .i64 (kk:Int)] rfl rfl hnew hone (by unfold maxLen;omega) (by omega) (by simp;omega) ?_)
          intro v' w9 hR9 hg9 _
          have hB9:Below B w5 w9:=grown_bel (HBW.out.alloc (by omega) _) (by simp;omega) hg9 (fun j hj=>(hR'.lt j hj).1)
          have HB9:=Lib.hid hB9
          have HR9:=Lib.hid hR9
          clear hR9 hg9 hB9 hR' hnew
          go_wp2
          refine ⟨⟨kk+1,by omega,by go_num,Lib.hid ?_,HB9⟩,by simp [intOf];omega⟩
          rw [HSN.out,List.length_append,List.length_singleton,List.map_append]
          exact HR9.out
        · rw [if_neg (by simpa using h40),List.append_nil] at hsn
          have HSN:=Lib.hid hsn
          have e40:(((s[kk]).toNat:Int) == 40)=false:=by simp;omega
          clear hsn hget h40
          go_wp2
          exact ⟨⟨kk+1,by omega,by go_num,Lib.hid (by rw [HSN.out];exact HR1.out),HBW⟩,by simp [intOf];omega⟩
      · obtain rfl:kk=s.size:=by omega
        obtain ⟨qv,cv,rfl⟩:=own_shape HR1.out
        obtain ⟨N,hN⟩:∃ N,(opB (bl s) s.size).length=N:=⟨_,rfl⟩
        have HN2:=Lib.hid hN
        rw [hN]
        rcases Nat.eq_zero_or_pos N with h0 | h0
        · subst h0
          have HBF:=Lib.hid (show Below W.heap.size W wr from HB5.out.trans (HBW.out.mono (by rw [← HBB.out];exact HB5.out.size)))
          clear hN
          go_wp2
          go_ret
          exact ⟨rfl,HBF.out⟩
        · have hne0:((N:Int) == 0)=false:=by simp;omega
          have hnz:¬ (N:Int)=0:=by omega
          clear hN
          have HSH:=Lib.hid (show Shut (bl s) from by rw [HS.out];exact shut_ex e 0 HW.out.1 HW.out.2)
          have hr1:k.tmod (N:Int)<(N:Int):=Int.tmod_lt_of_pos _ (by omega)
          have hr2:-(N:Int)<k.tmod (N:Int):=by
            have:=Int.tmod_lt_of_pos (-k) (show (0:Int)<(N:Int) by omega)
            rw [Int.neg_tmod] at this
            omega
          have HSZ:=Lib.hid (show N≤s.size from by rw [← HN2.out];exact opB_len _ _)
          go_upto_region 18 with fail
          generalize k.tmod (N:Int)=r at *
          have hkey:∃ nn:Nat,nn<N∧((0≤r∧r=(nn:Int)) ∨ (r<0∧r+(N:Int)=(nn:Int))):=by
            by_cases h:0≤r
            · exact ⟨r.toNat,by omega,.inl ⟨h,by omega⟩⟩
            · exact ⟨(r+N).toNat,by omega,.inr ⟨by omega,by omega⟩⟩
          obtain ⟨nn,hnn,hcase⟩:=hkey
          have hj:nn<(opB (bl s) s.size).length:=by rw [HN2.out];exact hnn
          obtain ⟨F,hF⟩:∃ F,(opB (bl s) s.size)[nn]=F:=⟨_,rfl⟩
          obtain ⟨hF1,hF2⟩:=opB_mem (show F ∈ opB (bl s) s.size from by rw [← hF];exact List.getElem_mem hj)
          obtain ⟨m,hm1,hm2,hm3⟩:=HSH.out F hF2 []
          rw [List.append_nil] at hm1
          rw [bl_length] at hm3
          have HM:=Lib.hid hm1
          have HF2:=Lib.hid hF2
          have hcell:∃ g,qv=some ⟨g,0,none⟩∧wr.cell? ⟨g,nn,none⟩=some (.int .i64 (F:Nat)):=by
            rcases HR1.out.2 with ⟨_,h0'⟩ | ⟨g,cap,cur,h0',_,g3,_,_,_,g7⟩
            · omega
            · injection h0' with h0' _ _
              refine ⟨g,h0',cell_of g3 ?_⟩
              have hx:((opB (bl s) s.size).map fun n=>Value.int .i64 (n:Nat))[nn]?=some (.int .i64 (F:Nat)):=by
                rw [List.getElem?_map,List.getElem?_eq_getElem hj,hF];rfl
              rw [← g7,List.getElem?_take] at hx
              split at hx
              · simpa using hx
              · cases hx
          obtain ⟨g,rfl,hcl⟩:=hcell
          have hF3:(F:Int)<(s.size:Int):=by omega
          have hnni:(nn:Int)<(N:Int):=by omega
          have hwn:wrap64 (nn:Int)=(nn:Int):=wrap_small (by have:=HSZ.out;omega)
          have hrr1:=hr1
          have hrr2:=hr2
          clear hF2 hm1 hj hF hr1 hr2
          go_upto_if 84 with (fail)
          go_cut [11] from 85 to 89 (fun v wx=>v=.int .i64 (nn:Nat)∧wx=wr)
          case first =>
            rcases hcase with ⟨hr0,rfl⟩ | ⟨hr0,hrn⟩
            · go_wp2_with fail
              go_meet
              exact ⟨rfl,rfl⟩
            · clear HSH HSZ HM HF2 hcl hF3 hnni hne0 hrr1 hrr2 hF1 hm2 hm3 hnn HN2 HR1 HBW HW HS HTM HBK HROW HR HE HLEN HNN HB5 HB2 HB1 hszi hsz
              go_wp2_with fail
              go_meet
              exact ⟨congrArg (Value.int .i64) hwn,rfl⟩
          case rest =>
          obtain ⟨rfl,hwc⟩:=hcut
          have hwc':=hwc.symm
          clear hwc hcase hrr1 hrr2 hwn hne0 hnz
          subst hwc'
          go_upto_region 24 with fail
          go_loop [13,14,15] (fun v1 v2 v3=>∃ p d:Nat,v1=.int .i64 (d:Nat)∧v2=.int .i64 (F:Nat)∧v3=.int .i64 (p:Nat)∧F≤p∧p≤F+m∧d≤p∧((p=F∧d=0) ∨ 1≤d)∧Hid (shF ((bl s).drop p) d=some (F+m - p))) (fun _ _ i=>s.size - (intOf i).toNat)
          case atStart=>exact ⟨F,0,rfl,rfl,rfl,Nat.le_refl _,Nat.le_add_right _ _,Nat.zero_le _,.inl ⟨rfl,rfl⟩,Lib.hid (by rw [HM.out,Nat.add_sub_cancel_left])⟩
          case round =>
            obtain ⟨p,d,rfl,rfl,rfl,hFp,hjm,hdj,hjd,HSF⟩:=hrel
            have hlt:p<s.size:=by omega
            have hlti:(p:Int)<(s.size:Int):=by omega
            have hhd:=head_at s p hlt
            have hsf:=HSF.out
            rw [hhd] at hsf
            have hget:=bl_get s p hlt
            obtain ⟨b,hb⟩:∃ b,(s[p]).toNat=b:=⟨_,rfl⟩
            rw [hb] at hsf hget
            have hdw:d≤2000:=by omega
            by_cases h40:b=40
            · subst h40
              rw [shF_op] at hsf
              have HN:=Lib.hid (show shF ((bl s).drop (p+1)) (d+1)=some (F+m - (p+1))∧p+1≤F+m from by
                cases hx:shF ((bl s).drop (p+1)) (d+1) with
                | none=>rw [hx] at hsf;cases hsf
                | some y =>
                  rw [hx] at hsf
                  have:y+1=F+m - p:=by simpa using hsf
                  exact ⟨by congr 1;omega,by omega⟩)
              have e40:(((s[p]).toNat:Int) == 40)=true:=by rw [hb];rfl
              have e41:(((s[p]).toNat:Int) == 41)=false:=by rw [hb];rfl
              clear hsf hget hhd HSF hb
              go_wp2
              exact ⟨⟨p+1,d+1,by go_num,rfl,by go_num,by omega,HN.out.2,by omega,.inr (by omega),Lib.hid HN.out.1⟩,by simp [intOf];omega⟩
            by_cases h41:b=41
            · subst h41
              have hd1:1≤d:=by
                rcases hjd with ⟨rfl,rfl⟩ | h
                · exfalso
                  have:=HF2.out
                  rw [hget] at this
                  cases this
                · exact h
              have e40:(((s[p]).toNat:Int) == 40)=false:=by rw [hb];rfl
              have e41:(((s[p]).toNat:Int) == 41)=true:=by rw [hb];rfl
              by_cases hd2:d=1
              · subst hd2
                have HE1:=Lib.hid (show p=F+m from by
                  rw [shF,if_pos ⟨rfl,rfl⟩] at hsf
                  have:0=F+m - p:=by simpa using hsf
                  omega)
                clear hsf hget hhd HSF hb
                go_upto_region 32 with fail
                have hpm:p<s.size:=by omega
                have hFp1:F+1≤p:=by have:=HE1.out;omega
                obtain ⟨f1,hf1⟩:∃ f1,F+1=f1:=⟨_,rfl⟩
                obtain ⟨p1,hp1⟩:∃ p1,p+1=p1:=⟨_,rfl⟩
                have HFP:=Lib.hid (And.intro hf1 hp1)
                have c1:(f1:Int)≤(p:Int):=by omega
                have c2:(p:Int)≤(s.size:Int):=by omega
                have c3:(p1:Int)≤(s.size:Int):=by omega
                have c4:(F:Int)≤(s.size:Int):=by omega
                have c5:(F:Int)+1=(f1:Int):=by omega
                have c6:(p:Int)+1=(p1:Int):=by omega
                have x1:(s.extract 0 F).size≤2000:=by rw [ByteArray.size_extract];omega
                have x2:(s.extract f1 p).size≤2000:=by rw [ByteArray.size_extract];omega
                have x3:(s.extract p1 s.size).size≤2000:=by rw [ByteArray.size_extract];omega
                have hbl:(bl (s.extract 0 F++⟨#[32]⟩++s.extract f1 p++⟨#[32]⟩++s.extract p1 s.size)).count 40<(exText dgN e 0).count 40:=by
                  have hfew:=fewer (l:=bl s) (i:=F) (j:=p) HF2.out (by omega) (by rw [bl_length];exact hpm)
                  have t1:(bl s).take s.size=bl s:=List.take_of_length_le (by rw [bl_length];exact Nat.le_refl _)
                  rw [← HS.out,bl_cat,bl_cat,bl_cat,bl_cat,bl_extract,bl_extract,bl_extract,← hf1,← hp1,List.drop_zero,t1,List.drop_take]
                  exact hfew
                obtain ⟨A,hA⟩:∃ A,s.extract 0 F=A:=⟨_,rfl⟩
                obtain ⟨B2,hB2⟩:∃ A,s.extract f1 p=A:=⟨_,rfl⟩
                obtain ⟨C2,hC2⟩:∃ A,s.extract p1 s.size=A:=⟨_,rfl⟩
                rw [hA] at x1 hbl
                rw [hB2] at x2 hbl
                rw [hC2] at x3 hbl
                have HNO:=Lib.hid (exp_bare HW.out.1 HW.out.2 hbl)
                have HBN:=Lib.hid (show Below W.heap.size W wr from HB5.out.trans (HBW.out.mono (by rw [← HBB.out];exact HB5.out.size)))
                have z1:¬ (9223372036854775807<A.size+1):=by omega
                have z2:¬ (9223372036854775807<A.size+1+B2.size):=by omega
                have z3:¬ (9223372036854775807<A.size+1+B2.size+1):=by omega
                have z4:¬ (9223372036854775807<A.size+1+B2.size+1+C2.size):=by omega
                have b1:f1≤9223372036854775807:=by omega
                have b2:p1≤9223372036854775807:=by omega
                have q1':=wrap_small b1
                have q2':=wrapI_small b1
                have q3':=wrap_small b2
                have q4':=wrapI_small b2
                have hmx:Tryz.prog.follows .mixedOrders=true:=by kernel_rfl
                have hD:Below wr.heap.size wr wr.drew:=(Below.refl _ _).drew
                clear b1 b2 x1 x2 x3 hbl hf1 hp1 hpm hFp1 hdw hdj hjd hjm hFp HM HSH HSZ HN2 HR1 HBW hF1 hm2 hm3 hnn hsz hszi
                have HPX2:=Lib.hid (fun w (h:Below W.heap.size W w)=>expr_of_any (A++⟨#[32]⟩++B2++⟨#[32]⟩++C2) w (HE.out.all h).lex (m:=fun _=>none) (fun _ _ e=>by cases e))
                generalize hS2:A++⟨#[32]⟩++B2++⟨#[32]⟩++C2=S2 at *
                refine wp_region_held_drew (S:=fun w'=>Below wr.heap.size wr w') hmx hD (fun hHeld=>?_)
                refine wpAnyH_take (i:=0) (v:=.string s) rfl (by kernel_rfl) (by kernel_rfl) (by kernel_rfl) (fun _ _ _ h=>h) (Or.inl ⟨by rfl,fun w hSw=>by go_simp⟩) (by assumption) ?_
                try simp only [Act.put,n1,n2,n3,n4,n5,n6]
                refine wpAnyH_take (i:=1) (v:=.int .i64 (F:Nat)) rfl (by kernel_rfl) (by kernel_rfl) (by kernel_rfl) (fun _ _ _ h=>h) (Or.inl ⟨by rfl,fun w hSw=>by go_simp⟩) (by assumption) ?_
                try simp only [Act.put,n1,n2,n3,n4,n5,n6]
                refine wpAnyH_take (i:=2) (v:=.string A) rfl (by kernel_rfl) (by kernel_rfl) (by kernel_rfl) (fun _ _ _ h=>h) (Or.inl ⟨by rfl,fun w hSw=>by go_simp⟩) (by assumption) ?_
                try simp only [Act.put,n1,n2,n3,n4,n5,n6]
                refine wpAnyH_take (i:=3) (v:=.string (A++⟨#[32]⟩)) rfl (by kernel_rfl) (by kernel_rfl) (by kernel_rfl) (fun _ _ _ h=>h) (Or.inl ⟨by rfl,fun w hSw=>by go_simp⟩) (by assumption) ?_
                try simp only [Act.put,n1,n2,n3,n4,n5,n6]
                refine wpAnyH_take (i:=4) (v:=.string s) rfl (by kernel_rfl) (by kernel_rfl) (by kernel_rfl) (fun _ _ _ h=>h) (Or.inl ⟨by rfl,fun w hSw=>by go_simp⟩) (by assumption) ?_
                try simp only [Act.put,n1,n2,n3,n4,n5,n6]
                refine wpAnyH_take (i:=5) (v:=.int .i64 (F:Nat)) rfl (by kernel_rfl) (by kernel_rfl) (by kernel_rfl) (fun _ _ _ h=>h) (Or.inl ⟨by rfl,fun w hSw=>by go_simp⟩) (by assumption) ?_
                try simp only [Act.put,n1,n2,n3,n4,n5,n6]
                refine wpAnyH_take (i:=6) (v:=.int .i64 (f1:Nat)) rfl (by kernel_rfl) (by kernel_rfl) (by kernel_rfl) (fun _ _ _ h=>h) (Or.inl ⟨by rfl,fun w hSw=>by go_simp⟩) (by assumption) ?_
                try simp only [Act.put,n1,n2,n3,n4,n5,n6]
                refine wpAnyH_take (i:=7) (v:=.int .i64 (p:Nat)) rfl (by kernel_rfl) (by kernel_rfl) (by kernel_rfl) (fun _ _ _ h=>h) (Or.inl ⟨by rfl,fun w hSw=>by go_simp⟩) (by assumption) ?_
                try simp only [Act.put,n1,n2,n3,n4,n5,n6]
                refine wpAnyH_take (i:=8) (v:=.string B2) rfl (by kernel_rfl) (by kernel_rfl) (by kernel_rfl) (fun _ _ _ h=>h) (Or.inl ⟨by rfl,fun w hSw=>by go_simp⟩) (by assumption) ?_
                try simp only [Act.put,n1,n2,n3,n4,n5,n6]
                refine wpAnyH_take (i:=9) (v:=.string (A++⟨#[32]⟩++B2)) rfl (by kernel_rfl) (by kernel_rfl) (by kernel_rfl) (fun _ _ _ h=>h) (Or.inl ⟨by rfl,fun w hSw=>by go_simp⟩) (by assumption) ?_
                try simp only [Act.put,n1,n2,n3,n4,n5,n6]
                refine wpAnyH_take (i:=10) (v:=.string (A++⟨#[32]⟩++B2++⟨#[32]⟩)) rfl (by kernel_rfl) (by kernel_rfl) (by kernel_rfl) (fun _ _ _ h=>h) (Or.inl ⟨by rfl,fun w hSw=>by go_simp⟩) (by assumption) ?_
                try simp only [Act.put,n1,n2,n3,n4,n5,n6]
                refine wpAnyH_take (i:=11) (v:=.string s) rfl (by kernel_rfl) (by kernel_rfl) (by kernel_rfl) (fun _ _ _ h=>h) (Or.inl ⟨by rfl,fun w hSw=>by go_simp⟩) (by assumption) ?_
                try simp only [Act.put,n1,n2,n3,n4,n5,n6]
                refine wpAnyH_take (i:=12) (v:=.int .i64 (p:Nat)) rfl (by kernel_rfl) (by kernel_rfl) (by kernel_rfl) (fun _ _ _ h=>h) (Or.inl ⟨by rfl,fun w hSw=>by go_simp⟩) (by assumption) ?_
                try simp only [Act.put,n1,n2,n3,n4,n5,n6]
                refine wpAnyH_take (i:=13) (v:=.int .i64 (p1:Nat)) rfl (by kernel_rfl) (by kernel_rfl) (by kernel_rfl) (fun _ _ _ h=>h) (Or.inl ⟨by rfl,fun w hSw=>by go_simp⟩) (by assumption) ?_
                try simp only [Act.put,n1,n2,n3,n4,n5,n6]
                refine wpAnyH_take (i:=14) (v:=.string C2) rfl (by kernel_rfl) (by kernel_rfl) (by kernel_rfl) (fun _ _ _ h=>h) (Or.inl ⟨by rfl,fun w hSw=>by go_simp⟩) (by assumption) ?_
                try simp only [Act.put,n1,n2,n3,n4,n5,n6]
                refine wpAnyH_take (i:=15) (v:=.string S2) rfl (by kernel_rfl) (by kernel_rfl) (by kernel_rfl) (fun _ _ _ h=>h) (Or.inl ⟨by rfl,fun w hSw=>by go_simp⟩) (by assumption) ?_
                try simp only [Act.put,n1,n2,n3,n4,n5,n6]
                have HSB:=Lib.hid (fun (w:World) (h:Below wr.heap.size wr w)=>(on_below HBN.out h:Below W.heap.size W w))
                have HKE:=Lib.hid (fun (w:World) (h:Below W.heap.size W w)=>terms_none (c:=c) HNN.out hl2 hl1 HROW.out (HR.out.trans (below_cle h)))
                have HKL:=Lib.hid (fun (w:World) (h:Below W.heap.size W w) (m2:Mem) (l2:List Tm) (q2:Option Addr) (c2:Nat) (hx:expOf S2=.ok l2) (hM:TmM m2 (.slice q2 l2.length c2) l2) (hm:CLe (mC m2) (wC w))=>terms_not (c:=c) HNN.out hl1 HROW.out (HR.out.trans (below_cle h)) hx HNO.out HTM.out hM hm (row_max hM))
                clear hl1 hl2
                refine wpAnyH_ready (rs:=[16,20]) (by kernel_rfl) (by simp) ?_
                refine AllReadyH.cons rfl (fun K1 hK1=>?_) (AllReadyH.cons rfl (fun K2 hK2=>?_) AllReadyH.nil)
                · go_simp
                  go_at_call 27
                  refine (HPX2.out _ (HSB.out _ (by assumption))).mono ?_
                  intro e6 w6 hres
                  obtain ⟨hb6,⟨er,a,hexp,rfl⟩ | ⟨l2,q2,c2,m2,hexp,rfl,htm,_,hhas⟩⟩:=hres.cases
                  · have hs6:=on_below (show Below wr.heap.size wr _ from by assumption) hb6
                    clear hres hb6
                    refine hK1.out _ _ hs6 (fun hHeld=>?_)
                    try simp only [Act.put,n1,n2,n3,n4,n5,n6]
                    refine wpAnyH_take (i:=17) (v:=.tuple #[.slice none 0 0,.agg #[.int .i64 (er:Nat),.int .i64 (-1),.int .i64 (a:Nat)]]) rfl (by kernel_rfl) (by kernel_rfl) (by kernel_rfl) (fun _ _ _ h=>h) (Or.inl ⟨by rfl,fun w hSw=>by go_simp⟩) (by assumption) ?_
                    try simp only [Act.put,n1,n2,n3,n4,n5,n6]
                    refine wpAnyH_take (i:=18) (v:=.slice none 0 0) rfl (by kernel_rfl) (by kernel_rfl) (by kernel_rfl) (fun _ _ _ h=>h) (Or.inl ⟨by rfl,fun w hSw=>by go_simp⟩) (by assumption) ?_
                    try simp only [Act.put,n1,n2,n3,n4,n5,n6]
                    refine wpAnyH_take (i:=19) (v:=.agg #[.int .i64 (er:Nat),.int .i64 (-1),.int .i64 (a:Nat)]) rfl (by kernel_rfl) (by kernel_rfl) (by kernel_rfl) (fun _ _ _ h=>h) (Or.inl ⟨by rfl,fun w hSw=>by go_simp⟩) (by assumption) ?_
                    try simp only [Act.put,n1,n2,n3,n4,n5,n6]
                    refine wpAnyH_ready (rs:=[20]) (by kernel_rfl) (by simp) ?_
                    refine AllReadyH.cons rfl (fun K3 hK3=>?_) AllReadyH.nil
                    go_simp
                    have HN6:=Lib.hid (World.alloc_heap_new w6 (.cells #[.int .i64 0,.int .i64 0,.int .i64 0] 61))
                    have hs7:Below wr.heap.size wr (w6.alloc (.cells #[.int .i64 0,.int .i64 0,.int .i64 0] 61)):=on_alloc hs6 _
                    refine hK3.out _ _ hs7 (fun hHeld=>?_)
                    try simp only [Act.put,n1,n2,n3,n4,n5,n6]
                    refine wpAnyH_take (i:=21) (v:=.slice none 0 0) rfl (by kernel_rfl) (by kernel_rfl) (by kernel_rfl) (fun _ _ _ h=>h) (Or.inl ⟨by rfl,fun w hSw=>by go_simp⟩) (by assumption) ?_
                    try simp only [Act.put,n1,n2,n3,n4,n5,n6]
                    refine wpAnyH_ready (rs:=[22]) (by kernel_rfl) (by simp) ?_
                    refine AllReadyH.cons rfl (fun K4 hK4=>?_) AllReadyH.nil
                    have y0:=cell_of (j:=0) HN6.out rfl
                    have y1:=cell_of (j:=1) HN6.out rfl
                    have y2:=cell_of (j:=2) HN6.out rfl
                    obtain ⟨u0,u1,u2⟩:=free3 HN6.out
                    go_simp
                    have hst:Below w6.heap.size w6 (w6.alloc (.cells #[.int .i64 (er:Nat),.int .i64 (-1),.int .i64 (a:Nat)] 61)):=(Below.refl _ _).alloc (Nat.le_refl _) _
                    have hs8:Below wr.heap.size wr (w6.alloc (.cells #[.int .i64 (er:Nat),.int .i64 (-1),.int .i64 (a:Nat)] 61)):=on_alloc hs6 _
                    clear y0 y1 y2 u0 u1 u2 HN6
                    refine hK4.out _ _ hs8 (fun hHeld=>?_)
                    try simp only [Act.put,n1,n2,n3,n4,n5,n6]
                    refine wpAnyH_done (by kernel_rfl) ?_ _
                    go_wp2_with fail
                    go_at_call 28
                    refine (HKE.out _ (HSB.out _ hs8)).mono ?_
                    rintro e9 w9 ⟨rfl,hb9⟩
                    have HB9:=Lib.hid (on_below (HSB.out _ hs8) hb9)
                    clear hb9
                    go_wp2_with fail
                    go_ret
                    exact ⟨rfl,HB9.out⟩
                  · have hs6:=on_below (show Below wr.heap.size wr _ from by assumption) hb6
                    have hCL:=has_cle hhas
                    clear hres hb6
                    refine hK1.out _ _ hs6 (fun hHeld=>?_)
                    try simp only [Act.put,n1,n2,n3,n4,n5,n6]
                    refine wpAnyH_take (i:=17) (v:=.tuple #[.slice q2 l2.length c2,.agg #[.int .i64 0,.int .i64 0,.int .i64 0]]) rfl (by kernel_rfl) (by kernel_rfl) (by kernel_rfl) (fun _ _ _ h=>h) (Or.inl ⟨by rfl,fun w hSw=>by go_simp⟩) (by assumption) ?_
                    try simp only [Act.put,n1,n2,n3,n4,n5,n6]
                    refine wpAnyH_take (i:=18) (v:=.slice q2 l2.length c2) rfl (by kernel_rfl) (by kernel_rfl) (by kernel_rfl) (fun _ _ _ h=>h) (Or.inl ⟨by rfl,fun w hSw=>by go_simp⟩) (by assumption) ?_
                    try simp only [Act.put,n1,n2,n3,n4,n5,n6]
                    refine wpAnyH_take (i:=19) (v:=.agg #[.int .i64 0,.int .i64 0,.int .i64 0]) rfl (by kernel_rfl) (by kernel_rfl) (by kernel_rfl) (fun _ _ _ h=>h) (Or.inl ⟨by rfl,fun w hSw=>by go_simp⟩) (by assumption) ?_
                    try simp only [Act.put,n1,n2,n3,n4,n5,n6]
                    refine wpAnyH_ready (rs:=[20]) (by kernel_rfl) (by simp) ?_
                    refine AllReadyH.cons rfl (fun K3 hK3=>?_) AllReadyH.nil
                    go_simp
                    have HN6:=Lib.hid (World.alloc_heap_new w6 (.cells #[.int .i64 0,.int .i64 0,.int .i64 0] 61))
                    have hs7:Below wr.heap.size wr (w6.alloc (.cells #[.int .i64 0,.int .i64 0,.int .i64 0] 61)):=on_alloc hs6 _
                    refine hK3.out _ _ hs7 (fun hHeld=>?_)
                    try simp only [Act.put,n1,n2,n3,n4,n5,n6]
                    refine wpAnyH_take (i:=21) (v:=.slice q2 l2.length c2) rfl (by kernel_rfl) (by kernel_rfl) (by kernel_rfl) (fun _ _ _ h=>h) (Or.inl ⟨by rfl,fun w hSw=>by go_simp⟩) (by assumption) ?_
                    try simp only [Act.put,n1,n2,n3,n4,n5,n6]
                    refine wpAnyH_ready (rs:=[22]) (by kernel_rfl) (by simp) ?_
                    refine AllReadyH.cons rfl (fun K4 hK4=>?_) AllReadyH.nil
                    have y0:=cell_of (j:=0) HN6.out rfl
                    have y1:=cell_of (j:=1) HN6.out rfl
                    have y2:=cell_of (j:=2) HN6.out rfl
                    obtain ⟨u0,u1,u2⟩:=free3 HN6.out
                    go_simp
                    have hst:Below w6.heap.size w6 (w6.alloc (.cells #[.int .i64 0,.int .i64 0,.int .i64 0] 61)):=(Below.refl _ _).alloc (Nat.le_refl _) _
                    have hs8:Below wr.heap.size wr (w6.alloc (.cells #[.int .i64 0,.int .i64 0,.int .i64 0] 61)):=on_alloc hs6 _
                    clear y0 y1 y2 u0 u1 u2 HN6
                    refine hK4.out _ _ hs8 (fun hHeld=>?_)
                    try simp only [Act.put,n1,n2,n3,n4,n5,n6]
                    refine wpAnyH_done (by kernel_rfl) ?_ _
                    go_wp2_with fail
                    go_at_call 28
                    refine (HKL.out _ (HSB.out _ hs8) m2 l2 q2 c2 hexp htm (hCL.trans (below_cle hst))).mono ?_
                    rintro e9 w9 ⟨rfl,hb9⟩
                    have HB9:=Lib.hid (on_below (HSB.out _ hs8) hb9)
                    clear hb9
                    go_wp2_with fail
                    go_ret
                    exact ⟨rfl,HB9.out⟩
                · go_simp
                  have HN5:=Lib.hid (World.alloc_heap_new wr (.cells #[.int .i64 0,.int .i64 0,.int .i64 0] 61))
                  obtain ⟨W5,hW5⟩:∃ W5,(wr.alloc (.cells #[.int .i64 0,.int .i64 0,.int .i64 0] 61)).drew=W5:=⟨_,rfl⟩
                  have hs5:Below wr.heap.size wr W5:=by rw [← hW5];exact (on_alloc (Below.refl _ _) _).drew
                  have HN55:=Lib.hid (show W5.heap[wr.heap.size]?=some (.cells #[.int .i64 0,.int .i64 0,.int .i64 0] 61 (0,0)) from by rw [← hW5];exact HN5.out)
                  rw [hW5]
                  clear hW5 HN5
                  refine hK2.out _ _ hs5 (fun hHeld=>?_)
                  try simp only [Act.put,n1,n2,n3,n4,n5,n6]
                  refine wpAnyH_ready (rs:=[16]) (by kernel_rfl) (by simp) ?_
                  refine AllReadyH.cons rfl (fun K3 hK3=>?_) AllReadyH.nil
                  go_simp
                  go_at_call 27
                  refine (HPX2.out _ (HSB.out _ hs5)).mono ?_
                  intro e6 w6 hres
                  obtain ⟨hb6,⟨er,a,hexp,rfl⟩ | ⟨l2,q2,c2,m2,hexp,rfl,htm,hmo,hhas⟩⟩:=hres.cases
                  · have hs6:=hs5.trans (hb6.mono hs5.size)
                    have HN6:=Lib.hid ((hb6.block _ (heap_lt HN55.out)).trans HN55.out)
                    clear hres hb6
                    refine hK3.out _ _ hs6 (fun hHeld=>?_)
                    try simp only [Act.put,n1,n2,n3,n4,n5,n6]
                    refine wpAnyH_take (i:=17) (v:=.tuple #[.slice none 0 0,.agg #[.int .i64 (er:Nat),.int .i64 (-1),.int .i64 (a:Nat)]]) rfl (by kernel_rfl) (by kernel_rfl) (by kernel_rfl) (fun _ _ _ h=>h) (Or.inl ⟨by rfl,fun w hSw=>by go_simp⟩) (by assumption) ?_
                    try simp only [Act.put,n1,n2,n3,n4,n5,n6]
                    refine wpAnyH_take (i:=18) (v:=.slice none 0 0) rfl (by kernel_rfl) (by kernel_rfl) (by kernel_rfl) (fun _ _ _ h=>h) (Or.inl ⟨by rfl,fun w hSw=>by go_simp⟩) (by assumption) ?_
                    try simp only [Act.put,n1,n2,n3,n4,n5,n6]
                    refine wpAnyH_take (i:=19) (v:=.agg #[.int .i64 (er:Nat),.int .i64 (-1),.int .i64 (a:Nat)]) rfl (by kernel_rfl) (by kernel_rfl) (by kernel_rfl) (fun _ _ _ h=>h) (Or.inl ⟨by rfl,fun w hSw=>by go_simp⟩) (by assumption) ?_
                    try simp only [Act.put,n1,n2,n3,n4,n5,n6]
                    refine wpAnyH_take (i:=21) (v:=.slice none 0 0) rfl (by kernel_rfl) (by kernel_rfl) (by kernel_rfl) (fun _ _ _ h=>h) (Or.inl ⟨by rfl,fun w hSw=>by go_simp⟩) (by assumption) ?_
                    try simp only [Act.put,n1,n2,n3,n4,n5,n6]
                    refine wpAnyH_ready (rs:=[22]) (by kernel_rfl) (by simp) ?_
                    refine AllReadyH.cons rfl (fun K4 hK4=>?_) AllReadyH.nil
                    have y0:=cell_of (j:=0) HN6.out rfl
                    have y1:=cell_of (j:=1) HN6.out rfl
                    have y2:=cell_of (j:=2) HN6.out rfl
                    obtain ⟨u0,u1,u2⟩:=free3 HN6.out
                    go_simp
                    have hs8:Below wr.heap.size wr (((w6.setCell ⟨wr.heap.size,0,none⟩ (.int .i64 (er:Nat))).setCell ⟨wr.heap.size,1,none⟩ (.int .i64 (-1))).setCell ⟨wr.heap.size,2,none⟩ (.int .i64 (a:Nat))):=((hs6.setCell (Nat.le_refl _) _).setCell (Nat.le_refl _) _).setCell (Nat.le_refl _) _
                    clear y0 y1 y2 u0 u1 u2 HN6
                    refine hK4.out _ _ hs8 (fun hHeld=>?_)
                    try simp only [Act.put,n1,n2,n3,n4,n5,n6]
                    refine wpAnyH_done (by kernel_rfl) ?_ _
                    go_wp2_with fail
                    go_at_call 28
                    refine (HKE.out _ (HSB.out _ hs8)).mono ?_
                    rintro e9 w9 ⟨rfl,hb9⟩
                    have HB9:=Lib.hid (on_below (HSB.out _ hs8) hb9)
                    clear hb9
                    go_wp2_with fail
                    go_ret
                    exact ⟨rfl,HB9.out⟩
                  · have hs6:=hs5.trans (hb6.mono hs5.size)
                    have HN6:=Lib.hid ((hb6.block _ (heap_lt HN55.out)).trans HN55.out)
                    have hasM:=hhas
                    have hnoM:m2 wr.heap.size=none:=by have:=hmo.new wr.heap.size rfl (heap_lt HN55.out);exact this
                    clear hres hb6
                    refine hK3.out _ _ hs6 (fun hHeld=>?_)
                    try simp only [Act.put,n1,n2,n3,n4,n5,n6]
                    refine wpAnyH_take (i:=17) (v:=.tuple #[.slice q2 l2.length c2,.agg #[.int .i64 0,.int .i64 0,.int .i64 0]]) rfl (by kernel_rfl) (by kernel_rfl) (by kernel_rfl) (fun _ _ _ h=>h) (Or.inl ⟨by rfl,fun w hSw=>by go_simp⟩) (by assumption) ?_
                    try simp only [Act.put,n1,n2,n3,n4,n5,n6]
                    refine wpAnyH_take (i:=18) (v:=.slice q2 l2.length c2) rfl (by kernel_rfl) (by kernel_rfl) (by kernel_rfl) (fun _ _ _ h=>h) (Or.inl ⟨by rfl,fun w hSw=>by go_simp⟩) (by assumption) ?_
                    try simp only [Act.put,n1,n2,n3,n4,n5,n6]
                    refine wpAnyH_take (i:=19) (v:=.agg #[.int .i64 0,.int .i64 0,.int .i64 0]) rfl (by kernel_rfl) (by kernel_rfl) (by kernel_rfl) (fun _ _ _ h=>h) (Or.inl ⟨by rfl,fun w hSw=>by go_simp⟩) (by assumption) ?_
                    try simp only [Act.put,n1,n2,n3,n4,n5,n6]
                    refine wpAnyH_take (i:=21) (v:=.slice q2 l2.length c2) rfl (by kernel_rfl) (by kernel_rfl) (by kernel_rfl) (fun _ _ _ h=>h) (Or.inl ⟨by rfl,fun w hSw=>by go_simp⟩) (by assumption) ?_
                    try simp only [Act.put,n1,n2,n3,n4,n5,n6]
                    refine wpAnyH_ready (rs:=[22]) (by kernel_rfl) (by simp) ?_
                    refine AllReadyH.cons rfl (fun K4 hK4=>?_) AllReadyH.nil
                    have y0:=cell_of (j:=0) HN6.out rfl
                    have y1:=cell_of (j:=1) HN6.out rfl
                    have y2:=cell_of (j:=2) HN6.out rfl
                    obtain ⟨u0,u1,u2⟩:=free3 HN6.out
                    go_simp
                    have hs8:Below wr.heap.size wr (((w6.setCell ⟨wr.heap.size,0,none⟩ (.int .i64 0)).setCell ⟨wr.heap.size,1,none⟩ (.int .i64 0)).setCell ⟨wr.heap.size,2,none⟩ (.int .i64 0)):=((hs6.setCell (Nat.le_refl _) _).setCell (Nat.le_refl _) _).setCell (Nat.le_refl _) _
                    have hCM:CLe (mC m2) (wC (((w6.setCell ⟨wr.heap.size,0,none⟩ (.int .i64 0)).setCell ⟨wr.heap.size,1,none⟩ (.int .i64 0)).setCell ⟨wr.heap.size,2,none⟩ (.int .i64 0))):=has_cle (hasM.chg ((((Chg.refl (fun b=>b=wr.heap.size) w6).setCell (.inl rfl) _).setCell (.inl rfl) _).setCell (.inl rfl) _) (fun b e=>by rw [e];exact hnoM))
                    clear y0 y1 y2 u0 u1 u2 HN6
                    refine hK4.out _ _ hs8 (fun hHeld=>?_)
                    try simp only [Act.put,n1,n2,n3,n4,n5,n6]
                    refine wpAnyH_done (by kernel_rfl) ?_ _
                    go_wp2_with fail
                    go_at_call 28
                    refine (HKL.out _ (HSB.out _ hs8) m2 l2 q2 c2 hexp htm hCM).mono ?_
                    rintro e9 w9 ⟨rfl,hb9⟩
                    have HB9:=Lib.hid (on_below (HSB.out _ hs8) hb9)
                    clear hb9
                    go_wp2_with fail
                    go_ret
                    exact ⟨rfl,HB9.out⟩
              · obtain ⟨d',rfl⟩:∃ d',d=d'+2:=⟨d - 2,by omega⟩
                rw [shF_cl] at hsf
                have HN:=Lib.hid (show shF ((bl s).drop (p+1)) (d'+1)=some (F+m - (p+1))∧p+1≤F+m from by
                  cases hx:shF ((bl s).drop (p+1)) (d'+1) with
                  | none=>rw [hx] at hsf;cases hsf
                  | some y =>
                    rw [hx] at hsf
                    have:y+1=F+m - p:=by simpa using hsf
                    exact ⟨by congr 1;omega,by omega⟩)
                have HDD:=Lib.hid (show d'+1≤p+1 from by omega)
                have HD1:=Lib.hid (show 1≤d'+1 from by omega)
                have hb9:d'+1≤9223372036854775807:=by omega
                have hdd:((d'+2:Nat):Int) - 1=((d'+1:Nat):Int):=by omega
                clear hsf hget hhd HSF hb hdj hjd hdw
                have hdw2:=wrap_small hb9
                have hnz:=ne0 d'
                clear hb9
                generalize d'+2=d2 at *
                generalize d'+1=d1 at *
                go_wp2
                have hvv:=congrArg (Value.int IntKind.i64) hdw2
                clear hdw2 hnz hdd
                exact ⟨⟨p+1,d1,hvv,rfl,by go_num,by omega,HN.out.2,HDD.out,.inr HD1.out,Lib.hid HN.out.1⟩,by simp [intOf];omega⟩
            · have HN:=Lib.hid (show shF ((bl s).drop (p+1)) d=some (F+m - (p+1))∧p+1≤F+m from by
                rw [shF,if_neg (fun h=>h41 h.1),dpB,if_neg h40,if_neg h41] at hsf
                cases hx:shF ((bl s).drop (p+1)) d with
                | none=>rw [hx] at hsf;cases hsf
                | some y =>
                  rw [hx] at hsf
                  have:y+1=F+m - p:=by simpa using hsf
                  exact ⟨by congr 1;omega,by omega⟩)
              have HJD:=Lib.hid (show 1≤d from by
                rcases hjd with ⟨rfl,rfl⟩ | h
                · exfalso
                  have:=HF2.out
                  rw [hget] at this
                  injection this with this
                  exact h40 this
                · exact h)
              have e40:(((s[p]).toNat:Int) == 40)=false:=by rw [hb];simp;omega
              have e41:(((s[p]).toNat:Int) == 41)=false:=by rw [hb];simp;omega
              clear hsf hget hhd HSF hb hjd
              go_wp2
              exact ⟨⟨p+1,d,rfl,rfl,by go_num,by omega,HN.out.2,by omega,.inr HJD.out,Lib.hid HN.out.1⟩,by simp [intOf];omega⟩
end
end Go.Proofs.YtpcniebkabkikaaGreatDoor
namespace Go.Proofs.YtpcniebkabkikaaGreatDoor
open Go Go.RowKit Go.Proofs.Mm Go.ChangeShapes Go.WideShapes
section
variable {H:Type}
theorem bulk_pos (d:DataW H):1≤Rows.uptoBulk d:=by
  cases d with
  | lit l=>cases l <;> simp [Rows.uptoBulk]
  | _=>simp [Rows.uptoBulk]
theorem bulk_mem:∀ {l:List (DataW H)} {d:DataW H},d ∈ l→Rows.uptoBulk d≤Rows.uptoBulkAll l
  | y :: l,d,h=>by
    rw [Rows.uptoBulkAll]
    rcases List.mem_cons.1 h with rfl | h
    · omega
    · have:=bulk_mem h;omega
theorem bulk_len:∀ (l:List (DataW H)),l.length≤Rows.uptoBulkAll l
  | []=>Nat.le_refl _
  | y :: l=>by
    rw [Rows.uptoBulkAll,List.length_cons]
    have:=bulk_len l;have:=bulk_pos y;omega
end
theorem enc_range {α:Type} {R:List Value→α→Prop} (f:Nat→α) (g:Nat→List Value):∀ n,(∀ i,i<n→R (g i) (f i))→Enc R ((List.range n).flatMap g) ((List.range n).map f)
  | 0,_=>rfl
  | n+1,h=>by
    rw [List.range_succ,List.flatMap_append,List.map_append]
    refine (enc_range f g n fun i hi=>h i (by omega)).app ?_
    simp only [List.flatMap_cons,List.flatMap_nil,List.append_nil,List.map_cons,List.map_nil]
    exact Enc.one (h n (by omega))
theorem enc_all {α:Type} {R:List Value→α→Prop} {size:Nat} (hR:∀ c x,R c x→c.length=size) {Q:α→Prop} (hQ:∀ c x,R c x→Q x) {cs:List Value} {l:List α} (h:Enc R cs l):∀ x ∈ l,Q x:=by
  intro x hx
  obtain ⟨j,hj,rfl⟩:=List.getElem_of_mem hx
  obtain ⟨c,h1,_⟩:=(encZ_at hR h).2 j hj
  exact hQ _ _ h1
section
variable {H:Type} {enc:TypeId × Value→H} {w:World} {n:Nat} {cs:List Value} {d:DataW H} {p:List MemPlace}
theorem open_up {α:Type} [Inhabited α] {t e:TypeId} {size fuel:Nat} (ht:Tryz.prog.underlying t=some (.slice e)) (hc:Tryz.prog.cellsOf e=size) (hs:0<size)
    {R:List Value→α→Prop} (hR:∀ c x,R c x→c.length=size)
    (hopen:∀ n cs' d p,cs'.length=size→DataW.trod enc Tryz.prog w 0 (fun _=>true) true n e cs'=some (d,p)→Rows.uptoBulk d≤1048576→∃ a,R cs' a)
    (h:DataW.trod enc Tryz.prog w 0 (fun _=>true) true fuel t cs=some (d,p)) (hw:Rows.uptoBulk d≤1048576):∃ q c ecs,∃ l:List α,cs=[.slice q l.length c]∧RdO (wC w) q ecs∧Enc R ecs l∧l.length≤1048576∧c≤maxLen∧l.length≤c:=by
  rcases Go.Deep.open_slice ht h with ⟨rfl,hx⟩ | ⟨a,len,cap,m,n,D,Pl,rfl,hb,hl,hm,hmm,hx,hel⟩
  · exact ⟨none,0,[],[],rfl,.inl rfl,Enc.nil,by simp,Nat.zero_le _,Nat.le_refl _⟩
  · rw [if_pos rfl] at hmm
    subst hmm
    rw [hc] at hel
    injection hx with hx1 hx2
    subst hx1
    rw [Rows.uptoBulk] at hw
    have hwl:len≤1048576:=by
      have:=bulk_len ((List.range len).map D)
      simp only [List.length_map,List.length_range] at this
      omega
    have hDm:∀ i,i<len→D i ∈ ((List.range len).map D):=fun i hi=>List.mem_map.2 ⟨i,List.mem_range.2 hi,rfl⟩
    have hch:∀ i,i<len→∃ y:List Value × α,w.cells? 0 (a.add (i * size)) size=some y.1∧R y.1 y.2:=fun i hi=>by
      obtain ⟨cs',h1,h2⟩:=hel i (by omega)
      obtain ⟨_,hlen,_⟩:=World.cells?_some h1
      obtain ⟨x,hx⟩:=hopen n cs' (D i) (Pl i) hlen h2 (by have:=bulk_mem (hDm i hi);omega)
      exact ⟨(cs',x),h1,hx⟩
    obtain ⟨f,hf⟩:=Go.Deep.choose_lt hch
    have hE:Enc R ((List.range len).flatMap fun i=>(f i).1) ((List.range len).map fun i=>(f i).2):=enc_range _ _ len fun i hi=>(hf i hi).2
    refine ⟨some a,m,(List.range len).flatMap fun i=>(f i).1,(List.range len).map fun i=>(f i).2,by simp,?_,hE,by simpa using hwl,hm,by simpa using hl⟩
    by_cases h0:len=0
    · subst h0;exact .inl rfl
    · refine .inr ?_
      obtain ⟨b,off,sp⟩:=a
      have hE':Enc (fun c i=>c=(f i).1∧i<len) ((List.range len).flatMap fun i=>(f i).1) ((List.range len).map fun i=>i):=enc_range _ _ len fun i hi=>⟨rfl,hi⟩
      have hlen:∀ c i,(c=(f i).1∧i<len)→c.length=size:=fun c i ⟨e,hi⟩=>by rw [e];exact hR _ _ (hf i hi).2
      obtain ⟨hL,hA⟩:=encZ_at hlen hE'
      have hsp:sp=none:=by
        obtain ⟨_,h2,h3⟩:=World.cells?_some (hf 0 (by omega)).1
        have h4:=h3 0 hs
        rw [List.getElem?_eq_getElem (by omega)] at h4
        rw [Nat.zero_mul] at h4
        have h5:(((⟨b,off,sp⟩:Addr).add 0).add 0)=⟨b,off,sp⟩:=by simp [Addr.add]
        rw [h5] at h4
        exact cell_spot h4
      subst hsp
      refine ⟨b,off,rfl,fun j u hu=>?_⟩
      have hj:j<len * size:=by
        have:=(List.getElem?_eq_some_iff.1 hu).1
        rw [hL] at this
        simpa using this
      have hq:j / size<len:=(Nat.div_lt_iff_lt_mul hs).2 hj
      obtain ⟨c,⟨e1,_⟩,e2⟩:=hA (j / size) (by simpa using hq)
      have hr:j % size<size:=Nat.mod_lt _ hs
      have e3:=e2 (j % size) hr
      have hjj:j / size * size+j % size=j:=by rw [Nat.mul_comm];exact Nat.div_add_mod j size
      rw [hjj,hu] at e3
      simp only [List.getElem_map,List.getElem_range] at e1
      obtain ⟨_,_,h3⟩:=World.cells?_some (hf (j / size) hq).1
      have h4:=h3 (j % size) hr
      rw [← e1,← e3] at h4
      have h5:(((⟨b,off,none⟩:Addr).add (j / size * size)).add (j % size))=⟨b,off+j,none⟩:=by
        rw [Go.Deep.add_add,hjj]
        unfold Addr.add
        split <;> simp_all
      rw [h5] at h4
      exact h4
theorem str_up (h:DataW.trod enc Tryz.prog w 0 (fun _=>true) true n 9 cs=some (d,p)) (hw:Rows.uptoBulk d≤1048576):∃ s:ByteArray,cs=[.string s]∧s.size≤1048576:=by
  obtain ⟨s,hs,hx,_⟩:=DataW.trod_string (by kernel_rfl) h
  injection hx with hx _
  subst hx
  rw [Rows.uptoBulk] at hw
  exact ⟨s,hs,by have:s.data.toList.length=s.size:=rfl;omega⟩
instance:Inhabited DeZ:=⟨⟨⟨#[]⟩,0⟩⟩
instance:Inhabited ArZ:=⟨⟨⟨#[]⟩,0,0⟩⟩
instance:Inhabited FnZ:=⟨⟨⟨#[]⟩,0,[],[],[],[]⟩⟩
theorem wf_le {k:IntKind} {n:Int} (h:(Lit.int k n).wf=true):k.min≤n∧n≤k.max:=by
  unfold Lit.wf at h
  rw [Bool.and_eq_true,decide_eq_true_eq,decide_eq_true_eq] at h
  exact h
theorem max_i64:IntKind.max .i64=9223372036854775807:=by decide
theorem min_i64:IntKind.min .i64=-9223372036854775808:=by decide
set_option maxRecDepth 100000 in
theorem tm_up (hl:cs.length=3) (h:DataW.trod enc Tryz.prog w 0 (fun _=>true) true n 45 cs=some (d,p)) (hw:Rows.uptoBulk d≤1048576):∃ t:TmZ,cs=tmZ t∧TmF t:=by
  obtain ⟨c0,c1,c2,rfl⟩:∃ c0 c1 c2,cs=[c0,c1,c2]:=by
    match cs,hl with
    | [c0,c1,c2],_=>exact ⟨c0,c1,c2,rfl⟩
  obtain ⟨xs,n',rfl,hx,_,hlen,hf⟩:=DataW.trod_struct Tryz.underlying45 h
  have h0:=hf 0 _ rfl
  have h1:=hf 1 _ rfl
  have h2:=hf 2 _ rfl
  injection hx with hd _
  subst hd
  rw [Rows.uptoBulk] at hw
  have lk:xs.length=3:=hlen
  have hb:∀ j (hj:j<xs.length),Rows.uptoBulk (xs[j]).1≤1048576:=fun j hj=>by
    have:=bulk_mem (List.mem_map_of_mem (f:=(·.1)) (List.getElem_mem hj));omega
  rw [List.getElem?_eq_getElem (by omega)] at h0 h1 h2
  obtain ⟨v0,e0,_,f0⟩:=DataW.trod_int (k:=.i64) (by kernel_rfl) h0
  have f0:=wf_le f0
  rw [min_i64,max_i64] at f0
  obtain ⟨v1,e1,_,f1⟩:=DataW.trod_int (k:=.i64) (by kernel_rfl) h1
  have f1:=wf_le f1
  rw [min_i64,max_i64] at f1
  obtain ⟨v2,e2,f2⟩:=str_up (d:=(xs[2]'(by omega)).1) (p:=(xs[2]'(by omega)).2) h2 (hb 2 (by omega))
  have z0:[c0]=_:=e0
  injection z0 with y0
  clear e0
  have z1:[c1]=_:=e1
  injection z1 with y1
  clear e1
  have z2:[c2]=_:=e2
  injection z2 with y2
  clear e2
  subst y0
  subst y1
  subst y2
  exact ⟨⟨v0,v1,v2⟩,rfl,by show v2.size≤_;omega,f1.2⟩
theorem tms_up (h:DataW.trod enc Tryz.prog w 0 (fun _=>true) true n 37 cs=some (d,p)) (hw:Rows.uptoBulk d≤1048576):∃ q c,∃ l:List TmZ,cs=[.slice q l.length c]∧TmRow (wC w) q l∧ExF l∧c≤maxLen∧l.length≤c:=by
  have hR:∀ c x,(fun (c:List Value) (t:TmZ)=>c=tmZ t∧TmF t) c x→c.length=3:=fun c x e=>by rw [e.1];rfl
  obtain ⟨q,c,ecs,l,h1,h2,h3,h4,h5,h6⟩:=open_up (size:=3) (e:=45) (by kernel_rfl) (by kernel_rfl) (by decide) hR (fun _ _ _ _ hl h hw=>tm_up hl h hw) h hw
  refine ⟨q,c,l,h1,fun j hj=>?_,⟨by omega,enc_all hR (fun _ _ e=>e.2) h3⟩,h5,h6⟩
  obtain ⟨g,o,c,e1,⟨rfl,_⟩,e2⟩:=rdC hR h2 h3 j hj (by decide)
  exact ⟨g,o,e1,e2 0 _ (by decide) rfl,e2 1 _ (by decide) rfl,e2 2 _ (by decide) rfl⟩
end
end Go.Proofs.YtpcniebkabkikaaGreatDoor
namespace Go.Proofs.YtpcniebkabkikaaGreatDoor
open Go Go.ChangeShapes Go.WideShapes Go.ChangeAt Go.RowKit Go.Lib
theorem own:ownKnob Tryz.prog.godebug=none:=by kernel_rfl
theorem laidOut:laidOutB Tryz.prog=true:=by kernel_rfl
def lays6 : List (String × DataW Unit) := [("math/bits.deBruijn32tab",Rows.laid_math_bits_deBruijn32tab),("math/bits.deBruijn64tab",Rows.laid_math_bits_deBruijn64tab),("internal/strconv.uint64pow10",Rows.laid_internal_strconv_uint64pow10),("strconv.ErrRange",Rows.laid_strconv_ErrRange),("strconv.ErrSyntax",Rows.laid_strconv_ErrSyntax),("louver/print.levels",Rows.laid_louver_print_levels)]
theorem gErrR : Tryz.prog.globalNamed "strconv.ErrRange" = some 6 := by kernel_rfl
theorem sentinel {W:World} {n:String} {nm:String} {d:DataW Unit} {g:Nat} (hg:Tryz.prog.globalNamed n=some g) (hty:(Tryz.prog.globals[g]?).map (·.type)=some 136) (h:VarReads Tryz.prog W n (.iface nm d)):∃ tp p,W.var? Tryz.prog n=some #[.iface tp p]:=by
  obtain ⟨g',t,cs,fuel,p,hg',hty',hvar,hd⟩:=h
  obtain rfl:=Option.some.inj (hg.symm.trans hg')
  obtain rfl:=Option.some.inj (hty.symm.trans hty')
  obtain ⟨f1,u,v,hcs,-,-⟩:=iface_of_trod Tryz.underlying136 hd
  obtain ⟨l⟩:=cs
  obtain rfl:l=[.iface u v]:=hcs
  exact ⟨u,v,hvar⟩
theorem g64 : Tryz.prog.globalNamed "math/bits.deBruijn64tab" = some 2 := by kernel_rfl
theorem gLev : Tryz.prog.globalNamed "louver/print.levels" = some 0 := by kernel_rfl
theorem y64:(Tryz.prog.globals[2]?).map (·.type)=some 277:=by kernel_rfl
theorem yLev:(Tryz.prog.globals[0]?).map (·.type)=some 143:=by kernel_rfl
theorem yPow:(Tryz.prog.globals[1]?).map (·.type)=some 273:=by kernel_rfl
theorem cU8:Tryz.prog.cellsOf 5=1:=by kernel_rfl
theorem cInt:Tryz.prog.cellsOf 3=1:=by kernel_rfl
theorem cU64:Tryz.prog.cellsOf 49=1:=by kernel_rfl
theorem c64:Tryz.prog.cellsOf 277=64:=by kernel_rfl
theorem cLev:Tryz.prog.cellsOf 143=18:=by kernel_rfl
theorem cPow:Tryz.prog.cellsOf 273=20:=by kernel_rfl
theorem u64t:Tryz.prog.underlying 277=some (.array 64 5):=by kernel_rfl
theorem uLev:Tryz.prog.underlying 143=some (.array 18 3):=by kernel_rfl
theorem uPow:Tryz.prog.underlying 273=some (.array 20 49):=by kernel_rfl
theorem tab64:(Rows.laid_math_bits_deBruijn64tab:DataW Unit)=tabData .u8 (Lib.deBruijn64tab.map Int.ofNat):=by kernel_rfl
theorem tabLev:(Rows.laid_louver_print_levels:DataW Unit)=tabData .i64 (lvTab.map Int.ofNat):=by kernel_rfl
theorem tabPow:(Rows.laid_internal_strconv_uint64pow10:DataW Unit)=tabData .u64 Lib.pow10Tab:=by kernel_rfl
theorem envP_of_laid {W:World} (h:laidMetH Tryz.prog lays6 W):EnvP W:=by
  rw [MakeChecks.laidMetH_plain _ _ _ (by kernel_rfl)] at h
  have r0 : VarReads Tryz.prog W "math/bits.deBruijn64tab" (tabData .u8 (Lib.deBruijn64tab.map Int.ofNat)) := tab64 ▸ Lib.laidMet.reads h (by simp [lays6])
  have r1 : VarReads Tryz.prog W "louver/print.levels" (tabData .i64 (lvTab.map Int.ofNat)) := tabLev ▸ Lib.laidMet.reads h (by simp [lays6])
  have r2 : VarReads Tryz.prog W "internal/strconv.uint64pow10" (tabData .u64 Lib.pow10Tab) := tabPow ▸ Lib.laidMet.reads h (by simp [lays6])
  obtain ⟨tp,p,hv⟩ := sentinel gErrR (by kernel_rfl) (Lib.laidMet.reads h (n := "strconv.ErrRange") (d := Rows.laid_strconv_ErrRange) (by simp [lays6]))
  have hcell:W.cell? ⟨6,0,none⟩=some (.iface tp p):=by rw [World.var?_cell gErrR hv 0];rfl
  refine ⟨⟨tp,p,hcell⟩,?_,?_,?_,World.block_lt_of_cell? _ _ hcell⟩
  · obtain ⟨g,t,cs,fuel,p,hg,hty,hvar,hd⟩:=r1
    obtain rfl:=Option.some.inj (gLev.symm.trans hg)
    obtain rfl:=Option.some.inj (yLev.symm.trans hty)
    have hcs:=cells_of_tab uLev Tryz.underlying3 cInt cLev hd
    intro j hj
    have:=World.var?_cell hg hvar j
    rw [this,← Array.getElem?_toList,hcs]
    have hl:lvTab.length=18:=rfl
    rw [List.map_map,List.getElem?_map,List.getElem?_eq_getElem (by rw [hl];exact hj),List.getD_eq_getElem?_getD,List.getElem?_eq_getElem (by rw [hl];exact hj)]
    rfl
  · obtain ⟨g,t,cs,fuel,p,hg,hty,hvar,hd⟩:=r2
    obtain rfl:=Option.some.inj (gPow.symm.trans hg)
    obtain rfl:=Option.some.inj (yPow.symm.trans hty)
    have hcs:=cells_of_tab uPow Tryz.underlying49 cU64 cPow hd
    unfold Lib.TabIs
    rw [hvar,← hcs]
  · obtain ⟨g,t,cs,fuel,p,hg,hty,hvar,hd⟩:=r0
    obtain rfl:=Option.some.inj (g64.symm.trans hg)
    obtain rfl:=Option.some.inj (y64.symm.trans hty)
    have hcs:=cells_of_tab u64t Tryz.underlying5 cU8 c64 hd
    intro j hj
    have:=World.var?_cell hg hvar j
    rw [this,← Array.getElem?_toList,hcs]
    simp [hj,Int.ofNat_eq_natCast]
theorem trodAll_below {H:Type} {enc:TypeId × Value→H} {P:Program} (hl:laidOutB P=true) {W W':World} (hb:Below W.heap.size W W') (ts:List TypeId):∀ {vs:List Value} {ds:List (DataW H)} {ps:List MemPlace},
    (∀ t ∈ ts,P.readableRec t=true∧t<P.types.size)→DataW.TrodAll enc P W 0 (fun _=>true) true ts vs ds ps→(∀ x ∈ ps,x.block<W.heap.size)→DataW.TrodAll enc P W' 0 (fun b=>decide (b<W.heap.size)) true ts vs ds ps:=by
  induction ts with
  | nil =>
    intro vs ds ps _ h _
    cases vs <;> cases ds <;> exact h
  | cons t ts ih =>
    intro vs ds ps hr h hlt
    cases vs with
    | nil=>cases ds <;> cases h
    | cons v vs=>cases ds with
      | nil=>cases h
      | cons d ds =>
        obtain ⟨p,q,h1,h2,rfl⟩:=h
        have ht:=hr t (List.mem_cons_self ..)
        exact ⟨p,q,Below.trod hl ht.1 ht.2 h1 hb fun x hx=>hlt x (List.mem_append_left _ hx),ih (fun u hu=>hr u (List.mem_cons_of_mem _ hu)) h2 fun x hx=>hlt x (List.mem_append_right _ hx),rfl⟩
theorem post_true {H:Type} {enc:TypeId × Value→H} {fn:Func} {s:ChangeSpec} {W W':World} {args:Array Value} {ds:List (DataW H)} {before:List MemPlace} (hv:s.vars=[]) (hrt:fn.resultTypes=#[4])
    (hr:∀ t ∈ fn.params.toList,Tryz.prog.readableRec t=true∧t<Tryz.prog.types.size) (hs:s.fn H ds={ results:=[.lit (.bool true)],args:=ds,vars:=[] })
    (hW:DataW.Whole enc Tryz.prog fn.params.toList s.vars false W args.toList ds [] before) (hb:Below W.heap.size W W'):s.post enc Tryz.prog fn false true false false W args (.bool true) W':=by
  have hW':=hW
  obtain ⟨p,q,hA,hV,rfl,hfz,_⟩:=hW
  rw [hv] at hV
  obtain rfl:q=[]:=hV
  refine ⟨ds,[],p++[],[],p,[],hW',?_,?_,?_,hb.frame _,fun h=>by cases h⟩
  · rw [List.append_nil,hs,hrt];exact trodAll_mk1 (shut_bool Tryz.underlying4 _)
  · rw [List.append_nil,hs]
    exact trodAll_below laidOut hb _ hr hA fun x hx=>by simpa using hW'.lt x (List.mem_append_left _ hx)
  · rw [List.append_nil,hs,hv];rfl
end Go.Proofs.YtpcniebkabkikaaGreatDoor
