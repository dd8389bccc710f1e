/- Package lex's walk tells a text's words one by one: for every text, every memory in which the library's error lies, and whatever a round does that keeps what the walk has laid. Package lex's Each: the sequence that it answers, for every text and every memory in which the library's error lies. Packag -/
import Derived.Test.YtlpdjfimefjmcaaGreatDoorFlOpenPR22
import Derived.Maps.OwnIn
import Derived.Maps.AppendAt
import Derived.Shelf.RegionOpen
import Derived.Outline
open Go.Lib (hid)
namespace Go.Proofs.YtlpdjfimefjmcaaGreatDoor.Q
open Go Go.RowKit
attribute [local go_sem] Oper.semAt_some
def WJ (S0 n₀ n₁ B5:Nat) (s:ByteArray) (l:Nat) (J:List It→World→Prop) (a:Act) (w:World):Prop :=
 ∃(at_:Nat) (pre:List It) (u5 u6 u7 u8 u9 u10 u11 u12 u13 u14 u15 u16 u17 u18 u19 u20 u21 u22 u23 u24 u25 u26 u27 u28 u29 u30 u31 u32 u33 u34 u35 u36 u37 u38 u39 u40 u41 u42 u43:Value),a={ tmps:=#[.string s,.func (.yield l) #[] #[],undef,undef,.int .i64 (at_:Int),u5,u6,u7,u8,u9,u10,u11,u12,u13,u14,u15,u16,u17,u18,u19,u20,u21,u22,u23,u24,u25,u26,u27,u28,u29,u30,u31,u32,u33,u34,u35,u36,u37,u38,u39,u40,u41,u42,u43],defers:=[] }∧WSt S0 n₀ n₁ B5 s J at_ pre w
theorem jump_ret {l:Nat} {J:Act→World→Prop} {Q:Exit→Act→World→Prop} {a:Act} {w:World}:Exit.jump l J Q .ret a w=Q .ret a w:=rfl
theorem jump_normal {l:Nat} {J:Act→World→Prop} {Q:Exit→Act→World→Prop} {a:Act} {w:World}:Exit.jump l J Q .normal a w=Q .normal a w:=rfl
def wMu (s:ByteArray) (a:Act) (_:World):Nat:=s.size - (intOf (a.tmps.getD 4 undef)).toNat
set_option maxRecDepth 100000 in
set_option maxHeartbeats 2000000 in
theorem walk_iw (n m l n₀ n₁ B5:Nat) (s:ByteArray) (hs:s.size≤65536) (hn₀:1<n₀) (J Jx:List It→World→Prop) (W:World) (hJ:AbidesFrom W.heap.size J)
 (hY:∀pre x W1,J pre W1→pre.length<(itemsOf (scanL (bl s) 0)).length→YieldAt Fence.wide m Tryz.prog l x.enc W1 fun e W' =>
  (e=.returned (.bool true)∧J (pre++[x]) W'∧Keep n₀ n₁ B5 W1 W')∨(e=.returned (.bool false)∧Jx (pre++[x]) W'))
 (hE:Env W) (hpt:PtOk B5 W) (hB5:B5<W.heap.size) (hn0:n₀≤W.heap.size) (hn1:n₁≤W.heap.size) (h0:J [] W) :
 CallsIn Fence.wide n Tryz.prog 166 #[.string s,.func (.yield l) #[] #[]] W fun e W'=>(∃v,e=.returned v) ∧
  ((∃ys:List It,ys.map It.key=itemsOf (scanL (bl s) 0)∧J ys W')∨(∃pre:List It,pre.map It.key <+: itemsOf (scanL (bl s) 0)∧Jx pre W')):=by
 have hst:WSt W.heap.size n₀ n₁ B5 s J 0 [] W:=⟨by rw [List.drop_zero];rfl,Nat.zero_le _,h0,hE,hpt,hB5,hn0,hn1,Nat.le_refl _⟩
 clear hE hpt hB5 hn0 hn1 h0
 obtain ⟨S0,hS0⟩:∃S0,W.heap.size=S0:=⟨_,rfl⟩
 rw [hS0] at hst hJ
 clear hS0
 refine callsIn_of_wp Tryz.func166 rfl trivial ?_ rfl
 simp only [Tryz.ntmps166,List.size_toArray,List.length_cons,List.length_nil,Nat.reduceAdd,Nat.reduceSub,Array.replicate_succ,Array.replicate_zero,List.push_toArray,List.append_toArray,List.nil_append,List.cons_append]
 refine wpIn_wide.2 ?_
 refine wp_scope_jumps 0 (WJ S0 n₀ n₁ B5 s l J) (wMu s) rfl ?first ?pass
 case first =>
  go_wp2
  go_step3
  go_wp2
  refine (wpIn_wide (n:=n)).1 ?_
  gi_loopw [4] (fun i wr=>∃(k:Nat) (pr:List It),i=.int .i64 k∧WSt S0 n₀ n₁ B5 s J k pr wr ) (fun i _=>s.size - (intOf i).toNat)
  case atStart=>exact ⟨0,[],rfl,hst⟩
  case round =>
   clear hst
   obtain ⟨k,pr,rfl,hst⟩:=hrel
   by_cases hlt:k<s.size
   ·have ht0:0<(s.extract k s.size).size:=by simp;omega
    have hts:(s.extract k s.size).size≤65536:=by simp;omega
    have hgc:=gap_any (s.extract k s.size) ht0 (by omega) wr
    rw [bl_rest] at hgc
    by_cases hg:0<gapL ((bl s).drop k)
    ·have HS:=hid hst.gap
     have hk2:=hst.gap.at_
     have hc:=hid hgc
     clear hst ht0 hts hgc
     generalize gapL ((bl s).drop k)=gp at *
     gi_wp2_with (refine ⟨trivial,(fun h=>by cases h),?_⟩;gi_at_call 179;refine (callsIn_wide.2 hc.out).mono ?_;rintro e w' ⟨rfl,rfl⟩)
     refine wpIn_wide.2 ?_
     go_step3
     exact ⟨rfl,k+gp,pr,_,_,_,_,_,_,_,_,_,_,_,_,_,_,_,_,_,_,_,_,_,_,_,_,_,_,_,_,_,_,_,_,_,_,_,_,_,_,_,by rw [Int.natCast_add],HS.out⟩
    ·have hg0:gapL ((bl s).drop k)=0:=by omega
     rw [hg0] at hgc
     have hc:=hid hgc
     clear hgc hg
     by_cases he:errL ((bl s).drop k)=0
     ·have hf:=first_ok (s.extract k s.size) ht0 (by omega) (by rw [bl_rest];exact he) wr hst.env
      rw [bl_rest] at hf
      obtain ⟨hit,hk2,hn0,hsz⟩:=at_word hlt hg0 he
      have HF:=hid hf
      have HIT:=hid hit
      have HSZ:=hid hsz
      have HS:=hid hst
      clear hf hit hsz hst ht0 hts hg0 he
      obtain ⟨x,hx⟩:∃x,itAt s k=x:=⟨_,rfl⟩
      have HF2:Hid (Calls Tryz.prog 180 #[.string (s.extract k s.size)] wr (TokRes wr (x.k:Nat) x.t (x.v:Nat) 0)):=by rw [←hx];exact HF
      have hxa:x.a=k:=by rw [←hx];rfl
      have hxe:x.e=0:=by rw [←hx];rfl
      rw [hx] at HIT HSZ
      clear HF hx
      generalize (wordL ((bl s).drop k)).1=nn at *
      gi_wp2_with (first|(refine ⟨trivial,(fun h=>by cases h),?_⟩;gi_at_call 179;refine (callsIn_wide.2 hc.out).mono ?_;rintro e w' ⟨rfl,rfl⟩)|(refine ⟨trivial,(fun h=>by cases h),?_⟩;gi_at_call 180;refine (callsIn_wide.2 HF2.out).mono ?_))
      rintro e w1 ⟨rfl,hb1⟩
      have hs1:=HS.out.grow hJ hb1
      have hs2:=hs1.grow hJ ((Below.refl _ w1).alloc (Nat.le_refl _) (.cells #[.int .i64 (x.k:Nat),.string x.t,.int .i64 (x.v:Nat),.int .i64 (k:Nat)] 163))
      obtain ⟨fn,tmps,assign,body,hy,hR⟩:=yield_any (n - 1) (hY pr x _ hs2.inv (len_lt hs2.items ⟨_,HIT.out⟩))
      have hy':(Instr.yield l #[tokV (x.k:Nat) x.t (x.v:Nat) (k:Nat),.int .i64 0]).run Tryz.prog (w1.alloc (.cells #[.int .i64 (x.k:Nat),.string x.t,.int .i64 (x.v:Nat),.int .i64 (k:Nat)] 163))=.ok (.round l fn tmps assign body) (w1.alloc (.cells #[.int .i64 (x.k:Nat),.string x.t,.int .i64 (x.v:Nat),.int .i64 (k:Nat)] 163)):=by
       unfold It.enc at hy
       rw [hxa,hxe] at hy
       exact hy
      clear hy
      have H1:=hid hs1
      have H2:=hid hs2
      have HXA:=hid hxa
      have HXE:=hid hxe
      clear hs1 hs2 hb1 hY hxa hxe
      gi_wp2
      refine ⟨(fun h=>by cases h),hR.mono ?_⟩
      rintro e W3 (⟨rfl,hJ3,hk3⟩|⟨rfl,hJx3⟩)
      ·obtain ⟨k0,k1,k2,k3,f0,f1,f2,f3⟩:=tok_kept H1.out.ptok H1.out.b5 H1.out.n1 hk3
       have HN:=hid (H2.out.keep hn₀ hk3 hJ3 HIT.out hk2)
       obtain rfl:=HSZ.out
       clear HS H1 H2 hk3 hJ3 hR hy'
       gi_wp2
       refine ⟨⟨k+x.t.size,pr++[x],by rw [Int.natCast_add],HN.out⟩,by simp [intOf];omega⟩
      ·have HP:=hid (pre_of HS.out.items ⟨_,HIT.out⟩)
       clear HS H1 H2 hR hy'
       gi_wp2
       rw [jump_ret]
       refine bodyPost_ret (results_none rfl _ _ _) rfl ?_
       exact ⟨⟨_,rfl⟩,.inr ⟨pr++[x],HP.out,hJx3⟩⟩
     ·have hf:=first_bad (s.extract k s.size) ht0 (by omega) (by rw [bl_rest];exact he) wr hst.env
      rw [bl_rest] at hf
      have hit:=at_err hlt hg0 he
      have heb:((errL ((bl s).drop k):Nat):Int)≠0:=by omega
      generalize errL ((bl s).drop k)=er at *
      have heb1:(((er:Nat):Int) != 0)=true:=by simpa using heb
      have heb2:(((er:Nat):Int) == 0)=false:=by simpa using heb
      have HF2:=hid hf
      have HIT:=hid hit
      have HS:=hid hst
      clear hf hit hst ht0 hts hg0 he heb
      gi_wp2_with (first|(refine ⟨trivial,(fun h=>by cases h),?_⟩;gi_at_call 179;refine (callsIn_wide.2 hc.out).mono ?_;rintro e w' ⟨rfl,rfl⟩)|(refine ⟨trivial,(fun h=>by cases h),?_⟩;gi_at_call 180;refine (callsIn_wide.2 HF2.out).mono ?_))
      rintro e w1 ⟨rfl,hb1⟩
      have hs1:=HS.out.grow hJ hb1
      have hs2:=hs1.grow hJ ((Below.refl _ w1).alloc (Nat.le_refl _) (.cells #[.int .i64 0,.string ⟨#[]⟩,.int .i64 0,.int .i64 (k:Nat)] 163))
      obtain ⟨fn,tmps,assign,body,hy,hR⟩:=yield_any (n - 1) (hY pr ⟨0,⟨#[]⟩,0,k,er⟩ _ hs2.inv (len_lt hs2.items ⟨_,HIT.out⟩))
      have hy':(Instr.yield l #[tokV 0 ⟨#[]⟩ 0 (k:Nat),.int .i64 (er:Nat)]).run Tryz.prog (w1.alloc (.cells #[.int .i64 0,.string ⟨#[]⟩,.int .i64 0,.int .i64 (k:Nat)] 163))=.ok (.round l fn tmps assign body) (w1.alloc (.cells #[.int .i64 0,.string ⟨#[]⟩,.int .i64 0,.int .i64 (k:Nat)] 163)):=hy
      clear hy
      have HP:=hid (pre_of HS.out.items ⟨_,HIT.out⟩)
      have HA:=hid (show (pr++[(⟨0,⟨#[]⟩,0,k,er⟩:It)]).map It.key=itemsOf (scanL (bl s) 0) by rw [←HS.out.items,HIT.out,List.map_append];rfl)
      clear hs1 hs2 hb1 hY HS HIT
      gi_wp2
      refine ⟨(fun h=>by cases h),hR.mono ?_⟩
      rintro e W3 (⟨rfl,hJ3,hk3⟩|⟨rfl,hJx3⟩)
      ·clear hR hy' hk3
       gi_wp2
       rw [jump_ret]
       refine bodyPost_ret (results_none rfl _ _ _) rfl ?_
       exact ⟨⟨_,rfl⟩,.inl ⟨_,HA.out,hJ3⟩⟩
      ·clear hR hy'
       gi_wp2
       rw [jump_ret]
       refine bodyPost_ret (results_none rfl _ _ _) rfl ?_
       exact ⟨⟨_,rfl⟩,.inr ⟨_,HP.out,hJx3⟩⟩
   ·have HA:=hid (show pr.map It.key=itemsOf (scanL (bl s) 0) by have:=hst.items;rw [at_end (by omega),List.append_nil] at this;exact this)
    have HI:=hid hst.inv
    clear hst
    gi_wp2
    rw [jump_normal]
    go_end0
    exact ⟨⟨_,rfl⟩,.inl ⟨pr,HA.out,HI.out⟩⟩
 case pass =>
  rintro a w ⟨at_,pre,u5,u6,u7,u8,u9,u10,u11,u12,u13,u14,u15,u16,u17,u18,u19,u20,u21,u22,u23,u24,u25,u26,u27,u28,u29,u30,u31,u32,u33,u34,u35,u36,u37,u38,u39,u40,u41,u42,u43,rfl,hst⟩
  go_wp2
  refine (wpIn_wide (n:=n)).1 ?_
  gi_loopw [4] (fun i wr=>∃(k:Nat) (pr:List It),i=.int .i64 k∧WSt S0 n₀ n₁ B5 s J k pr wr∧at_≤k) (fun i _=>s.size - (intOf i).toNat)
  case atStart=>exact ⟨at_,pre,rfl,hst,Nat.le_refl _⟩
  case round =>
   clear hst
   obtain ⟨k,pr,rfl,hst,hle⟩:=hrel
   by_cases hlt:k<s.size
   ·have ht0:0<(s.extract k s.size).size:=by simp;omega
    have hts:(s.extract k s.size).size≤65536:=by simp;omega
    have hgc:=gap_any (s.extract k s.size) ht0 (by omega) wr
    rw [bl_rest] at hgc
    by_cases hg:0<gapL ((bl s).drop k)
    ·have HS:=hid hst.gap
     have hk2:=hst.gap.at_
     have hc:=hid hgc
     clear hst ht0 hts hgc
     generalize gapL ((bl s).drop k)=gp at *
     gi_wp2_with (refine ⟨trivial,(fun h=>by cases h),?_⟩;gi_at_call 179;refine (callsIn_wide.2 hc.out).mono ?_;rintro e w' ⟨rfl,rfl⟩)
     refine wpIn_wide.2 ?_
     go_step3
     exact ⟨rfl,⟨k+gp,pr,_,_,_,_,_,_,_,_,_,_,_,_,_,_,_,_,_,_,_,_,_,_,_,_,_,_,_,_,_,_,_,_,_,_,_,_,_,_,_,by rw [Int.natCast_add],HS.out⟩,by simp [wMu,intOf];omega⟩
    ·have hg0:gapL ((bl s).drop k)=0:=by omega
     rw [hg0] at hgc
     have hc:=hid hgc
     clear hgc hg
     by_cases he:errL ((bl s).drop k)=0
     ·have hf:=first_ok (s.extract k s.size) ht0 (by omega) (by rw [bl_rest];exact he) wr hst.env
      rw [bl_rest] at hf
      obtain ⟨hit,hk2,hn0,hsz⟩:=at_word hlt hg0 he
      have HF:=hid hf
      have HIT:=hid hit
      have HSZ:=hid hsz
      have HS:=hid hst
      clear hf hit hsz hst ht0 hts hg0 he
      obtain ⟨x,hx⟩:∃x,itAt s k=x:=⟨_,rfl⟩
      have HF2:Hid (Calls Tryz.prog 180 #[.string (s.extract k s.size)] wr (TokRes wr (x.k:Nat) x.t (x.v:Nat) 0)):=by rw [←hx];exact HF
      have hxa:x.a=k:=by rw [←hx];rfl
      have hxe:x.e=0:=by rw [←hx];rfl
      rw [hx] at HIT HSZ
      clear HF hx
      generalize (wordL ((bl s).drop k)).1=nn at *
      gi_wp2_with (first|(refine ⟨trivial,(fun h=>by cases h),?_⟩;gi_at_call 179;refine (callsIn_wide.2 hc.out).mono ?_;rintro e w' ⟨rfl,rfl⟩)|(refine ⟨trivial,(fun h=>by cases h),?_⟩;gi_at_call 180;refine (callsIn_wide.2 HF2.out).mono ?_))
      rintro e w1 ⟨rfl,hb1⟩
      have hs1:=HS.out.grow hJ hb1
      have hs2:=hs1.grow hJ ((Below.refl _ w1).alloc (Nat.le_refl _) (.cells #[.int .i64 (x.k:Nat),.string x.t,.int .i64 (x.v:Nat),.int .i64 (k:Nat)] 163))
      obtain ⟨fn,tmps,assign,body,hy,hR⟩:=yield_any (n - 1) (hY pr x _ hs2.inv (len_lt hs2.items ⟨_,HIT.out⟩))
      have hy':(Instr.yield l #[tokV (x.k:Nat) x.t (x.v:Nat) (k:Nat),.int .i64 0]).run Tryz.prog (w1.alloc (.cells #[.int .i64 (x.k:Nat),.string x.t,.int .i64 (x.v:Nat),.int .i64 (k:Nat)] 163))=.ok (.round l fn tmps assign body) (w1.alloc (.cells #[.int .i64 (x.k:Nat),.string x.t,.int .i64 (x.v:Nat),.int .i64 (k:Nat)] 163)):=by
       unfold It.enc at hy
       rw [hxa,hxe] at hy
       exact hy
      clear hy
      have H1:=hid hs1
      have H2:=hid hs2
      have HXA:=hid hxa
      have HXE:=hid hxe
      clear hs1 hs2 hb1 hY hxa hxe
      gi_wp2
      refine ⟨(fun h=>by cases h),hR.mono ?_⟩
      rintro e W3 (⟨rfl,hJ3,hk3⟩|⟨rfl,hJx3⟩)
      ·obtain ⟨k0,k1,k2,k3,f0,f1,f2,f3⟩:=tok_kept H1.out.ptok H1.out.b5 H1.out.n1 hk3
       have HN:=hid (H2.out.keep hn₀ hk3 hJ3 HIT.out hk2)
       obtain rfl:=HSZ.out
       clear HS H1 H2 hk3 hJ3 hR hy'
       gi_wp2
       refine ⟨⟨k+x.t.size,pr++[x],by rw [Int.natCast_add],HN.out,by omega⟩,by simp [intOf];omega⟩
      ·have HP:=hid (pre_of HS.out.items ⟨_,HIT.out⟩)
       clear HS H1 H2 hR hy'
       gi_wp2
       rw [jump_ret]
       refine bodyPost_ret (results_none rfl _ _ _) rfl ?_
       exact ⟨⟨_,rfl⟩,.inr ⟨pr++[x],HP.out,hJx3⟩⟩
     ·have hf:=first_bad (s.extract k s.size) ht0 (by omega) (by rw [bl_rest];exact he) wr hst.env
      rw [bl_rest] at hf
      have hit:=at_err hlt hg0 he
      have heb:((errL ((bl s).drop k):Nat):Int)≠0:=by omega
      generalize errL ((bl s).drop k)=er at *
      have heb1:(((er:Nat):Int) != 0)=true:=by simpa using heb
      have heb2:(((er:Nat):Int) == 0)=false:=by simpa using heb
      have HF2:=hid hf
      have HIT:=hid hit
      have HS:=hid hst
      clear hf hit hst ht0 hts hg0 he heb
      gi_wp2_with (first|(refine ⟨trivial,(fun h=>by cases h),?_⟩;gi_at_call 179;refine (callsIn_wide.2 hc.out).mono ?_;rintro e w' ⟨rfl,rfl⟩)|(refine ⟨trivial,(fun h=>by cases h),?_⟩;gi_at_call 180;refine (callsIn_wide.2 HF2.out).mono ?_))
      rintro e w1 ⟨rfl,hb1⟩
      have hs1:=HS.out.grow hJ hb1
      have hs2:=hs1.grow hJ ((Below.refl _ w1).alloc (Nat.le_refl _) (.cells #[.int .i64 0,.string ⟨#[]⟩,.int .i64 0,.int .i64 (k:Nat)] 163))
      obtain ⟨fn,tmps,assign,body,hy,hR⟩:=yield_any (n - 1) (hY pr ⟨0,⟨#[]⟩,0,k,er⟩ _ hs2.inv (len_lt hs2.items ⟨_,HIT.out⟩))
      have hy':(Instr.yield l #[tokV 0 ⟨#[]⟩ 0 (k:Nat),.int .i64 (er:Nat)]).run Tryz.prog (w1.alloc (.cells #[.int .i64 0,.string ⟨#[]⟩,.int .i64 0,.int .i64 (k:Nat)] 163))=.ok (.round l fn tmps assign body) (w1.alloc (.cells #[.int .i64 0,.string ⟨#[]⟩,.int .i64 0,.int .i64 (k:Nat)] 163)):=hy
      clear hy
      have HP:=hid (pre_of HS.out.items ⟨_,HIT.out⟩)
      have HA:=hid (show (pr++[(⟨0,⟨#[]⟩,0,k,er⟩:It)]).map It.key=itemsOf (scanL (bl s) 0) by rw [←HS.out.items,HIT.out,List.map_append];rfl)
      clear hs1 hs2 hb1 hY HS HIT
      gi_wp2
      refine ⟨(fun h=>by cases h),hR.mono ?_⟩
      rintro e W3 (⟨rfl,hJ3,hk3⟩|⟨rfl,hJx3⟩)
      ·clear hR hy' hk3
       gi_wp2
       rw [jump_ret]
       refine bodyPost_ret (results_none rfl _ _ _) rfl ?_
       exact ⟨⟨_,rfl⟩,.inl ⟨_,HA.out,hJ3⟩⟩
      ·clear hR hy'
       gi_wp2
       rw [jump_ret]
       refine bodyPost_ret (results_none rfl _ _ _) rfl ?_
       exact ⟨⟨_,rfl⟩,.inr ⟨_,HP.out,hJx3⟩⟩
   ·have HA:=hid (show pr.map It.key=itemsOf (scanL (bl s) 0) by have:=hst.items;rw [at_end (by omega),List.append_nil] at this;exact this)
    have HI:=hid hst.inv
    clear hst
    gi_wp2
    rw [jump_normal]
    go_end0
    exact ⟨⟨_,rfl⟩,.inl ⟨pr,HA.out,HI.out⟩⟩
attribute [local go_sem] Oper.semAt_some
theorem clone_any (s:ByteArray) (hs:s.size≤281474976710656) (w:World):Calls Tryz.prog 164 #[.string s] w fun e w'=>e=.returned (.string s)∧Below w.heap.size w w':=by
 have hc:=hid (fun W=>Tryz.stringslite_Clone s W hs)
 go_enter Tryz.func164,Tryz.ntmps164
 go_wp2_with (go_at_call 178;refine (hc.out _).mono ?_;rintro e w1 ⟨rfl,hb⟩)
 go_ret
 exact ⟨rfl,hb⟩
theorem each_long (s:ByteArray) (hs:65536<s.size) (w:World):Calls Tryz.prog 137 #[.string s] w fun e w'=>e=.returned (.func (.func 163) #[] #[])∧w=w':=by
 go_enter Tryz.func137,Tryz.ntmps137
 go_wp2
 go_ret
 exact ⟨rfl,rfl⟩
theorem each_ok (s:ByteArray) (hs:s.size≤65536) (w:World) :
 Calls Tryz.prog 137 #[.string s] w fun e w'=>∃b,e=.returned (.func (.func 165) #[] #[.pointer (some ⟨b,0,none⟩)])∧w'.cell? ⟨b,0,none⟩=some (.string s)∧w.heap.size≤b∧b<w'.heap.size∧Below w.heap.size w w':=by
 have hc:=hid (fun W=>clone_any s (by omega) W)
 go_enter Tryz.func137,Tryz.ntmps137
 go_wp2_with (go_at_call 164;refine (hc.out _).mono ?_;rintro e w1 ⟨rfl,hb⟩)
 go_ret
 exact ⟨w1.heap.size,rfl,by simp [go_sem],hb.size,by simp,hb.alloc hb.size _⟩
def allItems (s:ByteArray):List (Tok × Nat):=if 65536<s.size then [(⟨0,[],0,0⟩,3)] else itemsOf (scanL (bl s) 0)
set_option maxRecDepth 100000 in
theorem stops24 (n n₀ n₁ B5 Bo:Nat) (s:ByteArray) (hs:s.size≤65536) (hn₀:1<n₀) (w:World) (hn0:n₀≤w.heap.size) (hn1:n₁≤w.heap.size) (hBo:Bo<w.heap.size) (hB:w.cell? ⟨Bo,0,none⟩=some (.string s)) (hE:Env w) (hpt:PtOk B5 w) (hB5:B5<w.heap.size) :
 SeqStopsK Fence.wide n Tryz.prog 165 #[.pointer (some ⟨Bo,0,none⟩)] It.enc (Keep n₀ n₁ B5) (fun ys=>ys.map It.key=allItems s) (fun pre=>pre.map It.key <+: allItems s) (allItems s).length w:=by
 intro l J Jx W hW hJ _ hY h0
 have hall:allItems s=itemsOf (scanL (bl s) 0):=if_neg (by omega)
 rw [hall] at hY ⊢
 have hcell:=(hW.cell (p:=⟨Bo,0,none⟩) hBo).trans hB
 have hcall:=hid (fun m=>walk_iw m (n - 1) l n₀ n₁ B5 s hs hn₀ J Jx W hJ hY (hE.below hW hE.lt) (hpt.grow hB5 hW) (Nat.lt_of_lt_of_le hB5 hW.size) (Nat.le_trans hn0 hW.size) (Nat.le_trans hn1 hW.size) h0)
 clear hY hJ hall hn0 hn1 hBo hB hE hpt hB5 hW
 refine callsIn_of_wp Tryz.func165 rfl trivial ?_ rfl
 simp only [Tryz.ntmps165,List.size_toArray,List.length_cons,List.length_nil,Nat.reduceAdd,Nat.reduceSub,Array.replicate_succ,Array.replicate_zero,List.push_toArray,List.append_toArray,List.nil_append,List.cons_append]
 gi_wp2
 refine ⟨trivial,(fun h=>by cases h),(hcall.out _).mono ?_⟩
 rintro e W' ⟨⟨v,rfl⟩,hh⟩
 have HH:=hid hh
 clear hh
 gi_wp2
 go_end0
 exact ⟨⟨_,rfl⟩,HH.out⟩
set_option maxRecDepth 100000 in
theorem stops22 (n n₀ n₁ B5:Nat) (s:ByteArray) (hs:65536<s.size) (w:World) :
 SeqStopsK Fence.wide n Tryz.prog 163 #[] It.enc (Keep n₀ n₁ B5) (fun ys=>ys.map It.key=allItems s) (fun pre=>pre.map It.key <+: allItems s) (allItems s).length w:=by
 intro l J Jx W hW hJ _ hY h0
 have hall:allItems s=[(⟨0,[],0,0⟩,3)]:=if_pos hs
 rw [hall] at hY ⊢
 obtain ⟨fn,tmps,assign,body,hy,hR⟩:=hY [] ⟨0,⟨#[]⟩,0,0,3⟩ W h0 (by simp)
 have hy':(Instr.yield l #[tokV 0 ⟨#[]⟩ 0 0,.int .i64 3]).run Tryz.prog W=.ok (.round l fn tmps assign body) W:=hy
 clear hy hY hJ hall hs hW h0
 refine callsIn_of_wp Tryz.func163 rfl trivial ?_ rfl
 simp only [Tryz.ntmps163,List.size_toArray,List.length_cons,List.length_nil,Nat.reduceAdd,Nat.reduceSub,Array.replicate_succ,Array.replicate_zero,List.push_toArray,List.append_toArray,List.nil_append,List.cons_append]
 gi_wp2
 refine ⟨(fun h=>by cases h),hR.mono ?_⟩
 rintro e W3 (⟨rfl,hJ3,_⟩|⟨rfl,hJx3⟩)
 ·gi_wp2
  go_end0
  exact ⟨⟨_,rfl⟩,.inl ⟨_,rfl,hJ3⟩⟩
 ·gi_wp2
  go_end0
  exact ⟨⟨_,rfl⟩,.inr ⟨_,List.prefix_rfl,hJx3⟩⟩
attribute [local go_sem] Oper.semAt_some
def EachRes (s:ByteArray) (gf:Nat) (W:World) (e:Ending) (w':World):Prop :=
 ∃lb,e=.returned (.func (.func gf) #[] lb)∧Below W.heap.size W w'∧∀(n n₀ n₁ B5:Nat) (w2:World),(∀b,W.heap.size≤b→b<w'.heap.size→w2.heap[b]?=w'.heap[b]?)→w'.heap.size≤w2.heap.size→1<n₀→n₀≤w2.heap.size→n₁≤w2.heap.size→Env w2→PtOk B5 w2→B5<w2.heap.size →
  SeqStopsK Fence.wide n Tryz.prog gf lb It.enc (Keep n₀ n₁ B5) (fun ys=>ys.map It.key=allItems s) (fun pre=>pre.map It.key <+: allItems s) (allItems s).length w2
theorem each_res (s:ByteArray):∃gf,(∀args w,(callFunc gf args).run Tryz.prog w=.ok (.enter gf args) w)∧∀W,Calls Tryz.prog 137 #[.string s] W (EachRes s gf W):=by
 by_cases hs:65536<s.size
 ·refine ⟨163,enters_of Tryz.func163 (by kernel_rfl) rfl,fun W=>(each_long s hs W).mono ?_⟩
  rintro e w' ⟨rfl,rfl⟩
  exact ⟨#[],rfl,Below.refl _ _,fun n n₀ n₁ B5 w2 _ _ _ _ _ _ _ _=>stops22 n n₀ n₁ B5 s hs w2⟩
 ·refine ⟨165,enters_of Tryz.func165 (by kernel_rfl) rfl,fun W=>(each_ok s (by omega) W).mono ?_⟩
  rintro e w' ⟨b,rfl,hc,hb0,hb,hB⟩
  exact ⟨_,rfl,hB,fun n n₀ n₁ B5 w2 h2 hsz hn₀ h3 h4 hE hp h5=>stops24 n n₀ n₁ B5 b s (by omega) hn₀ w2 h3 h4 (Nat.lt_of_lt_of_le hb hsz) ((World.cell?_of_block (a:=⟨b,0,none⟩) (h2 b hb0 hb)).trans hc) hE hp h5⟩
def TokB (W:World) (g:Nat) (k:Int) (t:ByteArray) (v a:Int):Prop:=W.heap[g]?=some (.cells #[.int .i64 k,.string t,.int .i64 v,.int .i64 a] 163 (0,0))
theorem TokB.at_ {W:World} {g:Nat} {k:Int} {t:ByteArray} {v a:Int} (h:TokB W g k t v a):TokAt W g k t v a:=by
 unfold TokB at h
 exact ⟨by simp [World.cell?,h],by simp [World.cell?,h],by simp [World.cell?,h],by simp [World.cell?,h],by simp [World.frozen?,h],by simp [World.frozen?,h],by simp [World.frozen?,h],by simp [World.frozen?,h]⟩
theorem tokB_own (g:Nat) (k:Int) (t:ByteArray) (v a:Int):Own (fun (_:Unit) W=>TokB W g k t v a):=by
 intro s X Y row h hg hr
 refine (hg.block g (heap_lt h) (fun e=>?_)).trans h
 obtain ⟨o,ho,hc⟩:=hr g e.symm
 rw [show X.heap[g]?=_ from h] at ho;cases ho;cases hc
def tokCells (ys:List It):List Value:=ys.flatMap fun x=>[.int .i64 (x.k:Nat),.string x.t,.int .i64 (x.v:Nat),.int .i64 (x.a:Nat)]
theorem tokCells_snoc (ys:List It) (x:It):tokCells (ys++[x])=tokCells ys++[.int .i64 (x.k:Nat),.string x.t,.int .i64 (x.v:Nat),.int .i64 (x.a:Nat)]:=by
 simp [tokCells]
theorem pt_box {B5:Nat} {W:World} {T:TypeId} {q:Option Addr} {n c:Nat} (h:Boxed W B5 T (.slice q n c)):pt B5 W=(Value.slice q n c).ownBlock:=by
 unfold pt
 rw [h.cell]
 cases q <;> rfl
theorem ptOk_nil {B5:Nat} {W:World} {T:TypeId} {n c:Nat} (h:Boxed W B5 T (.slice none n c)):PtOk B5 W:=by
 intro g hg
 rw [pt_box h] at hg
 cases hg
theorem keep_alloc {n₀ n₁ B5:Nat} {W:World} (hn:n₀≤W.heap.size) (hB:B5<W.heap.size) (o:Obj):Keep n₀ n₁ B5 W (W.alloc o):=by
 have hb:Below W.heap.size W (W.alloc o):=(Below.refl _ _).alloc (Nat.le_refl _) _
 exact ⟨(Below.refl _ _).alloc hn _,fun k _ hk _ _ _=>(hb.block k (heap_lt hk)).trans hk,.inl (pt_grow hB hb)⟩
theorem keep_append {n₀ n₁ B5:Nat} {W w1:World} {q:Option Addr} {k c m:Nat} {q':Option Addr} {c':Nat} {xs ys:List Value} {tmp:Obj}
 (hv:Boxed W B5 156 (.slice q k c)) (hrow:W.ownsRow n₀ 163 4 (.slice q k c) k xs) (hn:n₀≤W.heap.size) (hB:n₀≤B5) (h1:B5<n₁)
 (hown':w1.ownsRow n₀ 163 4 (.slice q' m c') m ys) (hgrow:(W.alloc tmp).grownBy w1 (Value.slice q k c).ownBlock)
 (hat:(Value.slice q' m c').ownBlock=(Value.slice q k c).ownBlock∨(Value.slice q' m c').ownBlock=some (W.alloc tmp).heap.size) :
 Keep n₀ n₁ B5 W (w1.setCell ⟨B5,0,none⟩ (.slice q' m c')):=by
 obtain ⟨b1,b2,_,_,hb⟩:=hv.appended (by decide) hrow hn hB hown' hgrow
 refine ⟨hb,fun j o hj _ hj1 hp=>?_,?_⟩
 ·have hlt:=heap_lt hj
  rw [pt_box hv] at hp
  have e1:=(Below.heap_alloc W tmp j hlt).trans hj
  have e2:=(hgrow.block j (by simp;omega) (fun e=>hp e.symm)).trans e1
  exact (Below.heap_setCell w1 ⟨B5,0,none⟩ _ j (by show j≠B5;omega)).trans e2
 ·rw [pt_box b2,pt_box hv]
  rcases hat with e|e
  ·exact .inl e
  ·refine .inr ⟨_,e,by simp,?_⟩
   have:=(hown'.lt _ e).2
   simpa using this
theorem info29:∃i,Tryz.prog.info? 163=some i∧i.zero=some (.agg #[.int .i64 0,.string ⟨#[]⟩,.int .i64 0,.int .i64 0])∧i.size=4∧i.bytes=40:=by
 have h:(Tryz.prog.info? 163).map (fun i=>(i.zero,i.size,i.bytes))=some (some (.agg #[.int .i64 0,.string ⟨#[]⟩,.int .i64 0,.int .i64 0]),4,40):=by kernel_rfl
 cases hi:Tryz.prog.info? 163 with
 | none=>rw [hi] at h;cases h
 | some i =>
  rw [hi] at h
  simp only [Option.map_some,Option.some.injEq,Prod.mk.injEq] at h
  obtain ⟨e1,e2,e3⟩:=h
  exact ⟨i,rfl,e1,e2,e3⟩
attribute [local go_sem] Oper.semAt_some
def ScanRes (s:ByteArray) (w:World) (e:Ending) (w':World):Prop :=
 Below w.heap.size w w' ∧
 ((∃ (ys:List It) (q:Option Addr) (c:Nat),ys.map It.key=allItems s∧(∀ x ∈ ys,x.e=0)∧e=.returned (.tuple #[.slice q ys.length c,.int .i64 0,.int .i64 0])∧w'.ownsRow w.heap.size 163 4 (.slice q ys.length c) ys.length (tokCells ys)) ∨
  (∃(pr:List It) (x:It),(pr++[x]).map It.key <+: allItems s∧x.e≠0∧e=.returned (.tuple #[.slice none 0 0,.int .i64 (x.a:Nat),.int .i64 (x.e:Nat)])))
def ScI (w:World) (pre:List It) (W:World):Prop :=
 ((((Boxed W w.heap.size 156 (.slice none 0 0)∧Boxed W (w.heap.size+1) 3 (.int .i64 0))∧Boxed W (w.heap.size+1+1) 31 (.int .i64 0)) ∧
   (∃v,Boxed W (w.heap.size+1+1+1) 156 v∧W.ownsRow w.heap.size 163 4 v pre.length (tokCells pre)∧∃q c,v=.slice q pre.length c))∧(∀x∈pre,x.e=0))∧Below w.heap.size w W
def ScX (w:World) (c:Code) (pre:List It) (W:World):Prop :=
 (c=.ret∧∃pr x,pre=pr++[x]∧x.e≠0∧Boxed W w.heap.size 156 (.slice none 0 0)∧Boxed W (w.heap.size+1) 3 (.int .i64 (x.a:Nat))∧Boxed W (w.heap.size+1+1) 31 (.int .i64 (x.e:Nat)))∧Below w.heap.size w W
theorem scI_own {w:World} {B:Nat} (hB:w.heap.size≤B):OwnFrom B (ScI w) :=
 OwnFrom.and (OwnFrom.and (OwnFrom.and (OwnFrom.and (OwnFrom.and (Own.from (boxed_own _ _ _) _) (Own.from (boxed_own _ _ _) _)) (Own.from (boxed_own _ _ _) _)) (Own.from (holdsRow_own _ _ _ _ _ _ _ _) _)) (fun _ _ _ _ h _ _=>h)) (ownFrom_below (Nat.le_refl _) hB)
theorem scX_own {w:World} {B:Nat} (hB:w.heap.size≤B) (c:Code):OwnFrom B (ScX w c):=by
 refine OwnFrom.and (fun pre X Y row h hg hr=>?_) (ownFrom_below (Nat.le_refl _) hB)
 obtain ⟨h1,pr,x,h2,h3,h4,h5,h6⟩:=h
 have hr':=fun r e=>(hr r e).2
 exact ⟨h1,pr,x,h2,h3,boxed_own _ _ (fun _=>_) () X Y row h4 hg hr',boxed_own _ _ (fun _=>_) () X Y row h5 hg hr',boxed_own _ _ (fun _=>_) () X Y row h6 hg hr'⟩
theorem tok_not_box {W:World} {g B:Nat} {k:Int} {t:ByteArray} {v a:Int} {T:TypeId} {u:Value} (h:TokB W g k t v a) (hb:Boxed W B T u):g≠B:=by
 rintro rfl
 have:=(show W.heap[g]?=_ from h).symm.trans hb
 simp at this
theorem sc_ret {w W:World} {B:Nat} {pre:List It} {x:It} (d2:Boxed W w.heap.size 156 (.slice none 0 0)) (d3:Boxed W (w.heap.size+1) 3 (.int .i64 0)) (d4:Boxed W (w.heap.size+1+1) 31 (.int .i64 0)) (hBW:Below w.heap.size w W) (hxe:¬x.e=0) :
 KeepsFrom B W (((W.setCell ⟨w.heap.size,0,none⟩ (.slice none 0 0)).setCell ⟨w.heap.size+1,0,none⟩ (.int .i64 (x.a:Nat))).setCell ⟨w.heap.size+1+1,0,none⟩ (.int .i64 (x.e:Nat))).drew ∧
 ScX w .ret (pre++[x]) (((W.setCell ⟨w.heap.size,0,none⟩ (.slice none 0 0)).setCell ⟨w.heap.size+1,0,none⟩ (.int .i64 (x.a:Nat))).setCell ⟨w.heap.size+1+1,0,none⟩ (.int .i64 (x.e:Nat))).drew:=by
 refine ⟨((((KeepsOthers.setCell _ _ _).trans (KeepsOthers.setCell _ _ _)).trans (KeepsOthers.setCell _ _ _)).trans (KeepsOthers.drew _)).from _,⟨rfl,pre,x,rfl,hxe,?_,?_,?_⟩,?_⟩
 ·exact ((d2.set _).other (by omega) _).other (by omega) _
 ·exact ((d3.other (by omega) _).set _).other (by omega) _
 ·exact ((d4.other (by omega) _).other (by omega) _).set _
 ·exact (((hBW.setCell (p:=⟨w.heap.size,0,none⟩) (Nat.le_refl _) _).setCell (p:=⟨w.heap.size+1,0,none⟩) (by simp) _).setCell (p:=⟨w.heap.size+1+1,0,none⟩) (by simp;omega) _).drew
theorem results16 (tmps:Array Value) (w:World) (b2 b3 b4:Nat) (q:Option Addr) (n c:Nat) (x y:Int) (h2:tmps[2]?.getD undef=.pointer (some ⟨b2,0,none⟩)) (h3:tmps[3]?.getD undef=.pointer (some ⟨b3,0,none⟩)) (h4:tmps[4]?.getD undef=.pointer (some ⟨b4,0,none⟩))
 (c2:w.cell? ⟨b2,0,none⟩=some (.slice q n c)) (c3:w.cell? ⟨b3,0,none⟩=some (.int .i64 x)) (c4:w.cell? ⟨b4,0,none⟩=some (.int .i64 y)) :
 (results Tryz.f111 tmps).run Tryz.prog w=.ok (.tuple #[.slice q n c,.int .i64 x,.int .i64 y]) w:=by
 simp [results,Tryz.results111,go_sem,h2,h3,h4,c2,c3,c4]
theorem cell_put {W:World} {a:Addr} {v:Value} {D:Nat} {o o':Obj} (h:W.cell? a=some v) (hD:W.heap[D]?=some o) (hc:o.isCells=false):(W.putObj D o').cell? a=some v :=
 cell_kept h (grownBy_putObj' W D o') (fun r e=>by cases e;exact ⟨_,hD,hc⟩)
theorem allItems_len (s:ByteArray):(allItems s).length≤65537:=by
 unfold allItems
 split
 ·simp
 ·have h:=scan_count _ (bl s) (Nat.le_refl _) 0
  rw [bl_length] at h
  unfold itemsOf
  rw [List.length_append,List.length_map]
  split
  ·simp;omega
  ·simp;omega
theorem row_new (W:World) (L:List Value) (T:TypeId):∀(j:Nat) (u:Value),L[j]?=some u→(W.alloc (.cells L.toArray T)).cell? ((⟨W.heap.size,0,none⟩:Addr).add j)=some u:=by
 intro j u h
 rw [show ((⟨W.heap.size,0,none⟩:Addr).add j)=⟨W.heap.size,j,none⟩ from by unfold Addr.add;split <;> simp_all,World.cell?_alloc_new]
 simpa using h
set_option maxRecDepth 100000 in
set_option maxHeartbeats 2000000 in
theorem scan_any (s:ByteArray) (w:World) (hE:Env w):Calls Tryz.prog 111 #[.string s] w (ScanRes s w):=by
 obtain ⟨gf,eg,hcall⟩:=each_res s
 obtain ⟨i0,hi,hz0,hz1,hz2⟩:=info29
 have hElt:=hE.lt
 have hmax:=allItems_len s
 refine (callsIn_wide (n:=3)).1 ?_
 refine callsIn_of_wp_marks Tryz.func111 rfl trivial ?_ rfl
 simp only [Tryz.ntmps111,List.size_toArray,List.length_cons,List.length_nil,Nat.reduceAdd,Nat.reduceSub,Array.replicate_succ,Array.replicate_zero,List.push_toArray,List.append_toArray,List.nil_append,List.cons_append]
 gi_wp2
 refine ⟨trivial,?_⟩
 gi_at_call 137
 refine (callsIn_wide.2 (hcall _)).mono ?_
 rintro e w1 ⟨lb,rfl,hb1,hseq⟩
 have b2:=(((Boxed.new w 156 (.slice none 0 0)).alloc (.cells #[.int .i64 0] 3)).alloc (.cells #[.int .i64 0] 31)).alloc (.cells #[.slice none 0 0] 156)
 have b3:=((Boxed.new (w.alloc (.cells #[.slice none 0 0] 156)) 3 (.int .i64 0)).alloc (.cells #[.int .i64 0] 31)).alloc (.cells #[.slice none 0 0] 156)
 have b4:=(Boxed.new ((w.alloc (.cells #[.slice none 0 0] 156)).alloc (.cells #[.int .i64 0] 3)) 31 (.int .i64 0)).alloc (.cells #[.slice none 0 0] 156)
 have b5:=Boxed.new (((w.alloc (.cells #[.slice none 0 0] 156)).alloc (.cells #[.int .i64 0] 3)).alloc (.cells #[.int .i64 0] 31)) 156 (.slice none 0 0)
 simp only [World.size_alloc] at b3 b4 b5
 have hB0:Below w.heap.size w ((((w.alloc (.cells #[.slice none 0 0] 156)).alloc (.cells #[.int .i64 0] 3)).alloc (.cells #[.int .i64 0] 31)).alloc (.cells #[.slice none 0 0] 156)):=((((Below.refl _ w).alloc (Nat.le_refl _) _).alloc (by simp) _).alloc (by simp;omega) _).alloc (by simp;omega) _
 have hsz:((((w.alloc (.cells #[.slice none 0 0] 156)).alloc (.cells #[.int .i64 0] 3)).alloc (.cells #[.int .i64 0] 31)).alloc (.cells #[.slice none 0 0] 156)).heap.size=w.heap.size+1+1+1+1:=by simp
 generalize ((((w.alloc (.cells #[.slice none 0 0] 156)).alloc (.cells #[.int .i64 0] 3)).alloc (.cells #[.int .i64 0] 31)).alloc (.cells #[.slice none 0 0] 156))=w0 at *
 have hgr:=grown_of_below hb1
 have c2:=b2.kept hgr (by simp)
 have c3:=b3.kept hgr (by simp)
 have c4:=b4.kept hgr (by simp)
 have c5:=b5.kept hgr (by simp)
 have hB1:=hB0.trans (hb1.mono (by omega))
 have hs1:=hb1.size
 rw [hsz] at hs1
 clear b2 b3 b4 b5 hb1 hB0 hgr
 have HSZ:=hid hsz
 have HMAX:=hid hmax
 clear hsz hmax
 gi_wp2_with fail
 have hE1:=hE.below hB1 hElt
 refine wpIn_rangeFunc_ownH rfl (by omega) (gf:=gf) (lb:=lb) rfl trivial eg
  (hseq (3 - 1) w.heap.size w1.heap.size (w.heap.size+1+1+1) w1 (fun _ _ _=>rfl) (Nat.le_refl _) hElt hB1.size (Nat.le_refl _) hE1 (ptOk_nil c5) (by omega)) (fun h k=>h.trans k) (fun W l o o' h1 h2 h3 h4=>keep_b hB1.size (by omega) W l o o' h1 h2 h3 h4) (Below.refl _ _) (fun _=>rfl)
  (ScI w) (ScX w) (scI_own hB1.size) (scX_own hB1.size)
  ⟨⟨⟨⟨⟨c2,c3⟩,c4⟩,⟨_,c5,World.ownsRow_nil _ _ _ _,⟨_,_,rfl⟩⟩⟩,fun x hx=>absurd hx (by simp)⟩,hB1⟩
  (fun x a' W=>∃g,TokB W g (x.k:Nat) x.t (x.v:Nat) (x.a:Nat)∧a'={ tmps:=#[.string s,undef,.pointer (some ⟨w.heap.size,0,none⟩),.pointer (some ⟨w.heap.size+1,0,none⟩),.pointer (some ⟨w.heap.size+1+1,0,none⟩),.pointer (some ⟨w.heap.size+1+1+1,0,none⟩),.pointer (some ⟨g,0,none⟩),.int .i64 (x.e:Nat),.string s,.func (.func gf) #[] lb,(tokV (x.k:Nat) x.t (x.v:Nat) (x.a:Nat)),.int .i64 (x.e:Nat),undef,undef,undef,undef,undef,undef,undef,undef,undef,undef],defers:=[] })
  (fun x a' _ X Y row hs hg hr=>by obtain ⟨g,h2,h3⟩:=hs;exact ⟨g,tokB_own g _ _ _ _ () X Y row h2 hg (fun r e=>(hr r e).2),h3⟩)
  ?assign ?body ?done ?stop
 case assign =>
  rintro l pre x W K hI hK
  obtain ⟨⟨⟨⟨⟨d2,d3⟩,d4⟩,⟨v,d5,hrow,hv⟩⟩,hx0⟩,hBW⟩:=hI
  have hK2:=hid hK
  clear hK
  unfold It.enc
  gi_wp2
  exact hK2.out _ _ ((KeepsOthers.alloc _ _).from _) (keep_alloc hBW.size d5.lt _) ⟨⟨⟨⟨⟨d2.alloc _,d3.alloc _⟩,d4.alloc _⟩,⟨v,d5.alloc _,hrow.alloc _,hv⟩⟩,hx0⟩,hBW.alloc hBW.size _⟩ ⟨W.heap.size,World.alloc_heap_new W _,rfl⟩
 case body =>
  rintro l pre x a' W _ _ hI ⟨g,hT,rfl⟩ hlt
  obtain ⟨⟨⟨⟨⟨d2,d3⟩,d4⟩,⟨v,d5,hrow,⟨q,c,rfl⟩⟩⟩,hx0⟩,hBW⟩:=hI
  obtain ⟨k0,k1,k2,k3,f0,f1,f2,f3⟩:=hT.at_
  by_cases hxe:x.e=0
  ·have hxe1:(((x.e:Nat):Int) != 0)=false:=by rw [hxe];rfl
   have hc5:=d5.cell
   have hlen:pre.length+1≤65537:=by have:=HMAX.out;omega
   gi_wp2_with (gi_at_builtin;refine wpListIn_append_own_at _ rfl _ _ 156 rfl w.heap.size 163 i0 _ 4 40 Tryz.underlying156 hi hz0 hz1 hz2 rfl (by decide) _ _ _ rfl (hrow.alloc _) ⟨W.heap.size,0,none⟩ 1 1 [.int .i64 (x.k:Nat),.string x.t,.int .i64 (x.v:Nat),.int .i64 (x.a:Nat)] rfl rfl ?c1 ?c2 ?c3 ?c4 ?c5 ?_)
   case c1=>exact row_new W _ 163
   case c2 =>
    intro u hu
    rcases List.mem_cons.1 hu with rfl|hu
    ·rfl
    rcases List.mem_cons.1 hu with rfl|hu
    ·rfl
    rcases List.mem_cons.1 hu with rfl|hu
    ·rfl
    rcases List.mem_cons.1 hu with rfl|hu
    ·rfl
    ·exact absurd hu (by simp)
   case c3=>unfold maxLen;omega
   case c4=>omega
   case c5=>have:=hBW.size;simp;omega
   intro v' w9 hown9 hgrow9 _ hat9
   obtain ⟨g',cap',rfl⟩:=ownsRow_succ hown9
   obtain ⟨hv1,hv2,hr2,hk2,hb2⟩:=d5.appended (by decide) hrow hBW.size (by omega) hown9 hgrow9
   have hKp:=keep_append (n₁:=w1.heap.size) d5 hrow hBW.size (by omega) (by omega) hown9 hgrow9 (by rw [World.size_alloc];exact hat9)
   have e2:=((d2.alloc (.cells #[.int .i64 (x.k:Nat),.string x.t,.int .i64 (x.v:Nat),.int .i64 (x.a:Nat)] 163)).kept hgrow9 (d2.not_row (by decide) hrow)).other (B':=w.heap.size+1+1+1) (by omega) (.slice (some ⟨g',0,none⟩) (pre.length+1) cap')
   have e3:=((d3.alloc (.cells #[.int .i64 (x.k:Nat),.string x.t,.int .i64 (x.v:Nat),.int .i64 (x.a:Nat)] 163)).kept hgrow9 (d3.not_row (by decide) hrow)).other (B':=w.heap.size+1+1+1) (by omega) (.slice (some ⟨g',0,none⟩) (pre.length+1) cap')
   have e4:=((d4.alloc (.cells #[.int .i64 (x.k:Nat),.string x.t,.int .i64 (x.v:Nat),.int .i64 (x.a:Nat)] 163)).kept hgrow9 (d4.not_row (by decide) hrow)).other (B':=w.heap.size+1+1+1) (by omega) (.slice (some ⟨g',0,none⟩) (pre.length+1) cap')
   have hc9:=hv1.cell
   have hf9:=hv1.frozen
   have hI2:ScI w (pre++[x]) (w9.setCell ⟨w.heap.size+1+1+1,0,none⟩ (.slice (some ⟨g',0,none⟩) (pre.length+1) cap')):=by
    refine ⟨⟨⟨⟨⟨e2,e3⟩,e4⟩,⟨_,hv2,?_,⟨_,_,by rw [List.length_append];rfl⟩⟩⟩,fun y hy=>?_⟩,hBW.trans hb2⟩
    ·rw [List.length_append,tokCells_snoc];exact hr2
    ·rcases List.mem_append.1 hy with h|h
     ·exact hx0 y h
     ·obtain rfl:y=x:=by simpa using h
      exact hxe
   have HI2:=hid hI2
   have HKP:=hid hKp
   clear hI2 hKp hv2 hr2 hb2 e2 e3 e4 hown9 hgrow9 hat9 hrow d5 d2 d3 d4 hBW hx0
   gi_wp2
   exact ⟨hk2.from _,HKP.out,HI2.out⟩
  ·have hxe1:(((x.e:Nat):Int) != 0)=true:=by simp;omega
   have g2:=d2.cell
   have g3:=d3.cell
   have g4:=d4.cell
   have p2:=d2.frozen
   have p3:=d3.frozen
   have p4:=d4.frozen
   have hbg2:g≠w.heap.size:=tok_not_box hT d2
   have hbg3:g≠w.heap.size+1:=tok_not_box hT d3
   have hbg4:g≠w.heap.size+1+1:=tok_not_box hT d4
   gi_wp2
   have hmo:Tryz.prog.follows .mixedOrders=true:=by kernel_rfl
   gi_region_with_o (fail)
   all_goals gi_wp2
   all_goals exact sc_ret d2 d3 d4 hBW hxe
 case done =>
  rintro D xs W hD hS hI hK
  obtain ⟨⟨⟨⟨⟨d2,d3⟩,d4⟩,⟨v,d5,hrow,⟨q,c,rfl⟩⟩⟩,hx0⟩,hBW⟩:=hI
  have g2:=d2.cell
  have g3:=d3.cell
  have g4:=d4.cell
  have g5:=d5.cell
  have p2:=d2.frozen
  have p3:=d3.frozen
  have p4:=d4.frozen
  gi_wp2
  have e2:=(((d2.set (.slice q xs.length c)).other (B':=w.heap.size+1) (by omega) (.int .i64 0)).other (B':=w.heap.size+1+1) (by omega) (.int .i64 0))
  have e3:=(((d3.other (B':=w.heap.size) (by omega) (.slice q xs.length c)).set (.int .i64 0)).other (B':=w.heap.size+1+1) (by omega) (.int .i64 0))
  have e4:=(((d4.other (B':=w.heap.size) (by omega) (.slice q xs.length c)).other (B':=w.heap.size+1) (by omega) (.int .i64 0)).set (.int .i64 0))
  have hB3:=(((hBW.setCell (p:=⟨w.heap.size,0,none⟩) (Nat.le_refl _) (.slice q xs.length c)).setCell (p:=⟨w.heap.size+1,0,none⟩) (by simp) (.int .i64 0)).setCell (p:=⟨w.heap.size+1+1,0,none⟩) (by simp;omega) (.int .i64 0))
  have hk3:=((((KeepsOthers.setCell W ⟨w.heap.size,0,none⟩ (.slice q xs.length c)).trans (KeepsOthers.setCell _ ⟨w.heap.size+1,0,none⟩ (.int .i64 0))).trans (KeepsOthers.setCell _ ⟨w.heap.size+1+1,0,none⟩ (.int .i64 0))).same D _ hK rfl)
  have hr1:=hrow.kept (grownBy_setCell' W w.heap.size (.slice q xs.length c)) (.inr (d2.not_row (by decide) hrow).symm)
  have hr2:=hr1.kept (grownBy_setCell' _ (w.heap.size+1) (.int .i64 0)) (.inr ((d3.other (B':=w.heap.size) (by omega) (.slice q xs.length c)).not_row (by decide) hr1).symm)
  have hr3:=hr2.kept (grownBy_setCell' _ (w.heap.size+1+1) (.int .i64 0)) (.inr (((d4.other (B':=w.heap.size) (by omega) (.slice q xs.length c)).other (B':=w.heap.size+1) (by omega) (.int .i64 0)).not_row (by decide) hr2).symm)
  generalize (((W.setCell ⟨w.heap.size,0,none⟩ (.slice q xs.length c)).setCell ⟨w.heap.size+1,0,none⟩ (.int .i64 0)).setCell ⟨w.heap.size+1+1,0,none⟩ (.int .i64 0))=W3 at *
  have hlt:=heap_lt hk3
  refine ⟨by simp,.inl ⟨_,_,rfl,run_takeDeferred hk3,?_⟩⟩
  have hr4:=ownsRow_putObj hr3 (.deferred none) hk3 rfl
  have hB4:=hB3.trans (belowK_b (w:=w) (Nat.le_refl _) W3 D _ (.deferred none) (by omega) hk3 rfl rfl)
  exact ⟨_,results16 _ _ _ _ _ _ _ _ _ _ rfl rfl rfl (cell_put e2.cell hk3 rfl) (cell_put e3.cell hk3 rfl) (cell_put e4.cell hk3 rfl),hB4,.inl ⟨xs,q,c,hS,hx0,rfl,hr4⟩⟩
 case stop =>
  rintro D c pre W hD hS hX hK
  obtain ⟨⟨rfl,pr,x,rfl,hxe,d2,d3,d4⟩,hBW⟩:=hX
  have g2:=d2.cell
  have g3:=d3.cell
  have g4:=d4.cell
  gi_wp2
  refine ⟨by simp,.inl ⟨_,_,rfl,run_takeDeferred hK,?_⟩⟩
  have hB4:=hBW.trans (belowK_b (w:=w) (Nat.le_refl _) W D _ (.deferred none) (by omega) hK rfl rfl)
  exact ⟨_,results16 _ _ _ _ _ _ _ _ _ _ rfl rfl rfl (cell_put g2 hK rfl) (cell_put g3 hK rfl) (cell_put g4 hK rfl),hB4,.inr ⟨pr,x,hS,hxe,rfl⟩⟩
end Go.Proofs.YtlpdjfimefjmcaaGreatDoor.Q
