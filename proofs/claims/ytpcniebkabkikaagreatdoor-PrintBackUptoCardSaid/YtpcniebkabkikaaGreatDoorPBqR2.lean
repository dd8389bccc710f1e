/- A part of the proof of PrintBack: contracts and plain facts. -/
import Derived.Test.YtpcniebkabkikaaGreatDoorPBqR1
import Derived.RangeFuncNested
import Derived.RangeFuncBound
import Derived.RangeFuncCalls
import Derived.RangeFuncLeaves
import Derived.OwnWalkIn
import Derived.TacticsInMore
import Derived.LoopNIn
import Derived.LoopIn
import Derived.ScopeJumps
import Derived.WalkMore
import Derived.Maps.OwnIn
import Derived.Maps.AppendAt
import Derived.Shelf.RegionOpen
import Derived.Outline
import Derived.Below
import Derived.Deep.Draws
import Derived.Laws.AppendOwn
set_option maxRecDepth 100000
set_option maxHeartbeats 8000000
open Go.Lib (hid)
open Go.Proofs.Tryz
open List renaming length_append → nla, append_assoc → nlb, length_cons → nlk, length_nil → nlg, map_append → nlh, cons_append → nli
open Go.World renaming size_alloc → nwz
namespace Go.Proofs.YtpcniebkabkikaaGreatDoor
open Go Go.RowKit
def TokRes (W:World) (k:Int) (t:ByteArray) (v er:Int) (e:Ending) (W':World):Prop:=e=.returned (.tuple #[tokV k t v 0,.int .i64 er])∧Below W.heap.size W W'
theorem ij_ {w w1:World} {o:Obj} (hb:Below (w.alloc o).heap.size (w.alloc o) w1):Below w.heap.size w w1 :=
 ((Below.refl _ w).alloc (Nat.le_refl _) o).trans (hb.mono (by simp))
theorem hd_ (s:ByteArray) (h0:0<s.size) (hs:s.size≤9223372036854775806) (hl:letterB (s[0]).toNat=true) (k:Int) (t:ByteArray) (v er:Int) (n:Nat) (hn:((bl s).takeWhile nameB).length=n)
 (hcall:∀W,Env W→Calls prog 216 #[.string (s.extract 0 n)] W (TokRes W k t v er)) (w:World) (hE:Env w):Calls prog 175 #[.string s] w (TokRes w k t v er):=by
 have hlt:=hE.lt
 have hn2:n≤s.size:=by rw [←hn,←ae_];exact (List.takeWhile_sublist _).length_le
 have hl1:=hid (fun W=>hl ▸ ci_ (s[0]).toNat W)
 have hr:=hid (fun W=>hn ▸ xe_ s hs W)
 have hc:=hid (hcall _ (hE.below ((Below.refl _ w).alloc (Nat.le_refl _) (.cells #[.int .i64 0,.string ⟨#[]⟩,.int .i64 0,.int .i64 0] 151)) hlt))
 clear hl hcall hn
 go_enter func175,ntmps175
 go_wp2_with (first|(go_at_call 215;refine (hl1.out _).mono ?_;rintro e w' ⟨rfl,rfl⟩)|(go_at_call 217;refine (hr.out _).mono ?_;rintro e w' ⟨rfl,rfl⟩)|(go_at_call 216;refine hc.out.mono ?_))
 rintro e w1 ⟨rfl,hb⟩
 have s1:=hb.size
 simp only [nwz] at s1
 obtain ⟨k0,k1,k2,k3,f0,f1,f2,f3⟩:=(TokAt.new w 0 ⟨#[]⟩ 0 0 151).below hb (by simp)
 have hB:=ij_ hb
 clear hb
 go_wp2
 exact bodyPost_ret (v:=.tuple #[tokV k t v 0,.int .i64 er]) (by simp [results,Tryz.results175,go_sem,k0,k1,k2,k3]) rfl ⟨rfl,set4 hB (Nat.le_refl _) _ _ _ _⟩
theorem ik_ (s:ByteArray) (h0:0<s.size) (hs:s.size≤9223372036854775806) (hl:letterB (s[0]).toNat=false) (hd:digitB (s[0]).toNat=true) (k:Int) (t:ByteArray) (v er:Int) (n:Nat) (hn:((bl s).takeWhile digitB).length=n)
 (hcall:∀W,Env W→Calls prog 220 #[.string (s.extract 0 n)] W (TokRes W k t v er)) (w:World) (hE:Env w):Calls prog 175 #[.string s] w (TokRes w k t v er):=by
 have hlt:=hE.lt
 have hn2:n≤s.size:=by rw [←hn,←ae_];exact (List.takeWhile_sublist _).length_le
 have hl1:=hid (fun W=>hl ▸ ci_ (s[0]).toNat W)
 have hd1:=hid (fun W=>hd ▸ cb_ (s[0]).toNat W)
 have hr:=hid (fun W=>hn ▸ sl_ s hs W)
 have hc:=hid (hcall _ (hE.below ((Below.refl _ w).alloc (Nat.le_refl _) (.cells #[.int .i64 0,.string ⟨#[]⟩,.int .i64 0,.int .i64 0] 151)) hlt))
 clear hl hd hcall hn
 go_enter func175,ntmps175
 go_wp2_with (first|(go_at_call 215;refine (hl1.out _).mono ?_;rintro e w' ⟨rfl,rfl⟩)|(go_at_call 219;refine (hd1.out _).mono ?_;rintro e w' ⟨rfl,rfl⟩)|(go_at_call 217;refine (hr.out _).mono ?_;rintro e w' ⟨rfl,rfl⟩)|(go_at_call 220;refine hc.out.mono ?_))
 rintro e w1 ⟨rfl,hb⟩
 have s1:=hb.size
 simp only [nwz] at s1
 obtain ⟨k0,k1,k2,k3,f0,f1,f2,f3⟩:=(TokAt.new w 0 ⟨#[]⟩ 0 0 151).below hb (by simp)
 have hB:=ij_ hb
 clear hb
 go_wp2
 exact bodyPost_ret (v:=.tuple #[tokV k t v 0,.int .i64 er]) (by simp [results,Tryz.results175,go_sem,k0,k1,k2,k3]) rfl ⟨rfl,set4 hB (Nat.le_refl _) _ _ _ _⟩
theorem j3_ (s:ByteArray) (h0:0<s.size) (hl:letterB (s[0]).toNat=false) (hd:digitB (s[0]).toNat=false) (k:Int) (t:ByteArray) (v er:Int)
 (hcall:∀W,Calls prog 221 #[.string s] W (TokRes W k t v er)) (w:World):Calls prog 175 #[.string s] w (TokRes w k t v er):=by
 have hl1:=hid (fun W=>hl ▸ ci_ (s[0]).toNat W)
 have hd1:=hid (fun W=>hd ▸ cb_ (s[0]).toNat W)
 have hc:=hid (hcall)
 clear hl hd hcall
 go_enter func175,ntmps175
 go_wp2_with (first|(go_at_call 215;refine (hl1.out _).mono ?_;rintro e w' ⟨rfl,rfl⟩)|(go_at_call 219;refine (hd1.out _).mono ?_;rintro e w' ⟨rfl,rfl⟩)|(go_at_call 221;refine (hc.out _).mono ?_))
 rintro e w1 ⟨rfl,hb⟩
 have s1:=hb.size
 simp only [nwz] at s1
 obtain ⟨k0,k1,k2,k3,f0,f1,f2,f3⟩:=(TokAt.new w 0 ⟨#[]⟩ 0 0 151).below hb (by simp)
 have hB:=ij_ hb
 clear hb
 go_wp2
 exact bodyPost_ret (v:=.tuple #[tokV k t v 0,.int .i64 er]) (by simp [results,Tryz.results175,go_sem,k0,k1,k2,k3]) rfl ⟨rfl,set4 hB (Nat.le_refl _) _ _ _ _⟩
theorem dx_ (s:ByteArray) (n:Nat):bl (s.extract 0 n)=(bl s).take n:=by rw [jv_,List.drop_zero]
theorem fv_ (s:ByteArray) (n:Nat) (h:n≤s.size):(s.extract 0 n).size=n:=by rw [←ae_,dx_,List.length_take,ae_];omega
theorem he_ {c:Nat} {r:List Nat} (h:letterB c=true):wordL (c::r)=(((c::r).takeWhile nameB).length,if (c::r).take ((c::r).takeWhile nameB).length∈keysL then 2 else 1):=by rw [wordL,if_pos h]
theorem il_ {c:Nat} {r:List Nat} (hl:letterB c=false) (h:digitB c=true):wordL (c::r)=(((c::r).takeWhile digitB).length,3):=by rw [wordL,if_neg (by rw [hl];simp),if_pos h]
theorem j4_ {c:Nat} {r:List Nat} (hl:letterB c=false) (h:digitB c=false):wordL (c::r)=if (c::r).take 2∈mark2 then (2,4) else if c∈mark1 then (1,4) else (0,0):=by rw [wordL,if_neg (by rw [hl];simp),if_neg (by rw [h];simp)]
theorem gk_ {l:List Nat} (h:2≤l.length):l.take 2∈marksL↔l.take 2∈mark2:=by
 match l,h with
 | a::b::r,_ =>
  simp only [marksL,List.mem_append,List.take_succ_cons,List.take_zero]
  constructor
  ·rintro (h|h)
   ·simp [mark1] at h
   ·exact h
  ·exact .inr
theorem j5_ (c:Nat):[c]∈marksL↔c∈mark1:=by
 simp [marksL,mark1,mark2]
theorem t3_ {l:List Nat} (h:l.length<2):l.take 2 ∉ mark2:=by
 intro hm
 have:(l.take 2).length=2:=(show ∀m∈mark2,m.length=2 by decide) _ hm
 rw [List.length_take] at this
 omega
theorem k7_ (s:ByteArray) (h0:0<s.size) (hs:s.size≤281474976710656) (h:errL (bl s)=0) (w:World) (hE:Env w) :
 Calls prog 175 #[.string s] w (TokRes w ((wordL (bl s)).2:Nat) (s.extract 0 (wordL (bl s)).1) ((valL (bl s):Nat):Int) 0):=by
 have hg:=id_ s 0 h0
 have hle:=fn_ (bl s)
 rw [ae_] at hle
 have hbt:=dx_ s (wordL (bl s)).1
 have hst:=fv_ s (wordL (bl s)).1 hle
 have h1:=dx_ s 1
 have h2:=dx_ s 2
 have hlen:=ae_ s
 obtain ⟨c,hc⟩:∃c,(s[0]).toNat=c:=⟨_,rfl⟩
 rw [hc] at hg
 obtain ⟨r,hr⟩:∃r,bl s=c::r:=by
  cases hb:bl s with
  | nil=>rw [hb] at hg;simp at hg
  | cons d r=>rw [hb] at hg;simp at hg;exact ⟨r,by rw [hg]⟩
 have hw0:(wordL (bl s)).1≠0:=by
  intro e;rw [errL,if_pos e] at h;exact absurd h (by decide)
 rw [errL,if_neg hw0] at h
 have hn1:¬((wordL (bl s)).2=1∧32<(wordL (bl s)).1):=by
  intro e;rw [if_pos e] at h;exact absurd h (by decide)
 rw [if_neg hn1] at h
 have hn2:¬((wordL (bl s)).2=3∧most<valD ((bl s).take (wordL (bl s)).1)):=by
  intro e;rw [if_pos e] at h;exact absurd h (by decide)
 clear h
 by_cases hl:letterB c=true
 ·have hw:wordL (bl s)=(((bl s).takeWhile nameB).length,if (bl s).take ((bl s).takeWhile nameB).length∈keysL then 2 else 1):=by rw [hr];exact he_ hl
  have hn:((bl s).takeWhile nameB).length=(wordL (bl s)).1:=by rw [hw]
  refine hd_ s h0 (by omega) (by rw [hc];exact hl) _ _ _ _ (wordL (bl s)).1 hn (fun W _=>?_) w hE
  by_cases hk:(bl s).take ((bl s).takeWhile nameB).length∈keysL
  ·have e2:(wordL (bl s)).2=2:=by rw [hw];exact if_pos hk
   have hv:valL (bl s)=0:=by rw [valL,e2];rfl
   rw [e2,hv]
   exact xg_ _ (by rw [hbt,←hn];exact hk) W
  ·have e2:(wordL (bl s)).2=1:=by rw [hw];exact if_neg hk
   have hv:valL (bl s)=0:=by rw [valL,e2];rfl
   rw [e2,hv]
   exact name_ok _ (by rw [hbt,←hn];exact hk) (by rw [hst];rw [e2] at hn1;omega) W
 ·have hl:letterB c=false:=by simpa using hl
  by_cases hd:digitB c=true
  ·have hw:wordL (bl s)=(((bl s).takeWhile digitB).length,3):=by rw [hr];exact il_ hl hd
   have hn:((bl s).takeWhile digitB).length=(wordL (bl s)).1:=by rw [hw]
   have e2:(wordL (bl s)).2=3:=by rw [hw]
   have hv:valL (bl s)=valD (bl (s.extract 0 (wordL (bl s)).1)):=by rw [valL,e2,hbt];rfl
   refine ik_ s h0 (by omega) (by rw [hc];exact hl) (by rw [hc];exact hd) _ _ _ _ (wordL (bl s)).1 hn (fun W _=>?_) w hE
   rw [e2,hv]
   refine sr_ _ (by rw [hst];omega) (fun x hx=>?_) (by rw [hst];omega) ?_ W
   ·rw [hbt,←hn,as_] at hx
    exact bd_ _ x hx
   ·rw [hbt];rw [e2] at hn2;omega
  ·have hd:digitB c=false:=by simpa using hd
   have hw:wordL (bl s)=if (bl s).take 2∈mark2 then (2,4) else if c∈mark1 then (1,4) else (0,0):=by
    have:=j4_ (r:=r) hl hd
    rw [←hr] at this;exact this
   refine j3_ s h0 (by rw [hc];exact hl) (by rw [hc];exact hd) _ _ _ _ (fun W=>?_) w
   have ht1:(bl s).take 1=[c]:=by rw [hr];rfl
   by_cases hm2:(bl s).take 2∈mark2
   ·have hsz:2≤s.size:=by
     rw [←hlen]
     rcases Nat.lt_or_ge (bl s).length 2 with hh|hh
     ·exact absurd hm2 (t3_ hh)
     ·exact hh
    rw [if_pos hm2] at hw
    have hv:valL (bl s)=0:=by rw [valL,hw];rfl
    rw [hv,hw]
    exact xi_ s hsz (by omega) (by rw [h2];exact (gk_ (by rw [hlen];exact hsz)).2 hm2) W
   ·rw [if_neg hm2] at hw
    by_cases hm1:c∈mark1
    ·rw [if_pos hm1] at hw
     have hv:valL (bl s)=0:=by rw [valL,hw];rfl
     rw [hv,hw]
     exact xj_ s h0 (by omega) (by rw [h1,ht1];exact (j5_ c).2 hm1) (fun hsz=>by rw [h2];exact fun hh=>hm2 ((gk_ (by rw [hlen];exact hsz)).1 hh)) W
    ·rw [if_neg hm1] at hw
     exact absurd (by rw [hw]) hw0
theorem im_ (s:ByteArray) (h0:0<s.size) (hs:s.size≤281474976710656) (h:errL (bl s)≠0) (w:World) (hE:Env w) :
 Calls prog 175 #[.string s] w (TokRes w 0 ⟨#[]⟩ 0 ((errL (bl s):Nat):Int)):=by
 have hg:=id_ s 0 h0
 have hle:=fn_ (bl s)
 rw [ae_] at hle
 have hbt:=dx_ s (wordL (bl s)).1
 have hst:=fv_ s (wordL (bl s)).1 hle
 have h1:=dx_ s 1
 have h2:=dx_ s 2
 have hlen:=ae_ s
 obtain ⟨c,hc⟩:∃c,(s[0]).toNat=c:=⟨_,rfl⟩
 rw [hc] at hg
 obtain ⟨r,hr⟩:∃r,bl s=c::r:=by
  cases hb:bl s with
  | nil=>rw [hb] at hg;simp at hg
  | cons d r=>rw [hb] at hg;simp at hg;exact ⟨r,by rw [hg]⟩
 by_cases hl:letterB c=true
 ·have hw:wordL (bl s)=(((bl s).takeWhile nameB).length,if (bl s).take ((bl s).takeWhile nameB).length∈keysL then 2 else 1):=by rw [hr];exact he_ hl
  have hn:((bl s).takeWhile nameB).length=(wordL (bl s)).1:=by rw [hw]
  have hnm:nameB c=true:=by unfold nameB;rw [hl];rfl
  have hn0:(wordL (bl s)).1≠0:=by rw [←hn,hr,List.takeWhile_cons,if_pos hnm];simp
  refine hd_ s h0 (by omega) (by rw [hc];exact hl) _ _ _ _ (wordL (bl s)).1 hn (fun W _=>?_) w hE
  by_cases hk:(bl s).take ((bl s).takeWhile nameB).length∈keysL
  ·have e2:(wordL (bl s)).2=2:=by rw [hw];exact if_pos hk
   exact absurd (by rw [errL,if_neg hn0,e2];simp) h
  ·have e2:(wordL (bl s)).2=1:=by rw [hw];exact if_neg hk
   by_cases h32:32<(wordL (bl s)).1
   ·have he:errL (bl s)=3:=by rw [errL,if_neg hn0,if_pos ⟨e2,h32⟩]
    rw [he]
    exact sp_ _ (by rw [hbt,←hn];exact hk) (by rw [hst];exact h32) W
   ·exact absurd (by rw [errL,if_neg hn0,e2,if_neg (by omega),if_neg (by simp)]) h
 ·have hl:letterB c=false:=by simpa using hl
  by_cases hd:digitB c=true
  ·have hw:wordL (bl s)=(((bl s).takeWhile digitB).length,3):=by rw [hr];exact il_ hl hd
   have hn:((bl s).takeWhile digitB).length=(wordL (bl s)).1:=by rw [hw]
   have e2:(wordL (bl s)).2=3:=by rw [hw]
   have hn0:(wordL (bl s)).1≠0:=by rw [←hn,hr,List.takeWhile_cons,if_pos hd];simp
   refine ik_ s h0 (by omega) (by rw [hc];exact hl) (by rw [hc];exact hd) _ _ _ _ (wordL (bl s)).1 hn (fun W hEW=>?_) w hE
   by_cases hm:most<valD ((bl s).take (wordL (bl s)).1)
   ·have he:errL (bl s)=3:=by rw [errL,if_neg hn0,if_neg (by rw [e2];omega),if_pos ⟨e2,hm⟩]
    rw [he]
    refine rh_ _ (by rw [hst];omega) (fun x hx=>?_) (by rw [hst];omega) (by rw [hbt];exact hm) W hEW
    rw [hbt,←hn,as_] at hx
    exact bd_ _ x hx
   ·exact absurd (by rw [errL,if_neg hn0,if_neg (by rw [e2];omega),if_neg (fun x=>hm x.2)]) h
  ·have hd:digitB c=false:=by simpa using hd
   have hw:wordL (bl s)=if (bl s).take 2∈mark2 then (2,4) else if c∈mark1 then (1,4) else (0,0):=by
    have:=j4_ (r:=r) hl hd
    rw [←hr] at this;exact this
   refine j3_ s h0 (by rw [hc];exact hl) (by rw [hc];exact hd) _ _ _ _ (fun W=>?_) w
   have ht1:(bl s).take 1=[c]:=by rw [hr];rfl
   by_cases hm2:(bl s).take 2∈mark2
   ·rw [if_pos hm2] at hw
    exact absurd (by rw [errL,hw];simp) h
   ·rw [if_neg hm2] at hw
    by_cases hm1:c∈mark1
    ·rw [if_pos hm1] at hw
     exact absurd (by rw [errL,hw];simp) h
    ·rw [if_neg hm1] at hw
     have he:errL (bl s)=40:=by rw [errL,hw,if_pos rfl]
     rw [he]
     exact mark_no s h0 (by omega) (by rw [h1,ht1];exact fun hh=>hm1 ((j5_ c).1 hh)) (fun hsz=>by rw [h2];exact fun hh=>hm2 ((gk_ (by rw [hlen];exact hsz)).1 hh)) W
structure It where
 k:Nat
 t:ByteArray
 v:Nat
 a:Nat
 e:Nat
def It.key (x:It):Tok × Nat:=(⟨x.k,bl x.t,x.v,x.a⟩,x.e)
def It.enc (x:It):Array Value:=#[tokV x.k x.t x.v x.a,.int .i64 (x.e:Int)]
def pt (B5:Nat) (W:World):Option Nat:=match W.cell? ⟨B5,0,none⟩ with
 | some (.slice (some a) _ _)=>some a.block
 | _=>none
structure Keep (n₀ n₁ B5:Nat) (W W':World):Prop where
 below:Below n₀ W W'
 kept:∀k o,W.heap[k]?=some o→o.isCells=true→n₁≤k→pt B5 W≠some k→W'.heap[k]?=some o
 leads:pt B5 W'=pt B5 W∨∃g,pt B5 W'=some g∧W.heap.size≤g∧g<W'.heap.size
theorem heap_lt {w:World} {b:Nat} {o:Obj} (h:w.heap[b]?=some o):b<w.heap.size:=(Array.getElem?_eq_some_iff.1 h).1
theorem Keep.trans {n₀ n₁ B5:Nat} {A B C:World} (h:Keep n₀ n₁ B5 A B) (k:Keep n₀ n₁ B5 B C):Keep n₀ n₁ B5 A C:=by
 refine ⟨h.below.trans k.below,fun j o ho hc hj hp=>?_,?_⟩
 ·have h1:=h.kept j o ho hc hj hp
  refine k.kept j o h1 hc hj ?_
  rcases h.leads with e|⟨g,e,hg,_⟩
  ·rw [e];exact hp
  ·rw [e]
   intro e'
   obtain rfl:g=j:=by injection e'
   exact absurd (heap_lt ho) (by omega)
 ·rcases k.leads with e|⟨g,e,hg,hl⟩
  ·rcases h.leads with e1|⟨g,e1,hg,hl⟩
   ·exact .inl (e.trans e1)
   ·exact .inr ⟨g,e.trans e1,hg,Nat.lt_of_lt_of_le hl k.below.size⟩
  ·exact .inr ⟨g,e,Nat.le_trans h.below.size hg,hl⟩
theorem j6_ {B5:Nat} {W W':World} (h:W'.cell? ⟨B5,0,none⟩=W.cell? ⟨B5,0,none⟩):pt B5 W'=pt B5 W:=by
 unfold pt;rw [h]
theorem keep_b {n₀ n₁ B5:Nat} {w:World} (hn:n₀≤w.heap.size) (hB:B5<w.heap.size) (W:World) (l:Nat) (o o':Obj) (hl:w.heap.size≤l) (h:W.heap[l]?=some o) (hc:o.isCells=false) (hw:o.isWalk=false):Keep n₀ n₁ B5 W (W.putObj l o'):=by
 refine ⟨belowK_b hn W l o o' hl h hc hw,fun k o2 hk hc2 _ _=>?_,.inl (j6_ ?_)⟩
 ·rw [World.putObj_heap_other (by intro e;subst e;rw [h] at hk;cases hk;rw [hc] at hc2;cases hc2)]
  exact hk
 ·exact World.cell?_of_block (a:=⟨B5,0,none⟩) (World.putObj_heap_other (by show B5≠l;omega))
def PtOk (B5:Nat) (W:World):Prop:=∀g,pt B5 W=some g→g<W.heap.size
theorem PtOk.keep {n₀ n₁ B5:Nat} {W W':World} (h:PtOk B5 W) (hk:Keep n₀ n₁ B5 W W'):PtOk B5 W':=by
 intro g hg
 rcases hk.leads with e|⟨g',e,_,hl⟩
 ·rw [e] at hg;exact Nat.lt_of_lt_of_le (h g hg) hk.below.size
 ·rw [e] at hg;obtain rfl:g'=g:=by injection hg
  exact hl
theorem op_ {B5:Nat} {W W':World} (hB:B5<W.heap.size) (hb:Below W.heap.size W W'):pt B5 W'=pt B5 W:=j6_ (hb.cell (p:=⟨B5,0,none⟩) hB)
theorem PtOk.grow {B5:Nat} {W W':World} (h:PtOk B5 W) (hB:B5<W.heap.size) (hb:Below W.heap.size W W'):PtOk B5 W':=by
 intro g hg
 rw [op_ hB hb] at hg
 exact Nat.lt_of_lt_of_le (h g hg) hb.size
theorem e5_ {W W':World} (hb:Below W.heap.size W W'):W.grownBy W' none:=by
 obtain ⟨h1,h2,h3,h4,h5⟩:=hb
 exact ⟨h1,h2,h3,h4,fun k hk _=>h5 k hk⟩
structure WSt (S0 n₀ n₁ B5:Nat) (s:ByteArray) (J:List It→World→Prop) (a:Nat) (pre:List It) (W:World):Prop where
 items:pre.map It.key++itemsOf (scanL ((bl s).drop a) a)=itemsOf (scanL (bl s) 0)
 at_:a≤s.size
 inv:J pre W
 env:Env W
 ptok:PtOk B5 W
 b5:B5<W.heap.size
 n0:n₀≤W.heap.size
 n1:n₁≤W.heap.size
 s0:S0≤W.heap.size
theorem WSt.grow {S0 n₀ n₁ B5:Nat} {s:ByteArray} {J:List It→World→Prop} {a:Nat} {pre:List It} {W W':World} (h:WSt S0 n₀ n₁ B5 s J a pre W) (hJ:AbidesFrom S0 J) (hb:Below W.heap.size W W'):WSt S0 n₀ n₁ B5 s J a pre W' :=
 ⟨h.items,h.at_,hJ pre W W' none h.inv (e5_ hb) (fun r e=>by cases e),h.env.below hb h.env.lt,h.ptok.grow h.b5 hb,Nat.lt_of_lt_of_le h.b5 hb.size,Nat.le_trans h.n0 hb.size,Nat.le_trans h.n1 hb.size,Nat.le_trans h.s0 hb.size⟩
theorem WSt.keep {S0 n₀ n₁ B5:Nat} {s:ByteArray} {J:List It→World→Prop} {a a':Nat} {pre:List It} {x:It} {W W':World} (h:WSt S0 n₀ n₁ B5 s J a pre W) (hn:6<n₀) (hk:Keep n₀ n₁ B5 W W') (hJ:J (pre++[x]) W')
 (hi:itemsOf (scanL ((bl s).drop a) a)=x.key::itemsOf (scanL ((bl s).drop a') a')) (ha:a'≤s.size):WSt S0 n₀ n₁ B5 s J a' (pre++[x]) W' :=
 ⟨by rw [←h.items,hi,nlh,nlb];rfl,ha,hJ,h.env.below hk.below hn,h.ptok.keep hk,Nat.lt_of_lt_of_le h.b5 hk.below.size,Nat.le_trans h.n0 hk.below.size,Nat.le_trans h.n1 hk.below.size,Nat.le_trans h.s0 hk.below.size⟩
theorem pt_ {n₀ n₁ B5:Nat} {W W3:World} {k:Int} {t:ByteArray} {v a:Int} (hp:PtOk B5 W) (hB:B5<W.heap.size) (h1:n₁≤W.heap.size)
 (hk:Keep n₀ n₁ B5 (W.alloc (.cells #[.int .i64 k,.string t,.int .i64 v,.int .i64 a] 151)) W3):TokAt W3 W.heap.size k t v a:=by
 have hb:Below W.heap.size W (W.alloc (.cells #[.int .i64 k,.string t,.int .i64 v,.int .i64 a] 151)):=(Below.refl _ _).alloc (Nat.le_refl _) _
 have h3:=hk.kept W.heap.size _ (World.alloc_heap_new W _) rfl h1 (by
  rw [op_ hB hb]
  intro e
  exact absurd (hp _ e) (Nat.lt_irrefl _))
 have hn:=TokAt.new W k t v a 151
 have hh:=World.alloc_heap_new W (.cells #[.int .i64 k,.string t,.int .i64 v,.int .i64 a] 151)
 have hc:∀j,W3.cell? ⟨W.heap.size,j,none⟩=(W.alloc (.cells #[.int .i64 k,.string t,.int .i64 v,.int .i64 a] 151)).cell? ⟨W.heap.size,j,none⟩:=fun j=>World.cell?_of_block (h3.trans hh.symm)
 have hf:∀j,W3.frozen? ⟨W.heap.size,j,none⟩=(W.alloc (.cells #[.int .i64 k,.string t,.int .i64 v,.int .i64 a] 151)).frozen? ⟨W.heap.size,j,none⟩:=fun j=>World.frozen?_of_block (h3.trans hh.symm)
 exact ⟨(hc 0).trans hn.c0,(hc 1).trans hn.c1,(hc 2).trans hn.c2,(hc 3).trans hn.c3,(hf 0).trans hn.f0,(hf 1).trans hn.f1,(hf 2).trans hn.f2,(hf 3).trans hn.f3⟩
theorem c1_ (s:ByteArray) (k:Nat):bl (s.extract k s.size)=(bl s).drop k:=by
 rw [jv_,List.take_of_length_le (by rw [ae_];exact Nat.le_refl _)]
theorem gap_le (l:List Nat):gapL l≤l.length:=by
 unfold gapL
 split
 ·exact (List.takeWhile_sublist _).length_le
 ·exact (List.takeWhile_sublist _).length_le
theorem WSt.gap {S0 n₀ n₁ B5:Nat} {s:ByteArray} {J:List It→World→Prop} {k:Nat} {pre:List It} {W:World} (h:WSt S0 n₀ n₁ B5 s J k pre W):WSt S0 n₀ n₁ B5 s J (k+gapL ((bl s).drop k)) pre W:=by
 have hg:=gap_le ((bl s).drop k)
 rw [List.length_drop,ae_] at hg
 refine ⟨?_,by have:=h.at_;omega,h.inv,h.env,h.ptok,h.b5,h.n0,h.n1,h.s0⟩
 have:=h.items
 rw [sk_,List.drop_drop] at this
 exact this
def itAt (s:ByteArray) (k:Nat):It:=⟨(wordL ((bl s).drop k)).2,(s.extract k s.size).extract 0 (wordL ((bl s).drop k)).1,valL ((bl s).drop k),k,0⟩
theorem t4_ {s:ByteArray} {k:Nat} (hk:k<s.size) (hg:gapL ((bl s).drop k)=0) (he:errL ((bl s).drop k)=0) :
 itemsOf (scanL ((bl s).drop k) k)=(itAt s k).key::itemsOf (scanL ((bl s).drop (k+(wordL ((bl s).drop k)).1)) (k+(wordL ((bl s).drop k)).1))∧k+(wordL ((bl s).drop k)).1≤s.size∧0<(wordL ((bl s).drop k)).1∧(itAt s k).t.size=(wordL ((bl s).drop k)).1:=by
 have hw:=fp_ he
 have hle:=fn_ ((bl s).drop k)
 rw [List.length_drop,ae_] at hle
 have hst:(itAt s k).t.size=(wordL ((bl s).drop k)).1:=fv_ _ _ (by simp;omega)
 refine ⟨?_,by omega,by omega,hst⟩
 have hbt:bl (itAt s k).t=((bl s).drop k).take (wordL ((bl s).drop k)).1:=by
  show bl ((s.extract k s.size).extract 0 _)=_
  rw [dx_,c1_]
 have hkey:(itAt s k).key=(⟨(wordL ((bl s).drop k)).2,((bl s).drop k).take (wordL ((bl s).drop k)).1,valL ((bl s).drop k),k⟩,0):=by
  unfold It.key;rw [hbt];rfl
 rw [hkey,←List.drop_drop]
 clear hkey hbt hst hle hw
 cases hd:(bl s).drop k with
 | nil =>
  have:=congrArg List.length hd
  rw [List.length_drop,ae_] at this
  simp at this;omega
 | cons c r =>
  rw [hd] at hg he
  obtain ⟨h1,h2⟩:=zp_ hg
  exact rg_ k h1 h2 he
theorem zx_ {s:ByteArray} {k:Nat} (hk:k<s.size) (hg:gapL ((bl s).drop k)=0) (he:errL ((bl s).drop k)≠0) :
 itemsOf (scanL ((bl s).drop k) k)=[(⟨0,⟨#[]⟩,0,k,errL ((bl s).drop k)⟩:It).key]:=by
 cases hd:(bl s).drop k with
 | nil =>
  have:=congrArg List.length hd
  rw [List.length_drop,ae_] at this
  simp at this;omega
 | cons c r =>
  rw [hd] at hg he
  obtain ⟨h1,h2⟩:=zp_ hg
  exact si_ k h1 h2 he
theorem zy_ {s:ByteArray} {k:Nat} (hk:s.size≤k):itemsOf (scanL ((bl s).drop k) k)=[]:=by
 rw [List.drop_of_length_le (by rw [ae_];exact hk)]
 exact sj_ k
theorem pu_ {pre:List It} {x:It} {l r:List (Tok × Nat)} (h:pre.map It.key++l=r) (hl:∃q,l=x.key::q):pre.length<r.length:=by
 obtain ⟨q,rfl⟩:=hl
 have:=congrArg List.length h
 rw [nla,List.length_map,nlk] at this
 omega
theorem pv_ {pre:List It} {x:It} {l r:List (Tok × Nat)} (h:pre.map It.key++l=r) (hl:∃q,l=x.key::q):(pre++[x]).map It.key <+: r:=by
 obtain ⟨q,rfl⟩:=hl
 exact ⟨q,by rw [←h,nlh,nlb];rfl⟩
theorem fw_ {P:Program} {l:Nat} {args:Array Value} {W:World} {R:Ending→World→Prop} {m:Nat} (m':Nat) (h:YieldAt Fence.wide m P l args W R):YieldAt Fence.wide m' P l args W R:=by
 obtain ⟨fn,tmps,assign,body,hy,h1,h2⟩:=h
 exact ⟨fn,tmps,assign,body,hy,h1,fun c cs _=>h2 c cs (room_wide _)⟩
attribute [local go_sem] Oper.semAt_some
def WJ (S0 n₀ n₁ B5:Nat) (s:ByteArray) (l:Nat) (J:List It→World→Prop) (a:Act) (w:World):Prop :=
 ∃(at_:Nat) (pre:List It) (u5 u6 u7 u8 u9 u10 u11 u12 u13 u14 u15 u16 u17 u18 u19 u20 u21 u22 u23 u24 u25 u26 u27 u28 u29 u30 u31 u32 u33 u34 u35 u36 u37 u38 u39 u40 u41 u42 u43:Value),a={ tmps:=#[.string s,.func (.yield l) #[] #[],undef,undef,.int .i64 (at_:Int),u5,u6,u7,u8,u9,u10,u11,u12,u13,u14,u15,u16,u17,u18,u19,u20,u21,u22,u23,u24,u25,u26,u27,u28,u29,u30,u31,u32,u33,u34,u35,u36,u37,u38,u39,u40,u41,u42,u43],defers:=[] }∧WSt S0 n₀ n₁ B5 s J at_ pre w
theorem eu_ {l:Nat} {J:Act→World→Prop} {Q:Exit→Act→World→Prop} {a:Act} {w:World}:Exit.jump l J Q .ret a w=Q .ret a w:=rfl
theorem in_ {l:Nat} {J:Act→World→Prop} {Q:Exit→Act→World→Prop} {a:Act} {w:World}:Exit.jump l J Q .normal a w=Q .normal a w:=rfl
def wMu (s:ByteArray) (a:Act) (_:World):Nat:=s.size - (intOf (a.tmps.getD 4 undef)).toNat
theorem walk_iw (n m l n₀ n₁ B5:Nat) (s:ByteArray) (hs:s.size≤65536) (hn₀:6<n₀) (J Jx:List It→World→Prop) (W:World) (hJ:AbidesFrom W.heap.size J)
 (hY:∀pre x W1,J pre W1→pre.length<(itemsOf (scanL (bl s) 0)).length→YieldAt Fence.wide m prog l x.enc W1 fun e W' =>
  (e=.returned (.bool true)∧J (pre++[x]) W'∧Keep n₀ n₁ B5 W1 W')∨(e=.returned (.bool false)∧Jx (pre++[x]) W'))
 (hE:Env W) (hpt:PtOk B5 W) (hB5:B5<W.heap.size) (hn0:n₀≤W.heap.size) (hn1:n₁≤W.heap.size) (h0:J [] W) :
 CallsIn Fence.wide n prog 183 #[.string s,.func (.yield l) #[] #[]] W fun e W'=>(∃v,e=.returned v) ∧
  ((∃ys:List It,ys.map It.key=itemsOf (scanL (bl s) 0)∧J ys W')∨(∃pre:List It,pre.map It.key <+: itemsOf (scanL (bl s) 0)∧Jx pre W')):=by
 have hst:WSt W.heap.size n₀ n₁ B5 s J 0 [] W:=⟨by rw [List.drop_zero];rfl,Nat.zero_le _,h0,hE,hpt,hB5,hn0,hn1,Nat.le_refl _⟩
 clear hE hpt hB5 hn0 hn1 h0
 obtain ⟨S0,hS0⟩:∃S0,W.heap.size=S0:=⟨_,rfl⟩
 rw [hS0] at hst hJ
 clear hS0
 refine callsIn_of_wp func183 rfl trivial ?_ rfl
 simp only [ntmps183,List.size_toArray,nlk,nlg,Nat.reduceAdd,Nat.reduceSub,Array.replicate_succ,Array.replicate_zero,List.push_toArray,List.append_toArray,List.nil_append,nli]
 refine wpIn_wide.2 ?_
 refine wp_scope_jumps 0 (WJ S0 n₀ n₁ B5 s l J) (wMu s) rfl ?first ?pass
 case first =>
  go_wp2
  go_step3
  go_wp2
  refine (wpIn_wide (n:=n)).1 ?_
  gi_loopw [4] (fun i wr=>∃(k:Nat) (pr:List It),i=.int .i64 k∧WSt S0 n₀ n₁ B5 s J k pr wr ) (fun i _=>s.size - (intOf i).toNat)
  case atStart=>exact ⟨0,[],rfl,hst⟩
  case round =>
   clear hst
   obtain ⟨k,pr,rfl,hst⟩:=hrel
   by_cases hlt:k<s.size
   ·have ht0:0<(s.extract k s.size).size:=by simp;omega
    have hts:(s.extract k s.size).size≤65536:=by simp;omega
    have hgc:=sn_ (s.extract k s.size) ht0 (by omega) wr
    rw [c1_] at hgc
    by_cases hg:0<gapL ((bl s).drop k)
    ·have HS:=hid hst.gap
     have hk2:=hst.gap.at_
     have hc:=hid hgc
     clear hst ht0 hts hgc
     generalize gapL ((bl s).drop k)=gp at *
     gi_wp2_with (refine ⟨trivial,(fun h=>by cases h),?_⟩;gi_at_call 223;refine (callsIn_wide.2 hc.out).mono ?_;rintro e w' ⟨rfl,rfl⟩)
     refine wpIn_wide.2 ?_
     go_step3
     exact ⟨rfl,k+gp,pr,_,_,_,_,_,_,_,_,_,_,_,_,_,_,_,_,_,_,_,_,_,_,_,_,_,_,_,_,_,_,_,_,_,_,_,_,_,_,_,by rw [Int.natCast_add],HS.out⟩
    ·have hg0:gapL ((bl s).drop k)=0:=by omega
     rw [hg0] at hgc
     have hc:=hid hgc
     clear hgc hg
     by_cases he:errL ((bl s).drop k)=0
     ·have hf:=k7_ (s.extract k s.size) ht0 (by omega) (by rw [c1_];exact he) wr hst.env
      rw [c1_] at hf
      obtain ⟨hit,hk2,hn0,hsz⟩:=t4_ hlt hg0 he
      have HF:=hid hf
      have HIT:=hid hit
      have HSZ:=hid hsz
      have HS:=hid hst
      clear hf hit hsz hst ht0 hts hg0 he
      obtain ⟨x,hx⟩:∃x,itAt s k=x:=⟨_,rfl⟩
      have HF2:Hid (Calls prog 175 #[.string (s.extract k s.size)] wr (TokRes wr (x.k:Nat) x.t (x.v:Nat) 0)):=by rw [←hx];exact HF
      have hxa:x.a=k:=by rw [←hx];rfl
      have hxe:x.e=0:=by rw [←hx];rfl
      rw [hx] at HIT HSZ
      clear HF hx
      generalize (wordL ((bl s).drop k)).1=nn at *
      gi_wp2_with (first|(refine ⟨trivial,(fun h=>by cases h),?_⟩;gi_at_call 223;refine (callsIn_wide.2 hc.out).mono ?_;rintro e w' ⟨rfl,rfl⟩)|(refine ⟨trivial,(fun h=>by cases h),?_⟩;gi_at_call 175;refine (callsIn_wide.2 HF2.out).mono ?_))
      rintro e w1 ⟨rfl,hb1⟩
      have hs1:=HS.out.grow hJ hb1
      have hs2:=hs1.grow hJ ((Below.refl _ w1).alloc (Nat.le_refl _) (.cells #[.int .i64 (x.k:Nat),.string x.t,.int .i64 (x.v:Nat),.int .i64 (k:Nat)] 151))
      obtain ⟨fn,tmps,assign,body,hy,hR⟩:=fw_ (n - 1) (hY pr x _ hs2.inv (pu_ hs2.items ⟨_,HIT.out⟩))
      have hy':(Instr.yield l #[tokV (x.k:Nat) x.t (x.v:Nat) (k:Nat),.int .i64 0]).run prog (w1.alloc (.cells #[.int .i64 (x.k:Nat),.string x.t,.int .i64 (x.v:Nat),.int .i64 (k:Nat)] 151))=.ok (.round l fn tmps assign body) (w1.alloc (.cells #[.int .i64 (x.k:Nat),.string x.t,.int .i64 (x.v:Nat),.int .i64 (k:Nat)] 151)):=by
       unfold It.enc at hy
       rw [hxa,hxe] at hy
       exact hy
      clear hy
      have H1:=hid hs1
      have H2:=hid hs2
      have HXA:=hid hxa
      have HXE:=hid hxe
      clear hs1 hs2 hb1 hY hxa hxe
      gi_wp2
      refine ⟨(fun h=>by cases h),hR.mono ?_⟩
      rintro e W3 (⟨rfl,hJ3,hk3⟩|⟨rfl,hJx3⟩)
      ·obtain ⟨k0,k1,k2,k3,f0,f1,f2,f3⟩:=pt_ H1.out.ptok H1.out.b5 H1.out.n1 hk3
       have HN:=hid (H2.out.keep hn₀ hk3 hJ3 HIT.out hk2)
       obtain rfl:=HSZ.out
       clear HS H1 H2 hk3 hJ3 hR hy'
       gi_wp2
       refine ⟨⟨k+x.t.size,pr++[x],by rw [Int.natCast_add],HN.out⟩,by simp [intOf];omega⟩
      ·have HP:=hid (pv_ HS.out.items ⟨_,HIT.out⟩)
       clear HS H1 H2 hR hy'
       gi_wp2
       rw [eu_]
       refine bodyPost_ret (results_none rfl _ _ _) rfl ?_
       exact ⟨⟨_,rfl⟩,.inr ⟨pr++[x],HP.out,hJx3⟩⟩
     ·have hf:=im_ (s.extract k s.size) ht0 (by omega) (by rw [c1_];exact he) wr hst.env
      rw [c1_] at hf
      have hit:=zx_ hlt hg0 he
      have heb:((errL ((bl s).drop k):Nat):Int)≠0:=by omega
      generalize errL ((bl s).drop k)=er at *
      have heb1:(((er:Nat):Int) != 0)=true:=by simpa using heb
      have heb2:(((er:Nat):Int) == 0)=false:=by simpa using heb
      have HF2:=hid hf
      have HIT:=hid hit
      have HS:=hid hst
      clear hf hit hst ht0 hts hg0 he heb
      gi_wp2_with (first|(refine ⟨trivial,(fun h=>by cases h),?_⟩;gi_at_call 223;refine (callsIn_wide.2 hc.out).mono ?_;rintro e w' ⟨rfl,rfl⟩)|(refine ⟨trivial,(fun h=>by cases h),?_⟩;gi_at_call 175;refine (callsIn_wide.2 HF2.out).mono ?_))
      rintro e w1 ⟨rfl,hb1⟩
      have hs1:=HS.out.grow hJ hb1
      have hs2:=hs1.grow hJ ((Below.refl _ w1).alloc (Nat.le_refl _) (.cells #[.int .i64 0,.string ⟨#[]⟩,.int .i64 0,.int .i64 (k:Nat)] 151))
      obtain ⟨fn,tmps,assign,body,hy,hR⟩:=fw_ (n - 1) (hY pr ⟨0,⟨#[]⟩,0,k,er⟩ _ hs2.inv (pu_ hs2.items ⟨_,HIT.out⟩))
      have hy':(Instr.yield l #[tokV 0 ⟨#[]⟩ 0 (k:Nat),.int .i64 (er:Nat)]).run prog (w1.alloc (.cells #[.int .i64 0,.string ⟨#[]⟩,.int .i64 0,.int .i64 (k:Nat)] 151))=.ok (.round l fn tmps assign body) (w1.alloc (.cells #[.int .i64 0,.string ⟨#[]⟩,.int .i64 0,.int .i64 (k:Nat)] 151)):=hy
      clear hy
      have HP:=hid (pv_ HS.out.items ⟨_,HIT.out⟩)
      have HA:=hid (show (pr++[(⟨0,⟨#[]⟩,0,k,er⟩:It)]).map It.key=itemsOf (scanL (bl s) 0) by rw [←HS.out.items,HIT.out,nlh];rfl)
      clear hs1 hs2 hb1 hY HS HIT
      gi_wp2
      refine ⟨(fun h=>by cases h),hR.mono ?_⟩
      rintro e W3 (⟨rfl,hJ3,hk3⟩|⟨rfl,hJx3⟩)
      ·clear hR hy' hk3
       gi_wp2
       rw [eu_]
       refine bodyPost_ret (results_none rfl _ _ _) rfl ?_
       exact ⟨⟨_,rfl⟩,.inl ⟨_,HA.out,hJ3⟩⟩
      ·clear hR hy'
       gi_wp2
       rw [eu_]
       refine bodyPost_ret (results_none rfl _ _ _) rfl ?_
       exact ⟨⟨_,rfl⟩,.inr ⟨_,HP.out,hJx3⟩⟩
   ·have HA:=hid (show pr.map It.key=itemsOf (scanL (bl s) 0) by have:=hst.items;rw [zy_ (by omega),List.append_nil] at this;exact this)
    have HI:=hid hst.inv
    clear hst
    gi_wp2
    rw [in_]
    go_end0
    exact ⟨⟨_,rfl⟩,.inl ⟨pr,HA.out,HI.out⟩⟩
 case pass =>
  rintro a w ⟨at_,pre,u5,u6,u7,u8,u9,u10,u11,u12,u13,u14,u15,u16,u17,u18,u19,u20,u21,u22,u23,u24,u25,u26,u27,u28,u29,u30,u31,u32,u33,u34,u35,u36,u37,u38,u39,u40,u41,u42,u43,rfl,hst⟩
  go_wp2
  refine (wpIn_wide (n:=n)).1 ?_
  gi_loopw [4] (fun i wr=>∃(k:Nat) (pr:List It),i=.int .i64 k∧WSt S0 n₀ n₁ B5 s J k pr wr∧at_≤k) (fun i _=>s.size - (intOf i).toNat)
  case atStart=>exact ⟨at_,pre,rfl,hst,Nat.le_refl _⟩
  case round =>
   clear hst
   obtain ⟨k,pr,rfl,hst,hle⟩:=hrel
   by_cases hlt:k<s.size
   ·have ht0:0<(s.extract k s.size).size:=by simp;omega
    have hts:(s.extract k s.size).size≤65536:=by simp;omega
    have hgc:=sn_ (s.extract k s.size) ht0 (by omega) wr
    rw [c1_] at hgc
    by_cases hg:0<gapL ((bl s).drop k)
    ·have HS:=hid hst.gap
     have hk2:=hst.gap.at_
     have hc:=hid hgc
     clear hst ht0 hts hgc
     generalize gapL ((bl s).drop k)=gp at *
     gi_wp2_with (refine ⟨trivial,(fun h=>by cases h),?_⟩;gi_at_call 223;refine (callsIn_wide.2 hc.out).mono ?_;rintro e w' ⟨rfl,rfl⟩)
     refine wpIn_wide.2 ?_
     go_step3
     exact ⟨rfl,⟨k+gp,pr,_,_,_,_,_,_,_,_,_,_,_,_,_,_,_,_,_,_,_,_,_,_,_,_,_,_,_,_,_,_,_,_,_,_,_,_,_,_,_,by rw [Int.natCast_add],HS.out⟩,by simp [wMu,intOf];omega⟩
    ·have hg0:gapL ((bl s).drop k)=0:=by omega
     rw [hg0] at hgc
     have hc:=hid hgc
     clear hgc hg
     by_cases he:errL ((bl s).drop k)=0
     ·have hf:=k7_ (s.extract k s.size) ht0 (by omega) (by rw [c1_];exact he) wr hst.env
      rw [c1_] at hf
      obtain ⟨hit,hk2,hn0,hsz⟩:=t4_ hlt hg0 he
      have HF:=hid hf
      have HIT:=hid hit
      have HSZ:=hid hsz
      have HS:=hid hst
      clear hf hit hsz hst ht0 hts hg0 he
      obtain ⟨x,hx⟩:∃x,itAt s k=x:=⟨_,rfl⟩
      have HF2:Hid (Calls prog 175 #[.string (s.extract k s.size)] wr (TokRes wr (x.k:Nat) x.t (x.v:Nat) 0)):=by rw [←hx];exact HF
      have hxa:x.a=k:=by rw [←hx];rfl
      have hxe:x.e=0:=by rw [←hx];rfl
      rw [hx] at HIT HSZ
      clear HF hx
      generalize (wordL ((bl s).drop k)).1=nn at *
      gi_wp2_with (first|(refine ⟨trivial,(fun h=>by cases h),?_⟩;gi_at_call 223;refine (callsIn_wide.2 hc.out).mono ?_;rintro e w' ⟨rfl,rfl⟩)|(refine ⟨trivial,(fun h=>by cases h),?_⟩;gi_at_call 175;refine (callsIn_wide.2 HF2.out).mono ?_))
      rintro e w1 ⟨rfl,hb1⟩
      have hs1:=HS.out.grow hJ hb1
      have hs2:=hs1.grow hJ ((Below.refl _ w1).alloc (Nat.le_refl _) (.cells #[.int .i64 (x.k:Nat),.string x.t,.int .i64 (x.v:Nat),.int .i64 (k:Nat)] 151))
      obtain ⟨fn,tmps,assign,body,hy,hR⟩:=fw_ (n - 1) (hY pr x _ hs2.inv (pu_ hs2.items ⟨_,HIT.out⟩))
      have hy':(Instr.yield l #[tokV (x.k:Nat) x.t (x.v:Nat) (k:Nat),.int .i64 0]).run prog (w1.alloc (.cells #[.int .i64 (x.k:Nat),.string x.t,.int .i64 (x.v:Nat),.int .i64 (k:Nat)] 151))=.ok (.round l fn tmps assign body) (w1.alloc (.cells #[.int .i64 (x.k:Nat),.string x.t,.int .i64 (x.v:Nat),.int .i64 (k:Nat)] 151)):=by
       unfold It.enc at hy
       rw [hxa,hxe] at hy
       exact hy
      clear hy
      have H1:=hid hs1
      have H2:=hid hs2
      have HXA:=hid hxa
      have HXE:=hid hxe
      clear hs1 hs2 hb1 hY hxa hxe
      gi_wp2
      refine ⟨(fun h=>by cases h),hR.mono ?_⟩
      rintro e W3 (⟨rfl,hJ3,hk3⟩|⟨rfl,hJx3⟩)
      ·obtain ⟨k0,k1,k2,k3,f0,f1,f2,f3⟩:=pt_ H1.out.ptok H1.out.b5 H1.out.n1 hk3
       have HN:=hid (H2.out.keep hn₀ hk3 hJ3 HIT.out hk2)
       obtain rfl:=HSZ.out
       clear HS H1 H2 hk3 hJ3 hR hy'
       gi_wp2
       refine ⟨⟨k+x.t.size,pr++[x],by rw [Int.natCast_add],HN.out,by omega⟩,by simp [intOf];omega⟩
      ·have HP:=hid (pv_ HS.out.items ⟨_,HIT.out⟩)
       clear HS H1 H2 hR hy'
       gi_wp2
       rw [eu_]
       refine bodyPost_ret (results_none rfl _ _ _) rfl ?_
       exact ⟨⟨_,rfl⟩,.inr ⟨pr++[x],HP.out,hJx3⟩⟩
     ·have hf:=im_ (s.extract k s.size) ht0 (by omega) (by rw [c1_];exact he) wr hst.env
      rw [c1_] at hf
      have hit:=zx_ hlt hg0 he
      have heb:((errL ((bl s).drop k):Nat):Int)≠0:=by omega
      generalize errL ((bl s).drop k)=er at *
      have heb1:(((er:Nat):Int) != 0)=true:=by simpa using heb
      have heb2:(((er:Nat):Int) == 0)=false:=by simpa using heb
      have HF2:=hid hf
      have HIT:=hid hit
      have HS:=hid hst
      clear hf hit hst ht0 hts hg0 he heb
      gi_wp2_with (first|(refine ⟨trivial,(fun h=>by cases h),?_⟩;gi_at_call 223;refine (callsIn_wide.2 hc.out).mono ?_;rintro e w' ⟨rfl,rfl⟩)|(refine ⟨trivial,(fun h=>by cases h),?_⟩;gi_at_call 175;refine (callsIn_wide.2 HF2.out).mono ?_))
      rintro e w1 ⟨rfl,hb1⟩
      have hs1:=HS.out.grow hJ hb1
      have hs2:=hs1.grow hJ ((Below.refl _ w1).alloc (Nat.le_refl _) (.cells #[.int .i64 0,.string ⟨#[]⟩,.int .i64 0,.int .i64 (k:Nat)] 151))
      obtain ⟨fn,tmps,assign,body,hy,hR⟩:=fw_ (n - 1) (hY pr ⟨0,⟨#[]⟩,0,k,er⟩ _ hs2.inv (pu_ hs2.items ⟨_,HIT.out⟩))
      have hy':(Instr.yield l #[tokV 0 ⟨#[]⟩ 0 (k:Nat),.int .i64 (er:Nat)]).run prog (w1.alloc (.cells #[.int .i64 0,.string ⟨#[]⟩,.int .i64 0,.int .i64 (k:Nat)] 151))=.ok (.round l fn tmps assign body) (w1.alloc (.cells #[.int .i64 0,.string ⟨#[]⟩,.int .i64 0,.int .i64 (k:Nat)] 151)):=hy
      clear hy
      have HP:=hid (pv_ HS.out.items ⟨_,HIT.out⟩)
      have HA:=hid (show (pr++[(⟨0,⟨#[]⟩,0,k,er⟩:It)]).map It.key=itemsOf (scanL (bl s) 0) by rw [←HS.out.items,HIT.out,nlh];rfl)
      clear hs1 hs2 hb1 hY HS HIT
      gi_wp2
      refine ⟨(fun h=>by cases h),hR.mono ?_⟩
      rintro e W3 (⟨rfl,hJ3,hk3⟩|⟨rfl,hJx3⟩)
      ·clear hR hy' hk3
       gi_wp2
       rw [eu_]
       refine bodyPost_ret (results_none rfl _ _ _) rfl ?_
       exact ⟨⟨_,rfl⟩,.inl ⟨_,HA.out,hJ3⟩⟩
      ·clear hR hy'
       gi_wp2
       rw [eu_]
       refine bodyPost_ret (results_none rfl _ _ _) rfl ?_
       exact ⟨⟨_,rfl⟩,.inr ⟨_,HP.out,hJx3⟩⟩
   ·have HA:=hid (show pr.map It.key=itemsOf (scanL (bl s) 0) by have:=hst.items;rw [zy_ (by omega),List.append_nil] at this;exact this)
    have HI:=hid hst.inv
    clear hst
    gi_wp2
    rw [in_]
    go_end0
    exact ⟨⟨_,rfl⟩,.inl ⟨pr,HA.out,HI.out⟩⟩
attribute [local go_sem] Oper.semAt_some
theorem t5_ (s:ByteArray) (hs:s.size≤281474976710656) (w:World):Calls prog 181 #[.string s] w fun e w'=>e=.returned (.string s)∧Below w.heap.size w w':=by
 have hc:=hid (fun W=>Tryz.stringslite_Clone s W hs)
 go_enter func181,ntmps181
 go_wp2_with (go_at_call 222;refine (hc.out _).mono ?_;rintro e w1 ⟨rfl,hb⟩)
 go_ret
 exact ⟨rfl,hb⟩
theorem t6_ (s:ByteArray) (hs:65536<s.size) (w:World):Calls prog 143 #[.string s] w fun e w'=>e=.returned (.func (.func 180) #[] #[])∧w=w':=by
 go_enter func143,ntmps143
 go_wp2
 go_ret
 exact ⟨rfl,rfl⟩
theorem each_ok (s:ByteArray) (hs:s.size≤65536) (w:World) :
 Calls prog 143 #[.string s] w fun e w'=>∃b,e=.returned (.func (.func 182) #[] #[.pointer (some ⟨b,0,none⟩)])∧w'.cell? ⟨b,0,none⟩=some (.string s)∧w.heap.size≤b∧b<w'.heap.size∧Below w.heap.size w w':=by
 have hc:=hid (fun W=>t5_ s (by omega) W)
 go_enter func143,ntmps143
 go_wp2_with (go_at_call 181;refine (hc.out _).mono ?_;rintro e w1 ⟨rfl,hb⟩)
 go_ret
 exact ⟨w1.heap.size,rfl,by simp [go_sem],hb.size,by simp,hb.alloc hb.size _⟩
def allItems (s:ByteArray):List (Tok × Nat):=if 65536<s.size then [(⟨0,[],0,0⟩,3)] else itemsOf (scanL (bl s) 0)
theorem stops24 (n n₀ n₁ B5 Bo:Nat) (s:ByteArray) (hs:s.size≤65536) (hn₀:6<n₀) (w:World) (hn0:n₀≤w.heap.size) (hn1:n₁≤w.heap.size) (hBo:Bo<w.heap.size) (hB:w.cell? ⟨Bo,0,none⟩=some (.string s)) (hE:Env w) (hpt:PtOk B5 w) (hB5:B5<w.heap.size) :
 SeqStopsK Fence.wide n prog 182 #[.pointer (some ⟨Bo,0,none⟩)] It.enc (Keep n₀ n₁ B5) (fun ys=>ys.map It.key=allItems s) (fun pre=>pre.map It.key <+: allItems s) (allItems s).length w:=by
 intro l J Jx W hW hJ _ hY h0
 have hall:allItems s=itemsOf (scanL (bl s) 0):=if_neg (by omega)
 rw [hall] at hY ⊢
 have hcell:=(hW.cell (p:=⟨Bo,0,none⟩) hBo).trans hB
 have hcall:=hid (fun m=>walk_iw m (n - 1) l n₀ n₁ B5 s hs hn₀ J Jx W hJ hY (hE.below hW hE.lt) (hpt.grow hB5 hW) (Nat.lt_of_lt_of_le hB5 hW.size) (Nat.le_trans hn0 hW.size) (Nat.le_trans hn1 hW.size) h0)
 clear hY hJ hall hn0 hn1 hBo hB hE hpt hB5 hW
 refine callsIn_of_wp func182 rfl trivial ?_ rfl
 simp only [ntmps182,List.size_toArray,nlk,nlg,Nat.reduceAdd,Nat.reduceSub,Array.replicate_succ,Array.replicate_zero,List.push_toArray,List.append_toArray,List.nil_append,nli]
 gi_wp2
 refine ⟨trivial,(fun h=>by cases h),(hcall.out _).mono ?_⟩
 rintro e W' ⟨⟨v,rfl⟩,hh⟩
 have HH:=hid hh
 clear hh
 gi_wp2
 go_end0
 exact ⟨⟨_,rfl⟩,HH.out⟩
theorem stops22 (n n₀ n₁ B5:Nat) (s:ByteArray) (hs:65536<s.size) (w:World) :
 SeqStopsK Fence.wide n prog 180 #[] It.enc (Keep n₀ n₁ B5) (fun ys=>ys.map It.key=allItems s) (fun pre=>pre.map It.key <+: allItems s) (allItems s).length w:=by
 intro l J Jx W hW hJ _ hY h0
 have hall:allItems s=[(⟨0,[],0,0⟩,3)]:=if_pos hs
 rw [hall] at hY ⊢
 obtain ⟨fn,tmps,assign,body,hy,hR⟩:=hY [] ⟨0,⟨#[]⟩,0,0,3⟩ W h0 (by simp)
 have hy':(Instr.yield l #[tokV 0 ⟨#[]⟩ 0 0,.int .i64 3]).run prog W=.ok (.round l fn tmps assign body) W:=hy
 clear hy hY hJ hall hs hW h0
 refine callsIn_of_wp func180 rfl trivial ?_ rfl
 simp only [ntmps180,List.size_toArray,nlk,nlg,Nat.reduceAdd,Nat.reduceSub,Array.replicate_succ,Array.replicate_zero,List.push_toArray,List.append_toArray,List.nil_append,nli]
 gi_wp2
 refine ⟨(fun h=>by cases h),hR.mono ?_⟩
 rintro e W3 (⟨rfl,hJ3,_⟩|⟨rfl,hJx3⟩)
 ·gi_wp2
  go_end0
  exact ⟨⟨_,rfl⟩,.inl ⟨_,rfl,hJ3⟩⟩
 ·gi_wp2
  go_end0
  exact ⟨⟨_,rfl⟩,.inr ⟨_,List.prefix_rfl,hJx3⟩⟩
attribute [local go_sem] Oper.semAt_some
def EachRes (s:ByteArray) (gf:Nat) (W:World) (e:Ending) (w':World):Prop :=
 ∃lb,e=.returned (.func (.func gf) #[] lb)∧Below W.heap.size W w'∧∀(n n₀ n₁ B5:Nat) (w2:World),(∀b,W.heap.size≤b→b<w'.heap.size→w2.heap[b]?=w'.heap[b]?)→w'.heap.size≤w2.heap.size→6<n₀→n₀≤w2.heap.size→n₁≤w2.heap.size→Env w2→PtOk B5 w2→B5<w2.heap.size →
  SeqStopsK Fence.wide n prog gf lb It.enc (Keep n₀ n₁ B5) (fun ys=>ys.map It.key=allItems s) (fun pre=>pre.map It.key <+: allItems s) (allItems s).length w2
theorem ya_ (s:ByteArray):∃gf,(∀args w,(callFunc gf args).run prog w=.ok (.enter gf args) w)∧∀W,Calls prog 143 #[.string s] W (EachRes s gf W):=by
 by_cases hs:65536<s.size
 ·refine ⟨180,enters_of func180 (by kernel_rfl) rfl,fun W=>(t6_ s hs W).mono ?_⟩
  rintro e w' ⟨rfl,rfl⟩
  exact ⟨#[],rfl,Below.refl _ _,fun n n₀ n₁ B5 w2 _ _ _ _ _ _ _ _=>stops22 n n₀ n₁ B5 s hs w2⟩
 ·refine ⟨182,enters_of func182 (by kernel_rfl) rfl,fun W=>(each_ok s (by omega) W).mono ?_⟩
  rintro e w' ⟨b,rfl,hc,hb0,hb,hB⟩
  exact ⟨_,rfl,hB,fun n n₀ n₁ B5 w2 h2 hsz hn₀ h3 h4 hE hp h5=>stops24 n n₀ n₁ B5 b s (by omega) hn₀ w2 h3 h4 (Nat.lt_of_lt_of_le hb hsz) ((World.cell?_of_block (a:=⟨b,0,none⟩) (h2 b hb0 hb)).trans hc) hE hp h5⟩
def TokB (W:World) (g:Nat) (k:Int) (t:ByteArray) (v a:Int):Prop:=W.heap[g]?=some (.cells #[.int .i64 k,.string t,.int .i64 v,.int .i64 a] 151 (0,0))
theorem TokB.at_ {W:World} {g:Nat} {k:Int} {t:ByteArray} {v a:Int} (h:TokB W g k t v a):TokAt W g k t v a:=by
 unfold TokB at h
 exact ⟨by simp [World.cell?,h],by simp [World.cell?,h],by simp [World.cell?,h],by simp [World.cell?,h],by simp [World.frozen?,h],by simp [World.frozen?,h],by simp [World.frozen?,h],by simp [World.frozen?,h]⟩
theorem yb_ (g:Nat) (k:Int) (t:ByteArray) (v a:Int):Own (fun (_:Unit) W=>TokB W g k t v a):=by
 intro s X Y row h hg hr
 refine (hg.block g (heap_lt h) (fun e=>?_)).trans h
 obtain ⟨o,ho,hc⟩:=hr g e.symm
 rw [show X.heap[g]?=_ from h] at ho;cases ho;cases hc
def tokCells (ys:List It):List Value:=ys.flatMap fun x=>[.int .i64 (x.k:Nat),.string x.t,.int .i64 (x.v:Nat),.int .i64 (x.a:Nat)]
theorem fx_ (ys:List It) (x:It):tokCells (ys++[x])=tokCells ys++[.int .i64 (x.k:Nat),.string x.t,.int .i64 (x.v:Nat),.int .i64 (x.a:Nat)]:=by
 simp [tokCells]
theorem pw_ {B5:Nat} {W:World} {T:TypeId} {q:Option Addr} {n c:Nat} (h:Boxed W B5 T (.slice q n c)):pt B5 W=(Value.slice q n c).ownBlock:=by
 unfold pt
 rw [h.cell]
 cases q <;> rfl
theorem yc_ {B5:Nat} {W:World} {T:TypeId} {n c:Nat} (h:Boxed W B5 T (.slice none n c)):PtOk B5 W:=by
 intro g hg
 rw [pw_ h] at hg
 cases hg
theorem rs_ {n₀ n₁ B5:Nat} {W:World} (hn:n₀≤W.heap.size) (hB:B5<W.heap.size) (o:Obj):Keep n₀ n₁ B5 W (W.alloc o):=by
 have hb:Below W.heap.size W (W.alloc o):=(Below.refl _ _).alloc (Nat.le_refl _) _
 exact ⟨(Below.refl _ _).alloc hn _,fun k _ hk _ _ _=>(hb.block k (heap_lt hk)).trans hk,.inl (op_ hB hb)⟩
theorem oq_ {n₀ n₁ B5:Nat} {W w1:World} {q:Option Addr} {k c m:Nat} {q':Option Addr} {c':Nat} {xs ys:List Value} {tmp:Obj}
 (hv:Boxed W B5 144 (.slice q k c)) (hrow:W.ownsRow n₀ 151 4 (.slice q k c) k xs) (hn:n₀≤W.heap.size) (hB:n₀≤B5) (h1:B5<n₁)
 (hown':w1.ownsRow n₀ 151 4 (.slice q' m c') m ys) (hgrow:(W.alloc tmp).grownBy w1 (Value.slice q k c).ownBlock)
 (hat:(Value.slice q' m c').ownBlock=(Value.slice q k c).ownBlock∨(Value.slice q' m c').ownBlock=some (W.alloc tmp).heap.size) :
 Keep n₀ n₁ B5 W (w1.setCell ⟨B5,0,none⟩ (.slice q' m c')):=by
 obtain ⟨b1,b2,_,_,hb⟩:=hv.appended (by decide) hrow hn hB hown' hgrow
 refine ⟨hb,fun j o hj _ hj1 hp=>?_,?_⟩
 ·have hlt:=heap_lt hj
  rw [pw_ hv] at hp
  have e1:=(Below.heap_alloc W tmp j hlt).trans hj
  have e2:=(hgrow.block j (by simp;omega) (fun e=>hp e.symm)).trans e1
  exact (Below.heap_setCell w1 ⟨B5,0,none⟩ _ j (by show j≠B5;omega)).trans e2
 ·rw [pw_ b2,pw_ hv]
  rcases hat with e|e
  ·exact .inl e
  ·refine .inr ⟨_,e,by simp,?_⟩
   have:=(hown'.lt _ e).2
   simpa using this
theorem info29:∃i,prog.info? 151=some i∧i.zero=some (.agg #[.int .i64 0,.string ⟨#[]⟩,.int .i64 0,.int .i64 0])∧i.size=4∧i.bytes=40:=by
 have h:(prog.info? 151).map (fun i=>(i.zero,i.size,i.bytes))=some (some (.agg #[.int .i64 0,.string ⟨#[]⟩,.int .i64 0,.int .i64 0]),4,40):=by kernel_rfl
 cases hi:prog.info? 151 with
 | none=>rw [hi] at h;cases h
 | some i =>
  rw [hi] at h
  simp only [Option.map_some,Option.some.injEq,Prod.mk.injEq] at h
  obtain ⟨e1,e2,e3⟩:=h
  exact ⟨i,rfl,e1,e2,e3⟩
attribute [local go_sem] Oper.semAt_some
def ScanRes (s:ByteArray) (w:World) (e:Ending) (w':World):Prop :=
 Below w.heap.size w w' ∧
 ((∃(ys:List It) (q:Option Addr) (c:Nat),ys.map It.key=allItems s∧(∀x∈ys,x.e=0)∧e=.returned (.tuple #[.slice q ys.length c,.int .i64 0,.int .i64 0])∧w'.ownsRow w.heap.size 151 4 (.slice q ys.length c) ys.length (tokCells ys)) ∨
  (∃(pr:List It) (x:It),(pr++[x]).map It.key <+: allItems s∧x.e≠0∧e=.returned (.tuple #[.slice none 0 0,.int .i64 (x.a:Nat),.int .i64 (x.e:Nat)])))
def ScI (w:World) (pre:List It) (W:World):Prop :=
 ((((Boxed W w.heap.size 144 (.slice none 0 0)∧Boxed W (w.heap.size+1) 3 (.int .i64 0))∧Boxed W (w.heap.size+1+1) 29 (.int .i64 0)) ∧
  (∃v,Boxed W (w.heap.size+1+1+1) 144 v∧W.ownsRow w.heap.size 151 4 v pre.length (tokCells pre)∧∃q c,v=.slice q pre.length c))∧(∀x∈pre,x.e=0))∧Below w.heap.size w W
def ScX (w:World) (c:Code) (pre:List It) (W:World):Prop :=
 (c=.ret∧∃pr x,pre=pr++[x]∧x.e≠0∧Boxed W w.heap.size 144 (.slice none 0 0)∧Boxed W (w.heap.size+1) 3 (.int .i64 (x.a:Nat))∧Boxed W (w.heap.size+1+1) 29 (.int .i64 (x.e:Nat)))∧Below w.heap.size w W
theorem scI_own {w:World} {B:Nat} (hB:w.heap.size≤B):OwnFrom B (ScI w) :=
 OwnFrom.and (OwnFrom.and (OwnFrom.and (OwnFrom.and (OwnFrom.and (Own.from (boxed_own _ _ _) _) (Own.from (boxed_own _ _ _) _)) (Own.from (boxed_own _ _ _) _)) (Own.from (holdsRow_own _ _ _ _ _ _ _ _) _)) (fun _ _ _ _ h _ _=>h)) (ownFrom_below (Nat.le_refl _) hB)
theorem scX_own {w:World} {B:Nat} (hB:w.heap.size≤B) (c:Code):OwnFrom B (ScX w c):=by
 refine OwnFrom.and (fun pre X Y row h hg hr=>?_) (ownFrom_below (Nat.le_refl _) hB)
 obtain ⟨h1,pr,x,h2,h3,h4,h5,h6⟩:=h
 have hr':=fun r e=>(hr r e).2
 exact ⟨h1,pr,x,h2,h3,boxed_own _ _ (fun _=>_) () X Y row h4 hg hr',boxed_own _ _ (fun _=>_) () X Y row h5 hg hr',boxed_own _ _ (fun _=>_) () X Y row h6 hg hr'⟩
theorem fd_ {W:World} {g B:Nat} {k:Int} {t:ByteArray} {v a:Int} {T:TypeId} {u:Value} (h:TokB W g k t v a) (hb:Boxed W B T u):g≠B:=by
 rintro rfl
 have:=(show W.heap[g]?=_ from h).symm.trans hb
 simp at this
theorem sc_ret {w W:World} {B:Nat} {pre:List It} {x:It} (d2:Boxed W w.heap.size 144 (.slice none 0 0)) (d3:Boxed W (w.heap.size+1) 3 (.int .i64 0)) (d4:Boxed W (w.heap.size+1+1) 29 (.int .i64 0)) (hBW:Below w.heap.size w W) (hxe:¬x.e=0) :
 KeepsFrom B W (((W.setCell ⟨w.heap.size,0,none⟩ (.slice none 0 0)).setCell ⟨w.heap.size+1,0,none⟩ (.int .i64 (x.a:Nat))).setCell ⟨w.heap.size+1+1,0,none⟩ (.int .i64 (x.e:Nat))).drew ∧
 ScX w .ret (pre++[x]) (((W.setCell ⟨w.heap.size,0,none⟩ (.slice none 0 0)).setCell ⟨w.heap.size+1,0,none⟩ (.int .i64 (x.a:Nat))).setCell ⟨w.heap.size+1+1,0,none⟩ (.int .i64 (x.e:Nat))).drew:=by
 refine ⟨((((KeepsOthers.setCell _ _ _).trans (KeepsOthers.setCell _ _ _)).trans (KeepsOthers.setCell _ _ _)).trans (KeepsOthers.drew _)).from _,⟨rfl,pre,x,rfl,hxe,?_,?_,?_⟩,?_⟩
 ·exact ((d2.set _).other (by omega) _).other (by omega) _
 ·exact ((d3.other (by omega) _).set _).other (by omega) _
 ·exact ((d4.other (by omega) _).other (by omega) _).set _
 ·exact (((hBW.setCell (p:=⟨w.heap.size,0,none⟩) (Nat.le_refl _) _).setCell (p:=⟨w.heap.size+1,0,none⟩) (by simp) _).setCell (p:=⟨w.heap.size+1+1,0,none⟩) (by simp;omega) _).drew
theorem results16 (tmps:Array Value) (w:World) (b2 b3 b4:Nat) (q:Option Addr) (n c:Nat) (x y:Int) (h2:tmps[2]?.getD undef=.pointer (some ⟨b2,0,none⟩)) (h3:tmps[3]?.getD undef=.pointer (some ⟨b3,0,none⟩)) (h4:tmps[4]?.getD undef=.pointer (some ⟨b4,0,none⟩))
 (c2:w.cell? ⟨b2,0,none⟩=some (.slice q n c)) (c3:w.cell? ⟨b3,0,none⟩=some (.int .i64 x)) (c4:w.cell? ⟨b4,0,none⟩=some (.int .i64 y)) :
 (results Tryz.f91 tmps).run prog w=.ok (.tuple #[.slice q n c,.int .i64 x,.int .i64 y]) w:=by
 simp [results,Tryz.results91,go_sem,h2,h3,h4,c2,c3,c4]
theorem ev_ {W:World} {a:Addr} {v:Value} {D:Nat} {o o':Obj} (h:W.cell? a=some v) (hD:W.heap[D]?=some o) (hc:o.isCells=false):(W.putObj D o').cell? a=some v :=
 cell_kept h (grownBy_putObj' W D o') (fun r e=>by cases e;exact ⟨_,hD,hc⟩)
theorem ms_ (s:ByteArray):(allItems s).length≤65537:=by
 unfold allItems
 split
 ·simp
 ·have h:=df_ _ (bl s) (Nat.le_refl _) 0
  rw [ae_] at h
  unfold itemsOf
  rw [nla,List.length_map]
  split
  ·simp;omega
  ·simp;omega
theorem be_ (W:World) (L:List Value) (T:TypeId):∀(j:Nat) (u:Value),L[j]?=some u→(W.alloc (.cells L.toArray T)).cell? ((⟨W.heap.size,0,none⟩:Addr).add j)=some u:=by
 intro j u h
 rw [show ((⟨W.heap.size,0,none⟩:Addr).add j)=⟨W.heap.size,j,none⟩ from by unfold Addr.add;split <;> simp_all,World.cell?_alloc_new]
 simpa using h
theorem yd_ (s:ByteArray) (w:World) (hE:Env w):Calls prog 91 #[.string s] w (ScanRes s w):=by
 obtain ⟨gf,eg,hcall⟩:=ya_ s
 obtain ⟨i0,hi,hz0,hz1,hz2⟩:=info29
 have hElt:=hE.lt
 have hmax:=ms_ s
 refine (callsIn_wide (n:=3)).1 ?_
 refine callsIn_of_wp_marks func91 rfl trivial ?_ rfl
 simp only [ntmps91,List.size_toArray,nlk,nlg,Nat.reduceAdd,Nat.reduceSub,Array.replicate_succ,Array.replicate_zero,List.push_toArray,List.append_toArray,List.nil_append,nli]
 gi_wp2
 refine ⟨trivial,?_⟩
 gi_at_call 143
 refine (callsIn_wide.2 (hcall _)).mono ?_
 rintro e w1 ⟨lb,rfl,hb1,hseq⟩
 have b2:=(((Boxed.new w 144 (.slice none 0 0)).alloc (.cells #[.int .i64 0] 3)).alloc (.cells #[.int .i64 0] 29)).alloc (.cells #[.slice none 0 0] 144)
 have b3:=((Boxed.new (w.alloc (.cells #[.slice none 0 0] 144)) 3 (.int .i64 0)).alloc (.cells #[.int .i64 0] 29)).alloc (.cells #[.slice none 0 0] 144)
 have b4:=(Boxed.new ((w.alloc (.cells #[.slice none 0 0] 144)).alloc (.cells #[.int .i64 0] 3)) 29 (.int .i64 0)).alloc (.cells #[.slice none 0 0] 144)
 have b5:=Boxed.new (((w.alloc (.cells #[.slice none 0 0] 144)).alloc (.cells #[.int .i64 0] 3)).alloc (.cells #[.int .i64 0] 29)) 144 (.slice none 0 0)
 simp only [nwz] at b3 b4 b5
 have hB0:Below w.heap.size w ((((w.alloc (.cells #[.slice none 0 0] 144)).alloc (.cells #[.int .i64 0] 3)).alloc (.cells #[.int .i64 0] 29)).alloc (.cells #[.slice none 0 0] 144)):=((((Below.refl _ w).alloc (Nat.le_refl _) _).alloc (by simp) _).alloc (by simp;omega) _).alloc (by simp;omega) _
 have hsz:((((w.alloc (.cells #[.slice none 0 0] 144)).alloc (.cells #[.int .i64 0] 3)).alloc (.cells #[.int .i64 0] 29)).alloc (.cells #[.slice none 0 0] 144)).heap.size=w.heap.size+1+1+1+1:=by simp
 generalize ((((w.alloc (.cells #[.slice none 0 0] 144)).alloc (.cells #[.int .i64 0] 3)).alloc (.cells #[.int .i64 0] 29)).alloc (.cells #[.slice none 0 0] 144))=w0 at *
 have hgr:=e5_ hb1
 have c2:=b2.kept hgr (by simp)
 have c3:=b3.kept hgr (by simp)
 have c4:=b4.kept hgr (by simp)
 have c5:=b5.kept hgr (by simp)
 have hB1:=hB0.trans (hb1.mono (by omega))
 have hs1:=hb1.size
 rw [hsz] at hs1
 clear b2 b3 b4 b5 hb1 hB0 hgr
 have HSZ:=hid hsz
 have HMAX:=hid hmax
 clear hsz hmax
 gi_wp2_with fail
 have hE1:=hE.below hB1 hElt
 refine wpIn_rangeFunc_ownH rfl (by omega) (gf:=gf) (lb:=lb) rfl trivial eg
  (hseq (3 - 1) w.heap.size w1.heap.size (w.heap.size+1+1+1) w1 (fun _ _ _=>rfl) (Nat.le_refl _) hElt hB1.size (Nat.le_refl _) hE1 (yc_ c5) (by omega)) (fun h k=>h.trans k) (fun W l o o' h1 h2 h3 h4=>keep_b hB1.size (by omega) W l o o' h1 h2 h3 h4) (Below.refl _ _) (fun _=>rfl)
  (ScI w) (ScX w) (scI_own hB1.size) (scX_own hB1.size)
  ⟨⟨⟨⟨⟨c2,c3⟩,c4⟩,⟨_,c5,World.ownsRow_nil _ _ _ _,⟨_,_,rfl⟩⟩⟩,fun x hx=>absurd hx (by simp)⟩,hB1⟩
  (fun x a' W=>∃g,TokB W g (x.k:Nat) x.t (x.v:Nat) (x.a:Nat)∧a'={ tmps:=#[.string s,undef,.pointer (some ⟨w.heap.size,0,none⟩),.pointer (some ⟨w.heap.size+1,0,none⟩),.pointer (some ⟨w.heap.size+1+1,0,none⟩),.pointer (some ⟨w.heap.size+1+1+1,0,none⟩),.pointer (some ⟨g,0,none⟩),.int .i64 (x.e:Nat),.string s,.func (.func gf) #[] lb,(tokV (x.k:Nat) x.t (x.v:Nat) (x.a:Nat)),.int .i64 (x.e:Nat),undef,undef,undef,undef,undef,undef,undef,undef,undef,undef],defers:=[] })
  (fun x a' _ X Y row hs hg hr=>by obtain ⟨g,h2,h3⟩:=hs;exact ⟨g,yb_ g _ _ _ _ () X Y row h2 hg (fun r e=>(hr r e).2),h3⟩)
  ?assign ?body ?done ?stop
 case assign =>
  rintro l pre x W K hI hK
  obtain ⟨⟨⟨⟨⟨d2,d3⟩,d4⟩,⟨v,d5,hrow,hv⟩⟩,hx0⟩,hBW⟩:=hI
  have hK2:=hid hK
  clear hK
  unfold It.enc
  gi_wp2
  exact hK2.out _ _ ((KeepsOthers.alloc _ _).from _) (rs_ hBW.size d5.lt _) ⟨⟨⟨⟨⟨d2.alloc _,d3.alloc _⟩,d4.alloc _⟩,⟨v,d5.alloc _,hrow.alloc _,hv⟩⟩,hx0⟩,hBW.alloc hBW.size _⟩ ⟨W.heap.size,World.alloc_heap_new W _,rfl⟩
 case body =>
  rintro l pre x a' W _ _ hI ⟨g,hT,rfl⟩ hlt
  obtain ⟨⟨⟨⟨⟨d2,d3⟩,d4⟩,⟨v,d5,hrow,⟨q,c,rfl⟩⟩⟩,hx0⟩,hBW⟩:=hI
  obtain ⟨k0,k1,k2,k3,f0,f1,f2,f3⟩:=hT.at_
  by_cases hxe:x.e=0
  ·have hxe1:(((x.e:Nat):Int) != 0)=false:=by rw [hxe];rfl
   have hc5:=d5.cell
   have hlen:pre.length+1≤65537:=by have:=HMAX.out;omega
   gi_wp2_with (gi_at_builtin;refine wpListIn_append_own_at _ rfl _ _ 144 rfl w.heap.size 151 i0 _ 4 40 Tryz.underlying144 hi hz0 hz1 hz2 rfl (by decide) _ _ _ rfl (hrow.alloc _) ⟨W.heap.size,0,none⟩ 1 1 [.int .i64 (x.k:Nat),.string x.t,.int .i64 (x.v:Nat),.int .i64 (x.a:Nat)] rfl rfl ?c1 ?c2 ?c3 ?c4 ?c5 ?_)
   case c1=>exact be_ W _ 151
   case c2 =>
    intro u hu
    rcases List.mem_cons.1 hu with rfl|hu
    ·rfl
    rcases List.mem_cons.1 hu with rfl|hu
    ·rfl
    rcases List.mem_cons.1 hu with rfl|hu
    ·rfl
    rcases List.mem_cons.1 hu with rfl|hu
    ·rfl
    ·exact absurd hu (by simp)
   case c3=>unfold maxLen;omega
   case c4=>omega
   case c5=>have:=hBW.size;simp;omega
   intro v' w9 hown9 hgrow9 _ hat9
   obtain ⟨g',cap',rfl⟩:=ownsRow_succ hown9
   obtain ⟨hv1,hv2,hr2,hk2,hb2⟩:=d5.appended (by decide) hrow hBW.size (by omega) hown9 hgrow9
   have hKp:=oq_ (n₁:=w1.heap.size) d5 hrow hBW.size (by omega) (by omega) hown9 hgrow9 (by rw [nwz];exact hat9)
   have e2:=((d2.alloc (.cells #[.int .i64 (x.k:Nat),.string x.t,.int .i64 (x.v:Nat),.int .i64 (x.a:Nat)] 151)).kept hgrow9 (d2.not_row (by decide) hrow)).other (B':=w.heap.size+1+1+1) (by omega) (.slice (some ⟨g',0,none⟩) (pre.length+1) cap')
   have e3:=((d3.alloc (.cells #[.int .i64 (x.k:Nat),.string x.t,.int .i64 (x.v:Nat),.int .i64 (x.a:Nat)] 151)).kept hgrow9 (d3.not_row (by decide) hrow)).other (B':=w.heap.size+1+1+1) (by omega) (.slice (some ⟨g',0,none⟩) (pre.length+1) cap')
   have e4:=((d4.alloc (.cells #[.int .i64 (x.k:Nat),.string x.t,.int .i64 (x.v:Nat),.int .i64 (x.a:Nat)] 151)).kept hgrow9 (d4.not_row (by decide) hrow)).other (B':=w.heap.size+1+1+1) (by omega) (.slice (some ⟨g',0,none⟩) (pre.length+1) cap')
   have hc9:=hv1.cell
   have hf9:=hv1.frozen
   have hI2:ScI w (pre++[x]) (w9.setCell ⟨w.heap.size+1+1+1,0,none⟩ (.slice (some ⟨g',0,none⟩) (pre.length+1) cap')):=by
    refine ⟨⟨⟨⟨⟨e2,e3⟩,e4⟩,⟨_,hv2,?_,⟨_,_,by rw [nla];rfl⟩⟩⟩,fun y hy=>?_⟩,hBW.trans hb2⟩
    ·rw [nla,fx_];exact hr2
    ·rcases List.mem_append.1 hy with h|h
     ·exact hx0 y h
     ·obtain rfl:y=x:=by simpa using h
      exact hxe
   have HI2:=hid hI2
   have HKP:=hid hKp
   clear hI2 hKp hv2 hr2 hb2 e2 e3 e4 hown9 hgrow9 hat9 hrow d5 d2 d3 d4 hBW hx0
   gi_wp2
   exact ⟨hk2.from _,HKP.out,HI2.out⟩
  ·have hxe1:(((x.e:Nat):Int) != 0)=true:=by simp;omega
   have g2:=d2.cell
   have g3:=d3.cell
   have g4:=d4.cell
   have p2:=d2.frozen
   have p3:=d3.frozen
   have p4:=d4.frozen
   have hbg2:g≠w.heap.size:=fd_ hT d2
   have hbg3:g≠w.heap.size+1:=fd_ hT d3
   have hbg4:g≠w.heap.size+1+1:=fd_ hT d4
   gi_wp2
   have hmo:prog.follows .mixedOrders=true:=by kernel_rfl
   gi_region_with_o (fail)
   all_goals gi_wp2
   all_goals exact sc_ret d2 d3 d4 hBW hxe
 case done =>
  rintro D xs W hD hS hI hK
  obtain ⟨⟨⟨⟨⟨d2,d3⟩,d4⟩,⟨v,d5,hrow,⟨q,c,rfl⟩⟩⟩,hx0⟩,hBW⟩:=hI
  have g2:=d2.cell
  have g3:=d3.cell
  have g4:=d4.cell
  have g5:=d5.cell
  have p2:=d2.frozen
  have p3:=d3.frozen
  have p4:=d4.frozen
  gi_wp2
  have e2:=(((d2.set (.slice q xs.length c)).other (B':=w.heap.size+1) (by omega) (.int .i64 0)).other (B':=w.heap.size+1+1) (by omega) (.int .i64 0))
  have e3:=(((d3.other (B':=w.heap.size) (by omega) (.slice q xs.length c)).set (.int .i64 0)).other (B':=w.heap.size+1+1) (by omega) (.int .i64 0))
  have e4:=(((d4.other (B':=w.heap.size) (by omega) (.slice q xs.length c)).other (B':=w.heap.size+1) (by omega) (.int .i64 0)).set (.int .i64 0))
  have hB3:=(((hBW.setCell (p:=⟨w.heap.size,0,none⟩) (Nat.le_refl _) (.slice q xs.length c)).setCell (p:=⟨w.heap.size+1,0,none⟩) (by simp) (.int .i64 0)).setCell (p:=⟨w.heap.size+1+1,0,none⟩) (by simp;omega) (.int .i64 0))
  have hk3:=((((KeepsOthers.setCell W ⟨w.heap.size,0,none⟩ (.slice q xs.length c)).trans (KeepsOthers.setCell _ ⟨w.heap.size+1,0,none⟩ (.int .i64 0))).trans (KeepsOthers.setCell _ ⟨w.heap.size+1+1,0,none⟩ (.int .i64 0))).same D _ hK rfl)
  have hr1:=hrow.kept (grownBy_setCell' W w.heap.size (.slice q xs.length c)) (.inr (d2.not_row (by decide) hrow).symm)
  have hr2:=hr1.kept (grownBy_setCell' _ (w.heap.size+1) (.int .i64 0)) (.inr ((d3.other (B':=w.heap.size) (by omega) (.slice q xs.length c)).not_row (by decide) hr1).symm)
  have hr3:=hr2.kept (grownBy_setCell' _ (w.heap.size+1+1) (.int .i64 0)) (.inr (((d4.other (B':=w.heap.size) (by omega) (.slice q xs.length c)).other (B':=w.heap.size+1) (by omega) (.int .i64 0)).not_row (by decide) hr2).symm)
  generalize (((W.setCell ⟨w.heap.size,0,none⟩ (.slice q xs.length c)).setCell ⟨w.heap.size+1,0,none⟩ (.int .i64 0)).setCell ⟨w.heap.size+1+1,0,none⟩ (.int .i64 0))=W3 at *
  have hlt:=heap_lt hk3
  refine ⟨by simp,.inl ⟨_,_,rfl,run_takeDeferred hk3,?_⟩⟩
  have hr4:=ownsRow_putObj hr3 (.deferred none) hk3 rfl
  have hB4:=hB3.trans (belowK_b (w:=w) (Nat.le_refl _) W3 D _ (.deferred none) (by omega) hk3 rfl rfl)
  exact ⟨_,results16 _ _ _ _ _ _ _ _ _ _ rfl rfl rfl (ev_ e2.cell hk3 rfl) (ev_ e3.cell hk3 rfl) (ev_ e4.cell hk3 rfl),hB4,.inl ⟨xs,q,c,hS,hx0,rfl,hr4⟩⟩
 case stop =>
  rintro D c pre W hD hS hX hK
  obtain ⟨⟨rfl,pr,x,rfl,hxe,d2,d3,d4⟩,hBW⟩:=hX
  have g2:=d2.cell
  have g3:=d3.cell
  have g4:=d4.cell
  gi_wp2
  refine ⟨by simp,.inl ⟨_,_,rfl,run_takeDeferred hK,?_⟩⟩
  have hB4:=hBW.trans (belowK_b (w:=w) (Nat.le_refl _) W D _ (.deferred none) (by omega) hK rfl rfl)
  exact ⟨_,results16 _ _ _ _ _ _ _ _ _ _ rfl rfl rfl (ev_ g2 hK rfl) (ev_ g3 hK rfl) (ev_ g4 hK rfl),hB4,.inr ⟨pr,x,hS,hxe,rfl⟩⟩
end Go.Proofs.YtpcniebkabkikaaGreatDoor
namespace Go.Proofs.Mm
open Go Go.RowKit
structure Chg (S:Nat→Prop) (w w':World):Prop where
 os:w'.os=w.os
 tape:w'.tape=w.tape
 output:w'.output=w.output
 size:w.heap.size≤w'.heap.size
 block:∀k,k<w.heap.size→¬S k→w'.heap[k]?=w.heap[k]?
theorem Chg.refl (S:Nat→Prop) (w:World):Chg S w w:=⟨rfl,rfl,rfl,Nat.le_refl _,fun _ _ _=>rfl⟩
theorem Chg.trans {S S':Nat→Prop} {a b c:World} (h:Chg S a b) (k:Chg S' b c) (hs:∀i,S' i→S i∨a.heap.size≤i):Chg S a c :=
 ⟨k.os.trans h.os,k.tape.trans h.tape,k.output.trans h.output,Nat.le_trans h.size k.size,fun i hi hn =>
  (k.block i (Nat.lt_of_lt_of_le hi h.size) (fun e=>by rcases hs i e with q | q <;> first | exact hn q | exact absurd hi (by omega))).trans (h.block i hi hn)⟩
theorem Chg.then {S:Nat→Prop} {a b c:World} (h:Chg S a b) (k:Chg S b c):Chg S a c:=h.trans k fun _ q=>.inl q
theorem Chg.mono {S S':Nat→Prop} {a b:World} (h:Chg S a b) (hs:∀i,S i→S' i∨a.heap.size≤i):Chg S' a b :=
 ⟨h.os,h.tape,h.output,h.size,fun i hi hn=>h.block i hi (fun e=>by rcases hs i e with q | q <;> first | exact hn q | exact absurd hi (by omega))⟩
theorem Chg.drew {S:Nat→Prop} {a w:World} (h:Chg S a w):Chg S a w.drew:=⟨h.os,h.tape,h.output,h.size,h.block⟩
theorem Chg.drewN {S:Nat→Prop} {a w:World} (h:Chg S a w) (n:Nat):Chg S a (w.drewN n):=⟨h.os,h.tape,h.output,h.size,h.block⟩
theorem Chg.alloc {S:Nat→Prop} {a w:World} (h:Chg S a w) (o:Obj):Chg S a (w.alloc o) :=
 h.then ⟨rfl,rfl,rfl,by simp,fun k hk _=>Below.heap_alloc _ _ _ hk⟩
theorem Chg.setCell {S:Nat→Prop} {a w:World} (h:Chg S a w) {p:Addr} (hp:S p.block∨a.heap.size≤p.block) (u:Value):Chg S a (w.setCell p u) :=
 h.trans (S':=fun i=>i=p.block) ⟨rfl,rfl,rfl,by simp [World.setCell],fun k _ hk=>Below.heap_setCell _ _ _ _ hk⟩ (fun i e=>by subst e;exact hp)
theorem Chg.below {S:Nat→Prop} {a w:World} (h:Chg S a w) {B:Nat} (hB:B≤a.heap.size) (hS:∀i,S i→B≤i):Below B a w :=
 ⟨h.os,h.tape,h.output,h.size,fun k hk=>h.block k (by omega) (fun e=>by have:=hS k e;omega)⟩
theorem Below.chg {B:Nat} {a w:World} (h:Below B a w) (hB:a.heap.size≤B) (S:Nat→Prop):Chg S a w :=
 ⟨h.os,h.tape,h.output,h.size,fun k hk _=>h.block k (by omega)⟩
theorem a1_ {a w:World} {row:Option Nat} (h:a.grownBy w row) {S:Nat→Prop} (hr:∀k,row=some k→S k∨a.heap.size≤k):Chg S a w :=
 ⟨h.os,h.tape,h.output,h.size,fun k hk hn=>h.block k hk (fun e=>by rcases hr k e.symm with q | q <;> first | exact hn q | exact absurd hk (by omega))⟩
theorem Chg.cell {S:Nat→Prop} {a w:World} (h:Chg S a w) {p:Addr} {v:Value} (hc:a.cell? p=some v) (hn:¬S p.block):w.cell? p=some v :=
 (World.cell?_of_block (h.block _ (World.block_lt_of_cell? _ _ hc) hn)).trans hc
theorem heap_lt {w:World} {b:Nat} {o:Obj} (h:w.heap[b]?=some o):b<w.heap.size:=(Array.getElem?_eq_some_iff.1 h).1
theorem Chg.heap {S:Nat→Prop} {a w:World} (h:Chg S a w) {k:Nat} {o:Obj} (hc:a.heap[k]?=some o) (hn:¬S k):w.heap[k]?=some o :=
 (h.block k (heap_lt hc) hn).trans hc
abbrev Mem:=Nat→Option Obj
def Has (w:World) (m:Mem):Prop:=∀k o,m k=some o→w.heap[k]?=some o
def Mem.le (m m':Mem):Prop:=∀k o,m k=some o→m' k=some o
structure Mem.More (w:World) (m m':Mem):Prop where
 le:m.le m'
 new:∀k,m k=none→k<w.heap.size→m' k=none
theorem Mem.le.refl (m:Mem):m.le m:=fun _ _ h=>h
theorem Mem.le.trans {a b c:Mem} (h:a.le b) (k:b.le c):a.le c:=fun i o e=>k i o (h i o e)
theorem Mem.More.refl (w:World) (m:Mem):m.More w m:=⟨Mem.le.refl m,fun _ h _=>h⟩
theorem Mem.More.trans {w w':World} {a b c:Mem} (h:a.More w b) (k:b.More w' c) (hw:w.heap.size≤w'.heap.size):a.More w c :=
 ⟨h.le.trans k.le,fun i e hi=>k.new i (h.new i e hi) (by omega)⟩
theorem Mem.More.from {w w':World} {a b:Mem} (h:a.More w' b) (hw:w.heap.size≤w'.heap.size):a.More w b:=⟨h.le,fun i e hi=>h.new i e (by omega)⟩
theorem Has.chg {S:Nat→Prop} {w w':World} {m:Mem} (h:Has w m) (hc:Chg S w w') (hs:∀k,S k→m k=none):Has w' m:=fun k o e =>
 hc.heap (h k o e) (fun q=>by rw [hs k q] at e;cases e)
theorem Has.lt {w:World} {m:Mem} (h:Has w m) {k:Nat} (hk:w.heap.size≤k):m k=none:=by
 cases e:m k with
 | none=>rfl
 | some o=>have:=heap_lt (h k o e);omega
def Mem.put (m:Mem) (g:Nat) (o:Obj):Mem:=fun k=>if k=g then some o else m k
theorem Mem.put_le {m:Mem} {g:Nat} {o:Obj} (h:m g=none):m.le (m.put g o):=fun k o' e=>by
 unfold Mem.put
 split
 ·rename_i e';subst e';rw [h] at e;cases e
 ·exact e
theorem Mem.put_same (m:Mem) (g:Nat) (o:Obj):m.put g o g=some o:=by unfold Mem.put;rw [if_pos rfl]
theorem Mem.put_other {m:Mem} {g k:Nat} {o:Obj} (h:k≠g):m.put g o k=m k:=by unfold Mem.put;rw [if_neg h]
theorem Has.put {w:World} {m:Mem} {g:Nat} {o:Obj} (h:Has w m) (hg:w.heap[g]?=some o):Has w (m.put g o):=fun k o' e=>by
 unfold Mem.put at e
 split at e
 ·rename_i e';subst e';injection e with e;subst e;exact hg
 ·exact h k o' e
theorem Mem.More.put {w:World} {m:Mem} {g:Nat} {o:Obj} (h:m g=none) (hg:w.heap.size≤g):m.More w (m.put g o) :=
 ⟨Mem.put_le h,fun k e hk=>by rw [Mem.put_other (by omega)];exact e⟩
def RowM (m:Mem) (E:TypeId) (size:Nat) (v:Value) (n:Nat) (xs:List Value):Prop :=
 xs.length=n*size ∧
 ((v=.slice none 0 0∧n=0) ∨
  ∃g cap cur,v=.slice (some ⟨g,0,none⟩) n cap∧m g=some (.cells cur E (0,0))∧n≤cap∧cap≤maxLen∧cur.size=cap*size∧cur.toList.take (n*size)=xs)
theorem RowM.le {m m':Mem} {E:TypeId} {size n:Nat} {v:Value} {xs:List Value} (h:RowM m E size v n xs) (hm:m.le m'):RowM m' E size v n xs:=by
 obtain ⟨h1,h2|⟨g,cap,cur,h2,h3,h4⟩⟩:=h
 ·exact ⟨h1,.inl h2⟩
 ·exact ⟨h1,.inr ⟨g,cap,cur,h2,hm _ _ h3,h4⟩⟩
theorem RowM.nil (m:Mem) (E:TypeId) (size:Nat):RowM m E size (.slice none 0 0) 0 []:=⟨by simp,.inl ⟨rfl,rfl⟩⟩
theorem RowM.done {w:World} {m:Mem} {B:Nat} {E:TypeId} {size n:Nat} {v:Value} {xs:List Value} (h:w.ownsRow B E size v n xs) (hm:Has w m) (hv:∀k,v.ownBlock=some k→m k=none) :
 ∃m',m.le m'∧(∀k,m' k≠none→m k≠none∨v.ownBlock=some k)∧Has w m'∧RowM m' E size v n xs:=by
 obtain ⟨h1,⟨rfl,rfl⟩|⟨g,cap,cur,rfl,hb,hg,h4⟩⟩:=h
 ·exact ⟨m,Mem.le.refl m,fun k h=>.inl h,hm,h1,.inl ⟨rfl,rfl⟩⟩
 ·refine ⟨m.put g _,Mem.put_le (hv g rfl),fun k hk=>?_,hm.put hg,h1,.inr ⟨g,cap,cur,rfl,Mem.put_same _ _ _,h4⟩⟩
  by_cases e:k=g
  ·subst e;exact .inr rfl
  ·rw [Mem.put_other e] at hk;exact .inl hk
theorem RowM.cells {w:World} {m:Mem} {E:TypeId} {size n:Nat} {v:Value} {xs:List Value} (h:RowM m E size v n xs) (hm:Has w m) :
 ∀j u,xs[j]?=some u→∃g c,v=.slice (some ⟨g,0,none⟩) n c∧w.cell? ⟨g,j,none⟩=some u∧g<w.heap.size:=by
 intro j u hu
 obtain ⟨h1,⟨rfl,rfl⟩|⟨g,cap,cur,rfl,hg,h4,h5,h6,h7⟩⟩:=h
 ·have:xs=[]:=List.eq_nil_of_length_eq_zero (by simpa using h1)
  subst this;simp at hu
 ·refine ⟨g,cap,rfl,?_,heap_lt (hm _ _ hg)⟩
  rw [cell_of_row w g j cur E (0,0) (hm _ _ hg)]
  rw [←h7,List.getElem?_take] at hu
  split at hu
  ·simpa using hu
  ·cases hu
end Go.Proofs.Mm
namespace Go.Proofs.Syn
structure K where
 kind:Nat
 text:List Nat
 value:Nat
deriving DecidableEq
structure Tm where
 kind:Nat
 value:Nat
 name:List Nat
deriving DecidableEq
structure St where
 kind:Nat
 name:List Nat
 targets:List (List Nat)
 exprs:List (List Tm)
deriving DecidableEq
structure De where
 name:List Nat
 label:Nat
deriving DecidableEq
structure Ar where
 name:List Nat
 len:Nat
 label:Nat
deriving DecidableEq
structure Fn where
 name:List Nat
 level:Nat
 params:List De
 results:List Nat
 vars:List De
 body:List St
deriving DecidableEq
structure So where
 principals:List (List Nat)
 globals:List De
 arrays:List Ar
 channels:List De
 funcs:List Fn
deriving DecidableEq
abbrev R (α:Type):=Except (Nat × Nat) (α × Nat)
def R.on {α β:Type} (r:R α) (f:α→Nat→R β):R β :=
 match r with
 | .error e=>.error e
 | .ok (x,i)=>f x i
def tx (s:String):List Nat:=s.toUTF8.data.toList.map UInt8.toNat
section
variable (T:Nat→Option K) (F:Nat)
def is (i:Nat) (s:List Nat):Bool :=
 match T i with
 | some k=>(k.kind == 2 || k.kind == 4) && k.text == s
 | none=>false
def named (i:Nat):Bool :=
 match T i with
 | some k=>k.kind == 1
 | none=>false
def want (i:Nat) (s:List Nat):R Unit:=if is T i s then .ok ((),i+1) else .error (50,i)
def name (i:Nat):R (List Nat) :=
 match T i with
 | some k=>if k.kind=1 then .ok (k.text,i+1) else .error (50,i)
 | none=>.error (50,i)
def number (i:Nat):R Nat :=
 match T i with
 | some k=>if k.kind=3 then .ok (k.value,i+1) else .error (50,i)
 | none=>.error (50,i)
def labelF (ns:List (List Nat)):Nat→Nat→Nat→R Nat
 | 0,_,i=>.error (99,i)
 | f+1,l,i =>
  match T i with
  | some k =>
   if k.kind=1 then
    if ns.idxOf k.text<ns.length then labelF ns f (l ||| 1 <<< ns.idxOf k.text) (i+1) else .error (10,i)
   else .ok (l,i)
  | none=>.ok (l,i)
def label (ns:List (List Nat)) (i:Nat):R Nat :=
 (want T i [123]).on fun _ i=>(labelF T ns F 0 i).on fun l i=>(want T i [125]).on fun _ i=>.ok (l,i)
def decl (ns:List (List Nat)) (i:Nat):R De :=
 (name T i).on fun s i=>(label T F ns i).on fun l i=>.ok (⟨s,l⟩,i)
def marks:Nat→List (List Nat × Nat)
 | 0=>[([61,61],11),([33,61],12),([60],13),([60,61],14)]
 | 1=>[([124],7),([94],8)]
 | 2=>[([38],6)]
 | 3=>[([60,60],9),([62,62],10)]
 | 4=>[([43],1),([45],2)]
 | _=>[([42],3),([47],4),([37],5)]
def opOf (ms:List (List Nat × Nat)) (i:Nat):Nat :=
 match ms.find? fun m=>is T i m.1 with
 | some m=>m.2
 | none=>0
def loopF (p:Nat→R (List Tm)) (ms:List (List Nat × Nat)):Nat→List Tm→Nat→R (List Tm)
 | 0,_,i=>.error (99,i)
 | f+1,l,i=>if opOf T ms i=0 then .ok (l,i) else (p (i+1)).on fun r j=>loopF p ms f (l++r++[⟨5,opOf T ms i,[]⟩]) j
def tower (u:Nat→R (List Tm)):Nat→Nat→R (List Tm)
 | 0,i=>u i
 | k+1,i=>(tower u k i).on fun l j=>loopF T (tower u k) (marks (5 - k)) F l j
def unOps:Nat→Nat→R (List Nat)
 | 0,i=>.error (99,i)
 | f+1,i=>if opOf T [([45],15),([33],16),([126],17)] i=0 then .ok ([],i) else (unOps f (i+1)).on fun l j=>.ok (opOf T [([45],15),([33],16),([126],17)] i::l,j)
def unary (e:Option (Nat→R (List Tm))) (i:Nat):R (List Tm) :=
 (unOps T F i).on fun ops i =>
  R.on (β:=List Tm)
   (match T i with
    | none=>.error (50,i)
    | some k =>
     if k.kind=3 then .ok ([⟨1,k.value,[]⟩],i+1)
     else if is T i [40] then
      match e with
      | none=>.error (51,i)
      | some p=>(p (i+1)).on fun l i=>(want T i [41]).on fun _ i=>.ok (l,i)
     else (name T i).on fun s i =>
      if is T i [91] then
       match e with
       | none=>.error (51,i)
       | some p=>(p (i+1)).on fun l i=>(want T i [93]).on fun _ i=>.ok (l++[⟨3,0,s⟩],i)
      else .ok ([⟨2,0,s⟩],i))
   fun l i=>.ok (l++ops.reverse.map fun o=>⟨4,o,[]⟩,i)
def exprD:Nat→Nat→R (List Tm)
 | 0=>tower T F (unary T F none) 6
 | d+1=>tower T F (unary T F (some (exprD d))) 6
def expr:Nat→R (List Tm):=exprD T F 12
def listF (e:Nat→R (List Tm)) (fin:List Nat):Nat→List (List Tm)→Nat→R (List (List Tm))
 | 0,_,i=>.error (99,i)
 | f+1,l,i=>(e i).on fun x i =>
  if is T i fin then .ok (l++[x],i+1) else if is T i [44] then listF e fin f (l++[x]) (i+1) else .error (50,i)
def list (fin:List Nat) (i:Nat):R (List (List Tm)):=if is T i fin then .ok ([],i+1) else listF T (expr T F) fin F [] i
def targetsF:Nat→List (List Nat)→Nat→R (List (List Nat))
 | 0,_,i=>.error (99,i)
 | f+1,l,i=>if is T i [44] then (name T (i+1)).on fun s i=>targetsF f (l++[s]) i else .ok (l,i)
def stmtsF (s:Nat→R (List St)) (fin:List Nat):Nat→List St→Nat→R (List St)
 | 0,_,i=>.error (99,i)
 | f+1,l,i=>if is T i fin then .ok (l,i+1) else (s i).on fun x i=>stmtsF s fin f (l++x) i
def block (s:Option (Nat→R (List St))) (i:Nat):R (List St) :=
 match s with
 | none=>if is T i [123] then .error (51,i) else .error (50,i)
 | some s=>(want T i [123]).on fun _ i=>stmtsF T s [125] F [] i
def call (ts:List (List Nat)) (s:List Nat) (i:Nat):R (List St) :=
 (want T i [40]).on fun _ i=>(list T F [41] i).on fun l i=>(want T i [59]).on fun _ i=>.ok ([⟨4,s,ts,l⟩],i)
def plain (i:Nat):R (List St) :=
 (name T i).on fun s i =>
  if is T i [91] then
   (expr T F (i+1)).on fun a i=>(want T i [93]).on fun _ i=>(want T i [61]).on fun _ i=>(expr T F i).on fun b i=>(want T i [59]).on fun _ i=>.ok ([⟨2,s,[],[a,b]⟩],i)
  else if is T i [40] then call T F [] s i
  else (targetsF T F [s] i).on fun ts i=>(want T i [61]).on fun _ i =>
   if ts.length=1∧¬(named T i=true∧is T (i+1) [40]=true) then
    (expr T F i).on fun e i=>(want T i [59]).on fun _ i=>.ok ([⟨1,[],ts,[e]⟩],i)
   else (name T i).on fun s i=>call T F ts s i
def stmtOf (s:Option (Nat→R (List St))) (i:Nat):R (List St) :=
 if is T i (tx "if") then
  (expr T F (i+1)).on fun e i=>(block T F s i).on fun a i =>
   if is T i (tx "else") then (block T F s (i + 1)).on fun b i => .ok (⟨5,[],[],[e]⟩ :: a ++ ⟨6,[],[],[]⟩ :: b ++ [⟨8,[],[],[]⟩],i)
   else .ok (⟨5,[],[],[e]⟩::a++[⟨8,[],[],[]⟩],i)
 else if is T i (tx "while") then
  (expr T F (i+1)).on fun e i=>(block T F s i).on fun a i=>.ok (⟨7,[],[],[e]⟩::a++[⟨8,[],[],[]⟩],i)
 else if is T i (tx "send") then
  (name T (i+1)).on fun c i=>(expr T F i).on fun e i=>(want T i [59]).on fun _ i=>.ok ([⟨3,c,[],[e]⟩],i)
 else plain T F i
def stmtD:Nat→Nat→R (List St)
 | 0=>stmtOf T F none
 | d+1=>stmtOf T F (some (stmtD d))
def rowF {α:Type} (p:Nat→R α):Nat→List α→Nat→R (List α)
 | 0,_,i=>.error (99,i)
 | f+1,l,i=>(p i).on fun x i =>
  if is T i [41] then .ok (l++[x],i+1) else if is T i [44] then rowF p f (l++[x]) (i+1) else .error (50,i)
def row {α:Type} (p:Nat→R α) (i:Nat):R (List α):=(want T i [40]).on fun _ i=>if is T i [41] then .ok ([],i+1) else rowF T p F [] i
def varsF (ns:List (List Nat)):Nat→List De→Nat→R (List De)
 | 0,_,i=>.error (99,i)
 | f + 1,l,i => if is T i (tx "var") then (decl T F ns (i + 1)).on fun d i => (want T i [59]).on fun _ i => varsF ns f (l ++ [d]) i else .ok (l,i)
def func (ns:List (List Nat)) (i:Nat):R Fn :=
 (name T i).on fun s i=>(label T F ns i).on fun l i=>(row T F (decl T F ns) i).on fun ps i=>(row T F (label T F ns) i).on fun rs i =>
  (want T i [123]).on fun _ i => (varsF T F ns F [] i).on fun vs i => (stmtsF T (stmtD T F 12) (tx "return") F [] i).on fun b i =>
   (list T F [59] i).on fun es i=>(want T i [125]).on fun _ i=>.ok (⟨s,l,ps,rs,vs,b++[⟨9,[],[],es⟩]⟩,i)
def namesF:Nat→List (List Nat)→Nat→R (List (List Nat))
 | 0,_,i=>.error (99,i)
 | f+1,l,i=>(name T i).on fun s j =>
  if l.length=64 then .error (74,i) else if named T j then namesF f (l++[s]) j else .ok (l++[s],j)
def principalsF:Nat→List (List Nat)→Nat→R (List (List Nat))
 | 0,_,i=>.error (99,i)
 | f + 1,l,i => if is T i (tx "principal") then (namesF T F l (i + 1)).on fun l i => (want T i [59]).on fun _ i => principalsF f l i else .ok (l,i)
def declsF (ns:List (List Nat)):Nat→So→Nat→R So
 | 0,_,i=>.error (99,i)
 | f+1,s,i =>
  match T i with
  | none=>.ok (s,i)
  | some _ =>
   if is T i (tx "global") then (decl T F ns (i + 1)).on fun d i => (want T i [59]).on fun _ i => declsF ns f { s with globals := s.globals ++ [d] } i
   else if is T i (tx "channel") then (decl T F ns (i + 1)).on fun d i => (want T i [59]).on fun _ i => declsF ns f { s with channels := s.channels ++ [d] } i
   else if is T i (tx "array") then
    (name T (i+1)).on fun n i=>(number T i).on fun v i=>(label T F ns i).on fun l i=>(want T i [59]).on fun _ i=>declsF ns f { s with arrays:=s.arrays++[⟨n,v,l⟩] } i
   else if is T i (tx "func") then (func T F ns (i + 1)).on fun g i => declsF ns f { s with funcs := s.funcs ++ [g] } i
   else .error (50,i)
def source:R So:=(principalsF T F F [] 0).on fun ns i=>declsF T F ns F ⟨ns,[],[],[],[]⟩ i
def whole1:R (List Tm):=(expr T F 0).on fun l i=>if (T i).isSome then .error (50,i) else .ok (l,i)
end
def run:List Tm→Nat→Option Nat
 | [],n=>some n
 | t::l,n =>
  if t.kind=1∨t.kind=2 then run l (n+1)
  else if t.kind=3∨t.kind=4∧15≤t.value∧t.value≤17 then (if n<1 then none else run l n)
  else if t.kind=5∧1≤t.value∧t.value≤14 then (if n<2 then none else run l (n - 1))
  else none
def Wh (l:List Tm):Prop:=∀(n:Nat) (r:List Tm),run (l++r) n=run r (n+1)
theorem wh_num (v:Nat):Wh [⟨1,v,[]⟩]:=fun n r=>by simp [Syn.run]
theorem wh_name (s:List Nat):Wh [⟨2,0,s⟩]:=fun n r=>by simp [Syn.run]
theorem Wh.index {l:List Tm} (h:Wh l) (s:List Nat):Wh (l++[⟨3,0,s⟩]):=fun n r=>by
 rw [nlb,h];simp [Syn.run]
theorem Wh.un {l:List Tm} (h:Wh l) {o:Nat} (h1:15≤o) (h2:o≤17):Wh (l++[⟨4,o,[]⟩]):=fun n r=>by
 rw [nlb,h];simp [Syn.run,h1,h2]
theorem Wh.bin {l r:List Tm} (h:Wh l) (h':Wh r) {o:Nat} (h1:1≤o) (h2:o≤14):Wh (l++r++[⟨5,o,[]⟩]):=fun n q=>by
 rw [nlb,nlb,h,h'];simp [Syn.run,h1,h2];intro;omega
theorem Wh.uns {l:List Tm} (h:Wh l):∀(ops:List Nat),(∀o∈ops,15≤o∧o≤17)→Wh (l++ops.map fun o=>⟨4,o,[]⟩)
 | [],_=>by rwa [List.map_nil,List.append_nil]
 | o::ops,ho=>by
  have h1:=ho o (List.mem_cons_self ..)
  have:=Wh.uns (h.un h1.1 h1.2) ops (fun x hx=>ho x (List.mem_cons_of_mem _ hx))
  rwa [nlb] at this
section
variable {T:Nat→Option K} {F:Nat}
theorem R.on_ok {α β:Type} {r:R α} {f:α→Nat→R β} {y:β} {j:Nat} (h:r.on f=.ok (y,j)):∃x i,r=.ok (x,i)∧f x i=.ok (y,j):=by
 match r,h with
 | .ok (x,i),h=>exact ⟨x,i,rfl,h⟩
theorem want_ok {i j:Nat} {s:List Nat} {u:Unit} (h:want T i s=.ok (u,j)):is T i s=true∧j=i+1:=by
 unfold want at h
 split at h
 ·rename_i hi
  injection h with h;injection h with _ h
  exact ⟨hi,h.symm⟩
 ·cases h
theorem name_ok {i j:Nat} {s:List Nat} (h:name T i=.ok (s,j)):named T i=true∧j=i+1∧∃k,T i=some k∧k.text=s∧k.kind=1:=by
 unfold name at h
 split at h
 ·rename_i k hk
  split at h
  ·rename_i h1
   injection h with h;injection h with h2 h
   exact ⟨by simp [named,hk,h1],h.symm,k,hk,h2,h1⟩
  ·cases h
 ·cases h
theorem k8_ {ms:List (List Nat × Nat)} {i:Nat} (h:opOf T ms i≠0):∃m∈ms,m.2=opOf T ms i:=by
 unfold opOf at h ⊢
 split
 ·rename_i m hm
  exact ⟨m,List.mem_of_find?_eq_some hm,rfl⟩
 ·rename_i hm
  rw [hm] at h
  exact absurd rfl h
theorem ye_ (k:Nat):∀m∈marks k,1≤m.2∧m.2≤14:=by
 have:(marks k).all (fun m=>decide (1≤m.2∧m.2≤14))=true:=by
  unfold marks
  split <;> decide
 intro m hm
 simpa using List.all_eq_true.1 this m hm
def Good (p:Nat→R (List Tm)):Prop:=∀i l j,p i=.ok (l,j)→Wh l∧i<j
theorem mt_ {p:Nat→R (List Tm)} (hp:Good p) (k:Nat):∀(f:Nat) (l:List Tm) (i:Nat) (l':List Tm) (j:Nat),Wh l→loopF T p (marks k) f l i=.ok (l',j)→Wh l'∧i≤j
 | 0,_,_,_,_,_,h=>by cases h
 | f+1,l,i,l',j,hl,h=>by
  rw [loopF] at h
  split at h
  ·injection h with h;injection h with h1 h2
   subst h1;subst h2
   exact ⟨hl,Nat.le_refl _⟩
  ·rename_i ho
   obtain ⟨r,i2,h1,h2⟩:=R.on_ok h
   obtain ⟨hr,hi⟩:=hp _ _ _ h1
   obtain ⟨m,hm,he⟩:=k8_ ho
   have hb:=ye_ k m hm
   rw [he] at hb
   obtain ⟨a,b⟩:=mt_ hp k f _ i2 l' j (hl.bin hr hb.1 hb.2) h2
   exact ⟨a,by omega⟩
theorem ew_ {u:Nat→R (List Tm)} (hu:Good u):∀k,Good (tower T F u k)
 | 0=>fun i l j h=>hu i l j h
 | k+1=>fun i l j h=>by
  rw [tower] at h
  obtain ⟨l1,i1,h1,h2⟩:=R.on_ok h
  obtain ⟨a,b⟩:=ew_ hu k _ _ _ h1
  obtain ⟨c,d⟩:=mt_ (ew_ hu k) _ _ _ _ _ _ a h2
  exact ⟨c,by omega⟩
theorem gl_:∀(f i:Nat) (l:List Nat) (j:Nat),unOps T f i=.ok (l,j)→(∀o∈l,15≤o∧o≤17)∧i≤j
 | 0,_,_,_,h=>by cases h
 | f+1,i,l,j,h=>by
  rw [unOps] at h
  split at h
  ·injection h with h;injection h with h1 h2
   subst h1;subst h2
   exact ⟨fun _ hx=>(by cases hx),Nat.le_refl _⟩
  ·rename_i ho
   obtain ⟨l1,i1,h1,h2⟩:=R.on_ok h
   injection h2 with h2;injection h2 with h2 h3
   subst h2;subst h3
   obtain ⟨a,b⟩:=gl_ f _ _ _ h1
   obtain ⟨m,hm,he⟩:=k8_ ho
   have hb:15≤m.2∧m.2≤17:=by
    have:([([45],15),([33],16),([126],17)]:List (List Nat × Nat)).all (fun m=>decide (15≤m.2∧m.2≤17))=true:=by decide
    simpa using List.all_eq_true.1 this m hm
   rw [he] at hb
   refine ⟨fun o hx=>?_,by omega⟩
   rcases List.mem_cons.1 hx with rfl|hx
   ·exact hb
   ·exact a o hx
theorem gm_ {e:Option (Nat→R (List Tm))} (he:∀p,e=some p→Good p):Good (unary T F e):=by
 intro i l j h
 unfold unary at h
 obtain ⟨ops,i1,h1,h⟩:=R.on_ok h
 obtain ⟨ho,hi⟩:=gl_ _ _ _ _ h1
 obtain ⟨l2,i2,h2,h⟩:=R.on_ok h
 injection h with h;injection h with h3 h4
 subst h3;subst h4
 have key:Wh l2∧i1<i2:=by
  split at h2
  ·cases h2
  ·split at h2
   ·injection h2 with h2;injection h2 with h3 h4
    subst h3;subst h4
    exact ⟨wh_num _,by omega⟩
   ·split at h2
    ·split at h2
     ·cases h2
     ·obtain ⟨l3,i3,h3,h2⟩:=R.on_ok h2
      obtain ⟨_,i4,h4,h2⟩:=R.on_ok h2
      injection h2 with h2;injection h2 with h5 h6
      subst h5;subst h6
      obtain ⟨a,b⟩:=he _ rfl _ _ _ h3
      have:=(want_ok h4).2
      exact ⟨a,by omega⟩
    ·obtain ⟨s,i3,h3,h2⟩:=R.on_ok h2
     have hs:=(name_ok h3).2.1
     split at h2
     ·split at h2
      ·cases h2
      ·obtain ⟨l4,i4,h4,h2⟩:=R.on_ok h2
       obtain ⟨_,i5,h5,h2⟩:=R.on_ok h2
       injection h2 with h2;injection h2 with h6 h7
       subst h6;subst h7
       obtain ⟨a,b⟩:=he _ rfl _ _ _ h4
       have:=(want_ok h5).2
       exact ⟨a.index s,by omega⟩
     ·injection h2 with h2;injection h2 with h6 h7
      subst h6;subst h7
      exact ⟨wh_name s,by omega⟩
 exact ⟨key.1.uns _ (fun o hx=>ho o (List.mem_reverse.1 hx)),by omega⟩
theorem expr_good:∀d,Good (exprD T F d)
 | 0=>ew_ (gm_ (fun p h=>by cases h)) 6
 | d+1=>ew_ (gm_ (fun p h=>by cases h;exact expr_good d)) 6
end
end Go.Proofs.Syn
