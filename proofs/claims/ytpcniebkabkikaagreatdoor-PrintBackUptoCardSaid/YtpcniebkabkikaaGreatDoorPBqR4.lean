/- A part of the proof of PrintBack: contracts and plain facts. -/
import Derived.Test.YtpcniebkabkikaaGreatDoorPBqR3
import Derived.Maps.AppendAt
import Derived.OwnWalkIn
import Derived.RangeFuncCalls
import Derived.RangeFuncLeaves
import Derived.LoopNIn
import Derived.LoopIn
import Derived.Maps.OwnIn
import Derived.Test.YtpcniebkabkikaaGreatDoorPBqR1
set_option maxRecDepth 100000
set_option maxHeartbeats 8000000
open Go.Lib (hid)
open Go.Proofs.Tryz
open List renaming length_append → nla, append_assoc → nlb, length_singleton → nlc, length_map → nld, length_cons → nlk, length_nil → nlg
open Go.World renaming alloc_heap_new → nwn
namespace Go.Proofs.YtpcniebkabkikaaGreatDoor
open Go Go.RowKit Go.Proofs.Mm
def tmC (t:Syn.Tm):List Value:=[.int .i64 (t.kind:Int),.int .i64 (t.value:Int),.string (sb t.name)]
def tmCells (l:List Syn.Tm):List Value:=l.flatMap tmC
theorem ja_ (l m:List Syn.Tm):tmCells (l++m)=tmCells l++tmCells m:=by unfold tmCells;rw [List.flatMap_append]
theorem jb_ (t:Syn.Tm):tmCells [t]=tmC t:=by simp [tmCells]
theorem infoTm:∃i,prog.info? 45=some i∧i.zero=some (.agg #[.int .i64 0,.int .i64 0,.string ⟨#[]⟩])∧i.size=3∧i.bytes=32:=by
 have h:(prog.info? 45).map (fun i=>(i.zero,i.size,i.bytes))=some (some (.agg #[.int .i64 0,.int .i64 0,.string ⟨#[]⟩]),3,32):=by kernel_rfl
 cases hi:prog.info? 45 with
 | none=>rw [hi] at h;cases h
 | some i =>
  rw [hi] at h
  simp only [Option.map_some,Option.some.injEq,Prod.mk.injEq] at h
  obtain ⟨e1,e2,e3⟩:=h
  exact ⟨i,rfl,e1,e2,e3⟩
def TR (w:World) (v:Value) (l:List Syn.Tm):Prop:=w.ownsRow 0 45 3 v l.length (tmCells l)
theorem av_ {w:World} {B n size:Nat} {E:TypeId} {v:Value} {xs:List Value} (h:w.ownsRow B E size v n xs) {k:Nat} (hk:v.ownBlock=some k):∃cur,w.heap[k]?=some (.cells cur E (0,0)):=by
 rcases h.2 with ⟨rfl,_⟩|⟨g,cap,cur,rfl,_,hg,_⟩
 ·cases hk
 ·obtain rfl:g=k:=by simpa [Value.ownBlock] using hk
  exact ⟨cur,hg⟩
theorem a0_ {w w':World} {B n size:Nat} {E:TypeId} {v:Value} {xs:List Value} (h:w.ownsRow B E size v n xs) {S:Nat→Prop} (hc:Chg S w w') (hn:∀k,v.ownBlock=some k→¬S k):w'.ownsRow B E size v n xs:=by
 refine ⟨h.1,?_⟩
 rcases h.2 with h0|⟨g,cap,cur,rfl,hb,hg,rest⟩
 ·exact .inl h0
 ·exact .inr ⟨g,cap,cur,rfl,hb,hc.heap hg (hn g rfl),rest⟩
theorem ah_ {w:World} {B n size:Nat} {E:TypeId} {v:Value} {xs:List Value} (h:w.ownsRow B E size v n xs):∃q c,v=.slice q n c:=by
 rcases h.2 with ⟨rfl,rfl⟩|⟨g,cap,cur,rfl,_⟩
 ·exact ⟨_,_,rfl⟩
 ·exact ⟨_,_,rfl⟩
def TS (bp:Nat) (v:Value):Nat→Prop:=fun k=>k=bp∨v.ownBlock=some k
def TOk (ys:List It) (len bp bw:Nat) (vp:Value) (l0:List Syn.Tm) (v:Value) (w:World) (l:List Syn.Tm) (j:Nat) (e:Ending) (w':World):Prop :=
 ∃v',e=.returned v'∧TR w' v' (l0++l)∧PS ys len bp bw vp w' j∧∀k,v'.ownBlock=some k→v.ownBlock=some k∨w.heap.size≤k
def RdT (ys:List It) (len bp bw:Nat) (vp:Value) (K:FuncId) (args:Value→Array Value) (Inv:World→Prop) (r:Nat→Syn.R (List Syn.Tm)):Prop :=
 ∀w i v l0,Inv w→PS ys len bp bw vp w i→TR w v l0→l0.length+(ys.length - i)≤131072→Calls prog K (args v) w (Ret ys len (TS bp v) w (r i) (TOk ys len bp bw vp l0 v w))
section
variable {ys:List It} {len bp bw i:Nat} {vp:Value} {w:World}
theorem gy_ (h:PS ys len bp bw vp w i) {v:Value} {l:List Syn.Tm} (hr:TR w v l):v.ownBlock≠some bp∧v.ownBlock≠some bw:=by
 obtain ⟨⟨c,a1,_⟩,⟨arr,b1,_⟩,_,_⟩:=h
 constructor
 ·intro e
  obtain ⟨cur,h2⟩:=av_ hr e
  have:=a1.symm.trans h2
  simp at this
 ·intro e
  obtain ⟨cur,h2⟩:=av_ hr e
  have:=b1.symm.trans h2
  simp at this
theorem dc_ (h:PS ys len bp bw vp w i) {v:Value} {l:List Syn.Tm} (hr:TR w v l) {w':World} (hc:Chg (fun k=>k=bp) w w'):TR w' v l :=
 a0_ hr hc (fun k hk e=>by subst e;exact (gy_ h hr).1 hk)
theorem jc_ {v:Value} {w w':World} (hc:Chg (fun k=>k=bp) w w'):Chg (TS bp v) w w':=hc.mono fun _ e=>.inl (.inl e)
theorem nh_ (h:PS ys len bp bw vp w i) {v v':Value} {l:List Syn.Tm} (hr:TR w v l) {t:Syn.Tm} {w9:World} (T:TypeId)
 (hown:w9.ownsRow 0 45 3 v' (l.length+1) (tmCells l++tmC t)) (hg:(w.alloc (.cells (tmC t).toArray T)).grownBy w9 v.ownBlock) (hat:v'.ownBlock=v.ownBlock∨v'.ownBlock=some (w.heap.size+1)) :
 TR w9 v' (l++[t])∧PS ys len bp bw vp w9 i∧Chg (TS bp v) w w9∧∀k,v'.ownBlock=some k→v.ownBlock=some k∨w.heap.size≤k:=by
 have hC:Chg (TS bp v) w w9:=((Chg.refl _ w).alloc _).then (a1_ hg (fun k hk=>.inl (.inr hk)))
 have hC2:Chg (fun k=>v.ownBlock=some k) w w9:=((Chg.refl _ w).alloc _).then (a1_ hg (fun k hk=>.inl hk))
 refine ⟨?_,h.chg hC2 (gy_ h hr).1 (gy_ h hr).2,hC,fun k hk=>?_⟩
 ·unfold TR
  rw [nla,nlc,ja_,jb_]
  exact hown
 ·rcases hat with e|e
  ·rw [e] at hk;exact .inl hk
  ·rw [e] at hk
   simp only [Option.some.injEq] at hk
   exact .inr (by omega)
theorem ni_ (w:World) (t:Syn.Tm) (T:TypeId):∀j u,(tmC t)[j]?=some u→(w.alloc (.cells (tmC t).toArray T)).cell? ((⟨w.heap.size,0,none⟩:Addr).add j)=some u:=be_ w (tmC t) T
theorem nj_ (t:Syn.Tm):∀u∈tmC t,u.oneCell'=true:=by
 intro u hu
 unfold tmC at hu
 rcases List.mem_cons.1 hu with rfl|hu
 ·rfl
 rcases List.mem_cons.1 hu with rfl|hu
 ·rfl
 rcases List.mem_cons.1 hu with rfl|hu
 ·rfl
 ·exact absurd hu (by simp)
theorem jt_ (h:PS ys len bp bw vp w i) (s:ByteArray) (v:Value) (S:Nat→Prop) :
 Calls prog 228 #[.pointer (some ⟨bp,0,none⟩),.string s,v,.int .i64 12] w fun e w'=>e=.panicked (gv 51 ((tk ys len i).a:Nat))∧Chg S w w':=by
 go_enter func228,ntmps228
 go_wp2_with (go_at_call 144;refine (fg_ h 51 S).mono ?_;rintro e w' ⟨rfl,hc⟩)
 exact ⟨rfl,rfl,hc⟩
theorem ju_ (hw:Ws ys) (h:PS ys len bp bw vp w i) (hi:i<ys.length) {d:Nat} (hd:d<12) {r:Nat→Syn.R (List Syn.Tm)} (s:ByteArray) (hs:Mk (bl s)=true)
 (hR:RdT ys len bp bw vp 102 (fun v=>#[.pointer (some ⟨bp,0,none⟩),v,.int .i64 ((d:Int)+1)]) (fun _=>True) r) {v:Value} {l0:List Syn.Tm} (hr:TR w v l0) (hb:l0.length+(ys.length - i)≤131072) :
 Calls prog 228 #[.pointer (some ⟨bp,0,none⟩),.string s,v,.int .i64 (d:Int)] w (Ret ys len (TS bp v) w (Syn.brack (Tk ys) (some r) (fun l=>l) (bl s) i) (TOk ys len bp bw vp l0 v w)):=by
 have hne:((d:Int) == 12)=false:=by simp;omega
 have ht:=gv_ h hi
 have HR:=hid hR
 clear hR
 cases hri:r (i+1) with
 | error q =>
  obtain ⟨er,k⟩:=q
  have hB:Syn.brack (Tk ys) (some r) (fun l=>l) (bl s) i=.error (er,k):=by unfold Syn.brack;simp only [hri,Syn.R.on]
  rw [hB]
  clear hB
  have HRI:=hid hri
  clear hri
  go_enter func228,ntmps228
  go_wp2_with (go_at_call 146;refine ht.mono ?_;rintro e w1 ⟨rfl,hc1,hp1⟩)
  have hcall:=HR.out w1 (i+1) v l0 trivial hp1 (dc_ h hr hc1) (by omega)
  rw [HRI.out] at hcall
  go_at_call 102
  refine hcall.mono ?_
  rintro e w2 ⟨hc2,rfl⟩
  exact ⟨rfl,(jc_ hc1).then hc2,rfl⟩
 | ok q =>
  obtain ⟨l,j⟩:=q
  by_cases hx:Syn.is (Tk ys) j (bl s)=true
  ·have hj:j<ys.length:=by
    rcases Nat.lt_or_ge j ys.length with q|q
    ·exact q
    ·rw [Syn.is,cm_ q] at hx;cases hx
   have hB:Syn.brack (Tk ys) (some r) (fun l=>l) (bl s) i=.ok (l,j+1):=by
    unfold Syn.brack
    simp only [hri,Syn.R.on]
    rw [show Syn.want (Tk ys) j (bl s)=.ok ((),j+1) from if_pos hx]
   rw [hB]
   clear hB
   have HRI:=hid hri
   have hx2:((tk ys len j).t.toList == s.toList)=true:=by rw [ax_,az_ hw len j hs];exact hx
   have HX:=hid hx2
   clear hri hx hx2
   go_enter func228,ntmps228
   go_wp2_with (go_at_call 146;refine ht.mono ?_;rintro e w1 ⟨rfl,hc1,hp1⟩)
   have hcall:=HR.out w1 (i+1) v l0 trivial hp1 (dc_ h hr hc1) (by omega)
   rw [HRI.out] at hcall
   have hsz:=hc1.size
   go_at_call 102
   refine hcall.mono ?_
   rintro e w2 ⟨hc2,v',rfl,hr2,hp2,hob⟩
   have hwt:=h1_ hp2 hj s HX.out
   go_wp2_with (go_at_call 149;refine hwt.mono ?_;rintro e w3 ⟨rfl,hc3,hp3⟩)
   go_ret
   exact ⟨((jc_ hc1).then hc2).then (jc_ hc3),v',rfl,dc_ hp2 hr2 hc3,hp3,fun k hk=>by rcases hob k hk with q|q <;> first|exact .inl q|exact .inr (by omega)⟩
  ·have hB:Syn.brack (Tk ys) (some r) (fun l=>l) (bl s) i=.error (50,j):=by
    unfold Syn.brack
    simp only [hri,Syn.R.on]
    rw [show Syn.want (Tk ys) j (bl s)=.error (50,j) from if_neg hx]
   rw [hB]
   clear hB
   have HRI:=hid hri
   have hx2:((tk ys len j).t.toList == s.toList)=false:=by rw [ax_,az_ hw len j hs];simpa using hx
   have HX:=hid hx2
   clear hri hx hx2
   go_enter func228,ntmps228
   go_wp2_with (go_at_call 146;refine ht.mono ?_;rintro e w1 ⟨rfl,hc1,hp1⟩)
   have hcall:=HR.out w1 (i+1) v l0 trivial hp1 (dc_ h hr hc1) (by omega)
   rw [HRI.out] at hcall
   go_at_call 102
   refine hcall.mono ?_
   rintro e w2 ⟨hc2,v',rfl,hr2,hp2,hob⟩
   have hwt:=i7_ hp2 s HX.out (TS bp v)
   go_wp2_with (go_at_call 149;refine hwt.mono ?_;rintro e w3 ⟨rfl,hc3⟩)
   exact ⟨rfl,((jc_ hc1).then hc2).then (hc3.mono fun _ q=>.inl q),rfl⟩
end
def EOk (ys:List It) (len bp bw:Nat) (vp:Value) (d:Nat) (e:Option (Nat→Syn.R (List Syn.Tm))):Prop :=
 (d=12∧e=none)∨(d<12∧∃r,e=some r∧Syn.Cnt r∧Syn.FitP ys.length r∧RdT ys len bp bw vp 102 (fun v=>#[.pointer (some ⟨bp,0,none⟩),v,.int .i64 ((d:Int)+1)]) (fun _=>True) r)
theorem EOk.cnt {ys:List It} {len bp bw d:Nat} {vp:Value} {e:Option (Nat→Syn.R (List Syn.Tm))} (h:EOk ys len bp bw vp d e):∀p,e=some p→Syn.Cnt p:=by
 rcases h with ⟨_,rfl⟩|⟨_,r,rfl,h,_⟩
 ·intro p hp;cases hp
 ·intro p hp;cases hp;exact h
theorem EOk.fit {ys:List It} {len bp bw d:Nat} {vp:Value} {e:Option (Nat→Syn.R (List Syn.Tm))} (h:EOk ys len bp bw vp d e):∀p,e=some p→Syn.FitP ys.length p:=by
 rcases h with ⟨_,rfl⟩|⟨_,r,rfl,_,h,_⟩
 ·intro p hp;cases hp
 ·intro p hp;cases hp;exact h
theorem ap_ (ys:List It):∀i,ys.length≤i→Tk ys i=none:=fun _ h=>cm_ h
theorem a4_ {ys:List It} {i:Nat} {s:List Nat} (h:Syn.is (Tk ys) i s=true):i<ys.length:=Syn.is_lt (ap_ ys) h
theorem cc_ {ys:List It} {i:Nat} (h:Syn.named (Tk ys) i=true):i<ys.length:=Syn.named_lt (ap_ ys) h
theorem brack_g {T:Nat→Option Syn.K} (e:Option (Nat→Syn.R (List Syn.Tm))) (g:List Syn.Tm→List Syn.Tm) (s:List Nat) (i:Nat) :
 Syn.brack T e g s i=(Syn.brack T e (fun l=>l) s i).on fun l j=>.ok (g l,j):=by
 unfold Syn.brack
 cases e with
 | none=>rfl
 | some r =>
  simp only
  cases r (i+1) with
  | error q=>rfl
  | ok q =>
   simp only [Syn.R.on]
   cases Syn.want T q.2 s with
   | error q=>rfl
   | ok q=>rfl
def isNum (T:Nat→Option Syn.K) (i:Nat):Bool:=match T i with | some k=>k.kind == 3 | none=>false
theorem e0_ (ys:List It) (len i:Nat):(((tk ys len i).k:Int) == 3)=isNum (Tk ys) i:=by
 by_cases h:i<ys.length
 ·unfold isNum;rw [cn_ (len:=len) h];simp only [keyOf];rw [Bool.eq_iff_iff,beq_iff_eq,beq_iff_eq];omega
 ·rw [qt_ ys len (by omega)];unfold isNum;rw [cm_ (by omega)];rfl
theorem nk_ {ys:List It} {i:Nat} (h:isNum (Tk ys) i=true):i<ys.length:=by
 rcases Nat.lt_or_ge i ys.length with q|q
 ·exact q
 ·rw [isNum,cm_ q] at h;cases h
theorem y3_ {ys:List It} (len:Nat) {i:Nat} (e:Option (Nat→Syn.R (List Syn.Tm))) (h:isNum (Tk ys) i=true):Syn.atom (Tk ys) e i=.ok ([⟨1,(tk ys len i).v,[]⟩],i+1):=by
 have hi:=nk_ h
 unfold isNum at h
 unfold Syn.atom
 rw [cn_ (len:=len) hi] at h ⊢
 exact if_pos (by simpa using h)
theorem v5_ {ys:List It} {i:Nat} (e:Option (Nat→Syn.R (List Syn.Tm))) (h:isNum (Tk ys) i=false):Syn.atom (Tk ys) e i=if Syn.is (Tk ys) i [40] then Syn.brack (Tk ys) e (fun l=>l) [41] i else Syn.atomN (Tk ys) e i:=by
 unfold isNum at h
 unfold Syn.atom
 cases hT:Tk ys i with
 | none =>
  simp only [Syn.is,hT,Bool.false_eq_true,if_false,Syn.atomN,Syn.name,Syn.R.on]
 | some k =>
  rw [hT] at h
  simp only
  rw [if_neg (by simpa using h)]
theorem gz_ {ys:List It} {i:Nat} (h:Syn.named (Tk ys) i=false):Syn.name (Tk ys) i=.error (50,i):=by
 unfold Syn.named at h
 unfold Syn.name
 cases hT:Tk ys i with
 | none=>rfl
 | some k=>rw [hT] at h;exact if_neg (by simpa using h)
theorem c7_ {ys:List It} (len:Nat) {i:Nat} (h:Syn.named (Tk ys) i=true):Syn.name (Tk ys) i=.ok (bl (tk ys len i).t,i+1):=by
 have hi:=cc_ h
 unfold Syn.named at h
 unfold Syn.name
 rw [cn_ (len:=len) hi] at h ⊢
 exact if_pos (by simpa using h)
section
variable {ys:List It} {len bp bw i:Nat} {vp:Value} {w:World}
theorem d2_ (hw:Ws ys) (h:PS ys len bp bw vp w i) (hi:i<ys.length) {d:Nat} {e:Option (Nat→Syn.R (List Syn.Tm))} (he:EOk ys len bp bw vp d e) (s:ByteArray) (hs:Mk (bl s)=true) {v:Value} {l0:List Syn.Tm} (hr:TR w v l0) (hb:l0.length+(ys.length - i)≤131072) :
 Calls prog 228 #[.pointer (some ⟨bp,0,none⟩),.string s,v,.int .i64 (d:Int)] w (Ret ys len (TS bp v) w (Syn.brack (Tk ys) e (fun l=>l) (bl s) i) (TOk ys len bp bw vp l0 v w)):=by
 rcases he with ⟨rfl,rfl⟩|⟨hd,r,rfl,_,_,hR⟩
 ·exact (jt_ h s v (TS bp v)).mono fun e w' ⟨h1,h2⟩=>⟨h2,h1⟩
 ·exact ju_ hw h hi hd s hs hR hr hb
theorem cu_ (h:PS ys len bp bw vp w i) (hn:Syn.named (Tk ys) i=true):Calls prog 150 #[.pointer (some ⟨bp,0,none⟩)] w fun e w'=>e=.returned (.string (tk ys len i).t)∧Chg (fun k=>k=bp) w w'∧PS ys len bp bw vp w' (i+1):=by
 have h1:=vt_ h
 rw [c7_ len hn] at h1
 refine h1.mono fun e w' ⟨a,b,c⟩=>⟨by rw [b,db_],a,c⟩
theorem eq_ (h:PS ys len bp bw vp w i) (hn:Syn.named (Tk ys) i=false) (S:Nat→Prop) (hS:S bp):Calls prog 150 #[.pointer (some ⟨bp,0,none⟩)] w fun e w'=>e=.panicked (gv 50 ((tk ys len i).a:Nat))∧Chg S w w':=by
 have h1:=vt_ h
 rw [gz_ hn] at h1
 exact h1.mono fun e w' ⟨a,b⟩=>⟨b,a.mono fun _ q=>.inl (by subst q;exact hS)⟩
attribute [local go_sem] lz_ i8_
theorem v6_ (h:PS ys len bp bw vp w i) (hn:isNum (Tk ys) i=true) (d:Int) {v:Value} {l0:List Syn.Tm} (hr:TR w v l0) (hb:l0.length+(ys.length - i)≤131072) :
 Calls prog 196 #[.pointer (some ⟨bp,0,none⟩),v,.int .i64 d] w fun e w'=>Chg (TS bp v) w w'∧TOk ys len bp bw vp l0 v w [⟨1,(tk ys len i).v,[]⟩] (i+1) e w':=by
 have hi:=nk_ hn
 obtain ⟨i0,hi0,hz0,hz1,hz2⟩:=infoTm
 have h1:=bl_ h 3
 rw [e0_,hn] at h1
 have ht:=gv_ h hi
 go_enter func196,ntmps196
 go_wp2_with (go_at_call 184;refine h1.mono ?_;rintro e w' ⟨rfl,rfl⟩)
 go_at_call 146
 refine ht.mono ?_
 rintro e w1 ⟨rfl,hc1,hp1⟩
 have hr1:=dc_ h hr hc1
 go_wp2_with (at_builtin;refine wpList_append_own_at _ rfl _ _ 37 rfl 0 45 i0 _ 3 32 Tryz.underlying37 hi0 hz0 hz1 hz2 rfl (by decide) _ _ _ rfl (hr1.alloc _) ⟨w1.heap.size,0,none⟩ 1 1 (tmC ⟨1,(tk ys len i).v,[]⟩) rfl rfl (ni_ w1 ⟨1,(tk ys len i).v,[]⟩ 45) (nj_ _) (by unfold maxLen;omega) (by omega) (Nat.zero_le _) ?_)
 intro v' w9 hown9 hgrow9 _ hat9
 obtain ⟨a1,a2,a3,a4⟩:=nh_ hp1 hr1 45 hown9 hgrow9 hat9
 have hsz:=hc1.size
 clear hown9 hgrow9 hat9
 go_wp2
 go_ret
 exact ⟨(jc_ hc1).then a3,v',rfl,a1,a2,fun k hk=>by rcases a4 k hk with q|q <;> first|exact .inl q|exact .inr (by omega)⟩
theorem g0_:Mk (bl ⟨#[40]⟩)=true:=by decide
theorem y4_:Mk (bl ⟨#[41]⟩)=true:=by decide
theorem r6_:Mk (bl ⟨#[91]⟩)=true:=by decide
theorem mk_93:Mk (bl ⟨#[93]⟩)=true:=by decide
theorem v7_ (hw:Ws ys) (h:PS ys len bp bw vp w i) (hn:isNum (Tk ys) i=false) (hp:Syn.is (Tk ys) i [40]=true) {d:Nat} {e:Option (Nat→Syn.R (List Syn.Tm))} (he:EOk ys len bp bw vp d e) {v:Value} {l0:List Syn.Tm} (hr:TR w v l0) (hb:l0.length+(ys.length - i)≤131072) :
 Calls prog 196 #[.pointer (some ⟨bp,0,none⟩),v,.int .i64 (d:Int)] w (Ret ys len (TS bp v) w (Syn.brack (Tk ys) e (fun l=>l) [41] i) (TOk ys len bp bw vp l0 v w)):=by
 have hi:=a4_ hp
 have h1:=bl_ h 3
 rw [e0_,hn] at h1
 have h2:=ho_ h ⟨#[40]⟩
 rw [ax_,az_ hw len i g0_,show bl ⟨#[40]⟩=[40] from rfl,hp] at h2
 have h3:=d2_ hw h hi he ⟨#[41]⟩ y4_ hr hb
 rw [show bl ⟨#[41]⟩=[41] from rfl] at h3
 clear hn hp
 cases hB:Syn.brack (Tk ys) e (fun l=>l) [41] i with
 | error q =>
  obtain ⟨er,k⟩:=q
  rw [hB] at h3
  have HB:=hid hB
  clear hB
  go_enter func196,ntmps196
  go_wp2_with (first|(go_at_call 184;refine h1.mono ?_;rintro e w' ⟨rfl,rfl⟩)|(go_at_call 145;refine h2.mono ?_;rintro e w' ⟨rfl,rfl⟩))
  go_at_call 228
  refine h3.mono ?_
  rintro e w1 ⟨hc1,rfl⟩
  exact ⟨rfl,hc1,rfl⟩
 | ok q =>
  obtain ⟨l,j⟩:=q
  rw [hB] at h3
  have HB:=hid hB
  clear hB
  go_enter func196,ntmps196
  go_wp2_with (first|(go_at_call 184;refine h1.mono ?_;rintro e w' ⟨rfl,rfl⟩)|(go_at_call 145;refine h2.mono ?_;rintro e w' ⟨rfl,rfl⟩))
  go_at_call 228
  refine h3.mono ?_
  rintro e w1 ⟨hc1,v',rfl,a1,a2,a3⟩
  go_wp2
  go_ret
  exact ⟨hc1,v',rfl,a1,a2,a3⟩
theorem r7_ (hw:Ws ys) (h:PS ys len bp bw vp w i) (hn:isNum (Tk ys) i=false) (hp:Syn.is (Tk ys) i [40]=false) (hm:Syn.named (Tk ys) i=false) (d:Int) (v:Value) :
 Calls prog 196 #[.pointer (some ⟨bp,0,none⟩),v,.int .i64 d] w fun e w'=>Chg (TS bp v) w w'∧e=.panicked (gv 50 ((tk ys len i).a:Nat)):=by
 have h1:=bl_ h 3
 rw [e0_,hn] at h1
 have h2:=ho_ h ⟨#[40]⟩
 rw [ax_,az_ hw len i g0_,show bl ⟨#[40]⟩=[40] from rfl,hp] at h2
 have h3:=eq_ h hm (TS bp v) (.inl rfl)
 clear hn hp hm
 go_enter func196,ntmps196
 go_wp2_with (first|(go_at_call 184;refine h1.mono ?_;rintro e w' ⟨rfl,rfl⟩)|(go_at_call 145;refine h2.mono ?_;rintro e w' ⟨rfl,rfl⟩))
 go_at_call 150
 refine h3.mono ?_
 rintro e w1 ⟨rfl,hc1⟩
 exact ⟨rfl,hc1,rfl⟩
theorem r8_ (hw:Ws ys) (h:PS ys len bp bw vp w i) (hn:isNum (Tk ys) i=false) (hp:Syn.is (Tk ys) i [40]=false) (hm:Syn.named (Tk ys) i=true) (hq:Syn.is (Tk ys) (i+1) [91]=false) (d:Int) {v:Value} {l0:List Syn.Tm} (hr:TR w v l0) (hb:l0.length+(ys.length - i)≤131072) :
 Calls prog 196 #[.pointer (some ⟨bp,0,none⟩),v,.int .i64 d] w fun e w'=>Chg (TS bp v) w w'∧TOk ys len bp bw vp l0 v w [⟨2,0,bl (tk ys len i).t⟩] (i+1) e w':=by
 have hi:=cc_ hm
 obtain ⟨i0,hi0,hz0,hz1,hz2⟩:=infoTm
 have h1:=bl_ h 3
 rw [e0_,hn] at h1
 have h2:=ho_ h ⟨#[40]⟩
 rw [ax_,az_ hw len i g0_,show bl ⟨#[40]⟩=[40] from rfl,hp] at h2
 have h3:=cu_ h hm
 have h4:=hid (fun w1 (hp1:PS ys len bp bw vp w1 (i+1))=>by
  have:=ho_ hp1 ⟨#[91]⟩
  rw [ax_,az_ hw len (i+1) r6_,show bl ⟨#[91]⟩=[91] from rfl,hq] at this
  exact this)
 have HC:=hid (show tmC ⟨2,0,bl (tk ys len i).t⟩=[.int .i64 2,.int .i64 0,.string (tk ys len i).t] from by unfold tmC;rw [db_];rfl)
 clear hn hp hm hq
 go_enter func196,ntmps196
 go_wp2_with (first|(go_at_call 184;refine h1.mono ?_;rintro e w' ⟨rfl,rfl⟩)|(go_at_call 145;refine h2.mono ?_;rintro e w' ⟨rfl,rfl⟩))
 go_at_call 150
 refine h3.mono ?_
 rintro e w1 ⟨rfl,hc1,hp1⟩
 have hr1:=dc_ h hr hc1
 have h5:=h4.out w1 hp1
 have hnew:=ni_ w1 ⟨2,0,bl (tk ys len i).t⟩ 45
 have hone:=nj_ ⟨2,0,bl (tk ys len i).t⟩
 have happ:=hid (fun v' w9=>nh_ (t:=⟨2,0,bl (tk ys len i).t⟩) (v':=v') (w9:=w9) hp1 hr1 45)
 rw [HC.out] at hnew hone happ
 go_wp2_with (first|(go_at_call 145;refine h5.mono ?_;rintro e w' ⟨rfl,rfl⟩)|(at_builtin;refine wpList_append_own_at _ rfl _ _ 37 rfl 0 45 i0 _ 3 32 Tryz.underlying37 hi0 hz0 hz1 hz2 rfl (by decide) _ _ _ rfl (hr1.alloc _) ⟨w1.heap.size,0,none⟩ 1 1 [.int .i64 2,.int .i64 0,.string (tk ys len i).t] rfl rfl hnew hone (by unfold maxLen;omega) (by omega) (Nat.zero_le _) ?_))
 intro v' w9 hown9 hgrow9 _ hat9
 obtain ⟨a1,a2,a3,a4⟩:=happ.out v' w9 hown9 hgrow9 hat9
 have hsz:=hc1.size
 clear hown9 hgrow9 hat9
 go_wp2
 go_ret
 exact ⟨(jc_ hc1).then a3,v',rfl,a1,a2,fun k hk=>by rcases a4 k hk with q|q <;> first|exact .inl q|exact .inr (by omega)⟩
theorem jd_ (hw:Ws ys) (h:PS ys len bp bw vp w i) (hn:isNum (Tk ys) i=false) (hp:Syn.is (Tk ys) i [40]=false) (hm:Syn.named (Tk ys) i=true) (hq:Syn.is (Tk ys) (i+1) [91]=true) {d:Nat} {e:Option (Nat→Syn.R (List Syn.Tm))} (he:EOk ys len bp bw vp d e) {v:Value} {l0:List Syn.Tm} (hr:TR w v l0) (hb:l0.length+(ys.length - i)≤131072)
 {er k:Nat} (hB:Syn.brack (Tk ys) e (fun l=>l) [93] (i+1)=.error (er,k)) :
 Calls prog 196 #[.pointer (some ⟨bp,0,none⟩),v,.int .i64 (d:Int)] w fun e w'=>Chg (TS bp v) w w'∧e=.panicked (gv er ((tk ys len k).a:Nat)):=by
 have hi:=a4_ hq
 have h1:=bl_ h 3
 rw [e0_,hn] at h1
 have h2:=ho_ h ⟨#[40]⟩
 rw [ax_,az_ hw len i g0_,show bl ⟨#[40]⟩=[40] from rfl,hp] at h2
 have h3:=cu_ h hm
 have h4:=hid (fun w1 (hp1:PS ys len bp bw vp w1 (i+1))=>by
  have:=ho_ hp1 ⟨#[91]⟩
  rw [ax_,az_ hw len (i+1) r6_,show bl ⟨#[91]⟩=[91] from rfl,hq] at this
  exact this)
 have h6:=hid (fun w1 (hp1:PS ys len bp bw vp w1 (i+1)) (hr1:TR w1 v l0)=>by
  have:=d2_ hw hp1 hi he ⟨#[93]⟩ mk_93 hr1 (by omega)
  rw [show bl ⟨#[93]⟩=[93] from rfl,hB] at this
  exact this)
 clear hn hp hm hq hB
 go_enter func196,ntmps196
 go_wp2_with (first|(go_at_call 184;refine h1.mono ?_;rintro e w' ⟨rfl,rfl⟩)|(go_at_call 145;refine h2.mono ?_;rintro e w' ⟨rfl,rfl⟩))
 go_at_call 150
 refine h3.mono ?_
 rintro e w1 ⟨rfl,hc1,hp1⟩
 have hr1:=dc_ h hr hc1
 have h5:=h4.out w1 hp1
 go_wp2_with (go_at_call 145;refine h5.mono ?_;rintro e w' ⟨rfl,rfl⟩)
 go_at_call 228
 refine (h6.out w1 hp1 hr1).mono ?_
 rintro e w2 ⟨hc2,rfl⟩
 exact ⟨rfl,(jc_ hc1).then hc2,rfl⟩
theorem ov_ (hw:Ws ys) (h:PS ys len bp bw vp w i) (hn:isNum (Tk ys) i=false) (hp:Syn.is (Tk ys) i [40]=false) (hm:Syn.named (Tk ys) i=true) (hq:Syn.is (Tk ys) (i+1) [91]=true) {d:Nat} {e:Option (Nat→Syn.R (List Syn.Tm))} (he:EOk ys len bp bw vp d e) {v:Value} {l0:List Syn.Tm} (hr:TR w v l0) (hb:l0.length+(ys.length - i)≤131072)
 {l:List Syn.Tm} {j:Nat} (hB:Syn.brack (Tk ys) e (fun l=>l) [93] (i+1)=.ok (l,j)) (hlj:l.length+(i+1)≤j) (hj:j≤ys.length) :
 Calls prog 196 #[.pointer (some ⟨bp,0,none⟩),v,.int .i64 (d:Int)] w fun e w'=>Chg (TS bp v) w w'∧TOk ys len bp bw vp l0 v w (l++[⟨3,0,bl (tk ys len i).t⟩]) j e w':=by
 have hi:=a4_ hq
 obtain ⟨i0,hi0,hz0,hz1,hz2⟩:=infoTm
 have h1:=bl_ h 3
 rw [e0_,hn] at h1
 have h2:=ho_ h ⟨#[40]⟩
 rw [ax_,az_ hw len i g0_,show bl ⟨#[40]⟩=[40] from rfl,hp] at h2
 have h3:=cu_ h hm
 have h4:=hid (fun w1 (hp1:PS ys len bp bw vp w1 (i+1))=>by
  have:=ho_ hp1 ⟨#[91]⟩
  rw [ax_,az_ hw len (i+1) r6_,show bl ⟨#[91]⟩=[91] from rfl,hq] at this
  exact this)
 have h6:=hid (fun w1 (hp1:PS ys len bp bw vp w1 (i+1)) (hr1:TR w1 v l0)=>by
  have:=d2_ hw hp1 hi he ⟨#[93]⟩ mk_93 hr1 (by omega)
  rw [show bl ⟨#[93]⟩=[93] from rfl,hB] at this
  exact this)
 have HC:=hid (show tmC ⟨3,0,bl (tk ys len i).t⟩=[.int .i64 3,.int .i64 0,.string (tk ys len i).t] from by unfold tmC;rw [db_];rfl)
 clear hn hp hm hq hB
 go_enter func196,ntmps196
 go_wp2_with (first|(go_at_call 184;refine h1.mono ?_;rintro e w' ⟨rfl,rfl⟩)|(go_at_call 145;refine h2.mono ?_;rintro e w' ⟨rfl,rfl⟩))
 go_at_call 150
 refine h3.mono ?_
 rintro e w1 ⟨rfl,hc1,hp1⟩
 have hr1:=dc_ h hr hc1
 have h5:=h4.out w1 hp1
 have hsz1:=hc1.size
 go_wp2_with (go_at_call 145;refine h5.mono ?_;rintro e w' ⟨rfl,rfl⟩)
 go_at_call 228
 refine (h6.out w1 hp1 hr1).mono ?_
 rintro e w2 ⟨hc2,v2,rfl,hr2,hp2,hob2⟩
 have hsz2:=hc2.size
 have hnew:=ni_ w2 ⟨3,0,bl (tk ys len i).t⟩ 45
 have hone:=nj_ ⟨3,0,bl (tk ys len i).t⟩
 have happ:=hid (fun v' w9=>nh_ (t:=⟨3,0,bl (tk ys len i).t⟩) (v':=v') (w9:=w9) hp2 hr2 45)
 have hlen:(l0++l).length≤131072:=by rw [nla];omega
 rw [HC.out] at hnew hone happ
 go_wp2_with (at_builtin;refine wpList_append_own_at _ rfl _ _ 37 rfl 0 45 i0 _ 3 32 Tryz.underlying37 hi0 hz0 hz1 hz2 rfl (by decide) _ _ _ rfl (hr2.alloc _) ⟨w2.heap.size,0,none⟩ 1 1 [.int .i64 3,.int .i64 0,.string (tk ys len i).t] rfl rfl hnew hone (by unfold maxLen;omega) (by omega) (Nat.zero_le _) ?_)
 intro v' w9 hown9 hgrow9 _ hat9
 obtain ⟨a1,a2,a3,a4⟩:=happ.out v' w9 (by rw [nla];exact hown9) hgrow9 hat9
 rw [nlb] at a1
 clear hown9 hgrow9 hat9
 go_wp2
 go_ret
 refine ⟨((jc_ hc1).then hc2).trans a3 (fun k hk=>?_),v',rfl,a1,a2,fun k hk=>?_⟩
 ·rcases hk with q|q
  ·exact .inl (.inl q)
  ·rcases hob2 k q with q|q
   ·exact .inl (.inr q)
   ·exact .inr (by omega)
 ·rcases a4 k hk with q|q
  ·rcases hob2 k q with q|q
   ·exact .inl q
   ·exact .inr (by omega)
  ·exact .inr (by omega)
theorem v8_ (hw:Ws ys) {d:Nat} {e:Option (Nat→Syn.R (List Syn.Tm))} (he:EOk ys len bp bw vp d e):RdT ys len bp bw vp 196 (fun v=>#[.pointer (some ⟨bp,0,none⟩),v,.int .i64 (d:Int)]) (fun _=>True) (Syn.atom (Tk ys) e):=by
 intro w i v l0 _ h hr hb
 cases hn:isNum (Tk ys) i with
 | true=>rw [y3_ len e hn];exact v6_ h hn d hr hb
 | false =>
  rw [v5_ e hn]
  cases hp:Syn.is (Tk ys) i [40] with
  | true=>rw [if_pos rfl];exact v7_ hw h hn hp he hr hb
  | false =>
   rw [if_neg (by simp)]
   unfold Syn.atomN
   cases hm:Syn.named (Tk ys) i with
   | false=>rw [gz_ hm];exact r7_ hw h hn hp hm d v
   | true =>
    rw [c7_ len hm]
    simp only [Syn.R.on]
    cases hq:Syn.is (Tk ys) (i+1) [91] with
    | false=>rw [if_neg (by simp)];exact r8_ hw h hn hp hm hq d hr hb
    | true =>
     rw [if_pos rfl,brack_g]
     cases hB:Syn.brack (Tk ys) e (fun l=>l) [93] (i+1) with
     | error q=>exact jd_ hw h hn hp hm hq he hr hb hB
     | ok q =>
      obtain ⟨l,j⟩:=q
      have hc:=Syn.brack_cnt he.cnt (g:=fun l=>l) (fun l=>Nat.le_succ _) hB
      have hf:=(Syn.brack_fit (ap_ ys) he.fit (fun l=>l) [93] (a4_ hq)).pos hB
      exact ov_ hw h hn hp hm hq he hr hb hB hc hf
end
def NumsAt (w:World) (q:Option Addr) (ops:List Nat):Prop :=
 ∀j (h:j<ops.length),∃g cur,q=some ⟨g,0,none⟩∧w.heap[g]?=some (.cells cur 3 (0,0))∧cur[j]?=some (.int .i64 (ops[j]:Nat))
def KpB (Bx:Nat) (q:Option Addr) (A B:World):Prop:=B.heap[Bx]?=A.heap[Bx]?∧∀a,q=some a→B.heap[a.block]?=A.heap[a.block]?
theorem NumsAt.kept {A B:World} {Bx:Nat} {q:Option Addr} {ops:List Nat} (h:NumsAt A q ops) (hk:KpB Bx q A B):NumsAt B q ops:=fun j hj=>by
 obtain ⟨g,cur,h1,h2,h3⟩:=h j hj
 exact ⟨g,cur,h1,(hk.2 _ h1).trans h2,h3⟩
theorem NumsAt.below {A B:World} {q:Option Addr} {ops:List Nat} (h:NumsAt A q ops) (hb:Below A.heap.size A B):NumsAt B q ops:=fun j hj=>by
 obtain ⟨g,cur,h1,h2,h3⟩:=h j hj
 exact ⟨g,cur,h1,(hb.block g (heap_lt h2)).trans h2,h3⟩
theorem hi_ (k:Nat):(((k+1:Nat):Int) - 1)=(k:Int):=by omega
theorem r9_ (n Bx:Nat) (q:Option Addr) (c:Nat) (ops:List Nat) (hlen:ops.length≤131072) (w:World) (hB:w.heap[Bx]?=some (.cells #[.slice q ops.length c] 67 (0,0))) (hN:NumsAt w q ops) :
 SeqStopsK Fence.wide n prog 229 #[.pointer (some ⟨Bx,0,none⟩)] (fun x:Nat × Nat=>#[Value.int .i64 (x.1:Int),Value.int .i64 (x.2:Int)]) (KpB Bx q) (fun xs=>xs.map Prod.snd=ops.reverse) (fun _=>True) ops.length w:=by
 intro l J Jx W hW _ _ hY h0
 have hB1:=(hW.block Bx (heap_lt hB)).trans hB
 have hN1:=hN.below hW
 clear hB hN hW
 have hc0:=aa_ (j:=0) hB1 rfl
 obtain ⟨m0,hm0⟩:∃m0,ops.length=m0:=⟨_,rfl⟩
 rw [hm0] at hc0 hlen hY
 have HM:=hid hm0
 clear hm0
 refine callsIn_of_wp func229 rfl trivial ?_ rfl
 simp only [ntmps229,List.size_toArray,nlk,nlg,Nat.reduceAdd,Nat.reduceSub,Array.replicate_succ,Array.replicate_zero,List.push_toArray,List.append_toArray,List.nil_append,List.cons_append]
 gi_wp2
 gi_loopw [3] (fun t wr=>∃(pre:List (Nat × Nat)) (m:Nat),m≤m0∧t=.int .i64 ((m:Int) - 1)∧Hid (pre.map Prod.snd=(ops.drop m).reverse)∧wr.heap[Bx]?=some (.cells #[.slice q m0 c] 67 (0,0))∧NumsAt wr q ops∧J pre wr)
  (fun t _=>(intOf t+1).toNat)
 case atStart =>
  exact ⟨[],m0,Nat.le_refl _,rfl,hid (by rw [←HM.out];simp),by rw [←HM.out];exact hB1,hN1,h0⟩
 case round =>
  obtain ⟨pre,m,hm,rfl,HP,hBr,hNr,hJr⟩:=hrel
  clear hB1 hN1 h0 hc0
  have hcr:=aa_ (j:=0) hBr rfl
  cases m with
  | zero =>
   gi_wp2
   go_end0
   exact ⟨⟨_,rfl⟩,.inl ⟨pre,by have:=HP.out;simpa using this,hJr⟩⟩
  | succ k =>
   have hk:k<ops.length:=by rw [HM.out];omega
   obtain ⟨g,cur,rfl,hg,hcur⟩:=hNr k hk
   have hck:=aa_ hg hcur
   have hpl:pre.length<m0:=by
    have h1:=congrArg List.length HP.out
    simp only [nld,List.length_reverse,List.length_drop] at h1
    have:=HM.out
    omega
   obtain ⟨fn,tmps,assign,body,hy,hR⟩:=hY pre (k,ops[k]) wr hJr hpl
   have HP2:=hid (show (pre++[(k,ops[k])]).map Prod.snd=(ops.drop k).reverse from by
    rw [List.map_append,HP.out,List.drop_eq_getElem_cons hk,List.reverse_cons];rfl)
   have hNr2:=hid hNr
   have hBr2:=hid hBr
   clear HP hpl hcur hg hJr hNr hBr
   generalize ops[k]=ok at *
   rw [hi_]
   gi_wp2
   refine ⟨(fun h=>by cases h),hR.mono ?_⟩
   rintro e W3 (⟨rfl,hJ3,hk3⟩|⟨rfl,hJx3⟩)
   ·have hB3:=hid (hk3.1.trans hBr2.out)
    have hN3:=hid (hNr2.out.kept hk3)
    clear hk3
    gi_wp2
    exact ⟨⟨pre++[(k,ok)],k,by omega,rfl,HP2,hB3.out,hN3.out,hJ3⟩,by simp [intOf]⟩
   ·gi_wp2
    refine bodyPost_ret (results_none rfl _ _ _) rfl ?_
    exact ⟨⟨_,rfl⟩,.inr ⟨pre++[(k,ok)],trivial,hJx3⟩⟩
theorem kc_ {T:Nat→Option Syn.K}:∀(f i:Nat) (ops:List Nat) (j:Nat),Syn.unOps T f i=.ok (ops,j)→j=i+ops.length∧Syn.opOf T Syn.unL j=0∧∀n (h:n<ops.length),Syn.opOf T Syn.unL (i+n)=ops[n]∧ops[n]≠0
 | 0,_,_,_,h=>by cases h
 | f+1,i,ops,j,h=>by
  rw [Syn.unOps] at h
  split at h
  ·rename_i h0
   injection h with h;injection h with h1 h2
   subst h1;subst h2
   exact ⟨rfl,h0,fun n hn=>absurd hn (by simp)⟩
  ·rename_i h0
   obtain ⟨l1,i1,h1,h2⟩:=Syn.R.on_ok h
   injection h2 with h2;injection h2 with h3 h4
   subst h3;subst h4
   obtain ⟨a,b,c⟩:=kc_ f _ _ _ h1
   refine ⟨by rw [nlk];omega,b,fun n hn=>?_⟩
   cases n with
   | zero=>exact ⟨rfl,h0⟩
   | succ n =>
    have:=c n (by simpa using hn)
    rw [show i+(n+1)=i+1+n by omega]
    exact this
theorem qv_ {ys:List It} {i:Nat} {ms:List (List Nat × Nat)} (h:Syn.opOf (Tk ys) ms i≠0):i<ys.length:=Syn.opOf_lt (ap_ ys) h
def unT (x:Nat × Nat):Syn.Tm:=⟨4,x.2,[]⟩
def nmCells (l:List Nat):List Value:=l.map fun (k:Nat)=>Value.int .i64 (k:Int)
def sLen:Value→Nat | .slice _ n _=>n | _=>0
theorem infoI:∃i,prog.info? 3=some i∧i.zero=some (.int .i64 0)∧i.size=1∧i.bytes=8:=by
 have h:(prog.info? 3).map (fun i=>(i.zero,i.size,i.bytes))=some (some (.int .i64 0),1,8):=by kernel_rfl
 cases hi:prog.info? 3 with
 | none=>rw [hi] at h;cases h
 | some i =>
  rw [hi] at h
  simp only [Option.map_some,Option.some.injEq,Prod.mk.injEq] at h
  obtain ⟨e1,e2,e3⟩:=h
  exact ⟨i,rfl,e1,e2,e3⟩
theorem nm_one (k:Nat):∀u∈[Value.int .i64 (k:Int)],u.oneCell'=true:=by
 intro u h
 obtain rfl:u=Value.int .i64 (k:Int):=by simpa using h
 rfl
theorem ow_ {w:World} {B n c:Nat} {q:Option Addr} {ops:List Nat} (h:w.ownsRow B 3 1 (.slice q n c) n (nmCells ops)):NumsAt w q ops:=by
 intro j hj
 have hl:=h.1
 rw [nmCells,nld,Nat.mul_one] at hl
 rcases h.2 with ⟨_,h0⟩|⟨g,cap,cur,h0,_,hg,_,_,_,ht⟩
 ·omega
 ·simp only [Value.slice.injEq,true_and] at h0
  obtain ⟨rfl,rfl⟩:=h0
  refine ⟨g,cur,rfl,hg,?_⟩
  have:=congrArg (fun l=>l[j]?) ht
  simp only [List.getElem?_take,nmCells,List.getElem?_map,List.getElem?_eq_getElem hj,Option.map_some] at this
  rw [if_pos (by omega)] at this
  simpa using this
theorem bm_ {X Y:World} {row:Option Nat} (hg:X.grownBy Y row) (hr:∀r,row=some r→∃o:Obj,X.heap[r]?=some o∧o.isCells=false) {k:Nat} {arr:Array Value} {T:TypeId} {fr:Nat × Nat} (h:X.heap[k]?=some (.cells arr T fr)):Y.heap[k]?=some (.cells arr T fr):=by
 refine (hg.block k (heap_lt h) (fun e=>?_)).trans h
 obtain ⟨o,ho,hc⟩:=hr k e.symm
 rw [h] at ho;cases ho;cases hc
theorem v9_ {X Y:World} {row:Option Nat} (hg:X.grownBy Y row) (hr:∀r,row=some r→∃o:Obj,X.heap[r]?=some o∧o.isCells=false) {B n size:Nat} {E:TypeId} {v:Value} {xs:List Value} (h:X.ownsRow B E size v n xs):Y.ownsRow B E size v n xs:=by
 refine ⟨h.1,?_⟩
 rcases h.2 with h0|⟨g,cap,cur,rfl,hb,hgg,rest⟩
 ·exact .inl h0
 ·exact .inr ⟨g,cap,cur,rfl,hb,bm_ hg hr hgg,rest⟩
theorem PS.grown {ys:List It} {len bp bw i:Nat} {vp:Value} {X Y:World} {row:Option Nat} (h:PS ys len bp bw vp X i) (hg:X.grownBy Y row) (hr:∀r,row=some r→∃o:Obj,X.heap[r]?=some o∧o.isCells=false):PS ys len bp bw vp Y i:=by
 obtain ⟨⟨c,a1,a2⟩,⟨arr,b1,b2⟩,h3,h4⟩:=h
 exact ⟨⟨c,bm_ hg hr a1,a2⟩,⟨arr,bm_ hg hr b1,b2⟩,h3,h4⟩
structure UI (ys:List It) (len bp bw:Nat) (vp:Value) (l0:List Syn.Tm) (v:Value) (w w7:World) (b0 Bx j:Nat) (q:Option Addr) (pre:List (Nat × Nat)) (W:World):Prop where
 box:∃q' c',W.heap[b0]?=some (.cells #[.slice q' (l0.length+pre.length) c'] 37 (0,0))∧TR W (.slice q' (l0.length+pre.length) c') (l0++pre.map unT)∧∀k,Value.ownBlock (.slice q' (l0.length+pre.length) c')=some k→v.ownBlock=some k∨w.heap.size≤k
 ps:PS ys len bp bw vp W j
 chg:Chg (TS bp v) w W
 kp:KpB Bx q w7 W
theorem UI.own {ys:List It} {len bp bw:Nat} {vp:Value} {l0:List Syn.Tm} {v:Value} {w w7:World} {b0 Bx j:Nat} {q:Option Addr} {B:Nat} (hB:w.heap.size≤B) {f0:Value} (h7:w7.heap[Bx]?=some (.cells #[f0] 67 (0,0))) (hq:∀a,q=some a→∃cur,w7.heap[a.block]?=some (.cells cur 3 (0,0))) :
 OwnFrom B (UI ys len bp bw vp l0 v w w7 b0 Bx j q):=by
 intro pre X Y row h hg hr
 have hr2:=fun r e=>(hr r e).2
 obtain ⟨q',c',a1,a2,a3⟩:=h.box
 refine ⟨⟨q',c',bm_ hg hr2 a1,v9_ hg hr2 a2,a3⟩,h.ps.grown hg hr2,h.chg.trans (a1_ (S:=fun k=>row=some k) hg (fun k e=>.inl e)) (fun k e=>.inr (by have:=(hr k e).1;omega)),?_⟩
 refine ⟨?_,fun a ha=>?_⟩
 ·rw [h7];exact bm_ hg hr2 (h.kp.1.trans h7)
 ·obtain ⟨cur,hc⟩:=hq a ha
  rw [hc];exact bm_ hg hr2 ((h.kp.2 a ha).trans hc)
theorem kp_b {Bx:Nat} {q:Option Addr} {w:World} (h1:Bx<w.heap.size) (h2:∀a,q=some a→a.block<w.heap.size) (W:World) (l:Nat) (o o':Obj) (hl:w.heap.size≤l) (_:W.heap[l]?=some o) (_:o.isCells=false) (_:o.isWalk=false):KpB Bx q W (W.putObj l o') :=
 ⟨World.putObj_heap_other (by omega),fun a ha=>World.putObj_heap_other (by have:=h2 a ha;omega)⟩
theorem kp_t {Bx:Nat} {q:Option Addr} {A B C:World} (h:KpB Bx q A B) (k:KpB Bx q B C):KpB Bx q A C:=⟨k.1.trans h.1,fun a ha=>(k.2 a ha).trans (h.2 a ha)⟩
theorem kp_back {Bx:Nat} {q:Option Addr} {A B C:World} (h:KpB Bx q A B) (k:KpB Bx q A C):KpB Bx q B C:=⟨k.1.trans h.1.symm,fun a ha=>(k.2 a ha).trans (h.2 a ha).symm⟩
theorem UI.round {ys:List It} {len bp bw:Nat} {vp:Value} {l0:List Syn.Tm} {v:Value} {w w7:World} {b0 Bx j:Nat} {q:Option Addr} {pre:List (Nat × Nat)} {W:World} (h:UI ys len bp bw vp l0 v w w7 b0 Bx j q pre W) (x:Nat × Nat) (hb0:w.heap.size≤b0)
 {f0:Value} (h7:w7.heap[Bx]?=some (.cells #[f0] 67 (0,0))) (hq:∀a,q=some a→∃cur,w7.heap[a.block]?=some (.cells cur 3 (0,0)))
 {q1:Option Addr} {c1:Nat} (hv1:W.heap[b0]?=some (.cells #[.slice q1 (l0.length+pre.length) c1] 37 (0,0))) (T:TypeId) {v':Value} {w9:World}
 (hown:w9.ownsRow 0 45 3 v' (l0.length+pre.length+1) (tmCells (l0++pre.map unT)++tmC (unT x))) (hg:(W.alloc (.cells (tmC (unT x)).toArray T)).grownBy w9 (Value.ownBlock (.slice q1 (l0.length+pre.length) c1))) (hat:v'.ownBlock=Value.ownBlock (.slice q1 (l0.length+pre.length) c1)∨v'.ownBlock=some (W.heap.size+1)) :
 w9.heap[b0]?=some (.cells #[.slice q1 (l0.length+pre.length) c1] 37 (0,0))∧UI ys len bp bw vp l0 v w w7 b0 Bx j q (pre++[x]) (w9.setCell ⟨b0,0,none⟩ v')∧KeepsOthers W (w9.setCell ⟨b0,0,none⟩ v')∧KpB Bx q W (w9.setCell ⟨b0,0,none⟩ v'):=by
 obtain ⟨q',c',a1,a2,a3⟩:=h.box
 have e1:=a1.symm.trans hv1
 simp only [Option.some.injEq,Obj.cells.injEq,Array.mk.injEq,List.cons.injEq,Value.slice.injEq,and_true,true_and] at e1
 obtain ⟨rfl,rfl⟩:=e1
 clear a1
 have hl:(l0++pre.map unT).length=l0.length+pre.length:=by rw [nla,nld]
 obtain ⟨t1,t2,t3,t4⟩:=nh_ (t:=unT x) h.ps a2 T (by rw [hl];exact hown) hg hat
 have hnb:∀(k:Nat) (arr:Array Value) (E:TypeId),W.heap[k]?=some (.cells arr E (0,0))→E≠45→Value.ownBlock (.slice q' (l0.length+pre.length) c')≠some k:=by
  intro k arr E hk hE e
  obtain ⟨cur,hc⟩:=av_ a2 e
  rw [hk] at hc
  simp only [Option.some.injEq,Obj.cells.injEq] at hc
  exact hE hc.2.1
 have hC:Chg (fun k=>Value.ownBlock (.slice q' (l0.length+pre.length) c')=some k) W w9:=((Chg.refl _ W).alloc _).then (a1_ hg (fun k hk=>.inl hk))
 have hb9:=hC.heap hv1 (hnb _ _ _ hv1 (by decide))
 have hset:=ao_ hb9 0 v'
 have hx:=a0_ (w:=w9) (w':=w9.setCell ⟨b0,0,none⟩ v') t1 (S:=fun k=>k=b0) ((Chg.refl (fun k=>k=b0) w9).setCell (p:=⟨b0,0,none⟩) (.inl rfl) v') (fun k hk e=>by
  subst e
  obtain ⟨cur,hc⟩:=av_ t1 hk
  rw [hb9] at hc
  simp at hc)
 obtain ⟨qq,cc,hvv⟩:=ah_ hown
 have hK:∀(k:Nat) (arr:Array Value) (E:TypeId),W.heap[k]?=some (.cells arr E (0,0))→E≠45→E≠37→(w9.setCell ⟨b0,0,none⟩ v').heap[k]?=W.heap[k]?:=by
  intro k arr E hk hE hE2
  have h9:=hC.heap hk (hnb k arr E hk hE)
  rw [bh_ h9 (fun e=>by subst e;rw [hb9] at h9;simp only [Option.some.injEq,Obj.cells.injEq] at h9;exact hE2 h9.2.1.symm),hk]
 have hkp:KpB Bx q w7 (w9.setCell ⟨b0,0,none⟩ v'):=by
  refine ⟨?_,fun a ha=>?_⟩
  ·rw [hK Bx _ _ (h.kp.1.trans h7) (by decide) (by decide)];exact h.kp.1
  ·obtain ⟨cur,hc⟩:=hq a ha
   rw [hK a.block _ _ ((h.kp.2 a ha).trans hc) (by decide) (by decide)];exact h.kp.2 a ha
 refine ⟨hb9,⟨⟨qq,cc,?_,?_,?_⟩,?_,?_,hkp⟩,?_,kp_back h.kp hkp⟩
 ·rw [nla,nlc,←Nat.add_assoc,←hvv];exact hset
 ·rw [List.map_append,List.map_singleton,←nlb,nla,nlc,←Nat.add_assoc,←hvv];exact hx
 ·rw [nla,nlc,←Nat.add_assoc,←hvv]
  intro k hk
  have hsz:=h.chg.size
  rcases t4 k hk with e|e
  ·exact a3 k e
  ·exact .inr (by omega)
 ·exact t2.chg (S:=fun k=>k=b0) ((Chg.refl (fun k=>k=b0) w9).setCell (p:=⟨b0,0,none⟩) (.inl rfl) v') (fun e=>by
   obtain ⟨⟨c,p1,_⟩,_⟩:=t2
   rw [e,hb9] at p1;simp at p1) (fun e=>by
   obtain ⟨_,⟨arr,p1,_⟩,_⟩:=t2
   rw [e,hb9] at p1;simp at p1)
 ·refine (h.chg.trans hC (fun k hk=>?_)).setCell (p:=⟨b0,0,none⟩) (.inr hb0) _
  rcases a3 k hk with e|e
  ·exact .inl (.inr e)
  ·exact .inr e
 ·refine ((KeepsOthers.alloc W _).trans (KeepsOthers.of_grownBy hg fun j o e ho=>?_)).trans (KeepsOthers.setCell _ _ _)
  obtain ⟨cur,hc⟩:=av_ (a2.alloc (.cells (tmC (unT x)).toArray T)) e
  rw [hc] at ho;cases ho;rfl
attribute [local go_sem] Oper.semAt_some
theorem nl_ {T:Nat→Option Syn.K}:∀(f i:Nat) (c k:Nat),Syn.unOps T f i=.error (c,k)→c=99
 | 0,_,_,_,h=>by injection h with h;injection h with h _;exact h.symm
 | f+1,i,c,k,h=>by
  rw [Syn.unOps] at h
  split at h
  ·cases h
  ·cases hu:Syn.unOps T f (i+1) with
   | error q =>
    rw [hu] at h
    obtain ⟨c',k'⟩:=q
    injection h with h;injection h with h1 h2
    subst h1
    exact nl_ f _ _ _ hu
   | ok q=>rw [hu] at h;cases h
theorem cl_ {α β:Type} (x:α) (i:Nat) (f:α→Nat→Syn.R β):Syn.R.on (.ok (x,i)) f=f x i:=rfl
theorem nm_ (q:Option Addr) (n c:Nat) (w:World):Calls prog 197 #[.slice q n c] w fun e w'=>e=.returned (.func (.func 229) #[] #[.pointer (some ⟨w.heap.size,0,none⟩)])∧w'=w.alloc (.cells #[.slice q n c] 67):=by
 go_enter func197,ntmps197
 go_wp2
 go_ret
 exact ⟨rfl,rfl⟩
section
variable {ys:List It} {len bp bw i:Nat} {vp:Value} {w:World}
def US (ys:List It) (len bp bw:Nat) (vp:Value) (i:Nat) (ops:List Nat) (m:Nat) (o:Int) (t:Bool) (W:World):Prop :=
 (t=true∧(∃h:m<ops.length,o=(ops[m]:Nat))∧PS ys len bp bw vp W (i+(m+1)))∨(t=false∧m=ops.length∧o=0∧PS ys len bp bw vp W (i+m))
theorem us_any (hw:Ws ys) {ops:List Nat} (h0:Syn.opOf (Tk ys) Syn.unL (i+ops.length)=0) (hop:∀n (h:n<ops.length),Syn.opOf (Tk ys) Syn.unL (i+n)=ops[n]∧ops[n]≠0) {m:Nat} (hm:m≤ops.length) {W:World} (hp:PS ys len bp bw vp W (i+m)) :
 Calls prog 195 #[.pointer (some ⟨bp,0,none⟩)] W fun e W'=>∃o t,e=.returned (.tuple #[.int .i64 o,.bool t])∧Chg (fun k=>k=bp) W W'∧US ys len bp bw vp i ops m o t W':=by
 by_cases hlt:m<ops.length
 ·obtain ⟨h1,h2⟩:=hop m hlt
  have hi:=qv_ (by rw [h1];exact h2)
  refine (l0_ hw hp ops[m] h2 h1 hi).mono ?_
  rintro e W' ⟨rfl,hc,hp'⟩
  exact ⟨_,_,rfl,hc,.inl ⟨rfl,⟨hlt,rfl⟩,by rw [←Nat.add_assoc];exact hp'⟩⟩
 ·obtain rfl:m=ops.length:=by omega
  refine (ng_ hw hp h0).mono ?_
  rintro e W' ⟨rfl,rfl⟩
  exact ⟨_,_,rfl,Chg.refl _ _,.inr ⟨rfl,rfl,rfl,hp⟩⟩
theorem wa_ (hw:Ws ys) {d:Nat} {e:Option (Nat→Syn.R (List Syn.Tm))} (he:EOk ys len bp bw vp d e):RdT ys len bp bw vp 160 (fun v=>#[.pointer (some ⟨bp,0,none⟩),v,.int .i64 (d:Int)]) (fun _=>True) (Syn.unary (Tk ys) (ys.length+1) e):=by
 intro w i v l0 _ h hr hb
 obtain ⟨qv,cv,rfl⟩:=ah_ hr
 have hle:=h.le
 have hfit:=Syn.unOps_fit (ap_ ys) (ys.length+1) i h.le (by omega)
 rw [Syn.unary_atom]
 cases hu:Syn.unOps (Tk ys) (ys.length+1) i with
 | error q =>
  obtain ⟨c,k⟩:=q
  obtain rfl:=nl_ _ _ _ _ hu
  exact (hfit.no99 hu).elim
 | ok q =>
  obtain ⟨ops,i1⟩:=q
  obtain ⟨rfl,h0,hop⟩:=kc_ _ _ _ _ hu
  have hi1:i+ops.length≤ys.length:=hfit.pos hu
  have hlen:ops.length≤65536:=by have:=h.few;omega
  rw [cl_]
  have hpl:=v8_ (len:=len) (bp:=bp) (bw:=bw) (vp:=vp) hw he
  have HUS:=hid (fun m hm W hp=>us_any (len:=len) (bp:=bp) (bw:=bw) (vp:=vp) (W:=W) (m:=m) hw h0 hop hm hp)
  obtain ⟨i0,hi0,hz0,hz1,hz2⟩:=infoI
  obtain ⟨j0,hj0,hy0,hy1,hy2⟩:=infoTm
  obtain ⟨hlt,hlb⟩:=h.lt
  have hne:¬w.heap.size=bp:=by omega
  clear hfit hu h0 hop
  have HPL:=hid hpl
  have HH:=hid h
  have HR:=hid hr
  clear hpl h hr
  refine (callsIn_wide (n:=3)).1 ?_
  refine callsIn_of_wp_marks func160 rfl trivial ?_ rfl
  simp only [ntmps160,List.size_toArray,nlk,nlg,Nat.reduceAdd,Nat.reduceSub,Array.replicate_succ,Array.replicate_zero,List.push_toArray,List.append_toArray,List.nil_append,List.cons_append]
  gi_wp2
  refine ⟨trivial,?_⟩
  gi_at_call 195
  refine (callsIn_wide.2 (HUS.out 0 (Nat.zero_le _) _ (HH.out.alloc _))).mono ?_
  rintro e1 w1 ⟨o1,t1,rfl,hc1,hus1⟩
  have hC1:Chg (fun k=>k=bp) w w1:=((Chg.refl _ w).alloc _).then hc1
  have hbx1:=hc1.heap (nwn w (.cells #[.slice qv l0.length cv] 37)) hne
  have HUS1:=hid hus1
  clear hus1 hc1
  gi_wp2
  gi_loopw [7,8,9] (fun a b c wr=>∃m q' c' o t,m≤ops.length∧a=.slice q' m c'∧b=.int .i64 o∧c=.bool t∧Hid (wr.ownsRow (w.heap.size+1) 3 1 (.slice q' m c') m (nmCells (ops.take m)))∧Hid (US ys len bp bw vp i ops m o t wr)∧Chg (fun k=>k=bp) w wr∧wr.heap[w.heap.size]?=some (.cells #[.slice qv l0.length cv] 37 (0,0)))
   (fun a _ _ _=>ops.length+1 - sLen a)
  case atStart =>
   exact ⟨0,none,0,o1,t1,Nat.zero_le _,rfl,rfl,rfl,hid (World.ownsRow_nil _ _ _ _),HUS1,hC1,hbx1⟩
  case round =>
   obtain ⟨m,q',c',o,t,hm,rfl,rfl,rfl,hrow,hus,hC,hbx⟩:=hrel
   clear hC1 hbx1
   rcases hus.out with ⟨rfl,⟨hml,rfl⟩,hp⟩|⟨rfl,rfl,rfl,hp⟩
   ·have hrow':=hrow.out
    have hsz:=hC.size
    gi_wp2_with (gi_at_builtin;refine wpListIn_append_own_at _ rfl _ _ 67 rfl (w.heap.size+1) 3 i0 _ 1 8 Tryz.underlying67 hi0 hz0 hz1 hz2 rfl (by decide) _ _ _ rfl (hrow'.alloc _) ⟨wr.heap.size,0,none⟩ 1 1 [.int .i64 (ops[m]:Nat)] rfl rfl (be_ wr [_] 3) (nm_one _) (by unfold maxLen;omega) (by omega) (by have:=heap_lt hbx;simp;omega) ?_)
    intro v' w9 hown9 hgrow9 _ hat9
    obtain ⟨q2,c2,rfl⟩:=ah_ hown9
    have hS9:Chg (fun k=>w.heap.size+1≤k) wr w9:=((Chg.refl _ wr).alloc _).then (a1_ hgrow9 (fun k hk=>.inl (hrow'.lt k hk).1))
    have hC9:Chg (fun k=>k=bp) w w9:=hC.trans hS9 (fun k hk=>.inr (by omega))
    have hbx9:=hS9.heap hbx (by omega)
    have hp9:=hp.chg hS9 (by omega) (by omega)
    have hrow9:w9.ownsRow (w.heap.size+1) 3 1 (.slice q2 (m+1) c2) (m+1) (nmCells (ops.take (m+1))):=by
     rw [List.take_succ_eq_append_getElem hml]
     unfold nmCells at hown9 ⊢
     rw [List.map_append]
     exact hown9
    have HROW:=hid hrow9
    clear hown9 hgrow9 hat9 hrow' hrow hS9 hbx hp hus hrow9
    gi_wp2
    refine ⟨trivial,?_⟩
    gi_at_call 195
    refine (callsIn_wide.2 (HUS.out (m+1) hml _ hp9)).mono ?_
    rintro e2 w2 ⟨o2,t2,rfl,hc2,hus2⟩
    have HROW2:=hid (a0_ HROW.out hc2 (fun k hk e=>by have:=(HROW.out.lt k hk).1;omega))
    have HUS2:=hid hus2
    have hbx2:=hc2.heap hbx9 hne
    have hC2:=hC9.then hc2
    clear hus2 hc2 hp9 hbx9 hC9 HROW
    gi_wp2
    exact ⟨⟨m+1,q2,c2,o2,t2,hml,rfl,rfl,rfl,HROW2,HUS2,hC2,hbx2⟩,by simp [sLen];omega⟩
   ·have htr:=dc_ HH.out HR.out hC
    have hcall:=HPL.out wr (i+ops.length) _ l0 trivial hp htr (by omega)
    have hszr:=hC.size
    have hcell:=aa_ (j:=0) hbx rfl
    clear hus hm
    gi_wp2
    refine ⟨trivial,?_⟩
    gi_at_call 196
    refine (callsIn_wide.2 hcall).mono ?_
    rintro e2 w2 ⟨hc2,hq⟩
    have hC2:=hid ((jc_ (v:=.slice qv l0.length cv) hC).then hc2)
    have hb0r:¬TS bp (.slice qv l0.length cv) w.heap.size:=by
     rintro (e3|e3)
     ·exact hne e3
     ·obtain ⟨cur,h3⟩:=av_ htr e3
      rw [hbx] at h3;simp at h3
    have hbx2:=hc2.heap hbx hb0r
    have hrow2:=a0_ hrow.out hc2 (fun k hk e3=>by
     obtain ⟨cur,h3⟩:=av_ hrow.out hk
     rcases e3 with rfl|e3
     ·have:=(hrow.out.lt _ hk).1;omega
     ·obtain ⟨cur',h4⟩:=av_ htr e3
      rw [h3] at h4;simp at h4)
    have HROW2:=hid hrow2
    have hsz2:=hc2.size
    cases hat:Syn.atom (Tk ys) e (i+ops.length) with
    | error q =>
     obtain ⟨er,k⟩:=q
     rw [hat] at hq
     obtain rfl:=hq
     refine ⟨hC2.out,?_⟩
     rw [hat]
     exact rfl
    | ok q =>
     obtain ⟨l,j⟩:=q
     rw [hat] at hq
     obtain ⟨v2,rfl,htr2,hp2,hob2⟩:=hq
     obtain ⟨L,hL⟩:∃L,l0++l=L:=⟨_,rfl⟩
     rw [hL] at htr2
     obtain ⟨q3,c3,rfl⟩:=ah_ htr2
     have hj:=((Syn.atom_fit (ap_ ys) he.fit hi1).pos hat)
     have hcn:=Syn.atom_cnt he.cnt _ _ _ hat
     have hLn:L.length+ops.length≤131072:=by rw [←hL,nla];omega
     have HL:=hid hL
     clear hL
     have HAT:=hid hat
     have HTR2:=hid htr2
     have hc2b:=aa_ (j:=0) hbx2 rfl
     have hf2b:=ag_ (j:=0) hbx2
     have HP2:=hid hp2
     have HOB2:=hid hob2
     have HBX2:=hid hbx2
     clear hat htr2 hp2 hob2 hbx2 hc2 hrow2 hrow hbx hp htr hcell hC
     gi_wp2
     refine ⟨trivial,?_⟩
     gi_at_call 197
     refine (callsIn_wide.2 (nm_ _ _ _ _)).mono ?_
     rintro e3 w3 ⟨rfl,rfl⟩
     gi_wp2_with fail
     have hCs:Chg (fun k=>k=w.heap.size) w2 (w2.setCell ⟨w.heap.size,0,none⟩ (.slice q3 L.length c3)):=(Chg.refl (fun k=>k=w.heap.size) w2).setCell (p:=⟨w.heap.size,0,none⟩) (.inl rfl) _
     have hrow7:=(a0_ (HROW2.out) hCs (fun k hk e3=>by have:=(HROW2.out.lt k hk).1;omega)).alloc (.cells #[.slice q' ops.length c'] 67)
     have htr7:=(a0_ HTR2.out hCs (fun k hk e3=>by
      obtain ⟨cur,h3⟩:=av_ HTR2.out hk
      rw [e3,HBX2.out] at h3;simp at h3)).alloc (.cells #[.slice q' ops.length c'] 67)
     have hps7:=(HP2.out.chg hCs (fun e3=>by omega) (fun e3=>by omega)).alloc (.cells #[.slice q' ops.length c'] 67)
     have hbx7:=ad_ _ (.cells #[.slice q' ops.length c'] 67) (ao_ HBX2.out 0 (.slice q3 L.length c3))
     have hC7:=((hC2.out).trans hCs (fun k hk=>.inr (by omega))).alloc (.cells #[.slice q' ops.length c'] 67)
     have hBx7:=nwn (w2.setCell ⟨w.heap.size,0,none⟩ (.slice q3 L.length c3)) (.cells #[.slice q' ops.length c'] 67)
     rw [show (w2.setCell ⟨w.heap.size,0,none⟩ (.slice q3 L.length c3)).heap.size=w2.heap.size from by simp [World.setCell]] at hBx7
     have hbl:w.heap.size<w2.heap.size:=heap_lt HBX2.out
     have hsz7:w2.heap.size<((w2.setCell ⟨w.heap.size,0,none⟩ (.slice q3 L.length c3)).alloc (.cells #[.slice q' ops.length c'] 67)).heap.size:=heap_lt hBx7
     generalize ((w2.setCell ⟨w.heap.size,0,none⟩ (.slice q3 L.length c3)).alloc (.cells #[.slice q' ops.length c'] 67))=w7 at *
     rw [List.take_length] at hrow7
     have hN7:=ow_ hrow7
     have hq7:∀a,q'=some a→∃cur,w7.heap[a.block]?=some (.cells cur 3 (0,0)):=fun a ha=>av_ hrow7 (by rw [ha];rfl)
     have hui:UI ys len bp bw vp L (.slice qv l0.length cv) w w7 w.heap.size w2.heap.size j q' [] w7:=by
      refine ⟨⟨q3,c3,hbx7,?_,fun k hk=>?_⟩,hps7,hC7,rfl,fun _ _=>rfl⟩
      ·rw [List.map_nil,List.append_nil];exact htr7
      ·rcases HOB2.out k hk with e3|e3
       ·exact .inl e3
       ·exact .inr (by omega)
     have hown:=UI.own (ys:=ys) (len:=len) (bp:=bp) (bw:=bw) (vp:=vp) (l0:=L) (v:=.slice qv l0.length cv) (w:=w) (w7:=w7) (b0:=w.heap.size) (Bx:=w2.heap.size) (j:=j) (q:=q') (B:=w7.heap.size) (by omega) hBx7 hq7
     have hqlt:∀a,q'=some a→a.block<w7.heap.size:=fun a ha=>by obtain ⟨cur,hc⟩:=hq7 a ha;exact heap_lt hc
     have HOWN:=hid hown
     have HQ7:=hid hq7
     have HBX7:=hid hBx7
     clear hown hCs hrow7 htr7 hps7 hbx7 hC7
     refine wpIn_rangeFunc_ownF rfl (by omega) (gf:=229) (lb:=#[.pointer (some ⟨w2.heap.size,0,none⟩)]) rfl trivial (enters_of func229 (by kernel_rfl) rfl)
      (r9_ (3 - 1) w2.heap.size q' c' ops (by omega) w7 hBx7 hN7) (fun h k=>kp_t h k) (kp_b hsz7 hqlt) (Below.refl _ _) (fun _=>rfl)
      (UI ys len bp bw vp L (.slice qv l0.length cv) w w7 w.heap.size w2.heap.size j q') (fun _ _ _=>False) HOWN.out (fun _ _ _ _ _ hs _ _=>hs) hui
      (fun x=>{ tmps:=#[.pointer (some ⟨bp,0,none⟩),.slice qv l0.length cv,.int .i64 (d:Int),undef,.pointer (some ⟨w.heap.size,0,none⟩),undef,.slice none 0 0,.slice q' ops.length c',.int .i64 0,.bool false,undef,.int .i64 (x.2:Int),.tuple #[.int .i64 o1,.bool t1],.pointer (some ⟨bp,0,none⟩),.tuple #[.int .i64 o1,.bool t1],.int .i64 o1,.bool t1,.bool false,u18,u19,u20,u21,u22,u23,u24,u25,u26,.pointer (some ⟨bp,0,none⟩),.slice qv l0.length cv,.int .i64 (d:Int),.slice q3 L.length c3,.slice q' ops.length c',.func (.func 229) #[] #[.pointer (some ⟨w2.heap.size,0,none⟩)],.int .i64 (x.1:Int),.int .i64 (x.2:Int),undef,undef,undef,undef,undef,undef],defers:=[] }) ?assign ?body ?done ?stop
     case assign =>
      intro l x W K hK
      gi_wp2
      exact hK
     case body =>
      rintro l pre x W hI hlt2
      obtain ⟨q1,c1,a1,a2,a3⟩:=hI.box
      have hR:=hid (fun v' w9=>hI.round x (Nat.le_refl _) HBX7.out HQ7.out a1 45 (v':=v') (w9:=w9))
      have a2':W.ownsRow 0 45 3 (.slice q1 (L.length+pre.length) c1) (L.length+pre.length) (tmCells (L++pre.map unT)):=by
       unfold TR at a2
       rwa [nla,nld] at a2
      have hnew:=ni_ W (unT x) 45
      have hone:=nj_ (unT x)
      rw [show tmC (unT x)=[.int .i64 4,.int .i64 (x.2:Int),.string ⟨#[]⟩] from rfl] at hnew hone
      have hcell:=aa_ (j:=0) a1 rfl
      have hpre:pre.length<ops.length:=hlt2
      clear a1 a2 a3 hI hui hN7 hq7 hBx7
      gi_wp2_with (gi_at_builtin;refine wpListIn_append_own_at _ rfl _ _ 37 rfl 0 45 j0 _ 3 32 Tryz.underlying37 hj0 hy0 hy1 hy2 rfl (by decide) _ _ _ rfl (a2'.alloc _) ⟨W.heap.size,0,none⟩ 1 1 [.int .i64 4,.int .i64 (x.2:Int),.string ⟨#[]⟩] rfl rfl hnew hone (by unfold maxLen;omega) (by omega) (Nat.zero_le _) ?_)
      intro v' w9 hown9 hgrow9 _ hat9
      obtain ⟨b1,b2,b3,b4⟩:=hR.out v' w9 hown9 hgrow9 hat9
      obtain ⟨qq,cc,rfl⟩:=ah_ hown9
      have hc9:=aa_ (j:=0) b1 rfl
      have hf9:=ag_ (j:=0) b1
      have B2:=hid b2
      clear hown9 hgrow9 hat9 b1 b2 hcell a2' hnew hone
      gi_wp2
      exact ⟨b3,b4,B2.out⟩
     case done =>
      rintro D xs W hD hS hI hK
      obtain ⟨q1,c1,a1,a2,a3⟩:=hI.box
      have hcell:=aa_ (j:=0) a1 rfl
      have hI2:=hid (HOWN.out.putObj (.deferred none) hI hD hK rfl)
      have HS:=hid hS
      have hb0D:=bm_ (grownBy_putObj' W D (.deferred none)) (fun r e=>by cases e;exact ⟨_,hK,rfl⟩) a1
      have HB0D:=hid hb0D
      clear a1 a2 a3 hI hui hN7 hq7 hBx7 hS hb0D
      gi_wp2
      refine ⟨by simp,.inl ⟨_,_,rfl,run_takeDeferred hK,?_⟩⟩
      obtain ⟨q2,c2,d1,d2,d3⟩:=hI2.out.box
      have e0:=HB0D.out.symm.trans d1
      simp only [Option.some.injEq,Obj.cells.injEq,Array.mk.injEq,List.cons.injEq,Value.slice.injEq,and_true,true_and] at e0
      obtain ⟨rfl,rfl⟩:=e0
      refine ⟨_,results_tmp rfl _ _ _,?_⟩
      rw [HAT.out]
      refine ⟨hI2.out.chg,_,rfl,?_,hI2.out.ps,?_⟩
      ·have e1:(l0++(l++List.map (fun o=>(⟨4,o,[]⟩:Syn.Tm)) ops.reverse))=L++xs.map unT:=by
        rw [←HL.out,←HS.out,List.map_map,nlb];rfl
       rw [e1]
       exact d2
      ·exact d3
     case stop =>
      rintro D cc pre W _ _ h _
      exact h.elim
end
def BX (b1 b2 bp d:Nat) (W:World):Prop:=W.heap[b1]?=some (.cells #[.pointer (some ⟨bp,0,none⟩)] 95 (0,0))∧W.heap[b2]?=some (.cells #[.int .i64 (d:Int)] 3 (0,0))
section
variable {ys:List It} {len bp bw i:Nat} {vp:Value} {w:World}
theorem ts_not (h:PS ys len bp bw vp w i) {v:Value} {l:List Syn.Tm} (hr:TR w v l) {k:Nat} {arr:Array Value} {E:TypeId} (hk:w.heap[k]?=some (.cells arr E (0,0))) (h1:E≠153) (h2:E≠45):¬TS bp v k:=by
 rintro (e|e)
 ·subst e
  obtain ⟨⟨c,a1,_⟩,_⟩:=h
  rw [hk] at a1
  simp only [Option.some.injEq,Obj.cells.injEq] at a1
  exact h1 a1.2.1
 ·obtain ⟨cur,hc⟩:=av_ hr e
  rw [hk] at hc
  simp only [Option.some.injEq,Obj.cells.injEq] at hc
  exact h2 hc.2.1
theorem BX.chg {b1 b2 d:Nat} (hx:BX b1 b2 bp d w) (h:PS ys len bp bw vp w i) {v:Value} {l:List Syn.Tm} (hr:TR w v l) {w':World} (hc:Chg (TS bp v) w w'):BX b1 b2 bp d w' :=
 ⟨hc.heap hx.1 (ts_not h hr hx.1 (by decide) (by decide)),hc.heap hx.2 (ts_not h hr hx.2 (by decide) (by decide))⟩
theorem ox_ {b1 b2 d:Nat} {r:Nat→Syn.R (List Syn.Tm)} (hR:RdT ys len bp bw vp 160 (fun v=>#[.pointer (some ⟨bp,0,none⟩),v,.int .i64 (d:Int)]) (fun _=>True) r) :
 RdT ys len bp bw vp 159 (fun v=>#[v,.pointer (some ⟨b1,0,none⟩),.pointer (some ⟨b2,0,none⟩)]) (BX b1 b2 bp d) r:=by
 intro w i v l0 hx h hr hb
 obtain ⟨qv,cv,rfl⟩:=ah_ hr
 have hcall:=hR w i _ l0 trivial h hr hb
 have hc1:=aa_ (j:=0) hx.1 rfl
 have hc2:=aa_ (j:=0) hx.2 rfl
 clear hR
 cases hri:r i with
 | error q =>
  rw [hri] at hcall
  have HRI:=hid hri
  clear hri
  go_enter func159,ntmps159
  go_wp2_with (go_at_call 160;refine hcall.mono ?_;rintro e w1 ⟨hc,rfl⟩)
  exact ⟨rfl,hc,rfl⟩
 | ok q =>
  rw [hri] at hcall
  have HRI:=hid hri
  clear hri
  go_enter func159,ntmps159
  go_wp2_with (go_at_call 160;refine hcall.mono ?_;rintro e w1 ⟨hc,v',rfl,a1,a2,a3⟩)
  go_ret
  exact ⟨hc,v',rfl,a1,a2,a3⟩
theorem wb_ {b1 b2 d:Nat} {r:Nat→Syn.R (List Syn.Tm)} (hR:RdT ys len bp bw vp 159 (fun v=>#[v,.pointer (some ⟨b1,0,none⟩),.pointer (some ⟨b2,0,none⟩)]) (BX b1 b2 bp d) r) :
 RdT ys len bp bw vp 158 (fun v=>#[.pointer (some ⟨bp,0,none⟩),.int .i64 6,v,.func (.func 159) #[] #[.pointer (some ⟨b1,0,none⟩),.pointer (some ⟨b2,0,none⟩)]]) (BX b1 b2 bp d) r:=by
 intro w i v l0 hx h hr hb
 obtain ⟨qv,cv,rfl⟩:=ah_ hr
 have hcall:=hR w i _ l0 hx h hr hb
 clear hR
 cases hri:r i with
 | error q =>
  rw [hri] at hcall
  have HRI:=hid hri
  clear hri
  go_enter func158,ntmps158
  go_wp2_with (go_at_call 159;refine hcall.mono ?_;rintro e w1 ⟨hc,rfl⟩)
  exact ⟨rfl,hc,rfl⟩
 | ok q =>
  rw [hri] at hcall
  have HRI:=hid hri
  clear hri
  go_enter func158,ntmps158
  go_wp2_with (go_at_call 159;refine hcall.mono ?_;rintro e w1 ⟨hc,v',rfl,a1,a2,a3⟩)
  go_ret
  exact ⟨hc,v',rfl,a1,a2,a3⟩
def Ob (v:Value) (w:World) (v':Value):Prop:=∀k,v'.ownBlock=some k→v.ownBlock=some k∨w.heap.size≤k
theorem Ob.ts {v v':Value} {w:World} (h:Ob v w v') {bp:Nat}:∀k,TS bp v' k→TS bp v k∨w.heap.size≤k:=by
 rintro k (e|e)
 ·exact .inl (.inl e)
 ·rcases h k e with q|q
  ·exact .inl (.inr q)
  ·exact .inr q
theorem Ob.trans {v v' v'':Value} {w w':World} (h:Ob v w v') (h':Ob v' w' v'') (hw:w.heap.size≤w'.heap.size):Ob v w v'':=fun k hk=>by
 rcases h' k hk with q|q
 ·exact h k q
 ·exact .inr (by omega)
theorem sa_ (hw:Ws ys) {b1 b2 d:Nat} {p:Nat→Syn.R (List Syn.Tm)} (hcnt:Syn.Cnt p) (hfit:Syn.FitP ys.length p) (l:Nat) (hl:l≤5)
 (hR:RdT ys len bp bw vp 158 (fun v=>#[.pointer (some ⟨bp,0,none⟩),.int .i64 ((l:Int)+1),v,.func (.func 159) #[] #[.pointer (some ⟨b1,0,none⟩),.pointer (some ⟨b2,0,none⟩)]]) (BX b1 b2 bp d) p) :
 RdT ys len bp bw vp 158 (fun v=>#[.pointer (some ⟨bp,0,none⟩),.int .i64 (l:Int),v,.func (.func 159) #[] #[.pointer (some ⟨b1,0,none⟩),.pointer (some ⟨b2,0,none⟩)]]) (BX b1 b2 bp d)
  (fun i=>(p i).on fun l1 j=>Syn.loopF (Tk ys) p (Syn.marks l) (ys.length+1) l1 j):=by
 intro w i v l0 hx h hr hb
 obtain ⟨qv,cv,rfl⟩:=ah_ hr
 have hcall:=hR w i _ l0 hx h hr hb
 have hle:=h.le
 have HX:=hid hx
 have HH:=hid h
 have HTR:=hid hr
 have HR:=hid hR
 obtain ⟨j0,hj0,hy0,hy1,hy2⟩:=infoTm
 show Calls _ _ _ _ (Ret ys len _ w ((p i).on _) _)
 cases hri:p i with
 | error q =>
  rw [hri] at hcall
  have HRI:=hid hri
  clear hri hR hx h hr
  go_enter func158,ntmps158
  go_wp2_with (go_at_call 158;refine hcall.mono ?_;rintro e w1 ⟨hc,rfl⟩)
  exact ⟨rfl,hc,rfl⟩
 | ok q =>
  obtain ⟨l1,i1⟩:=q
  rw [hri] at hcall
  rw [cl_]
  have hi1:i1≤ys.length:=(hfit i hle).1.pos hri
  have hc1:=hcnt _ _ _ hri
  have hlf:=Syn.loop_fit (ap_ ys) hfit (Syn.marks l) (ys.length+1) l1 i1 hi1 (by omega)
  obtain ⟨RR,hRR⟩:∃RR,Syn.loopF (Tk ys) p (Syn.marks l) (ys.length+1) l1 i1=RR:=⟨_,rfl⟩
  rw [hRR] at hlf ⊢
  have HRR:=hid hRR
  have HLF:=hid hlf
  clear hri hR hx h hr hRR hlf
  go_enter func158,ntmps158
  go_wp2_with (go_at_call 158;refine hcall.mono ?_;rintro e w1 ⟨hc,v1,rfl,a1,a2,a3⟩)
  obtain ⟨L1,hL1⟩:∃L,l0++l1=L:=⟨_,rfl⟩
  rw [hL1] at a1
  obtain ⟨q1,c1,rfl⟩:=ah_ a1
  have hb1:L1.length+(ys.length - i1)≤131072:=by rw [←hL1,nla];omega
  have HL1:=hid hL1
  have A1:=hid a1
  have A3:=hid (show Ob (.slice qv l0.length cv) w (.slice q1 L1.length c1) from a3)
  clear hL1 hcall a1 a3
  go_loopw [2] (fun a wr=>∃f l2 L i2 q c,i2≤ys.length∧L.length+(ys.length - i2)≤131072∧Hid (L=l0++l2)∧Hid (Syn.loopF (Tk ys) p (Syn.marks l) f l2 i2=RR)∧a=.slice q L.length c∧Hid (TR wr (.slice q L.length c) L)∧PS ys len bp bw vp wr i2∧Chg (TS bp (.slice qv l0.length cv)) w wr∧Hid (Ob (.slice qv l0.length cv) w (.slice q L.length c)))
   (fun a _=>140000 - sLen a)
  case atStart=>exact ⟨ys.length+1,l1,L1,i1,q1,c1,hi1,hb1,hid HL1.out.symm,HRR,rfl,A1,a2,hc,A3⟩
  case round =>
   obtain ⟨f,l2,L,i2,q2,c2,hi2,hb2,HL,HF,rfl,HT,hp2,hC2,HO⟩:=hrel
   clear hc a2 hb1 hi1 hc1
   cases f with
   | zero=>exact (HLF.out.no99 (j:=i2) (by rw [←HF.out];rfl)).elim
   | succ f =>
    obtain ⟨n,hn,hcase⟩:=bysign2 (tk ys len i2).t
    have hbs:=gx_ _ _ _ hn wr
    have hop:=i9_ hw len i2 (y2_ l)
    obtain ⟨cc,h0,hfz,hcc,hcc2,r1,r2,r3,r4⟩:=hp2.raw
    have hm:0<ys.length+1 - i2:=by omega
    have HP2:=hid hp2
    clear hfz hcc hcc2 r1 r3 r4 hn
    have hend:Syn.opOf (Tk ys) (Syn.marks l) i2=0→RR=.ok (l2,i2):=fun e=>by
     rw [←HF.out,Syn.loopF,if_pos e]
    rcases hcase with ⟨rfl,hz⟩|⟨hn1,hn2,hz⟩
    ·have HRe:=hid (hend (by rw [hop,hz l]))
     rw [show bsV 18=.tuple #[.int .i64 0,.bool false] from rfl] at hbs
     clear hz hop hend hp2
     generalize ys.length+1 - i2=m at *
     generalize 4*i2=o at *
     go_wp2_with (go_at_call 193;refine hbs.mono ?_;rintro e w' ⟨rfl,rfl⟩)
     go_ret
     rw [HRe.out]
     exact ⟨hC2,_,rfl,by rw [←HL.out];exact HT.out,HP2.out,HO.out⟩
    ·have hlv:=ou_ n hn1 hn2
     rw [show bsV n=.tuple #[.int .i64 (n:Nat),.bool true] from if_neg (by omega)] at hbs
     have hz':=hz l hl
     clear hz
     by_cases hll:Syn.lvlOf n=l
     ·rw [if_pos hll] at hz'
      have hopn:Syn.opOf (Tk ys) (Syn.marks l) i2=n:=by rw [hop,hz']
      have hlt:i2<ys.length:=qv_ (by rw [hopn];omega)
      have hne:(((Syn.lvlOf n:Nat):Int) != (l:Int))=false:=by rw [hll];simp
      have hgo:(p (i2+1)).on (fun r j=>Syn.loopF (Tk ys) p (Syn.marks l) f (l2++r++[⟨5,n,[]⟩]) j)=RR:=by
       rw [←HF.out,Syn.loopF,if_neg (by rw [hopn];omega),hopn]
      have hTk:=hid (gv_ hp2 hlt)
      have HGO:=hid hgo
      have HZ:w.heap.size≤wr.heap.size:=hC2.size
      have HTN:=hid (fun w3 (hc3:Chg (fun k=>k=bp) wr w3) (hp3:PS ys len bp bw vp w3 (i2+1)) =>
       HR.out w3 (i2+1) _ L (HX.out.chg HH.out HTR.out (hC2.then (jc_ hc3))) hp3 (dc_ HP2.out HT.out hc3) (by omega))
      clear hz' hop hend hp2 hgo hopn
      generalize ys.length+1 - i2=m at *
      generalize 4*i2=o at *
      go_wp2_with (first|(go_at_call 193;refine hbs.mono ?_;rintro e w' ⟨rfl,rfl⟩)|(go_at_call 194;refine (hlv _).mono ?_;rintro e w' ⟨rfl,rfl⟩))
      go_at_call 146
      refine hTk.out.mono ?_
      rintro e w3 ⟨rfl,hc3,hp3⟩
      have hcall3:=HTN.out w3 hc3 hp3
      have hsz3:=hc3.size
      have HC3:=hid (hC2.then (jc_ (v:=.slice qv l0.length cv) hc3))
      clear hc3 HTN
      cases hri3:p (i2+1) with
      | error q =>
       obtain ⟨er,k⟩:=q
       rw [hri3] at hcall3
       have HRe:=hid (show RR=.error (er,k) from by rw [←HGO.out,hri3];rfl)
       clear hri3
       go_wp2_with (go_at_call 158;refine hcall3.mono ?_;rintro e w4 ⟨hc4,rfl⟩)
       refine ⟨rfl,?_⟩
       rw [HRe.out]
       exact ⟨HC3.out.trans hc4 (fun k e=>by rcases HO.out.ts k e with q|q <;> first|exact .inl q|exact .inr q),rfl⟩
      | ok q =>
       obtain ⟨r,j⟩:=q
       rw [hri3] at hcall3
       have hj:j≤ys.length:=(hfit (i2+1) hlt).1.pos hri3
       have hcr:=hcnt _ _ _ hri3
       have HRe:=hid (show Syn.loopF (Tk ys) p (Syn.marks l) f (l2++r++[⟨5,n,[]⟩]) j=RR from by rw [←HGO.out,hri3];rfl)
       clear hri3
       go_wp2_with fail
       go_at_call 158
       refine hcall3.mono ?_
       rintro e w4 ⟨hc4,v4,rfl,e1,e2,e3⟩
       obtain ⟨L4,hL4⟩:∃L4,L++r=L4:=⟨_,rfl⟩
       rw [hL4] at e1
       obtain ⟨q4,c4,rfl⟩:=ah_ e1
       have hb4:L4.length+1+(ys.length - j)≤131072:=by rw [←hL4,nla];omega
       have hlen4:L.length+1≤L4.length+1:=by rw [←hL4,nla];omega
       have HL5:=hid (show L4++[⟨5,n,[]⟩]=l0++(l2++r++[⟨5,n,[]⟩]) from by rw [←hL4,HL.out];simp [nlb])
       clear hL4
       have hnew:=ni_ w4 ⟨5,n,[]⟩ 45
       have hone:=nj_ ⟨5,n,[]⟩
       rw [show tmC ⟨5,n,[]⟩=[.int .i64 5,.int .i64 (n:Nat),.string ⟨#[]⟩] from rfl] at hnew hone
       have happ:=hid (fun v' w9=>nh_ (t:=⟨5,n,[]⟩) (v':=v') (w9:=w9) e2 e1 45)
       have hsz4:=hc4.size
       have HO4:=hid (show Ob (.slice qv l0.length cv) w (.slice q4 L4.length c4) from HO.out.trans (show Ob (.slice q2 L.length c2) w3 (.slice q4 L4.length c4) from e3) (by omega))
       have HC4:=hid (show Chg (TS bp (.slice qv l0.length cv)) w w4 from HC3.out.trans hc4 (fun k e=>by rcases HO.out.ts k e with q|q <;> first|exact .inl q|exact .inr q))
       clear e2 e3 hc4
       go_wp2_with (at_builtin;refine wpList_append_own_at _ rfl _ _ 37 rfl 0 45 j0 _ 3 32 Tryz.underlying37 hj0 hy0 hy1 hy2 rfl (by decide) _ _ _ rfl (e1.alloc _) ⟨w4.heap.size,0,none⟩ 1 1 [.int .i64 5,.int .i64 (n:Nat),.string ⟨#[]⟩] rfl rfl hnew hone (by unfold maxLen;omega) (by omega) (Nat.zero_le _) ?_)
       intro v' w9 hown9 hgrow9 _ hat9
       obtain ⟨g1,g2,g3,g4⟩:=happ.out v' w9 hown9 hgrow9 hat9
       obtain ⟨q9,c9,rfl⟩:=ah_ hown9
       have HO9:=hid (show Ob (.slice qv l0.length cv) w (.slice q9 (L4.length+1) c9) from HO4.out.trans (show Ob (.slice q4 L4.length c4) w4 (.slice q9 (L4.length+1) c9) from g4) (by omega))
       have HC9:=hid (show Chg (TS bp (.slice qv l0.length cv)) w w9 from HC4.out.trans g3 (fun k e=>by rcases HO4.out.ts k e with q|q <;> first|exact .inl q|exact .inr q))
       have G1:=hid g1
       clear hown9 hgrow9 hat9 g3 g4 e1 hnew hone g1
       go_wp2
       refine ⟨⟨f,l2++r++[⟨5,n,[]⟩],L4++[⟨5,n,[]⟩],j,q9,c9,hj,?_,HL5,HRe,?_,?_,g2,HC9.out,?_⟩,?_⟩
       ·rw [nla,nlc];exact hb4
       ·rw [nla,nlc]
       ·rw [nla,nlc];exact G1
       ·rw [nla,nlc];exact HO9
       ·simp [sLen];omega
     ·rw [if_neg hll] at hz'
      have HRe:=hid (hend (by rw [hop,hz']))
      have hne:(((Syn.lvlOf n:Nat):Int) != (l:Int))=true:=by simp;omega
      clear hz' hop hend hp2 hll
      generalize ys.length+1 - i2=m at *
      generalize 4*i2=o at *
      go_wp2_with (first|(go_at_call 193;refine hbs.mono ?_;rintro e w' ⟨rfl,rfl⟩)|(go_at_call 194;refine (hlv _).mono ?_;rintro e w' ⟨rfl,rfl⟩))
      go_ret
      rw [HRe.out]
      exact ⟨hC2,_,rfl,by rw [←HL.out];exact HT.out,HP2.out,HO.out⟩
end
section
variable {ys:List It} {len bp bw i:Nat} {vp:Value} {w:World}
theorem nn_ (hw:Ws ys) {b1 b2 d:Nat} {u:Nat→Syn.R (List Syn.Tm)} (hcnt:Syn.Cnt u) (hfit:Syn.FitP ys.length u)
 (hR:RdT ys len bp bw vp 159 (fun v=>#[v,.pointer (some ⟨b1,0,none⟩),.pointer (some ⟨b2,0,none⟩)]) (BX b1 b2 bp d) u) :
 ∀(k l:Nat),l+k=6→RdT ys len bp bw vp 158 (fun v=>#[.pointer (some ⟨bp,0,none⟩),.int .i64 (l:Int),v,.func (.func 159) #[] #[.pointer (some ⟨b1,0,none⟩),.pointer (some ⟨b2,0,none⟩)]]) (BX b1 b2 bp d) (Syn.tower (Tk ys) (ys.length+1) u k)
 | 0,l,h=>by
  obtain rfl:l=6:=by omega
  exact wb_ hR
 | k+1,l,h=>by
  have hk:=nn_ hw hcnt hfit hR k (l+1) (by omega)
  have hl:5 - k=l:=by omega
  have:=sa_ (len:=len) (bp:=bp) (bw:=bw) (vp:=vp) hw (b1:=b1) (b2:=b2) (d:=d) (Syn.tower_cnt hcnt k) (Syn.tower_fit (ap_ ys) (by omega) hfit k) l (by omega) hk
  intro w i v l0 hx h hr hb
  have h2:=this w i v l0 hx h hr hb
  rw [Syn.tower,hl]
  exact h2
theorem kd_ (hw:Ws ys) {d:Nat} {e:Option (Nat→Syn.R (List Syn.Tm))} (he:EOk ys len bp bw vp d e) (hg:∀p,e=some p→Syn.Good p) :
 RdT ys len bp bw vp 102 (fun v=>#[.pointer (some ⟨bp,0,none⟩),v,.int .i64 (d:Int)]) (fun _=>True) (Syn.tower (Tk ys) (ys.length+1) (Syn.unary (Tk ys) (ys.length+1) e) 6):=by
 intro w i v l0 _ h hr hb
 obtain ⟨qv,cv,rfl⟩:=ah_ hr
 have hl6:=nn_ (len:=len) (bp:=bp) (bw:=bw) (vp:=vp) hw (b1:=w.heap.size) (b2:=w.heap.size+1) (d:=d) (Syn.unary_cnt he.cnt) (Syn.unary_fit (ap_ ys) (by omega) he.fit hg) (ox_ (wa_ hw he)) 6 0 rfl
 have hbx:BX w.heap.size (w.heap.size+1) bp d ((w.alloc (.cells #[.pointer (some ⟨bp,0,none⟩)] 95)).alloc (.cells #[.int .i64 (d:Int)] 3)) :=
  ⟨ad_ _ _ (nwn w _),by have:=nwn (w.alloc (.cells #[.pointer (some ⟨bp,0,none⟩)] 95)) (.cells #[.int .i64 (d:Int)] 3);rwa [World.size_alloc] at this⟩
 have hcall:=hl6 _ i _ l0 hbx ((h.alloc _).alloc _) ((hr.alloc _).alloc _) hb
 have hC0:Chg (TS bp (.slice qv l0.length cv)) w ((w.alloc (.cells #[.pointer (some ⟨bp,0,none⟩)] 95)).alloc (.cells #[.int .i64 (d:Int)] 3)):=((Chg.refl _ w).alloc _).alloc _
 have hsz:=hC0.size
 have hmf:∀(fn:Fn) (first cap:Array Value) (w:World),(Instr.makeFunc fn first cap).run prog w=.ok (.func fn first cap) w:=fun _ _ _ _=>rfl
 obtain ⟨RR,hRR⟩:∃RR,Syn.tower (Tk ys) (ys.length+1) (Syn.unary (Tk ys) (ys.length+1) e) 6 i=RR:=⟨_,rfl⟩
 rw [hRR] at hcall ⊢
 clear hRR hl6 hbx
 cases RR with
 | error q =>
  go_enter func102,ntmps102
  go_wp2_with (go_at_call 158;refine hcall.mono ?_;rintro e w1 ⟨hc,rfl⟩)
  exact ⟨rfl,hC0.then hc,rfl⟩
 | ok q =>
  go_enter func102,ntmps102
  go_wp2_with (go_at_call 158;refine hcall.mono ?_;rintro e w1 ⟨hc,v',rfl,a1,a2,a3⟩)
  go_ret
  exact ⟨hC0.then hc,v',rfl,a1,a2,fun k hk=>by rcases a3 k hk with q|q <;> first|exact .inl q|exact .inr (by omega)⟩
theorem ke_ (hw:Ws ys):∀d,d≤12→RdT ys len bp bw vp 102 (fun v=>#[.pointer (some ⟨bp,0,none⟩),v,.int .i64 ((12 - d:Nat):Int)]) (fun _=>True) (Syn.exprD (Tk ys) (ys.length+1) d)
 | 0,_=>kd_ hw (.inl ⟨rfl,rfl⟩) (fun p h=>by cases h)
 | d+1,h=>by
  refine kd_ hw (d:=12 - (d+1)) (e:=some (Syn.exprD (Tk ys) (ys.length+1) d)) (.inr ⟨by omega,_,rfl,Syn.expr_cnt d,Syn.expr_fit (ap_ ys) (by omega) d,?_⟩) (fun p h=>by cases h;exact Syn.expr_good d)
  have:=ke_ hw d (by omega)
  rw [show (((12 - (d+1):Nat):Int)+1)=((12 - d:Nat):Int) by omega]
  exact this
theorem qw_ (hw:Ws ys) (h:PS ys len bp bw vp w i) :
 Calls prog 56 #[.pointer (some ⟨bp,0,none⟩)] w (Ret ys len (fun k=>k=bp) w (Syn.expr (Tk ys) (ys.length+1) i) fun l j e w'=>∃v',e=.returned v'∧TR w' v' l∧PS ys len bp bw vp w' j∧∀k,v'.ownBlock=some k→w.heap.size≤k):=by
 have hf:=h.few
 have hcall:=ke_ (len:=len) (bp:=bp) (bw:=bw) (vp:=vp) hw 12 (Nat.le_refl _) w i (.slice none 0 0) [] trivial h (World.ownsRow_nil _ _ _ _) (by simp;omega)
 rw [show ((12 - 12:Nat):Int)=0 from rfl] at hcall
 have hTS:∀{a b:World},Chg (TS bp (.slice none 0 0)) a b→Chg (fun k=>k=bp) a b:=fun hc=>hc.mono (fun k e=>by rcases e with e|e;exact .inl e;cases e)
 unfold Syn.expr
 obtain ⟨RR,hRR⟩:∃RR,Syn.exprD (Tk ys) (ys.length+1) 12 i=RR:=⟨_,rfl⟩
 rw [hRR] at hcall ⊢
 clear hRR
 cases RR with
 | error q =>
  go_enter func56,ntmps56
  go_wp2_with (go_at_call 102;refine hcall.mono ?_;rintro e w1 ⟨hc,rfl⟩)
  exact ⟨rfl,hTS hc,rfl⟩
 | ok q =>
  go_enter func56,ntmps56
  go_wp2_with (go_at_call 102;refine hcall.mono ?_;rintro e w1 ⟨hc,v',rfl,a1,a2,a3⟩)
  go_ret
  exact ⟨hTS hc,v',rfl,a1,a2,fun k hk=>by rcases a3 k hk with q|q;cases q;exact q⟩
end
def Enc {α:Type} (R:List Value→α→Prop):List Value→List α→Prop
 | cs,[]=>cs=[]
 | cs,x::xs=>∃c r,cs=c++r∧R c x∧Enc R r xs
theorem Enc.app {α:Type} {R:List Value→α→Prop}:∀{xs ys:List α} {cs ds:List Value},Enc R cs xs→Enc R ds ys→Enc R (cs++ds) (xs++ys)
 | [],ys,cs,ds,h,h'=>by
  obtain rfl:cs=[]:=h
  exact h'
 | x::xs,ys,cs,ds,h,h'=>by
  obtain ⟨c,r,rfl,h1,h2⟩:=h
  exact ⟨c,r++ds,by rw [nlb],h1,h2.app h'⟩
theorem Enc.one {α:Type} {R:List Value→α→Prop} {c:List Value} {x:α} (h:R c x):Enc R c [x]:=⟨c,[],by simp,h,rfl⟩
theorem Enc.nil {α:Type} {R:List Value→α→Prop}:Enc R [] ([]:List α):=rfl
theorem Enc.mono {α:Type} {R R':List Value→α→Prop} (hR:∀c x,R c x→R' c x):∀{xs:List α} {cs:List Value},Enc R cs xs→Enc R' cs xs
 | [],_,h=>h
 | _::_,_,⟨c,r,e,h1,h2⟩=>⟨c,r,e,hR _ _ h1,h2.mono hR⟩
def TmM (m:Mem) (v:Value) (l:List Syn.Tm):Prop:=RowM m 45 3 v l.length (tmCells l)
def StrM (m:Mem) (v:Value) (l:List (List Nat)):Prop:=RowM m 9 1 v l.length (l.map fun s=>.string (sb s))
def ExM (m:Mem) (v:Value) (l:List (List Syn.Tm)):Prop:=∃cs,RowM m 37 1 v l.length cs∧Enc (fun c x=>∃u,c=[u]∧TmM m u x) cs l
def StM (m:Mem) (c:List Value) (s:Syn.St):Prop:=∃vt ve,c=[.int .i64 (s.kind:Int),.string (sb s.name),vt,ve]∧StrM m vt s.targets∧ExM m ve s.exprs
theorem ExM.le {m m':Mem} {v:Value} {l:List (List Syn.Tm)} (h:ExM m v l) (hm:m.le m'):ExM m' v l:=by
 obtain ⟨cs,h1,h2⟩:=h
 exact ⟨cs,h1.le hm,h2.mono fun c x ⟨u,e,h⟩=>⟨u,e,RowM.le h hm⟩⟩
theorem StM.le {m m':Mem} {c:List Value} {s:Syn.St} (h:StM m c s) (hm:m.le m'):StM m' c s:=by
 obtain ⟨vt,ve,e,h1,h2⟩:=h
 exact ⟨vt,ve,e,RowM.le h1 hm,h2.le hm⟩
theorem no_ {m:Mem}:∀{l:List (List Syn.Tm)} {cs:List Value},Enc (fun c x=>∃u,c=[u]∧TmM m u x) cs l→cs.length=l.length
 | [],cs,h=>by rw [show cs=[] from h];rfl
 | x::l,cs,h=>by
  obtain ⟨c,r,rfl,⟨u,rfl,_⟩,h2⟩:=h
  rw [nla,no_ h2];simp only [nlk,nlg];omega
section
variable {α:Type}
def lsF (T:Nat→Option Syn.K) (r:Nat→Syn.R α) (fin:List Nat):Nat→List α→Nat→Syn.R (List α)
 | 0,_,i=>.error (99,i)
 | f+1,l,i=>(r i).on fun x i =>
  if Syn.is T i fin then .ok (l++[x],i+1) else if Syn.is T i [44] then lsF T r fin f (l++[x]) (i+1) else .error (50,i)
def ls (T:Nat→Option Syn.K) (F:Nat) (r:Nat→Syn.R α) (fin:List Nat) (i:Nat):Syn.R (List α):=if Syn.is T i fin then .ok ([],i+1) else lsF T r fin F [] i
theorem qx_ (T:Nat→Option Syn.K) (e:Nat→Syn.R (List Syn.Tm)) (fin:List Nat):∀(f:Nat) (l:List (List Syn.Tm)) (i:Nat),Syn.listF T e fin f l i=lsF T e fin f l i
 | 0,_,_=>rfl
 | f+1,l,i=>by
  rw [Syn.listF,lsF]
  cases e i with
  | error q=>rfl
  | ok q=>simp only [Syn.R.on,qx_ T e fin f]
theorem wc_ (T:Nat→Option Syn.K) (p:Nat→Syn.R α):∀(f:Nat) (l:List α) (i:Nat),Syn.rowF T p f l i=lsF T p [41] f l i
 | 0,_,_=>rfl
 | f+1,l,i=>by
  rw [Syn.rowF,lsF]
  cases p i with
  | error q=>rfl
  | ok q=>simp only [Syn.R.on,wc_ T p f]
theorem wd_ {T:Nat→Option Syn.K} {n:Nat} (hN:∀i,n≤i→T i=none) {r:Nat→Syn.R α} (hr:Syn.FitP n r) (fin:List Nat):∀(f:Nat) (l:List α) (i:Nat),i≤n→n<f+i→Syn.Fit n (lsF T r fin f l i)
 | 0,_,_,h,hf=>by omega
 | f+1,l,i,h,hf=>by
  rw [lsF]
  exact (hr i h).1.on fun x j hx hj=>Syn.Fit.sw (fun hc=>Syn.Fit.ok _ (Syn.is_lt hN hc)) fun _=>Syn.Fit.sw (fun hc=>wd_ hN hr fin f _ _ (Syn.is_lt hN hc) (by have:=(hr i h).2 _ _ hx;omega)) fun _=>Syn.Fit.err hj
def tailF (T:Nat→Option Syn.K) (r:Nat→Syn.R α) (fin:List Nat) (f:Nat) (l:List α) (j:Nat):Syn.R (List α) :=
 if Syn.is T j fin then .ok (l,j+1) else if Syn.is T j [44] then lsF T r fin f l (j+1) else .error (50,j)
theorem qy_ (T:Nat→Option Syn.K) (r:Nat→Syn.R α) (fin:List Nat) (f:Nat) (l:List α) (i:Nat):lsF T r fin (f+1) l i=(r i).on fun x j=>tailF T r fin f (l++[x]) j:=rfl
def posW (bp:Nat) (W:World):Nat:=match W.cell? ⟨bp,0,none⟩ with | some v=>sLen v | none=>0
theorem PS.pos {ys:List It} {len bp bw i:Nat} {vp:Value} {w:World} (h:PS ys len bp bw vp w i):posW bp w=ys.length+1 - i:=by
 obtain ⟨c,h0,_⟩:=h.raw
 unfold posW;rw [h0];rfl
def SB (bp B:Nat):Nat→Prop:=fun k=>k=bp∨B≤k
def ItOk (ys:List It) (len bp bw B:Nat) (vp:Value) (K:Nat) (caps:Array Value) (J:List α→World→Prop) (r:Nat→Syn.R α):Prop :=
 ∀W i acc,J acc W→PS ys len bp bw vp W i→B≤W.heap.size→acc.length+(ys.length - i)≤131072→Calls prog K caps W (Ret ys len (SB bp B) W (r i) fun x j e W'=>(e=.returned (.tuple #[])∧J (acc++[x]) W')∧PS ys len bp bw vp W' j)
end
theorem mk_44:Mk (bl ⟨#[44]⟩)=true:=by decide
theorem l1_ {bp B:Nat} {a b:World} (h:Chg (fun k=>k=bp) a b):Chg (SB bp B) a b:=h.mono fun _ e=>.inl (.inl e)
section
variable {ys:List It} {len bp bw i:Nat} {vp:Value} {w:World} {α:Type}
theorem oy_ (hw:Ws ys) (h:PS ys len bp bw vp w i) (s:ByteArray) (hs:Mk (bl s)=true) :
 Calls prog 95 #[.pointer (some ⟨bp,0,none⟩),.string s] w fun e w'=>∃t,e=.returned (.bool t)∧t=Syn.is (Tk ys) i (bl s)∧Chg (fun k=>k=bp) w w'∧PS ys len bp bw vp w' (if Syn.is (Tk ys) i (bl s)=true then i+1 else i):=by
 cases hx:Syn.is (Tk ys) i (bl s) with
 | true =>
  refine (f6_ h (a4_ hx) s (by rw [ax_,az_ hw len i hs];exact hx)).mono ?_
  rintro e w' ⟨rfl,hc,hp⟩
  exact ⟨true,rfl,rfl,hc,hp⟩
 | false =>
  refine (gw_ h s (by rw [ax_,az_ hw len i hs];exact hx)).mono ?_
  rintro e w' ⟨rfl,rfl⟩
  exact ⟨false,rfl,rfl,Chg.refl _ _,h⟩
theorem we_ {T:Nat→Option Syn.K} {j:Nat} {s t:List Nat} (h:Syn.is T j s=true) (h':Syn.is T j t=true):s=t:=by
 unfold Syn.is at h h'
 cases hT:T j with
 | none=>rw [hT] at h;cases h
 | some k =>
  rw [hT] at h h'
  simp only [Bool.and_eq_true,beq_iff_eq] at h h'
  exact h.2.symm.trans h'.2
theorem l2_ (hw:Ws ys) (h:PS ys len bp bw vp w i) {B:Nat} (hB:B≤w.heap.size) (_hbw:bw<B) (_hbp:bp<B) (s:ByteArray) (hs:Mk (bl s)=true) (hs44:bl s≠[44]) {K:Nat} {caps:Array Value} (eg:∀args w,(callFunc K args).run prog w=.ok (.enter K args) w) {J:List α→World→Prop} {r:Nat→Syn.R α} (hfit:Syn.FitP ys.length r)
 (hJ:∀l W i W',J l W→PS ys len bp bw vp W i→Chg (fun k=>k=bp) W W'→J l W') (hit:ItOk ys len bp bw B vp K caps J r) (h0:J [] w) :
 Calls prog 153 #[.pointer (some ⟨bp,0,none⟩),.string s,.func (.func K) #[] caps] w (Ret ys len (SB bp B) w (ls (Tk ys) (ys.length+1) r (bl s) i) fun l j e w'=>(e=.returned (.tuple #[])∧J l w')∧PS ys len bp bw vp w' j):=by
 have hsk:=oy_ hw h s hs
 have HPS:=hid h
 unfold ls
 cases hx:Syn.is (Tk ys) i (bl s) with
 | true =>
  rw [hx] at hsk
  clear hx
  go_enter func153,ntmps153
  go_wp2_with (go_at_call 95;refine hsk.mono ?_;rintro e w1 ⟨t,rfl,rfl,hc,hp⟩)
  refine bodyPost_ret (results_none rfl _ _ _) rfl ?_
  exact ⟨l1_ hc,⟨rfl,hJ _ _ _ _ h0 HPS.out hc⟩,hp⟩
 | false =>
  rw [hx] at hsk
  rw [if_neg (by simp)]
  have hf0:=h.few
  have hle:=h.le
  obtain ⟨RR,hRR⟩:∃RR,lsF (Tk ys) r (bl s) (ys.length+1) [] i=RR:=⟨_,rfl⟩
  have hlf:=wd_ (ap_ ys) hfit (bl s) (ys.length+1) [] i h.le (by omega)
  rw [hRR] at hlf ⊢
  rw [qy_] at hRR
  have HRR:=hid hRR
  have HLF:=hid hlf
  have HIT:=hid hit
  have HJ:=hid hJ
  have HFIT:=hid hfit
  clear hx hRR hlf hit hJ hfit
  go_enter func153,ntmps153
  go_wp2_with (go_at_call 95;refine hsk.mono ?_;rintro e w1 ⟨t,rfl,rfl,hc,hp⟩)
  have hcall:=HIT.out w1 i [] (HJ.out _ _ _ _ h0 HPS.out hc) hp (Nat.le_trans hB hc.size) (by simp;omega)
  have HC1:=hid (l1_ (B:=B) hc)
  clear hc hsk
  cases hri:r i with
  | error q =>
   obtain ⟨er,k⟩:=q
   rw [hri] at hcall
   have HRe:=hid (show RR=.error (er,k) from by rw [←HRR.out,hri];rfl)
   clear hri
   refine hcall.mono ?_
   rintro e w2 ⟨hc2,rfl⟩
   refine ⟨rfl,?_⟩
   rw [HRe.out]
   exact ⟨HC1.out.then hc2,rfl⟩
  | ok q =>
   obtain ⟨x1,j1⟩:=q
   rw [hri] at hcall
   have HT:=hid (show tailF (Tk ys) r (bl s) ys.length [x1] j1=RR from by rw [←HRR.out,hri];rfl)
   have HX:=hid ((HFIT.out i hle).2 _ _ hri)
   clear hri
   refine hcall.mono ?_
   rintro e w2 ⟨hc2,⟨rfl,hJ2⟩,hp2⟩
   have HC2:=hid (HC1.out.then hc2)
   have HJ2:=hid hJ2
   have HP2:=hid hp2
   clear hc2 hJ2 hp2 hcall
   go_wp2_with fail
   go_loopw [12] (fun _ wr=>∃f l j,Hid (tailF (Tk ys) r (bl s) f l j=RR)∧Hid (J l wr)∧Hid (PS ys len bp bw vp wr j)∧Hid (Chg (SB bp B) w wr)∧Hid (l.length+(ys.length - j)≤131072))
    (fun _ wr=>posW bp wr)
   case atStart=>exact ⟨ys.length,[x1],j1,HT,HJ2,HP2,HC2,hid (by simp;omega)⟩
   case round =>
    obtain ⟨f,l,j,HTr,HJr,HPr,HCr,HLr⟩:=hrel
    clear h0 hp
    have hsk2:=oy_ hw HPr.out ⟨#[44]⟩ mk_44
    rw [show bl ⟨#[44]⟩=[44] from rfl] at hsk2
    cases hx:Syn.is (Tk ys) j [44] with
    | true =>
     rw [hx] at hsk2
     have hfin:Syn.is (Tk ys) j (bl s)=false:=by
      cases hf:Syn.is (Tk ys) j (bl s) with
      | false=>rfl
      | true=>exact (hs44 (we_ hf hx)).elim
     have hlt:=a4_ hx
     have hgo:lsF (Tk ys) r (bl s) f l (j+1)=RR:=by
      have:=HTr.out
      unfold tailF at this
      rw [hfin,if_neg (by simp),hx,if_pos rfl] at this
      exact this
     cases f with
     | zero=>exact (HLF.out.no99 (j:=j+1) (by rw [←hgo];rfl)).elim
     | succ f =>
      rw [qy_] at hgo
      have HGO:=hid hgo
      clear hx hfin hgo
      go_wp2_with (go_at_call 95;refine hsk2.mono ?_;rintro e w3 ⟨t3,rfl,rfl,hc3,hp3⟩)
      have hl3:=HLr.out
      have hcall:=HIT.out w3 (j+1) l (HJ.out _ _ _ _ HJr.out HPr.out hc3) hp3 (Nat.le_trans hB (Nat.le_trans HCr.out.size hc3.size)) (by omega)
      have HC3:=hid (HCr.out.then (l1_ (B:=B) hc3))
      clear hc3 hp3 hsk2 hl3
      cases hri:r (j+1) with
      | error q =>
       obtain ⟨er,k⟩:=q
       rw [hri] at hcall
       have HRe:=hid (show RR=.error (er,k) from by rw [←HGO.out,hri];rfl)
       clear hri
       refine hcall.mono ?_
       rintro e w4 ⟨hc4,rfl⟩
       refine ⟨rfl,?_⟩
       rw [HRe.out]
       exact ⟨HC3.out.then hc4,rfl⟩
      | ok q =>
       obtain ⟨x4,j4⟩:=q
       rw [hri] at hcall
       have HT4:=hid (show tailF (Tk ys) r (bl s) f (l++[x4]) j4=RR from by rw [←HGO.out,hri];rfl)
       have hj4:=(HFIT.out (j+1) hlt).2 _ _ hri
       have hj5:=(HFIT.out (j+1) hlt).1.pos hri
       have HL4:=hid (show (l++[x4]).length+(ys.length - j4)≤131072 from by
        have:=HLr.out
        rw [nla,nlc];omega)
       clear hri
       refine hcall.mono ?_
       rintro e w4 ⟨hc4,⟨rfl,hJ4⟩,hp4⟩
       have HC4:=hid (HC3.out.then hc4)
       have HJ4:=hid hJ4
       have HP4:=hid hp4
       have hpos4:=hp4.pos
       have hpos:=HPr.out.pos
       clear hc4 hJ4 hp4 hcall
       go_wp2_with fail
       refine ⟨⟨f,l++[x4],j4,HT4,HJ4,HP4,HC4,HL4⟩,?_⟩
       rw [hpos4,hpos];omega
    | false =>
     rw [hx] at hsk2
     cases hfin:Syn.is (Tk ys) j (bl s) with
     | true =>
      have HRe:=hid (show RR=.ok (l,j+1) from by
       have:=HTr.out
       unfold tailF at this
       rw [hfin,if_pos rfl] at this
       exact this.symm)
      have HW:=hid (fun w3 (hp3:PS ys len bp bw vp w3 j)=>h1_ hp3 (a4_ hfin) s (by rw [ax_,az_ hw len j hs];exact hfin))
      clear hx hfin
      go_wp2_with (go_at_call 95;refine hsk2.mono ?_;rintro e w3 ⟨t3,rfl,rfl,hc3,hp3⟩)
      go_at_call 149
      refine (HW.out w3 hp3).mono ?_
      rintro e w4 ⟨rfl,hc4,hp4⟩
      go_wp2_with fail
      go_end0
      rw [HRe.out]
      exact ⟨(HCr.out.then (l1_ hc3)).then (l1_ hc4),⟨rfl,HJ.out _ _ _ _ (HJ.out _ _ _ _ HJr.out HPr.out hc3) hp3 hc4⟩,hp4⟩
     | false =>
      have HRe:=hid (show RR=.error (50,j) from by
       have:=HTr.out
       unfold tailF at this
       rw [hfin,if_neg (by simp),hx,if_neg (by simp)] at this
       exact this.symm)
      have HW:=hid (fun w3 (hp3:PS ys len bp bw vp w3 j)=>i7_ hp3 s (by rw [ax_,az_ hw len j hs];exact hfin) (SB bp B))
      clear hx hfin
      go_wp2_with (go_at_call 95;refine hsk2.mono ?_;rintro e w3 ⟨t3,rfl,rfl,hc3,hp3⟩)
      go_at_call 149
      refine (HW.out w3 hp3).mono ?_
      rintro e w4 ⟨rfl,hc4⟩
      refine ⟨rfl,?_⟩
      rw [HRe.out]
      exact ⟨(HCr.out.then (l1_ hc3)).then hc4,rfl⟩
end
structure TmZ where
 kind:Int
 value:Int
 name:ByteArray
structure StZ where
 kind:Int
 name:ByteArray
 targets:List ByteArray
 exprs:List (List TmZ)
instance : Inhabited TmZ := ⟨⟨0,0,⟨#[]⟩⟩⟩
instance : Inhabited StZ := ⟨⟨0,⟨#[]⟩,[],[]⟩⟩
abbrev Cl:=Addr→Option Value
def CLe (C D:Cl):Prop:=∀a v,C a=some v→D a=some v
theorem CLe.refl (C:Cl):CLe C C:=fun _ _ h=>h
theorem CLe.trans {A B C:Cl} (h:CLe A B) (k:CLe B C):CLe A C:=fun a v e=>k a v (h a v e)
def wC (w:World):Cl:=fun a=>w.cell? a
def mC (m:Mem):Cl:=fun a=>match m a.block with
 | some (.cells cur _ _)=>if a.spot=none then cur[a.off]? else none
 | _=>none
theorem ab_ {w w':World} (h:Below w.heap.size w w'):CLe (wC w) (wC w'):=fun _ _ e=>(h.cell (World.block_lt_of_cell? _ _ e)).trans e
theorem g1_ {w:World} {m:Mem} (h:Has w m):CLe (mC m) (wC w):=by
 intro a v e
 obtain ⟨b,o,s⟩:=a
 unfold mC at e
 simp only at e
 cases hm:m b with
 | none=>rw [hm] at e;cases e
 | some ob =>
  rw [hm] at e
  cases ob with
  | cells cur T r =>
   simp only at e
   split at e
   ·rename_i hs
    subst hs
    unfold wC
    rw [cell_of_row w b o cur T r (h _ _ hm)]
    exact e
   ·cases e
  | _=>cases e
def RdO (C:Cl) (q:Option Addr) (cs:List Value):Prop:=cs=[]∨∃g o,q=some ⟨g,o,none⟩∧∀j u,cs[j]?=some u→C ⟨g,o+j,none⟩=some u
theorem RdO.le {C D:Cl} {q:Option Addr} {cs:List Value} (h:RdO C q cs) (hc:CLe C D):RdO D q cs:=by
 rcases h with h|⟨g,o,h1,h2⟩
 ·exact .inl h
 ·exact .inr ⟨g,o,h1,fun j u hu=>hc _ _ (h2 j u hu)⟩
theorem RowM.rdO {m:Mem} {E:TypeId} {size n c:Nat} {q:Option Addr} {xs:List Value} (h:RowM m E size (.slice q n c) n xs):RdO (mC m) q xs:=by
 obtain ⟨h1,⟨h2,rfl⟩|⟨g,cap,cur,h2,h3,h4,h5,h6,h7⟩⟩:=h
 ·exact .inl (List.eq_nil_of_length_eq_zero (by simpa using h1))
 ·injection h2 with h2 _ _
  refine .inr ⟨g,0,h2,fun j u hu=>?_⟩
  rw [←h7,List.getElem?_take] at hu
  split at hu
  ·unfold mC
   simp only [h3,Nat.zero_add]
   simpa using hu
  ·cases hu
def SlX {α:Type} (mk:List Value) (bs:Nat) (C:Cl) (R:List Value→α→Prop) (v:Value) (l:List α):Prop :=
 ∃q c cs,v=.slice q l.length c∧(mk=[]∨l.length+1≤c)∧RdO C q (cs++mk)∧Enc R cs l∧l.length*bs≤140737488351232∧c≤maxLen∧(q=none→c=0)∧l.length≤c
theorem SlX.mono {α:Type} {mk:List Value} {bs:Nat} {C D:Cl} {R R':List Value→α→Prop} {v:Value} {l:List α} (h:SlX mk bs C R v l) (hc:CLe C D) (hR:∀c x,R c x→R' c x):SlX mk bs D R' v l:=by
 obtain ⟨q,c,cs,h1,h2,h3,h4,h5,h6⟩:=h
 exact ⟨q,c,cs,h1,h2,h3.le hc,h4.mono hR,h5,h6⟩
def tmZ (t:TmZ):List Value:=[.int .i64 t.kind,.int .i64 t.value,.string t.name]
section
variable {lt:Bool} {C D:Cl}
end
theorem fi_ {α:Type} {R:List Value→α→Prop} {size:Nat} (hR:∀c x,R c x→c.length=size):∀{l:List α} {cs:List Value},Enc R cs l→cs.length=l.length*size∧∀j (h:j<l.length),∃c,R c l[j]∧∀r,r<size→cs[j*size+r]?=c[r]?
 | [],cs,he=>by obtain rfl:cs=[]:=he;exact ⟨by simp,fun j h=>absurd h (by simp)⟩
 | x::l,cs,he=>by
  obtain ⟨c,d,rfl,h1,h2⟩:=he
  have hc:=hR _ _ h1
  obtain ⟨h5,h6⟩:=fi_ hR h2
  refine ⟨by rw [nla,hc,h5,nlk,Nat.succ_mul];omega,fun j h=>?_⟩
  cases j with
  | zero=>exact ⟨c,h1,fun r hr=>by rw [Nat.zero_mul,Nat.zero_add,List.getElem?_append_left (by omega)]⟩
  | succ j =>
   obtain ⟨c',h3,h4⟩:=h6 j (by simpa using h)
   refine ⟨c',h3,fun r hr=>?_⟩
   rw [show (j+1)*size+r=c.length+(j*size+r) by rw [hc,Nat.succ_mul];omega,List.getElem?_append_right (by omega),Nat.add_sub_cancel_left]
   exact h4 r hr
theorem SlX.at {α:Type} {mk:List Value} {bs:Nat} {C:Cl} {R:List Value→α→Prop} {v:Value} {l:List α} {size:Nat} (h:SlX mk (bs+1) C R v l) (hs:0<size) (hR:∀c x,R c x→c.length=size) :
 ∃q c,v=.slice q l.length c∧(mk=[]∨l.length+1≤c)∧l.length≤140737488351232∧c≤maxLen ∧
  (∀j (hj:j<l.length),∃g o e,q=some ⟨g,o,none⟩∧R e l[j]∧∀r u,r<size→e[r]?=some u→C ⟨g,o+(j*size+r),none⟩=some u) ∧
  (mk=[]∨∃g o,q=some ⟨g,o,none⟩∧∀r u,mk[r]?=some u→C ⟨g,o+(l.length*size+r),none⟩=some u):=by
 obtain ⟨q,c,cs,h1,h2,h3,h4,h5,h6,_⟩:=h
 obtain ⟨hl,ha⟩:=fi_ hR h4
 refine ⟨q,c,h1,h2,Nat.le_trans (Nat.le_mul_of_pos_right _ (Nat.succ_pos _)) h5,h6,fun j hj=>?_,?_⟩
 ·obtain ⟨e,e1,e2⟩:=ha j hj
  have hle:j*size+size≤l.length*size:=by rw [←Nat.succ_mul];exact Nat.mul_le_mul_right _ hj
  rcases h3 with h3|⟨g,o,h3,h7⟩
  ·have:=(List.append_eq_nil_iff.1 h3).1
   rw [this] at hl
   simp only [nlg] at hl
   omega
  ·refine ⟨g,o,e,h3,e1,fun r u hr hu=>h7 _ _ ?_⟩
   rw [List.getElem?_append_left (by omega),e2 r hr]
   exact hu
 ·by_cases hm:mk=[]
  ·exact .inl hm
  ·refine .inr ?_
   rcases h3 with h3|⟨g,o,h3,h7⟩
   ·exact absurd (List.append_eq_nil_iff.1 h3).2 hm
   ·refine ⟨g,o,h3,fun r u hu=>h7 _ _ ?_⟩
    rw [List.getElem?_append_right (by omega),hl,Nat.add_sub_cancel_left]
    exact hu
end Go.Proofs.YtpcniebkabkikaaGreatDoor
namespace Go.Proofs.YtpcniebkabkikaaGreatDoor
open Go
theorem sb_ {x:Nat} (h:blankB x=true):nameB x=false∧digitB x=false∧x ∉ mark1∧∀m∈mark2,x ∉ m:=by
 have:x=9∨x=10∨x=13∨x=32:=by simpa [blankB,or_assoc] using h
 rcases this with rfl|rfl|rfl|rfl <;> decide
def apart:List (List Nat × Tok)→List Nat
 | []=>[]
 | p::l=>p.1++p.2.text++apart l
end Go.Proofs.YtpcniebkabkikaaGreatDoor
