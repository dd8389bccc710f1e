/- A part of the proof of PrintBack: contracts and plain facts. -/
import Derived.Test.YtpcniebkabkikaaGreatDoorPBqR8
import Derived.Test.YtpcniebkabkikaaGreatDoorPBqR1
import Derived.Test.YtpcniebkabkikaaGreatDoorPBqR3
import Derived.Test.YtpcniebkabkikaaGreatDoorPBqR6
import Derived.Lib.FrozenHead2
import Derived.Lib.OthersKept
import Derived.Lib.Builder
import Derived.LoopTactic
import Derived.Lib.Hide
import Derived.Test.YtpcniebkabkikaaGreatDoorPBqR7
import Derived.WalkLawsBesides
import Derived.Deep.RegionHeld3
import Derived.Lib.AppendIntMem
import Derived.Deep.Cut
import Derived.Laws.BitsLemmas
import Derived.Maps.AppendAt
import Derived.Lib.AppendZeros
set_option maxRecDepth 100000
set_option maxHeartbeats 8000000
open Go.Lib (hid)
open Go.Proofs.Tryz
open List renaming length_append → nla, append_assoc → nlb, length_singleton → nlc, length_cons → nlk
open Go.World renaming alloc_heap_new → nwn, size_alloc → nwz
namespace Go.Proofs.YtpcniebkabkikaaGreatDoor
open Go Go.RowKit Go.Proofs.Mm
open Go.Proofs.Syn (Tm opLv opMark unMark b1_)
def TmRow (C:Cl) (q:Option Addr) (l:List TmZ):Prop:=∀j (hj:j<l.length),∃g o,q=some ⟨g,o,none⟩∧C ⟨g,o+j*3,none⟩=some (.int .i64 l[j].kind)∧C ⟨g,o+j*3+1,none⟩=some (.int .i64 l[j].value)∧C ⟨g,o+j*3+2,none⟩=some (.string l[j].name)
theorem w7_:∀n:Fin 18,1≤n.val→lvTab.getD n.val 0=if n.val≤14 then opLv n.val else 6:=by decide
theorem o7_ {t:TmZ} (h:rightZ t=true) (hk:t.kind=4):15≤t.value∧t.value≤17∧t.name.toList.isEmpty=true:=by
 unfold rightZ at h
 rw [hk] at h
 simp only [show ¬((4:Int)=1) by omega,show ¬((4:Int)=2∨(4:Int)=3) by omega,if_false,if_true,Bool.and_eq_true,decide_eq_true_eq] at h
 exact ⟨h.1.1,h.1.2,h.2⟩
theorem o8_ {t:TmZ} (h:rightZ t=true) (hk:t.kind=5):1≤t.value∧t.value≤14∧t.name.toList.isEmpty=true:=by
 unfold rightZ at h
 rw [hk] at h
 simp only [show ¬((5:Int)=1) by omega,show ¬((5:Int)=2∨(5:Int)=3) by omega,show ¬((5:Int)=4) by omega,if_false,if_true,Bool.and_eq_true,decide_eq_true_eq] at h
 exact ⟨h.1.1,h.1.2,h.2⟩
theorem jm_ {t:TmZ} (h:rightZ t=true):t.kind=1∨t.kind=2∨t.kind=3∨t.kind=4∨t.kind=5:=by
 unfold rightZ at h
 split at h
 ·exact .inl (by assumption)
 split at h
 ·rename_i h2;rcases h2 with e | e
  ·exact .inr (.inl e)
  ·exact .inr (.inr (.inl e))
 split at h
 ·exact .inr (.inr (.inr (.inl (by assumption))))
 split at h
 ·exact .inr (.inr (.inr (.inr (by assumption))))
 ·cases h
section
variable {C:Cl} {W:World}
theorem n5_ (t:TmZ) (hr:rightZ t=true) (W:World) (hE:EnvP W):Calls prog 47 #[tv t] W fun e w'=>e=.returned (.int .i64 ((lvT (tmN t):Nat):Int))∧W.alloc (tb t)=w':=by
 have hlev:=(hE.all (b3_ W t)).lev
 rcases jm_ hr with hk|hk|hk|hk|hk
 ·obtain ⟨k,v,s⟩:=t
  obtain rfl:k=1:=hk
  clear hlev hE hr
  show Calls _ _ _ _ fun e w'=>e=.returned (.int .i64 7)∧_
  unfold tv tb
  go_enter func47,ntmps47
  go_wp2
  go_ret
  exact ⟨rfl,rfl⟩
 ·obtain ⟨k,v,s⟩:=t
  obtain rfl:k=2:=hk
  clear hlev hE hr
  show Calls _ _ _ _ fun e w'=>e=.returned (.int .i64 7)∧_
  unfold tv tb
  go_enter func47,ntmps47
  go_wp2
  go_ret
  exact ⟨rfl,rfl⟩
 ·obtain ⟨k,v,s⟩:=t
  obtain rfl:k=3:=hk
  clear hlev hE hr
  show Calls _ _ _ _ fun e w'=>e=.returned (.int .i64 7)∧_
  unfold tv tb
  go_enter func47,ntmps47
  go_wp2
  go_ret
  exact ⟨rfl,rfl⟩
 ·obtain ⟨h1,h2,_⟩:=o7_ hr hk
  obtain ⟨k,v,s⟩:=t
  obtain rfl:k=4:=hk
  simp only at h1 h2
  obtain ⟨n,rfl⟩:∃n:Nat,v=n:=⟨v.toNat,by omega⟩
  have hc:=hlev n (by omega)
  rw [w7_ ⟨n,by omega⟩ (by show 1≤n;omega),if_neg (by show ¬n≤14;omega)] at hc
  have hn:n<18:=by omega
  clear hlev hE hr
  show Calls _ _ _ _ fun e w'=>e=.returned (.int .i64 6)∧_
  unfold tv tb at *
  go_enter func47,ntmps47
  go_wp2
  go_ret
  exact ⟨rfl,rfl⟩
 ·obtain ⟨h1,h2,_⟩:=o8_ hr hk
  obtain ⟨k,v,s⟩:=t
  obtain rfl:k=5:=hk
  simp only at h1 h2
  obtain ⟨n,rfl⟩:∃n:Nat,v=n:=⟨v.toNat,by omega⟩
  have hc:=hlev n (by omega)
  rw [w7_ ⟨n,by omega⟩ (by show 1≤n;omega),if_pos (by show n≤14;omega)] at hc
  have hn:n<18:=by omega
  clear hlev hE hr
  show Calls _ _ _ _ fun e w'=>e=.returned (.int .i64 ((opLv n:Nat):Int))∧_
  unfold tv tb at *
  generalize opLv n=lv at *
  go_enter func47,ntmps47
  go_wp2
  go_ret
  exact ⟨rfl,rfl⟩
theorem jn_ (t:TmZ) (l:List TmZ) (n:Nat):wholeF (t::l) n=if rightZ t && decide (wantZ t≤n) then wholeF l (n - wantZ t+1) else none:=rfl
theorem want_le (t:TmZ):wantZ t≤2:=by
 unfold wantZ
 split
 ·exact Nat.le_refl _
 ·split <;> omega
theorem whole_p (l:List TmZ) (hl:l.length≤4611686018427387904) (hs:∀t∈l,t.name.size≤140737488355327) {q:Option Addr} {c:Nat} (hrow:TmRow C q l) (hr:CLe C (wC W)) (hE:EnvP W) :
 Calls prog 43 #[.slice q l.length c] W fun e w'=>e=.returned (.bool (wholeZ l))∧Below W.heap.size W w':=by
 have HROW:=hid hrow
 have HR:=hid hr
 have HE:=hid hE
 have HS:=hid hs
 obtain ⟨n,hn⟩:∃n,l.length=n:=⟨_,rfl⟩
 have HN:=hid hn
 rw [hn] at hl ⊢
 have HZ:=hid (show wholeZ l=(wholeF l 0 == some 1) from rfl)
 clear hrow hr hE hs hn
 go_enter func43,ntmps43
 go_wp2
 go_loopw [3,9] (fun v i wr=>∃k m:Nat,k≤n∧m≤k∧v=.int .i64 m∧i=.int .i64 k∧Hid (wholeF l 0=wholeF (l.drop k) m)∧Hid (Below W.heap.size W wr)) (fun _ i _=>n - (intOf i).toNat)
 case atStart=>exact ⟨0,0,Nat.zero_le _,Nat.le_refl _,rfl,rfl,hid rfl,hid (Below.refl _ _)⟩
 case round =>
  obtain ⟨k,m,hk,hm,rfl,rfl,HF,HB⟩:=hrel
  by_cases hlt:k<n
  ·have hk':k<l.length:=by rw [HN.out];exact hlt
   obtain ⟨t,ht,g,o,rfl,a0,a1,a2⟩:∃t,l[k]=t∧∃g o,q=some ⟨g,o,none⟩∧C ⟨g,o+k*3,none⟩=some (.int .i64 t.kind)∧C ⟨g,o+k*3+1,none⟩=some (.int .i64 t.value)∧C ⟨g,o+k*3+2,none⟩=some (.string t.name):=⟨_,rfl,HROW.out k hk'⟩
   have hcl:=HR.out.trans (ab_ HB.out)
   have e0:wr.cell? ⟨g,o+k*3,none⟩=some (.int .i64 t.kind):=hcl _ _ a0
   have e1:wr.cell? ⟨g,o+k*3+1,none⟩=some (.int .i64 t.value):=hcl _ _ a1
   have e2:wr.cell? ⟨g,o+k*3+2,none⟩=some (.string t.name):=hcl _ _ a2
   have HST:=hid (HS.out t (by rw [←ht];exact List.getElem_mem hk'))
   have HF2:=hid (show wholeF l 0=if rightZ t && decide (wantZ t≤m) then wholeF (l.drop (k+1)) (m - wantZ t+1) else none from by
    rw [HF.out,List.drop_eq_getElem_cons hk',jn_,ht])
   have HT:=hid (b3_ wr t)
   have HB1:=hid (HB.out.trans ((b3_ wr t).mono HB.out.size))
   have HB2:=hid (HB1.out.trans ((b3_ (wr.alloc (tb t)) t).mono HB1.out.size))
   have hw:=q9_ t (wr.alloc (tb t))
   have hg:=hid (good_p t HST.out ((wr.alloc (tb t)).alloc (tb t)) ((HE.out.all HB2.out)))
   have hwl:=want_le t
   have hcell:((wr.alloc (tb t)).alloc (tb t)).heap[wr.heap.size]?=some (tb t):=ad_ _ _ (nwn wr (tb t))
   unfold tb at hcell
   have d0:=aa_ (j:=0) hcell rfl
   have d1:=aa_ (j:=1) hcell rfl
   have d2:=aa_ (j:=2) hcell rfl
   clear a0 a1 a2 hcl ht hk' HF HT hcell HST
   unfold tv tb at *
   have hki:(k:Int)<(n:Int):=by omega
   generalize hwz:wantZ t=wz at *
   clear hwz
   go_wp2_with (go_at_call 78;refine hw.mono ?_;rintro e w1 ⟨rfl,rfl⟩)
   clear e0 e1 e2
   go_at_call 79
   refine hg.out.mono ?_
   rintro e w2 ⟨rfl,hb2⟩
   have HB3:=hid (HB2.out.trans (hb2.mono HB2.out.size))
   clear hb2 d0 d1 d2 hg HB1 HB2 hw
   cases hgd:rightZ t with
   | false =>
    rw [hgd] at HF2
    clear hgd
    go_wp2
    go_ret
    refine ⟨?_,HB3.out⟩
    rw [HZ.out,HF2.out];rfl
   | true =>
    rw [hgd] at HF2
    clear hgd
    by_cases hmw:wz≤m
    ·have hlt2:¬((m:Int)<(wz:Int)):=by omega
     have HF3:=hid (show wholeF l 0=wholeF (l.drop (k+1)) (m - wz+1) from by rw [HF2.out,decide_eq_true hmw];rfl)
     have hadd:((m:Int)+(1 - (wz:Int)))=((m - wz+1:Nat):Int):=by omega
     clear HF2
     go_wp2
     refine ⟨⟨k+1,m - wz+1,by omega,by omega,?_,by go_num,HF3,HB3⟩,by simp [intOf];omega⟩
     exact congrArg (Value.int IntKind.i64) (by omega)
    ·have hlt2:((m:Int)<(wz:Int)):=by omega
     have HF3:=hid (show wholeF l 0=none from by rw [HF2.out,decide_eq_false hmw];rfl)
     clear HF2
     go_wp2
     go_ret
     refine ⟨?_,HB3.out⟩
     rw [HZ.out,HF3.out];rfl
  ·obtain rfl:k=n:=by omega
   have HF3:=hid (show wholeF l 0=some m from by rw [HF.out,List.drop_eq_nil_of_le (by rw [HN.out];exact Nat.le_refl _)];rfl)
   clear HF
   go_wp2
   go_ret
   refine ⟨?_,HB.out⟩
   rw [HZ.out,HF3.out]
   show Ending.returned (.bool ((m:Int) == 1))=.returned (.bool (some m == some 1))
   have:((m:Int) == 1)=(some m == some 1):=by rw [Bool.eq_iff_iff];simp;omega
   rw [this]
end
def pv (s:ByteArray) (x:Int):Value:=.agg #[.string s,.int .i64 x]
def pb (s:ByteArray) (x:Int):Obj:=.cells #[.string s,.int .i64 x] 128
section
variable {W:World}
theorem n6_ (x:Int) (W:World):Calls prog 80 #[.int .i64 x] W fun e w'=>e=.returned (pv ⟨#[]⟩ x)∧W.alloc (pb ⟨#[]⟩ x)=w':=by
 go_enter func80,ntmps80
 go_wp2
 exact bodyPost_ret (v:=pv ⟨#[]⟩ x) (by simp [results,Tryz.results80,go_sem,pv]) rfl ⟨rfl,rfl⟩
theorem told_p (s:ByteArray) (W:World):Calls prog 139 #[.string s] W fun e w'=>e=.returned (pv s 7)∧W.alloc (pb s 7)=w':=by
 go_enter func139,ntmps139
 go_wp2
 exact bodyPost_ret (v:=pv s 7) (by simp [results,Tryz.results139,go_sem,pv]) rfl ⟨rfl,rfl⟩
def sgN (n:Nat):List Nat:=if n≤14 then opMark n else unMark n
theorem sign_p (n:Nat) (h1:1≤n) (h2:n≤17) (W:World):Calls prog 177 #[.int .i64 (n:Int)] W fun e w'=>e=.returned (.string (sb (sgN n)))∧W=w':=by
 have h:n=1∨n=2∨n=3∨n=4∨n=5∨n=6∨n=7∨n=8∨n=9∨n=10∨n=11∨n=12∨n=13∨n=14∨n=15∨n=16∨n=17:=by omega
 clear h1 h2
 rcases h with rfl|rfl|rfl|rfl|rfl|rfl|rfl|rfl|rfl|rfl|rfl|rfl|rfl|rfl|rfl|rfl|rfl
 ·exact sign_1 W
 ·exact sign_2 W
 ·exact sign_3 W
 ·exact sign_4 W
 ·exact sign_5 W
 ·exact sign_6 W
 ·exact sign_7 W
 ·exact sign_8 W
 ·exact sign_9 W
 ·exact vu_ W
 ·exact vv_ W
 ·exact vw_ W
 ·exact vx_ W
 ·exact vy_ W
 ·exact vz_ W
 ·exact v0_ W
 ·exact v1_ W
end
end Go.Proofs.YtpcniebkabkikaaGreatDoor
namespace Go.Proofs.YtpcniebkabkikaaGreatDoor
open Go Go.RowKit Go.Proofs.Mm
structure Kp (B:Nat) (S:Nat→Prop) (w w':World):Prop where
 below:Below B w w'
 keep:∀k o,w.heap[k]?=some o→¬S k→(∀c fz,o≠.cells c 5 fz)→w'.heap[k]?=some o
section
variable {B:Nat} {S S':Nat→Prop} {w w' w'':World}
theorem Kp.refl (B:Nat) (S:Nat→Prop) (w:World):Kp B S w w:=⟨Below.refl _ _,fun _ _ h _ _=>h⟩
theorem Kp.trans (h:Kp B S w w') (k:Kp B S w' w''):Kp B S w w'':=⟨h.below.trans k.below,fun i o hi hn ho=>k.keep i o (h.keep i o hi hn ho) hn ho⟩
theorem Kp.then (h:Kp B S w w') (k:Kp B S' w' w'') (hs:∀i,S' i→S i∨w.heap.size≤i):Kp B S w w'' :=
 ⟨h.below.trans k.below,fun i o hi hn ho=>k.keep i o (h.keep i o hi hn ho) (fun e=>by rcases hs i e with q | q <;> first | exact hn q | (have:=heap_lt hi;omega)) ho⟩
theorem Kp.mono (h:Kp B S w w') (hs:∀i,S i→S' i∨w.heap.size≤i):Kp B S' w w':=⟨h.below,fun i o hi hn ho=>h.keep i o hi (fun e=>by rcases hs i e with q | q <;> first | exact hn q | (have:=heap_lt hi;omega)) ho⟩
theorem Kp.alloc (h:Kp B S w w') (hB:B≤w'.heap.size) (o:Obj):Kp B S w (w'.alloc o):=⟨h.below.alloc hB o,fun i x hi hn ho=>(Below.heap_alloc _ _ _ (heap_lt (h.keep i x hi hn ho))).trans (h.keep i x hi hn ho)⟩
theorem Kp.drewN (h:Kp B S w w') (n:Nat):Kp B S w (w'.drewN n):=⟨Go.below_drewN h.below n,h.keep⟩
theorem Kp.setCell (h:Kp B S w w') {p:Addr} (hp:S p.block∨w.heap.size≤p.block) (hB:B≤p.block) (v:Value):Kp B S w (w'.setCell p v) :=
 ⟨h.below.setCell hB v,fun i x hi hn ho=>(Below.heap_setCell _ _ _ _ (fun e=>by
  rcases hp with q|q
  ·rw [←e] at q;exact hn q
  ·have:=heap_lt hi;omega)).trans (h.keep i x hi hn ho)⟩
theorem Kp.set {b:Nat} (h:Kp B (fun k=>k=b) w w') (hB:B≤b) (i:Nat) (v:Value):Kp B (fun k=>k=b) w (w'.setCell ⟨b,i,none⟩ v):=h.setCell (p:=⟨b,i,none⟩) (.inl rfl) hB v
theorem Kp.of {b:Nat} (hb:Below B w w') (ho:Lib.OthersKept 5 (some b) w w'):Kp B (fun k=>k=b) w w':=⟨hb,fun i o hi hn hx=>ho i o hi (fun e=>hn (by injection e)) hx⟩
theorem Kp.all (hb:Below w.heap.size w w') (hB:B≤w.heap.size):Kp B S w w':=⟨hb.mono hB,fun i _ hi _ _=>(hb.block i (heap_lt hi)).trans hi⟩
theorem Kp.size (h:Kp B S w w'):w.heap.size≤w'.heap.size:=h.below.size
theorem Kp.heap (h:Kp B S w w') {k:Nat} {c:Array Value} {T:TypeId} {fz:Nat × Nat} (hk:w.heap[k]?=some (.cells c T fz)) (hn:¬S k) (hT:T≠5):w'.heap[k]?=some (.cells c T fz) :=
 h.keep k _ hk hn (fun c' fz' e=>by injection e with _ e _;exact hT e)
theorem Kp.grown (h:Kp B S w w') {row:Option Nat} (hg:w'.grownBy w'' row) (hB:B≤w'.heap.size) (hr:∀k,row=some k→B≤k∧∃c fz,w'.heap[k]?=some (.cells c 5 fz)):Kp B S w w'' :=
 ⟨h.below.grown hg hB (fun k hk=>(hr k hk).1),fun i x hi hn ho=>by
  have h1:=h.keep i x hi hn ho
  rw [hg.block i (heap_lt h1) ?_]
  ·exact h1
  ·intro e
   obtain ⟨_,c,fz,hc⟩:=hr i e.symm
   rw [h1] at hc
   exact ho c fz (Option.some.inj hc)⟩
end
structure WrC (B b:Nat) (vp:Value) (lg:Bool) (acc:List Nat) (w:World):Prop where
 low:B≤b
 cell:∃a v,w.heap[b]?=some (.cells #[a,v,.bool lg,vp] 81 (0,0))∧(a=.pointer none∨a=.pointer (some ⟨b,0,none⟩))∧w.ownsRowF B 5 1 v acc.length (Lib.strCells (sb acc))∧v.ownBlock≠some b
def Wr (B b:Nat) (vp:Value) (t:List Nat) (w:World):Prop:=∃lg acc,WrC B b vp lg acc w∧acc.length≤65536∧((lg=false∧acc=t∧∃z,bl z=t)∨(lg=true∧65536<t.length))
theorem Wr.long {B b:Nat} {vp:Value} {t:List Nat} {w:World} {acc:List Nat} (h:WrC B b vp true acc w) (hl:acc.length≤65536) (ht:65536<t.length) (s:List Nat):Wr B b vp (t++s) w:=⟨true,acc,h,hl,.inr ⟨rfl,by rw [nla];omega⟩⟩
theorem sb_app (a c:List Nat):sb (a++c)=sb a++sb c:=by
 apply ByteArray.ext
 rw [ByteArray.data_append]
 unfold sb
 simp
theorem o9_ (a:List Nat):(sb a).size=a.length:=by unfold sb;simp [ByteArray.size]
theorem w8_ (a:List Nat) (s:ByteArray):Lib.strCells (sb (a++bl s))=Lib.strCells (sb a)++Lib.strCells s:=by
 rw [sb_app,db_]
 unfold Lib.strCells
 simp [ByteArray.data_append]
theorem c5_ {w w':World} {base n size:Nat} {E:TypeId} {v:Value} {xs:List Value} (h:w.ownsRowF base E size v n xs) (hk:∀k o,w.heap[k]?=some o→v.ownBlock=some k→w'.heap[k]?=some o):w'.ownsRowF base E size v n xs:=by
 obtain ⟨h1,h2|⟨g,cap,cur,fz,rfl,hb,hc,hr⟩⟩:=h
 ·exact ⟨h1,.inl h2⟩
 ·exact ⟨h1,.inr ⟨g,cap,cur,fz,rfl,hb,hk g _ hc rfl,hr⟩⟩
theorem WrC.keep {B b:Nat} {vp:Value} {lg:Bool} {acc:List Nat} {w w':World} (h:WrC B b vp lg acc w) (hk:Below w.heap.size w w'):WrC B b vp lg acc w':=by
 obtain ⟨h1,a,v,h2,h3,h4,h5⟩:=h
 exact ⟨h1,a,v,(hk.block b (heap_lt h2)).trans h2,h3,c5_ h4 (fun k o h _=>(hk.block k (heap_lt h)).trans h),h5⟩
theorem sizeB:(prog.info? 79).map (·.size)=some 2:=by kernel_rfl
theorem liesW:liesAt prog prog.depth 81 (4 / prog.cellsOf 81) 0 79 1=true:=by kernel_rfl
theorem infoByte:(prog.info? 5).map (fun i=>(i.zero,i.size,i.bytes))=some (some (.int .u8 0),1,1):=by kernel_rfl
theorem zm_ {w:World} {b:Nat} {cs:Array Value} {T:TypeId} {fz:Nat × Nat} (h:w.heap[b]?=some (.cells cs T fz)):w.shape? b=some (T,cs.size):=by
 simp [World.shape?,h]
theorem pa_ (b:Nat) (w:World) (h0:w.cell? ⟨b,0,none⟩=some (.pointer (some ⟨b,0,none⟩))) :
 Calls prog 141 #[.pointer (some ⟨b,0,none⟩)] w fun e w'=>e=.returned (.tuple #[])∧w=w':=by
 obtain ⟨j,hj,_⟩:=Option.map_eq_some_iff.1 sizeB
 go_enter func141,ntmps141
 go_wp2
 rw [Lib.run_neq_ptr_same w _ Tryz.underlying76 hj]
 go_wp2
 go_end0
 exact ⟨rfl,rfl⟩
theorem n7_ (b:Nat) (w:World) (h0:w.cell? ⟨b,0,none⟩=some (.pointer none)) (hsh:w.shape? b=some (81,4)) (hfz:w.frozen? ⟨b,0,none⟩=false) :
 Calls prog 141 #[.pointer (some ⟨b,0,none⟩)] w fun e w'=>e=.returned (.tuple #[])∧w.setCell ⟨b,0,none⟩ (.pointer (some ⟨b,0,none⟩))=w':=by
 obtain ⟨j,hj,hjs⟩:=Option.map_eq_some_iff.1 sizeB
 go_enter func141,ntmps141
 go_wp2
 rw [Lib.run_to_unsafe w ⟨b,0,none⟩ Tryz.underlying76 Tryz.underlying219 hj (by rw [hjs];decide) hsh (Nat.zero_lt_succ 3)]
 simp only [Result.andThen]
 rw [Oper.upon_value]
 go_wp2
 rw [run_callFunc_extern func179 (by kernel_rfl) (by kernel_rfl) (by kernel_rfl) (e:=Extern.AbiNoEscape.same) (by kernel_rfl)]
 rw [Lib.run_noEscape]
 simp only [Result.andThen]
 rw [Oper.upon_value]
 go_wp2
 rw [Lib.run_from_unsafe w ⟨b,0,none⟩ Tryz.underlying219 Tryz.underlying76 hj hsh liesW]
 simp only [Result.andThen]
 rw [Oper.upon_value]
 go_wp2
 go_end0
 exact ⟨rfl,rfl⟩
structure WrU (B b:Nat) (vp:Value) (lg:Bool) (acc:List Nat) (w:World):Prop where
 low:B≤b
 cell:∃v,w.heap[b]?=some (.cells #[.pointer (some ⟨b,0,none⟩),v,.bool lg,vp] 81 (0,0))∧w.ownsRowF B 5 1 v acc.length (Lib.strCells (sb acc))∧v.ownBlock≠some b
section
variable {B b:Nat} {vp:Value} {lg:Bool} {acc:List Nat} {w:World}
theorem check_w (h:WrC B b vp lg acc w) :
 Calls prog 141 #[.pointer (some ⟨b,0,none⟩)] w fun e w'=>e=.returned (.tuple #[])∧WrU B b vp lg acc w'∧Kp B (fun k=>k=b) w w'∧w.heap.size=w'.heap.size:=by
 obtain ⟨h1,a,v,h2,rfl|rfl,h4,h5⟩:=h
 ·refine (n7_ b w (aa_ h2 rfl) (zm_ h2) (ag_ h2)).mono ?_
  rintro e w' ⟨rfl,rfl⟩
  refine ⟨rfl,⟨h1,v,ao_ h2 0 _,c5_ h4 (fun k o hk hv=>bh_ hk (fun e=>h5 (by rw [hv,e]))),h5⟩,(Kp.refl _ _ _).set h1 _ _,by simp [World.setCell]⟩
 ·refine (pa_ b w (aa_ h2 rfl)).mono ?_
  rintro e w' ⟨rfl,rfl⟩
  exact ⟨rfl,⟨h1,v,h2,h4,h5⟩,Kp.refl _ _ _,rfl⟩
theorem ma_ (h:WrC B b vp lg acc w) (hB:B≤w.heap.size) (s:ByteArray) (hlen:acc.length+s.size≤140737488355328) :
 Calls prog 83 #[.pointer (some ⟨b,0,none⟩),.string s] w fun e w'=>e=.returned (.tuple #[.int .i64 s.size,.nilIface])∧WrC B b vp lg (acc++bl s) w'∧Kp B (fun k=>k=b) w w':=by
 obtain ⟨i0,hi,hz0,hz1,hz2⟩:=info_parts infoByte
 go_enter func83,ntmps83
 go_wp2_with (go_at_call 141;refine (check_w h).mono ?_)
 rintro e w1 ⟨rfl,⟨hlow,v,hbk,hown,hne⟩,hk1,hs1⟩
 have hlt:=heap_lt hbk
 have c0:w1.cell? ⟨b,0,none⟩=some (.pointer (some ⟨b,0,none⟩)):=aa_ hbk rfl
 have c1:w1.cell? ⟨b,1,none⟩=some v:=aa_ hbk rfl
 go_wp2_with (at_builtin;refine Lib.wpList_append_own_stringF _ rfl _ _ 77 9 rfl B 5 i0 Tryz.underlying77 Tryz.underlying9 hi hz0 hz1 hz2 _ _ _ rfl hown s rfl ?c3 ?c4 ?c5 ?_)
 case c3=>unfold maxLen;omega
 case c4=>omega
 case c5=>omega
 intro v' w2 hown' hgrow _
 have hb2:w2.heap[b]?=some (.cells #[.pointer (some ⟨b,0,none⟩),v,.bool lg,vp] 81 (0,0)):=by
  rw [hgrow.block b hlt (fun e=>hne e.symm)]
  exact hbk
 have hne':=Lib.ownBlock_neF hown' hb2 (by decide)
 have d0:w2.cell? ⟨b,0,none⟩=some (.pointer (some ⟨b,0,none⟩)):=aa_ hb2 rfl
 have d1:w2.cell? ⟨b,1,none⟩=some v:=aa_ hb2 rfl
 have f1:w2.frozen? ⟨b,1,none⟩=false:=ag_ hb2
 have hk2:=hid (hk1.grown hgrow (by omega) (fun k hk=>⟨(hown.lt k hk).1,Lib.ownsRowF_kind hown k hk⟩))
 have HB2:=hid hb2
 have HO:=hid hown'
 have HN:=hid hne'
 have HL:=hid hlow
 obtain ⟨ao,n',cap,rfl⟩:∃ao n' cap,v'=.slice ao n' cap:=by
  rcases hown'.2 with ⟨hv,_⟩|⟨g,cap,cur,fz,hv,_⟩
  ·exact ⟨_,_,_,hv⟩
  ·exact ⟨_,_,_,hv⟩
 clear hbk hb2 hown hown' hgrow hk1 hne hne' hlow h
 go_wp2
 go_ret2
 refine ⟨rfl,⟨HL.out,_,_,ao_ HB2.out 1 _,.inr rfl,?_,HN.out⟩,hk2.out.set HL.out _ _⟩
 rw [w8_,nla,ae_]
 exact c5_ HO.out (fun k o hk hv=>bh_ hk (fun e=>HN.out (by rw [hv,e])))
end
structure PI (C:Cl) (B b:Nat) (vp:Value) (t:List Nat) (W:World):Prop where
 rd:CLe C (wC W)
 env:EnvP W
 wr:Wr B b vp t W
 low:B≤W.heap.size
structure PC (C:Cl) (B:Nat):Prop where
 dom:∀a v,C a=some v→a.block<B
 b7:6<B
section
variable {C:Cl} {B b:Nat} {vp:Value} {t:List Nat} {W W':World}
theorem PC.rd (hc:PC C B) (h:CLe C (wC W)) (hb:Below B W W'):CLe C (wC W'):=fun a v e=>(hb.cell (p:=a) (hc.dom a v e)).trans (h a v e)
theorem PI.next (h:PI C B b vp t W) (hc:PC C B) {S:Nat→Prop} (hk:Kp B S W W') {t':List Nat} (hw:Wr B b vp t' W'):PI C B b vp t' W':=⟨hc.rd h.rd hk.below,h.env.below hk.below hc.b7,hw,Nat.le_trans h.low hk.size⟩
theorem Wr.keep (h:Wr B b vp t W) (hk:Below W.heap.size W W'):Wr B b vp t W':=let ⟨lg,acc,a,c⟩:=h;⟨lg,acc,a.keep hk,c⟩
theorem PI.all (h:PI C B b vp t W) (hc:PC C B) (hb:Below W.heap.size W W'):PI C B b vp t W':=h.next (S:=fun _=>False) hc (Kp.all hb h.low) (h.wr.keep hb)
theorem PI.alloc (h:PI C B b vp t W) (hc:PC C B) (o:Obj):PI C B b vp t (W.alloc o):=h.all hc ((Below.refl _ _).alloc (Nat.le_refl _) o)
theorem PI.long (h:PI C B b vp t W) {acc:List Nat} (hw:WrC B b vp true acc W) (hl:acc.length≤65536) (ht:65536<t.length) (s:List Nat):PI C B b vp (t++s) W:=⟨h.rd,h.env,Wr.long hw hl ht s,h.low⟩
theorem WrC.raw {lg:Bool} {acc:List Nat} (h:WrC B b vp lg acc W):W.cell? ⟨b,2,none⟩=some (.bool lg)∧W.cell? ⟨b,3,none⟩=some vp∧W.frozen? ⟨b,2,none⟩=false∧∃q c,W.cell? ⟨b,1,none⟩=some (.slice q acc.length c):=by
 obtain ⟨_,a,v,h1,_,h2,_⟩:=h
 refine ⟨aa_ h1 rfl,aa_ h1 rfl,ag_ h1,?_⟩
 rcases h2.2 with ⟨rfl,h0⟩|⟨g,cap,cur,fz,rfl,_⟩
 ·exact ⟨_,_,by rw [h0];exact aa_ h1 rfl⟩
 ·exact ⟨_,_,aa_ h1 rfl⟩
theorem bl_cat (a c:ByteArray):bl (a++c)=bl a++bl c:=by
 unfold bl
 rw [ByteArray.data_append,Array.toList_append,List.map_append]
theorem len_w {lg:Bool} {acc:List Nat} (h:WrC B b vp lg acc W):Calls prog 103 #[.pointer (some ⟨b,0,none⟩)] W fun e w'=>e=.returned (.int .i64 (acc.length:Int))∧W=w':=by
 obtain ⟨_,_,_,q,c,h1⟩:=h.raw
 clear h
 go_enter func103,ntmps103
 go_wp2
 go_ret
 exact ⟨rfl,rfl⟩
theorem WrC.setLong {lg:Bool} {acc:List Nat} (h:WrC B b vp lg acc W):WrC B b vp true acc (W.setCell ⟨b,2,none⟩ (.bool true)):=by
 obtain ⟨h1,a,v,h2,h3,h4,h5⟩:=h
 exact ⟨h1,a,v,ao_ h2 2 _,h3,c5_ h4 (fun k o hk hv=>bh_ hk (fun e=>h5 (by rw [hv,e]))),h5⟩
theorem aw_ (hc:PC C B) (h:PI C B b vp t W) (s:ByteArray) (_hs:s.size≤140737488355327) :
 Calls prog 57 #[.pointer (some ⟨b,0,none⟩),.string s] W fun e w'=>e=.returned (.tuple #[])∧PI C B b vp (t++bl s) w'∧Kp B (fun k=>k=b) W w':=by
 obtain ⟨lg,acc,hw,hl,hx⟩:=h.wr
 have hL:=len_w hw
 obtain ⟨c2,_,f2,q,c,c1⟩:=hw.raw
 have HC:=hid hc
 have HP:=hid h
 have HW:=hid hw
 clear h
 have HBL:=hid (ae_ s)
 rcases hx with ⟨rfl,rfl,hzz⟩|⟨rfl,ht⟩
 ·have HZZ:=hid (show ∃z,bl z=acc++bl s from by obtain ⟨z,hz⟩:=hzz;exact ⟨z++s,by rw [bl_cat,hz]⟩)
  clear hzz
  by_cases hgt:65536<acc.length+s.size
  ·have e1:(((65536:Int) - (acc.length:Int))<(s.size:Int)):=by omega
   have HN:=hid (show Wr B b vp (acc++bl s) (W.setCell ⟨b,2,none⟩ (.bool true)) from ⟨true,acc,HW.out.setLong,hl,.inr ⟨rfl,by rw [nla,HBL.out];omega⟩⟩)
   clear hw hgt
   go_enter func57,ntmps57
   go_wp2_with (go_at_call 103;refine hL.mono ?_;rintro e w' ⟨rfl,rfl⟩)
   first|go_end0|refine bodyPost_ret (results_none rfl _ _ _) rfl ?_
   have hk:Kp B (fun k=>k=b) W (W.setCell ⟨b,2,none⟩ (.bool true)):=(Kp.refl _ _ _).set HW.out.low _ _
   exact ⟨rfl,HP.out.next HC.out hk HN.out,hk⟩
  ·have e1:¬(((65536:Int) - (acc.length:Int))<(s.size:Int)):=by omega
   have hws:=ma_ hw HP.out.low s (by omega)
   have hgt2:acc.length+s.size≤65536:=by omega
   clear hw hgt
   go_enter func57,ntmps57
   go_wp2_with (go_at_call 103;refine hL.mono ?_;rintro e w' ⟨rfl,rfl⟩)
   go_at_call 83
   refine hws.mono ?_
   rintro e w1 ⟨rfl,hw1,hk1⟩
   go_wp2
   first|go_end0|refine bodyPost_ret (results_none rfl _ _ _) rfl ?_
   exact ⟨rfl,HP.out.next HC.out hk1 ⟨false,_,hw1,by rw [nla,HBL.out];omega,.inl ⟨rfl,rfl,HZZ.out⟩⟩,hk1⟩
 ·clear hw
  have HT:=hid ht
  clear ht
  go_enter func57,ntmps57
  go_wp2
  first|go_end0|refine bodyPost_ret (results_none rfl _ _ _) rfl ?_
  have hk:Kp B (fun k=>k=b) W (W.setCell ⟨b,2,none⟩ (.bool true)):=(Kp.refl _ _ _).set HW.out.low _ _
  exact ⟨rfl,HP.out.next HC.out hk (Wr.long HW.out.setLong hl HT.out _),hk⟩
end
structure StV where
 k:Int
 nm:ByteArray
 q1:Option Addr
 n1:Nat
 c1:Nat
 q2:Option Addr
 n2:Nat
 c2:Nat
structure FnV where
 nm:ByteArray
 lv:Nat
 q1:Option Addr
 n1:Nat
 c1:Nat
 q2:Option Addr
 n2:Nat
 c2:Nat
 q3:Option Addr
 n3:Nat
 c3:Nat
 q4:Option Addr
 n4:Nat
 c4:Nat
theorem fl_ {α:Type} {l:List α} {F A I:Nat→List Nat} (hF:∀k,k<l.length→F (k+1)=F k++A k++I k) {k:Nat} (hk:k≤l.length):∃r,F l.length=F k++r:=by
 have h:∀d,k+d≤l.length→∃r,F (k+d)=F k++r:=by
  intro d
  induction d with
  | zero=>exact fun _=>⟨[],by simp⟩
  | succ d ih =>
   intro h
   obtain ⟨r,hr⟩:=ih (by omega)
   exact ⟨r++A (k+d)++I (k+d),by rw [←Nat.add_assoc,hF (k+d) (by omega),hr];simp [nlb]⟩
 obtain ⟨r,hr⟩:=h (l.length - k) (by omega)
 exact ⟨r,by rw [←hr];congr 1;omega⟩
section
variable {C:Cl} {B b:Nat} {vp:Value} {t:List Nat} {W:World}
theorem put_p (hc:PC C B) (h:PI C B b vp t W) (l:List ByteArray) (hl:l.length≤100) (hs:∀s∈l,s.size≤140737488355327) {g c:Nat} (hg:W.heap[g]?=some (.cells (l.map Value.string).toArray 9 (0,0))) (hgb:g≠b) :
 Calls prog 111 #[.pointer (some ⟨b,0,none⟩),.slice (some ⟨g,0,none⟩) l.length c] W fun e w'=>e=.returned (.tuple #[])∧PI C B b vp (t++l.flatMap bl) w'∧Kp B (fun k=>k=b) W w':=by
 have HC:=hid hc
 have HP:=hid h
 have HG:=hid hg
 have HS:=hid hs
 obtain ⟨n,hn⟩:∃n,l.length=n:=⟨_,rfl⟩
 have HN:=hid hn
 rw [hn] at hl ⊢
 clear h hg hs hn hc
 go_enter func111,ntmps111
 go_wp2
 go_loopw [8] (fun i wr=>∃k:Nat,k≤n∧i=.int .i64 k∧PI C B b vp (t++(l.take k).flatMap bl) wr∧Kp B (fun k=>k=b) W wr) (fun i _=>n - (intOf i).toNat)
 case atStart=>exact ⟨0,Nat.zero_le _,rfl,by simpa using HP.out,Kp.refl _ _ _⟩
 case round =>
  obtain ⟨k,hk,rfl,hp,hkp⟩:=hrel
  by_cases hlt:k<n
  ·have hk':k<l.length:=by rw [HN.out];exact hlt
   have c0:wr.cell? ⟨g,k,none⟩=some (.string l[k]):=aa_ (hkp.heap HG.out hgb (by decide)) (by simp [hk'])
   have hw:=aw_ HC.out hp l[k] (HS.out _ (List.getElem_mem hk'))
   have HE:=hid (show t++(l.take (k+1)).flatMap bl=t++(l.take k).flatMap bl++bl l[k] from by rw [List.take_succ_eq_append_getElem hk',List.flatMap_append,nlb];simp)
   have HK:=hid hkp
   clear hp hkp
   generalize l[k]=s at *
   clear hk'
   have hki:(k:Int)<(n:Int):=by omega
   go_wp2_with (go_at_call 57;refine hw.mono ?_;rintro e w1 ⟨rfl,hp1,hk1⟩)
   refine ⟨⟨k+1,by omega,by go_num,?_,HK.out.trans hk1⟩,by simp [intOf];omega⟩
   rw [HE.out];exact hp1
  ·obtain rfl:k=n:=by omega
   have HE:=hid (show (l.take k)=l from by rw [←HN.out];exact List.take_length)
   go_wp2
   first|go_end0|refine bodyPost_ret (results_none rfl _ _ _) rfl ?_
   rw [HE.out] at hp
   exact ⟨rfl,hp,hkp⟩
end
section
variable {C:Cl} {B b:Nat} {vp:Value} {t:List Nat} {W:World}
theorem Kp.setAt {S:Nat→Prop} {w w':World} (h:Kp B S w w') {g:Nat} (hp:S g∨w.heap.size≤g) (hB:B≤g) (i:Nat) (v:Value):Kp B S w (w'.setCell ⟨g,i,none⟩ v):=h.setCell (p:=⟨g,i,none⟩) hp hB v
def btC (g:Nat):Array Value:=#[.pointer (some ⟨g+2,0,none⟩),.pointer (some ⟨g,0,none⟩),.pointer (some ⟨g+1,0,none⟩)]
structure BtS (b g:Nat) (s:ByteArray) (fst:Bool) (w:World):Prop where
 c0:w.heap[g]?=some (.cells #[.pointer (some ⟨b,0,none⟩)] 75 (0,0))
 c1:w.heap[g+1]?=some (.cells #[.string s] 9 (0,0))
 c2:w.heap[g+2]?=some (.cells #[.bool fst] 4 (0,0))
theorem BtS.keep {g:Nat} {s:ByteArray} {f:Bool} {w w':World} (h:BtS b g s f w) (hb:Below w.heap.size w w'):BtS b g s f w' :=
 ⟨(hb.block _ (heap_lt h.c0)).trans h.c0,(hb.block _ (heap_lt h.c1)).trans h.c1,(hb.block _ (heap_lt h.c2)).trans h.c2⟩
theorem BtS.kp {g:Nat} {s:ByteArray} {f:Bool} {w w':World} (h:BtS b g s f w) (hb:Kp B (fun k=>k=b) w w') (hn:b<g):BtS b g s f w' :=
 ⟨hb.heap h.c0 (by omega) (by decide),hb.heap h.c1 (by omega) (by decide),hb.heap h.c2 (by omega) (by decide)⟩
theorem es_ (hc:PC C B) (h:PI C B b vp t W) (s:ByteArray) :
 Calls prog 59 #[.pointer (some ⟨b,0,none⟩),.string s] W fun e w'=>e=.returned (.func (.func 104) #[] (btC W.heap.size))∧PI C B b vp t w'∧Below W.heap.size W w'∧BtS b W.heap.size s true w'∧w'.heap.size=W.heap.size+3:=by
 have HB:=hid ((((Below.refl W.heap.size W).alloc (Nat.le_refl _) (.cells #[.pointer (some ⟨b,0,none⟩)] 75)).alloc (by simp) (.cells #[.string s] 9)).alloc (by simp;omega) (.cells #[.bool true] 4))
 have HP:=hid h
 have HC:=hid hc
 clear h hc
 go_enter func59,ntmps59
 go_wp2
 go_ret
 refine ⟨rfl,HP.out.all HC.out HB.out,HB.out,⟨?_,?_,?_⟩,by simp⟩
 ·exact ad_ _ _ (ad_ _ _ (nwn W _))
 ·have:=nwn (W.alloc (.cells #[.pointer (some ⟨b,0,none⟩)] 75)) (.cells #[.string s] 9)
  rw [nwz] at this
  exact ad_ _ _ this
 ·have:=nwn ((W.alloc (.cells #[.pointer (some ⟨b,0,none⟩)] 75)).alloc (.cells #[.string s] 9)) (.cells #[.bool true] 4)
  rw [nwz,nwz] at this
  exact this
theorem e3_ (hc:PC C B) (h:PI C B b vp t W) {g:Nat} {s:ByteArray} {f:Bool} (hs:s.size≤140737488355327) (hb:BtS b g s f W) (hg:b<g) :
 Calls prog 104 (btC g) W fun e w'=>e=.returned (.tuple #[])∧PI C B b vp (t++if f then [] else bl s) w'∧BtS b g s false w'∧Kp B (fun k=>k=b∨k=g+2) W w':=by
 have HP:=hid h
 have HC:=hid hc
 have HB:=hid hb
 have a0:=aa_ hb.c0 (j:=0) rfl
 have a1:=aa_ hb.c1 (j:=0) rfl
 have a2:=aa_ hb.c2 (j:=0) rfl
 have f2:=ag_ hb.c2 (j:=0)
 have hlow:B≤b:=by obtain ⟨_,_,hw,_⟩:=h.wr;exact hw.low
 have hw:=aw_ hc h s hs
 clear h hc hb
 unfold btC
 have HEND:∀(w1:World) (t':List Nat),PI C B b vp t' w1→Kp B (fun k=>k=b) W w1→PI C B b vp t' (w1.setCell ⟨g+2,0,none⟩ (.bool false))∧BtS b g s false (w1.setCell ⟨g+2,0,none⟩ (.bool false))∧Kp B (fun k=>k=b∨k=g+2) W (w1.setCell ⟨g+2,0,none⟩ (.bool false)):=by
  intro w1 t' hp hk
  have hb1:=HB.out.kp hk hg
  have hk2:Kp B (fun k=>k=b∨k=g+2) W (w1.setCell ⟨g+2,0,none⟩ (.bool false)):=(hk.mono (S':=fun k=>k=b∨k=g+2) (fun i e=>.inl (.inl e))).setAt (g:=g+2) (.inl (.inr rfl)) (by omega) _ _
  have hk3:Kp B (fun k=>k=g+2) w1 (w1.setCell ⟨g+2,0,none⟩ (.bool false)):=(Kp.refl B (fun k=>k=g+2) w1).setAt (g:=g+2) (.inl rfl) (by omega) _ _
  refine ⟨hp.next HC.out hk3 ?_,⟨bh_ hb1.c0 (by omega),bh_ hb1.c1 (by omega),ao_ hb1.c2 0 _⟩,hk2⟩
  obtain ⟨lg,acc,hw,hl,hx⟩:=hp.wr
  obtain ⟨h1,a,v,h2,h3,h4,h5⟩:=hw
  refine ⟨lg,acc,⟨h1,a,v,bh_ h2 (by omega),h3,c5_ h4 (fun k o hk hv=>bh_ hk (fun e=>?_)),h5⟩,hl,hx⟩
  subst e
  obtain ⟨c,fz,hcc⟩:=Lib.ownsRowF_kind h4 _ hv
  have:=hb1.c2.symm.trans hcc
  simp at this
 have HE:=hid HEND
 clear HEND
 cases f with
 | true =>
  clear hw
  go_enter func104,ntmps104
  go_wp2
  go_end0
  obtain ⟨x,y,z⟩:=HE.out _ _ HP.out (Kp.refl _ _ _)
  exact ⟨rfl,by simpa using x,y,z⟩
 | false =>
  go_enter func104,ntmps104
  go_wp2_with (go_at_call 57;refine hw.mono ?_)
  rintro e w1 ⟨rfl,hp1,hk1⟩
  have hb1:=HB.out.kp hk1 hg
  have a2:=aa_ hb1.c2 (j:=0) rfl
  have f2:=ag_ hb1.c2 (j:=0)
  have HP1:=hid hp1
  have HK1:=hid hk1
  clear hp1 hk1 hb1
  go_wp2
  go_end0
  obtain ⟨x,y,z⟩:=HE.out _ _ HP1.out HK1.out
  exact ⟨rfl,by simpa using x,y,z⟩
theorem gf_ {α:Type} (s:List Nat) (f:α→List Nat) (l:List α) (k:Nat) (hk:k<l.length):sepZ s f (l.take (k+1))=sepZ s f (l.take k)++(if (k == 0)=true then [] else s)++f l[k]:=by
 rw [List.take_succ_eq_append_getElem hk,w5_,List.length_take,Nat.min_eq_left (by omega),nlb]
 by_cases h:k=0 <;> simp [h]
theorem jo_ {α:Type} (f:α→List Nat) (l:List α) (k:Nat) (hk:k<l.length):(l.take (k+1)).flatMap f=(l.take k).flatMap f++[]++f l[k]:=by
 rw [List.take_succ_eq_append_getElem hk,List.flatMap_append];simp
end
end Go.Proofs.YtpcniebkabkikaaGreatDoor
namespace Go.Proofs.YtpcniebkabkikaaGreatDoor.Bt
open Go Go.RowKit
theorem gl_short (ns:List ByteArray):∀(n k:Nat),((gl ns n).getD k ByteArray.empty).size≤32
 | 0,k=>by
  have:(gl ns 0).getD k ByteArray.empty=ByteArray.empty:=by
   simp only [gl,List.getD_eq_getElem?_getD,List.getElem?_replicate]
   split <;> rfl
  rw [this];decide
 | n+1,k=>by
  have ih:=gl_short ns n
  unfold gl
  split
  ·rename_i h
   by_cases e:n=k
   ·subst e
    by_cases hn:n<(gl ns n).length
    ·rw [List.getD_eq_getElem?_getD,List.getElem?_set_self hn]
     simp only [Option.getD_some]
     rw [Lib.size_eq]
     have hw:=(Bool.and_eq_true _ _ ▸ h).1
     generalize (ns.getD n ByteArray.empty).data.toList=l at hw
     cases l with
     | nil=>simp
     | cons c l =>
      simp only [wfB,Bool.and_eq_true,decide_eq_true_eq] at hw
      exact hw.1
    ·rw [List.set_eq_of_length_le (by omega)];exact ih n
   ·rw [List.getD_eq_getElem?_getD,List.getElem?_set_ne e,←List.getD_eq_getElem?_getD];exact ih k
  ·exact ih k
theorem textB_short (ns:List ByteArray) (n x:Nat):(textB (gl ns n) x).length≤3000:=by
 have h:=d6_ (gl ns n) (gl_short ns n) (bitsOf x) (nz_ x)
 have h1:=d4_ x
 have h2:=l9_ 64 x
 unfold textB
 rw [nla,nlc]
 omega
end Go.Proofs.YtpcniebkabkikaaGreatDoor.Bt
namespace Go.Proofs.YtpcniebkabkikaaGreatDoor
open Go Go.RowKit Go.Proofs.Mm
theorem zn_ (l:List UInt8):bl ⟨l.toArray⟩=l.map UInt8.toNat:=by unfold bl;simp
structure PV (C:Cl) (vp:Value) (ns:List ByteArray):Prop where
 row:∃p c,vp=.slice p ns.length c∧∀i,i<ns.length→∃g o,p=some ⟨g,o,none⟩∧C ⟨g,o+i,none⟩=some (.string (ns.getD i ByteArray.empty))
 len:ns.length≤maxLen
 sz:∀i,(ns.getD i ByteArray.empty).size≤140737488355327
section
variable {C:Cl} {B b:Nat} {vp:Value} {t:List Nat} {W:World} {ns:List ByteArray}
theorem pb_ (hc:PC C B) (hv:PV C vp ns) (h:PI C B b vp t W) (x:Nat) (hx:x<18446744073709551616) :
 Calls prog 113 #[.pointer (some ⟨b,0,none⟩),.int .u64 (x:Int)] W fun e w'=>e=.returned (.tuple #[])∧PI C B b vp (t++lbZ ns x) w'∧Kp B (fun k=>k=b) W w':=by
 obtain ⟨⟨p,c,rfl,hrow⟩,hlen,hsz⟩:=hv
 obtain ⟨lg,acc,hw,_⟩:=h.wr
 obtain ⟨_,c3,_⟩:=hw.raw
 have ht:=Bt.text_any x hx p c ns W hlen (fun i=>Nat.le_trans (hsz i) (by unfold maxLen;omega)) (fun i hi=>by
  obtain ⟨g,o,h1,h2⟩:=hrow i hi
  have h3:=h.rd _ _ h2
  exact ⟨g,o,h1,World.block_lt_of_cell? _ _ h3,h3⟩) h.env.tz (by have:=h.env.lt;omega) (Bt.gl_short _ _)
 have HB:=hid (Bt.textB_short ns (min ns.length 64) x)
 have HL:=hid (show lbZ ns x=bl ⟨(Bt.textB (Bt.gl ns (min ns.length 64)) x).toArray⟩ from (zn_ _).symm)
 have HP:=hid h
 have HC:=hid hc
 clear h hc hrow hsz hw
 generalize Bt.textB (Bt.gl ns (min ns.length 64)) x=tx at *
 go_enter func113,ntmps113
 go_wp2_with (go_at_call 162;refine ht.mono ?_)
 rintro e w1 ⟨rfl,hb1⟩
 have hp1:=HP.out.all HC.out hb1
 have hw1:=hid (aw_ HC.out hp1 ⟨tx.toArray⟩ (by have:=HB.out;simp [ByteArray.size];omega))
 have HK1:=hid (Kp.all (S:=fun k=>k=b) hb1 HP.out.low)
 clear hb1 hp1 ht
 go_wp2_with fail
 go_at_call 57
 refine hw1.out.mono ?_
 rintro e w2 ⟨rfl,hp2,hk2⟩
 go_wp2_with fail
 first|go_end0|refine bodyPost_ret (results_none rfl _ _ _) rfl ?_
 exact ⟨rfl,by rw [HL.out];exact hp2,HK1.out.trans hk2⟩
theorem w9_ (hc:PC C B) (hv:PV C vp ns) (h:PI C B b vp t W) (d:DeZ) (hx:d.label<18446744073709551616) (hn:d.name.size≤140737488355327) :
 Calls prog 108 #[.pointer (some ⟨b,0,none⟩),.agg #[.string d.name,.int .u64 (d.label:Nat)]] W fun e w'=>e=.returned (.tuple #[])∧PI C B b vp (t++declZ ns d) w'∧Kp B (fun k=>k=b) W w':=by
 have HD:=hid (show declZ ns d=bl d.name++[32]++lbZ ns d.label from by unfold declZ;simp)
 have hbW:b<W.heap.size:=by obtain ⟨_,_,hw,_⟩:=h.wr;obtain ⟨_,_,_,hw,_⟩:=hw;exact heap_lt hw
 obtain ⟨A,hA⟩:∃A,Obj.cells #[.string d.name,.int .u64 (d.label:Nat)] 59=A:=⟨_,rfl⟩
 obtain ⟨R,hR⟩:∃R,Obj.cells #[.string d.name,.string ⟨#[32]⟩] 9=R:=⟨_,rfl⟩
 have hP1:=h.alloc hc A
 have hP2:=hP1.alloc hc R
 have hK:Kp B (fun k=>k=b) W ((W.alloc A).alloc R):=((Kp.refl B (fun k=>k=b) W).alloc h.low A).alloc hP1.low R
 have hA2:((W.alloc A).alloc R).heap[W.heap.size]?=some A:=ad_ _ _ (nwn W A)
 have hR2:((W.alloc A).alloc R).heap[W.heap.size+1]?=some R:=by have:=nwn (W.alloc A) R;rwa [nwz] at this
 have hput:=put_p (c:=2) hc hP2 [d.name,⟨#[32]⟩] (by simp) (by
  intro s hs
  rcases List.mem_cons.1 hs with rfl|hs
  ·exact hn
  ·rw [List.mem_singleton] at hs;subst hs;decide) (by rw [hR2,←hR];rfl) (show W.heap.size+1≠b by omega)
 have HPUT:=hid hput
 have HA2:=hid hA2
 have HK:=hid hK
 have HC:=hid hc
 have HV:=hid hv
 clear h hc hv hP1 hP2 hK hA2 hR2 hput
 subst hA;subst hR
 go_enter func108,ntmps108
 go_wp2_with fail
 go_at_call 111
 refine HPUT.out.mono ?_
 rintro e w1 ⟨rfl,hp1,hk1⟩
 have hb1:=hk1.heap HA2.out (by omega) (by decide)
 have d1:=aa_ hb1 (j:=1) rfl
 have HL:=hid (pb_ HC.out HV.out hp1 d.label hx)
 have HK1:=hid (HK.out.trans hk1)
 clear hp1 hk1 hb1
 go_wp2_with fail
 go_at_call 113
 refine HL.out.mono ?_
 rintro e w2 ⟨rfl,hp2,hk2⟩
 go_wp2_with fail
 first|go_end0|refine bodyPost_ret (results_none rfl _ _ _) rfl ?_
 refine ⟨rfl,?_,HK1.out.trans hk2⟩
 rw [HD.out]
 have h32:bl ⟨#[32]⟩=[32]:=rfl
 simpa [nlb,h32] using hp2
end
end Go.Proofs.YtpcniebkabkikaaGreatDoor
namespace Go.Proofs.YtpcniebkabkikaaGreatDoor
open Go Go.RowKit Go.Proofs.Mm
open Go.Proofs.Syn (Tm opLv opMark unMark b1_)
theorem hl_ (s:ByteArray) (W:World):Calls prog 139 #[.string s] W fun e w'=>e=.returned (pv s 7)∧Below W.heap.size W w':=(told_p s W).mono fun _ _ ⟨h,k⟩=>⟨h,k ▸ (Below.refl _ _).alloc (Nat.le_refl _) _⟩
theorem n8_ (x:Int) (W:World):Calls prog 80 #[.int .i64 x] W fun e w'=>e=.returned (pv ⟨#[]⟩ x)∧Below W.heap.size W w':=(n6_ x W).mono fun _ _ ⟨h,k⟩=>⟨h,k ▸ (Below.refl _ _).alloc (Nat.le_refl _) _⟩
theorem ac_ {a b c:World} (h:Below a.heap.size a b) (k:Below b.heap.size b c):Below a.heap.size a c:=h.trans (k.mono h.size)
theorem bb_ {a b:World} (h:Below a.heap.size a b) (o:Obj):Below a.heap.size a (b.alloc o):=h.alloc h.size o
def ptC (p:Pt):List Value:=[.string (sb p.1),.int .i64 (p.2:Nat)]
def ptCells (ps:List Pt):List Value:=ps.flatMap ptC
def PtNew (W:World) (ps:List Pt) (e:Ending) (w':World):Prop:=∃g,e=.returned (.slice (some ⟨g,0,none⟩) ps.length ps.length)∧W.heap.size≤g∧w'.heap[g]?=some (.cells (ptCells ps).toArray 128 (0,0))∧Below W.heap.size W w'
theorem PtNew.mk {W w3:World} {ps:List Pt} {l:List Value} (hl:l=ptCells ps) (hb:Below W.heap.size W w3) {n:Nat} (hn:n=ps.length):PtNew W ps (.returned (.slice (some ⟨w3.heap.size,0,none⟩) n n)) (w3.alloc (.cells l.toArray 128)):=by
 subst hl;subst hn
 exact ⟨_,rfl,hb.size,nwn _ _,bb_ hb _⟩
theorem dg_int {v:Int} (h:0≤v) (_h2:v≤9223372036854775807):(⟨(Lib.itoa v).toArray⟩:ByteArray)=sb (dgN v.toNat):=by
 obtain ⟨n,rfl⟩:∃n:Nat,v=n:=⟨v.toNat,by omega⟩
 rw [←db_ ⟨(Lib.itoa n).toArray⟩,zn_]
 rfl
section
variable {W:World}
theorem fmt_b (v:Int) (h0:0≤v) (h1:v≤9223372036854775807) (W:World) (hE:EnvP W):Calls prog 176 #[.int .i64 v,.int .i64 10] W fun e w'=>e=.returned (.string (sb (dgN v.toNat)))∧Below W.heap.size W w' :=
 (Tryz.strconv_FormatInt_10 v (by omega) h1 W hE.pow).mono fun e w' ⟨he,k,os,hw⟩=>⟨by rw [he,dg_int h0 h1],hw ▸ Lib.below_grow _ _ (Nat.le_refl _) k os⟩
theorem parts_1 (v:Int) (s:ByteArray) (h0:0≤v) (h1:v≤9223372036854775807) (W:World) (hE:EnvP W) (hlv:Calls prog 47 #[tv ⟨1,v,s⟩] (W.alloc (tb ⟨1,v,s⟩)) fun e w'=>e=.returned (.int .i64 7)∧(W.alloc (tb ⟨1,v,s⟩)).alloc (tb ⟨1,v,s⟩)=w') :
 Calls prog 137 #[tv ⟨1,v,s⟩] W (PtNew W [(dgN v.toNat,7)]):=by
 have HB:=hid (bb_ (b3_ W ⟨1,v,s⟩) (tb ⟨1,v,s⟩))
 have HF:=hid (fmt_b v h0 h1 _ (hE.all HB.out))
 unfold tv tb at *
 clear h0 h1 hE
 go_enter func137,ntmps137
 go_wp2_with (go_at_call 47;refine hlv.mono ?_;rintro e w' ⟨rfl,rfl⟩)
 go_at_call 176
 refine HF.out.mono ?_
 rintro e w1 ⟨rfl,hb1⟩
 have HB1:=hid (ac_ HB.out hb1)
 clear hb1 HF
 go_wp2_with fail
 go_at_call 139
 refine (hl_ _ _).mono ?_
 rintro e w2 ⟨rfl,hb2⟩
 have HB2:=hid (ac_ HB1.out hb2)
 clear hb2
 unfold pv
 go_wp2_with fail
 go_ret
 exact PtNew.mk rfl HB2.out rfl
theorem parts_2 (v:Int) (s:ByteArray) (W:World) (hlv:Calls prog 47 #[tv ⟨2,v,s⟩] (W.alloc (tb ⟨2,v,s⟩)) fun e w'=>e=.returned (.int .i64 7)∧(W.alloc (tb ⟨2,v,s⟩)).alloc (tb ⟨2,v,s⟩)=w') :
 Calls prog 137 #[tv ⟨2,v,s⟩] W (PtNew W [(bl s,7)]):=by
 have HB:=hid (bb_ (b3_ W ⟨2,v,s⟩) (tb ⟨2,v,s⟩))
 unfold tv tb at *
 go_enter func137,ntmps137
 go_wp2_with (go_at_call 47;refine hlv.mono ?_;rintro e w' ⟨rfl,rfl⟩)
 go_at_call 139
 refine (hl_ _ _).mono ?_
 rintro e w2 ⟨rfl,hb2⟩
 have HB2:=hid (ac_ HB.out hb2)
 clear hb2
 unfold pv
 go_wp2_with fail
 go_ret
 refine PtNew.mk ?_ HB2.out rfl
 show [Value.string s,.int .i64 7]=[Value.string (sb (bl s)),.int .i64 7]
 rw [db_]
theorem parts_3 (v:Int) (s:ByteArray) (W:World) (hlv:Calls prog 47 #[tv ⟨3,v,s⟩] (W.alloc (tb ⟨3,v,s⟩)) fun e w'=>e=.returned (.int .i64 7)∧(W.alloc (tb ⟨3,v,s⟩)).alloc (tb ⟨3,v,s⟩)=w') :
 Calls prog 137 #[tv ⟨3,v,s⟩] W (PtNew W [(bl s,7),([91],7),([],0),([93],7)]):=by
 have HB:=hid (bb_ (b3_ W ⟨3,v,s⟩) (tb ⟨3,v,s⟩))
 unfold tv tb at *
 go_enter func137,ntmps137
 go_wp2_with (go_at_call 47;refine hlv.mono ?_;rintro e w' ⟨rfl,rfl⟩)
 go_at_call 139
 refine (hl_ _ _).mono ?_
 rintro e w2 ⟨rfl,hb2⟩
 have HB2:=hid (ac_ HB.out hb2)
 clear hb2
 unfold pv
 go_wp2_with fail
 go_at_call 139
 refine (hl_ _ _).mono ?_
 rintro e w3 ⟨rfl,hb3⟩
 have HB3:=hid (ac_ HB2.out hb3)
 clear hb3
 unfold pv
 go_wp2_with fail
 go_at_call 80
 refine (n8_ _ _).mono ?_
 rintro e w4 ⟨rfl,hb4⟩
 have HB4:=hid (ac_ HB3.out hb4)
 clear hb4
 unfold pv
 go_wp2_with fail
 go_at_call 139
 refine (hl_ _ _).mono ?_
 rintro e w5 ⟨rfl,hb5⟩
 have HB5:=hid (ac_ HB4.out hb5)
 clear hb5
 unfold pv
 go_wp2_with fail
 go_ret
 refine PtNew.mk ?_ HB5.out rfl
 show [Value.string s,.int .i64 7,.string ⟨#[91]⟩,.int .i64 7,.string ⟨#[]⟩,.int .i64 0,.string ⟨#[93]⟩,.int .i64 7]=[Value.string (sb (bl s)),.int .i64 7,.string ⟨#[91]⟩,.int .i64 7,.string ⟨#[]⟩,.int .i64 0,.string ⟨#[93]⟩,.int .i64 7]
 rw [db_]
end
theorem n9_ (s:ByteArray) (W:World):Calls prog 139 #[.string s] W fun e w'=>e=.returned (.agg #[.string s,.int .i64 7])∧Below W.heap.size W w':=hl_ s W
theorem gg_ (x:Int) (W:World):Calls prog 80 #[.int .i64 x] W fun e w'=>e=.returned (.agg #[.string ⟨#[]⟩,.int .i64 x])∧Below W.heap.size W w':=n8_ x W
theorem jp_ {b:Nat} {x y:Value} {a w w':World} (h:w.cell? ⟨b,0,none⟩=some x∧w.cell? ⟨b,1,none⟩=some y∧Below a.heap.size a w) (hb:Below w.heap.size w w'):w'.cell? ⟨b,0,none⟩=some x∧w'.cell? ⟨b,1,none⟩=some y∧Below a.heap.size a w' :=
 ⟨(hb.cell (p:=⟨b,0,none⟩) (World.block_lt_of_cell? _ _ h.1)).trans h.1,(hb.cell (p:=⟨b,1,none⟩) (World.block_lt_of_cell? _ _ h.2.1)).trans h.2.1,ac_ h.2.2 hb⟩
section
variable {W:World}
theorem parts_4 (n:Nat) (s:ByteArray) (h1:15≤n) (h2:n≤17) (W:World) (hlv:Calls prog 47 #[tv ⟨4,n,s⟩] (W.alloc (tb ⟨4,n,s⟩)) fun e w'=>e=.returned (.int .i64 6)∧(W.alloc (tb ⟨4,n,s⟩)).alloc (tb ⟨4,n,s⟩)=w') :
 Calls prog 137 #[tv ⟨4,n,s⟩] W (PtNew W [(unMark n,7),([],6)]):=by
 have HB:=hid (bb_ (b3_ W ⟨4,n,s⟩) (tb ⟨4,n,s⟩))
 have hsg:=sign_p n (by omega) h2 ((W.alloc (tb ⟨4,n,s⟩)).alloc (tb ⟨4,n,s⟩))
 have hsn:sgN n=unMark n:=if_neg (by omega)
 rw [hsn] at hsg
 have hmx:prog.follows .mixedOrders=true:=by kernel_rfl
 have HX:=hid (show ((W.alloc (tb ⟨4,n,s⟩)).alloc (tb ⟨4,n,s⟩)).heap[W.heap.size]?=some (tb ⟨4,n,s⟩) from ad_ _ _ (nwn _ _))
 unfold tv tb at *
 generalize unMark n=um at *
 clear h1 h2 hsn
 go_enter func137,ntmps137
 go_wp2_with (go_at_call 47;refine hlv.mono ?_;rintro e w' ⟨rfl,rfl⟩)
 go_at_call 177
 refine hsg.mono ?_
 rintro e w' ⟨rfl,rfl⟩
 go_wp2_with fail
 go_at_call 139
 refine (hl_ _ _).mono ?_
 rintro e w2 ⟨rfl,hb2⟩
 have HB2:=hid (ac_ HB.out hb2)
 have hbx:=(hb2.block _ (heap_lt HX.out)).trans HX.out
 have hx0:=aa_ (j:=0) (ad_ _ (.cells #[.string (sb um),.int .i64 7] 128) hbx) rfl
 clear hb2 hbx
 unfold pv
 go_upto_region 11 with fail
 generalize hw3:w2.alloc _=w3 at *
 have hS0:w3.cell? ⟨w2.heap.size,0,none⟩=some (.string (sb um))∧w3.cell? ⟨w2.heap.size,1,none⟩=some (.int .i64 7)∧Below W.heap.size W w3:=by
  rw [←hw3]
  exact ⟨by rw [World.cell?_alloc_new];rfl,by rw [World.cell?_alloc_new];rfl,bb_ HB2.out _⟩
 have hd0:w3.drew.cell? ⟨w2.heap.size,0,none⟩=some (.string (sb um))∧w3.drew.cell? ⟨w2.heap.size,1,none⟩=some (.int .i64 7)∧Below W.heap.size W w3.drew:=⟨hS0.1,hS0.2.1,hS0.2.2.drew⟩
 clear hS0 hw3
 go_region_held3 (fun w'=>w'.cell? ⟨w2.heap.size,0,none⟩=some (.string (sb um))∧w'.cell? ⟨w2.heap.size,1,none⟩=some (.int .i64 7)∧Below W.heap.size W w')
  (first | assumption | exact jp_ (by assumption) ((Below.refl _ _).alloc (Nat.le_refl _) _) | go_keep)
  (first
   | (go_at_call 80;refine (gg_ _ _).mono ?_;rintro e w' ⟨rfl,hb'⟩;have hk':=jp_ (by assumption) hb'))
 go_wp2
 go_ret
 exact PtNew.mk rfl hk'.2.2 rfl
theorem parts_5 (n:Nat) (s:ByteArray) (h1:1≤n) (h2:n≤14) (W:World) (lv:Nat) (h3:lv≤5) (hlv:Calls prog 47 #[tv ⟨5,n,s⟩] (W.alloc (tb ⟨5,n,s⟩)) fun e w'=>e=.returned (.int .i64 (lv:Int))∧(W.alloc (tb ⟨5,n,s⟩)).alloc (tb ⟨5,n,s⟩)=w') :
 Calls prog 137 #[tv ⟨5,n,s⟩] W (PtNew W [([],lv),([32],7),(opMark n,7),([32],7),([],lv+1)]):=by
 have HB:=hid (bb_ (b3_ W ⟨5,n,s⟩) (tb ⟨5,n,s⟩))
 have hsg:=sign_p n (by omega) (by omega) ((W.alloc (tb ⟨5,n,s⟩)).alloc (tb ⟨5,n,s⟩))
 have hsn:sgN n=opMark n:=if_pos h2
 rw [hsn] at hsg
 have hmx:prog.follows .mixedOrders=true:=by kernel_rfl
 have HX:=hid (show ((W.alloc (tb ⟨5,n,s⟩)).alloc (tb ⟨5,n,s⟩)).heap[W.heap.size]?=some (tb ⟨5,n,s⟩) from ad_ _ _ (nwn _ _))
 unfold tv tb at *
 generalize opMark n=um at *
 clear h1 h2 hsn
 go_enter func137,ntmps137
 go_wp2_with (go_at_call 47;refine hlv.mono ?_;rintro e w' ⟨rfl,rfl⟩)
 go_at_call 177
 refine hsg.mono ?_
 rintro e w' ⟨rfl,rfl⟩
 go_wp2_with fail
 go_at_call 139
 refine (hl_ _ _).mono ?_
 rintro e w2 ⟨rfl,hb2⟩
 have HB2:=hid (ac_ HB.out hb2)
 have hbx:=(hb2.block _ (heap_lt HX.out)).trans HX.out
 have hx0:=aa_ (j:=0) (ad_ _ (.cells #[.string (sb um),.int .i64 7] 128) hbx) rfl
 clear hb2 hbx
 unfold pv
 go_upto_region 12 with fail
 generalize hw3:w2.alloc _=w3 at *
 have hS0:w3.cell? ⟨w2.heap.size,0,none⟩=some (.string (sb um))∧w3.cell? ⟨w2.heap.size,1,none⟩=some (.int .i64 7)∧Below W.heap.size W w3:=by
  rw [←hw3]
  exact ⟨by rw [World.cell?_alloc_new];rfl,by rw [World.cell?_alloc_new];rfl,bb_ HB2.out _⟩
 have hd0:w3.drew.cell? ⟨w2.heap.size,0,none⟩=some (.string (sb um))∧w3.drew.cell? ⟨w2.heap.size,1,none⟩=some (.int .i64 7)∧Below W.heap.size W w3.drew:=⟨hS0.1,hS0.2.1,hS0.2.2.drew⟩
 clear hS0 hw3
 go_region_held3 (fun w'=>w'.cell? ⟨w2.heap.size,0,none⟩=some (.string (sb um))∧w'.cell? ⟨w2.heap.size,1,none⟩=some (.int .i64 7)∧Below W.heap.size W w')
  (first | assumption | exact jp_ (by assumption) ((Below.refl _ _).alloc (Nat.le_refl _) _) | go_keep)
  (first
   | (go_at_call 80;refine (gg_ _ _).mono ?_;rintro e w' ⟨rfl,hb'⟩;have hk':=jp_ (by assumption) hb')
   | (go_at_call 139;refine (n9_ _ _).mono ?_;rintro e w' ⟨rfl,hb'⟩;have hk':=jp_ (by assumption) hb'))
 go_wp2
 go_ret
 have hwr:IntKind.i64.wrap ((lv:Int)+1)=(lv:Int)+1:=by
  rw [IntKind.wrap_i64];omega
 rw [hwr]
 refine PtNew.mk (ps:=[([],lv),([32],7),(um,7),([32],7),([],lv+1)]) (l:=[.string ⟨#[]⟩,.int .i64 (lv:Int),.string ⟨#[32]⟩,.int .i64 7,.string (sb um),.int .i64 7,.string ⟨#[32]⟩,.int .i64 7,.string ⟨#[]⟩,.int .i64 ((lv:Int)+1)]) ?_ hk'.2.2 rfl
 rfl
theorem parts_p (t:TmZ) (hr:rightZ t=true) (hv:t.value≤9223372036854775807) (W:World) (hE:EnvP W):Calls prog 137 #[tv t] W (PtNew W (ptsOf dgN (tmN t))):=by
 have hlv:=n5_ t hr (W.alloc (tb t)) (hE.all (b3_ W t))
 rcases jm_ hr with hk|hk|hk|hk|hk
 ·obtain ⟨k,v,s⟩:=t
  obtain rfl:k=1:=hk
  have h0:0≤v:=by
   unfold rightZ at hr
   simp only [if_true,Bool.and_eq_true,decide_eq_true_eq] at hr
   exact hr.1
  exact parts_1 v s h0 hv W hE hlv
 ·obtain ⟨k,v,s⟩:=t
  obtain rfl:k=2:=hk
  exact parts_2 v s W hlv
 ·obtain ⟨k,v,s⟩:=t
  obtain rfl:k=3:=hk
  exact parts_3 v s W hlv
 ·obtain ⟨h1,h2,_⟩:=o7_ hr hk
  obtain ⟨k,v,s⟩:=t
  obtain rfl:k=4:=hk
  simp only at h1 h2
  obtain ⟨n,rfl⟩:∃n:Nat,v=n:=⟨v.toNat,by omega⟩
  exact parts_4 n s (by omega) (by omega) W hlv
 ·obtain ⟨h1,h2,_⟩:=o8_ hr hk
  obtain ⟨k,v,s⟩:=t
  obtain rfl:k=5:=hk
  simp only at h1 h2
  obtain ⟨n,rfl⟩:∃n:Nat,v=n:=⟨v.toNat,by omega⟩
  exact parts_5 n s (by omega) (by omega) W (opLv n) (b1_ n) hlv
end
end Go.Proofs.YtpcniebkabkikaaGreatDoor
namespace Go.Proofs.YtpcniebkabkikaaGreatDoor
open Go
open Go.Proofs.Syn (K Ex Tm opLv opMark unMark b1_)
theorem ra_ {c:Nat} {t:List Nat} (h:blankB c=true∨c=35):(wordL (c::t)).1=0:=by
 have hv:c=9∨c=10∨c=13∨c=32∨c=35:=by
  rcases h with h|h
  ·unfold blankB at h;simp only [Bool.or_eq_true,beq_iff_eq] at h;omega
  ·omega
 have h2:∀c,c=9∨c=10∨c=13∨c=32∨c=35→letterB c=false∧digitB c=false∧c ∉ mark1∧∀x∈mark2,x.head?≠some c:=by
  rintro c (rfl|rfl|rfl|rfl|rfl) <;> decide
 obtain ⟨a1,a2,a3,a4⟩:=h2 c hv
 rw [wordL,if_neg (by rw [a1];simp),if_neg (by rw [a2];simp),if_neg (fun hm=>by have:=a4 _ hm;simp at this),if_neg a3]
theorem rb_ {l:List Nat} (h:isL l=1):PN l:=by
 unfold isL at h
 split at h
 ·rename_i hc
  obtain ⟨hne,he,hw⟩:=hc
  have hw0:=fp_ he
  have htk:l.take (wordL l).1=l:=by rw [hw,List.take_length]
  have hg:=sg_ (s:=l) hw0 (fun c hc=>by
   cases l with
   | nil=>simp at hc
   | cons d t =>
    obtain rfl:d=c:=by simpa using hc
    refine ⟨?_,fun e=>hw0 (ra_ (.inr e))⟩
    cases hb:blankB d with
    | false=>rfl
    | true=>exact absurd (ra_ (.inl hb)) hw0) (fun hn=>by
   unfold errL at he
   rw [if_neg hw0,if_pos hn] at he
   exact absurd he (by decide)) (fun hn=>by
   rw [h] at hn
   exact absurd hn.1 (by decide))
  rw [htk,h,if_neg (by decide)] at hg
  exact hg
 ·cases h
theorem dgN_eq (u:Nat):dgN u=if u<10 then [48+u] else dgN (u / 10)++[48+u % 10]:=by
 unfold dgN
 rw [Lib.decDigits]
 split
 ·rename_i h
  show [(UInt8.ofNat (48+u)).toNat]=_
  rw [UInt8.toNat_ofNat']
  congr 1;omega
 ·rw [List.map_append]
  congr 1
  show [(UInt8.ofNat (48+u % 10)).toNat]=_
  rw [UInt8.toNat_ofNat']
  congr 1;omega
theorem rc_ {d:Nat} (h:d<10):digitB (48+d)=true:=by unfold digitB;simp;omega
theorem mb_:∀(N u:Nat),u≤N→(∀c∈dgN u,digitB c=true)∧dgN u≠[]∧valD (dgN u)=u
 | N,u,h=>by
  rw [dgN_eq]
  by_cases h10:u<10
  ·rw [if_pos h10]
   refine ⟨fun c hc=>?_,by simp,by simp [valD]⟩
   obtain rfl:c=48+u:=by simpa using hc
   exact rc_ h10
  ·rw [if_neg h10]
   cases N with
   | zero=>omega
   | succ N =>
    obtain ⟨a,b,c⟩:=mb_ N (u / 10) (by omega)
    refine ⟨fun x hx=>?_,by simp,?_⟩
    ·rcases List.mem_append.1 hx with hx|hx
     ·exact a x hx
     ·obtain rfl:x=48+u % 10:=by simpa using hx
      exact rc_ (by omega)
    ·rw [sh_,c];omega
theorem rd_ {v:Nat} (h:v≤9223372036854775807):QN dgN v:=by
 obtain ⟨a,b,c⟩:=mb_ v v (Nat.le_refl _)
 have htw:(dgN v).takeWhile digitB=dgN v:=by
  have:=bf_ (p:=digitB) (dgN v) [] a (fun c hc=>by simp at hc)
  rwa [List.append_nil] at this
 have hhd:∀x,(dgN v).head?=some x→digitB x=true:=fun x hx=>a x (List.mem_of_mem_head? hx)
 have hword:wordL (dgN v)=((dgN v).length,3):=by
  cases hl:dgN v with
  | nil=>exact absurd hl b
  | cons x t =>
   rw [hl] at htw hhd
   have hx:=hhd x rfl
   have hr:=dr_ hx
   rw [wordL,if_neg (by unfold letterB;simp;omega),if_pos hx,htw]
 refine ⟨hword,b,fun x hx=>?_,by simp,?_,by rw [if_pos rfl,c]⟩
 ·have hr:=dr_ (hhd x hx)
  refine ⟨?_,by omega⟩
  unfold blankB;simp;omega
 ·rw [c];rintro ⟨_,h2⟩
  have:most=9223372036854775807:=rfl
  omega
theorem mc_ {s:ByteArray} (h:s.toList.isEmpty=true):bl s=[]:=by
 rw [List.isEmpty_iff,Lib.toList_data] at h
 unfold bl;rw [h];rfl
theorem tm_ok {t:TmZ} (h:rightZ t=true) (hv:t.value≤9223372036854775807):TmOk PN (QN dgN) (tmN t):=by
 have hk:=jm_ h
 refine ⟨fun e=>?_,fun e=>?_,fun e=>?_,fun e=>?_,fun e=>?_⟩
 ·have e:t.kind=1:=by have:t.kind.toNat=1:=e;omega
  unfold rightZ at h
  rw [if_pos e,Bool.and_eq_true,decide_eq_true_eq] at h
  exact ⟨rd_ (by show t.value.toNat≤_;omega),mc_ (by rw [List.isEmpty_iff];simpa using h.2)⟩
 ·have e:t.kind=2:=by have:t.kind.toNat=2:=e;omega
  unfold rightZ at h
  rw [if_neg (by omega),if_pos (.inl e),Bool.and_eq_true,decide_eq_true_eq] at h
  exact ⟨rb_ (show isL (bl t.name)=1 by simpa using h.2),by show t.value.toNat=0;omega⟩
 ·have e:t.kind=3:=by have:t.kind.toNat=3:=e;omega
  unfold rightZ at h
  rw [if_neg (by omega),if_pos (.inr e),Bool.and_eq_true,decide_eq_true_eq] at h
  exact ⟨rb_ (show isL (bl t.name)=1 by simpa using h.2),by show t.value.toNat=0;omega⟩
 ·have e:t.kind=4:=by have:t.kind.toNat=4:=e;omega
  obtain ⟨a,b,c⟩:=o7_ h e
  exact ⟨by show 15≤t.value.toNat;omega,by show t.value.toNat≤17;omega,mc_ c⟩
 ·have e:t.kind=5:=by have:t.kind.toNat=5:=e;omega
  obtain ⟨a,b,c⟩:=o8_ h e
  exact ⟨by show 1≤t.value.toNat;omega,by show t.value.toNat≤14;omega,mc_ c⟩
theorem oa_ {t:TmZ} {l:List TmZ} {n m:Nat} (h:wholeF (t::l) n=some m):rightZ t=true∧wantZ t≤n∧wholeF l (n - wantZ t+1)=some m:=by
 rw [jn_] at h
 split at h
 ·rename_i hc
  rw [Bool.and_eq_true,decide_eq_true_eq] at hc
  exact ⟨hc.1,hc.2,h⟩
 ·cases h
theorem fm_:∀{l:List TmZ} {n m:Nat},wholeF l n=some m→∀t∈l,rightZ t=true
 | t::l,n,m,h,x,hx=>by
  obtain ⟨a,_,c⟩:=oa_ h
  rcases List.mem_cons.1 hx with rfl|hx
  ·exact a
  ·exact fm_ c x hx
theorem e4_:∀(l:List TmZ) (st:List (List Nat × Nat)) (m:Nat),wholeF l st.length=some m→∃st',goX dgN (l.map tmN) st=some st'∧st'.length=m
 | [],st,m,h=>⟨st,rfl,by injection h⟩
 | t::l,st,m,h=>by
  obtain ⟨a,b,c⟩:=oa_ h
  rw [List.map_cons,goX]
  obtain ⟨k,v,s⟩:=t
  have hk:k=1∨k=2∨k=3∨k=4∨k=5:=jm_ a
  rcases hk with rfl|rfl|rfl|rfl|rfl
  ·exact e4_ l _ m (by simpa [wantZ] using c)
  ·exact e4_ l _ m (by simpa [wantZ] using c)
  ·cases st with
   | nil=>simp [wantZ] at b
   | cons x st=>exact e4_ l _ m (by simpa [wantZ] using c)
  ·cases st with
   | nil=>simp [wantZ] at b
   | cons x st=>exact e4_ l _ m (by simpa [wantZ] using c)
  ·cases st with
   | nil=>simp [wantZ] at b
   | cons x st =>
    cases st with
    | nil=>simp [wantZ] at b
    | cons y st=>exact e4_ l _ m (by simpa [wantZ] using c)
theorem lv_last:∀e:Ex,∃r t,e.flat=r++[t]∧lvT t=lvOf e
 | .num v=>⟨[],⟨1,v,[]⟩,rfl,rfl⟩
 | .nm s=>⟨[],⟨2,0,s⟩,rfl,rfl⟩
 | .idx s e=>⟨e.flat,⟨3,0,s⟩,rfl,rfl⟩
 | .un o e=>⟨e.flat,⟨4,o,[]⟩,rfl,rfl⟩
 | .bin o l r=>⟨l.flat++r.flat,⟨5,o,[]⟩,by simp [Ex.flat],rfl⟩
theorem g5_ {l:List TmZ} (hw:wholeZ l=true) (hv:∀t∈l,t.value≤9223372036854775807):∃e:Ex,(e.Wf∧e.All PN (QN dgN))∧l.map tmN=e.flat∧textZ l=exText dgN e 0∧lvZ l=(lvOf e:Int):=by
 have hw2:wholeF l 0=some 1:=by unfold wholeZ at hw;simpa using hw
 obtain ⟨st,h1,h2⟩:=e4_ l [] 1 hw2
 match st,h2 with
 | [x],_ =>
  obtain ⟨e,he,hl,hx⟩:=goX_one dgN (l:=l.map tmN) (x:=x) (fun t ht=>by
   obtain ⟨z,hz,rfl⟩:=List.mem_map.1 ht
   exact tm_ok (fm_ hw2 z hz) (hv z hz)) h1
  refine ⟨e,he,hl,?_,?_⟩
  ·unfold textZ;rw [h1,hx]
  ·obtain ⟨r,t,ht,hlv⟩:=lv_last e
   rw [ht] at hl
   unfold lvZ
   rw [if_pos hw]
   rcases List.eq_nil_or_concat l with rfl|⟨l',z,rfl⟩
   ·simp at hl
   ·rw [List.concat_eq_append,List.map_append,List.map_singleton] at hl
    obtain ⟨_,e2⟩:=List.append_inj' hl rfl
    injection e2 with e2 _
    rw [List.concat_eq_append,List.getLast?_append,List.getLast?_singleton]
    show (lvT (tmN z):Int)=_
    rw [e2,hlv]
theorem md_:∀o:Fin 18,(opMark o.val).length≤2∧(unMark o.val).length≤2:=by decide
theorem me_:∀(k n:Nat),0<k→n<10 ^ k→(dgN n).length≤k
 | 0,_,h,_=>by omega
 | k+1,n,_,hn=>by
  rw [dgN_eq]
  split
  ·simp
  ·rename_i h10
   rw [nla,nlc]
   rcases Nat.eq_zero_or_pos k with rfl|hk
   ·simp at hn;omega
   ·have:=me_ k (n / 10) hk (by rw [Nat.pow_succ] at hn;omega)
    omega
theorem dq_:∀(e:Ex) (lv:Nat),e.Wf→e.All PN (QN dgN)→(exText dgN e lv).length≤40*e.flat.length
 | .num v,lv,_,h=>by
  have hv:v≤9223372036854775807:=by
   have h5:¬(3=3∧most<valD (dgN v)):=h.num
   rw [(mb_ v v (Nat.le_refl _)).2.2] at h5
   have:most=9223372036854775807:=rfl
   omega
  have:=me_ 20 v (by decide) (by omega)
  simp only [exText,Ex.flat,nlc];omega
 | .nm s,lv,_,h=>by
  have:=h.name
  simp only [exText,Ex.flat,nlc];omega
 | .idx s e,lv,hw,h=>by
  have:=h.1.name
  have h2:=dq_ e 0 hw h.2
  simp only [exText,Ex.flat,nla,nlk,List.length_nil];omega
 | .un o e,lv,hw,h=>by
  have h1:=(md_ ⟨o,by have:=hw.2.1;omega⟩).2
  have h2:=dq_ e 6 hw.2.2 h
  simp only [exText,Ex.flat,nla,nlk,List.length_nil] at h1 ⊢;omega
 | .bin o l r,lv,hw,h=>by
  have h1:=(md_ ⟨o,by have:=hw.2.1;omega⟩).1
  have h2:=dq_ l (opLv o) hw.2.2.1 h.1
  have h3:=dq_ r (opLv o+1) hw.2.2.2 h.2
  rw [exText]
  split <;> simp only [Ex.flat,nla,nlk,List.length_nil] at h1 ⊢ <;> omega
def TmF (t:TmZ):Prop:=t.name.size≤140737488355327∧t.value≤9223372036854775807
def ExF (e:List TmZ):Prop:=e.length≤2097152∧∀t∈e,TmF t
theorem xa_ {l:List TmZ} (hv:∀t∈l,t.value≤9223372036854775807):(exZ l).length≤40*l.length:=by
 unfold exZ
 split
 ·rename_i hw
  obtain ⟨e,⟨a,b⟩,c,d,_⟩:=g5_ hw hv
  rw [d]
  have:=dq_ e 0 a b
  rw [←c,List.length_map] at this
  exact this
 ·exact Nat.zero_le _
theorem xb_ {l:List TmZ} (h:ExF l):(exZ l).length≤140737488355327:=by
 have:=xa_ (fun t ht=>(h.2 t ht).2)
 have:=h.1
 omega
end Go.Proofs.YtpcniebkabkikaaGreatDoor
namespace Go.Proofs.YtpcniebkabkikaaGreatDoor
open Go Go.RowKit Go.Proofs.Mm
open Go.Proofs.Syn (Tm opLv opMark unMark b1_)
theorem infoPt:∃i,prog.info? 128=some i∧i.zero=some (.agg #[.string ⟨#[]⟩,.int .i64 0])∧i.size=2∧i.bytes=24:=by
 have h:(prog.info? 128).map (fun i=>(i.zero,i.size,i.bytes))=some (some (.agg #[.string ⟨#[]⟩,.int .i64 0]),2,24):=by kernel_rfl
 cases hi:prog.info? 128 with
 | none=>rw [hi] at h;cases h
 | some i =>
  rw [hi] at h
  simp only [Option.map_some,Option.some.injEq,Prod.mk.injEq] at h
  obtain ⟨e1,e2,e3⟩:=h
  exact ⟨i,rfl,e1,e2,e3⟩
theorem pt_one (ps:List Pt):∀u∈ptCells ps,u.oneCell'=true:=by
 intro u hu
 unfold ptCells at hu
 obtain ⟨p,_,hp⟩:=List.mem_flatMap.1 hu
 unfold ptC at hp
 rcases List.mem_cons.1 hp with rfl|hp
 ·rfl
 rcases List.mem_cons.1 hp with rfl|hp
 ·rfl
 ·exact absurd hp (by simp)
theorem xc_ (ps:List Pt):(ptCells ps).length=ps.length*2:=by
 unfold ptCells
 induction ps with
 | nil=>rfl
 | cons p l ih=>rw [List.flatMap_cons,nla,ih,nlk];show 2+_=_;omega
theorem ob_ (a b:List Pt):ptCells (a++b)=ptCells a++ptCells b:=by unfold ptCells;rw [List.flatMap_append]
def PtAt (W:World) (g:Nat) (ps:List Pt):Prop:=W.heap[g]?=some (.cells (ptCells ps).toArray 128 (0,0))
theorem PtAt.cells {W:World} {g:Nat} {ps:List Pt} (h:PtAt W g ps):∀j u,(ptCells ps)[j]?=some u→W.cell? ((⟨g,0,none⟩:Addr).add j)=some u:=by
 intro j u hu
 have:=aa_ h (j:=j) (v:=u) (by rw [List.getElem?_toArray];exact hu)
 rw [Addr.add_lit]
 simpa using this
theorem PtAt.keep {W W':World} {g:Nat} {ps:List Pt} (h:PtAt W g ps) (hb:Below W.heap.size W W'):PtAt W' g ps:=(hb.block _ (heap_lt h)).trans h
def PtR (B:Nat) (W:World) (v:Value) (ps:List Pt):Prop:=W.ownsRow B 128 2 v ps.length (ptCells ps)
theorem pc_ {l:List (Nat × List Pt)} (hp:∀x∈l,x.2.length≤100):∀k,((l.take k).flatMap Prod.snd).length≤100*k
 | 0=>by simp
 | k+1=>by
  have ih:=pc_ hp k
  by_cases h:k<l.length
  ·rw [List.take_succ_eq_append_getElem h,List.flatMap_append,nla,List.flatMap_singleton]
   have:=hp _ (List.getElem_mem h)
   omega
  ·rw [List.take_of_length_le (by omega)] at ih ⊢
   omega
theorem zc_len (z:Array Value) (k:Nat) (hz:z.size=2):(Builtin.zeroCells z k).size=k*2:=by rw [size_zeroCells,hz]
theorem zo_ (n:Nat) (h0:0<n) (hn:n≤1000) (W:World):Calls prog 178 #[.slice none 0 0,.int .i64 (n:Int)] W fun e w'=>∃v,e=.returned v∧PtR W.heap.size w' v []∧Below W.heap.size W w':=by
 obtain ⟨i,hi,hz,hs,hb⟩:=infoPt
 have hr:=fun ty=>Lib.run_append_nil_zeros (P:=prog) W 130 3 ty 128 i _ .i64 .i64 Tryz.underlying130 Tryz.underlying3 hi hz n h0 (by rw [hs];decide) (by omega) (by rw [hb];omega)
 have hge:=grownCap_ge W n 0 128
 have hcm:=grownCap_le_maxLen W n 0 128 (by unfold maxLen;omega)
 obtain ⟨G,hG⟩:∃G,G=grownCap W n 0 128:=⟨_,rfl⟩
 rw [←hG] at hr hge hcm
 have hown:(W.drew.alloc (.cells (Builtin.zeroCells (Value.agg #[.string ⟨#[]⟩,.int .i64 0]).cells n++Builtin.zeroCells (Value.agg #[.string ⟨#[]⟩,.int .i64 0]).cells (G - n)) 128)).ownsRow W.heap.size 128 2 (.slice (some ⟨W.heap.size,0,none⟩) 0 G) 0 [] :=
  World.ownsRow_made W.drew _ G (Nat.le_refl _) hcm (by rw [Array.size_append,zc_len _ _ rfl,zc_len _ _ rfl];omega)
 have HO:=hid hown
 have HBB:=hid (show Below W.heap.size W (W.drew.alloc (.cells (Builtin.zeroCells (Value.agg #[.string ⟨#[]⟩,.int .i64 0]).cells n++Builtin.zeroCells (Value.agg #[.string ⟨#[]⟩,.int .i64 0]).cells (G - n)) 128)) from ((Below.refl _ W).drew).alloc (Nat.le_refl _) _)
 have hG63:G≤9223372036854775807:=by unfold maxLen at hcm;omega
 have h1:¬((n:Int)<0):=by omega
 have h3:wrap64 (n:Int)=(n:Int):=by unfold wrap64;omega
 have h4:(n:Int) > 0:=by omega
 clear hown hG hge hcm
 go_enter func178,ntmps178
 go_wp2_with (at_builtin;refine Lib.wpList_append_run _ rfl _ _ _ _ rfl _ _ rfl rfl _ _ (hr _) ?_)
 go_ret
 exact ⟨_,rfl,HO.out,HBB.out⟩
section
variable {W:World}
theorem h8_ (l:List (Nat × List Pt)) (hl:l.length≤8) (hp:∀x∈l,x.2.length≤100) (h0:0<(l.flatMap Prod.snd).length) {G:Nat} (hG:W.heap[G]?=some (.cells (l.map fun x=>Value.slice (some ⟨x.1,0,none⟩) x.2.length x.2.length).toArray 130 (0,0))) (ha:∀x∈l,PtAt W x.1 x.2)
 {n:Nat} (hn:l.length=n):Calls prog 138 #[.slice (some ⟨G,0,none⟩) n n] W fun e w'=>∃v,e=.returned v∧PtR W.heap.size w' v (l.flatMap Prod.snd)∧Below W.heap.size W w':=by
 obtain ⟨i,hi,hz,hs,hb⟩:=infoPt
 have hall:=pc_ hp n
 rw [List.take_of_length_le (by omega)] at hall
 obtain ⟨f,hf⟩:∃f:Nat→Nat,∀k,((l.take k).flatMap Prod.snd).length=f k:=⟨_,fun _=>rfl⟩
 have hfn:(l.flatMap Prod.snd).length=f n:=by rw [←hf,List.take_of_length_le (by omega)]
 have HGR:=hid (fun W'=>zo_ (f n) (by omega) (by omega) W')
 have HFF:=hid hf
 have HN:=hid hn
 have HP:=hid hp
 have HA:=hid ha
 have HGG:=hid hG
 have HF:=hid (fun k=>(show f k≤100*k from by rw [←hf];exact pc_ hp k))
 have hn8:n≤8:=by omega
 have hf0:f 0=0:=by rw [←hf];rfl
 clear hl hp h0 hG ha hn hall hf hfn
 go_enter func138,ntmps138
 go_wp2
 go_loopw [3,11] (fun s i wr=>∃k:Nat,k≤n∧s=.int .i64 ((f k:Nat):Int)∧i=.int .i64 k∧wr=W) (fun _ i _=>n - (intOf i).toNat)
 case atStart=>exact ⟨0,Nat.zero_le _,by rw [hf0];rfl,rfl,rfl⟩
 case round =>
  obtain ⟨k,hk,rfl,rfl,hW⟩:=hrel
  subst wr
  clear hf0
  by_cases hlt:k<n
  ·have hk1:k<l.length:=by rw [HN.out];exact hlt
   have hki:(k:Int)<(n:Int):=by omega
   have e0:W.cell? ⟨G,k,none⟩=some (.slice (some ⟨l[k].1,0,none⟩) l[k].2.length l[k].2.length):=aa_ HGG.out (by rw [List.getElem?_toArray,List.getElem?_map,List.getElem?_eq_getElem hk1];rfl)
   have hx:=HP.out _ (List.getElem_mem hk1)
   have hnx:f (k+1)=f k+l[k].2.length:=by rw [←HFF.out,←HFF.out,List.take_succ_eq_append_getElem hk1,List.flatMap_append,nla,List.flatMap_singleton]
   have hf:=HF.out k
   have HNX:=hid hnx
   clear hnx
   generalize f k=sm at *
   generalize l[k]=x at *
   generalize x.2.length=xl at *
   have h1:wrap64 ((sm:Int)+(xl:Int))=((sm+xl:Nat):Int):=by unfold wrap64;omega
   have h2:¬(((sm+xl:Nat):Int)<0):=by omega
   go_wp2
   exact ⟨⟨k+1,by omega,by rw [HNX.out];first|rfl|(congr 1;omega),by go_num,by first|rfl|trivial⟩,by simp [intOf];omega⟩
  ·obtain rfl:k=n:=by omega
   go_wp2_with fail
   go_at_call 178
   refine (HGR.out _).mono ?_
   rintro e w1 ⟨v0,rfl,ho0,hb0⟩
   have HO0:=hid ho0
   have HB0:=hid hb0
   clear ho0 hb0
   go_wp2_with fail
   go_loopw [6,27] (fun v i w2=>∃k2:Nat,k2≤k∧i=.int .i64 k2∧Hid (PtR W.heap.size w2 v ((l.take k2).flatMap Prod.snd))∧Hid (Below W.heap.size W w2)) (fun _ i _=>k - (intOf i).toNat)
   case atStart=>exact ⟨0,Nat.zero_le _,rfl,HO0,HB0⟩
   case round =>
    obtain ⟨k2,hk2,rfl,HO,HB⟩:=hrel
    by_cases hlt2:k2<k
    ·have hk1:k2<l.length:=by rw [HN.out];exact hlt2
     have hki:(k2:Int)<(k:Int):=by omega
     have hx:=HP.out _ (List.getElem_mem hk1)
     have hpa:=(HA.out _ (List.getElem_mem hk1)).keep HB.out
     have hGk:=(HB.out.block _ (heap_lt HGG.out)).trans HGG.out
     have hf:=HF.out k2
     have hfl:=HFF.out k2
     have HNX:=hid (show (l.take (k2+1)).flatMap Prod.snd=(l.take k2).flatMap Prod.snd++l[k2].2 from by rw [List.take_succ_eq_append_getElem hk1,List.flatMap_append,List.flatMap_singleton])
     have ho:=HO.out
     have e0:wr.cell? ⟨G,k2,none⟩=some (.slice (some ⟨l[k2].1,0,none⟩) l[k2].2.length l[k2].2.length):=aa_ hGk (by rw [List.getElem?_toArray,List.getElem?_map,List.getElem?_eq_getElem hk1];rfl)
     have hm:=HB.out.size
     have HLT:=hid ho.lt
     unfold PtR at ho
     generalize (l.take k2).flatMap Prod.snd=sm at *
     generalize l[k2]=x at *
     rw [←hfl] at hf
     clear hGk hfl
     go_wp2_with (at_builtin;refine wpList_append_own_at _ rfl _ _ 130 rfl W.heap.size 128 i _ 2 24 Tryz.underlying130 hi hz hs hb rfl (by decide) _ _ _ rfl ho ⟨x.1,0,none⟩ x.2.length x.2.length (ptCells x.2) rfl (xc_ _) hpa.cells (pt_one _) ?c1 ?c2 ?c3 ?_)
     case c1=>unfold maxLen;omega
     case c2=>omega
     case c3=>exact hm
     intro v9 w9 hown9 hgrow9 _ hat9
     have HO9:=hid (show PtR W.heap.size w9 v9 ((l.take (k2+1)).flatMap Prod.snd) from by rw [HNX.out];unfold PtR;rw [nla,ob_];exact hown9)
     have HB9:=hid (HB.out.grown hgrow9 hm (fun r hr=>(HLT.out r hr).1))
     clear hown9 hgrow9 hat9 ho e0
     go_wp2
     exact ⟨⟨k2+1,by omega,by go_num,HO9,HB9⟩,by simp [intOf];omega⟩
    ·obtain rfl:k2=k:=by omega
     go_wp2
     go_ret
     refine ⟨_,rfl,?_,HB.out⟩
     have:=HO.out
     rwa [List.take_of_length_le (by have:=HN.out;omega)] at this
end
end Go.Proofs.YtpcniebkabkikaaGreatDoor
