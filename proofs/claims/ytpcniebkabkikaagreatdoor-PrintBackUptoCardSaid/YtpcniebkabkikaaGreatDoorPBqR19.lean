/- A part of the proof of PrintBack: contracts and plain facts. -/
import Derived.Test.YtpcniebkabkikaaGreatDoorPBqR18
set_option maxRecDepth 100000
set_option maxHeartbeats 8000000
open Go.Lib (hid)
open Go.Proofs.Tryz
namespace Go.Proofs.YtpcniebkabkikaaGreatDoor
open Go Go.RowKit Go.Proofs.Mm
section
variable {ys:List It} {len bp bw i:Nat} {vp:Value} {w:World}
theorem fc_ (h:PS ys len bp bw vp w i) {m:Mem} {v v':Value} {l:List Syn.St} {n:Nat} {cs:List Value} (hn:l.length=n) (hr:w.ownsRow 0 57 4 v n cs) (he:Enc (StM m) cs l) (hH:Has w m) (hv:∀k,v.ownBlock=some k→m k=none) {st:Syn.St} {cells:List Value} (hst:StM m cells st) {w9:World} (T:TypeId)
 (hown:w9.ownsRow 0 57 4 v' (n+1) (cs++cells)) (hg:(w.alloc (.cells cells.toArray T)).grownBy w9 v.ownBlock) (hat:v'.ownBlock=v.ownBlock∨v'.ownBlock=some (w.heap.size+1)) :
 (l++[st]).length=n+1∧BR w9 m v' (l++[st])∧Has w9 m∧(∀k,v'.ownBlock=some k→m k=none)∧Ob v w v'∧PS ys len bp bw vp w9 i∧Chg (TS bp v) w w9:=by
 subst hn
 obtain ⟨a,b,c,d,e,f⟩:=zw_ h hr he hH hv hst T hown hg hat
 exact ⟨by simp,a,b,c,d,e,f.mono (fun k q=>.inl (.inr q))⟩
theorem k6_ (m:Mem) (k:Nat):StM m [.int .i64 (k:Int),.string ⟨#[]⟩,.slice none 0 0,.slice none 0 0] ⟨k,[],[],[]⟩:=⟨_,_,rfl,fa_ m,ex_nil m⟩
theorem hc_ {m:Mem} {v:Value} {l:List Syn.St} {n:Nat} (h:BR w m v l) (hn:l.length=n):∃cs,w.ownsRow 0 57 4 v n cs∧Enc (StM m) cs l:=by subst hn;exact h
theorem t1_:Mk (bl ⟨#[101,108,115,101]⟩)=true:=by decide
theorem t2_ : Syn.tx "else" = bl ⟨#[101,108,115,101]⟩ := by decide
theorem gj_ {v v' v'':Value} {w w1:World} (h:Ob v w v') (h':Ob v' w1 v'') (hw:w.heap.size≤w1.heap.size):Ob v w v'':=h.trans h' hw
theorem x9_ (hw:Ws ys) {d:Nat} {s:Option (Nat→Syn.R (List Syn.St))} (hs:SOkD ys len bp bw vp d s) :
 RdS ys len bp bw vp 189 (fun v=>#[.pointer (some ⟨bp,0,none⟩),v,.int .i64 (d:Int)]) (loopP (Tk ys) (ys.length+1) s):=by
 intro w i v st0 m h hm hbm hb hv hcount
 obtain ⟨qv,cv,rfl⟩:=cd_ hb
 obtain ⟨n0,hn0⟩:∃n0,st0.length=n0:=⟨_,rfl⟩
 rw [hn0] at hcount hb hv ⊢
 have HL0:=hid hn0
 obtain ⟨j0,hj0,hy0,hy1,hy2⟩:=infoSt
 obtain ⟨hlt,hlb⟩:=h.lt
 have hexp:=e9_ hw h hm hbm
 obtain ⟨RR,hRR⟩:∃RR,loopP (Tk ys) (ys.length+1) s i=RR:=⟨_,rfl⟩
 rw [hRR]
 have HR0:=hid hRR
 have Hb:=hid hb
 have Hv:=hid hv
 have Hp:=hid h
 have Hm:=hid hm
 have hle0:=h.le
 clear hRR h hm hb hv hn0
 go_enter func189,ntmps189
 go_wp2_with fail
 go_at_call 56
 refine hexp.mono ?_
 rintro e w1 ⟨hc1,⟨er,k,hr,rfl⟩|⟨l,i1,q,c,m1,hr,rfl,hmo,hH,hb1,htm,hp1⟩⟩
 ·exact ⟨rfl,ai_ (by rw [←HR0.out];unfold loopP;rw [hr];rfl) (hn_ hc1)⟩
 have hgo:=(Syn.expr_good 12 _ _ _ hr).2
 have hi1:=hp1.le
 obtain ⟨p1,p2,p3⟩:=gi_ hH (.cells #[.slice q l.length c] 37)
 have hs1:=hc1.size
 have hz1:w.heap.size≤(w1.alloc (.cells #[.slice q l.length c] 37)).heap.size:=by simp;omega
 have HH1:=hid p1
 have hb1':(m1.put w1.heap.size (.cells #[.slice q l.length c] 37)) bp=none:=by rw [Mem.put_other (by omega)];exact hb1
 have MO1:=hid (hmo.trans p2 hs1)
 have EX:=hid (mo_ (g:=w1.heap.size) p3 (RowM.le htm p2.le))
 have HP1:=hid (hp1.alloc (.cells #[.slice q l.length c] 37))
 have HB1:=hid (x8_ (pr_ (dw_ Hp.out Hb.out hc1) (.cells #[.slice q l.length c] 37)) MO1.out.le)
 have HV1:=hid (fun k (hk:Value.ownBlock (.slice qv n0 cv)=some k)=>MO1.out.new k (Hv.out k hk) (by obtain ⟨cs,h1,_⟩:=Hb.out;exact (h1.lt k hk).2))
 have HO1:=hid (show Ob (.slice qv n0 cv) w (.slice qv n0 cv) from fun k hk=>.inl hk)
 have C1:=hid ((hn_ (v:=.slice qv n0 cv) hc1).alloc (.cells #[.slice q l.length c] 37))
 have HL1:=HL0
 have HST:=hid (show StM (m1.put w1.heap.size (.cells #[.slice q l.length c] 37)) [.int .i64 7,.string ⟨#[]⟩,.slice none 0 0,.slice (some ⟨w1.heap.size,0,none⟩) 1 1] ⟨7,[],[],[l]⟩ from ⟨_,_,rfl,fa_ _,EX.out⟩)
 have HR2:=hid (show (Syn.block (Tk ys) (ys.length+1) s i1).on (fun a i=>.ok ((⟨7,[],[],[l]⟩:Syn.St)::a++[(⟨8,[],[],[]⟩:Syn.St)],i))=RR from by rw [←HR0.out];unfold loopP;rw [hr];rfl)
 clear hc1 hr hexp hmo hH hb1 htm hp1 p1 p2 p3
 generalize (m1.put w1.heap.size (.cells #[.slice q l.length c] 37))=m2 at *
 have hnw:=be_ (w1.alloc (.cells #[.slice q l.length c] 37)) [.int .i64 7,.string ⟨#[]⟩,.slice none 0 0,.slice (some ⟨w1.heap.size,0,none⟩) 1 1] 57
 rw [World.size_alloc] at hnw
 obtain ⟨cs1,hr1,he1⟩:=hc_ HB1.out HL1.out
 go_wp2_with (at_builtin;refine wpList_append_own_at _ rfl _ _ 52 rfl 0 57 j0 _ 4 72 Tryz.underlying52 hj0 hy0 hy1 hy2 rfl (by decide) _ _ _ rfl (hr1.alloc _) ⟨w1.heap.size+1,0,none⟩ 1 1 [.int .i64 7,.string ⟨#[]⟩,.slice none 0 0,.slice (some ⟨w1.heap.size,0,none⟩) 1 1] rfl rfl hnw (hb_ _ _ _ _ _ _ _ _) (by unfold maxLen;omega) (by omega) (Nat.zero_le _) ?_)
 intro v2 w2 hown1 hgrow1 _ hat1
 obtain ⟨q2,c2,rfl⟩:=ah_ hown1
 obtain ⟨z1,z2,z3,z4,z5,z6,z7⟩:=fc_ HP1.out HL1.out hr1 he1 HH1.out HV1.out (cells:=[.int .i64 7,.string ⟨#[]⟩,.slice none 0 0,.slice (some ⟨w1.heap.size,0,none⟩) 1 1]) HST.out 57 hown1 hgrow1 (by simpa using hat1)
 have hz2:w.heap.size≤w2.heap.size:=by have:=z7.size;omega
 have HL2:=hid z1
 have HB2:=hid z2
 have HH2:=hid z3
 have HV2:=hid z4
 have HO2:=hid (gj_ HO1.out z5 hz1)
 have HP2:=hid z6
 have C2:=hid (show Chg (TS bp (.slice qv n0 cv)) w w2 from C1.out.trans z7 (fun k e=>HO1.out.ts k e))
 clear z1 z2 z3 z4 z5 z6 z7 hown1 hgrow1 hat1 hr1 he1
 have hb2:=hb1'
 have MO2:=MO1
 have hblk:=an_ (ii_ (len:=len) (bp:=bp) (bw:=bw) (vp:=vp) hw hs w2 i1 _ (st0++[(⟨7,[],[],[l]⟩:Syn.St)]) m2 HP2.out HH2.out hb2 HB2.out HV2.out (by rw [HL2.out];omega))
 go_wp2_with fail
 go_at_call 225
 refine hblk.mono ?_
 rintro e w3 ⟨hc,⟨er,k,hr,rfl⟩|⟨a2,j2,hr,v3,m3,rfl,hmo,hH,hb3,hB,hv,ho,hp⟩⟩
 ·exact ⟨rfl,ai_ (by rw [←HR2.out,hr];rfl) (C2.out.trans hc (fun k e=>HO2.out.ts k e))⟩
 obtain ⟨q3,c3,rfl⟩:=cd_ hB
 have hz3:w.heap.size≤w3.heap.size:=by have:=hc.size;omega
 have C3:=hid (show Chg (TS bp (.slice qv n0 cv)) w w3 from C2.out.trans hc (fun k e=>HO2.out.ts k e))
 have HR3:=hid (show .ok ((⟨7,[],[],[l]⟩:Syn.St)::a2++[(⟨8,[],[],[]⟩:Syn.St)],j2)=RR from by rw [←HR2.out,hr];rfl)
 have HH3:=hid hH
 have HB3:=hid hB
 have HV3:=hid hv
 have MO3:=hid (MO2.out.trans (hmo.from (w:=w) hz2) (Nat.le_refl _))
 have HO3:=hid (show Ob (.slice qv n0 cv) w (.slice q3 ((st0++[(⟨7,[],[],[l]⟩:Syn.St)])++a2).length c3) from HO2.out.trans ho hz2)
 have HP3:=hid hp
 have hcnt2:=dh_ hs.cnt hs.no hr
 have hpos2:=hp.le
 obtain ⟨n3,hn3⟩:∃n,((st0++[(⟨7,[],[],[l]⟩:Syn.St)])++a2).length=n:=⟨_,rfl⟩
 have hnn3:n3≤(n0+1)+a2.length:=by rw [←hn3,List.length_append,HL2.out];exact Nat.le_refl _
 rw [hn3] at HB3 HV3 HO3
 rw [hn3]
 have HL3:=hid hn3
 clear hc hr hblk hmo hH hB hv ho hp hn3
 obtain ⟨cs3,hr3,he3⟩:=hc_ HB3.out HL3.out
 go_wp2_with (at_builtin;refine wpList_append_own_at _ rfl _ _ 52 rfl 0 57 j0 _ 4 72 Tryz.underlying52 hj0 hy0 hy1 hy2 rfl (by decide) _ _ _ rfl (hr3.alloc _) ⟨w3.heap.size,0,none⟩ 1 1 [.int .i64 8,.string ⟨#[]⟩,.slice none 0 0,.slice none 0 0] rfl rfl (be_ w3 [.int .i64 8,.string ⟨#[]⟩,.slice none 0 0,.slice none 0 0] 57) (hb_ _ _ _ _ _ _ _ _) (by unfold maxLen;omega) (by omega) (Nat.zero_le _) ?_)
 intro v4 w4 hown3 hgrow3 _ hat3
 obtain ⟨q4,c4,rfl⟩:=ah_ hown3
 obtain ⟨z1,z2,z3,z4,z5,z6,z7⟩:=fc_ HP3.out HL3.out hr3 he3 HH3.out HV3.out (cells:=[.int .i64 8,.string ⟨#[]⟩,.slice none 0 0,.slice none 0 0]) (k6_ _ 8) 57 hown3 hgrow3 hat3
 have hz4:w.heap.size≤w4.heap.size:=by have:=z7.size;omega
 have HL4:=hid z1
 have HB4:=hid z2
 have HH4:=hid z3
 have HV4:=hid z4
 have HO4:=hid (gj_ HO3.out z5 hz3)
 have HP4:=hid z6
 have C4:=hid (show Chg (TS bp (.slice qv n0 cv)) w w4 from C3.out.trans z7 (fun k e=>HO3.out.ts k e))
 clear z1 z2 z3 z4 z5 z6 z7 hown3 hgrow3 hat3 hr3 he3
 have HEND:=hid (show Ret ys len (TS bp (.slice qv n0 cv)) w RR (BOk ys len bp bw vp m st0 (.slice qv n0 cv) w) (.returned (.slice q4 (n3+1) c4)) w4 from
  bx_ (x:=(⟨7,[],[],[l]⟩:Syn.St)::a2++[(⟨8,[],[],[]⟩:Syn.St)]) (j:=j2) HR3.out.symm C4.out ⟨_,m3,rfl,MO3.out,HH4.out,hb3,(by
   have hx:=HB4.out
   rw [show (st0++[(⟨7,[],[],[l]⟩:Syn.St)])++a2++[(⟨8,[],[],[]⟩:Syn.St)]=st0++((⟨7,[],[],[l]⟩:Syn.St)::a2++[(⟨8,[],[],[]⟩:Syn.St)]) from by simp [List.append_assoc]] at hx
   exact hx),HV4.out,HO4.out,HP4.out⟩)
 go_wp2
 go_ret
 exact HEND.out
theorem rr_ (hw:Ws ys) {d:Nat} {s:Option (Nat→Syn.R (List Syn.St))} (hs:SOkD ys len bp bw vp d s) :
 RdS ys len bp bw vp 188 (fun v=>#[.pointer (some ⟨bp,0,none⟩),v,.int .i64 (d:Int)]) (branchP (Tk ys) (ys.length+1) s):=by
 intro w i v st0 m h hm hbm hb hv hcount
 obtain ⟨qv,cv,rfl⟩:=cd_ hb
 obtain ⟨n0,hn0⟩:∃n0,st0.length=n0:=⟨_,rfl⟩
 rw [hn0] at hcount hb hv ⊢
 have HL0:=hid hn0
 obtain ⟨j0,hj0,hy0,hy1,hy2⟩:=infoSt
 obtain ⟨hlt,hlb⟩:=h.lt
 have hexp:=e9_ hw h hm hbm
 obtain ⟨RR,hRR⟩:∃RR,branchP (Tk ys) (ys.length+1) s i=RR:=⟨_,rfl⟩
 rw [hRR]
 have HR0:=hid hRR
 have Hb:=hid hb
 have Hv:=hid hv
 have Hp:=hid h
 have Hm:=hid hm
 have hle0:=h.le
 clear hRR h hm hb hv hn0
 go_enter func188,ntmps188
 go_wp2_with fail
 go_at_call 56
 refine hexp.mono ?_
 rintro e w1 ⟨hc1,⟨er,k,hr,rfl⟩|⟨l,i1,q,c,m1,hr,rfl,hmo,hH,hb1,htm,hp1⟩⟩
 ·exact ⟨rfl,ai_ (by rw [←HR0.out];unfold branchP;rw [hr];rfl) (hn_ hc1)⟩
 have hgo:=(Syn.expr_good 12 _ _ _ hr).2
 have hi1:=hp1.le
 obtain ⟨p1,p2,p3⟩:=gi_ hH (.cells #[.slice q l.length c] 37)
 have hs1:=hc1.size
 have hz1:w.heap.size≤(w1.alloc (.cells #[.slice q l.length c] 37)).heap.size:=by simp;omega
 have HH1:=hid p1
 have hb1':(m1.put w1.heap.size (.cells #[.slice q l.length c] 37)) bp=none:=by rw [Mem.put_other (by omega)];exact hb1
 have MO1:=hid (hmo.trans p2 hs1)
 have EX:=hid (mo_ (g:=w1.heap.size) p3 (RowM.le htm p2.le))
 have HP1:=hid (hp1.alloc (.cells #[.slice q l.length c] 37))
 have HB1:=hid (x8_ (pr_ (dw_ Hp.out Hb.out hc1) (.cells #[.slice q l.length c] 37)) MO1.out.le)
 have HV1:=hid (fun k (hk:Value.ownBlock (.slice qv n0 cv)=some k)=>MO1.out.new k (Hv.out k hk) (by obtain ⟨cs,h1,_⟩:=Hb.out;exact (h1.lt k hk).2))
 have HO1:=hid (show Ob (.slice qv n0 cv) w (.slice qv n0 cv) from fun k hk=>.inl hk)
 have C1:=hid ((hn_ (v:=.slice qv n0 cv) hc1).alloc (.cells #[.slice q l.length c] 37))
 have HL1:=HL0
 have HST:=hid (show StM (m1.put w1.heap.size (.cells #[.slice q l.length c] 37)) [.int .i64 5,.string ⟨#[]⟩,.slice none 0 0,.slice (some ⟨w1.heap.size,0,none⟩) 1 1] ⟨5,[],[],[l]⟩ from ⟨_,_,rfl,fa_ _,EX.out⟩)
 have HR2 := hid (show (Syn.block (Tk ys) (ys.length + 1) s i1).on (fun a i => if Syn.is (Tk ys) i (Syn.tx "else") then (Syn.block (Tk ys) (ys.length + 1) s (i + 1)).on fun b i => .ok ((⟨5,[],[],[l]⟩ : Syn.St) :: a ++ ⟨6,[],[],[]⟩ :: b ++ [(⟨8,[],[],[]⟩ : Syn.St)],i) else .ok ((⟨5,[],[],[l]⟩ : Syn.St) :: a ++ [(⟨8,[],[],[]⟩ : Syn.St)],i)) = RR from by rw [← HR0.out]; unfold branchP; rw [hr]; rfl)
 clear hc1 hr hexp hmo hH hb1 htm hp1 p1 p2 p3
 generalize (m1.put w1.heap.size (.cells #[.slice q l.length c] 37))=m2 at *
 have hnw:=be_ (w1.alloc (.cells #[.slice q l.length c] 37)) [.int .i64 5,.string ⟨#[]⟩,.slice none 0 0,.slice (some ⟨w1.heap.size,0,none⟩) 1 1] 57
 rw [World.size_alloc] at hnw
 obtain ⟨cs1,hr1,he1⟩:=hc_ HB1.out HL1.out
 go_wp2_with (at_builtin;refine wpList_append_own_at _ rfl _ _ 52 rfl 0 57 j0 _ 4 72 Tryz.underlying52 hj0 hy0 hy1 hy2 rfl (by decide) _ _ _ rfl (hr1.alloc _) ⟨w1.heap.size+1,0,none⟩ 1 1 [.int .i64 5,.string ⟨#[]⟩,.slice none 0 0,.slice (some ⟨w1.heap.size,0,none⟩) 1 1] rfl rfl hnw (hb_ _ _ _ _ _ _ _ _) (by unfold maxLen;omega) (by omega) (Nat.zero_le _) ?_)
 intro v2 w2 hown1 hgrow1 _ hat1
 obtain ⟨q2,c2,rfl⟩:=ah_ hown1
 obtain ⟨z1,z2,z3,z4,z5,z6,z7⟩:=fc_ HP1.out HL1.out hr1 he1 HH1.out HV1.out (cells:=[.int .i64 5,.string ⟨#[]⟩,.slice none 0 0,.slice (some ⟨w1.heap.size,0,none⟩) 1 1]) HST.out 57 hown1 hgrow1 (by simpa using hat1)
 have hz2:w.heap.size≤w2.heap.size:=by have:=z7.size;omega
 have HL2:=hid z1
 have HB2:=hid z2
 have HH2:=hid z3
 have HV2:=hid z4
 have HO2:=hid (gj_ HO1.out z5 hz1)
 have HP2:=hid z6
 have C2:=hid (show Chg (TS bp (.slice qv n0 cv)) w w2 from C1.out.trans z7 (fun k e=>HO1.out.ts k e))
 clear z1 z2 z3 z4 z5 z6 z7 hown1 hgrow1 hat1 hr1 he1
 have hb2:=hb1'
 have MO2:=MO1
 have hblk:=an_ (ii_ (len:=len) (bp:=bp) (bw:=bw) (vp:=vp) hw hs w2 i1 _ (st0++[(⟨5,[],[],[l]⟩:Syn.St)]) m2 HP2.out HH2.out hb2 HB2.out HV2.out (by rw [HL2.out];omega))
 go_wp2_with fail
 go_at_call 225
 refine hblk.mono ?_
 rintro e w3 ⟨hc,⟨er,k,hr,rfl⟩|⟨a2,j2,hr,v3,m3,rfl,hmo,hH,hb3,hB,hv,ho,hp⟩⟩
 ·exact ⟨rfl,ai_ (by rw [←HR2.out,hr];rfl) (C2.out.trans hc (fun k e=>HO2.out.ts k e))⟩
 obtain ⟨q3,c3,rfl⟩:=cd_ hB
 have hz3:w.heap.size≤w3.heap.size:=by have:=hc.size;omega
 have C3:=hid (show Chg (TS bp (.slice qv n0 cv)) w w3 from C2.out.trans hc (fun k e=>HO2.out.ts k e))
 have HR3 := hid (show (if Syn.is (Tk ys) j2 (Syn.tx "else") then (Syn.block (Tk ys) (ys.length + 1) s (j2 + 1)).on fun b i => .ok ((⟨5,[],[],[l]⟩ : Syn.St) :: a2 ++ ⟨6,[],[],[]⟩ :: b ++ [(⟨8,[],[],[]⟩ : Syn.St)],i) else .ok ((⟨5,[],[],[l]⟩ : Syn.St) :: a2 ++ [(⟨8,[],[],[]⟩ : Syn.St)],j2)) = RR from by rw [← HR2.out,hr]; rfl)
 have HH3:=hid hH
 have HB3:=hid hB
 have HV3:=hid hv
 have MO3:=hid (MO2.out.trans (hmo.from (w:=w) hz2) (Nat.le_refl _))
 have HO3:=hid (show Ob (.slice qv n0 cv) w (.slice q3 ((st0++[(⟨5,[],[],[l]⟩:Syn.St)])++a2).length c3) from HO2.out.trans ho hz2)
 have HP3:=hid hp
 have hcnt2:=dh_ hs.cnt hs.no hr
 have hpos2:=hp.le
 obtain ⟨n3,hn3⟩:∃n,((st0++[(⟨5,[],[],[l]⟩:Syn.St)])++a2).length=n:=⟨_,rfl⟩
 have hnn3:n3≤(n0+1)+a2.length:=by rw [←hn3,List.length_append,HL2.out];exact Nat.le_refl _
 rw [hn3] at HB3 HV3 HO3
 rw [hn3]
 have HL3:=hid hn3
 clear hc hr hblk hmo hH hB hv ho hp hn3
 cases hx : Syn.is (Tk ys) j2 (Syn.tx "else") with
 | false =>
  have HR4:=hid (show .ok ((⟨5,[],[],[l]⟩:Syn.St)::a2++[(⟨8,[],[],[]⟩:Syn.St)],j2)=RR from by rw [←HR3.out,hx];rfl)
  have hsk:=d8_ hw HP3.out ⟨#[101,108,115,101]⟩ t1_ (by rw [←t2_];exact hx)
  clear hx
  go_wp2_with fail
  go_at_call 95
  refine hsk.mono ?_
  rintro e w' ⟨rfl,rfl⟩
  clear hsk
  obtain ⟨cs3,hr3,he3⟩:=hc_ HB3.out HL3.out
  go_wp2_with (at_builtin;refine wpList_append_own_at _ rfl _ _ 52 rfl 0 57 j0 _ 4 72 Tryz.underlying52 hj0 hy0 hy1 hy2 rfl (by decide) _ _ _ rfl (hr3.alloc _) ⟨w3.heap.size,0,none⟩ 1 1 [.int .i64 8,.string ⟨#[]⟩,.slice none 0 0,.slice none 0 0] rfl rfl (be_ w3 [.int .i64 8,.string ⟨#[]⟩,.slice none 0 0,.slice none 0 0] 57) (hb_ _ _ _ _ _ _ _ _) (by unfold maxLen;omega) (by omega) (Nat.zero_le _) ?_)
  intro v4 w4 hown3 hgrow3 _ hat3
  obtain ⟨q4,c4,rfl⟩:=ah_ hown3
  obtain ⟨z1,z2,z3,z4,z5,z6,z7⟩:=fc_ HP3.out HL3.out hr3 he3 HH3.out HV3.out (cells:=[.int .i64 8,.string ⟨#[]⟩,.slice none 0 0,.slice none 0 0]) (k6_ _ 8) 57 hown3 hgrow3 hat3
  have hz4:w.heap.size≤w4.heap.size:=by have:=z7.size;omega
  have HL4:=hid z1
  have HB4:=hid z2
  have HH4:=hid z3
  have HV4:=hid z4
  have HO4:=hid (gj_ HO3.out z5 hz3)
  have HP4:=hid z6
  have C4:=hid (show Chg (TS bp (.slice qv n0 cv)) w w4 from C3.out.trans z7 (fun k e=>HO3.out.ts k e))
  clear z1 z2 z3 z4 z5 z6 z7 hown3 hgrow3 hat3 hr3 he3
  have HEND:=hid (show Ret ys len (TS bp (.slice qv n0 cv)) w RR (BOk ys len bp bw vp m st0 (.slice qv n0 cv) w) (.returned (.slice q4 (n3+1) c4)) w4 from
   bx_ (x:=(⟨5,[],[],[l]⟩:Syn.St)::a2++[(⟨8,[],[],[]⟩:Syn.St)]) (j:=j2) HR4.out.symm C4.out ⟨_,m3,rfl,MO3.out,HH4.out,hb3,(by
    have hx:=HB4.out
    rw [show (st0++[(⟨5,[],[],[l]⟩:Syn.St)])++a2++[(⟨8,[],[],[]⟩:Syn.St)]=st0++((⟨5,[],[],[l]⟩:Syn.St)::a2++[(⟨8,[],[],[]⟩:Syn.St)]) from by simp [List.append_assoc]] at hx
    exact hx),HV4.out,HO4.out,HP4.out⟩)
  go_wp2
  go_ret
  exact HEND.out
 | true =>
  have hlt2:=a4_ hx
  have HR5:=hid (show (Syn.block (Tk ys) (ys.length+1) s (j2+1)).on (fun b i=>.ok ((⟨5,[],[],[l]⟩:Syn.St)::a2++⟨6,[],[],[]⟩::b++[(⟨8,[],[],[]⟩:Syn.St)],i))=RR from by rw [←HR3.out,hx];rfl)
  have hsk:=d7_ hw HP3.out ⟨#[101,108,115,101]⟩ t1_ (by rw [←t2_];exact hx)
  clear hx
  go_wp2_with fail
  go_at_call 95
  refine hsk.mono ?_
  rintro e w4 ⟨rfl,hc4,hp4⟩
  have hz4:w.heap.size≤w4.heap.size:=by have:=hc4.size;omega
  have HB4:=hid (dw_ HP3.out HB3.out hc4)
  have HH4:=hid (HH3.out.chg hc4 (fun k e=>by subst e;exact hb3))
  have HV4:=HV3
  have HO4:=HO3
  have HL4:=HL3
  have HP4:=hid hp4
  have C4:=hid (C3.out.then (hn_ hc4))
  clear hsk hc4 hp4
  obtain ⟨cs4,hr4,he4⟩:=hc_ HB4.out HL4.out
  go_wp2_with (at_builtin;refine wpList_append_own_at _ rfl _ _ 52 rfl 0 57 j0 _ 4 72 Tryz.underlying52 hj0 hy0 hy1 hy2 rfl (by decide) _ _ _ rfl (hr4.alloc _) ⟨w4.heap.size,0,none⟩ 1 1 [.int .i64 6,.string ⟨#[]⟩,.slice none 0 0,.slice none 0 0] rfl rfl (be_ w4 [.int .i64 6,.string ⟨#[]⟩,.slice none 0 0,.slice none 0 0] 57) (hb_ _ _ _ _ _ _ _ _) (by unfold maxLen;omega) (by omega) (Nat.zero_le _) ?_)
  intro v5 w5 hown4 hgrow4 _ hat4
  obtain ⟨q5,c5,rfl⟩:=ah_ hown4
  obtain ⟨z1,z2,z3,z4,z5,z6,z7⟩:=fc_ HP4.out HL4.out hr4 he4 HH4.out HV4.out (cells:=[.int .i64 6,.string ⟨#[]⟩,.slice none 0 0,.slice none 0 0]) (k6_ _ 6) 57 hown4 hgrow4 hat4
  have hz5:w.heap.size≤w5.heap.size:=by have:=z7.size;omega
  have HL5:=hid z1
  have HB5:=hid z2
  have HH5:=hid z3
  have HV5:=hid z4
  have HO5:=hid (gj_ HO4.out z5 hz4)
  have HP5:=hid z6
  have C5:=hid (show Chg (TS bp (.slice qv n0 cv)) w w5 from C4.out.trans z7 (fun k e=>HO4.out.ts k e))
  clear z1 z2 z3 z4 z5 z6 z7 hown4 hgrow4 hat4 hr4 he4
  have hb5:=hb3
  have MO5:=MO3
  have hblk:=an_ (ii_ (len:=len) (bp:=bp) (bw:=bw) (vp:=vp) hw hs w5 (j2+1) _ ((st0++[(⟨5,[],[],[l]⟩:Syn.St)])++a2++[(⟨6,[],[],[]⟩:Syn.St)]) m3 HP5.out HH5.out hb5 HB5.out HV5.out (by rw [HL5.out];omega))
  go_wp2_with fail
  go_at_call 225
  refine hblk.mono ?_
  rintro e w6 ⟨hc,⟨er,k,hr,rfl⟩|⟨a5,j5,hr,v6,m6,rfl,hmo,hH,hb6,hB,hv,ho,hp⟩⟩
  ·exact ⟨rfl,ai_ (by rw [←HR5.out,hr];rfl) (C5.out.trans hc (fun k e=>HO5.out.ts k e))⟩
  obtain ⟨q6,c6,rfl⟩:=cd_ hB
  have hz6:w.heap.size≤w6.heap.size:=by have:=hc.size;omega
  have C6:=hid (show Chg (TS bp (.slice qv n0 cv)) w w6 from C5.out.trans hc (fun k e=>HO5.out.ts k e))
  have HR6:=hid (show .ok ((⟨5,[],[],[l]⟩:Syn.St)::a2++⟨6,[],[],[]⟩::a5++[(⟨8,[],[],[]⟩:Syn.St)],j5)=RR from by rw [←HR5.out,hr];rfl)
  have HH6:=hid hH
  have HB6:=hid hB
  have HV6:=hid hv
  have MO6:=hid (MO5.out.trans (hmo.from (w:=w) hz5) (Nat.le_refl _))
  have HO6:=hid (show Ob (.slice qv n0 cv) w (.slice q6 (((st0++[(⟨5,[],[],[l]⟩:Syn.St)])++a2++[(⟨6,[],[],[]⟩:Syn.St)])++a5).length c6) from HO5.out.trans ho hz5)
  have HP6:=hid hp
  have hcnt5:=dh_ hs.cnt hs.no hr
  have hpos5:=hp.le
  obtain ⟨n6,hn6⟩:∃n,(((st0++[(⟨5,[],[],[l]⟩:Syn.St)])++a2++[(⟨6,[],[],[]⟩:Syn.St)])++a5).length=n:=⟨_,rfl⟩
  have hnn6:n6≤(n3+1)+a5.length:=by rw [←hn6,List.length_append,HL5.out];exact Nat.le_refl _
  rw [hn6] at HB6 HV6 HO6
  rw [hn6]
  have HL6:=hid hn6
  clear hc hr hblk hmo hH hB hv ho hp hn6
  obtain ⟨cs6,hr6,he6⟩:=hc_ HB6.out HL6.out
  go_wp2_with (at_builtin;refine wpList_append_own_at _ rfl _ _ 52 rfl 0 57 j0 _ 4 72 Tryz.underlying52 hj0 hy0 hy1 hy2 rfl (by decide) _ _ _ rfl (hr6.alloc _) ⟨w6.heap.size,0,none⟩ 1 1 [.int .i64 8,.string ⟨#[]⟩,.slice none 0 0,.slice none 0 0] rfl rfl (be_ w6 [.int .i64 8,.string ⟨#[]⟩,.slice none 0 0,.slice none 0 0] 57) (hb_ _ _ _ _ _ _ _ _) (by unfold maxLen;omega) (by omega) (Nat.zero_le _) ?_)
  intro v7 w7 hown6 hgrow6 _ hat6
  obtain ⟨q7,c7,rfl⟩:=ah_ hown6
  obtain ⟨z1,z2,z3,z4,z5,z6,z7⟩:=fc_ HP6.out HL6.out hr6 he6 HH6.out HV6.out (cells:=[.int .i64 8,.string ⟨#[]⟩,.slice none 0 0,.slice none 0 0]) (k6_ _ 8) 57 hown6 hgrow6 hat6
  have hz7:w.heap.size≤w7.heap.size:=by have:=z7.size;omega
  have HL7:=hid z1
  have HB7:=hid z2
  have HH7:=hid z3
  have HV7:=hid z4
  have HO7:=hid (gj_ HO6.out z5 hz6)
  have HP7:=hid z6
  have C7:=hid (show Chg (TS bp (.slice qv n0 cv)) w w7 from C6.out.trans z7 (fun k e=>HO6.out.ts k e))
  clear z1 z2 z3 z4 z5 z6 z7 hown6 hgrow6 hat6 hr6 he6
  have HEND:=hid (show Ret ys len (TS bp (.slice qv n0 cv)) w RR (BOk ys len bp bw vp m st0 (.slice qv n0 cv) w) (.returned (.slice q7 (n6+1) c7)) w7 from
   bx_ (x:=(⟨5,[],[],[l]⟩:Syn.St)::a2++⟨6,[],[],[]⟩::a5++[(⟨8,[],[],[]⟩:Syn.St)]) (j:=j5) HR6.out.symm C7.out ⟨_,m6,rfl,MO6.out,HH7.out,hb6,(by
    have hx:=HB7.out
    rw [show (st0++[(⟨5,[],[],[l]⟩:Syn.St)])++a2++[(⟨6,[],[],[]⟩:Syn.St)]++a5++[(⟨8,[],[],[]⟩:Syn.St)]=st0++((⟨5,[],[],[l]⟩:Syn.St)::a2++⟨6,[],[],[]⟩::a5++[(⟨8,[],[],[]⟩:Syn.St)]) from by simp [List.append_assoc]] at hx
    exact hx),HV7.out,HO7.out,HP7.out⟩)
  go_wp2
  go_ret
  exact HEND.out
end
end Go.Proofs.YtpcniebkabkikaaGreatDoor
