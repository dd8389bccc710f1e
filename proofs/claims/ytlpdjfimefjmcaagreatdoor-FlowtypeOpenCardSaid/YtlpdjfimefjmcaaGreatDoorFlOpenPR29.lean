/- branch and loop of the parser. stmts of the parser, at each depth. Labels: principals by their names; member and label of the parser. -/
import Derived.Test.YtlpdjfimefjmcaaGreatDoorFlOpenPR28
import Derived.Test.YtlpdjfimefjmcaaGreatDoorFlOpenPR14
import Derived.Deep.QuietTactic
import Derived.BigQuiet
open Go.Lib (hid)
namespace Go.Proofs.YtlpdjfimefjmcaaGreatDoor.Q
open Go Go.RowKit Go.Proofs.Mm
section
variable {ys:List It} {len bp bw i:Nat} {vp:Value} {w:World}
theorem br_app' (h:PS ys len bp bw vp w i) {m:Mem} {v v':Value} {l:List Syn.St} {n:Nat} {cs:List Value} (hn:l.length=n) (hr:w.ownsRow 0 47 4 v n cs) (he:Enc (StM m) cs l) (hH:Has w m) (hv:∀k,v.ownBlock=some k→m k=none) {st:Syn.St} {cells:List Value} (hst:StM m cells st) {w9:World} (T:TypeId)
 (hown:w9.ownsRow 0 47 4 v' (n+1) (cs++cells)) (hg:(w.alloc (.cells cells.toArray T)).grownBy w9 v.ownBlock) (hat:v'.ownBlock=v.ownBlock∨v'.ownBlock=some (w.heap.size+1)) :
 (l++[st]).length=n+1∧BR w9 m v' (l++[st])∧Has w9 m∧(∀k,v'.ownBlock=some k→m k=none)∧Ob v w v'∧PS ys len bp bw vp w9 i∧Chg (TS bp v) w w9:=by
 subst hn
 obtain ⟨a,b,c,d,e,f⟩:=br_app h hr he hH hv hst T hown hg hat
 exact ⟨by simp,a,b,c,d,e,f.mono (fun k q=>.inl (.inr q))⟩
theorem st_bare (m:Mem) (k:Nat):StM m [.int .i64 (k:Int),.string ⟨#[]⟩,.slice none 0 0,.slice none 0 0] ⟨k,[],[],[]⟩:=⟨_,_,rfl,str_nil m,ex_nil m⟩
theorem br_own {m:Mem} {v:Value} {l:List Syn.St} {n:Nat} (h:BR w m v l) (hn:l.length=n):∃cs,w.ownsRow 0 47 4 v n cs∧Enc (StM m) cs l:=by subst hn;exact h
theorem mk_else:Mk (bl ⟨#[101,108,115,101]⟩)=true:=by decide
theorem tx_else : Syn.tx "else" = bl ⟨#[101, 108, 115, 101]⟩ := by decide
theorem ob_from {v v' v'':Value} {w w1:World} (h:Ob v w v') (h':Ob v' w1 v'') (hw:w.heap.size≤w1.heap.size):Ob v w v'':=h.trans h' hw
set_option maxRecDepth 100000 in
set_option maxHeartbeats 4000000 in
theorem loop_any (hw:Ws ys) {d:Nat} {s:Option (Nat→Syn.R (List Syn.St))} (hs:SOkD ys len bp bw vp d s) :
 RdS ys len bp bw vp 171 (fun v=>#[.pointer (some ⟨bp,0,none⟩),v,.int .i64 (d:Int)]) (loopP (Tk ys) (ys.length+1) s):=by
 intro w i v st0 m h hm hbm hb hv hcount
 obtain ⟨qv,cv,rfl⟩:=br_shape hb
 obtain ⟨n0,hn0⟩:∃n0,st0.length=n0:=⟨_,rfl⟩
 rw [hn0] at hcount hb hv ⊢
 have HL0:=hid hn0
 obtain ⟨j0,hj0,hy0,hy1,hy2⟩:=infoSt
 obtain ⟨hlt,hlb⟩:=h.lt
 have hexp:=expr_at hw h hm hbm
 obtain ⟨RR,hRR⟩:∃RR,loopP (Tk ys) (ys.length+1) s i=RR:=⟨_,rfl⟩
 rw [hRR]
 have HR0:=hid hRR
 have Hb:=hid hb
 have Hv:=hid hv
 have Hp:=hid h
 have Hm:=hid hm
 have hle0:=h.le
 clear hRR h hm hb hv hn0
 go_enter Tryz.func171,Tryz.ntmps171
 go_wp2_with fail
 go_at_call 175
 refine hexp.mono ?_
 rintro e w1 ⟨hc1,⟨er,k,hr,rfl⟩|⟨l,i1,q,c,m1,hr,rfl,hmo,hH,hb1,htm,hp1⟩⟩
 ·exact ⟨rfl,ret_err (by rw [←HR0.out];unfold loopP;rw [hr];rfl) (ts_of hc1)⟩
 have hgo:=(Syn.expr_good 12 _ _ _ hr).2
 have hi1:=hp1.le
 obtain ⟨p1,p2,p3⟩:=put_new hH (.cells #[.slice q l.length c] 97)
 have hs1:=hc1.size
 have hz1:w.heap.size≤(w1.alloc (.cells #[.slice q l.length c] 97)).heap.size:=by simp;omega
 have HH1:=hid p1
 have hb1':(m1.put w1.heap.size (.cells #[.slice q l.length c] 97)) bp=none:=by rw [Mem.put_other (by omega)];exact hb1
 have MO1:=hid (hmo.trans p2 hs1)
 have EX:=hid (ex_one (g:=w1.heap.size) p3 (RowM.le htm p2.le))
 have HP1:=hid (hp1.alloc (.cells #[.slice q l.length c] 97))
 have HB1:=hid (br_le (br_alloc (br_next Hp.out Hb.out hc1) (.cells #[.slice q l.length c] 97)) MO1.out.le)
 have HV1:=hid (fun k (hk:Value.ownBlock (.slice qv n0 cv)=some k)=>MO1.out.new k (Hv.out k hk) (by obtain ⟨cs,h1,_⟩:=Hb.out;exact (h1.lt k hk).2))
 have HO1:=hid (show Ob (.slice qv n0 cv) w (.slice qv n0 cv) from fun k hk=>.inl hk)
 have C1:=hid ((ts_of (v:=.slice qv n0 cv) hc1).alloc (.cells #[.slice q l.length c] 97))
 have HL1:=HL0
 have HST:=hid (show StM (m1.put w1.heap.size (.cells #[.slice q l.length c] 97)) [.int .i64 7,.string ⟨#[]⟩,.slice none 0 0,.slice (some ⟨w1.heap.size,0,none⟩) 1 1] ⟨7,[],[],[l]⟩ from ⟨_,_,rfl,str_nil _,EX.out⟩)
 have HR2:=hid (show (Syn.block (Tk ys) (ys.length+1) s i1).on (fun a i=>.ok ((⟨7,[],[],[l]⟩:Syn.St)::a++[(⟨8,[],[],[]⟩:Syn.St)],i))=RR from by rw [←HR0.out];unfold loopP;rw [hr];rfl)
 clear hc1 hr hexp hmo hH hb1 htm hp1 p1 p2 p3
 generalize (m1.put w1.heap.size (.cells #[.slice q l.length c] 97))=m2 at *
 have hnw:=row_new (w1.alloc (.cells #[.slice q l.length c] 97)) [.int .i64 7,.string ⟨#[]⟩,.slice none 0 0,.slice (some ⟨w1.heap.size,0,none⟩) 1 1] 47
 rw [World.size_alloc] at hnw
 obtain ⟨cs1,hr1,he1⟩:=br_own HB1.out HL1.out
 go_wp2_with (at_builtin;refine wpList_append_own_at _ rfl _ _ 41 rfl 0 47 j0 _ 4 72 Tryz.underlying41 hj0 hy0 hy1 hy2 rfl (by decide) _ _ _ rfl (hr1.alloc _) ⟨w1.heap.size+1,0,none⟩ 1 1 [.int .i64 7,.string ⟨#[]⟩,.slice none 0 0,.slice (some ⟨w1.heap.size,0,none⟩) 1 1] rfl rfl hnw (st_one _ _ _ _ _ _ _ _) (by unfold maxLen;omega) (by omega) (Nat.zero_le _) ?_)
 intro v2 w2 hown1 hgrow1 _ hat1
 obtain ⟨q2,c2,rfl⟩:=own_shape hown1
 obtain ⟨z1,z2,z3,z4,z5,z6,z7⟩:=br_app' HP1.out HL1.out hr1 he1 HH1.out HV1.out (cells:=[.int .i64 7,.string ⟨#[]⟩,.slice none 0 0,.slice (some ⟨w1.heap.size,0,none⟩) 1 1]) HST.out 47 hown1 hgrow1 (by simpa using hat1)
 have hz2:w.heap.size≤w2.heap.size:=by have:=z7.size;omega
 have HL2:=hid z1
 have HB2:=hid z2
 have HH2:=hid z3
 have HV2:=hid z4
 have HO2:=hid (ob_from HO1.out z5 hz1)
 have HP2:=hid z6
 have C2:=hid (show Chg (TS bp (.slice qv n0 cv)) w w2 from C1.out.trans z7 (fun k e=>HO1.out.ts k e))
 clear z1 z2 z3 z4 z5 z6 z7 hown1 hgrow1 hat1 hr1 he1
 have hb2:=hb1'
 have MO2:=MO1
 have hblk:=ret_cases (block_any (len:=len) (bp:=bp) (bw:=bw) (vp:=vp) hw hs w2 i1 _ (st0++[(⟨7,[],[],[l]⟩:Syn.St)]) m2 HP2.out HH2.out hb2 HB2.out HV2.out (by rw [HL2.out];omega))
 go_wp2_with fail
 go_at_call 181
 refine hblk.mono ?_
 rintro e w3 ⟨hc,⟨er,k,hr,rfl⟩|⟨a2,j2,hr,v3,m3,rfl,hmo,hH,hb3,hB,hv,ho,hp⟩⟩
 ·exact ⟨rfl,ret_err (by rw [←HR2.out,hr];rfl) (C2.out.trans hc (fun k e=>HO2.out.ts k e))⟩
 obtain ⟨q3,c3,rfl⟩:=br_shape hB
 have hz3:w.heap.size≤w3.heap.size:=by have:=hc.size;omega
 have C3:=hid (show Chg (TS bp (.slice qv n0 cv)) w w3 from C2.out.trans hc (fun k e=>HO2.out.ts k e))
 have HR3:=hid (show .ok ((⟨7,[],[],[l]⟩:Syn.St)::a2++[(⟨8,[],[],[]⟩:Syn.St)],j2)=RR from by rw [←HR2.out,hr];rfl)
 have HH3:=hid hH
 have HB3:=hid hB
 have HV3:=hid hv
 have MO3:=hid (MO2.out.trans (hmo.from (w:=w) hz2) (Nat.le_refl _))
 have HO3:=hid (show Ob (.slice qv n0 cv) w (.slice q3 ((st0++[(⟨7,[],[],[l]⟩:Syn.St)])++a2).length c3) from HO2.out.trans ho hz2)
 have HP3:=hid hp
 have hcnt2:=block_cnt hs.cnt hs.no hr
 have hpos2:=hp.le
 obtain ⟨n3,hn3⟩:∃n,((st0++[(⟨7,[],[],[l]⟩:Syn.St)])++a2).length=n:=⟨_,rfl⟩
 have hnn3:n3≤(n0+1)+a2.length:=by rw [←hn3,List.length_append,HL2.out];exact Nat.le_refl _
 rw [hn3] at HB3 HV3 HO3
 rw [hn3]
 have HL3:=hid hn3
 clear hc hr hblk hmo hH hB hv ho hp hn3
 obtain ⟨cs3,hr3,he3⟩:=br_own HB3.out HL3.out
 go_wp2_with (at_builtin;refine wpList_append_own_at _ rfl _ _ 41 rfl 0 47 j0 _ 4 72 Tryz.underlying41 hj0 hy0 hy1 hy2 rfl (by decide) _ _ _ rfl (hr3.alloc _) ⟨w3.heap.size,0,none⟩ 1 1 [.int .i64 8,.string ⟨#[]⟩,.slice none 0 0,.slice none 0 0] rfl rfl (row_new w3 [.int .i64 8,.string ⟨#[]⟩,.slice none 0 0,.slice none 0 0] 47) (st_one _ _ _ _ _ _ _ _) (by unfold maxLen;omega) (by omega) (Nat.zero_le _) ?_)
 intro v4 w4 hown3 hgrow3 _ hat3
 obtain ⟨q4,c4,rfl⟩:=own_shape hown3
 obtain ⟨z1,z2,z3,z4,z5,z6,z7⟩:=br_app' HP3.out HL3.out hr3 he3 HH3.out HV3.out (cells:=[.int .i64 8,.string ⟨#[]⟩,.slice none 0 0,.slice none 0 0]) (st_bare _ 8) 47 hown3 hgrow3 hat3
 have hz4:w.heap.size≤w4.heap.size:=by have:=z7.size;omega
 have HL4:=hid z1
 have HB4:=hid z2
 have HH4:=hid z3
 have HV4:=hid z4
 have HO4:=hid (ob_from HO3.out z5 hz3)
 have HP4:=hid z6
 have C4:=hid (show Chg (TS bp (.slice qv n0 cv)) w w4 from C3.out.trans z7 (fun k e=>HO3.out.ts k e))
 clear z1 z2 z3 z4 z5 z6 z7 hown3 hgrow3 hat3 hr3 he3
 have HEND:=hid (show Ret ys len (TS bp (.slice qv n0 cv)) w RR (BOk ys len bp bw vp m st0 (.slice qv n0 cv) w) (.returned (.slice q4 (n3+1) c4)) w4 from
  ret_ok (x:=(⟨7,[],[],[l]⟩:Syn.St)::a2++[(⟨8,[],[],[]⟩:Syn.St)]) (j:=j2) HR3.out.symm C4.out ⟨_,m3,rfl,MO3.out,HH4.out,hb3,(by
   have hx:=HB4.out
   rw [show (st0++[(⟨7,[],[],[l]⟩:Syn.St)])++a2++[(⟨8,[],[],[]⟩:Syn.St)]=st0++((⟨7,[],[],[l]⟩:Syn.St)::a2++[(⟨8,[],[],[]⟩:Syn.St)]) from by simp [List.append_assoc]] at hx
   exact hx),HV4.out,HO4.out,HP4.out⟩)
 go_wp2
 go_ret
 exact HEND.out
set_option maxRecDepth 100000 in
set_option maxHeartbeats 4000000 in
theorem branch_any (hw:Ws ys) {d:Nat} {s:Option (Nat→Syn.R (List Syn.St))} (hs:SOkD ys len bp bw vp d s) :
 RdS ys len bp bw vp 170 (fun v=>#[.pointer (some ⟨bp,0,none⟩),v,.int .i64 (d:Int)]) (branchP (Tk ys) (ys.length+1) s):=by
 intro w i v st0 m h hm hbm hb hv hcount
 obtain ⟨qv,cv,rfl⟩:=br_shape hb
 obtain ⟨n0,hn0⟩:∃n0,st0.length=n0:=⟨_,rfl⟩
 rw [hn0] at hcount hb hv ⊢
 have HL0:=hid hn0
 obtain ⟨j0,hj0,hy0,hy1,hy2⟩:=infoSt
 obtain ⟨hlt,hlb⟩:=h.lt
 have hexp:=expr_at hw h hm hbm
 obtain ⟨RR,hRR⟩:∃RR,branchP (Tk ys) (ys.length+1) s i=RR:=⟨_,rfl⟩
 rw [hRR]
 have HR0:=hid hRR
 have Hb:=hid hb
 have Hv:=hid hv
 have Hp:=hid h
 have Hm:=hid hm
 have hle0:=h.le
 clear hRR h hm hb hv hn0
 go_enter Tryz.func170,Tryz.ntmps170
 go_wp2_with fail
 go_at_call 175
 refine hexp.mono ?_
 rintro e w1 ⟨hc1,⟨er,k,hr,rfl⟩|⟨l,i1,q,c,m1,hr,rfl,hmo,hH,hb1,htm,hp1⟩⟩
 ·exact ⟨rfl,ret_err (by rw [←HR0.out];unfold branchP;rw [hr];rfl) (ts_of hc1)⟩
 have hgo:=(Syn.expr_good 12 _ _ _ hr).2
 have hi1:=hp1.le
 obtain ⟨p1,p2,p3⟩:=put_new hH (.cells #[.slice q l.length c] 97)
 have hs1:=hc1.size
 have hz1:w.heap.size≤(w1.alloc (.cells #[.slice q l.length c] 97)).heap.size:=by simp;omega
 have HH1:=hid p1
 have hb1':(m1.put w1.heap.size (.cells #[.slice q l.length c] 97)) bp=none:=by rw [Mem.put_other (by omega)];exact hb1
 have MO1:=hid (hmo.trans p2 hs1)
 have EX:=hid (ex_one (g:=w1.heap.size) p3 (RowM.le htm p2.le))
 have HP1:=hid (hp1.alloc (.cells #[.slice q l.length c] 97))
 have HB1:=hid (br_le (br_alloc (br_next Hp.out Hb.out hc1) (.cells #[.slice q l.length c] 97)) MO1.out.le)
 have HV1:=hid (fun k (hk:Value.ownBlock (.slice qv n0 cv)=some k)=>MO1.out.new k (Hv.out k hk) (by obtain ⟨cs,h1,_⟩:=Hb.out;exact (h1.lt k hk).2))
 have HO1:=hid (show Ob (.slice qv n0 cv) w (.slice qv n0 cv) from fun k hk=>.inl hk)
 have C1:=hid ((ts_of (v:=.slice qv n0 cv) hc1).alloc (.cells #[.slice q l.length c] 97))
 have HL1:=HL0
 have HST:=hid (show StM (m1.put w1.heap.size (.cells #[.slice q l.length c] 97)) [.int .i64 5,.string ⟨#[]⟩,.slice none 0 0,.slice (some ⟨w1.heap.size,0,none⟩) 1 1] ⟨5,[],[],[l]⟩ from ⟨_,_,rfl,str_nil _,EX.out⟩)
 have HR2 := hid (show (Syn.block (Tk ys) (ys.length + 1) s i1).on (fun a i => if Syn.is (Tk ys) i (Syn.tx "else") then (Syn.block (Tk ys) (ys.length + 1) s (i + 1)).on fun b i => .ok ((⟨5, [], [], [l]⟩ : Syn.St) :: a ++ ⟨6, [], [], []⟩ :: b ++ [(⟨8, [], [], []⟩ : Syn.St)], i) else .ok ((⟨5, [], [], [l]⟩ : Syn.St) :: a ++ [(⟨8, [], [], []⟩ : Syn.St)], i)) = RR from by rw [← HR0.out]; unfold branchP; rw [hr]; rfl)
 clear hc1 hr hexp hmo hH hb1 htm hp1 p1 p2 p3
 generalize (m1.put w1.heap.size (.cells #[.slice q l.length c] 97))=m2 at *
 have hnw:=row_new (w1.alloc (.cells #[.slice q l.length c] 97)) [.int .i64 5,.string ⟨#[]⟩,.slice none 0 0,.slice (some ⟨w1.heap.size,0,none⟩) 1 1] 47
 rw [World.size_alloc] at hnw
 obtain ⟨cs1,hr1,he1⟩:=br_own HB1.out HL1.out
 go_wp2_with (at_builtin;refine wpList_append_own_at _ rfl _ _ 41 rfl 0 47 j0 _ 4 72 Tryz.underlying41 hj0 hy0 hy1 hy2 rfl (by decide) _ _ _ rfl (hr1.alloc _) ⟨w1.heap.size+1,0,none⟩ 1 1 [.int .i64 5,.string ⟨#[]⟩,.slice none 0 0,.slice (some ⟨w1.heap.size,0,none⟩) 1 1] rfl rfl hnw (st_one _ _ _ _ _ _ _ _) (by unfold maxLen;omega) (by omega) (Nat.zero_le _) ?_)
 intro v2 w2 hown1 hgrow1 _ hat1
 obtain ⟨q2,c2,rfl⟩:=own_shape hown1
 obtain ⟨z1,z2,z3,z4,z5,z6,z7⟩:=br_app' HP1.out HL1.out hr1 he1 HH1.out HV1.out (cells:=[.int .i64 5,.string ⟨#[]⟩,.slice none 0 0,.slice (some ⟨w1.heap.size,0,none⟩) 1 1]) HST.out 47 hown1 hgrow1 (by simpa using hat1)
 have hz2:w.heap.size≤w2.heap.size:=by have:=z7.size;omega
 have HL2:=hid z1
 have HB2:=hid z2
 have HH2:=hid z3
 have HV2:=hid z4
 have HO2:=hid (ob_from HO1.out z5 hz1)
 have HP2:=hid z6
 have C2:=hid (show Chg (TS bp (.slice qv n0 cv)) w w2 from C1.out.trans z7 (fun k e=>HO1.out.ts k e))
 clear z1 z2 z3 z4 z5 z6 z7 hown1 hgrow1 hat1 hr1 he1
 have hb2:=hb1'
 have MO2:=MO1
 have hblk:=ret_cases (block_any (len:=len) (bp:=bp) (bw:=bw) (vp:=vp) hw hs w2 i1 _ (st0++[(⟨5,[],[],[l]⟩:Syn.St)]) m2 HP2.out HH2.out hb2 HB2.out HV2.out (by rw [HL2.out];omega))
 go_wp2_with fail
 go_at_call 181
 refine hblk.mono ?_
 rintro e w3 ⟨hc,⟨er,k,hr,rfl⟩|⟨a2,j2,hr,v3,m3,rfl,hmo,hH,hb3,hB,hv,ho,hp⟩⟩
 ·exact ⟨rfl,ret_err (by rw [←HR2.out,hr];rfl) (C2.out.trans hc (fun k e=>HO2.out.ts k e))⟩
 obtain ⟨q3,c3,rfl⟩:=br_shape hB
 have hz3:w.heap.size≤w3.heap.size:=by have:=hc.size;omega
 have C3:=hid (show Chg (TS bp (.slice qv n0 cv)) w w3 from C2.out.trans hc (fun k e=>HO2.out.ts k e))
 have HR3 := hid (show (if Syn.is (Tk ys) j2 (Syn.tx "else") then (Syn.block (Tk ys) (ys.length + 1) s (j2 + 1)).on fun b i => .ok ((⟨5, [], [], [l]⟩ : Syn.St) :: a2 ++ ⟨6, [], [], []⟩ :: b ++ [(⟨8, [], [], []⟩ : Syn.St)], i) else .ok ((⟨5, [], [], [l]⟩ : Syn.St) :: a2 ++ [(⟨8, [], [], []⟩ : Syn.St)], j2)) = RR from by rw [← HR2.out, hr]; rfl)
 have HH3:=hid hH
 have HB3:=hid hB
 have HV3:=hid hv
 have MO3:=hid (MO2.out.trans (hmo.from (w:=w) hz2) (Nat.le_refl _))
 have HO3:=hid (show Ob (.slice qv n0 cv) w (.slice q3 ((st0++[(⟨5,[],[],[l]⟩:Syn.St)])++a2).length c3) from HO2.out.trans ho hz2)
 have HP3:=hid hp
 have hcnt2:=block_cnt hs.cnt hs.no hr
 have hpos2:=hp.le
 obtain ⟨n3,hn3⟩:∃n,((st0++[(⟨5,[],[],[l]⟩:Syn.St)])++a2).length=n:=⟨_,rfl⟩
 have hnn3:n3≤(n0+1)+a2.length:=by rw [←hn3,List.length_append,HL2.out];exact Nat.le_refl _
 rw [hn3] at HB3 HV3 HO3
 rw [hn3]
 have HL3:=hid hn3
 clear hc hr hblk hmo hH hB hv ho hp hn3
 cases hx : Syn.is (Tk ys) j2 (Syn.tx "else") with
 | false =>
  have HR4:=hid (show .ok ((⟨5,[],[],[l]⟩:Syn.St)::a2++[(⟨8,[],[],[]⟩:Syn.St)],j2)=RR from by rw [←HR3.out,hx];rfl)
  have hsk:=skip_f hw HP3.out ⟨#[101,108,115,101]⟩ mk_else (by rw [←tx_else];exact hx)
  clear hx
  go_wp2_with fail
  go_at_call 115
  refine hsk.mono ?_
  rintro e w' ⟨rfl,rfl⟩
  clear hsk
  obtain ⟨cs3,hr3,he3⟩:=br_own HB3.out HL3.out
  go_wp2_with (at_builtin;refine wpList_append_own_at _ rfl _ _ 41 rfl 0 47 j0 _ 4 72 Tryz.underlying41 hj0 hy0 hy1 hy2 rfl (by decide) _ _ _ rfl (hr3.alloc _) ⟨w3.heap.size,0,none⟩ 1 1 [.int .i64 8,.string ⟨#[]⟩,.slice none 0 0,.slice none 0 0] rfl rfl (row_new w3 [.int .i64 8,.string ⟨#[]⟩,.slice none 0 0,.slice none 0 0] 47) (st_one _ _ _ _ _ _ _ _) (by unfold maxLen;omega) (by omega) (Nat.zero_le _) ?_)
  intro v4 w4 hown3 hgrow3 _ hat3
  obtain ⟨q4,c4,rfl⟩:=own_shape hown3
  obtain ⟨z1,z2,z3,z4,z5,z6,z7⟩:=br_app' HP3.out HL3.out hr3 he3 HH3.out HV3.out (cells:=[.int .i64 8,.string ⟨#[]⟩,.slice none 0 0,.slice none 0 0]) (st_bare _ 8) 47 hown3 hgrow3 hat3
  have hz4:w.heap.size≤w4.heap.size:=by have:=z7.size;omega
  have HL4:=hid z1
  have HB4:=hid z2
  have HH4:=hid z3
  have HV4:=hid z4
  have HO4:=hid (ob_from HO3.out z5 hz3)
  have HP4:=hid z6
  have C4:=hid (show Chg (TS bp (.slice qv n0 cv)) w w4 from C3.out.trans z7 (fun k e=>HO3.out.ts k e))
  clear z1 z2 z3 z4 z5 z6 z7 hown3 hgrow3 hat3 hr3 he3
  have HEND:=hid (show Ret ys len (TS bp (.slice qv n0 cv)) w RR (BOk ys len bp bw vp m st0 (.slice qv n0 cv) w) (.returned (.slice q4 (n3+1) c4)) w4 from
   ret_ok (x:=(⟨5,[],[],[l]⟩:Syn.St)::a2++[(⟨8,[],[],[]⟩:Syn.St)]) (j:=j2) HR4.out.symm C4.out ⟨_,m3,rfl,MO3.out,HH4.out,hb3,(by
    have hx:=HB4.out
    rw [show (st0++[(⟨5,[],[],[l]⟩:Syn.St)])++a2++[(⟨8,[],[],[]⟩:Syn.St)]=st0++((⟨5,[],[],[l]⟩:Syn.St)::a2++[(⟨8,[],[],[]⟩:Syn.St)]) from by simp [List.append_assoc]] at hx
    exact hx),HV4.out,HO4.out,HP4.out⟩)
  go_wp2
  go_ret
  exact HEND.out
 | true =>
  have hlt2:=lt_of_is hx
  have HR5:=hid (show (Syn.block (Tk ys) (ys.length+1) s (j2+1)).on (fun b i=>.ok ((⟨5,[],[],[l]⟩:Syn.St)::a2++⟨6,[],[],[]⟩::b++[(⟨8,[],[],[]⟩:Syn.St)],i))=RR from by rw [←HR3.out,hx];rfl)
  have hsk:=skip_t hw HP3.out ⟨#[101,108,115,101]⟩ mk_else (by rw [←tx_else];exact hx)
  clear hx
  go_wp2_with fail
  go_at_call 115
  refine hsk.mono ?_
  rintro e w4 ⟨rfl,hc4,hp4⟩
  have hz4:w.heap.size≤w4.heap.size:=by have:=hc4.size;omega
  have HB4:=hid (br_next HP3.out HB3.out hc4)
  have HH4:=hid (HH3.out.chg hc4 (fun k e=>by subst e;exact hb3))
  have HV4:=HV3
  have HO4:=HO3
  have HL4:=HL3
  have HP4:=hid hp4
  have C4:=hid (C3.out.then (ts_of hc4))
  clear hsk hc4 hp4
  obtain ⟨cs4,hr4,he4⟩:=br_own HB4.out HL4.out
  go_wp2_with (at_builtin;refine wpList_append_own_at _ rfl _ _ 41 rfl 0 47 j0 _ 4 72 Tryz.underlying41 hj0 hy0 hy1 hy2 rfl (by decide) _ _ _ rfl (hr4.alloc _) ⟨w4.heap.size,0,none⟩ 1 1 [.int .i64 6,.string ⟨#[]⟩,.slice none 0 0,.slice none 0 0] rfl rfl (row_new w4 [.int .i64 6,.string ⟨#[]⟩,.slice none 0 0,.slice none 0 0] 47) (st_one _ _ _ _ _ _ _ _) (by unfold maxLen;omega) (by omega) (Nat.zero_le _) ?_)
  intro v5 w5 hown4 hgrow4 _ hat4
  obtain ⟨q5,c5,rfl⟩:=own_shape hown4
  obtain ⟨z1,z2,z3,z4,z5,z6,z7⟩:=br_app' HP4.out HL4.out hr4 he4 HH4.out HV4.out (cells:=[.int .i64 6,.string ⟨#[]⟩,.slice none 0 0,.slice none 0 0]) (st_bare _ 6) 47 hown4 hgrow4 hat4
  have hz5:w.heap.size≤w5.heap.size:=by have:=z7.size;omega
  have HL5:=hid z1
  have HB5:=hid z2
  have HH5:=hid z3
  have HV5:=hid z4
  have HO5:=hid (ob_from HO4.out z5 hz4)
  have HP5:=hid z6
  have C5:=hid (show Chg (TS bp (.slice qv n0 cv)) w w5 from C4.out.trans z7 (fun k e=>HO4.out.ts k e))
  clear z1 z2 z3 z4 z5 z6 z7 hown4 hgrow4 hat4 hr4 he4
  have hb5:=hb3
  have MO5:=MO3
  have hblk:=ret_cases (block_any (len:=len) (bp:=bp) (bw:=bw) (vp:=vp) hw hs w5 (j2+1) _ ((st0++[(⟨5,[],[],[l]⟩:Syn.St)])++a2++[(⟨6,[],[],[]⟩:Syn.St)]) m3 HP5.out HH5.out hb5 HB5.out HV5.out (by rw [HL5.out];omega))
  go_wp2_with fail
  go_at_call 181
  refine hblk.mono ?_
  rintro e w6 ⟨hc,⟨er,k,hr,rfl⟩|⟨a5,j5,hr,v6,m6,rfl,hmo,hH,hb6,hB,hv,ho,hp⟩⟩
  ·exact ⟨rfl,ret_err (by rw [←HR5.out,hr];rfl) (C5.out.trans hc (fun k e=>HO5.out.ts k e))⟩
  obtain ⟨q6,c6,rfl⟩:=br_shape hB
  have hz6:w.heap.size≤w6.heap.size:=by have:=hc.size;omega
  have C6:=hid (show Chg (TS bp (.slice qv n0 cv)) w w6 from C5.out.trans hc (fun k e=>HO5.out.ts k e))
  have HR6:=hid (show .ok ((⟨5,[],[],[l]⟩:Syn.St)::a2++⟨6,[],[],[]⟩::a5++[(⟨8,[],[],[]⟩:Syn.St)],j5)=RR from by rw [←HR5.out,hr];rfl)
  have HH6:=hid hH
  have HB6:=hid hB
  have HV6:=hid hv
  have MO6:=hid (MO5.out.trans (hmo.from (w:=w) hz5) (Nat.le_refl _))
  have HO6:=hid (show Ob (.slice qv n0 cv) w (.slice q6 (((st0++[(⟨5,[],[],[l]⟩:Syn.St)])++a2++[(⟨6,[],[],[]⟩:Syn.St)])++a5).length c6) from HO5.out.trans ho hz5)
  have HP6:=hid hp
  have hcnt5:=block_cnt hs.cnt hs.no hr
  have hpos5:=hp.le
  obtain ⟨n6,hn6⟩:∃n,(((st0++[(⟨5,[],[],[l]⟩:Syn.St)])++a2++[(⟨6,[],[],[]⟩:Syn.St)])++a5).length=n:=⟨_,rfl⟩
  have hnn6:n6≤(n3+1)+a5.length:=by rw [←hn6,List.length_append,HL5.out];exact Nat.le_refl _
  rw [hn6] at HB6 HV6 HO6
  rw [hn6]
  have HL6:=hid hn6
  clear hc hr hblk hmo hH hB hv ho hp hn6
  obtain ⟨cs6,hr6,he6⟩:=br_own HB6.out HL6.out
  go_wp2_with (at_builtin;refine wpList_append_own_at _ rfl _ _ 41 rfl 0 47 j0 _ 4 72 Tryz.underlying41 hj0 hy0 hy1 hy2 rfl (by decide) _ _ _ rfl (hr6.alloc _) ⟨w6.heap.size,0,none⟩ 1 1 [.int .i64 8,.string ⟨#[]⟩,.slice none 0 0,.slice none 0 0] rfl rfl (row_new w6 [.int .i64 8,.string ⟨#[]⟩,.slice none 0 0,.slice none 0 0] 47) (st_one _ _ _ _ _ _ _ _) (by unfold maxLen;omega) (by omega) (Nat.zero_le _) ?_)
  intro v7 w7 hown6 hgrow6 _ hat6
  obtain ⟨q7,c7,rfl⟩:=own_shape hown6
  obtain ⟨z1,z2,z3,z4,z5,z6,z7⟩:=br_app' HP6.out HL6.out hr6 he6 HH6.out HV6.out (cells:=[.int .i64 8,.string ⟨#[]⟩,.slice none 0 0,.slice none 0 0]) (st_bare _ 8) 47 hown6 hgrow6 hat6
  have hz7:w.heap.size≤w7.heap.size:=by have:=z7.size;omega
  have HL7:=hid z1
  have HB7:=hid z2
  have HH7:=hid z3
  have HV7:=hid z4
  have HO7:=hid (ob_from HO6.out z5 hz6)
  have HP7:=hid z6
  have C7:=hid (show Chg (TS bp (.slice qv n0 cv)) w w7 from C6.out.trans z7 (fun k e=>HO6.out.ts k e))
  clear z1 z2 z3 z4 z5 z6 z7 hown6 hgrow6 hat6 hr6 he6
  have HEND:=hid (show Ret ys len (TS bp (.slice qv n0 cv)) w RR (BOk ys len bp bw vp m st0 (.slice qv n0 cv) w) (.returned (.slice q7 (n6+1) c7)) w7 from
   ret_ok (x:=(⟨5,[],[],[l]⟩:Syn.St)::a2++⟨6,[],[],[]⟩::a5++[(⟨8,[],[],[]⟩:Syn.St)]) (j:=j5) HR6.out.symm C7.out ⟨_,m6,rfl,MO6.out,HH7.out,hb6,(by
    have hx:=HB7.out
    rw [show (st0++[(⟨5,[],[],[l]⟩:Syn.St)])++a2++[(⟨6,[],[],[]⟩:Syn.St)]++a5++[(⟨8,[],[],[]⟩:Syn.St)]=st0++((⟨5,[],[],[l]⟩:Syn.St)::a2++⟨6,[],[],[]⟩::a5++[(⟨8,[],[],[]⟩:Syn.St)]) from by simp [List.append_assoc]] at hx
    exact hx),HV7.out,HO7.out,HP7.out⟩)
  go_wp2
  go_ret
  exact HEND.out
end
section
variable {ys:List It} {len bp bw i:Nat} {vp:Value} {w:World}
theorem named_any (hw:Ws ys) (h:PS ys len bp bw vp w i) {m:Mem} (hm:Has w m) (hbm:m bp=none) :
 Calls Tryz.prog 173 #[.pointer (some ⟨bp,0,none⟩)] w (Ret ys len (fun k=>k=bp) w (namedP (Tk ys) (ys.length+1) i) (SOk ys len bp bw vp m w)):=by
 unfold namedP
 cases hn:Syn.named (Tk ys) i with
 | false =>
  rw [name_no hn]
  exact (named_bad h hn (fun k=>k=bp) rfl).mono fun e w' ⟨h1,h2⟩=>⟨h2,h1⟩
 | true =>
  rw [name_yes len hn,on_ok']
  cases hb:Syn.is (Tk ys) (i+1) [91] with
  | true=>rw [if_pos rfl];exact named_store hw h hm hbm hn hb
  | false =>
   rw [if_neg (by simp)]
   cases hq:Syn.is (Tk ys) (i+1) [40] with
   | true=>rw [if_pos rfl];exact named_call hw h hm hbm hn hb hq
   | false=>rw [if_neg (by simp)];exact named_rest hw h hm hbm hn hb hq
theorem mk_if:Mk (bl ⟨#[105,102]⟩)=true:=by decide
theorem mk_while:Mk (bl ⟨#[119,104,105,108,101]⟩)=true:=by decide
theorem mk_send:Mk (bl ⟨#[115,101,110,100]⟩)=true:=by decide
theorem tx_if : Syn.tx "if" = bl ⟨#[105, 102]⟩ := by decide
theorem tx_while : Syn.tx "while" = bl ⟨#[119, 104, 105, 108, 101]⟩ := by decide
theorem tx_send : Syn.tx "send" = bl ⟨#[115, 101, 110, 100]⟩ := by decide
theorem one_ok {r:Syn.R Syn.St} {st:Syn.St} {j:Nat} (h:r=.ok (st,j)):oneP r=.ok ([st],j):=by rw [h];rfl
theorem one_er {r:Syn.R Syn.St} {e k:Nat} (h:r=.error (e,k)):oneP r=.error (e,k):=by rw [h];rfl
structure SI (ys:List It) (len bp bw:Nat) (vp:Value) (m:Mem) (st0:List Syn.St) (v:Value) (w:World) (l:List Syn.St) (j:Nat) (n:Nat) (v':Value) (m':Mem) (W:World):Prop where
 len_:(st0++l).length=n
 br:BR W m' v' (st0++l)
 has:Has W m'
 bpn:m' bp=none
 own:∀k,v'.ownBlock=some k→m' k=none
 more:m.More w m'
 ob:Ob v w v'
 ps:PS ys len bp bw vp W j
 chg:Chg (TS bp v) w W
 size:w.heap.size≤W.heap.size
theorem SI.next {m m':Mem} {st0 l:List Syn.St} {v v':Value} {j j' n:Nat} {W W':World} (h:SI ys len bp bw vp m st0 v w l j n v' m' W) (hc:Chg (fun k=>k=bp) W W') (hp:PS ys len bp bw vp W' j'):SI ys len bp bw vp m st0 v w l j' n v' m' W' :=
 ⟨h.len_,br_next h.ps h.br hc,h.has.chg hc (fun k e=>by subst e;exact h.bpn),h.bpn,h.own,h.more,h.ob,hp,h.chg.then (ts_of hc),Nat.le_trans h.size hc.size⟩
theorem SI.row {m m':Mem} {st0 l:List Syn.St} {v v':Value} {j n:Nat} {W W':World} (h:SI ys len bp bw vp m st0 v w l j n v' m' W) {x:List Syn.St} {j':Nat} {u:Value} (hc:Chg (TS bp v') W W') (hb:BOk ys len bp bw vp m' (st0++l) v' W x j' (.returned u) W') :
 ∃q c m2,u=.slice q (st0++(l++x)).length c∧SI ys len bp bw vp m st0 v w (l++x) j' (st0++(l++x)).length u m2 W':=by
 obtain ⟨u',m2,e,hmo,hH,hb2,hB,hv,ho,hp⟩:=hb
 injection e with e
 subst e
 rw [List.append_assoc] at hB
 obtain ⟨q,c,rfl⟩:=br_shape hB
 exact ⟨q,c,m2,rfl,rfl,hB,hH,hb2,hv,h.more.trans (hmo.from (w:=w) h.size) (Nat.le_refl _),h.ob.trans ho h.size,hp,h.chg.trans hc (fun k e=>h.ob.ts k e),Nat.le_trans h.size hc.size⟩
theorem SI.one {m m' m1:Mem} {st0 l:List Syn.St} {v v' v9:Value} {j n j':Nat} {W W1 w9:World} (h:SI ys len bp bw vp m st0 v w l j n v' m' W) {st:Syn.St} {vt ve:Value} (hc:Chg (fun k=>k=bp) W W1) (hmo:m'.More W m1) (hH:Has W1 m1) (hb1:m1 bp=none) (ht:StrM m1 vt st.targets) (hex:ExM m1 ve st.exprs) (hp:PS ys len bp bw vp W1 j')
 {cs:List Value} (hr:W1.ownsRow 0 47 4 v' n cs) (he:Enc (StM m1) cs (st0++l)) (hown:w9.ownsRow 0 47 4 v9 (n+1) (cs++[.int .i64 (st.kind:Int),.string (sb st.name),vt,ve])) (hg:(W1.alloc (.cells #[.int .i64 (st.kind:Int),.string (sb st.name),vt,ve] 47)).grownBy w9 v'.ownBlock) (hat:v9.ownBlock=v'.ownBlock∨v9.ownBlock=some (W1.heap.size+1)) :
 SI ys len bp bw vp m st0 v w (l++[st]) j' (n+1) v9 m1 w9:=by
 have hlt:∀k,v'.ownBlock=some k→k<W.heap.size:=fun k hk=>by obtain ⟨cs',h1,_⟩:=h.br;exact (h1.lt k hk).2
 obtain ⟨z1,z2,z3,z4,z5,z6,z7⟩:=br_app' hp h.len_ hr he hH (fun k hk=>hmo.new k (h.own k hk) (hlt k hk)) (cells:=[.int .i64 (st.kind:Int),.string (sb st.name),vt,ve]) ⟨vt,ve,rfl,ht,hex⟩ 47 hown hg hat
 have hs:w.heap.size≤W1.heap.size:=Nat.le_trans h.size hc.size
 exact ⟨by rw [←List.append_assoc];exact z1,by rw [←List.append_assoc];exact z2,z3,hb1,z4,h.more.trans (hmo.from (w:=w) h.size) (Nat.le_refl _),h.ob.trans z5 hs,z6,(h.chg.then (ts_of hc)).trans z7 (fun k e=>h.ob.ts k e),Nat.le_trans hs z7.size⟩
theorem SI.ok {m m':Mem} {st0 l:List Syn.St} {v v':Value} {j n:Nat} {W:World} (h:SI ys len bp bw vp m st0 v w l j n v' m' W):BOk ys len bp bw vp m st0 v w l j (.returned v') W :=
 ⟨v',m',rfl,h.more,h.has,h.bpn,h.br,h.own,h.ob,h.ps⟩
set_option maxRecDepth 100000 in
set_option maxHeartbeats 4000000 in
theorem stmts_any (hw:Ws ys) {d:Nat} {s:Option (Nat→Syn.R (List Syn.St))} (hs:SOkD ys len bp bw vp d s) :
 RdS ys len bp bw vp 150 (fun v=>#[.pointer (some ⟨bp,0,none⟩),v,.int .i64 (d:Int)]) (fun i=>stF (Tk ys) (Syn.stmtOf (Tk ys) (ys.length+1) s) (ys.length+1) [] i):=by
 intro w i v st0 m h hm hbm hb hv hcount
 obtain ⟨qv,cv,rfl⟩:=br_shape hb
 obtain ⟨n0,hn0⟩:∃n0,st0.length=n0:=⟨_,rfl⟩
 rw [hn0] at hcount hb hv ⊢
 obtain ⟨j0,hj0,hy0,hy1,hy2⟩:=infoSt
 obtain ⟨RR,hRR⟩:∃RR,stF (Tk ys) (Syn.stmtOf (Tk ys) (ys.length+1) s) (ys.length+1) [] i=RR:=⟨_,rfl⟩
 show Calls _ _ _ _ (Ret ys len _ w (stF (Tk ys) (Syn.stmtOf (Tk ys) (ys.length+1) s) (ys.length+1) [] i) _)
 have hfit:=stF_fit (tk_nones ys) (s:=Syn.stmtOf (Tk ys) (ys.length+1) s) (fun i hi=>Syn.stmtOf_fit (tk_nones ys) (by omega) hs.fit hs.good hi) (Syn.stmtOf_good hs.good) (ys.length+1) [] i h.le (by omega)
 rw [hRR] at hfit ⊢
 have HFIT:=hid hfit
 have HR0:=hid hRR
 have hle0:=h.le
 have H0:=hid (show SI ys len bp bw vp m st0 (.slice qv n0 cv) w [] i n0 (.slice qv n0 cv) m w from
  ⟨by rw [List.append_nil];exact hn0,by rw [List.append_nil];exact hb,hm,hbm,hv,Mem.More.refl _ _,fun k hk=>.inl hk,h,Chg.refl _ _,Nat.le_refl _⟩)
 clear hRR hfit h hm hb hv hn0
 go_enter Tryz.func150,Tryz.ntmps150
 go_wp2_with fail
 go_loopw [1] (fun a wr=>∃f l j n q c m2,n+(ys.length - j)≤131072∧a=.slice q n c∧Hid (stF (Tk ys) (Syn.stmtOf (Tk ys) (ys.length+1) s) f l j=RR)∧Hid (SI ys len bp bw vp m st0 (.slice qv n0 cv) w l j n (.slice q n c) m2 wr))
  (fun _ wr=>posW bp wr)
 case atStart=>exact ⟨ys.length+1,[],i,n0,qv,cv,m,hcount,rfl,HR0,H0⟩
 case round =>
  obtain ⟨f,l,j,n,q,c,m2,hcnt,rfl,HF,HS⟩:=hrel
  clear hcount
  cases f with
  | zero=>exact (HFIT.out.no99 (j:=j) (by rw [←HF.out];rfl)).elim
  | succ f =>
   have HPOS:=hid HS.out.ps.pos
   have hstep:start (Tk ys) j=true→(Syn.stmtOf (Tk ys) (ys.length+1) s j).on (fun x k=>stF (Tk ys) (Syn.stmtOf (Tk ys) (ys.length+1) s) f (l++x) k)=RR:=fun hst=>by
    rw [←HF.out,stF,hst,if_pos rfl]
   cases hif : Syn.is (Tk ys) j (Syn.tx "if") with
   | true =>
    have HG:=hid (show (branchP (Tk ys) (ys.length+1) s (j+1)).on (fun x k=>stF (Tk ys) (Syn.stmtOf (Tk ys) (ys.length+1) s) f (l++x) k)=RR from by
     rw [←hstep (by unfold start;rw [hif];rfl),stmtOf_eq,hif,if_pos rfl])
    have hsk:=skip_t hw HS.out.ps ⟨#[105,102]⟩ mk_if (by rw [←tx_if];exact hif)
    have hlt:=lt_of_is hif
    clear hif hstep
    go_wp2_with fail
    go_at_call 115
    refine hsk.mono ?_
    rintro e wk ⟨rfl,hck,hpk⟩
    have HI:=hid (HS.out.next hck hpk)
    clear hsk hck hpk
    have hcall:=ret_cases (branch_any (len:=len) (bp:=bp) (bw:=bw) (vp:=vp) hw hs wk (j+1) _ (st0++l) m2 HI.out.ps HI.out.has HI.out.bpn HI.out.br HI.out.own (by rw [HI.out.len_];omega))
    have hle:=HI.out.ps.le
    go_wp2_with fail
    go_at_call 170
    refine hcall.mono ?_
    rintro e w4 ⟨hc4,⟨er,k,hr,rfl⟩|⟨x,j4,hr,hbo⟩⟩
    ·exact ⟨rfl,ret_err (by rw [←HG.out,hr];rfl) (HI.out.chg.trans hc4 (fun k e=>HI.out.ob.ts k e))⟩
    have HG4:=hid (show stF (Tk ys) (Syn.stmtOf (Tk ys) (ys.length+1) s) f (l++x) j4=RR from by rw [←HG.out,hr];rfl)
    have hcn:=branch_cnt hs.cnt hs.no _ _ _ hr
    obtain ⟨u,m9,he9,hrest⟩:=hbo
    obtain rfl:=he9
    obtain ⟨q4,c4,m4,rfl,hsi⟩:=HI.out.row hc4 ⟨u,m9,rfl,hrest⟩
    have hle4:=hsi.ps.le
    have hpos4:=hsi.ps.pos
    have hn4:(st0++(l++x)).length=n+x.length:=by rw [←List.append_assoc,List.length_append,HI.out.len_]
    generalize (st0++(l++x)).length=n4 at *
    have HSI:=hid hsi
    have HN4:=hid hn4
    clear hcall hc4 hr hrest hsi hn4
    go_wp2_with fail
    refine ⟨⟨f,l++x,j4,n4,q4,c4,m4,by have:=HN4.out;omega,rfl,HG4,HSI⟩,?_⟩
    rw [hpos4,HPOS.out];omega
   | false =>
   have hsk1:=hid (skip_f hw HS.out.ps ⟨#[105,102]⟩ mk_if (by rw [←tx_if];exact hif))
   cases hwh : Syn.is (Tk ys) j (Syn.tx "while") with
   | true =>
    have HG:=hid (show (loopP (Tk ys) (ys.length+1) s (j+1)).on (fun x k=>stF (Tk ys) (Syn.stmtOf (Tk ys) (ys.length+1) s) f (l++x) k)=RR from by
     rw [←hstep (by unfold start;rw [hif,hwh];rfl),stmtOf_eq,hif,if_neg (by simp),hwh,if_pos rfl])
    have hsk:=skip_t hw HS.out.ps ⟨#[119,104,105,108,101]⟩ mk_while (by rw [←tx_while];exact hwh)
    have hlt:=lt_of_is hwh
    clear hif hwh hstep
    go_wp2_with fail
    go_at_call 115
    refine hsk1.out.mono ?_
    rintro e w' ⟨rfl,rfl⟩
    go_wp2_with fail
    go_at_call 115
    refine hsk.mono ?_
    rintro e wk ⟨rfl,hck,hpk⟩
    have HI:=hid (HS.out.next hck hpk)
    clear hsk hck hpk
    have hcall:=ret_cases (loop_any (len:=len) (bp:=bp) (bw:=bw) (vp:=vp) hw hs wk (j+1) _ (st0++l) m2 HI.out.ps HI.out.has HI.out.bpn HI.out.br HI.out.own (by rw [HI.out.len_];omega))
    have hle:=HI.out.ps.le
    go_wp2_with fail
    go_at_call 171
    refine hcall.mono ?_
    rintro e w4 ⟨hc4,⟨er,k,hr,rfl⟩|⟨x,j4,hr,hbo⟩⟩
    ·exact ⟨rfl,ret_err (by rw [←HG.out,hr];rfl) (HI.out.chg.trans hc4 (fun k e=>HI.out.ob.ts k e))⟩
    have HG4:=hid (show stF (Tk ys) (Syn.stmtOf (Tk ys) (ys.length+1) s) f (l++x) j4=RR from by rw [←HG.out,hr];rfl)
    have hcn:=loopP_cnt hs.cnt hs.no _ _ _ hr
    obtain ⟨u,m9,he9,hrest⟩:=hbo
    obtain rfl:=he9
    obtain ⟨q4,c4,m4,rfl,hsi⟩:=HI.out.row hc4 ⟨u,m9,rfl,hrest⟩
    have hle4:=hsi.ps.le
    have hpos4:=hsi.ps.pos
    have hn4:(st0++(l++x)).length=n+x.length:=by rw [←List.append_assoc,List.length_append,HI.out.len_]
    generalize (st0++(l++x)).length=n4 at *
    have HSI:=hid hsi
    have HN4:=hid hn4
    clear hcall hc4 hr hrest hsi hn4
    go_wp2_with fail
    refine ⟨⟨f,l++x,j4,n4,q4,c4,m4,by have:=HN4.out;omega,rfl,HG4,HSI⟩,?_⟩
    rw [hpos4,HPOS.out];omega
   | false =>
   have hsk2:=hid (skip_f hw HS.out.ps ⟨#[119,104,105,108,101]⟩ mk_while (by rw [←tx_while];exact hwh))
   cases hse : Syn.is (Tk ys) j (Syn.tx "send") with
   | true =>
    have HG:=hid (show (oneP (sendP (Tk ys) (ys.length+1) (j+1))).on (fun x k=>stF (Tk ys) (Syn.stmtOf (Tk ys) (ys.length+1) s) f (l++x) k)=RR from by
     rw [←hstep (by unfold start;rw [hif,hwh,hse];rfl),stmtOf_eq,hif,if_neg (by simp),hwh,if_neg (by simp),hse,if_pos rfl])
    have hsk:=skip_t hw HS.out.ps ⟨#[115,101,110,100]⟩ mk_send (by rw [←tx_send];exact hse)
    have hlt:=lt_of_is hse
    have HIF:=hid hif
    have HWH:=hid hwh
    have HSE:=hid hse
    clear hif hwh hse hstep
    go_wp2_with fail
    go_at_call 115
    refine hsk1.out.mono ?_
    rintro e w' ⟨rfl,rfl⟩
    go_wp2_with fail
    go_at_call 115
    refine hsk2.out.mono ?_
    rintro e w' ⟨rfl,rfl⟩
    go_wp2_with fail
    go_at_call 115
    refine hsk.mono ?_
    rintro e wk ⟨rfl,hck,hpk⟩
    have HI:=hid (HS.out.next hck hpk)
    clear hsk hck hpk
    have hcall:=ret_cases (send_any (len:=len) (bp:=bp) (bw:=bw) (vp:=vp) hw HI.out.ps HI.out.has HI.out.bpn)
    have hle:=HI.out.ps.le
    go_wp2_with fail
    go_at_call 172
    refine hcall.mono ?_
    rintro e w4 ⟨hc4,⟨er,k,hr,rfl⟩|⟨st,j4,hr,vt,ve,m4,rfl,hmo,hH,hb4,ht,hex,hp4⟩⟩
    ·exact ⟨rfl,ret_err (by rw [←HG.out,one_er hr];rfl) (HI.out.chg.then (ts_of hc4))⟩
    obtain ⟨qt,ct,rfl⟩:=row_shape ht
    obtain ⟨qe,ce,rfl⟩:=ex_shape hex
    have HG4:=hid (show stF (Tk ys) (Syn.stmtOf (Tk ys) (ys.length+1) s) f (l++[st]) j4=RR from by rw [←HG.out,one_ok hr];rfl)
    have hgo:j<j4:=(Syn.stmtOf_good hs.good j [st] j4 (by rw [stmtOf_eq];rw [HIF.out,if_neg (by simp),HWH.out,if_neg (by simp),HSE.out,if_pos rfl];exact one_ok hr)).2.2
    have hle4:=hp4.le
    obtain ⟨cs4,hr4,he4⟩:=br_own (br_le (br_next HI.out.ps HI.out.br hc4) hmo.le) HI.out.len_
    have HEND:=hid (fun v9 w9=>HI.out.one (v9:=v9) (w9:=w9) hc4 hmo hH hb4 ht hex hp4 hr4 he4)
    clear hcall hr hmo hH hb4 ht hex hp4
    generalize ((st.kind:Nat):Int)=sk at *
    generalize sb st.name=sn at *
    generalize st.targets.length=tn at *
    generalize st.exprs.length=en at *
    go_wp2_with (at_builtin;refine wpList_append_own_at _ rfl _ _ 41 rfl 0 47 j0 _ 4 72 Tryz.underlying41 hj0 hy0 hy1 hy2 rfl (by decide) _ _ _ rfl (hr4.alloc _) ⟨w4.heap.size,0,none⟩ 1 1 [.int .i64 sk,.string sn,.slice qt tn ct,.slice qe en ce] rfl rfl (row_new w4 [.int .i64 sk,.string sn,.slice qt tn ct,.slice qe en ce] 47) (st_one _ _ _ _ _ _ _ _) (by unfold maxLen;omega) (by omega) (Nat.zero_le _) ?_)
    intro v9 w9 hown9 hgrow9 _ hat9
    obtain ⟨q9,c9,rfl⟩:=own_shape hown9
    have hsi:=HEND.out _ _ hown9 hgrow9 hat9
    have hpos4:=hsi.ps.pos
    have HSI:=hid hsi
    clear hown9 hgrow9 hat9 hr4 he4 hsi hc4
    go_wp2
    refine ⟨⟨f,l++[st],j4,n+1,q9,c9,m4,by omega,rfl,HG4,HSI⟩,?_⟩
    rw [hpos4,HPOS.out];omega
   | false =>
   have hsk3:=hid (skip_f hw HS.out.ps ⟨#[115,101,110,100]⟩ mk_send (by rw [←tx_send];exact hse))
   have hk:=isKind_ps HS.out.ps 1
   cases hnm:Syn.named (Tk ys) j with
   | true =>
    rw [named_kind,hnm] at hk
    have HG:=hid (show (oneP (namedP (Tk ys) (ys.length+1) j)).on (fun x k=>stF (Tk ys) (Syn.stmtOf (Tk ys) (ys.length+1) s) f (l++x) k)=RR from by
     rw [←hstep (by unfold start;rw [hnm];simp),stmtOf_eq,hif,if_neg (by simp),hwh,if_neg (by simp),hse,if_neg (by simp)])
    have hlt:=lt_of_named hnm
    have HIF:=hid hif
    have HWH:=hid hwh
    have HSE:=hid hse
    clear hif hwh hse hnm hstep
    go_wp2_with fail
    go_at_call 115
    refine hsk1.out.mono ?_
    rintro e w' ⟨rfl,rfl⟩
    go_wp2_with fail
    go_at_call 115
    refine hsk2.out.mono ?_
    rintro e w' ⟨rfl,rfl⟩
    go_wp2_with fail
    go_at_call 115
    refine hsk3.out.mono ?_
    rintro e w' ⟨rfl,rfl⟩
    go_wp2_with (go_at_call 167;refine hk.mono ?_;rintro e wk ⟨rfl,rfl⟩)
    have HI:=HS
    have hcall:=ret_cases (named_any (len:=len) (bp:=bp) (bw:=bw) (vp:=vp) hw HI.out.ps HI.out.has HI.out.bpn)
    have hle:=HI.out.ps.le
    go_wp2_with fail
    go_at_call 173
    refine hcall.mono ?_
    rintro e w4 ⟨hc4,⟨er,k,hr,rfl⟩|⟨st,j4,hr,vt,ve,m4,rfl,hmo,hH,hb4,ht,hex,hp4⟩⟩
    ·exact ⟨rfl,ret_err (by rw [←HG.out,one_er hr];rfl) (HI.out.chg.then (ts_of hc4))⟩
    obtain ⟨qt,ct,rfl⟩:=row_shape ht
    obtain ⟨qe,ce,rfl⟩:=ex_shape hex
    have HG4:=hid (show stF (Tk ys) (Syn.stmtOf (Tk ys) (ys.length+1) s) f (l++[st]) j4=RR from by rw [←HG.out,one_ok hr];rfl)
    have hgo:j<j4:=(Syn.stmtOf_good hs.good j [st] j4 (by rw [stmtOf_eq];rw [HIF.out,if_neg (by simp),HWH.out,if_neg (by simp),HSE.out,if_neg (by simp)];exact one_ok hr)).2.2
    have hle4:=hp4.le
    obtain ⟨cs4,hr4,he4⟩:=br_own (br_le (br_next HI.out.ps HI.out.br hc4) hmo.le) HI.out.len_
    have HEND:=hid (fun v9 w9=>HI.out.one (v9:=v9) (w9:=w9) hc4 hmo hH hb4 ht hex hp4 hr4 he4)
    clear hcall hr hmo hH hb4 ht hex hp4
    generalize ((st.kind:Nat):Int)=sk at *
    generalize sb st.name=sn at *
    generalize st.targets.length=tn at *
    generalize st.exprs.length=en at *
    go_wp2_with (at_builtin;refine wpList_append_own_at _ rfl _ _ 41 rfl 0 47 j0 _ 4 72 Tryz.underlying41 hj0 hy0 hy1 hy2 rfl (by decide) _ _ _ rfl (hr4.alloc _) ⟨w4.heap.size,0,none⟩ 1 1 [.int .i64 sk,.string sn,.slice qt tn ct,.slice qe en ce] rfl rfl (row_new w4 [.int .i64 sk,.string sn,.slice qt tn ct,.slice qe en ce] 47) (st_one _ _ _ _ _ _ _ _) (by unfold maxLen;omega) (by omega) (Nat.zero_le _) ?_)
    intro v9 w9 hown9 hgrow9 _ hat9
    obtain ⟨q9,c9,rfl⟩:=own_shape hown9
    have hsi:=HEND.out _ _ hown9 hgrow9 hat9
    have hpos4:=hsi.ps.pos
    have HSI:=hid hsi
    clear hown9 hgrow9 hat9 hr4 he4 hsi hc4
    go_wp2
    refine ⟨⟨f,l++[st],j4,n+1,q9,c9,m4,by omega,rfl,HG4,HSI⟩,?_⟩
    rw [hpos4,HPOS.out];omega
   | false =>
    rw [named_kind,hnm] at hk
    have HE:=hid (show RR=.ok (l,j) from by
     rw [←HF.out,stF,show start (Tk ys) j=false from by unfold start;rw [hif,hwh,hse,hnm];rfl,if_neg (by simp)])
    clear hif hwh hse hnm hstep
    go_wp2_with fail
    go_at_call 115
    refine hsk1.out.mono ?_
    rintro e w' ⟨rfl,rfl⟩
    go_wp2_with fail
    go_at_call 115
    refine hsk2.out.mono ?_
    rintro e w' ⟨rfl,rfl⟩
    go_wp2_with fail
    go_at_call 115
    refine hsk3.out.mono ?_
    rintro e w' ⟨rfl,rfl⟩
    go_wp2_with (go_at_call 167;refine hk.mono ?_;rintro e wk ⟨rfl,rfl⟩)
    go_ret
    exact ret_ok HE.out HS.out.chg HS.out.ok
theorem stmts_all (hw:Ws ys):∀d,d≤12→RdS ys len bp bw vp 150 (fun v=>#[.pointer (some ⟨bp,0,none⟩),v,.int .i64 ((12 - d:Nat):Int)]) (fun i=>stF (Tk ys) (Syn.stmtD (Tk ys) (ys.length+1) d) (ys.length+1) [] i)
 | 0,_=>stmts_any hw (.inl ⟨rfl,rfl⟩)
 | d+1,h=>by
  refine stmts_any hw (d:=12 - (d+1)) (s:=some (Syn.stmtD (Tk ys) (ys.length+1) d)) (.inr ⟨by omega,_,rfl,stmtD_cnt d,Syn.stmt_fit (tk_nones ys) (by omega) d,Syn.stmt_good d,stmtD_no d,?_⟩)
  have:=stmts_all hw d (by omega)
  rw [show (((12 - (d+1):Nat):Int)+1)=((12 - d:Nat):Int) by omega]
  exact this
end
def NR (w:World) (vp:Value) (ns:List (List Nat)):Prop:=w.ownsRow 0 9 1 vp ns.length (strC ns)∧ns.length≤64∧∀s∈ns,bl (sb s)=s
theorem nr_cell {w:World} {q:Option Addr} {n c:Nat} {ns:List (List Nat)} (h:NR w (.slice q n c) ns) (j:Nat) (hj:j<ns.length):∃g,q=some ⟨g,0,none⟩∧w.cell? ⟨g,j,none⟩=some (.string (sb ns[j])):=by
 obtain ⟨h,_,_⟩:=h
 rcases h.2 with ⟨h0,h1⟩|⟨g,cap,cur,h0,_,hg,_,_,_,ht⟩
 ·omega
 ·simp only [Value.slice.injEq] at h0
  obtain ⟨rfl,rfl,rfl⟩:=h0
  refine ⟨g,rfl,cell_of hg ?_⟩
  have hk:=congrArg (fun l=>l[j]?) ht
  simp only [List.getElem?_take,strC,List.getElem?_map,List.getElem?_eq_getElem hj,Option.map_some] at hk
  rw [if_pos (by omega)] at hk
  simpa using hk
def ixV (ns:List (List Nat)) (t:List Nat):Int:=if ns.idxOf t<ns.length then (ns.idxOf t:Int) else -1
theorem ix_miss {ns:List (List Nat)} {t:List Nat} {k:Nat} (hk:k<ns.idxOf t) (h:k<ns.length):ns[k]≠t:=by
 intro e
 have:=List.not_of_lt_findIdx (p:=fun x=>x == t) (xs:=ns) (show k<ns.findIdx (fun x=>x == t) from hk)
 simp [e] at this
set_option maxRecDepth 100000 in
theorem index_any {w:World} {q:Option Addr} {n c:Nat} {ns:List (List Nat)} (h:NR w (.slice q n c) ns) (hn:n=ns.length) (t:ByteArray) :
 Calls Tryz.prog 70 #[.slice q n c,.string t] w fun e w'=>e=.returned (.int .i64 (ixV ns (bl t)))∧w=w':=by
 subst hn
 have hlen:=h.2.1
 obtain ⟨nn,hnn⟩:∃nn,ns.length=nn:=⟨_,rfl⟩
 have hcell:=fun j (hj:j<ns.length)=>nr_cell h j hj
 have heq:=fun j (hj:j<ns.length)=>h.2.2 ns[j] (List.getElem_mem hj)
 have hmiss:=fun j (hj:j<ns.length) (hi:j<ns.idxOf (bl t))=>ix_miss hi hj
 have hle:=List.idxOf_le_length (a:=bl t) (l:=ns)
 have hhit:=fun (hi:ns.idxOf (bl t)<ns.length)=>List.getElem_idxOf hi
 have HV:=hid (show ixV ns (bl t)=if ns.idxOf (bl t)<ns.length then (ns.idxOf (bl t):Int) else -1 from rfl)
 rw [hnn] at hlen hle ⊢
 have HNN:=hid hnn
 have HC:=hid hcell
 have HQ:=hid heq
 have HM:=hid hmiss
 have HH:=hid hhit
 obtain ⟨ix,hix⟩:∃ix,ns.idxOf (bl t)=ix:=⟨_,rfl⟩
 have HIX:=hid hix
 rw [hix] at hle
 obtain ⟨iv,hiv⟩:∃iv,ixV ns (bl t)=iv:=⟨_,rfl⟩
 rw [hiv]
 have HIV:=hid hiv
 clear hnn hcell heq hmiss hhit h hix hiv
 go_enter Tryz.func70,Tryz.ntmps70
 go_wp2
 go_loop [8] (fun a=>∃k:Nat,k≤ix∧a=.int .i64 k) (fun a=>65 - (intOf a).toNat)
 case atStart=>exact ⟨0,Nat.zero_le _,rfl⟩
 case round =>
  obtain ⟨k,hk,rfl⟩:=hrel
  by_cases hkn:k<nn
  ·obtain ⟨g,rfl,hck⟩:=HC.out k (by rw [HNN.out];exact hkn)
   have hb:=HQ.out k (by rw [HNN.out];exact hkn)
   by_cases hki:k=ix
   ·subst hki
    have he:(t.toList == (sb (ns[k]'(by rw [HNN.out];exact hkn))).toList)=true:=by
     rw [eq_text,hb]
     have h2:=HH.out (by rw [HIX.out,HNN.out];exact hkn)
     simp only [HIX.out] at h2
     rw [h2];simp
    have HR:=hid (show iv=(k:Int) from by rw [←HIV.out,HV.out,HIX.out,HNN.out,if_pos hkn])
    clear hb
    generalize sb (ns[k]'_)=sk at *
    go_wp2
    go_ret
    exact ⟨by rw [HR.out];rfl,rfl⟩
   ·have he:(t.toList == (sb (ns[k]'(by rw [HNN.out];exact hkn))).toList)=false:=by
     rw [eq_text,hb,beq_eq_false_iff_ne]
     exact fun e=>HM.out k (by rw [HNN.out];exact hkn) (by rw [HIX.out];omega) e.symm
    have hlt:k<ix:=by omega
    clear hb hki
    generalize sb (ns[k]'_)=sk at *
    go_wp2
    go_round
    case rel=>exact ⟨k+1,by omega,by go_num⟩
    case measure=>simp [intOf];omega
  ·have HR:=hid (show iv=-1 from by rw [←HIV.out,HV.out,HIX.out,HNN.out,if_neg (by omega)])
   go_wp2
   go_ret
   exact ⟨by rw [HR.out];rfl,rfl⟩
end Go.Proofs.YtlpdjfimefjmcaaGreatDoor.Q
