/- A part of the proof of PrintBack: contracts and plain facts. -/
import Derived.Test.YtpcniebkabkikaaGreatDoorPBqR13
import Derived.Test.YtpcniebkabkikaaGreatDoorPBqR1
import Derived.Deep.RegionHeldLaw
import Derived.Test.YtpcniebkabkikaaGreatDoorPBqR9
import Derived.Deep.QuietTactic
set_option maxRecDepth 100000
set_option maxHeartbeats 8000000
open Go.Lib (hid)
open Go.Proofs.Tryz
open List renaming append_assoc → nlb, append_nil → nlf
open Go.World renaming alloc_heap_new → nwn
namespace Go.Proofs.YtpcniebkabkikaaGreatDoor
open Go Go.RowKit Go.Proofs.Mm
theorem zu_:∀n:Nat,(Lib.repeatL [32,32] n).map UInt8.toNat=List.replicate (2*n) 32
 | 0=>rfl
 | n+1=>by
  show 32::32::(Lib.repeatL [32,32] n).map UInt8.toNat=_
  rw [zu_ n,show 2*(n+1)=2*n+1+1 by omega,List.replicate_succ,List.replicate_succ]
theorem hr_ {P:ByteArray→Prop} {a c d:ByteArray} (h1:P a) (h2:P c) (h3:P d):∀s∈[a,c,d],P s:=by
 intro s hs
 rcases List.mem_cons.1 hs with rfl|hs
 ·exact h1
 ·exact tf_ h2 h3 s hs
theorem ok_ {P:ByteArray→Prop} {a c d e f:ByteArray} (h1:P a) (h2:P c) (h3:P d) (h4:P e) (h5:P f):∀s∈[a,c,d,e,f],P s:=by
 intro s hs
 rcases List.mem_cons.1 hs with rfl|hs
 ·exact h1
 rcases List.mem_cons.1 hs with rfl|hs
 ·exact h2
 ·exact hr_ h3 h4 h5 s hs
theorem in_six {P:ByteArray→Prop} {a c d e f g:ByteArray} (h1:P a) (h2:P c) (h3:P d) (h4:P e) (h5:P f) (h6:P g):∀s∈[a,c,d,e,f,g],P s:=by
 intro s hs
 rcases List.mem_cons.1 hs with rfl|hs
 ·exact h1
 ·exact ok_ h2 h3 h4 h5 h6 s hs
theorem et_ {s:StZ} (h:StF s) (k:Nat):(exAt s k).length≤140737488355327:=by
 unfold exAt
 split
 ·rename_i e he
  exact xb_ (h.2.2.1 e (List.mem_of_getElem? he))
 ·decide
theorem af_ {w:World} {g:Nat} {s:StZ} {q1:Option Addr} {c1:Nat} {q2:Option Addr} {c2:Nat} {kk:Int} (h:w.heap[g]?=some (so s q1 c1 q2 c2)) (hk:s.kind=kk):w.cell? ⟨g,0,none⟩=some (.int .i64 kk)∧w.cell? ⟨g,1,none⟩=some (.string s.name)∧w.cell? ⟨g,2,none⟩=some (.slice q1 s.targets.length c1)∧w.cell? ⟨g,3,none⟩=some (.slice q2 s.exprs.length c2):=by
 subst hk
 exact ay_ h
section
variable {C:Cl} {B b:Nat} {vp:Value} {t:List Nat} {W:World}
theorem cr_ (hc:PC C B) (h:PI C B b vp t W) (n:Nat) (hn:n≤70368744177663):Calls prog 205 #[.string ⟨#[32,32]⟩,.int .i64 (n:Int)] W fun e w'=>∃z,e=.returned (.string z)∧bl z=List.replicate (2*n) 32∧PI C B b vp t w'∧Below W.heap.size W w':=by
 refine (Tryz.strings_Repeat ⟨#[32,32]⟩ n W (by omega) (by show 2*n≤_;omega)).mono ?_
 rintro e w' ⟨rfl,hb⟩
 exact ⟨_,rfl,by rw [zn_];exact zu_ n,h.all hc hb,hb⟩
theorem put3 (t:List Nat) (a c d:ByteArray):t++[a,c,d].flatMap bl=t++(bl a++(bl c++bl d)):=by simp
theorem put5 (t:List Nat) (a c d e f:ByteArray):t++[a,c,d,e,f].flatMap bl=t++(bl a++(bl c++(bl d++(bl e++bl f)))):=by simp
theorem put6 (t:List Nat) (a c d e f g:ByteArray):t++[a,c,d,e,f,g].flatMap bl=t++(bl a++(bl c++(bl d++(bl e++(bl f++bl g))))):=by simp
theorem kt_:bl ⟨#[32,61,32]⟩=[32,61,32]:=rfl
theorem ku_:bl ⟨#[59]⟩=[59]:=rfl
theorem kv_:bl ⟨#[91]⟩=[91]:=rfl
theorem kw_:bl ⟨#[93,32,61,32]⟩=[93,32,61,32]:=rfl
theorem kx_:bl ⟨#[115,101,110,100,32]⟩=[115,101,110,100,32]:=rfl
theorem ky_:bl ⟨#[32]⟩=[32]:=rfl
theorem kz_:bl ⟨#[105,102,32]⟩=[105,102,32]:=rfl
theorem k0_:bl ⟨#[32,123]⟩=[32,123]:=rfl
theorem k1_:bl ⟨#[125,32,101,108,115,101,32,123]⟩=[125,32,101,108,115,101,32,123]:=rfl
theorem k2_:bl ⟨#[119,104,105,108,101,32]⟩=[119,104,105,108,101,32]:=rfl
theorem fs_:bl ⟨#[125]⟩=[125]:=rfl
theorem ft_:bl ⟨#[10]⟩=[10]:=rfl
end
section
variable {C:Cl} {B b:Nat} {vp:Value} {t:List Nat} {W:World}
theorem stmt_1 (hc:PC C B) (h:PI C B b vp t W) (s:StZ) (hk:s.kind=1) {q1 q2:Option Addr} (c1 c2:Nat) (hs:SR C s q1 q2) (dp:Int) (n:Nat) (hdp:max dp 0=(n:Int)) (hn:n≤70368744177663) :
 Calls prog 166 #[.pointer (some ⟨b,0,none⟩),.int .i64 dp,sv s q1 c1 q2 c2] W (Wrote C B b vp W (t++(List.replicate (2*n) 32++(lineZ s++[10])))):=by
 have hne:W.heap.size≠b:=by have:=h.b_lt;omega
 have HP1:=hid (h.alloc hc (so s q1 c1 q2 c2))
 have HK1:=hid ((Kp.refl B (fun k=>k=b) W).alloc h.low (so s q1 c1 q2 c2))
 have HX1:=hid (nwn W (so s q1 c1 q2 c2))
 have HC:=hid hc
 have HS:=hid hs
 have HKK:=hid hk
 have hmx:prog.follows .mixedOrders=true:=by kernel_rfl
 unfold so at HP1 HK1 HX1
 unfold sv
 rw [hk] at HP1 HK1 HX1 ⊢
 clear h hc hs hk
 go_enter func166,ntmps166
 go_upto_region 1 with fail
 generalize (W.alloc _:World)=w1 at *
 have HX1:Hid (w1.heap[W.heap.size]?=some (so s q1 c1 q2 c2)):=hid (by have:=HX1.out;unfold so;rw [HKK.out];exact this)
 obtain ⟨d0,d1,d2,d3⟩:=af_ HX1.out HKK.out
 have HR:=hid (cr_ HC.out HP1.out n hn)
 go_wp2_with fail
 go_at_call 205
 refine HR.out.mono ?_
 rintro e wr ⟨zr,rfl,hzr,hpr,hbr⟩
 have HWr:=hid (aw_ HC.out hpr zr (by rw [←ae_,hzr,List.length_replicate];omega))
 have HZr:=hid hzr
 have HKr:=hid (HK1.out.trans (Kp.all hbr HP1.out.low))
 have HXr:=hid ((hbr.block _ (heap_lt HX1.out)).trans HX1.out)
 clear hzr hpr hbr HR d0 d1 d2 d3
 obtain ⟨d0,d1,d2,d3⟩:=af_ HXr.out HKK.out
 go_wp2_with fail
 go_at_call 57
 refine HWr.out.mono ?_
 rintro e w2 ⟨rfl,hp,hk⟩
 rw [HZr.out] at hp
 have HP2:=hid hp
 have HX2:=hid (bo_ HXr.out hk hne)
 have HK2:=hid (HKr.out.trans hk)
 clear hp hk d0 d1 d2 d3 HXr HKr HWr HZr HP1 HX1 HK1
 obtain ⟨d0,d1,d2,d3⟩:=af_ HX2.out HKK.out
 have HW:=hid (mk_ HC.out HP2.out s c1 c2 HS.out)
 unfold sv at HW
 rw [HKK.out] at HW
 go_wp2_with fail
 go_at_call 206
 refine HW.out.mono ?_
 rintro e w3 ⟨rfl,hp,hk⟩
 have HP3:=hid hp
 have HX3:=hid (bo_ HX2.out hk hne)
 have HK3:=hid (HK2.out.trans hk)
 clear hp hk d0 d1 d2 d3 HX2 HK2 HP2 HW
 obtain ⟨d0,d1,d2,d3⟩:=af_ HX3.out HKK.out
 have HW:=hid (ds_ s c1 c2 HS.out 0 (by omega) w3 HP3.out.rd HP3.out.env)
 unfold sv at HW
 rw [HKK.out] at HW
 go_wp2_with fail
 go_at_call 207
 refine HW.out.mono ?_
 rintro e wz ⟨z,rfl,hz,hb⟩
 have HPz:=hid (HP3.out.all HC.out hb)
 have HKz:=hid (HK3.out.trans (Kp.all hb HP3.out.low))
 have HXz:=hid ((hb.block _ (heap_lt HX3.out)).trans HX3.out)
 have HZ:=hid hz
 have HW2:=hid (ha_ HC.out HPz.out [⟨#[32,61,32]⟩,z,⟨#[59]⟩] (by simp) (hr_ (by decide) (by rw [←ae_,hz];exact et_ HS.out.f 0) (by decide)) (L:=#[.string ⟨#[32,61,32]⟩,.string z,.string ⟨#[59]⟩]) rfl (n:=3) rfl)
 clear hz hb HW HP3 HK3 HX3 d0 d1 d2 d3
 obtain ⟨d0,d1,d2,d3⟩:=af_ HXz.out HKK.out
 go_wp2_with fail
 go_at_call 111
 refine HW2.out.mono ?_
 rintro e w4 ⟨rfl,hp,hk⟩
 have HP4:=hid (show PI C B b vp _ w4 from by rw [put3,HZ.out] at hp;exact hp)
 have HX4:=hid (bo_ HXz.out hk hne)
 have HK4:=hid (HKz.out.trans hk)
 clear hp hk d0 d1 d2 d3 HXz HKz HPz HW2 HZ
 obtain ⟨d0,d1,d2,d3⟩:=af_ HX4.out HKK.out
 have HW:=hid (aw_ HC.out HP4.out ⟨#[10]⟩ (by decide))
 go_wp2_with fail
 go_at_call 57
 refine HW.out.mono ?_
 rintro e w5 ⟨rfl,hp,hk⟩
 have HP5:=hid hp
 have HX5:=hid (bo_ HX4.out hk hne)
 have HK5:=hid (HK4.out.trans hk)
 clear hp hk d0 d1 d2 d3 HX4 HK4 HP4 HW
 go_wp2_with fail
 first|go_end0|refine bodyPost_ret (results_none rfl _ _ _) rfl ?_
 refine ⟨rfl,?_,HK5.out⟩
 have hp:=HP5.out
 unfold lineZ
 rw [HKK.out]
 simpa [nlb,kt_,ku_,kv_,kw_,kx_,ky_,kz_,k0_,k1_,k2_,fs_,ft_] using hp
end
end Go.Proofs.YtpcniebkabkikaaGreatDoor
namespace Go.Proofs.YtpcniebkabkikaaGreatDoor
open Go Go.RowKit Go.Proofs.Mm
open List renaming setIfInBounds_toArray → n1,set_cons_zero → n2,set_cons_succ → n3,getElem_toArray → n4,getElem_cons_zero → n5,getElem_cons_succ → n6
section
variable {C:Cl} {B b:Nat} {vp:Value} {t:List Nat} {W:World}
theorem stmt_2 (hc:PC C B) (h:PI C B b vp t W) (s:StZ) (hk:s.kind=2) {q1 q2:Option Addr} (c1 c2:Nat) (hs:SR C s q1 q2) (dp:Int) (n:Nat) (hdp:max dp 0=(n:Int)) (hn:n≤70368744177663) :
 Calls prog 166 #[.pointer (some ⟨b,0,none⟩),.int .i64 dp,sv s q1 c1 q2 c2] W (Wrote C B b vp W (t++(List.replicate (2*n) 32++(lineZ s++[10])))):=by
 have hne:W.heap.size≠b:=by have:=h.b_lt;omega
 have HP1:=hid (h.alloc hc (so s q1 c1 q2 c2))
 have HK1:=hid ((Kp.refl B (fun k=>k=b) W).alloc h.low (so s q1 c1 q2 c2))
 have HX1:=hid (nwn W (so s q1 c1 q2 c2))
 have HC:=hid hc
 have HS:=hid hs
 have HKK:=hid hk
 have hmx:prog.follows .mixedOrders=true:=by kernel_rfl
 unfold so at HP1 HK1 HX1
 unfold sv
 rw [hk] at HP1 HK1 HX1 ⊢
 clear h hc hs hk
 go_enter func166,ntmps166
 go_upto_region 1 with fail
 generalize (W.alloc _:World)=w1 at *
 have HX1:Hid (w1.heap[W.heap.size]?=some (so s q1 c1 q2 c2)):=hid (by have:=HX1.out;unfold so;rw [HKK.out];exact this)
 obtain ⟨d0,d1,d2,d3⟩:=af_ HX1.out HKK.out
 have HR:=hid (cr_ HC.out HP1.out n hn)
 go_wp2_with fail
 go_at_call 205
 refine HR.out.mono ?_
 rintro e wr ⟨zr,rfl,hzr,hpr,hbr⟩
 have HWr:=hid (aw_ HC.out hpr zr (by rw [←ae_,hzr,List.length_replicate];omega))
 have HZr:=hid hzr
 have HKr:=hid (HK1.out.trans (Kp.all hbr HP1.out.low))
 have HXr:=hid ((hbr.block _ (heap_lt HX1.out)).trans HX1.out)
 clear hzr hpr hbr HR d0 d1 d2 d3
 obtain ⟨d0,d1,d2,d3⟩:=af_ HXr.out HKK.out
 go_wp2_with fail
 go_at_call 57
 refine HWr.out.mono ?_
 rintro e w2 ⟨rfl,hp,hk⟩
 rw [HZr.out] at hp
 have HP2:=hid hp
 have HX2:=hid (bo_ HXr.out hk hne)
 have HK2:=hid (HKr.out.trans hk)
 clear hp hk d0 d1 d2 d3 HXr HKr HWr HZr HP1 HX1 HK1
 obtain ⟨d0,d1,d2,d3⟩:=af_ HX2.out HKK.out
 go_upto_region 8 with fail
 have HPd:=hid (HP2.out.all HC.out (Below.refl _ w2).drew)
 have HKd:=hid (show Kp B (fun k=>k=b) W w2.drew from HK2.out.drewN 1)
 have HXd:=hid (show w2.drew.heap[W.heap.size]?=some (so s q1 c1 q2 c2) from HX2.out)
 have HE0:=hid (fun (w:World) (hp:PI C B b vp (t++List.replicate (2*n) 32) w)=>ds_ s c1 c2 HS.out 0 (by omega) w hp.rd hp.env)
 have HE1:=hid (fun (w:World) (hp:PI C B b vp (t++List.replicate (2*n) 32) w)=>ds_ s c1 c2 HS.out 1 (by omega) w hp.rd hp.env)
 unfold sv at HE0 HE1
 rw [HKK.out] at HE0 HE1
 have hS0:=af_ HXd.out HKK.out
 refine wp_region_held_drew (S:=(fun w':World=>w'.cell? ⟨W.heap.size,0,none⟩=some (.int .i64 2)∧w'.cell? ⟨W.heap.size,1,none⟩=some (.string s.name)∧w'.cell? ⟨W.heap.size,2,none⟩=some (.slice q1 s.targets.length c1)∧w'.cell? ⟨W.heap.size,3,none⟩=some (.slice q2 s.exprs.length c2))) hmx hS0 (fun hHeld=>?_)
 refine wpAnyH_take (i:=0) (v:=.pointer (some ⟨b,0,none⟩)) rfl (by kernel_rfl) (by kernel_rfl) (by kernel_rfl) (fun _ _ _ h=>h) (Or.inl ⟨by rfl,fun w hSw=>by obtain ⟨s0,s1,s2,s3⟩:=hSw;go_simp⟩) (by assumption) ?_
 try simp only [Act.put,n1,n2,n3,n4,n5,n6]
 refine wpAnyH_take (i:=1) (v:=.pointer (some ⟨W.heap.size,1,none⟩)) rfl (by kernel_rfl) (by kernel_rfl) (by kernel_rfl) (fun _ _ _ h=>h) (Or.inl ⟨by rfl,fun w hSw=>by obtain ⟨s0,s1,s2,s3⟩:=hSw;go_simp⟩) (by assumption) ?_
 try simp only [Act.put,n1,n2,n3,n4,n5,n6]
 refine wpAnyH_take (i:=2) (v:=.string s.name) rfl (by kernel_rfl) (by kernel_rfl) (by kernel_rfl) (fun _ _ _ h=>h) (Or.inl ⟨by rfl,fun w hSw=>by obtain ⟨s0,s1,s2,s3⟩:=hSw;go_simp⟩) (by assumption) ?_
 try simp only [Act.put,n1,n2,n3,n4,n5,n6]
 refine wpAnyH_take (i:=3) (v:=.agg #[.int .i64 2,.string s.name,.slice q1 s.targets.length c1,.slice q2 s.exprs.length c2]) rfl (by kernel_rfl) (by kernel_rfl) (by kernel_rfl) (fun _ _ _ h=>h) (Or.inl ⟨by rfl,fun w hSw=>by obtain ⟨s0,s1,s2,s3⟩:=hSw;go_simp⟩) (by assumption) ?_
 try simp only [Act.put,n1,n2,n3,n4,n5,n6]
 refine wpAnyH_take (i:=5) (v:=.agg #[.int .i64 2,.string s.name,.slice q1 s.targets.length c1,.slice q2 s.exprs.length c2]) rfl (by kernel_rfl) (by kernel_rfl) (by kernel_rfl) (fun _ _ _ h=>h) (Or.inl ⟨by rfl,fun w hSw=>by obtain ⟨s0,s1,s2,s3⟩:=hSw;go_simp⟩) (by assumption) ?_
 try simp only [Act.put,n1,n2,n3,n4,n5,n6]
 refine wpAnyH_ready (rs:=[4]) (by kernel_rfl) (by simp) ?_
 refine AllReadyH.cons rfl (fun K1 hK1=>?_) AllReadyH.nil
 go_simp
 go_at_call 207
 refine (HE0.out _ HPd.out).mono ?_
 rintro e wz1 ⟨z1,rfl,hz1,hb⟩
 have HPz1:=hid (HPd.out.all HC.out hb)
 have HKz1:=hid (HKd.out.trans (Kp.all hb HPd.out.low))
 have HXz1:=hid ((hb.block _ (heap_lt HXd.out)).trans HXd.out)
 have HZ1:=hid hz1
 clear hb hz1
 refine hK1.out _ _ (af_ HXz1.out HKK.out) (fun hHeld=>?_)
 try simp only [Act.put,n1,n2,n3,n4,n5,n6]
 refine wpAnyH_ready (rs:=[6]) (by kernel_rfl) (by simp) ?_
 refine AllReadyH.cons rfl (fun K2 hK2=>?_) AllReadyH.nil
 go_simp
 go_at_call 207
 refine (HE1.out _ HPz1.out).mono ?_
 rintro e wz2 ⟨z2,rfl,hz2,hb⟩
 have HPz2:=hid (HPz1.out.all HC.out hb)
 have HKz2:=hid (HKz1.out.trans (Kp.all hb HPz1.out.low))
 have HXz2:=hid ((hb.block _ (heap_lt HXz1.out)).trans HXz1.out)
 have HZ2:=hid hz2
 clear hb hz2
 refine hK2.out _ _ (af_ HXz2.out HKK.out) (fun hHeld=>?_)
 try simp only [Act.put,n1,n2,n3,n4,n5,n6]
 refine wpAnyH_ready (rs:=[7]) (by kernel_rfl) (by simp) ?_
 refine AllReadyH.cons rfl (fun K3 hK3=>?_) AllReadyH.nil
 go_simp
 have HXa:=hid (ad_ wz2 (.cells #[.string s.name,.string ⟨#[91]⟩,.string z1,.string ⟨#[93,32,61,32]⟩,.string z2,.string ⟨#[59]⟩] 9) HXz2.out)
 refine hK3.out _ _ (af_ HXa.out HKK.out) (fun hHeld=>?_)
 try simp only [Act.put,n1,n2,n3,n4,n5,n6]
 refine wpAnyH_ready (rs:=[8]) (by kernel_rfl) (by simp) ?_
 refine AllReadyH.cons rfl (fun K4 hK4=>?_) AllReadyH.nil
 go_simp
 have HW2:=hid (ha_ HC.out HPz2.out [s.name,⟨#[91]⟩,z1,⟨#[93,32,61,32]⟩,z2,⟨#[59]⟩] (by simp) (in_six HS.out.f.1 (by decide) (by rw [←ae_,HZ1.out];exact et_ HS.out.f 0) (by decide) (by rw [←ae_,HZ2.out];exact et_ HS.out.f 1) (by decide)) (L:=#[.string s.name,.string ⟨#[91]⟩,.string z1,.string ⟨#[93,32,61,32]⟩,.string z2,.string ⟨#[59]⟩]) rfl (n:=6) rfl)
 go_at_call 111
 refine HW2.out.mono ?_
 rintro e w3 ⟨rfl,hp,hk⟩
 have HP3:=hid (show PI C B b vp _ w3 from by rw [put6,HZ1.out,HZ2.out] at hp;exact hp)
 have HX3:=hid (bo_ HXz2.out hk hne)
 have HK3:=hid (HKz2.out.trans hk)
 clear hp hk
 refine hK4.out _ _ (af_ HX3.out HKK.out) (fun hHeld=>?_)
 try simp only [Act.put,n1,n2,n3,n4,n5,n6]
 refine wpAnyH_done (by kernel_rfl) ?_ _
 obtain ⟨d0,d1,d2,d3⟩:=af_ HX3.out HKK.out
 have HW:=hid (aw_ HC.out HP3.out ⟨#[10]⟩ (by decide))
 go_wp2_with fail
 go_at_call 57
 refine HW.out.mono ?_
 rintro e w4 ⟨rfl,hp,hk⟩
 have HP4:=hid hp
 have HX4:=hid (bo_ HX3.out hk hne)
 have HK4:=hid (HK3.out.trans hk)
 clear hp hk d0 d1 d2 d3 HX3 HK3 HP3 HW
 go_wp2_with fail
 first|go_end0|refine bodyPost_ret (results_none rfl _ _ _) rfl ?_
 refine ⟨rfl,?_,HK4.out⟩
 have hp:=HP4.out
 unfold lineZ
 rw [HKK.out]
 simpa [nlb,kt_,ku_,kv_,kw_,kx_,ky_,kz_,k0_,k1_,k2_,fs_,ft_] using hp
end
section
variable {C:Cl} {B b:Nat} {vp:Value} {t:List Nat} {W:World}
theorem stmt_3 (hc:PC C B) (h:PI C B b vp t W) (s:StZ) (hk:s.kind=3) {q1 q2:Option Addr} (c1 c2:Nat) (hs:SR C s q1 q2) (dp:Int) (n:Nat) (hdp:max dp 0=(n:Int)) (hn:n≤70368744177663) :
 Calls prog 166 #[.pointer (some ⟨b,0,none⟩),.int .i64 dp,sv s q1 c1 q2 c2] W (Wrote C B b vp W (t++(List.replicate (2*n) 32++(lineZ s++[10])))):=by
 have hne:W.heap.size≠b:=by have:=h.b_lt;omega
 have HP1:=hid (h.alloc hc (so s q1 c1 q2 c2))
 have HK1:=hid ((Kp.refl B (fun k=>k=b) W).alloc h.low (so s q1 c1 q2 c2))
 have HX1:=hid (nwn W (so s q1 c1 q2 c2))
 have HC:=hid hc
 have HS:=hid hs
 have HKK:=hid hk
 have hmx:prog.follows .mixedOrders=true:=by kernel_rfl
 unfold so at HP1 HK1 HX1
 unfold sv
 rw [hk] at HP1 HK1 HX1 ⊢
 clear h hc hs hk
 go_enter func166,ntmps166
 go_upto_region 1 with fail
 generalize (W.alloc _:World)=w1 at *
 have HX1:Hid (w1.heap[W.heap.size]?=some (so s q1 c1 q2 c2)):=hid (by have:=HX1.out;unfold so;rw [HKK.out];exact this)
 obtain ⟨d0,d1,d2,d3⟩:=af_ HX1.out HKK.out
 have HR:=hid (cr_ HC.out HP1.out n hn)
 go_wp2_with fail
 go_at_call 205
 refine HR.out.mono ?_
 rintro e wr ⟨zr,rfl,hzr,hpr,hbr⟩
 have HWr:=hid (aw_ HC.out hpr zr (by rw [←ae_,hzr,List.length_replicate];omega))
 have HZr:=hid hzr
 have HKr:=hid (HK1.out.trans (Kp.all hbr HP1.out.low))
 have HXr:=hid ((hbr.block _ (heap_lt HX1.out)).trans HX1.out)
 clear hzr hpr hbr HR d0 d1 d2 d3
 obtain ⟨d0,d1,d2,d3⟩:=af_ HXr.out HKK.out
 go_wp2_with fail
 go_at_call 57
 refine HWr.out.mono ?_
 rintro e w2 ⟨rfl,hp,hk⟩
 rw [HZr.out] at hp
 have HP2:=hid hp
 have HX2:=hid (bo_ HXr.out hk hne)
 have HK2:=hid (HKr.out.trans hk)
 clear hp hk d0 d1 d2 d3 HXr HKr HWr HZr HP1 HX1 HK1
 obtain ⟨d0,d1,d2,d3⟩:=af_ HX2.out HKK.out
 go_upto_region 10 with fail
 have HPd:=hid (HP2.out.all HC.out (Below.refl _ w2).drew)
 have HKd:=hid (show Kp B (fun k=>k=b) W w2.drew from HK2.out.drewN 1)
 have HXd:=hid (show w2.drew.heap[W.heap.size]?=some (so s q1 c1 q2 c2) from HX2.out)
 have HE0:=hid (fun (w:World) (hp:PI C B b vp (t++List.replicate (2*n) 32) w)=>ds_ s c1 c2 HS.out 0 (by omega) w hp.rd hp.env)
 have HE1:=hid (fun (w:World) (hp:PI C B b vp (t++List.replicate (2*n) 32) w)=>ds_ s c1 c2 HS.out 1 (by omega) w hp.rd hp.env)
 unfold sv at HE0 HE1
 rw [HKK.out] at HE0 HE1
 have hS0:=af_ HXd.out HKK.out
 refine wp_region_held_drew (S:=(fun w':World=>w'.cell? ⟨W.heap.size,0,none⟩=some (.int .i64 3)∧w'.cell? ⟨W.heap.size,1,none⟩=some (.string s.name)∧w'.cell? ⟨W.heap.size,2,none⟩=some (.slice q1 s.targets.length c1)∧w'.cell? ⟨W.heap.size,3,none⟩=some (.slice q2 s.exprs.length c2))) hmx hS0 (fun hHeld=>?_)
 refine wpAnyH_take (i:=0) (v:=.pointer (some ⟨b,0,none⟩)) rfl (by kernel_rfl) (by kernel_rfl) (by kernel_rfl) (fun _ _ _ h=>h) (Or.inl ⟨by rfl,fun w hSw=>by obtain ⟨s0,s1,s2,s3⟩:=hSw;go_simp⟩) (by assumption) ?_
 try simp only [Act.put,n1,n2,n3,n4,n5,n6]
 refine wpAnyH_take (i:=1) (v:=.pointer (some ⟨W.heap.size,1,none⟩)) rfl (by kernel_rfl) (by kernel_rfl) (by kernel_rfl) (fun _ _ _ h=>h) (Or.inl ⟨by rfl,fun w hSw=>by obtain ⟨s0,s1,s2,s3⟩:=hSw;go_simp⟩) (by assumption) ?_
 try simp only [Act.put,n1,n2,n3,n4,n5,n6]
 refine wpAnyH_take (i:=2) (v:=.string s.name) rfl (by kernel_rfl) (by kernel_rfl) (by kernel_rfl) (fun _ _ _ h=>h) (Or.inl ⟨by rfl,fun w hSw=>by obtain ⟨s0,s1,s2,s3⟩:=hSw;go_simp⟩) (by assumption) ?_
 try simp only [Act.put,n1,n2,n3,n4,n5,n6]
 refine wpAnyH_take (i:=3) (v:=.agg #[.int .i64 3,.string s.name,.slice q1 s.targets.length c1,.slice q2 s.exprs.length c2]) rfl (by kernel_rfl) (by kernel_rfl) (by kernel_rfl) (fun _ _ _ h=>h) (Or.inl ⟨by rfl,fun w hSw=>by obtain ⟨s0,s1,s2,s3⟩:=hSw;go_simp⟩) (by assumption) ?_
 try simp only [Act.put,n1,n2,n3,n4,n5,n6]
 refine wpAnyH_ready (rs:=[4]) (by kernel_rfl) (by simp) ?_
 refine AllReadyH.cons rfl (fun K1 hK1=>?_) AllReadyH.nil
 go_simp
 go_at_call 207
 refine (HE0.out _ HPd.out).mono ?_
 rintro e wz1 ⟨z1,rfl,hz1,hb⟩
 have HPz1:=hid (HPd.out.all HC.out hb)
 have HKz1:=hid (HKd.out.trans (Kp.all hb HPd.out.low))
 have HXz1:=hid ((hb.block _ (heap_lt HXd.out)).trans HXd.out)
 have HZ1:=hid hz1
 clear hb hz1
 refine hK1.out _ _ (af_ HXz1.out HKK.out) (fun hHeld=>?_)
 try simp only [Act.put,n1,n2,n3,n4,n5,n6]
 refine wpAnyH_ready (rs:=[5]) (by kernel_rfl) (by simp) ?_
 refine AllReadyH.cons rfl (fun K2 hK2=>?_) AllReadyH.nil
 go_simp
 have HXa:=hid (ad_ wz1 (.cells #[.string ⟨#[115,101,110,100,32]⟩,.string s.name,.string ⟨#[32]⟩,.string z1,.string ⟨#[59]⟩] 9) HXz1.out)
 refine hK2.out _ _ (af_ HXa.out HKK.out) (fun hHeld=>?_)
 try simp only [Act.put,n1,n2,n3,n4,n5,n6]
 refine wpAnyH_ready (rs:=[6]) (by kernel_rfl) (by simp) ?_
 refine AllReadyH.cons rfl (fun K3 hK3=>?_) AllReadyH.nil
 go_simp
 have HW2:=hid (ha_ HC.out HPz1.out [⟨#[115,101,110,100,32]⟩,s.name,⟨#[32]⟩,z1,⟨#[59]⟩] (by simp) (ok_ (by decide) HS.out.f.1 (by decide) (by rw [←ae_,HZ1.out];exact et_ HS.out.f 0) (by decide)) (L:=#[.string ⟨#[115,101,110,100,32]⟩,.string s.name,.string ⟨#[32]⟩,.string z1,.string ⟨#[59]⟩]) rfl (n:=5) rfl)
 go_at_call 111
 refine HW2.out.mono ?_
 rintro e w3 ⟨rfl,hp,hk⟩
 have HP3:=hid (show PI C B b vp _ w3 from by rw [put5,HZ1.out] at hp;exact hp)
 have HX3:=hid (bo_ HXz1.out hk hne)
 have HK3:=hid (HKz1.out.trans hk)
 clear hp hk
 refine hK3.out _ _ (af_ HX3.out HKK.out) (fun hHeld=>?_)
 try simp only [Act.put,n1,n2,n3,n4,n5,n6]
 refine wpAnyH_done (by kernel_rfl) ?_ _
 obtain ⟨d0,d1,d2,d3⟩:=af_ HX3.out HKK.out
 have HW:=hid (aw_ HC.out HP3.out ⟨#[10]⟩ (by decide))
 go_wp2_with fail
 go_at_call 57
 refine HW.out.mono ?_
 rintro e w4 ⟨rfl,hp,hk⟩
 have HP4:=hid hp
 have HX4:=hid (bo_ HX3.out hk hne)
 have HK4:=hid (HK3.out.trans hk)
 clear hp hk d0 d1 d2 d3 HX3 HK3 HP3 HW
 go_wp2_with fail
 first|go_end0|refine bodyPost_ret (results_none rfl _ _ _) rfl ?_
 refine ⟨rfl,?_,HK4.out⟩
 have hp:=HP4.out
 unfold lineZ
 rw [HKK.out]
 simpa [nlb,kt_,ku_,kv_,kw_,kx_,ky_,kz_,k0_,k1_,k2_,fs_,ft_] using hp
end
end Go.Proofs.YtpcniebkabkikaaGreatDoor
namespace Go.Proofs.YtpcniebkabkikaaGreatDoor
open Go Go.RowKit Go.Proofs.Mm
section
variable {C:Cl} {B b:Nat} {vp:Value} {t:List Nat} {W:World}
theorem stmt_4 (hc:PC C B) (h:PI C B b vp t W) (s:StZ) (hk:s.kind=4) {q1 q2:Option Addr} (c1 c2:Nat) (hs:SR C s q1 q2) (dp:Int) (n:Nat) (hdp:max dp 0=(n:Int)) (hn:n≤70368744177663) :
 Calls prog 166 #[.pointer (some ⟨b,0,none⟩),.int .i64 dp,sv s q1 c1 q2 c2] W (Wrote C B b vp W (t++(List.replicate (2*n) 32++(lineZ s++[10])))):=by
 have hne:W.heap.size≠b:=by have:=h.b_lt;omega
 have HP1:=hid (h.alloc hc (so s q1 c1 q2 c2))
 have HK1:=hid ((Kp.refl B (fun k=>k=b) W).alloc h.low (so s q1 c1 q2 c2))
 have HX1:=hid (nwn W (so s q1 c1 q2 c2))
 have HC:=hid hc
 have HS:=hid hs
 have HKK:=hid hk
 have hmx:prog.follows .mixedOrders=true:=by kernel_rfl
 unfold so at HP1 HK1 HX1
 unfold sv
 rw [hk] at HP1 HK1 HX1 ⊢
 clear h hc hs hk
 go_enter func166,ntmps166
 go_upto_region 1 with fail
 generalize (W.alloc _:World)=w1 at *
 have HX1:Hid (w1.heap[W.heap.size]?=some (so s q1 c1 q2 c2)):=hid (by have:=HX1.out;unfold so;rw [HKK.out];exact this)
 obtain ⟨d0,d1,d2,d3⟩:=af_ HX1.out HKK.out
 have HR:=hid (cr_ HC.out HP1.out n hn)
 go_wp2_with fail
 go_at_call 205
 refine HR.out.mono ?_
 rintro e wr ⟨zr,rfl,hzr,hpr,hbr⟩
 have HWr:=hid (aw_ HC.out hpr zr (by rw [←ae_,hzr,List.length_replicate];omega))
 have HZr:=hid hzr
 have HKr:=hid (HK1.out.trans (Kp.all hbr HP1.out.low))
 have HXr:=hid ((hbr.block _ (heap_lt HX1.out)).trans HX1.out)
 clear hzr hpr hbr HR d0 d1 d2 d3
 obtain ⟨d0,d1,d2,d3⟩:=af_ HXr.out HKK.out
 go_wp2_with fail
 go_at_call 57
 refine HWr.out.mono ?_
 rintro e w2 ⟨rfl,hp,hk⟩
 rw [HZr.out] at hp
 have HP2:=hid hp
 have HX2:=hid (bo_ HXr.out hk hne)
 have HK2:=hid (HKr.out.trans hk)
 clear hp hk d0 d1 d2 d3 HXr HKr HWr HZr HP1 HX1 HK1
 obtain ⟨d0,d1,d2,d3⟩:=af_ HX2.out HKK.out
 have HW:=hid (call_p HC.out HP2.out s c1 c2 HS.out)
 unfold sv at HW
 rw [HKK.out] at HW
 go_wp2_with fail
 go_at_call 208
 refine HW.out.mono ?_
 rintro e w3 ⟨rfl,hp,hk⟩
 have HP3:=hid hp
 have HX3:=hid (bo_ HX2.out hk hne)
 have HK3:=hid (HK2.out.trans hk)
 clear hp hk d0 d1 d2 d3 HX2 HK2 HP2 HW
 obtain ⟨d0,d1,d2,d3⟩:=af_ HX3.out HKK.out
 have HW:=hid (aw_ HC.out HP3.out ⟨#[10]⟩ (by decide))
 go_wp2_with fail
 go_at_call 57
 refine HW.out.mono ?_
 rintro e w4 ⟨rfl,hp,hk⟩
 have HP4:=hid hp
 have HX4:=hid (bo_ HX3.out hk hne)
 have HK4:=hid (HK3.out.trans hk)
 clear hp hk d0 d1 d2 d3 HX3 HK3 HP3 HW
 go_wp2_with fail
 first|go_end0|refine bodyPost_ret (results_none rfl _ _ _) rfl ?_
 refine ⟨rfl,?_,HK4.out⟩
 have hp:=HP4.out
 unfold lineZ
 rw [HKK.out]
 simpa [nlb,kt_,ku_,kv_,kw_,kx_,ky_,kz_,k0_,k1_,k2_,fs_,ft_] using hp
end
section
variable {C:Cl} {B b:Nat} {vp:Value} {t:List Nat} {W:World}
theorem stmt_5 (hc:PC C B) (h:PI C B b vp t W) (s:StZ) (hk:s.kind=5) {q1 q2:Option Addr} (c1 c2:Nat) (hs:SR C s q1 q2) (dp:Int) (n:Nat) (hdp:max dp 0=(n:Int)) (hn:n≤70368744177663) :
 Calls prog 166 #[.pointer (some ⟨b,0,none⟩),.int .i64 dp,sv s q1 c1 q2 c2] W (Wrote C B b vp W (t++(List.replicate (2*n) 32++(lineZ s++[10])))):=by
 have hne:W.heap.size≠b:=by have:=h.b_lt;omega
 have HP1:=hid (h.alloc hc (so s q1 c1 q2 c2))
 have HK1:=hid ((Kp.refl B (fun k=>k=b) W).alloc h.low (so s q1 c1 q2 c2))
 have HX1:=hid (nwn W (so s q1 c1 q2 c2))
 have HC:=hid hc
 have HS:=hid hs
 have HKK:=hid hk
 have hmx:prog.follows .mixedOrders=true:=by kernel_rfl
 unfold so at HP1 HK1 HX1
 unfold sv
 rw [hk] at HP1 HK1 HX1 ⊢
 clear h hc hs hk
 go_enter func166,ntmps166
 go_upto_region 1 with fail
 generalize (W.alloc _:World)=w1 at *
 have HX1:Hid (w1.heap[W.heap.size]?=some (so s q1 c1 q2 c2)):=hid (by have:=HX1.out;unfold so;rw [HKK.out];exact this)
 obtain ⟨d0,d1,d2,d3⟩:=af_ HX1.out HKK.out
 have HR:=hid (cr_ HC.out HP1.out n hn)
 go_wp2_with fail
 go_at_call 205
 refine HR.out.mono ?_
 rintro e wr ⟨zr,rfl,hzr,hpr,hbr⟩
 have HWr:=hid (aw_ HC.out hpr zr (by rw [←ae_,hzr,List.length_replicate];omega))
 have HZr:=hid hzr
 have HKr:=hid (HK1.out.trans (Kp.all hbr HP1.out.low))
 have HXr:=hid ((hbr.block _ (heap_lt HX1.out)).trans HX1.out)
 clear hzr hpr hbr HR d0 d1 d2 d3
 obtain ⟨d0,d1,d2,d3⟩:=af_ HXr.out HKK.out
 go_wp2_with fail
 go_at_call 57
 refine HWr.out.mono ?_
 rintro e w2 ⟨rfl,hp,hk⟩
 rw [HZr.out] at hp
 have HP2:=hid hp
 have HX2:=hid (bo_ HXr.out hk hne)
 have HK2:=hid (HKr.out.trans hk)
 clear hp hk d0 d1 d2 d3 HXr HKr HWr HZr HP1 HX1 HK1
 obtain ⟨d0,d1,d2,d3⟩:=af_ HX2.out HKK.out
 have HW:=hid (ds_ s c1 c2 HS.out 0 (by omega) w2 HP2.out.rd HP2.out.env)
 unfold sv at HW
 rw [HKK.out] at HW
 go_wp2_with fail
 go_at_call 207
 refine HW.out.mono ?_
 rintro e wz ⟨z,rfl,hz,hb⟩
 have HPz:=hid (HP2.out.all HC.out hb)
 have HKz:=hid (HK2.out.trans (Kp.all hb HP2.out.low))
 have HXz:=hid ((hb.block _ (heap_lt HX2.out)).trans HX2.out)
 have HZ:=hid hz
 have HW2:=hid (ha_ HC.out HPz.out [⟨#[105,102,32]⟩,z,⟨#[32,123]⟩] (by simp) (hr_ (by decide) (by rw [←ae_,hz];exact et_ HS.out.f 0) (by decide)) (L:=#[.string ⟨#[105,102,32]⟩,.string z,.string ⟨#[32,123]⟩]) rfl (n:=3) rfl)
 clear hz hb HW HP2 HK2 HX2 d0 d1 d2 d3
 obtain ⟨d0,d1,d2,d3⟩:=af_ HXz.out HKK.out
 go_wp2_with fail
 go_at_call 111
 refine HW2.out.mono ?_
 rintro e w3 ⟨rfl,hp,hk⟩
 have HP3:=hid (show PI C B b vp _ w3 from by rw [put3,HZ.out] at hp;exact hp)
 have HX3:=hid (bo_ HXz.out hk hne)
 have HK3:=hid (HKz.out.trans hk)
 clear hp hk d0 d1 d2 d3 HXz HKz HPz HW2 HZ
 obtain ⟨d0,d1,d2,d3⟩:=af_ HX3.out HKK.out
 have HW:=hid (aw_ HC.out HP3.out ⟨#[10]⟩ (by decide))
 go_wp2_with fail
 go_at_call 57
 refine HW.out.mono ?_
 rintro e w4 ⟨rfl,hp,hk⟩
 have HP4:=hid hp
 have HX4:=hid (bo_ HX3.out hk hne)
 have HK4:=hid (HK3.out.trans hk)
 clear hp hk d0 d1 d2 d3 HX3 HK3 HP3 HW
 go_wp2_with fail
 first|go_end0|refine bodyPost_ret (results_none rfl _ _ _) rfl ?_
 refine ⟨rfl,?_,HK4.out⟩
 have hp:=HP4.out
 unfold lineZ
 rw [HKK.out]
 simpa [nlb,kt_,ku_,kv_,kw_,kx_,ky_,kz_,k0_,k1_,k2_,fs_,ft_] using hp
end
section
variable {C:Cl} {B b:Nat} {vp:Value} {t:List Nat} {W:World}
theorem stmt_6 (hc:PC C B) (h:PI C B b vp t W) (s:StZ) (hk:s.kind=6) {q1 q2:Option Addr} (c1 c2:Nat) (hs:SR C s q1 q2) (dp:Int) (n:Nat) (hdp:max dp 0=(n:Int)) (hn:n≤70368744177663) :
 Calls prog 166 #[.pointer (some ⟨b,0,none⟩),.int .i64 dp,sv s q1 c1 q2 c2] W (Wrote C B b vp W (t++(List.replicate (2*n) 32++(lineZ s++[10])))):=by
 have hne:W.heap.size≠b:=by have:=h.b_lt;omega
 have HP1:=hid (h.alloc hc (so s q1 c1 q2 c2))
 have HK1:=hid ((Kp.refl B (fun k=>k=b) W).alloc h.low (so s q1 c1 q2 c2))
 have HX1:=hid (nwn W (so s q1 c1 q2 c2))
 have HC:=hid hc
 have HS:=hid hs
 have HKK:=hid hk
 have hmx:prog.follows .mixedOrders=true:=by kernel_rfl
 unfold so at HP1 HK1 HX1
 unfold sv
 rw [hk] at HP1 HK1 HX1 ⊢
 clear h hc hs hk
 go_enter func166,ntmps166
 go_upto_region 1 with fail
 generalize (W.alloc _:World)=w1 at *
 have HX1:Hid (w1.heap[W.heap.size]?=some (so s q1 c1 q2 c2)):=hid (by have:=HX1.out;unfold so;rw [HKK.out];exact this)
 obtain ⟨d0,d1,d2,d3⟩:=af_ HX1.out HKK.out
 have HR:=hid (cr_ HC.out HP1.out n hn)
 go_wp2_with fail
 go_at_call 205
 refine HR.out.mono ?_
 rintro e wr ⟨zr,rfl,hzr,hpr,hbr⟩
 have HWr:=hid (aw_ HC.out hpr zr (by rw [←ae_,hzr,List.length_replicate];omega))
 have HZr:=hid hzr
 have HKr:=hid (HK1.out.trans (Kp.all hbr HP1.out.low))
 have HXr:=hid ((hbr.block _ (heap_lt HX1.out)).trans HX1.out)
 clear hzr hpr hbr HR d0 d1 d2 d3
 obtain ⟨d0,d1,d2,d3⟩:=af_ HXr.out HKK.out
 go_wp2_with fail
 go_at_call 57
 refine HWr.out.mono ?_
 rintro e w2 ⟨rfl,hp,hk⟩
 rw [HZr.out] at hp
 have HP2:=hid hp
 have HX2:=hid (bo_ HXr.out hk hne)
 have HK2:=hid (HKr.out.trans hk)
 clear hp hk d0 d1 d2 d3 HXr HKr HWr HZr HP1 HX1 HK1
 obtain ⟨d0,d1,d2,d3⟩:=af_ HX2.out HKK.out
 have HW:=hid (aw_ HC.out HP2.out ⟨#[125,32,101,108,115,101,32,123]⟩ (by decide))
 go_wp2_with fail
 go_at_call 57
 refine HW.out.mono ?_
 rintro e w3 ⟨rfl,hp,hk⟩
 have HP3:=hid hp
 have HX3:=hid (bo_ HX2.out hk hne)
 have HK3:=hid (HK2.out.trans hk)
 clear hp hk d0 d1 d2 d3 HX2 HK2 HP2 HW
 obtain ⟨d0,d1,d2,d3⟩:=af_ HX3.out HKK.out
 have HW:=hid (aw_ HC.out HP3.out ⟨#[10]⟩ (by decide))
 go_wp2_with fail
 go_at_call 57
 refine HW.out.mono ?_
 rintro e w4 ⟨rfl,hp,hk⟩
 have HP4:=hid hp
 have HX4:=hid (bo_ HX3.out hk hne)
 have HK4:=hid (HK3.out.trans hk)
 clear hp hk d0 d1 d2 d3 HX3 HK3 HP3 HW
 go_wp2_with fail
 first|go_end0|refine bodyPost_ret (results_none rfl _ _ _) rfl ?_
 refine ⟨rfl,?_,HK4.out⟩
 have hp:=HP4.out
 unfold lineZ
 rw [HKK.out]
 simpa [nlb,kt_,ku_,kv_,kw_,kx_,ky_,kz_,k0_,k1_,k2_,fs_,ft_] using hp
end
section
variable {C:Cl} {B b:Nat} {vp:Value} {t:List Nat} {W:World}
theorem stmt_7 (hc:PC C B) (h:PI C B b vp t W) (s:StZ) (hk:s.kind=7) {q1 q2:Option Addr} (c1 c2:Nat) (hs:SR C s q1 q2) (dp:Int) (n:Nat) (hdp:max dp 0=(n:Int)) (hn:n≤70368744177663) :
 Calls prog 166 #[.pointer (some ⟨b,0,none⟩),.int .i64 dp,sv s q1 c1 q2 c2] W (Wrote C B b vp W (t++(List.replicate (2*n) 32++(lineZ s++[10])))):=by
 have hne:W.heap.size≠b:=by have:=h.b_lt;omega
 have HP1:=hid (h.alloc hc (so s q1 c1 q2 c2))
 have HK1:=hid ((Kp.refl B (fun k=>k=b) W).alloc h.low (so s q1 c1 q2 c2))
 have HX1:=hid (nwn W (so s q1 c1 q2 c2))
 have HC:=hid hc
 have HS:=hid hs
 have HKK:=hid hk
 have hmx:prog.follows .mixedOrders=true:=by kernel_rfl
 unfold so at HP1 HK1 HX1
 unfold sv
 rw [hk] at HP1 HK1 HX1 ⊢
 clear h hc hs hk
 go_enter func166,ntmps166
 go_upto_region 1 with fail
 generalize (W.alloc _:World)=w1 at *
 have HX1:Hid (w1.heap[W.heap.size]?=some (so s q1 c1 q2 c2)):=hid (by have:=HX1.out;unfold so;rw [HKK.out];exact this)
 obtain ⟨d0,d1,d2,d3⟩:=af_ HX1.out HKK.out
 have HR:=hid (cr_ HC.out HP1.out n hn)
 go_wp2_with fail
 go_at_call 205
 refine HR.out.mono ?_
 rintro e wr ⟨zr,rfl,hzr,hpr,hbr⟩
 have HWr:=hid (aw_ HC.out hpr zr (by rw [←ae_,hzr,List.length_replicate];omega))
 have HZr:=hid hzr
 have HKr:=hid (HK1.out.trans (Kp.all hbr HP1.out.low))
 have HXr:=hid ((hbr.block _ (heap_lt HX1.out)).trans HX1.out)
 clear hzr hpr hbr HR d0 d1 d2 d3
 obtain ⟨d0,d1,d2,d3⟩:=af_ HXr.out HKK.out
 go_wp2_with fail
 go_at_call 57
 refine HWr.out.mono ?_
 rintro e w2 ⟨rfl,hp,hk⟩
 rw [HZr.out] at hp
 have HP2:=hid hp
 have HX2:=hid (bo_ HXr.out hk hne)
 have HK2:=hid (HKr.out.trans hk)
 clear hp hk d0 d1 d2 d3 HXr HKr HWr HZr HP1 HX1 HK1
 obtain ⟨d0,d1,d2,d3⟩:=af_ HX2.out HKK.out
 have HW:=hid (ds_ s c1 c2 HS.out 0 (by omega) w2 HP2.out.rd HP2.out.env)
 unfold sv at HW
 rw [HKK.out] at HW
 go_wp2_with fail
 go_at_call 207
 refine HW.out.mono ?_
 rintro e wz ⟨z,rfl,hz,hb⟩
 have HPz:=hid (HP2.out.all HC.out hb)
 have HKz:=hid (HK2.out.trans (Kp.all hb HP2.out.low))
 have HXz:=hid ((hb.block _ (heap_lt HX2.out)).trans HX2.out)
 have HZ:=hid hz
 have HW2:=hid (ha_ HC.out HPz.out [⟨#[119,104,105,108,101,32]⟩,z,⟨#[32,123]⟩] (by simp) (hr_ (by decide) (by rw [←ae_,hz];exact et_ HS.out.f 0) (by decide)) (L:=#[.string ⟨#[119,104,105,108,101,32]⟩,.string z,.string ⟨#[32,123]⟩]) rfl (n:=3) rfl)
 clear hz hb HW HP2 HK2 HX2 d0 d1 d2 d3
 obtain ⟨d0,d1,d2,d3⟩:=af_ HXz.out HKK.out
 go_wp2_with fail
 go_at_call 111
 refine HW2.out.mono ?_
 rintro e w3 ⟨rfl,hp,hk⟩
 have HP3:=hid (show PI C B b vp _ w3 from by rw [put3,HZ.out] at hp;exact hp)
 have HX3:=hid (bo_ HXz.out hk hne)
 have HK3:=hid (HKz.out.trans hk)
 clear hp hk d0 d1 d2 d3 HXz HKz HPz HW2 HZ
 obtain ⟨d0,d1,d2,d3⟩:=af_ HX3.out HKK.out
 have HW:=hid (aw_ HC.out HP3.out ⟨#[10]⟩ (by decide))
 go_wp2_with fail
 go_at_call 57
 refine HW.out.mono ?_
 rintro e w4 ⟨rfl,hp,hk⟩
 have HP4:=hid hp
 have HX4:=hid (bo_ HX3.out hk hne)
 have HK4:=hid (HK3.out.trans hk)
 clear hp hk d0 d1 d2 d3 HX3 HK3 HP3 HW
 go_wp2_with fail
 first|go_end0|refine bodyPost_ret (results_none rfl _ _ _) rfl ?_
 refine ⟨rfl,?_,HK4.out⟩
 have hp:=HP4.out
 unfold lineZ
 rw [HKK.out]
 simpa [nlb,kt_,ku_,kv_,kw_,kx_,ky_,kz_,k0_,k1_,k2_,fs_,ft_] using hp
end
section
variable {C:Cl} {B b:Nat} {vp:Value} {t:List Nat} {W:World}
theorem stmt_8 (hc:PC C B) (h:PI C B b vp t W) (s:StZ) (hk:s.kind=8) {q1 q2:Option Addr} (c1 c2:Nat) (hs:SR C s q1 q2) (dp:Int) (n:Nat) (hdp:max dp 0=(n:Int)) (hn:n≤70368744177663) :
 Calls prog 166 #[.pointer (some ⟨b,0,none⟩),.int .i64 dp,sv s q1 c1 q2 c2] W (Wrote C B b vp W (t++(List.replicate (2*n) 32++(lineZ s++[10])))):=by
 have hne:W.heap.size≠b:=by have:=h.b_lt;omega
 have HP1:=hid (h.alloc hc (so s q1 c1 q2 c2))
 have HK1:=hid ((Kp.refl B (fun k=>k=b) W).alloc h.low (so s q1 c1 q2 c2))
 have HX1:=hid (nwn W (so s q1 c1 q2 c2))
 have HC:=hid hc
 have HS:=hid hs
 have HKK:=hid hk
 have hmx:prog.follows .mixedOrders=true:=by kernel_rfl
 unfold so at HP1 HK1 HX1
 unfold sv
 rw [hk] at HP1 HK1 HX1 ⊢
 clear h hc hs hk
 go_enter func166,ntmps166
 go_upto_region 1 with fail
 generalize (W.alloc _:World)=w1 at *
 have HX1:Hid (w1.heap[W.heap.size]?=some (so s q1 c1 q2 c2)):=hid (by have:=HX1.out;unfold so;rw [HKK.out];exact this)
 obtain ⟨d0,d1,d2,d3⟩:=af_ HX1.out HKK.out
 have HR:=hid (cr_ HC.out HP1.out n hn)
 go_wp2_with fail
 go_at_call 205
 refine HR.out.mono ?_
 rintro e wr ⟨zr,rfl,hzr,hpr,hbr⟩
 have HWr:=hid (aw_ HC.out hpr zr (by rw [←ae_,hzr,List.length_replicate];omega))
 have HZr:=hid hzr
 have HKr:=hid (HK1.out.trans (Kp.all hbr HP1.out.low))
 have HXr:=hid ((hbr.block _ (heap_lt HX1.out)).trans HX1.out)
 clear hzr hpr hbr HR d0 d1 d2 d3
 obtain ⟨d0,d1,d2,d3⟩:=af_ HXr.out HKK.out
 go_wp2_with fail
 go_at_call 57
 refine HWr.out.mono ?_
 rintro e w2 ⟨rfl,hp,hk⟩
 rw [HZr.out] at hp
 have HP2:=hid hp
 have HX2:=hid (bo_ HXr.out hk hne)
 have HK2:=hid (HKr.out.trans hk)
 clear hp hk d0 d1 d2 d3 HXr HKr HWr HZr HP1 HX1 HK1
 obtain ⟨d0,d1,d2,d3⟩:=af_ HX2.out HKK.out
 have HW:=hid (aw_ HC.out HP2.out ⟨#[125]⟩ (by decide))
 go_wp2_with fail
 go_at_call 57
 refine HW.out.mono ?_
 rintro e w3 ⟨rfl,hp,hk⟩
 have HP3:=hid hp
 have HX3:=hid (bo_ HX2.out hk hne)
 have HK3:=hid (HK2.out.trans hk)
 clear hp hk d0 d1 d2 d3 HX2 HK2 HP2 HW
 obtain ⟨d0,d1,d2,d3⟩:=af_ HX3.out HKK.out
 have HW:=hid (aw_ HC.out HP3.out ⟨#[10]⟩ (by decide))
 go_wp2_with fail
 go_at_call 57
 refine HW.out.mono ?_
 rintro e w4 ⟨rfl,hp,hk⟩
 have HP4:=hid hp
 have HX4:=hid (bo_ HX3.out hk hne)
 have HK4:=hid (HK3.out.trans hk)
 clear hp hk d0 d1 d2 d3 HX3 HK3 HP3 HW
 go_wp2_with fail
 first|go_end0|refine bodyPost_ret (results_none rfl _ _ _) rfl ?_
 refine ⟨rfl,?_,HK4.out⟩
 have hp:=HP4.out
 unfold lineZ
 rw [HKK.out]
 simpa [nlb,kt_,ku_,kv_,kw_,kx_,ky_,kz_,k0_,k1_,k2_,fs_,ft_] using hp
end
section
variable {C:Cl} {B b:Nat} {vp:Value} {t:List Nat} {W:World}
theorem stmt_9 (hc:PC C B) (h:PI C B b vp t W) (s:StZ) (hk:s.kind=9) {q1 q2:Option Addr} (c1 c2:Nat) (hs:SR C s q1 q2) (dp:Int) (n:Nat) (hdp:max dp 0=(n:Int)) (hn:n≤70368744177663) :
 Calls prog 166 #[.pointer (some ⟨b,0,none⟩),.int .i64 dp,sv s q1 c1 q2 c2] W (Wrote C B b vp W (t++(List.replicate (2*n) 32++(lineZ s++[10])))):=by
 have hne:W.heap.size≠b:=by have:=h.b_lt;omega
 have HP1:=hid (h.alloc hc (so s q1 c1 q2 c2))
 have HK1:=hid ((Kp.refl B (fun k=>k=b) W).alloc h.low (so s q1 c1 q2 c2))
 have HX1:=hid (nwn W (so s q1 c1 q2 c2))
 have HC:=hid hc
 have HS:=hid hs
 have HKK:=hid hk
 have hmx:prog.follows .mixedOrders=true:=by kernel_rfl
 unfold so at HP1 HK1 HX1
 unfold sv
 rw [hk] at HP1 HK1 HX1 ⊢
 clear h hc hs hk
 go_enter func166,ntmps166
 go_upto_region 1 with fail
 generalize (W.alloc _:World)=w1 at *
 have HX1:Hid (w1.heap[W.heap.size]?=some (so s q1 c1 q2 c2)):=hid (by have:=HX1.out;unfold so;rw [HKK.out];exact this)
 obtain ⟨d0,d1,d2,d3⟩:=af_ HX1.out HKK.out
 have HR:=hid (cr_ HC.out HP1.out n hn)
 go_wp2_with fail
 go_at_call 205
 refine HR.out.mono ?_
 rintro e wr ⟨zr,rfl,hzr,hpr,hbr⟩
 have HWr:=hid (aw_ HC.out hpr zr (by rw [←ae_,hzr,List.length_replicate];omega))
 have HZr:=hid hzr
 have HKr:=hid (HK1.out.trans (Kp.all hbr HP1.out.low))
 have HXr:=hid ((hbr.block _ (heap_lt HX1.out)).trans HX1.out)
 clear hzr hpr hbr HR d0 d1 d2 d3
 obtain ⟨d0,d1,d2,d3⟩:=af_ HXr.out HKK.out
 go_wp2_with fail
 go_at_call 57
 refine HWr.out.mono ?_
 rintro e w2 ⟨rfl,hp,hk⟩
 rw [HZr.out] at hp
 have HP2:=hid hp
 have HX2:=hid (bo_ HXr.out hk hne)
 have HK2:=hid (HKr.out.trans hk)
 clear hp hk d0 d1 d2 d3 HXr HKr HWr HZr HP1 HX1 HK1
 obtain ⟨d0,d1,d2,d3⟩:=af_ HX2.out HKK.out
 have HW:=hid (tg_ HC.out HP2.out s c1 c2 HS.out)
 unfold sv at HW
 rw [HKK.out] at HW
 go_wp2_with fail
 go_at_call 209
 refine HW.out.mono ?_
 rintro e w3 ⟨rfl,hp,hk⟩
 have HP3:=hid hp
 have HX3:=hid (bo_ HX2.out hk hne)
 have HK3:=hid (HK2.out.trans hk)
 clear hp hk d0 d1 d2 d3 HX2 HK2 HP2 HW
 obtain ⟨d0,d1,d2,d3⟩:=af_ HX3.out HKK.out
 have HW:=hid (aw_ HC.out HP3.out ⟨#[10]⟩ (by decide))
 go_wp2_with fail
 go_at_call 57
 refine HW.out.mono ?_
 rintro e w4 ⟨rfl,hp,hk⟩
 have HP4:=hid hp
 have HX4:=hid (bo_ HX3.out hk hne)
 have HK4:=hid (HK3.out.trans hk)
 clear hp hk d0 d1 d2 d3 HX3 HK3 HP3 HW
 go_wp2_with fail
 first|go_end0|refine bodyPost_ret (results_none rfl _ _ _) rfl ?_
 refine ⟨rfl,?_,HK4.out⟩
 have hp:=HP4.out
 unfold lineZ
 rw [HKK.out]
 simpa [nlb,kt_,ku_,kv_,kw_,kx_,ky_,kz_,k0_,k1_,k2_,fs_,ft_] using hp
end
section
variable {C:Cl} {B b:Nat} {vp:Value} {t:List Nat} {W:World}
theorem xz_ (hc:PC C B) (h:PI C B b vp t W) {q:Option Addr} {c:Nat} (l:List StV) (hl:l.length≤9223372036854775807) (hrow:∀j (hj:j<l.length),∃g o,q=some ⟨g,o,none⟩∧C ⟨g,o+j*4,none⟩=some (.int .i64 l[j].k)∧C ⟨g,o+j*4+1,none⟩=some (.string l[j].nm)∧C ⟨g,o+j*4+2,none⟩=some (.slice l[j].q1 l[j].n1 l[j].c1)∧C ⟨g,o+j*4+3,none⟩=some (.slice l[j].q2 l[j].n2 l[j].c2))
 {Ka Ki:Nat} {ca fi ci:Array Value} (ea:∀args w,(callFunc Ka args).run prog w=.ok (.enter Ka args) w) (ei:∀args w,(callFunc Ki args).run prog w=.ok (.enter Ki args) w)
 {J J':Nat→World→Prop} {S:Nat→Prop} (hS:∀i,S i→i<W.heap.size) {F A I:Nat→List Nat} (hF0:F 0=[]) (hF:∀k,k<l.length→F (k+1)=F k++A k++I k) (h0:J 0 W)
 (hJ:∀k wr w',J k wr→Below wr.heap.size wr w'→J k w')
 (hap:∀k wr t',k<l.length→PI C B b vp t' wr→J k wr→Kp B S W wr→Calls prog Ka ca wr fun e w'=>e=.returned (.tuple #[])∧PI C B b vp (t'++A k) w'∧J' k w'∧Kp B S wr w')
 (hit:∀k (hk:k<l.length) x wr t',l[k]=x→PI C B b vp t' wr→J' k wr→Kp B S W wr→Calls prog Ki (fi++#[.agg #[.int .i64 x.k,.string x.nm,.slice x.q1 x.n1 x.c1,.slice x.q2 x.n2 x.c2]]++ci) wr fun e w'=>e=.returned (.tuple #[])∧PI C B b vp (t'++I k) w'∧J (k+1) w'∧Kp B S wr w') :
 Calls prog 203 #[.pointer (some ⟨b,0,none⟩),.func (.func Ka) #[] ca,.func (.func Ki) fi ci,.slice q l.length c] W fun e w'=>e=.returned (.tuple #[])∧PI C B b vp (t++F l.length) w'∧Kp B S W w':=by
 have HC:=hid hc
 have HP:=hid h
 have HR:=hid hrow
 have HS:=hid hS
 have HF:=hid hF
 have HF0:=hid hF0
 have HJ0:=hid h0
 have HJ:=hid hJ
 have HAP:=hid hap
 have HIT:=hid hit
 obtain ⟨n,hn⟩:∃n,l.length=n:=⟨_,rfl⟩
 have HN:=hid hn
 rw [hn] at hl ⊢
 clear h hrow hS hF hF0 h0 hJ hap hit hn hc
 go_enter func203,ntmps203
 go_wp2
 go_loopw [12] (fun i wr=>∃k:Nat,k≤n∧i=.int .i64 k∧Hid (PI C B b vp (t++F k) wr)∧Hid (J k wr)∧Hid (Kp B S W wr)) (fun i _=>n - (intOf i).toNat)
 case atStart=>exact ⟨0,Nat.zero_le _,rfl,hid (by rw [HF0.out,nlf];exact HP.out),HJ0,hid (Kp.refl _ _ _)⟩
 case round =>
  obtain ⟨k,hk,rfl,HPr,HJr,HKr⟩:=hrel
  by_cases hlt:k<n
  ·have hk':k<l.length:=by rw [HN.out];exact hlt
   obtain ⟨x,hx,g,o,rfl,a0,a1,a2,a3⟩:∃x,l[k]=x∧∃g o,q=some ⟨g,o,none⟩∧C ⟨g,o+k*4,none⟩=some (.int .i64 x.k)∧C ⟨g,o+k*4+1,none⟩=some (.string x.nm)∧C ⟨g,o+k*4+2,none⟩=some (.slice x.q1 x.n1 x.c1)∧C ⟨g,o+k*4+3,none⟩=some (.slice x.q2 x.n2 x.c2):=⟨_,rfl,HR.out k hk'⟩
   have HK':=hid hk'
   have hit1:=hid (HIT.out k hk')
   have hit2:=hid (fun wr t'=>hit1.out x wr t' hx)
   have e0:wr.cell? ⟨g,o+k*4,none⟩=some (.int .i64 x.k):=HPr.out.rd _ _ a0
   clear a0
   have e1:wr.cell? ⟨g,o+k*4+1,none⟩=some (.string x.nm):=HPr.out.rd _ _ a1
   clear a1
   have e2:wr.cell? ⟨g,o+k*4+2,none⟩=some (.slice x.q1 x.n1 x.c1):=HPr.out.rd _ _ a2
   clear a2
   have e3:wr.cell? ⟨g,o+k*4+3,none⟩=some (.slice x.q2 x.n2 x.c2):=HPr.out.rd _ _ a3
   clear a3
   obtain ⟨lg,acc,hw,hla,hx2⟩:=HPr.out.wr
   obtain ⟨c2,_⟩:=hw.raw
   have c3:=(hw.keep ((Below.refl wr.heap.size wr).alloc (Nat.le_refl _) (.cells #[.int .i64 x.k,.string x.nm,.slice x.q1 x.n1 x.c1,.slice x.q2 x.n2 x.c2] 57))).raw.1
   have HW:=hid hw
   clear hw hk' hx hit1
   have hki:(k:Int)<(n:Int):=by omega
   rcases hx2 with ⟨rfl,hacc⟩|⟨rfl,hlong⟩
   ·clear hacc
    have HP1:=hid (HPr.out.alloc HC.out (.cells #[.int .i64 x.k,.string x.nm,.slice x.q1 x.n1 x.c1,.slice x.q2 x.n2 x.c2] 57))
    have HJ1:=hid (HJ.out k _ _ HJr.out ((Below.refl _ _).alloc (Nat.le_refl _) (.cells #[.int .i64 x.k,.string x.nm,.slice x.q1 x.n1 x.c1,.slice x.q2 x.n2 x.c2] 57)))
    have HK1:=hid (HKr.out.alloc HPr.out.low (.cells #[.int .i64 x.k,.string x.nm,.slice x.q1 x.n1 x.c1,.slice x.q2 x.n2 x.c2] 57))
    have HB1:=hid (nwn wr (.cells #[.int .i64 x.k,.string x.nm,.slice x.q1 x.n1 x.c1,.slice x.q2 x.n2 x.c2] 57))
    have HL1:=hid HKr.out.size
    clear HPr HJr HKr HW
    go_wp2_with fail
    generalize (wr.alloc _:World)=w0 at *
    refine (HAP.out k w0 _ HK'.out HP1.out HJ1.out HK1.out).mono ?_
    rintro e w1 ⟨rfl,hp1,hj1,hk1⟩
    have hb1:=hk1.heap HB1.out (fun e=>by have:=HS.out _ e;have:=HL1.out;omega) (by decide)
    have d0:=aa_ (j:=0) hb1 rfl
    have d1:=aa_ (j:=1) hb1 rfl
    have d2:=aa_ (j:=2) hb1 rfl
    have d3:=aa_ (j:=3) hb1 rfl
    have HP2:=hid hp1
    have HJ2:=hid hj1
    have HK2:=hid (HK1.out.trans hk1)
    clear hp1 hj1 hk1 hb1 HP1 HJ1 HK1
    go_wp2_with fail
    refine (hit2.out w1 _ HP2.out HJ2.out HK2.out).mono ?_
    rintro e w2 ⟨rfl,hp3,hj3,hk3⟩
    rw [nlb,nlb,←nlb (F k),←HF.out k HK'.out] at hp3
    have HP3:=hid hp3
    have HJ3:=hid hj3
    have HK3:=hid (HK2.out.trans hk3)
    clear hp3 hj3 hk3 HP2 HJ2 HK2
    go_wp2_with fail
    exact ⟨⟨k+1,by omega,by go_num,HP3,HJ3,HK3⟩,by simp [intOf];omega⟩
   ·have HLG:=hid hlong
    obtain ⟨r,hr⟩:=fl_ (l:=l) HF.out (Nat.le_of_lt HK'.out)
    rw [HN.out] at hr
    have HR2:=hid hr
    clear hlong hr
    go_wp2
    first|go_end0|refine bodyPost_ret (results_none rfl _ _ _) rfl ?_
    have hb:=(Below.refl wr.heap.size wr).alloc (Nat.le_refl _) (.cells #[.int .i64 x.k,.string x.nm,.slice x.q1 x.n1 x.c1,.slice x.q2 x.n2 x.c2] 57)
    refine ⟨rfl,?_,HKr.out.alloc HPr.out.low _⟩
    rw [HR2.out,←nlb]
    exact (HPr.out.long HW.out hla HLG.out r).all HC.out hb
  ·obtain rfl:k=n:=by omega
   go_wp2
   first|go_end0|refine bodyPost_ret (results_none rfl _ _ _) rfl ?_
   exact ⟨rfl,HPr.out,HKr.out⟩
end
section
variable {C:Cl} {B b:Nat} {vp:Value} {t:List Nat} {W:World}
theorem th_ (w:World):Calls prog 204 #[] w fun e w'=>e=.returned (.tuple #[])∧w=w':=by
 go_enter func204,ntmps204
 first|(go_wp2;go_end0)|go_end0
 exact ⟨rfl,rfl⟩
theorem ti_ (hc:PC C B) (h:PI C B b vp t W) {q:Option Addr} {c:Nat} (l:List StV) (hl:l.length≤9223372036854775807) (hrow:∀j (hj:j<l.length),∃g o,q=some ⟨g,o,none⟩∧C ⟨g,o+j*4,none⟩=some (.int .i64 l[j].k)∧C ⟨g,o+j*4+1,none⟩=some (.string l[j].nm)∧C ⟨g,o+j*4+2,none⟩=some (.slice l[j].q1 l[j].n1 l[j].c1)∧C ⟨g,o+j*4+3,none⟩=some (.slice l[j].q2 l[j].n2 l[j].c2))
 {Ki:Nat} {fi ci:Array Value} (ei:∀args w,(callFunc Ki args).run prog w=.ok (.enter Ki args) w)
 {J:Nat→World→Prop} {S:Nat→Prop} (hS:∀i,S i→i<W.heap.size) {F I:Nat→List Nat} (hF0:F 0=[]) (hF:∀k,k<l.length→F (k+1)=F k++[]++I k) (h0:J 0 W)
 (hJ:∀k wr w',J k wr→Below wr.heap.size wr w'→J k w')
 (hit:∀k (hk:k<l.length) x wr t',l[k]=x→PI C B b vp t' wr→J k wr→Kp B S W wr→Calls prog Ki (fi++#[.agg #[.int .i64 x.k,.string x.nm,.slice x.q1 x.n1 x.c1,.slice x.q2 x.n2 x.c2]]++ci) wr fun e w'=>e=.returned (.tuple #[])∧PI C B b vp (t'++I k) w'∧J (k+1) w'∧Kp B S wr w') :
 Calls prog 164 #[.pointer (some ⟨b,0,none⟩),.func (.func Ki) fi ci,.slice q l.length c] W fun e w'=>e=.returned (.tuple #[])∧PI C B b vp (t++F l.length) w'∧Kp B S W w':=by
 have HX:=hid (xz_ hc h (c:=c) l hl hrow (Ka:=204) (ca:=#[]) (enters_of func204 (by kernel_rfl) rfl) ei (J':=J) hS hF0 hF h0 hJ
  (fun k wr t' _ hp hj _=>(th_ wr).mono fun e w' ⟨he,hw⟩=>by subst hw;exact ⟨he,by rw [nlf];exact hp,hj,Kp.refl _ _ _⟩) hit)
 obtain ⟨n,hn⟩:∃n,l.length=n:=⟨_,rfl⟩
 rw [hn] at HX ⊢
 clear hrow hit hn h hc hl hF hF0 h0 hJ hS
 go_enter func164,ntmps164
 go_wp2_with fail
 go_at_call 203
 refine HX.out.mono ?_
 rintro e w2 ⟨rfl,hp2,hk2⟩
 go_wp2_with fail
 first|go_end0|refine bodyPost_ret (results_none rfl _ _ _) rfl ?_
 exact ⟨rfl,hp2,hk2⟩
end
section
variable {C:Cl} {B b:Nat} {vp:Value} {t:List Nat} {W:World}
theorem tj_ (hc:PC C B) (h:PI C B b vp t W) (s:StZ) (hk:s.kind<1∨9<s.kind) {q1 q2:Option Addr} (c1 c2:Nat) (dp:Int) :
 Calls prog 166 #[.pointer (some ⟨b,0,none⟩),.int .i64 dp,sv s q1 c1 q2 c2] W (Wrote C B b vp W t):=by
 have HP:=hid (h.alloc hc (so s q1 c1 q2 c2))
 have HK:=hid ((Kp.refl B (fun k=>k=b) W).alloc h.low (so s q1 c1 q2 c2))
 unfold so at HP HK
 unfold sv
 clear h hc
 by_cases h1:s.kind<1
 ·clear hk
  generalize s.kind=k at *
  go_enter func166,ntmps166
  go_wp2
  first|go_end0|refine bodyPost_ret (results_none rfl _ _ _) rfl ?_
  exact ⟨rfl,HP.out,HK.out⟩
 ·have h2:9<s.kind:=by omega
  clear hk
  generalize s.kind=k at *
  go_enter func166,ntmps166
  go_wp2
  first|go_end0|refine bodyPost_ret (results_none rfl _ _ _) rfl ?_
  exact ⟨rfl,HP.out,HK.out⟩
theorem ml_ (hc:PC C B) (h:PI C B b vp t W) (s:StZ) {q1 q2:Option Addr} (c1 c2:Nat) (hs:SR C s q1 q2) (dp:Int) (hd:dp≤70368744177663) :
 Calls prog 166 #[.pointer (some ⟨b,0,none⟩),.int .i64 dp,sv s q1 c1 q2 c2] W (Wrote C B b vp W (t++stZ dp s)):=by
 by_cases hk:s.kind<1∨9<s.kind
 ·have:stZ dp s=[]:=if_pos hk
  rw [this,nlf]
  exact tj_ hc h s hk c1 c2 dp
 ·have:stZ dp s=List.replicate (2*dp.toNat) 32++(lineZ s++[10]):=if_neg hk
  rw [this]
  have hdp:max dp 0=(dp.toNat:Int):=by omega
  have hn:dp.toNat≤70368744177663:=by omega
  have h9:s.kind=1∨s.kind=2∨s.kind=3∨s.kind=4∨s.kind=5∨s.kind=6∨s.kind=7∨s.kind=8∨s.kind=9:=by omega
  rcases h9 with e|e|e|e|e|e|e|e|e
  ·exact stmt_1 hc h s e c1 c2 hs dp _ hdp hn
  ·exact stmt_2 hc h s e c1 c2 hs dp _ hdp hn
  ·exact stmt_3 hc h s e c1 c2 hs dp _ hdp hn
  ·exact stmt_4 hc h s e c1 c2 hs dp _ hdp hn
  ·exact stmt_5 hc h s e c1 c2 hs dp _ hdp hn
  ·exact stmt_6 hc h s e c1 c2 hs dp _ hdp hn
  ·exact stmt_7 hc h s e c1 c2 hs dp _ hdp hn
  ·exact stmt_8 hc h s e c1 c2 hs dp _ hdp hn
  ·exact stmt_9 hc h s e c1 c2 hs dp _ hdp hn
structure BdS (b g:Nat) (dp:Int) (w:World):Prop where
 c0:w.heap[g]?=some (.cells #[.pointer (some ⟨b,0,none⟩)] 75 (0,0))
 c1:w.heap[g+1]?=some (.cells #[.int .i64 dp] 3 (0,0))
theorem BdS.keep {g:Nat} {dp:Int} {w w':World} (h:BdS b g dp w) (hb:Below w.heap.size w w'):BdS b g dp w':=⟨(hb.block _ (heap_lt h.c0)).trans h.c0,(hb.block _ (heap_lt h.c1)).trans h.c1⟩
theorem BdS.kp {g:Nat} {dp:Int} {w w':World} (h:BdS b g dp w) (hb:Kp B (fun k=>k=b) w w') (hn:b<g):BdS b g dp w':=⟨hb.heap h.c0 (by omega) (by decide),hb.heap h.c1 (by omega) (by decide)⟩
def bdC (g:Nat):Array Value:=#[.pointer (some ⟨g,0,none⟩),.pointer (some ⟨g+1,0,none⟩)]
theorem BdS.set (hc:PC C B) {g:Nat} {dp dp':Int} {w1:World} {t':List Nat} (h:BdS b g dp w1) (hp:PI C B b vp t' w1) (hg:b<g) :
 PI C B b vp t' (w1.setCell ⟨g+1,0,none⟩ (.int .i64 dp'))∧BdS b g dp' (w1.setCell ⟨g+1,0,none⟩ (.int .i64 dp'))∧Kp B (fun k=>k=b∨k=g+1) w1 (w1.setCell ⟨g+1,0,none⟩ (.int .i64 dp')):=by
 have hlow:B≤b:=by obtain ⟨_,_,hw,_⟩:=hp.wr;exact hw.low
 have hk3:Kp B (fun k=>k=b∨k=g+1) w1 (w1.setCell ⟨g+1,0,none⟩ (.int .i64 dp')):=(Kp.refl B (fun k=>k=b∨k=g+1) w1).setAt (g:=g+1) (.inl (.inr rfl)) (by omega) _ _
 refine ⟨hp.next hc hk3 ?_,⟨bh_ h.c0 (by omega),ao_ h.c1 0 _⟩,hk3⟩
 obtain ⟨lg,acc,hw,hl,hx⟩:=hp.wr
 obtain ⟨h1,a,v,h2,h3,h4,h5⟩:=hw
 refine ⟨lg,acc,⟨h1,a,v,bh_ h2 (by omega),h3,c5_ h4 (fun k o hk hv=>bh_ hk (fun e=>?_)),h5⟩,hl,hx⟩
 subst e
 obtain ⟨c,fz,hcc⟩:=Lib.ownsRowF_kind h4 _ hv
 have:=h.c1.symm.trans hcc
 simp at this
end
section
variable {C:Cl} {B b:Nat} {vp:Value} {t:List Nat} {W:World}
theorem bd1_5 (hc:PC C B) (h:PI C B b vp t W) (s:StZ) (hk:s.kind=5) {q1 q2:Option Addr} (c1 c2:Nat) (hs:SR C s q1 q2) (dp:Int) (hd:dp≤70368744177660) (hd2:-70368744177660≤dp) {g:Nat} (hg:b<g) (hb:BdS b g dp W) :
 Calls prog 165 (#[sv s q1 c1 q2 c2]++bdC g) W fun e w'=>e=.returned (.tuple #[])∧PI C B b vp (t++stZ dp s) w'∧BdS b g (dp+1) w'∧Kp B (fun k=>k=b∨k=g+1) W w':=by
 have hne:W.heap.size≠b:=by have:=h.b_lt;omega
 have hP1:=h.alloc hc (so s q1 c1 q2 c2)
 have HK1:=hid ((Kp.refl B (fun k=>k=b∨k=g+1) W).alloc h.low (so s q1 c1 q2 c2))
 have HX1:=hid (nwn W (so s q1 c1 q2 c2))
 have HB1:=hid (hb.keep ((Below.refl _ _).alloc (Nat.le_refl _) (so s q1 c1 q2 c2)))
 have HC:=hid hc
 have HS:=hid hs
 have HP1:=hid hP1
 have HKK:=hid hk
 clear h hc hs hb hP1 hk
 have HSB:=hid (fun w (hp:PI C B b vp t w)=>ml_ HC.out hp s c1 c2 HS.out dp (by omega))
 unfold sv at HSB ⊢
 unfold so at *
 unfold bdC
 rw [HKK.out] at HP1 HK1 HX1 HB1 HSB ⊢
 go_enter func165,ntmps165
 go_upto_region 1 with fail
 generalize (W.alloc _:World)=w1 at *
 have e0:=aa_ HB1.out.c0 (j:=0) rfl
 have e1:=aa_ HB1.out.c1 (j:=0) rfl
 have f1:=ag_ HB1.out.c1 (j:=0)
 have d0:=aa_ HX1.out (j:=0) rfl
 have d1:=aa_ HX1.out (j:=1) rfl
 have d2:=aa_ HX1.out (j:=2) rfl
 have d3:=aa_ HX1.out (j:=3) rfl
 go_wp2_with fail
 go_at_call 166
 refine (HSB.out _ HP1.out).mono ?_
 rintro e w2 ⟨rfl,hp2,hk2⟩
 have hb2:=HB1.out.kp hk2 hg
 have x1:=aa_ hb2.c1 (j:=0) rfl
 have g1:=ag_ hb2.c1 (j:=0)
 have HSET:=hid (hb2.set (dp':=dp+1) HC.out hp2 hg)
 have HK2:=hid (HK1.out.trans (hk2.mono (S':=fun k=>k=b∨k=g+1) (fun i e=>.inl (.inl e))))
 clear hp2 hk2 hb2
 go_wp2_with fail
 first|go_end0|refine bodyPost_ret (results_none rfl _ _ _) rfl ?_
 exact ⟨rfl,HSET.out.1,HSET.out.2.1,HK2.out.trans HSET.out.2.2⟩
end
section
variable {C:Cl} {B b:Nat} {vp:Value} {t:List Nat} {W:World}
theorem bd1_6 (hc:PC C B) (h:PI C B b vp t W) (s:StZ) (hk:s.kind=6) {q1 q2:Option Addr} (c1 c2:Nat) (hs:SR C s q1 q2) (dp:Int) (hd:dp≤70368744177660) (hd2:-70368744177660≤dp) {g:Nat} (hg:b<g) (hb:BdS b g dp W) :
 Calls prog 165 (#[sv s q1 c1 q2 c2]++bdC g) W fun e w'=>e=.returned (.tuple #[])∧PI C B b vp (t++stZ (dp - 1) s) w'∧BdS b g dp w'∧Kp B (fun k=>k=b∨k=g+1) W w':=by
 have hne:W.heap.size≠b:=by have:=h.b_lt;omega
 have hP1:=h.alloc hc (so s q1 c1 q2 c2)
 have HK1:=hid ((Kp.refl B (fun k=>k=b∨k=g+1) W).alloc h.low (so s q1 c1 q2 c2))
 have HX1:=hid (nwn W (so s q1 c1 q2 c2))
 have HB1:=hid (hb.keep ((Below.refl _ _).alloc (Nat.le_refl _) (so s q1 c1 q2 c2)))
 have HC:=hid hc
 have HS:=hid hs
 have HP1:=hid hP1
 have HKK:=hid hk
 clear h hc hs hb hP1 hk
 have HSB:=hid (fun w (hp:PI C B b vp t w)=>ml_ HC.out hp s c1 c2 HS.out (dp - 1) (by omega))
 unfold sv at HSB ⊢
 unfold so at *
 unfold bdC
 rw [HKK.out] at HP1 HK1 HX1 HB1 HSB ⊢
 go_enter func165,ntmps165
 go_upto_region 1 with fail
 generalize (W.alloc _:World)=w1 at *
 have e0:=aa_ HB1.out.c0 (j:=0) rfl
 have e1:=aa_ HB1.out.c1 (j:=0) rfl
 have f1:=ag_ HB1.out.c1 (j:=0)
 have d0:=aa_ HX1.out (j:=0) rfl
 have d1:=aa_ HX1.out (j:=1) rfl
 have d2:=aa_ HX1.out (j:=2) rfl
 have d3:=aa_ HX1.out (j:=3) rfl
 go_wp2_with fail
 go_at_call 166
 refine (HSB.out _ HP1.out).mono ?_
 rintro e w2 ⟨rfl,hp2,hk2⟩
 have hb2:=HB1.out.kp hk2 hg
 have hk3:=HK1.out.trans (hk2.mono (S':=fun k=>k=b∨k=g+1) (fun i e=>.inl (.inl e)))
 go_wp2_with fail
 first|go_end0|refine bodyPost_ret (results_none rfl _ _ _) rfl ?_
 exact ⟨rfl,hp2,hb2,hk3⟩
end
section
variable {C:Cl} {B b:Nat} {vp:Value} {t:List Nat} {W:World}
theorem bd1_7 (hc:PC C B) (h:PI C B b vp t W) (s:StZ) (hk:s.kind=7) {q1 q2:Option Addr} (c1 c2:Nat) (hs:SR C s q1 q2) (dp:Int) (hd:dp≤70368744177660) (hd2:-70368744177660≤dp) {g:Nat} (hg:b<g) (hb:BdS b g dp W) :
 Calls prog 165 (#[sv s q1 c1 q2 c2]++bdC g) W fun e w'=>e=.returned (.tuple #[])∧PI C B b vp (t++stZ dp s) w'∧BdS b g (dp+1) w'∧Kp B (fun k=>k=b∨k=g+1) W w':=by
 have hne:W.heap.size≠b:=by have:=h.b_lt;omega
 have hP1:=h.alloc hc (so s q1 c1 q2 c2)
 have HK1:=hid ((Kp.refl B (fun k=>k=b∨k=g+1) W).alloc h.low (so s q1 c1 q2 c2))
 have HX1:=hid (nwn W (so s q1 c1 q2 c2))
 have HB1:=hid (hb.keep ((Below.refl _ _).alloc (Nat.le_refl _) (so s q1 c1 q2 c2)))
 have HC:=hid hc
 have HS:=hid hs
 have HP1:=hid hP1
 have HKK:=hid hk
 clear h hc hs hb hP1 hk
 have HSB:=hid (fun w (hp:PI C B b vp t w)=>ml_ HC.out hp s c1 c2 HS.out dp (by omega))
 unfold sv at HSB ⊢
 unfold so at *
 unfold bdC
 rw [HKK.out] at HP1 HK1 HX1 HB1 HSB ⊢
 go_enter func165,ntmps165
 go_upto_region 1 with fail
 generalize (W.alloc _:World)=w1 at *
 have e0:=aa_ HB1.out.c0 (j:=0) rfl
 have e1:=aa_ HB1.out.c1 (j:=0) rfl
 have f1:=ag_ HB1.out.c1 (j:=0)
 have d0:=aa_ HX1.out (j:=0) rfl
 have d1:=aa_ HX1.out (j:=1) rfl
 have d2:=aa_ HX1.out (j:=2) rfl
 have d3:=aa_ HX1.out (j:=3) rfl
 go_wp2_with fail
 go_at_call 166
 refine (HSB.out _ HP1.out).mono ?_
 rintro e w2 ⟨rfl,hp2,hk2⟩
 have hb2:=HB1.out.kp hk2 hg
 have x1:=aa_ hb2.c1 (j:=0) rfl
 have g1:=ag_ hb2.c1 (j:=0)
 have HSET:=hid (hb2.set (dp':=dp+1) HC.out hp2 hg)
 have HK2:=hid (HK1.out.trans (hk2.mono (S':=fun k=>k=b∨k=g+1) (fun i e=>.inl (.inl e))))
 clear hp2 hk2 hb2
 go_wp2_with fail
 first|go_end0|refine bodyPost_ret (results_none rfl _ _ _) rfl ?_
 exact ⟨rfl,HSET.out.1,HSET.out.2.1,HK2.out.trans HSET.out.2.2⟩
end
section
variable {C:Cl} {B b:Nat} {vp:Value} {t:List Nat} {W:World}
theorem bd1_8 (hc:PC C B) (h:PI C B b vp t W) (s:StZ) (hk:s.kind=8) {q1 q2:Option Addr} (c1 c2:Nat) (hs:SR C s q1 q2) (dp:Int) (hd:dp≤70368744177660) (hd2:-70368744177660≤dp) {g:Nat} (hg:b<g) (hb:BdS b g dp W) :
 Calls prog 165 (#[sv s q1 c1 q2 c2]++bdC g) W fun e w'=>e=.returned (.tuple #[])∧PI C B b vp (t++stZ (dp - 1) s) w'∧BdS b g (dp - 1) w'∧Kp B (fun k=>k=b∨k=g+1) W w':=by
 have hne:W.heap.size≠b:=by have:=h.b_lt;omega
 have hP1:=h.alloc hc (so s q1 c1 q2 c2)
 have HK1:=hid ((Kp.refl B (fun k=>k=b∨k=g+1) W).alloc h.low (so s q1 c1 q2 c2))
 have HX1:=hid (nwn W (so s q1 c1 q2 c2))
 have HB1:=hid (hb.keep ((Below.refl _ _).alloc (Nat.le_refl _) (so s q1 c1 q2 c2)))
 have hlt:g+1<W.heap.size:=heap_lt hb.c1
 have HC:=hid hc
 have HS:=hid hs
 have HP1:=hid hP1
 have HKK:=hid hk
 clear h hc hs hb hP1 hk
 have HSB:=hid (fun w (hp:PI C B b vp t w)=>ml_ HC.out hp s c1 c2 HS.out (dp - 1) (by omega))
 unfold sv at HSB ⊢
 unfold so at *
 unfold bdC
 rw [HKK.out] at HP1 HK1 HX1 HB1 HSB ⊢
 go_enter func165,ntmps165
 go_upto_region 1 with fail
 generalize (W.alloc _:World)=w1 at *
 have e0:=aa_ HB1.out.c0 (j:=0) rfl
 have e1:=aa_ HB1.out.c1 (j:=0) rfl
 have f1:=ag_ HB1.out.c1 (j:=0)
 have d0:=aa_ HX1.out (j:=0) rfl
 have d1:=aa_ HX1.out (j:=1) rfl
 have d2:=aa_ HX1.out (j:=2) rfl
 have d3:=aa_ HX1.out (j:=3) rfl
 have HSET:=hid (HB1.out.set (dp':=dp - 1) HC.out HP1.out hg)
 have HX2:=hid (bh_ HX1.out (show W.heap.size≠g+1 from by have:=heap_lt HX1.out;have:=hlt;omega) (v:=.int .i64 (dp - 1)) (j:=0))
 have x0:=aa_ HSET.out.2.1.c0 (j:=0) rfl
 have x1:=aa_ HSET.out.2.1.c1 (j:=0) rfl
 have y0:=aa_ HX2.out (j:=0) rfl
 have y1:=aa_ HX2.out (j:=1) rfl
 have y2:=aa_ HX2.out (j:=2) rfl
 have y3:=aa_ HX2.out (j:=3) rfl
 go_wp2_with fail
 go_at_call 166
 refine (HSB.out _ HSET.out.1).mono ?_
 rintro e w2 ⟨rfl,hp2,hk2⟩
 have hb2:=HSET.out.2.1.kp hk2 hg
 have hk3:=(HK1.out.trans HSET.out.2.2).trans (hk2.mono (S':=fun k=>k=b∨k=g+1) (fun i e=>.inl (.inl e)))
 go_wp2_with fail
 first|go_end0|refine bodyPost_ret (results_none rfl _ _ _) rfl ?_
 exact ⟨rfl,hp2,hb2,hk3⟩
end
section
variable {C:Cl} {B b:Nat} {vp:Value} {t:List Nat} {W:World}
theorem bd1_0 (hc:PC C B) (h:PI C B b vp t W) (s:StZ) (hk:s.kind≠5∧s.kind≠6∧s.kind≠7∧s.kind≠8) {q1 q2:Option Addr} (c1 c2:Nat) (hs:SR C s q1 q2) (dp:Int) (hd:dp≤70368744177660) (hd2:-70368744177660≤dp) {g:Nat} (hg:b<g) (hb:BdS b g dp W) :
 Calls prog 165 (#[sv s q1 c1 q2 c2]++bdC g) W fun e w'=>e=.returned (.tuple #[])∧PI C B b vp (t++stZ dp s) w'∧BdS b g dp w'∧Kp B (fun k=>k=b∨k=g+1) W w':=by
 have hne:W.heap.size≠b:=by have:=h.b_lt;omega
 have hP1:=h.alloc hc (so s q1 c1 q2 c2)
 have HK1:=hid ((Kp.refl B (fun k=>k=b∨k=g+1) W).alloc h.low (so s q1 c1 q2 c2))
 have HX1:=hid (nwn W (so s q1 c1 q2 c2))
 have HB1:=hid (hb.keep ((Below.refl _ _).alloc (Nat.le_refl _) (so s q1 c1 q2 c2)))
 have HC:=hid hc
 have HS:=hid hs
 have HP1:=hid hP1
 have HKK:=hid hk
 have n5:(s.kind == 5)=false:=by simpa using hk.1
 have n6:(s.kind == 6)=false:=by simpa using hk.2.1
 have n7:(s.kind == 7)=false:=by simpa using hk.2.2.1
 have n8:(s.kind == 8)=false:=by simpa using hk.2.2.2
 clear h hc hs hb hP1 hk
 have HSB:=hid (fun w (hp:PI C B b vp t w)=>ml_ HC.out hp s c1 c2 HS.out dp (by omega))
 unfold sv at HSB ⊢
 unfold so at *
 unfold bdC
 go_enter func165,ntmps165
 go_upto_region 1 with fail
 generalize (W.alloc _:World)=w1 at *
 have e0:=aa_ HB1.out.c0 (j:=0) rfl
 have e1:=aa_ HB1.out.c1 (j:=0) rfl
 have f1:=ag_ HB1.out.c1 (j:=0)
 have d0:=aa_ HX1.out (j:=0) rfl
 have d1:=aa_ HX1.out (j:=1) rfl
 have d2:=aa_ HX1.out (j:=2) rfl
 have d3:=aa_ HX1.out (j:=3) rfl
 go_wp2_with fail
 go_at_call 166
 refine (HSB.out _ HP1.out).mono ?_
 rintro e w2 ⟨rfl,hp2,hk2⟩
 have hb2:=HB1.out.kp hk2 hg
 have hk3:=HK1.out.trans (hk2.mono (S':=fun k=>k=b∨k=g+1) (fun i e=>.inl (.inl e)))
 go_wp2_with fail
 first|go_end0|refine bodyPost_ret (results_none rfl _ _ _) rfl ?_
 exact ⟨rfl,hp2,hb2,hk3⟩
end
section
variable {C:Cl} {B b:Nat} {vp:Value} {t:List Nat} {W:World}
theorem x0_ (hc:PC C B) (h:PI C B b vp t W) {q:Option Addr} {c:Nat} (l:List Nat) (hl:l.length≤9223372036854775807) (hrow:∀j (hj:j<l.length),∃g o,q=some ⟨g,o,none⟩∧C ⟨g,o+j,none⟩=some (.int .u64 (l[j]:Nat)))
 {Ka Ki:Nat} {ca fi ci:Array Value} (ea:∀args w,(callFunc Ka args).run prog w=.ok (.enter Ka args) w) (ei:∀args w,(callFunc Ki args).run prog w=.ok (.enter Ki args) w)
 {J J':Nat→World→Prop} {S:Nat→Prop} (hS:∀i,S i→i<W.heap.size) {F A I:Nat→List Nat} (hF0:F 0=[]) (hF:∀k,k<l.length→F (k+1)=F k++A k++I k) (h0:J 0 W)
 (hJ:∀k wr w',J k wr→Below wr.heap.size wr w'→J k w')
 (hap:∀k wr t',k<l.length→PI C B b vp t' wr→J k wr→Kp B S W wr→Calls prog Ka ca wr fun e w'=>e=.returned (.tuple #[])∧PI C B b vp (t'++A k) w'∧J' k w'∧Kp B S wr w')
 (hit:∀k (hk:k<l.length) x wr t',l[k]=x→PI C B b vp t' wr→J' k wr→Kp B S W wr→Calls prog Ki (fi++#[.int .u64 (x:Nat)]++ci) wr fun e w'=>e=.returned (.tuple #[])∧PI C B b vp (t'++I k) w'∧J (k+1) w'∧Kp B S wr w') :
 Calls prog 163 #[.pointer (some ⟨b,0,none⟩),.func (.func Ka) #[] ca,.func (.func Ki) fi ci,.slice q l.length c] W fun e w'=>e=.returned (.tuple #[])∧PI C B b vp (t++F l.length) w'∧Kp B S W w':=by
 have HC:=hid hc
 have HP:=hid h
 have HR:=hid hrow
 have HS:=hid hS
 have HF:=hid hF
 have HF0:=hid hF0
 have HJ0:=hid h0
 have HJ:=hid hJ
 have HAP:=hid hap
 have HIT:=hid hit
 obtain ⟨n,hn⟩:∃n,l.length=n:=⟨_,rfl⟩
 have HN:=hid hn
 rw [hn] at hl ⊢
 clear h hrow hS hF hF0 h0 hJ hap hit hn hc
 go_enter func163,ntmps163
 go_wp2
 go_loopw [12] (fun i wr=>∃k:Nat,k≤n∧i=.int .i64 k∧Hid (PI C B b vp (t++F k) wr)∧Hid (J k wr)∧Hid (Kp B S W wr)) (fun i _=>n - (intOf i).toNat)
 case atStart=>exact ⟨0,Nat.zero_le _,rfl,hid (by rw [HF0.out,nlf];exact HP.out),HJ0,hid (Kp.refl _ _ _)⟩
 case round =>
  obtain ⟨k,hk,rfl,HPr,HJr,HKr⟩:=hrel
  by_cases hlt:k<n
  ·have hk':k<l.length:=by rw [HN.out];exact hlt
   obtain ⟨x,hx,g,o,rfl,a0⟩:∃x,l[k]=x∧∃g o,q=some ⟨g,o,none⟩∧C ⟨g,o+k,none⟩=some (.int .u64 (x:Nat)):=⟨_,rfl,HR.out k hk'⟩
   have HK':=hid hk'
   have hit1:=hid (HIT.out k hk')
   have hit2:=hid (fun wr t'=>hit1.out x wr t' hx)
   have e0:wr.cell? ⟨g,o+k,none⟩=some (.int .u64 (x:Nat)):=HPr.out.rd _ _ a0
   clear a0
   obtain ⟨lg,acc,hw,hla,hx2⟩:=HPr.out.wr
   obtain ⟨c2,_⟩:=hw.raw
   have HW:=hid hw
   clear hw hk' hx hit1
   have hki:(k:Int)<(n:Int):=by omega
   rcases hx2 with ⟨rfl,hacc⟩|⟨rfl,hlong⟩
   ·clear hacc
    clear HW
    have HP1:=HPr
    have HJ1:=HJr
    have HK1:=HKr
    clear HPr HJr HKr
    go_wp2_with fail
    refine (HAP.out k wr _ HK'.out HP1.out HJ1.out HK1.out).mono ?_
    rintro e w1 ⟨rfl,hp1,hj1,hk1⟩
    have HP2:=hid hp1
    have HJ2:=hid hj1
    have HK2:=hid (HK1.out.trans hk1)
    clear hp1 hj1 hk1 HP1 HJ1 HK1
    go_wp2_with fail
    refine (hit2.out w1 _ HP2.out HJ2.out HK2.out).mono ?_
    rintro e w2 ⟨rfl,hp3,hj3,hk3⟩
    rw [nlb,nlb,←nlb (F k),←HF.out k HK'.out] at hp3
    have HP3:=hid hp3
    have HJ3:=hid hj3
    have HK3:=hid (HK2.out.trans hk3)
    clear hp3 hj3 hk3 HP2 HJ2 HK2
    go_wp2_with fail
    exact ⟨⟨k+1,by omega,by go_num,HP3,HJ3,HK3⟩,by simp [intOf];omega⟩
   ·have HLG:=hid hlong
    obtain ⟨r,hr⟩:=fl_ (l:=l) HF.out (Nat.le_of_lt HK'.out)
    rw [HN.out] at hr
    have HR2:=hid hr
    clear hlong hr
    go_wp2
    first|go_end0|refine bodyPost_ret (results_none rfl _ _ _) rfl ?_
    refine ⟨rfl,?_,HKr.out⟩
    rw [HR2.out,←nlb]
    exact HPr.out.long HW.out hla HLG.out r
  ·obtain rfl:k=n:=by omega
   go_wp2
   first|go_end0|refine bodyPost_ret (results_none rfl _ _ _) rfl ?_
   exact ⟨rfl,HPr.out,HKr.out⟩
end
section
variable {C:Cl} {B b:Nat} {vp:Value} {t:List Nat} {W:World}
theorem sepLa_p (hc:PC C B) (h:PI C B b vp t W) {q:Option Addr} {c:Nat} (l:List Nat) (hl:l.length≤9223372036854775807) (hrow:∀j (hj:j<l.length),∃g o,q=some ⟨g,o,none⟩∧C ⟨g,o+j,none⟩=some (.int .u64 (l[j]:Nat)))
 {Ki:Nat} {fi ci:Array Value} (ei:∀args w,(callFunc Ki args).run prog w=.ok (.enter Ki args) w) {f:Nat→List Nat}
 (hit:∀k (hk:k<l.length) x wr t',l[k]=x→PI C B b vp t' wr→Kp B (fun k=>k=b) W wr→Calls prog Ki (fi++#[.int .u64 (x:Nat)]++ci) wr fun e w'=>e=.returned (.tuple #[])∧PI C B b vp (t'++f x) w'∧Kp B (fun k=>k=b) wr w')
 {W1:World} (s:ByteArray) (hs:s.size≤140737488355327) {g:Nat} (hg:g=W.heap.size) (hp:PI C B b vp t W1) (hb:Below W.heap.size W W1) (hst:BtS b g s true W1) (hsz:W1.heap.size=g+3) :
 Calls prog 163 #[.pointer (some ⟨b,0,none⟩),.func (.func 104) #[] (btC g),.func (.func Ki) fi ci,.slice q l.length c] W1 fun e w'=>e=.returned (.tuple #[])∧PI C B b vp (t++sepZ (bl s) f l) w'∧Kp B (fun k=>k=b) W w':=by
 subst hg
 have hbW:b<W.heap.size:=by obtain ⟨_,_,hw,_⟩:=h.wr;obtain ⟨_,_,_,hw,_⟩:=hw;exact heap_lt hw
 have hm:∀{wr:World},Kp B (fun i=>i=b∨i=W.heap.size+2) W1 wr→Kp B (fun k=>k=b) W wr:=fun hk=>(Kp.all hb h.low).then hk (fun i e=>by rcases e with e|e <;> omega)
 refine (x0_ hc hp l hl hrow (Ka:=104) (ca:=btC W.heap.size) (enters_of func104 (by kernel_rfl) rfl) ei (J:=fun k w=>BtS b W.heap.size s (k == 0) w) (J':=fun _ w=>BtS b W.heap.size s false w)
  (S:=fun i=>i=b∨i=W.heap.size+2) (fun i e=>by rcases e with e | e <;> omega) (F:=fun k=>sepZ (bl s) f (l.take k)) (A:=fun k=>if (k == 0)=true then [] else bl s) (I:=fun k=>if h:k<l.length then f l[k] else []) (by simp [sepZ]) (fun k hk=>by simp only [hk,dif_pos];exact gf_ _ _ _ _ hk) hst
  (fun k wr w' h hb=>h.keep hb)
  (fun k wr t' _ hp hj _=>e3_ hc hp hs hj hbW)
  (fun k hk x wr t' hx hp hj hkp=>(hit k hk x wr t' hx hp (hm hkp)).mono ?_)).mono ?_
 ·rintro e w' ⟨rfl,hp',hk'⟩
  refine ⟨rfl,?_,?_,hk'.mono (fun i e=>.inl (.inl e))⟩
  ·simp only [hk,dif_pos,hx];exact hp'
  ·exact hj.kp hk' hbW
 ·rintro e w' ⟨rfl,hp',hk'⟩
  rw [List.take_length] at hp'
  exact ⟨rfl,hp',hm hk'⟩
theorem x1_ (hc:PC C B) (h:PI C B b vp t W) {q:Option Addr} {c:Nat} (l:List Nat) (hl:l.length≤9223372036854775807) (hrow:∀j (hj:j<l.length),∃g o,q=some ⟨g,o,none⟩∧C ⟨g,o+j,none⟩=some (.int .u64 (l[j]:Nat)))
 {Ki:Nat} {fi ci:Array Value} (ei:∀args w,(callFunc Ki args).run prog w=.ok (.enter Ki args) w) {f:Nat→List Nat}
 (hit:∀k (hk:k<l.length) x wr t',l[k]=x→PI C B b vp t' wr→Kp B (fun k=>k=b) W wr→Calls prog Ki (fi++#[.int .u64 (x:Nat)]++ci) wr fun e w'=>e=.returned (.tuple #[])∧PI C B b vp (t'++f x) w'∧Kp B (fun k=>k=b) wr w') :
 Calls prog 117 #[.pointer (some ⟨b,0,none⟩),.func (.func Ki) fi ci,.slice q l.length c] W fun e w'=>e=.returned (.tuple #[])∧PI C B b vp (t++sepZ [44,32] f l) w'∧Kp B (fun k=>k=b) W w':=by
 have hbt:=es_ hc h ⟨#[44,32]⟩
 have HS:=hid (fun W1=>sepLa_p (W1:=W1) hc h (c:=c) l hl hrow ei hit ⟨#[44,32]⟩ (by decide) rfl)
 obtain ⟨n,hn⟩:∃n,l.length=n:=⟨_,rfl⟩
 rw [hn] at HS ⊢
 clear hrow hit hn h hc hl
 go_enter func117,ntmps117
 go_wp2_with (go_at_call 59;refine hbt.mono ?_)
 rintro e w1 ⟨rfl,hp1,hb1,hs1,hz1⟩
 have HX:=hid (HS.out w1 hp1 hb1 hs1 hz1)
 clear hp1 hb1 hs1 hz1 HS hbt
 unfold btC at HX ⊢
 go_wp2_with fail
 go_at_call 163
 refine HX.out.mono ?_
 rintro e w2 ⟨rfl,hp2,hk2⟩
 go_wp2_with fail
 first|go_end0|refine bodyPost_ret (results_none rfl _ _ _) rfl ?_
 exact ⟨rfl,hp2,hk2⟩
end
structure BdRow (C:Cl) (q:Option Addr) (l:List StZ) (lv:List StV):Prop where
 len:lv.length=l.length
 cells:∀j (hj:j<lv.length),∃g o,q=some ⟨g,o,none⟩∧C ⟨g,o+j*4,none⟩=some (.int .i64 lv[j].k)∧C ⟨g,o+j*4+1,none⟩=some (.string lv[j].nm)∧C ⟨g,o+j*4+2,none⟩=some (.slice lv[j].q1 lv[j].n1 lv[j].c1)∧C ⟨g,o+j*4+3,none⟩=some (.slice lv[j].q2 lv[j].n2 lv[j].c2)
 rd:∀j (hj:j<lv.length) (hj':j<l.length),∃q1 c1 q2 c2,lv[j]=⟨l[j].kind,l[j].name,q1,l[j].targets.length,c1,q2,l[j].exprs.length,c2⟩∧SR C l[j] q1 q2
 few:l.length≤2199023255552
def DeRow (C:Cl) (q:Option Addr) (l:List DeZ):Prop:=∀j (hj:j<l.length),∃g o,q=some ⟨g,o,none⟩∧C ⟨g,o+j*2,none⟩=some (.string l[j].name)∧C ⟨g,o+j*2+1,none⟩=some (.int .u64 (l[j].label:Nat))
def LaRow (C:Cl) (q:Option Addr) (l:List Nat):Prop:=∀j (hj:j<l.length),∃g o,q=some ⟨g,o,none⟩∧C ⟨g,o+j,none⟩=some (.int .u64 (l[j]:Nat))
def DeF (d:DeZ):Prop:=d.label<18446744073709551616∧d.name.size≤140737488355327
section
variable {C:Cl} {B b:Nat} {vp:Value} {t:List Nat} {W:World} {ns:List ByteArray}
theorem bd1_p (hc:PC C B) (h:PI C B b vp t W) (s:StZ) {q1 q2:Option Addr} (c1 c2:Nat) (hs:SR C s q1 q2) (dp:Int) (hd:dp≤70368744177660) (hd2:-70368744177660≤dp) {g:Nat} (hg:b<g) (hb:BdS b g dp W) :
 Calls prog 165 (#[sv s q1 c1 q2 c2]++bdC g) W fun e w'=>e=.returned (.tuple #[])∧PI C B b vp (t++stZ (dpZ dp s) s) w'∧BdS b g (nxZ dp s) w'∧Kp B (fun k=>k=b∨k=g+1) W w':=by
 by_cases h5:s.kind=5
 ·have e1:dpZ dp s=dp:=if_neg (by omega)
  have e2:nxZ dp s=dp+1:=if_pos (.inl h5)
  rw [e1,e2];exact bd1_5 hc h s h5 c1 c2 hs dp hd hd2 hg hb
 by_cases h7:s.kind=7
 ·have e1:dpZ dp s=dp:=if_neg (by omega)
  have e2:nxZ dp s=dp+1:=if_pos (.inr h7)
  rw [e1,e2];exact bd1_7 hc h s h7 c1 c2 hs dp hd hd2 hg hb
 by_cases h6:s.kind=6
 ·have e1:dpZ dp s=dp - 1:=if_pos (.inl h6)
  have e2:nxZ dp s=dp:=by unfold nxZ;rw [if_neg (by omega),if_neg (by omega)]
  rw [e1,e2];exact bd1_6 hc h s h6 c1 c2 hs dp hd hd2 hg hb
 by_cases h8:s.kind=8
 ·have e1:dpZ dp s=dp - 1:=if_pos (.inr h8)
  have e2:nxZ dp s=dp - 1:=by unfold nxZ;rw [if_neg (by omega),if_pos h8]
  rw [e1,e2];exact bd1_8 hc h s h8 c1 c2 hs dp hd hd2 hg hb
 ·have e1:dpZ dp s=dp:=if_neg (by omega)
  have e2:nxZ dp s=dp:=by unfold nxZ;rw [if_neg (by omega),if_neg h8]
  rw [e1,e2];exact bd1_0 hc h s ⟨h5,h6,h7,h8⟩ c1 c2 hs dp hd hd2 hg hb
theorem body_p (hc:PC C B) (h:PI C B b vp t W) (l:List StZ) {q:Option Addr} {c:Nat} {lv:List StV} (hr:BdRow C q l lv) :
 Calls prog 118 #[.pointer (some ⟨b,0,none⟩),.slice q l.length c] W (Wrote C B b vp W (t++bodyZ 1 l)):=by
 have hbW:=h.b_lt
 have hB2:Below W.heap.size W ((W.alloc (.cells #[.pointer (some ⟨b,0,none⟩)] 75)).alloc (.cells #[.int .i64 1] 3)):=bb_ ((Below.refl _ _).alloc (Nat.le_refl _) _) _
 have hP2:=h.all hc hB2
 have hS2:BdS b W.heap.size 1 ((W.alloc (.cells #[.pointer (some ⟨b,0,none⟩)] 75)).alloc (.cells #[.int .i64 1] 3)):=⟨ad_ _ _ (nwn W _),by
  have:=nwn (W.alloc (.cells #[.pointer (some ⟨b,0,none⟩)] 75)) (.cells #[.int .i64 1] 3)
  rwa [World.size_alloc] at this⟩
 have hlen:=hr.len
 have HL:=hid (ti_ hc hP2 (c:=c) lv (by have:=hr.few;omega) hr.cells (Ki:=165) (fi:=#[]) (ci:=bdC W.heap.size) (enters_of func165 (by kernel_rfl) rfl)
  (J:=fun k w=>BdS b W.heap.size (depZ 1 (l.take k)) w) (S:=fun k=>k=b∨k=W.heap.size+1) (fun i e=>by simp only [World.size_alloc];omega)
  (F:=fun k=>bodyZ 1 (l.take k)) (I:=fun k=>if h:k<l.length then stZ (dpZ (depZ 1 (l.take k)) l[k]) l[k] else []) rfl
  (fun k hk=>by
   rw [hlen] at hk
   simp only [hk,dif_pos]
   rw [List.take_succ_eq_append_getElem hk,kk_];simp) hS2 (fun _ _ _ h hb=>h.keep hb)
  (fun k hk x wr t' hx hp hj _=>by
   have hk':k<l.length:=by rw [←hlen];exact hk
   obtain ⟨q1,c1,q2,c2,h1,h2⟩:=hr.rd k hk hk'
   rw [hx] at h1
   subst h1
   simp only [hk',dif_pos]
   have hd:=w6_ (l.take k) 1
   rw [List.length_take] at hd
   have hfew:=hr.few
   have:=bd1_p hc hp l[k] c1 c2 h2 (depZ 1 (l.take k)) (by omega) (by omega) (g:=W.heap.size) hbW hj
   rw [List.take_succ_eq_append_getElem hk',n4_]
   exact this))
 rw [hlen,List.take_length] at HL
 have HK:=hid (Kp.all (S:=fun k=>k=b) hB2 h.low)
 clear h hc hr hP2 hS2 hB2 hlen
 generalize l.length=n at *
 unfold bdC at HL
 go_enter func118,ntmps118
 go_wp2_with fail
 go_at_call 164
 refine HL.out.mono ?_
 rintro e w2 ⟨rfl,hp2,hk2⟩
 go_wp2_with fail
 first|go_end0|refine bodyPost_ret (results_none rfl _ _ _) rfl ?_
 exact ⟨rfl,hp2,HK.out.then hk2 (fun i e=>by rcases e with e|e <;> omega)⟩
end
section
variable {C:Cl} {B b:Nat} {vp:Value} {t:List Nat} {W:World}
theorem x2_ (hc:PC C B) (h:PI C B b vp t W) {q:Option Addr} {c:Nat} (l:List ArZ) (hl:l.length≤9223372036854775807) (hrow:∀j (hj:j<l.length),∃g o,q=some ⟨g,o,none⟩∧C ⟨g,o+j*3,none⟩=some (.string l[j].name)∧C ⟨g,o+j*3+1,none⟩=some (.int .i64 l[j].len)∧C ⟨g,o+j*3+2,none⟩=some (.int .u64 (l[j].label:Nat)))
 {Ka Ki:Nat} {ca fi ci:Array Value} (ea:∀args w,(callFunc Ka args).run prog w=.ok (.enter Ka args) w) (ei:∀args w,(callFunc Ki args).run prog w=.ok (.enter Ki args) w)
 {J J':Nat→World→Prop} {S:Nat→Prop} (hS:∀i,S i→i<W.heap.size) {F A I:Nat→List Nat} (hF0:F 0=[]) (hF:∀k,k<l.length→F (k+1)=F k++A k++I k) (h0:J 0 W)
 (hJ:∀k wr w',J k wr→Below wr.heap.size wr w'→J k w')
 (hap:∀k wr t',k<l.length→PI C B b vp t' wr→J k wr→Kp B S W wr→Calls prog Ka ca wr fun e w'=>e=.returned (.tuple #[])∧PI C B b vp (t'++A k) w'∧J' k w'∧Kp B S wr w')
 (hit:∀k (hk:k<l.length) x wr t',l[k]=x→PI C B b vp t' wr→J' k wr→Kp B S W wr→Calls prog Ki (fi++#[.agg #[.string x.name,.int .i64 x.len,.int .u64 (x.label:Nat)]]++ci) wr fun e w'=>e=.returned (.tuple #[])∧PI C B b vp (t'++I k) w'∧J (k+1) w'∧Kp B S wr w') :
 Calls prog 109 #[.pointer (some ⟨b,0,none⟩),.func (.func Ka) #[] ca,.func (.func Ki) fi ci,.slice q l.length c] W fun e w'=>e=.returned (.tuple #[])∧PI C B b vp (t++F l.length) w'∧Kp B S W w':=by
 have HC:=hid hc
 have HP:=hid h
 have HR:=hid hrow
 have HS:=hid hS
 have HF:=hid hF
 have HF0:=hid hF0
 have HJ0:=hid h0
 have HJ:=hid hJ
 have HAP:=hid hap
 have HIT:=hid hit
 obtain ⟨n,hn⟩:∃n,l.length=n:=⟨_,rfl⟩
 have HN:=hid hn
 rw [hn] at hl ⊢
 clear h hrow hS hF hF0 h0 hJ hap hit hn hc
 go_enter func109,ntmps109
 go_wp2
 go_loopw [12] (fun i wr=>∃k:Nat,k≤n∧i=.int .i64 k∧Hid (PI C B b vp (t++F k) wr)∧Hid (J k wr)∧Hid (Kp B S W wr)) (fun i _=>n - (intOf i).toNat)
 case atStart=>exact ⟨0,Nat.zero_le _,rfl,hid (by rw [HF0.out,nlf];exact HP.out),HJ0,hid (Kp.refl _ _ _)⟩
 case round =>
  obtain ⟨k,hk,rfl,HPr,HJr,HKr⟩:=hrel
  by_cases hlt:k<n
  ·have hk':k<l.length:=by rw [HN.out];exact hlt
   obtain ⟨x,hx,g,o,rfl,a0,a1,a2⟩:∃x,l[k]=x∧∃g o,q=some ⟨g,o,none⟩∧C ⟨g,o+k*3,none⟩=some (.string x.name)∧C ⟨g,o+k*3+1,none⟩=some (.int .i64 x.len)∧C ⟨g,o+k*3+2,none⟩=some (.int .u64 (x.label:Nat)):=⟨_,rfl,HR.out k hk'⟩
   have HK':=hid hk'
   have hit1:=hid (HIT.out k hk')
   have hit2:=hid (fun wr t'=>hit1.out x wr t' hx)
   have e0:wr.cell? ⟨g,o+k*3,none⟩=some (.string x.name):=HPr.out.rd _ _ a0
   clear a0
   have e1:wr.cell? ⟨g,o+k*3+1,none⟩=some (.int .i64 x.len):=HPr.out.rd _ _ a1
   clear a1
   have e2:wr.cell? ⟨g,o+k*3+2,none⟩=some (.int .u64 (x.label:Nat)):=HPr.out.rd _ _ a2
   clear a2
   obtain ⟨lg,acc,hw,hla,hx2⟩:=HPr.out.wr
   obtain ⟨c2,_⟩:=hw.raw
   have c3:=(hw.keep ((Below.refl wr.heap.size wr).alloc (Nat.le_refl _) (.cells #[.string x.name,.int .i64 x.len,.int .u64 (x.label:Nat)] 72))).raw.1
   have HW:=hid hw
   clear hw hk' hx hit1
   have hki:(k:Int)<(n:Int):=by omega
   rcases hx2 with ⟨rfl,hacc⟩|⟨rfl,hlong⟩
   ·clear hacc
    have HP1:=hid (HPr.out.alloc HC.out (.cells #[.string x.name,.int .i64 x.len,.int .u64 (x.label:Nat)] 72))
    have HJ1:=hid (HJ.out k _ _ HJr.out ((Below.refl _ _).alloc (Nat.le_refl _) (.cells #[.string x.name,.int .i64 x.len,.int .u64 (x.label:Nat)] 72)))
    have HK1:=hid (HKr.out.alloc HPr.out.low (.cells #[.string x.name,.int .i64 x.len,.int .u64 (x.label:Nat)] 72))
    have HB1:=hid (nwn wr (.cells #[.string x.name,.int .i64 x.len,.int .u64 (x.label:Nat)] 72))
    have HL1:=hid HKr.out.size
    clear HPr HJr HKr HW
    go_wp2_with fail
    generalize (wr.alloc _:World)=w0 at *
    refine (HAP.out k w0 _ HK'.out HP1.out HJ1.out HK1.out).mono ?_
    rintro e w1 ⟨rfl,hp1,hj1,hk1⟩
    have hb1:=hk1.heap HB1.out (fun e=>by have:=HS.out _ e;have:=HL1.out;omega) (by decide)
    have d0:=aa_ (j:=0) hb1 rfl
    have d1:=aa_ (j:=1) hb1 rfl
    have d2:=aa_ (j:=2) hb1 rfl
    have HP2:=hid hp1
    have HJ2:=hid hj1
    have HK2:=hid (HK1.out.trans hk1)
    clear hp1 hj1 hk1 hb1 HP1 HJ1 HK1
    go_wp2_with fail
    refine (hit2.out w1 _ HP2.out HJ2.out HK2.out).mono ?_
    rintro e w2 ⟨rfl,hp3,hj3,hk3⟩
    rw [nlb,nlb,←nlb (F k),←HF.out k HK'.out] at hp3
    have HP3:=hid hp3
    have HJ3:=hid hj3
    have HK3:=hid (HK2.out.trans hk3)
    clear hp3 hj3 hk3 HP2 HJ2 HK2
    go_wp2_with fail
    exact ⟨⟨k+1,by omega,by go_num,HP3,HJ3,HK3⟩,by simp [intOf];omega⟩
   ·have HLG:=hid hlong
    obtain ⟨r,hr⟩:=fl_ (l:=l) HF.out (Nat.le_of_lt HK'.out)
    rw [HN.out] at hr
    have HR2:=hid hr
    clear hlong hr
    go_wp2
    first|go_end0|refine bodyPost_ret (results_none rfl _ _ _) rfl ?_
    have hb:=(Below.refl wr.heap.size wr).alloc (Nat.le_refl _) (.cells #[.string x.name,.int .i64 x.len,.int .u64 (x.label:Nat)] 72)
    refine ⟨rfl,?_,HKr.out.alloc HPr.out.low _⟩
    rw [HR2.out,←nlb]
    exact (HPr.out.long HW.out hla HLG.out r).all HC.out hb
  ·obtain rfl:k=n:=by omega
   go_wp2
   first|go_end0|refine bodyPost_ret (results_none rfl _ _ _) rfl ?_
   exact ⟨rfl,HPr.out,HKr.out⟩
end
section
variable {C:Cl} {B b:Nat} {vp:Value} {t:List Nat} {W:World}
theorem tk_ (w:World):Calls prog 110 #[] w fun e w'=>e=.returned (.tuple #[])∧w=w':=by
 go_enter func110,ntmps110
 first|(go_wp2;go_end0)|go_end0
 exact ⟨rfl,rfl⟩
theorem tl_ (hc:PC C B) (h:PI C B b vp t W) {q:Option Addr} {c:Nat} (l:List ArZ) (hl:l.length≤9223372036854775807) (hrow:∀j (hj:j<l.length),∃g o,q=some ⟨g,o,none⟩∧C ⟨g,o+j*3,none⟩=some (.string l[j].name)∧C ⟨g,o+j*3+1,none⟩=some (.int .i64 l[j].len)∧C ⟨g,o+j*3+2,none⟩=some (.int .u64 (l[j].label:Nat)))
 {Ki:Nat} {fi ci:Array Value} (ei:∀args w,(callFunc Ki args).run prog w=.ok (.enter Ki args) w)
 {J:Nat→World→Prop} {S:Nat→Prop} (hS:∀i,S i→i<W.heap.size) {F I:Nat→List Nat} (hF0:F 0=[]) (hF:∀k,k<l.length→F (k+1)=F k++[]++I k) (h0:J 0 W)
 (hJ:∀k wr w',J k wr→Below wr.heap.size wr w'→J k w')
 (hit:∀k (hk:k<l.length) x wr t',l[k]=x→PI C B b vp t' wr→J k wr→Kp B S W wr→Calls prog Ki (fi++#[.agg #[.string x.name,.int .i64 x.len,.int .u64 (x.label:Nat)]]++ci) wr fun e w'=>e=.returned (.tuple #[])∧PI C B b vp (t'++I k) w'∧J (k+1) w'∧Kp B S wr w') :
 Calls prog 62 #[.pointer (some ⟨b,0,none⟩),.func (.func Ki) fi ci,.slice q l.length c] W fun e w'=>e=.returned (.tuple #[])∧PI C B b vp (t++F l.length) w'∧Kp B S W w':=by
 have HX:=hid (x2_ hc h (c:=c) l hl hrow (Ka:=110) (ca:=#[]) (enters_of func110 (by kernel_rfl) rfl) ei (J':=J) hS hF0 hF h0 hJ
  (fun k wr t' _ hp hj _=>(tk_ wr).mono fun e w' ⟨he,hw⟩=>by subst hw;exact ⟨he,by rw [nlf];exact hp,hj,Kp.refl _ _ _⟩) hit)
 obtain ⟨n,hn⟩:∃n,l.length=n:=⟨_,rfl⟩
 rw [hn] at HX ⊢
 clear hrow hit hn h hc hl hF hF0 h0 hJ hS
 go_enter func62,ntmps62
 go_wp2_with fail
 go_at_call 109
 refine HX.out.mono ?_
 rintro e w2 ⟨rfl,hp2,hk2⟩
 go_wp2_with fail
 first|go_end0|refine bodyPost_ret (results_none rfl _ _ _) rfl ?_
 exact ⟨rfl,hp2,hk2⟩
end
section
variable {C:Cl} {B b:Nat} {vp:Value} {t:List Nat} {W:World}
theorem x3_ (hc:PC C B) (h:PI C B b vp t W) {q:Option Addr} {c:Nat} (l:List FnV) (hl:l.length≤9223372036854775807) (hrow:∀j (hj:j<l.length),∃g o,q=some ⟨g,o,none⟩∧C ⟨g,o+j*6,none⟩=some (.string l[j].nm)∧C ⟨g,o+j*6+1,none⟩=some (.int .u64 (l[j].lv:Nat))∧C ⟨g,o+j*6+2,none⟩=some (.slice l[j].q1 l[j].n1 l[j].c1)∧C ⟨g,o+j*6+3,none⟩=some (.slice l[j].q2 l[j].n2 l[j].c2)∧C ⟨g,o+j*6+4,none⟩=some (.slice l[j].q3 l[j].n3 l[j].c3)∧C ⟨g,o+j*6+5,none⟩=some (.slice l[j].q4 l[j].n4 l[j].c4))
 {Ka Ki:Nat} {ca fi ci:Array Value} (ea:∀args w,(callFunc Ka args).run prog w=.ok (.enter Ka args) w) (ei:∀args w,(callFunc Ki args).run prog w=.ok (.enter Ki args) w)
 {J J':Nat→World→Prop} {S:Nat→Prop} (hS:∀i,S i→i<W.heap.size) {F A I:Nat→List Nat} (hF0:F 0=[]) (hF:∀k,k<l.length→F (k+1)=F k++A k++I k) (h0:J 0 W)
 (hJ:∀k wr w',J k wr→Below wr.heap.size wr w'→J k w')
 (hap:∀k wr t',k<l.length→PI C B b vp t' wr→J k wr→Kp B S W wr→Calls prog Ka ca wr fun e w'=>e=.returned (.tuple #[])∧PI C B b vp (t'++A k) w'∧J' k w'∧Kp B S wr w')
 (hit:∀k (hk:k<l.length) x wr t',l[k]=x→PI C B b vp t' wr→J' k wr→Kp B S W wr→Calls prog Ki (fi++#[.agg #[.string x.nm,.int .u64 (x.lv:Nat),.slice x.q1 x.n1 x.c1,.slice x.q2 x.n2 x.c2,.slice x.q3 x.n3 x.c3,.slice x.q4 x.n4 x.c4]]++ci) wr fun e w'=>e=.returned (.tuple #[])∧PI C B b vp (t'++I k) w'∧J (k+1) w'∧Kp B S wr w') :
 Calls prog 114 #[.pointer (some ⟨b,0,none⟩),.func (.func Ka) #[] ca,.func (.func Ki) fi ci,.slice q l.length c] W fun e w'=>e=.returned (.tuple #[])∧PI C B b vp (t++F l.length) w'∧Kp B S W w':=by
 have HC:=hid hc
 have HP:=hid h
 have HR:=hid hrow
 have HS:=hid hS
 have HF:=hid hF
 have HF0:=hid hF0
 have HJ0:=hid h0
 have HJ:=hid hJ
 have HAP:=hid hap
 have HIT:=hid hit
 obtain ⟨n,hn⟩:∃n,l.length=n:=⟨_,rfl⟩
 have HN:=hid hn
 rw [hn] at hl ⊢
 clear h hrow hS hF hF0 h0 hJ hap hit hn hc
 go_enter func114,ntmps114
 go_wp2
 go_loopw [12] (fun i wr=>∃k:Nat,k≤n∧i=.int .i64 k∧Hid (PI C B b vp (t++F k) wr)∧Hid (J k wr)∧Hid (Kp B S W wr)) (fun i _=>n - (intOf i).toNat)
 case atStart=>exact ⟨0,Nat.zero_le _,rfl,hid (by rw [HF0.out,nlf];exact HP.out),HJ0,hid (Kp.refl _ _ _)⟩
 case round =>
  obtain ⟨k,hk,rfl,HPr,HJr,HKr⟩:=hrel
  by_cases hlt:k<n
  ·have hk':k<l.length:=by rw [HN.out];exact hlt
   obtain ⟨x,hx,g,o,rfl,a0,a1,a2,a3,a4,a5⟩:∃x,l[k]=x∧∃g o,q=some ⟨g,o,none⟩∧C ⟨g,o+k*6,none⟩=some (.string x.nm)∧C ⟨g,o+k*6+1,none⟩=some (.int .u64 (x.lv:Nat))∧C ⟨g,o+k*6+2,none⟩=some (.slice x.q1 x.n1 x.c1)∧C ⟨g,o+k*6+3,none⟩=some (.slice x.q2 x.n2 x.c2)∧C ⟨g,o+k*6+4,none⟩=some (.slice x.q3 x.n3 x.c3)∧C ⟨g,o+k*6+5,none⟩=some (.slice x.q4 x.n4 x.c4):=⟨_,rfl,HR.out k hk'⟩
   have HK':=hid hk'
   have hit1:=hid (HIT.out k hk')
   have hit2:=hid (fun wr t'=>hit1.out x wr t' hx)
   have e0:wr.cell? ⟨g,o+k*6,none⟩=some (.string x.nm):=HPr.out.rd _ _ a0
   clear a0
   have e1:wr.cell? ⟨g,o+k*6+1,none⟩=some (.int .u64 (x.lv:Nat)):=HPr.out.rd _ _ a1
   clear a1
   have e2:wr.cell? ⟨g,o+k*6+2,none⟩=some (.slice x.q1 x.n1 x.c1):=HPr.out.rd _ _ a2
   clear a2
   have e3:wr.cell? ⟨g,o+k*6+3,none⟩=some (.slice x.q2 x.n2 x.c2):=HPr.out.rd _ _ a3
   clear a3
   have e4:wr.cell? ⟨g,o+k*6+4,none⟩=some (.slice x.q3 x.n3 x.c3):=HPr.out.rd _ _ a4
   clear a4
   have e5:wr.cell? ⟨g,o+k*6+5,none⟩=some (.slice x.q4 x.n4 x.c4):=HPr.out.rd _ _ a5
   clear a5
   obtain ⟨lg,acc,hw,hla,hx2⟩:=HPr.out.wr
   obtain ⟨c2,_⟩:=hw.raw
   have c3:=(hw.keep ((Below.refl wr.heap.size wr).alloc (Nat.le_refl _) (.cells #[.string x.nm,.int .u64 (x.lv:Nat),.slice x.q1 x.n1 x.c1,.slice x.q2 x.n2 x.c2,.slice x.q3 x.n3 x.c3,.slice x.q4 x.n4 x.c4] 54))).raw.1
   have HW:=hid hw
   clear hw hk' hx hit1
   have hki:(k:Int)<(n:Int):=by omega
   rcases hx2 with ⟨rfl,hacc⟩|⟨rfl,hlong⟩
   ·clear hacc
    have HP1:=hid (HPr.out.alloc HC.out (.cells #[.string x.nm,.int .u64 (x.lv:Nat),.slice x.q1 x.n1 x.c1,.slice x.q2 x.n2 x.c2,.slice x.q3 x.n3 x.c3,.slice x.q4 x.n4 x.c4] 54))
    have HJ1:=hid (HJ.out k _ _ HJr.out ((Below.refl _ _).alloc (Nat.le_refl _) (.cells #[.string x.nm,.int .u64 (x.lv:Nat),.slice x.q1 x.n1 x.c1,.slice x.q2 x.n2 x.c2,.slice x.q3 x.n3 x.c3,.slice x.q4 x.n4 x.c4] 54)))
    have HK1:=hid (HKr.out.alloc HPr.out.low (.cells #[.string x.nm,.int .u64 (x.lv:Nat),.slice x.q1 x.n1 x.c1,.slice x.q2 x.n2 x.c2,.slice x.q3 x.n3 x.c3,.slice x.q4 x.n4 x.c4] 54))
    have HB1:=hid (nwn wr (.cells #[.string x.nm,.int .u64 (x.lv:Nat),.slice x.q1 x.n1 x.c1,.slice x.q2 x.n2 x.c2,.slice x.q3 x.n3 x.c3,.slice x.q4 x.n4 x.c4] 54))
    have HL1:=hid HKr.out.size
    clear HPr HJr HKr HW
    go_wp2_with fail
    generalize (wr.alloc _:World)=w0 at *
    refine (HAP.out k w0 _ HK'.out HP1.out HJ1.out HK1.out).mono ?_
    rintro e w1 ⟨rfl,hp1,hj1,hk1⟩
    have hb1:=hk1.heap HB1.out (fun e=>by have:=HS.out _ e;have:=HL1.out;omega) (by decide)
    have d0:=aa_ (j:=0) hb1 rfl
    have d1:=aa_ (j:=1) hb1 rfl
    have d2:=aa_ (j:=2) hb1 rfl
    have d3:=aa_ (j:=3) hb1 rfl
    have d4:=aa_ (j:=4) hb1 rfl
    have d5:=aa_ (j:=5) hb1 rfl
    have HP2:=hid hp1
    have HJ2:=hid hj1
    have HK2:=hid (HK1.out.trans hk1)
    clear hp1 hj1 hk1 hb1 HP1 HJ1 HK1
    go_wp2_with fail
    refine (hit2.out w1 _ HP2.out HJ2.out HK2.out).mono ?_
    rintro e w2 ⟨rfl,hp3,hj3,hk3⟩
    rw [nlb,nlb,←nlb (F k),←HF.out k HK'.out] at hp3
    have HP3:=hid hp3
    have HJ3:=hid hj3
    have HK3:=hid (HK2.out.trans hk3)
    clear hp3 hj3 hk3 HP2 HJ2 HK2
    go_wp2_with fail
    exact ⟨⟨k+1,by omega,by go_num,HP3,HJ3,HK3⟩,by simp [intOf];omega⟩
   ·have HLG:=hid hlong
    obtain ⟨r,hr⟩:=fl_ (l:=l) HF.out (Nat.le_of_lt HK'.out)
    rw [HN.out] at hr
    have HR2:=hid hr
    clear hlong hr
    go_wp2
    first|go_end0|refine bodyPost_ret (results_none rfl _ _ _) rfl ?_
    have hb:=(Below.refl wr.heap.size wr).alloc (Nat.le_refl _) (.cells #[.string x.nm,.int .u64 (x.lv:Nat),.slice x.q1 x.n1 x.c1,.slice x.q2 x.n2 x.c2,.slice x.q3 x.n3 x.c3,.slice x.q4 x.n4 x.c4] 54)
    refine ⟨rfl,?_,HKr.out.alloc HPr.out.low _⟩
    rw [HR2.out,←nlb]
    exact (HPr.out.long HW.out hla HLG.out r).all HC.out hb
  ·obtain rfl:k=n:=by omega
   go_wp2
   first|go_end0|refine bodyPost_ret (results_none rfl _ _ _) rfl ?_
   exact ⟨rfl,HPr.out,HKr.out⟩
end
end Go.Proofs.YtpcniebkabkikaaGreatDoor
