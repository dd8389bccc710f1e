/- stmt of package print, at one kind. (Written by a program.) stmt of package print, at one kind. (Written by a program.) stmt of package print, at one kind. (Written by a program.) each of package print, over whatever is to be called; at one type. (Written by a program.) list, lines of package print at one type, over whatever is to be called for an item. (Written by a program.) The body of a functi -/
import Derived.Test.YtpcniebkabkikaaGreatDoorVSR12
import Derived.Test.YtpcniebkabkikaaGreatDoorVSR8
import Derived.Deep.QuietTactic
import Derived.BigQuiet
import Derived.Deep.Cut
namespace Go.Proofs.YtpcniebkabkikaaGreatDoor
open Go Go.RowKit Go.Proofs.Mm
section
variable {C:Cl} {B b:Nat} {vp:Value} {t:List Nat} {W:World}
set_option maxRecDepth 100000 in
set_option maxHeartbeats 4000000 in
theorem stmt_7 (hc:PC C B) (h:PI C B b vp t W) (s:StZ) (hk:s.kind=7) {q1 q2:Option Addr} (c1 c2:Nat) (hs:SR C s q1 q2) (dp:Int) (n:Nat) (hdp:max dp 0=(n:Int)) (hn:n≤70368744177663) :
    Calls Tryz.prog 166 #[.pointer (some ⟨b,0,none⟩),.int .i64 dp,sv s q1 c1 q2 c2] W (Wrote C B b vp W (t++(List.replicate (2 * n) 32++(lineZ s++[10])))):=by
  have hne:W.heap.size ≠ b:=by have:=h.b_lt;omega
  have HP1:=Lib.hid (h.alloc hc (so s q1 c1 q2 c2))
  have HK1:=Lib.hid ((Kp.refl B (fun k=>k=b) W).alloc h.low (so s q1 c1 q2 c2))
  have HX1:=Lib.hid (World.alloc_heap_new W (so s q1 c1 q2 c2))
  have HC:=Lib.hid hc
  have HS:=Lib.hid hs
  have HKK:=Lib.hid hk
  have hmx:Tryz.prog.follows .mixedOrders=true:=by kernel_rfl
  unfold so at HP1 HK1 HX1
  unfold sv
  rw [hk] at HP1 HK1 HX1 ⊢
  clear h hc hs hk
  go_enter Tryz.func166,Tryz.ntmps166
  go_upto_region 1 with fail
  generalize (W.alloc _:World)=w1 at *
  have HX1:Hid (w1.heap[W.heap.size]?=some (so s q1 c1 q2 c2)):=Lib.hid (by have:=HX1.out;unfold so;rw [HKK.out];exact this)
  obtain ⟨d0,d1,d2,d3⟩:=so_cellsK HX1.out HKK.out
  have HR:=Lib.hid (repeat_p HC.out HP1.out n hn)
  go_wp2_with fail
  go_at_call 205
  refine HR.out.mono ?_
  rintro e wr ⟨zr,rfl,hzr,hpr,hbr⟩
  have HWr:=Lib.hid (word_p HC.out hpr zr (by rw [← bl_length,hzr,List.length_replicate];omega))
  have HZr:=Lib.hid hzr
  have HKr:=Lib.hid (HK1.out.trans (Kp.all hbr HP1.out.low))
  have HXr:=Lib.hid ((hbr.block _ (heap_lt HX1.out)).trans HX1.out)
  clear hzr hpr hbr HR d0 d1 d2 d3
  obtain ⟨d0,d1,d2,d3⟩:=so_cellsK HXr.out HKK.out
  go_wp2_with fail
  go_at_call 57
  refine HWr.out.mono ?_
  rintro e w2 ⟨rfl,hp,hk⟩
  rw [HZr.out] at hp
  have HP2:=Lib.hid hp
  have HX2:=Lib.hid (so_kp HXr.out hk hne)
  have HK2:=Lib.hid (HKr.out.trans hk)
  clear hp hk d0 d1 d2 d3 HXr HKr HWr HZr HP1 HX1 HK1
  obtain ⟨d0,d1,d2,d3⟩:=so_cellsK HX2.out HKK.out
  have HW:=Lib.hid (exprAt_s s c1 c2 HS.out 0 (by omega) w2 HP2.out.rd HP2.out.env)
  unfold sv at HW
  rw [HKK.out] at HW
  go_wp2_with fail
  go_at_call 207
  refine HW.out.mono ?_
  rintro e wz ⟨z,rfl,hz,hb⟩
  have HPz:=Lib.hid (HP2.out.all HC.out hb)
  have HKz:=Lib.hid (HK2.out.trans (Kp.all hb HP2.out.low))
  have HXz:=Lib.hid ((hb.block _ (heap_lt HX2.out)).trans HX2.out)
  have HZ:=Lib.hid hz
  have HW2:=Lib.hid (putR_p HC.out HPz.out [⟨#[119,104,105,108,101,32]⟩,z,⟨#[32,123]⟩] (by simp) (in_three (by decide) (by rw [← bl_length,hz];exact exAt_len HS.out.f 0) (by decide)) (L:=#[.string ⟨#[119,104,105,108,101,32]⟩,.string z,.string ⟨#[32,123]⟩]) rfl (n:=3) rfl)
  clear hz hb HW HP2 HK2 HX2 d0 d1 d2 d3
  obtain ⟨d0,d1,d2,d3⟩:=so_cellsK HXz.out HKK.out
  go_wp2_with fail
  go_at_call 111
  refine HW2.out.mono ?_
  rintro e w3 ⟨rfl,hp,hk⟩
  have HP3:=Lib.hid (show PI C B b vp _ w3 from by rw [put3,HZ.out] at hp;exact hp)
  have HX3:=Lib.hid (so_kp HXz.out hk hne)
  have HK3:=Lib.hid (HKz.out.trans hk)
  clear hp hk d0 d1 d2 d3 HXz HKz HPz HW2 HZ
  obtain ⟨d0,d1,d2,d3⟩:=so_cellsK HX3.out HKK.out
  have HW:=Lib.hid (word_p HC.out HP3.out ⟨#[10]⟩ (by decide))
  go_wp2_with fail
  go_at_call 57
  refine HW.out.mono ?_
  rintro e w4 ⟨rfl,hp,hk⟩
  have HP4:=Lib.hid hp
  have HX4:=Lib.hid (so_kp HX3.out hk hne)
  have HK4:=Lib.hid (HK3.out.trans hk)
  clear hp hk d0 d1 d2 d3 HX3 HK3 HP3 HW
  go_wp2_with fail
  first | go_end0 | refine bodyPost_ret (results_none rfl _ _ _) rfl ?_
  refine ⟨rfl,?_,HK4.out⟩
  have hp:=HP4.out
  unfold lineZ
  rw [HKK.out]
  simpa [List.append_assoc,bl_d0,bl_d1,bl_d2,bl_d3,bl_d4,bl_d5,bl_d6,bl_d7,bl_d8,bl_d9,bl_d10,bl_d11] using hp
end
end Go.Proofs.YtpcniebkabkikaaGreatDoor
namespace Go.Proofs.YtpcniebkabkikaaGreatDoor
open Go Go.RowKit Go.Proofs.Mm
section
variable {C:Cl} {B b:Nat} {vp:Value} {t:List Nat} {W:World}
set_option maxRecDepth 100000 in
set_option maxHeartbeats 4000000 in
theorem stmt_8 (hc:PC C B) (h:PI C B b vp t W) (s:StZ) (hk:s.kind=8) {q1 q2:Option Addr} (c1 c2:Nat) (hs:SR C s q1 q2) (dp:Int) (n:Nat) (hdp:max dp 0=(n:Int)) (hn:n≤70368744177663) :
    Calls Tryz.prog 166 #[.pointer (some ⟨b,0,none⟩),.int .i64 dp,sv s q1 c1 q2 c2] W (Wrote C B b vp W (t++(List.replicate (2 * n) 32++(lineZ s++[10])))):=by
  have hne:W.heap.size ≠ b:=by have:=h.b_lt;omega
  have HP1:=Lib.hid (h.alloc hc (so s q1 c1 q2 c2))
  have HK1:=Lib.hid ((Kp.refl B (fun k=>k=b) W).alloc h.low (so s q1 c1 q2 c2))
  have HX1:=Lib.hid (World.alloc_heap_new W (so s q1 c1 q2 c2))
  have HC:=Lib.hid hc
  have HS:=Lib.hid hs
  have HKK:=Lib.hid hk
  have hmx:Tryz.prog.follows .mixedOrders=true:=by kernel_rfl
  unfold so at HP1 HK1 HX1
  unfold sv
  rw [hk] at HP1 HK1 HX1 ⊢
  clear h hc hs hk
  go_enter Tryz.func166,Tryz.ntmps166
  go_upto_region 1 with fail
  generalize (W.alloc _:World)=w1 at *
  have HX1:Hid (w1.heap[W.heap.size]?=some (so s q1 c1 q2 c2)):=Lib.hid (by have:=HX1.out;unfold so;rw [HKK.out];exact this)
  obtain ⟨d0,d1,d2,d3⟩:=so_cellsK HX1.out HKK.out
  have HR:=Lib.hid (repeat_p HC.out HP1.out n hn)
  go_wp2_with fail
  go_at_call 205
  refine HR.out.mono ?_
  rintro e wr ⟨zr,rfl,hzr,hpr,hbr⟩
  have HWr:=Lib.hid (word_p HC.out hpr zr (by rw [← bl_length,hzr,List.length_replicate];omega))
  have HZr:=Lib.hid hzr
  have HKr:=Lib.hid (HK1.out.trans (Kp.all hbr HP1.out.low))
  have HXr:=Lib.hid ((hbr.block _ (heap_lt HX1.out)).trans HX1.out)
  clear hzr hpr hbr HR d0 d1 d2 d3
  obtain ⟨d0,d1,d2,d3⟩:=so_cellsK HXr.out HKK.out
  go_wp2_with fail
  go_at_call 57
  refine HWr.out.mono ?_
  rintro e w2 ⟨rfl,hp,hk⟩
  rw [HZr.out] at hp
  have HP2:=Lib.hid hp
  have HX2:=Lib.hid (so_kp HXr.out hk hne)
  have HK2:=Lib.hid (HKr.out.trans hk)
  clear hp hk d0 d1 d2 d3 HXr HKr HWr HZr HP1 HX1 HK1
  obtain ⟨d0,d1,d2,d3⟩:=so_cellsK HX2.out HKK.out
  have HW:=Lib.hid (word_p HC.out HP2.out ⟨#[125]⟩ (by decide))
  go_wp2_with fail
  go_at_call 57
  refine HW.out.mono ?_
  rintro e w3 ⟨rfl,hp,hk⟩
  have HP3:=Lib.hid hp
  have HX3:=Lib.hid (so_kp HX2.out hk hne)
  have HK3:=Lib.hid (HK2.out.trans hk)
  clear hp hk d0 d1 d2 d3 HX2 HK2 HP2 HW
  obtain ⟨d0,d1,d2,d3⟩:=so_cellsK HX3.out HKK.out
  have HW:=Lib.hid (word_p HC.out HP3.out ⟨#[10]⟩ (by decide))
  go_wp2_with fail
  go_at_call 57
  refine HW.out.mono ?_
  rintro e w4 ⟨rfl,hp,hk⟩
  have HP4:=Lib.hid hp
  have HX4:=Lib.hid (so_kp HX3.out hk hne)
  have HK4:=Lib.hid (HK3.out.trans hk)
  clear hp hk d0 d1 d2 d3 HX3 HK3 HP3 HW
  go_wp2_with fail
  first | go_end0 | refine bodyPost_ret (results_none rfl _ _ _) rfl ?_
  refine ⟨rfl,?_,HK4.out⟩
  have hp:=HP4.out
  unfold lineZ
  rw [HKK.out]
  simpa [List.append_assoc,bl_d0,bl_d1,bl_d2,bl_d3,bl_d4,bl_d5,bl_d6,bl_d7,bl_d8,bl_d9,bl_d10,bl_d11] using hp
end
end Go.Proofs.YtpcniebkabkikaaGreatDoor
namespace Go.Proofs.YtpcniebkabkikaaGreatDoor
open Go Go.RowKit Go.Proofs.Mm
section
variable {C:Cl} {B b:Nat} {vp:Value} {t:List Nat} {W:World}
set_option maxRecDepth 100000 in
set_option maxHeartbeats 4000000 in
theorem stmt_9 (hc:PC C B) (h:PI C B b vp t W) (s:StZ) (hk:s.kind=9) {q1 q2:Option Addr} (c1 c2:Nat) (hs:SR C s q1 q2) (dp:Int) (n:Nat) (hdp:max dp 0=(n:Int)) (hn:n≤70368744177663) :
    Calls Tryz.prog 166 #[.pointer (some ⟨b,0,none⟩),.int .i64 dp,sv s q1 c1 q2 c2] W (Wrote C B b vp W (t++(List.replicate (2 * n) 32++(lineZ s++[10])))):=by
  have hne:W.heap.size ≠ b:=by have:=h.b_lt;omega
  have HP1:=Lib.hid (h.alloc hc (so s q1 c1 q2 c2))
  have HK1:=Lib.hid ((Kp.refl B (fun k=>k=b) W).alloc h.low (so s q1 c1 q2 c2))
  have HX1:=Lib.hid (World.alloc_heap_new W (so s q1 c1 q2 c2))
  have HC:=Lib.hid hc
  have HS:=Lib.hid hs
  have HKK:=Lib.hid hk
  have hmx:Tryz.prog.follows .mixedOrders=true:=by kernel_rfl
  unfold so at HP1 HK1 HX1
  unfold sv
  rw [hk] at HP1 HK1 HX1 ⊢
  clear h hc hs hk
  go_enter Tryz.func166,Tryz.ntmps166
  go_upto_region 1 with fail
  generalize (W.alloc _:World)=w1 at *
  have HX1:Hid (w1.heap[W.heap.size]?=some (so s q1 c1 q2 c2)):=Lib.hid (by have:=HX1.out;unfold so;rw [HKK.out];exact this)
  obtain ⟨d0,d1,d2,d3⟩:=so_cellsK HX1.out HKK.out
  have HR:=Lib.hid (repeat_p HC.out HP1.out n hn)
  go_wp2_with fail
  go_at_call 205
  refine HR.out.mono ?_
  rintro e wr ⟨zr,rfl,hzr,hpr,hbr⟩
  have HWr:=Lib.hid (word_p HC.out hpr zr (by rw [← bl_length,hzr,List.length_replicate];omega))
  have HZr:=Lib.hid hzr
  have HKr:=Lib.hid (HK1.out.trans (Kp.all hbr HP1.out.low))
  have HXr:=Lib.hid ((hbr.block _ (heap_lt HX1.out)).trans HX1.out)
  clear hzr hpr hbr HR d0 d1 d2 d3
  obtain ⟨d0,d1,d2,d3⟩:=so_cellsK HXr.out HKK.out
  go_wp2_with fail
  go_at_call 57
  refine HWr.out.mono ?_
  rintro e w2 ⟨rfl,hp,hk⟩
  rw [HZr.out] at hp
  have HP2:=Lib.hid hp
  have HX2:=Lib.hid (so_kp HXr.out hk hne)
  have HK2:=Lib.hid (HKr.out.trans hk)
  clear hp hk d0 d1 d2 d3 HXr HKr HWr HZr HP1 HX1 HK1
  obtain ⟨d0,d1,d2,d3⟩:=so_cellsK HX2.out HKK.out
  have HW:=Lib.hid (results_p HC.out HP2.out s c1 c2 HS.out)
  unfold sv at HW
  rw [HKK.out] at HW
  go_wp2_with fail
  go_at_call 209
  refine HW.out.mono ?_
  rintro e w3 ⟨rfl,hp,hk⟩
  have HP3:=Lib.hid hp
  have HX3:=Lib.hid (so_kp HX2.out hk hne)
  have HK3:=Lib.hid (HK2.out.trans hk)
  clear hp hk d0 d1 d2 d3 HX2 HK2 HP2 HW
  obtain ⟨d0,d1,d2,d3⟩:=so_cellsK HX3.out HKK.out
  have HW:=Lib.hid (word_p HC.out HP3.out ⟨#[10]⟩ (by decide))
  go_wp2_with fail
  go_at_call 57
  refine HW.out.mono ?_
  rintro e w4 ⟨rfl,hp,hk⟩
  have HP4:=Lib.hid hp
  have HX4:=Lib.hid (so_kp HX3.out hk hne)
  have HK4:=Lib.hid (HK3.out.trans hk)
  clear hp hk d0 d1 d2 d3 HX3 HK3 HP3 HW
  go_wp2_with fail
  first | go_end0 | refine bodyPost_ret (results_none rfl _ _ _) rfl ?_
  refine ⟨rfl,?_,HK4.out⟩
  have hp:=HP4.out
  unfold lineZ
  rw [HKK.out]
  simpa [List.append_assoc,bl_d0,bl_d1,bl_d2,bl_d3,bl_d4,bl_d5,bl_d6,bl_d7,bl_d8,bl_d9,bl_d10,bl_d11] using hp
end
end Go.Proofs.YtpcniebkabkikaaGreatDoor
namespace Go.Proofs.YtpcniebkabkikaaGreatDoor
open Go Go.RowKit Go.Proofs.Mm
section
variable {C:Cl} {B b:Nat} {vp:Value} {t:List Nat} {W:World}
set_option maxRecDepth 100000 in
set_option maxHeartbeats 2000000 in
theorem eachSt_p (hc:PC C B) (h:PI C B b vp t W) {q:Option Addr} {c:Nat} (l:List StV) (hl:l.length≤9223372036854775807) (hrow:∀ j (hj:j<l.length),∃ g o,q=some ⟨g,o,none⟩∧C ⟨g,o+j * 4,none⟩=some (.int .i64 l[j].k)∧C ⟨g,o+j * 4+1,none⟩=some (.string l[j].nm)∧C ⟨g,o+j * 4+2,none⟩=some (.slice l[j].q1 l[j].n1 l[j].c1)∧C ⟨g,o+j * 4+3,none⟩=some (.slice l[j].q2 l[j].n2 l[j].c2))
    {Ka Ki:Nat} {ca fi ci:Array Value} (ea:∀ args w,(callFunc Ka args).run Tryz.prog w=.ok (.enter Ka args) w) (ei:∀ args w,(callFunc Ki args).run Tryz.prog w=.ok (.enter Ki args) w)
    {J J':Nat→World→Prop} {S:Nat→Prop} (hS:∀ i,S i→i<W.heap.size) {F A I:Nat→List Nat} (hF0:F 0=[]) (hF:∀ k,k<l.length→F (k+1)=F k++A k++I k) (h0:J 0 W)
    (hJ:∀ k wr w',J k wr→Below wr.heap.size wr w'→J k w')
    (hap:∀ k wr t',k<l.length→PI C B b vp t' wr→J k wr→Kp B S W wr→Calls Tryz.prog Ka ca wr fun e w'=>e=.returned (.tuple #[])∧PI C B b vp (t'++A k) w'∧J' k w'∧Kp B S wr w')
    (hit:∀ k (hk:k<l.length) x wr t',l[k]=x→PI C B b vp t' wr→J' k wr→Kp B S W wr→Calls Tryz.prog Ki (fi++#[.agg #[.int .i64 x.k,.string x.nm,.slice x.q1 x.n1 x.c1,.slice x.q2 x.n2 x.c2]]++ci) wr fun e w'=>e=.returned (.tuple #[])∧PI C B b vp (t'++I k) w'∧J (k+1) w'∧Kp B S wr w') :
    Calls Tryz.prog 203 #[.pointer (some ⟨b,0,none⟩),.func (.func Ka) #[] ca,.func (.func Ki) fi ci,.slice q l.length c] W fun e w'=>e=.returned (.tuple #[])∧PI C B b vp (t++F l.length) w'∧Kp B S W w':=by
  have HC:=Lib.hid hc
  have HP:=Lib.hid h
  have HR:=Lib.hid hrow
  have HS:=Lib.hid hS
  have HF:=Lib.hid hF
  have HF0:=Lib.hid hF0
  have HJ0:=Lib.hid h0
  have HJ:=Lib.hid hJ
  have HAP:=Lib.hid hap
  have HIT:=Lib.hid hit
  obtain ⟨n,hn⟩:∃ n,l.length=n:=⟨_,rfl⟩
  have HN:=Lib.hid hn
  rw [hn] at hl ⊢
  clear h hrow hS hF hF0 h0 hJ hap hit hn hc
  go_enter Tryz.func203,Tryz.ntmps203
  go_wp2
  go_loopw [12] (fun i wr=>∃ k:Nat,k≤n∧i=.int .i64 k∧Hid (PI C B b vp (t++F k) wr)∧Hid (J k wr)∧Hid (Kp B S W wr)) (fun i _=>n - (intOf i).toNat)
  case atStart=>exact ⟨0,Nat.zero_le _,rfl,Lib.hid (by rw [HF0.out,List.append_nil];exact HP.out),HJ0,Lib.hid (Kp.refl _ _ _)⟩
  case round =>
    obtain ⟨k,hk,rfl,HPr,HJr,HKr⟩:=hrel
    by_cases hlt:k<n
    · have hk':k<l.length:=by rw [HN.out];exact hlt
      obtain ⟨x,hx,g,o,rfl,a0,a1,a2,a3⟩:∃ x,l[k]=x∧∃ g o,q=some ⟨g,o,none⟩∧C ⟨g,o+k * 4,none⟩=some (.int .i64 x.k)∧C ⟨g,o+k * 4+1,none⟩=some (.string x.nm)∧C ⟨g,o+k * 4+2,none⟩=some (.slice x.q1 x.n1 x.c1)∧C ⟨g,o+k * 4+3,none⟩=some (.slice x.q2 x.n2 x.c2):=⟨_,rfl,HR.out k hk'⟩
      have HK':=Lib.hid hk'
      have hit1:=Lib.hid (HIT.out k hk')
      have hit2:=Lib.hid (fun wr t'=>hit1.out x wr t' hx)
      have e0:wr.cell? ⟨g,o+k * 4,none⟩=some (.int .i64 x.k):=HPr.out.rd _ _ a0
      clear a0
      have e1:wr.cell? ⟨g,o+k * 4+1,none⟩=some (.string x.nm):=HPr.out.rd _ _ a1
      clear a1
      have e2:wr.cell? ⟨g,o+k * 4+2,none⟩=some (.slice x.q1 x.n1 x.c1):=HPr.out.rd _ _ a2
      clear a2
      have e3:wr.cell? ⟨g,o+k * 4+3,none⟩=some (.slice x.q2 x.n2 x.c2):=HPr.out.rd _ _ a3
      clear a3
      obtain ⟨lg,acc,hw,hla,hx2⟩:=HPr.out.wr
      obtain ⟨c2,_⟩:=hw.raw
      have c3:=(hw.keep ((Below.refl wr.heap.size wr).alloc (Nat.le_refl _) (.cells #[.int .i64 x.k,.string x.nm,.slice x.q1 x.n1 x.c1,.slice x.q2 x.n2 x.c2] 57))).raw.1
      have HW:=Lib.hid hw
      clear hw hk' hx hit1
      have hki:(k:Int)<(n:Int):=by omega
      rcases hx2 with ⟨rfl,hacc⟩ | ⟨rfl,hlong⟩
      · clear hacc
        have HP1:=Lib.hid (HPr.out.alloc HC.out (.cells #[.int .i64 x.k,.string x.nm,.slice x.q1 x.n1 x.c1,.slice x.q2 x.n2 x.c2] 57))
        have HJ1:=Lib.hid (HJ.out k _ _ HJr.out ((Below.refl _ _).alloc (Nat.le_refl _) (.cells #[.int .i64 x.k,.string x.nm,.slice x.q1 x.n1 x.c1,.slice x.q2 x.n2 x.c2] 57)))
        have HK1:=Lib.hid (HKr.out.alloc HPr.out.low (.cells #[.int .i64 x.k,.string x.nm,.slice x.q1 x.n1 x.c1,.slice x.q2 x.n2 x.c2] 57))
        have HB1:=Lib.hid (World.alloc_heap_new wr (.cells #[.int .i64 x.k,.string x.nm,.slice x.q1 x.n1 x.c1,.slice x.q2 x.n2 x.c2] 57))
        have HL1:=Lib.hid HKr.out.size
        clear HPr HJr HKr HW
        go_wp2_with fail
        generalize (wr.alloc _:World)=w0 at *
        refine (HAP.out k w0 _ HK'.out HP1.out HJ1.out HK1.out).mono ?_
        rintro e w1 ⟨rfl,hp1,hj1,hk1⟩
        have hb1:=hk1.heap HB1.out (fun e=>by have:=HS.out _ e;have:=HL1.out;omega) (by decide)
        have d0:=cell_of (j:=0) hb1 rfl
        have d1:=cell_of (j:=1) hb1 rfl
        have d2:=cell_of (j:=2) hb1 rfl
        have d3:=cell_of (j:=3) hb1 rfl
        have HP2:=Lib.hid hp1
        have HJ2:=Lib.hid hj1
        have HK2:=Lib.hid (HK1.out.trans hk1)
        clear hp1 hj1 hk1 hb1 HP1 HJ1 HK1
        go_wp2_with fail
        refine (hit2.out w1 _ HP2.out HJ2.out HK2.out).mono ?_
        rintro e w2 ⟨rfl,hp3,hj3,hk3⟩
        rw [List.append_assoc,List.append_assoc,← List.append_assoc (F k),← HF.out k HK'.out] at hp3
        have HP3:=Lib.hid hp3
        have HJ3:=Lib.hid hj3
        have HK3:=Lib.hid (HK2.out.trans hk3)
        clear hp3 hj3 hk3 HP2 HJ2 HK2
        go_wp2_with fail
        exact ⟨⟨k+1,by omega,by go_num,HP3,HJ3,HK3⟩,by simp [intOf];omega⟩
      · have HLG:=Lib.hid hlong
        obtain ⟨r,hr⟩:=text_on (l:=l) HF.out (Nat.le_of_lt HK'.out)
        rw [HN.out] at hr
        have HR2:=Lib.hid hr
        clear hlong hr
        go_wp2
        first | go_end0 | refine bodyPost_ret (results_none rfl _ _ _) rfl ?_
        have hb:=(Below.refl wr.heap.size wr).alloc (Nat.le_refl _) (.cells #[.int .i64 x.k,.string x.nm,.slice x.q1 x.n1 x.c1,.slice x.q2 x.n2 x.c2] 57)
        refine ⟨rfl,?_,HKr.out.alloc HPr.out.low _⟩
        rw [HR2.out,← List.append_assoc]
        exact (HPr.out.long HW.out hla HLG.out r).all HC.out hb
    · obtain rfl:k=n:=by omega
      go_wp2
      first | go_end0 | refine bodyPost_ret (results_none rfl _ _ _) rfl ?_
      exact ⟨rfl,HPr.out,HKr.out⟩
end
end Go.Proofs.YtpcniebkabkikaaGreatDoor
namespace Go.Proofs.YtpcniebkabkikaaGreatDoor
open Go Go.RowKit Go.Proofs.Mm
section
variable {C:Cl} {B b:Nat} {vp:Value} {t:List Nat} {W:World}
set_option maxRecDepth 100000 in
theorem apartSt_p (w:World):Calls Tryz.prog 204 #[] w fun e w'=>e=.returned (.tuple #[])∧w=w':=by
  go_enter Tryz.func204,Tryz.ntmps204
  first | (go_wp2;go_end0) | go_end0
  exact ⟨rfl,rfl⟩
set_option maxRecDepth 100000 in
set_option maxHeartbeats 1000000 in
theorem linesSt_p (hc:PC C B) (h:PI C B b vp t W) {q:Option Addr} {c:Nat} (l:List StV) (hl:l.length≤9223372036854775807) (hrow:∀ j (hj:j<l.length),∃ g o,q=some ⟨g,o,none⟩∧C ⟨g,o+j * 4,none⟩=some (.int .i64 l[j].k)∧C ⟨g,o+j * 4+1,none⟩=some (.string l[j].nm)∧C ⟨g,o+j * 4+2,none⟩=some (.slice l[j].q1 l[j].n1 l[j].c1)∧C ⟨g,o+j * 4+3,none⟩=some (.slice l[j].q2 l[j].n2 l[j].c2))
    {Ki:Nat} {fi ci:Array Value} (ei:∀ args w,(callFunc Ki args).run Tryz.prog w=.ok (.enter Ki args) w)
    {J:Nat→World→Prop} {S:Nat→Prop} (hS:∀ i,S i→i<W.heap.size) {F I:Nat→List Nat} (hF0:F 0=[]) (hF:∀ k,k<l.length→F (k+1)=F k++[]++I k) (h0:J 0 W)
    (hJ:∀ k wr w',J k wr→Below wr.heap.size wr w'→J k w')
    (hit:∀ k (hk:k<l.length) x wr t',l[k]=x→PI C B b vp t' wr→J k wr→Kp B S W wr→Calls Tryz.prog Ki (fi++#[.agg #[.int .i64 x.k,.string x.nm,.slice x.q1 x.n1 x.c1,.slice x.q2 x.n2 x.c2]]++ci) wr fun e w'=>e=.returned (.tuple #[])∧PI C B b vp (t'++I k) w'∧J (k+1) w'∧Kp B S wr w') :
    Calls Tryz.prog 164 #[.pointer (some ⟨b,0,none⟩),.func (.func Ki) fi ci,.slice q l.length c] W fun e w'=>e=.returned (.tuple #[])∧PI C B b vp (t++F l.length) w'∧Kp B S W w':=by
  have HX:=Lib.hid (eachSt_p hc h (c:=c) l hl hrow (Ka:=204) (ca:=#[]) (enters_of Tryz.func204 (by kernel_rfl) rfl) ei (J':=J) hS hF0 hF h0 hJ
    (fun k wr t' _ hp hj _=>(apartSt_p wr).mono fun e w' ⟨he,hw⟩=>by subst hw;exact ⟨he,by rw [List.append_nil];exact hp,hj,Kp.refl _ _ _⟩) hit)
  obtain ⟨n,hn⟩:∃ n,l.length=n:=⟨_,rfl⟩
  rw [hn] at HX ⊢
  clear hrow hit hn h hc hl hF hF0 h0 hJ hS
  go_enter Tryz.func164,Tryz.ntmps164
  go_wp2_with fail
  go_at_call 203
  refine HX.out.mono ?_
  rintro e w2 ⟨rfl,hp2,hk2⟩
  go_wp2_with fail
  first | go_end0 | refine bodyPost_ret (results_none rfl _ _ _) rfl ?_
  exact ⟨rfl,hp2,hk2⟩
end
end Go.Proofs.YtpcniebkabkikaaGreatDoor
namespace Go.Proofs.YtpcniebkabkikaaGreatDoor
open Go Go.RowKit Go.Proofs.Mm
section
variable {C:Cl} {B b:Nat} {vp:Value} {t:List Nat} {W:World}
set_option maxRecDepth 100000 in
set_option maxHeartbeats 1000000 in
theorem stmt_none (hc:PC C B) (h:PI C B b vp t W) (s:StZ) (hk:s.kind<1 ∨ 9<s.kind) {q1 q2:Option Addr} (c1 c2:Nat) (dp:Int) :
    Calls Tryz.prog 166 #[.pointer (some ⟨b,0,none⟩),.int .i64 dp,sv s q1 c1 q2 c2] W (Wrote C B b vp W t):=by
  have HP:=Lib.hid (h.alloc hc (so s q1 c1 q2 c2))
  have HK:=Lib.hid ((Kp.refl B (fun k=>k=b) W).alloc h.low (so s q1 c1 q2 c2))
  unfold so at HP HK
  unfold sv
  clear h hc
  by_cases h1:s.kind<1
  · clear hk
    generalize s.kind=k at *
    go_enter Tryz.func166,Tryz.ntmps166
    go_wp2
    first | go_end0 | refine bodyPost_ret (results_none rfl _ _ _) rfl ?_
    exact ⟨rfl,HP.out,HK.out⟩
  · have h2:9<s.kind:=by omega
    clear hk
    generalize s.kind=k at *
    go_enter Tryz.func166,Tryz.ntmps166
    go_wp2
    first | go_end0 | refine bodyPost_ret (results_none rfl _ _ _) rfl ?_
    exact ⟨rfl,HP.out,HK.out⟩
theorem stmt_p (hc:PC C B) (h:PI C B b vp t W) (s:StZ) {q1 q2:Option Addr} (c1 c2:Nat) (hs:SR C s q1 q2) (dp:Int) (hd:dp≤70368744177663) :
    Calls Tryz.prog 166 #[.pointer (some ⟨b,0,none⟩),.int .i64 dp,sv s q1 c1 q2 c2] W (Wrote C B b vp W (t++stZ dp s)):=by
  by_cases hk:s.kind<1 ∨ 9<s.kind
  · have:stZ dp s=[]:=if_pos hk
    rw [this,List.append_nil]
    exact stmt_none hc h s hk c1 c2 dp
  · have:stZ dp s=List.replicate (2 * dp.toNat) 32++(lineZ s++[10]):=if_neg hk
    rw [this]
    have hdp:max dp 0=(dp.toNat:Int):=by omega
    have hn:dp.toNat≤70368744177663:=by omega
    have h9:s.kind=1 ∨ s.kind=2 ∨ s.kind=3 ∨ s.kind=4 ∨ s.kind=5 ∨ s.kind=6 ∨ s.kind=7 ∨ s.kind=8 ∨ s.kind=9:=by omega
    rcases h9 with e | e | e | e | e | e | e | e | e
    · exact stmt_1 hc h s e c1 c2 hs dp _ hdp hn
    · exact stmt_2 hc h s e c1 c2 hs dp _ hdp hn
    · exact stmt_3 hc h s e c1 c2 hs dp _ hdp hn
    · exact stmt_4 hc h s e c1 c2 hs dp _ hdp hn
    · exact stmt_5 hc h s e c1 c2 hs dp _ hdp hn
    · exact stmt_6 hc h s e c1 c2 hs dp _ hdp hn
    · exact stmt_7 hc h s e c1 c2 hs dp _ hdp hn
    · exact stmt_8 hc h s e c1 c2 hs dp _ hdp hn
    · exact stmt_9 hc h s e c1 c2 hs dp _ hdp hn
structure BdS (b g:Nat) (dp:Int) (w:World):Prop where
  c0:w.heap[g]?=some (.cells #[.pointer (some ⟨b,0,none⟩)] 75 (0,0))
  c1:w.heap[g+1]?=some (.cells #[.int .i64 dp] 3 (0,0))
theorem BdS.keep {g:Nat} {dp:Int} {w w':World} (h:BdS b g dp w) (hb:Below w.heap.size w w'):BdS b g dp w':=⟨(hb.block _ (heap_lt h.c0)).trans h.c0,(hb.block _ (heap_lt h.c1)).trans h.c1⟩
theorem BdS.kp {g:Nat} {dp:Int} {w w':World} (h:BdS b g dp w) (hb:Kp B (fun k=>k=b) w w') (hn:b<g):BdS b g dp w':=⟨hb.heap h.c0 (by omega) (by decide),hb.heap h.c1 (by omega) (by decide)⟩
def bdC (g:Nat):Array Value:=#[.pointer (some ⟨g,0,none⟩),.pointer (some ⟨g+1,0,none⟩)]
theorem BdS.set (hc:PC C B) {g:Nat} {dp dp':Int} {w1:World} {t':List Nat} (h:BdS b g dp w1) (hp:PI C B b vp t' w1) (hg:b<g) :
    PI C B b vp t' (w1.setCell ⟨g+1,0,none⟩ (.int .i64 dp'))∧BdS b g dp' (w1.setCell ⟨g+1,0,none⟩ (.int .i64 dp'))∧Kp B (fun k=>k=b ∨ k=g+1) w1 (w1.setCell ⟨g+1,0,none⟩ (.int .i64 dp')):=by
  have hlow:B≤b:=by obtain ⟨_,_,hw,_⟩:=hp.wr;exact hw.low
  have hk3:Kp B (fun k=>k=b ∨ k=g+1) w1 (w1.setCell ⟨g+1,0,none⟩ (.int .i64 dp')):=(Kp.refl B (fun k=>k=b ∨ k=g+1) w1).setAt (g:=g+1) (.inl (.inr rfl)) (by omega) _ _
  refine ⟨hp.next hc hk3 ?_,⟨heap_other h.c0 (by omega),heap_set h.c1 0 _⟩,hk3⟩
  obtain ⟨lg,acc,hw,hl,hx⟩:=hp.wr
  obtain ⟨h1,a,v,h2,h3,h4,h5⟩:=hw
  refine ⟨lg,acc,⟨h1,a,v,heap_other h2 (by omega),h3,ownF_keep h4 (fun k o hk hv=>heap_other hk (fun e=>?_)),h5⟩,hl,hx⟩
  subst e
  obtain ⟨c,fz,hcc⟩:=Lib.ownsRowF_kind h4 _ hv
  have:=h.c1.symm.trans hcc
  simp at this
end
end Go.Proofs.YtpcniebkabkikaaGreatDoor
namespace Go.Proofs.YtpcniebkabkikaaGreatDoor
open Go Go.RowKit Go.Proofs.Mm
section
variable {C:Cl} {B b:Nat} {vp:Value} {t:List Nat} {W:World}
set_option maxRecDepth 100000 in
set_option maxHeartbeats 2000000 in
theorem bd1_5 (hc:PC C B) (h:PI C B b vp t W) (s:StZ) (hk:s.kind=5) {q1 q2:Option Addr} (c1 c2:Nat) (hs:SR C s q1 q2) (dp:Int) (hd:dp≤70368744177660) (hd2:-70368744177660≤dp) {g:Nat} (hg:b<g) (hb:BdS b g dp W) :
    Calls Tryz.prog 165 (#[sv s q1 c1 q2 c2]++bdC g) W fun e w'=>e=.returned (.tuple #[])∧PI C B b vp (t++stZ dp s) w'∧BdS b g (dp+1) w'∧Kp B (fun k=>k=b ∨ k=g+1) W w':=by
  have hne:W.heap.size ≠ b:=by have:=h.b_lt;omega
  have hP1:=h.alloc hc (so s q1 c1 q2 c2)
  have HK1:=Lib.hid ((Kp.refl B (fun k=>k=b ∨ k=g+1) W).alloc h.low (so s q1 c1 q2 c2))
  have HX1:=Lib.hid (World.alloc_heap_new W (so s q1 c1 q2 c2))
  have HB1:=Lib.hid (hb.keep ((Below.refl _ _).alloc (Nat.le_refl _) (so s q1 c1 q2 c2)))
  have HC:=Lib.hid hc
  have HS:=Lib.hid hs
  have HP1:=Lib.hid hP1
  have HKK:=Lib.hid hk
  clear h hc hs hb hP1 hk
  have HSB:=Lib.hid (fun w (hp:PI C B b vp t w)=>stmt_p HC.out hp s c1 c2 HS.out dp (by omega))
  unfold sv at HSB ⊢
  unfold so at *
  unfold bdC
  rw [HKK.out] at HP1 HK1 HX1 HB1 HSB ⊢
  go_enter Tryz.func165,Tryz.ntmps165
  go_upto_region 1 with fail
  generalize (W.alloc _:World)=w1 at *
  have e0:=cell_of HB1.out.c0 (j:=0) rfl
  have e1:=cell_of HB1.out.c1 (j:=0) rfl
  have f1:=free_of HB1.out.c1 (j:=0)
  have d0:=cell_of HX1.out (j:=0) rfl
  have d1:=cell_of HX1.out (j:=1) rfl
  have d2:=cell_of HX1.out (j:=2) rfl
  have d3:=cell_of HX1.out (j:=3) rfl
  go_wp2_with fail
  go_at_call 166
  refine (HSB.out _ HP1.out).mono ?_
  rintro e w2 ⟨rfl,hp2,hk2⟩
  have hb2:=HB1.out.kp hk2 hg
  have x1:=cell_of hb2.c1 (j:=0) rfl
  have g1:=free_of hb2.c1 (j:=0)
  have HSET:=Lib.hid (hb2.set (dp':=dp+1) HC.out hp2 hg)
  have HK2:=Lib.hid (HK1.out.trans (hk2.mono (S':=fun k=>k=b ∨ k=g+1) (fun i e=>.inl (.inl e))))
  clear hp2 hk2 hb2
  go_wp2_with fail
  first | go_end0 | refine bodyPost_ret (results_none rfl _ _ _) rfl ?_
  exact ⟨rfl,HSET.out.1,HSET.out.2.1,HK2.out.trans HSET.out.2.2⟩
end
end Go.Proofs.YtpcniebkabkikaaGreatDoor
namespace Go.Proofs.YtpcniebkabkikaaGreatDoor
open Go Go.RowKit Go.Proofs.Mm
section
variable {C:Cl} {B b:Nat} {vp:Value} {t:List Nat} {W:World}
set_option maxRecDepth 100000 in
set_option maxHeartbeats 2000000 in
theorem bd1_6 (hc:PC C B) (h:PI C B b vp t W) (s:StZ) (hk:s.kind=6) {q1 q2:Option Addr} (c1 c2:Nat) (hs:SR C s q1 q2) (dp:Int) (hd:dp≤70368744177660) (hd2:-70368744177660≤dp) {g:Nat} (hg:b<g) (hb:BdS b g dp W) :
    Calls Tryz.prog 165 (#[sv s q1 c1 q2 c2]++bdC g) W fun e w'=>e=.returned (.tuple #[])∧PI C B b vp (t++stZ (dp - 1) s) w'∧BdS b g dp w'∧Kp B (fun k=>k=b ∨ k=g+1) W w':=by
  have hne:W.heap.size ≠ b:=by have:=h.b_lt;omega
  have hP1:=h.alloc hc (so s q1 c1 q2 c2)
  have HK1:=Lib.hid ((Kp.refl B (fun k=>k=b ∨ k=g+1) W).alloc h.low (so s q1 c1 q2 c2))
  have HX1:=Lib.hid (World.alloc_heap_new W (so s q1 c1 q2 c2))
  have HB1:=Lib.hid (hb.keep ((Below.refl _ _).alloc (Nat.le_refl _) (so s q1 c1 q2 c2)))
  have HC:=Lib.hid hc
  have HS:=Lib.hid hs
  have HP1:=Lib.hid hP1
  have HKK:=Lib.hid hk
  clear h hc hs hb hP1 hk
  have HSB:=Lib.hid (fun w (hp:PI C B b vp t w)=>stmt_p HC.out hp s c1 c2 HS.out (dp - 1) (by omega))
  unfold sv at HSB ⊢
  unfold so at *
  unfold bdC
  rw [HKK.out] at HP1 HK1 HX1 HB1 HSB ⊢
  go_enter Tryz.func165,Tryz.ntmps165
  go_upto_region 1 with fail
  generalize (W.alloc _:World)=w1 at *
  have e0:=cell_of HB1.out.c0 (j:=0) rfl
  have e1:=cell_of HB1.out.c1 (j:=0) rfl
  have f1:=free_of HB1.out.c1 (j:=0)
  have d0:=cell_of HX1.out (j:=0) rfl
  have d1:=cell_of HX1.out (j:=1) rfl
  have d2:=cell_of HX1.out (j:=2) rfl
  have d3:=cell_of HX1.out (j:=3) rfl
  go_wp2_with fail
  go_at_call 166
  refine (HSB.out _ HP1.out).mono ?_
  rintro e w2 ⟨rfl,hp2,hk2⟩
  have hb2:=HB1.out.kp hk2 hg
  have hk3:=HK1.out.trans (hk2.mono (S':=fun k=>k=b ∨ k=g+1) (fun i e=>.inl (.inl e)))
  go_wp2_with fail
  first | go_end0 | refine bodyPost_ret (results_none rfl _ _ _) rfl ?_
  exact ⟨rfl,hp2,hb2,hk3⟩
end
end Go.Proofs.YtpcniebkabkikaaGreatDoor
namespace Go.Proofs.YtpcniebkabkikaaGreatDoor
open Go Go.RowKit Go.Proofs.Mm
section
variable {C:Cl} {B b:Nat} {vp:Value} {t:List Nat} {W:World}
set_option maxRecDepth 100000 in
set_option maxHeartbeats 2000000 in
theorem bd1_7 (hc:PC C B) (h:PI C B b vp t W) (s:StZ) (hk:s.kind=7) {q1 q2:Option Addr} (c1 c2:Nat) (hs:SR C s q1 q2) (dp:Int) (hd:dp≤70368744177660) (hd2:-70368744177660≤dp) {g:Nat} (hg:b<g) (hb:BdS b g dp W) :
    Calls Tryz.prog 165 (#[sv s q1 c1 q2 c2]++bdC g) W fun e w'=>e=.returned (.tuple #[])∧PI C B b vp (t++stZ dp s) w'∧BdS b g (dp+1) w'∧Kp B (fun k=>k=b ∨ k=g+1) W w':=by
  have hne:W.heap.size ≠ b:=by have:=h.b_lt;omega
  have hP1:=h.alloc hc (so s q1 c1 q2 c2)
  have HK1:=Lib.hid ((Kp.refl B (fun k=>k=b ∨ k=g+1) W).alloc h.low (so s q1 c1 q2 c2))
  have HX1:=Lib.hid (World.alloc_heap_new W (so s q1 c1 q2 c2))
  have HB1:=Lib.hid (hb.keep ((Below.refl _ _).alloc (Nat.le_refl _) (so s q1 c1 q2 c2)))
  have HC:=Lib.hid hc
  have HS:=Lib.hid hs
  have HP1:=Lib.hid hP1
  have HKK:=Lib.hid hk
  clear h hc hs hb hP1 hk
  have HSB:=Lib.hid (fun w (hp:PI C B b vp t w)=>stmt_p HC.out hp s c1 c2 HS.out dp (by omega))
  unfold sv at HSB ⊢
  unfold so at *
  unfold bdC
  rw [HKK.out] at HP1 HK1 HX1 HB1 HSB ⊢
  go_enter Tryz.func165,Tryz.ntmps165
  go_upto_region 1 with fail
  generalize (W.alloc _:World)=w1 at *
  have e0:=cell_of HB1.out.c0 (j:=0) rfl
  have e1:=cell_of HB1.out.c1 (j:=0) rfl
  have f1:=free_of HB1.out.c1 (j:=0)
  have d0:=cell_of HX1.out (j:=0) rfl
  have d1:=cell_of HX1.out (j:=1) rfl
  have d2:=cell_of HX1.out (j:=2) rfl
  have d3:=cell_of HX1.out (j:=3) rfl
  go_wp2_with fail
  go_at_call 166
  refine (HSB.out _ HP1.out).mono ?_
  rintro e w2 ⟨rfl,hp2,hk2⟩
  have hb2:=HB1.out.kp hk2 hg
  have x1:=cell_of hb2.c1 (j:=0) rfl
  have g1:=free_of hb2.c1 (j:=0)
  have HSET:=Lib.hid (hb2.set (dp':=dp+1) HC.out hp2 hg)
  have HK2:=Lib.hid (HK1.out.trans (hk2.mono (S':=fun k=>k=b ∨ k=g+1) (fun i e=>.inl (.inl e))))
  clear hp2 hk2 hb2
  go_wp2_with fail
  first | go_end0 | refine bodyPost_ret (results_none rfl _ _ _) rfl ?_
  exact ⟨rfl,HSET.out.1,HSET.out.2.1,HK2.out.trans HSET.out.2.2⟩
end
end Go.Proofs.YtpcniebkabkikaaGreatDoor
namespace Go.Proofs.YtpcniebkabkikaaGreatDoor
open Go Go.RowKit Go.Proofs.Mm
section
variable {C:Cl} {B b:Nat} {vp:Value} {t:List Nat} {W:World}
set_option maxRecDepth 100000 in
set_option maxHeartbeats 2000000 in
theorem bd1_8 (hc:PC C B) (h:PI C B b vp t W) (s:StZ) (hk:s.kind=8) {q1 q2:Option Addr} (c1 c2:Nat) (hs:SR C s q1 q2) (dp:Int) (hd:dp≤70368744177660) (hd2:-70368744177660≤dp) {g:Nat} (hg:b<g) (hb:BdS b g dp W) :
    Calls Tryz.prog 165 (#[sv s q1 c1 q2 c2]++bdC g) W fun e w'=>e=.returned (.tuple #[])∧PI C B b vp (t++stZ (dp - 1) s) w'∧BdS b g (dp - 1) w'∧Kp B (fun k=>k=b ∨ k=g+1) W w':=by
  have hne:W.heap.size ≠ b:=by have:=h.b_lt;omega
  have hP1:=h.alloc hc (so s q1 c1 q2 c2)
  have HK1:=Lib.hid ((Kp.refl B (fun k=>k=b ∨ k=g+1) W).alloc h.low (so s q1 c1 q2 c2))
  have HX1:=Lib.hid (World.alloc_heap_new W (so s q1 c1 q2 c2))
  have HB1:=Lib.hid (hb.keep ((Below.refl _ _).alloc (Nat.le_refl _) (so s q1 c1 q2 c2)))
  have hlt:g+1<W.heap.size:=heap_lt hb.c1
  have HC:=Lib.hid hc
  have HS:=Lib.hid hs
  have HP1:=Lib.hid hP1
  have HKK:=Lib.hid hk
  clear h hc hs hb hP1 hk
  have HSB:=Lib.hid (fun w (hp:PI C B b vp t w)=>stmt_p HC.out hp s c1 c2 HS.out (dp - 1) (by omega))
  unfold sv at HSB ⊢
  unfold so at *
  unfold bdC
  rw [HKK.out] at HP1 HK1 HX1 HB1 HSB ⊢
  go_enter Tryz.func165,Tryz.ntmps165
  go_upto_region 1 with fail
  generalize (W.alloc _:World)=w1 at *
  have e0:=cell_of HB1.out.c0 (j:=0) rfl
  have e1:=cell_of HB1.out.c1 (j:=0) rfl
  have f1:=free_of HB1.out.c1 (j:=0)
  have d0:=cell_of HX1.out (j:=0) rfl
  have d1:=cell_of HX1.out (j:=1) rfl
  have d2:=cell_of HX1.out (j:=2) rfl
  have d3:=cell_of HX1.out (j:=3) rfl
  have HSET:=Lib.hid (HB1.out.set (dp':=dp - 1) HC.out HP1.out hg)
  have HX2:=Lib.hid (heap_other HX1.out (show W.heap.size ≠ g+1 from by have:=heap_lt HX1.out;have:=hlt;omega) (v:=.int .i64 (dp - 1)) (j:=0))
  have x0:=cell_of HSET.out.2.1.c0 (j:=0) rfl
  have x1:=cell_of HSET.out.2.1.c1 (j:=0) rfl
  have y0:=cell_of HX2.out (j:=0) rfl
  have y1:=cell_of HX2.out (j:=1) rfl
  have y2:=cell_of HX2.out (j:=2) rfl
  have y3:=cell_of HX2.out (j:=3) rfl
  go_wp2_with fail
  go_at_call 166
  refine (HSB.out _ HSET.out.1).mono ?_
  rintro e w2 ⟨rfl,hp2,hk2⟩
  have hb2:=HSET.out.2.1.kp hk2 hg
  have hk3:=(HK1.out.trans HSET.out.2.2).trans (hk2.mono (S':=fun k=>k=b ∨ k=g+1) (fun i e=>.inl (.inl e)))
  go_wp2_with fail
  first | go_end0 | refine bodyPost_ret (results_none rfl _ _ _) rfl ?_
  exact ⟨rfl,hp2,hb2,hk3⟩
end
end Go.Proofs.YtpcniebkabkikaaGreatDoor
namespace Go.Proofs.YtpcniebkabkikaaGreatDoor
open Go Go.RowKit Go.Proofs.Mm
section
variable {C:Cl} {B b:Nat} {vp:Value} {t:List Nat} {W:World}
set_option maxRecDepth 100000 in
set_option maxHeartbeats 2000000 in
theorem bd1_0 (hc:PC C B) (h:PI C B b vp t W) (s:StZ) (hk:s.kind ≠ 5∧s.kind ≠ 6∧s.kind ≠ 7∧s.kind ≠ 8) {q1 q2:Option Addr} (c1 c2:Nat) (hs:SR C s q1 q2) (dp:Int) (hd:dp≤70368744177660) (hd2:-70368744177660≤dp) {g:Nat} (hg:b<g) (hb:BdS b g dp W) :
    Calls Tryz.prog 165 (#[sv s q1 c1 q2 c2]++bdC g) W fun e w'=>e=.returned (.tuple #[])∧PI C B b vp (t++stZ dp s) w'∧BdS b g dp w'∧Kp B (fun k=>k=b ∨ k=g+1) W w':=by
  have hne:W.heap.size ≠ b:=by have:=h.b_lt;omega
  have hP1:=h.alloc hc (so s q1 c1 q2 c2)
  have HK1:=Lib.hid ((Kp.refl B (fun k=>k=b ∨ k=g+1) W).alloc h.low (so s q1 c1 q2 c2))
  have HX1:=Lib.hid (World.alloc_heap_new W (so s q1 c1 q2 c2))
  have HB1:=Lib.hid (hb.keep ((Below.refl _ _).alloc (Nat.le_refl _) (so s q1 c1 q2 c2)))
  have HC:=Lib.hid hc
  have HS:=Lib.hid hs
  have HP1:=Lib.hid hP1
  have HKK:=Lib.hid hk
  have n5:(s.kind == 5)=false:=by simpa using hk.1
  have n6:(s.kind == 6)=false:=by simpa using hk.2.1
  have n7:(s.kind == 7)=false:=by simpa using hk.2.2.1
  have n8:(s.kind == 8)=false:=by simpa using hk.2.2.2
  clear h hc hs hb hP1 hk
  have HSB:=Lib.hid (fun w (hp:PI C B b vp t w)=>stmt_p HC.out hp s c1 c2 HS.out dp (by omega))
  unfold sv at HSB ⊢
  unfold so at *
  unfold bdC
  go_enter Tryz.func165,Tryz.ntmps165
  go_upto_region 1 with fail
  generalize (W.alloc _:World)=w1 at *
  have e0:=cell_of HB1.out.c0 (j:=0) rfl
  have e1:=cell_of HB1.out.c1 (j:=0) rfl
  have f1:=free_of HB1.out.c1 (j:=0)
  have d0:=cell_of HX1.out (j:=0) rfl
  have d1:=cell_of HX1.out (j:=1) rfl
  have d2:=cell_of HX1.out (j:=2) rfl
  have d3:=cell_of HX1.out (j:=3) rfl
  go_wp2_with fail
  go_at_call 166
  refine (HSB.out _ HP1.out).mono ?_
  rintro e w2 ⟨rfl,hp2,hk2⟩
  have hb2:=HB1.out.kp hk2 hg
  have hk3:=HK1.out.trans (hk2.mono (S':=fun k=>k=b ∨ k=g+1) (fun i e=>.inl (.inl e)))
  go_wp2_with fail
  first | go_end0 | refine bodyPost_ret (results_none rfl _ _ _) rfl ?_
  exact ⟨rfl,hp2,hb2,hk3⟩
end
end Go.Proofs.YtpcniebkabkikaaGreatDoor
namespace Go.Proofs.YtpcniebkabkikaaGreatDoor
open Go Go.RowKit Go.Proofs.Mm
section
variable {C:Cl} {B b:Nat} {vp:Value} {t:List Nat} {W:World}
set_option maxRecDepth 100000 in
set_option maxHeartbeats 2000000 in
theorem eachLa_p (hc:PC C B) (h:PI C B b vp t W) {q:Option Addr} {c:Nat} (l:List Nat) (hl:l.length≤9223372036854775807) (hrow:∀ j (hj:j<l.length),∃ g o,q=some ⟨g,o,none⟩∧C ⟨g,o+j,none⟩=some (.int .u64 (l[j]:Nat)))
    {Ka Ki:Nat} {ca fi ci:Array Value} (ea:∀ args w,(callFunc Ka args).run Tryz.prog w=.ok (.enter Ka args) w) (ei:∀ args w,(callFunc Ki args).run Tryz.prog w=.ok (.enter Ki args) w)
    {J J':Nat→World→Prop} {S:Nat→Prop} (hS:∀ i,S i→i<W.heap.size) {F A I:Nat→List Nat} (hF0:F 0=[]) (hF:∀ k,k<l.length→F (k+1)=F k++A k++I k) (h0:J 0 W)
    (hJ:∀ k wr w',J k wr→Below wr.heap.size wr w'→J k w')
    (hap:∀ k wr t',k<l.length→PI C B b vp t' wr→J k wr→Kp B S W wr→Calls Tryz.prog Ka ca wr fun e w'=>e=.returned (.tuple #[])∧PI C B b vp (t'++A k) w'∧J' k w'∧Kp B S wr w')
    (hit:∀ k (hk:k<l.length) x wr t',l[k]=x→PI C B b vp t' wr→J' k wr→Kp B S W wr→Calls Tryz.prog Ki (fi++#[.int .u64 (x:Nat)]++ci) wr fun e w'=>e=.returned (.tuple #[])∧PI C B b vp (t'++I k) w'∧J (k+1) w'∧Kp B S wr w') :
    Calls Tryz.prog 163 #[.pointer (some ⟨b,0,none⟩),.func (.func Ka) #[] ca,.func (.func Ki) fi ci,.slice q l.length c] W fun e w'=>e=.returned (.tuple #[])∧PI C B b vp (t++F l.length) w'∧Kp B S W w':=by
  have HC:=Lib.hid hc
  have HP:=Lib.hid h
  have HR:=Lib.hid hrow
  have HS:=Lib.hid hS
  have HF:=Lib.hid hF
  have HF0:=Lib.hid hF0
  have HJ0:=Lib.hid h0
  have HJ:=Lib.hid hJ
  have HAP:=Lib.hid hap
  have HIT:=Lib.hid hit
  obtain ⟨n,hn⟩:∃ n,l.length=n:=⟨_,rfl⟩
  have HN:=Lib.hid hn
  rw [hn] at hl ⊢
  clear h hrow hS hF hF0 h0 hJ hap hit hn hc
  go_enter Tryz.func163,Tryz.ntmps163
  go_wp2
  go_loopw [12] (fun i wr=>∃ k:Nat,k≤n∧i=.int .i64 k∧Hid (PI C B b vp (t++F k) wr)∧Hid (J k wr)∧Hid (Kp B S W wr)) (fun i _=>n - (intOf i).toNat)
  case atStart=>exact ⟨0,Nat.zero_le _,rfl,Lib.hid (by rw [HF0.out,List.append_nil];exact HP.out),HJ0,Lib.hid (Kp.refl _ _ _)⟩
  case round =>
    obtain ⟨k,hk,rfl,HPr,HJr,HKr⟩:=hrel
    by_cases hlt:k<n
    · have hk':k<l.length:=by rw [HN.out];exact hlt
      obtain ⟨x,hx,g,o,rfl,a0⟩:∃ x,l[k]=x∧∃ g o,q=some ⟨g,o,none⟩∧C ⟨g,o+k,none⟩=some (.int .u64 (x:Nat)):=⟨_,rfl,HR.out k hk'⟩
      have HK':=Lib.hid hk'
      have hit1:=Lib.hid (HIT.out k hk')
      have hit2:=Lib.hid (fun wr t'=>hit1.out x wr t' hx)
      have e0:wr.cell? ⟨g,o+k,none⟩=some (.int .u64 (x:Nat)):=HPr.out.rd _ _ a0
      clear a0
      obtain ⟨lg,acc,hw,hla,hx2⟩:=HPr.out.wr
      obtain ⟨c2,_⟩:=hw.raw
      have HW:=Lib.hid hw
      clear hw hk' hx hit1
      have hki:(k:Int)<(n:Int):=by omega
      rcases hx2 with ⟨rfl,hacc⟩ | ⟨rfl,hlong⟩
      · clear hacc
        clear HW
        have HP1:=HPr
        have HJ1:=HJr
        have HK1:=HKr
        clear HPr HJr HKr
        go_wp2_with fail
        refine (HAP.out k wr _ HK'.out HP1.out HJ1.out HK1.out).mono ?_
        rintro e w1 ⟨rfl,hp1,hj1,hk1⟩
        have HP2:=Lib.hid hp1
        have HJ2:=Lib.hid hj1
        have HK2:=Lib.hid (HK1.out.trans hk1)
        clear hp1 hj1 hk1 HP1 HJ1 HK1
        go_wp2_with fail
        refine (hit2.out w1 _ HP2.out HJ2.out HK2.out).mono ?_
        rintro e w2 ⟨rfl,hp3,hj3,hk3⟩
        rw [List.append_assoc,List.append_assoc,← List.append_assoc (F k),← HF.out k HK'.out] at hp3
        have HP3:=Lib.hid hp3
        have HJ3:=Lib.hid hj3
        have HK3:=Lib.hid (HK2.out.trans hk3)
        clear hp3 hj3 hk3 HP2 HJ2 HK2
        go_wp2_with fail
        exact ⟨⟨k+1,by omega,by go_num,HP3,HJ3,HK3⟩,by simp [intOf];omega⟩
      · have HLG:=Lib.hid hlong
        obtain ⟨r,hr⟩:=text_on (l:=l) HF.out (Nat.le_of_lt HK'.out)
        rw [HN.out] at hr
        have HR2:=Lib.hid hr
        clear hlong hr
        go_wp2
        first | go_end0 | refine bodyPost_ret (results_none rfl _ _ _) rfl ?_
        refine ⟨rfl,?_,HKr.out⟩
        rw [HR2.out,← List.append_assoc]
        exact HPr.out.long HW.out hla HLG.out r
    · obtain rfl:k=n:=by omega
      go_wp2
      first | go_end0 | refine bodyPost_ret (results_none rfl _ _ _) rfl ?_
      exact ⟨rfl,HPr.out,HKr.out⟩
end
end Go.Proofs.YtpcniebkabkikaaGreatDoor
namespace Go.Proofs.YtpcniebkabkikaaGreatDoor
open Go Go.RowKit Go.Proofs.Mm
section
variable {C:Cl} {B b:Nat} {vp:Value} {t:List Nat} {W:World}
set_option maxRecDepth 100000 in
set_option maxHeartbeats 1000000 in
theorem sepLa_p (hc:PC C B) (h:PI C B b vp t W) {q:Option Addr} {c:Nat} (l:List Nat) (hl:l.length≤9223372036854775807) (hrow:∀ j (hj:j<l.length),∃ g o,q=some ⟨g,o,none⟩∧C ⟨g,o+j,none⟩=some (.int .u64 (l[j]:Nat)))
    {Ki:Nat} {fi ci:Array Value} (ei:∀ args w,(callFunc Ki args).run Tryz.prog w=.ok (.enter Ki args) w) {f:Nat→List Nat}
    (hit:∀ k (hk:k<l.length) x wr t',l[k]=x→PI C B b vp t' wr→Kp B (fun k=>k=b) W wr→Calls Tryz.prog Ki (fi++#[.int .u64 (x:Nat)]++ci) wr fun e w'=>e=.returned (.tuple #[])∧PI C B b vp (t'++f x) w'∧Kp B (fun k=>k=b) wr w')
    {W1:World} (s:ByteArray) (hs:s.size≤140737488355327) {g:Nat} (hg:g=W.heap.size) (hp:PI C B b vp t W1) (hb:Below W.heap.size W W1) (hst:BtS b g s true W1) (hsz:W1.heap.size=g+3) :
    Calls Tryz.prog 163 #[.pointer (some ⟨b,0,none⟩),.func (.func 104) #[] (btC g),.func (.func Ki) fi ci,.slice q l.length c] W1 fun e w'=>e=.returned (.tuple #[])∧PI C B b vp (t++sepZ (bl s) f l) w'∧Kp B (fun k=>k=b) W w':=by
  subst hg
  have hbW:b<W.heap.size:=by obtain ⟨_,_,hw,_⟩:=h.wr;obtain ⟨_,_,_,hw,_⟩:=hw;exact heap_lt hw
  have hm:∀ {wr:World},Kp B (fun i=>i=b ∨ i=W.heap.size+2) W1 wr→Kp B (fun k=>k=b) W wr:=fun hk=>(Kp.all hb h.low).then hk (fun i e=>by rcases e with e | e <;> omega)
  refine (eachLa_p hc hp l hl hrow (Ka:=104) (ca:=btC W.heap.size) (enters_of Tryz.func104 (by kernel_rfl) rfl) ei (J:=fun k w=>BtS b W.heap.size s (k == 0) w) (J':=fun _ w=>BtS b W.heap.size s false w)
    (S:=fun i=>i=b ∨ i=W.heap.size+2) (fun i e=>by rcases e with e | e <;> omega) (F:=fun k=>sepZ (bl s) f (l.take k)) (A:=fun k=>if (k == 0)=true then [] else bl s) (I:=fun k=>if h:k<l.length then f l[k] else []) (by simp [sepZ]) (fun k hk=>by simp only [hk,dif_pos];exact sepZ_take _ _ _ _ hk) hst
    (fun k wr w' h hb=>h.keep hb)
    (fun k wr t' _ hp hj _=>between1_p hc hp hs hj hbW)
    (fun k hk x wr t' hx hp hj hkp=>(hit k hk x wr t' hx hp (hm hkp)).mono ?_)).mono ?_
  · rintro e w' ⟨rfl,hp',hk'⟩
    refine ⟨rfl,?_,?_,hk'.mono (fun i e=>.inl (.inl e))⟩
    · simp only [hk,dif_pos,hx];exact hp'
    · exact hj.kp hk' hbW
  · rintro e w' ⟨rfl,hp',hk'⟩
    rw [List.take_length] at hp'
    exact ⟨rfl,hp',hm hk'⟩
set_option maxRecDepth 100000 in
set_option maxHeartbeats 1000000 in
theorem listLa_p (hc:PC C B) (h:PI C B b vp t W) {q:Option Addr} {c:Nat} (l:List Nat) (hl:l.length≤9223372036854775807) (hrow:∀ j (hj:j<l.length),∃ g o,q=some ⟨g,o,none⟩∧C ⟨g,o+j,none⟩=some (.int .u64 (l[j]:Nat)))
    {Ki:Nat} {fi ci:Array Value} (ei:∀ args w,(callFunc Ki args).run Tryz.prog w=.ok (.enter Ki args) w) {f:Nat→List Nat}
    (hit:∀ k (hk:k<l.length) x wr t',l[k]=x→PI C B b vp t' wr→Kp B (fun k=>k=b) W wr→Calls Tryz.prog Ki (fi++#[.int .u64 (x:Nat)]++ci) wr fun e w'=>e=.returned (.tuple #[])∧PI C B b vp (t'++f x) w'∧Kp B (fun k=>k=b) wr w') :
    Calls Tryz.prog 117 #[.pointer (some ⟨b,0,none⟩),.func (.func Ki) fi ci,.slice q l.length c] W fun e w'=>e=.returned (.tuple #[])∧PI C B b vp (t++sepZ [44,32] f l) w'∧Kp B (fun k=>k=b) W w':=by
  have hbt:=between_p hc h ⟨#[44,32]⟩
  have HS:=Lib.hid (fun W1=>sepLa_p (W1:=W1) hc h (c:=c) l hl hrow ei hit ⟨#[44,32]⟩ (by decide) rfl)
  obtain ⟨n,hn⟩:∃ n,l.length=n:=⟨_,rfl⟩
  rw [hn] at HS ⊢
  clear hrow hit hn h hc hl
  go_enter Tryz.func117,Tryz.ntmps117
  go_wp2_with (go_at_call 59;refine hbt.mono ?_)
  rintro e w1 ⟨rfl,hp1,hb1,hs1,hz1⟩
  have HX:=Lib.hid (HS.out w1 hp1 hb1 hs1 hz1)
  clear hp1 hb1 hs1 hz1 HS hbt
  unfold btC at HX ⊢
  go_wp2_with fail
  go_at_call 163
  refine HX.out.mono ?_
  rintro e w2 ⟨rfl,hp2,hk2⟩
  go_wp2_with fail
  first | go_end0 | refine bodyPost_ret (results_none rfl _ _ _) rfl ?_
  exact ⟨rfl,hp2,hk2⟩
end
end Go.Proofs.YtpcniebkabkikaaGreatDoor
namespace Go.Proofs.YtpcniebkabkikaaGreatDoor
open Go Go.RowKit Go.Proofs.Mm
structure BdRow (C:Cl) (q:Option Addr) (l:List StZ) (lv:List StV):Prop where
  len:lv.length=l.length
  cells:∀ j (hj:j<lv.length),∃ g o,q=some ⟨g,o,none⟩∧C ⟨g,o+j * 4,none⟩=some (.int .i64 lv[j].k)∧C ⟨g,o+j * 4+1,none⟩=some (.string lv[j].nm)∧C ⟨g,o+j * 4+2,none⟩=some (.slice lv[j].q1 lv[j].n1 lv[j].c1)∧C ⟨g,o+j * 4+3,none⟩=some (.slice lv[j].q2 lv[j].n2 lv[j].c2)
  rd:∀ j (hj:j<lv.length) (hj':j<l.length),∃ q1 c1 q2 c2,lv[j]=⟨l[j].kind,l[j].name,q1,l[j].targets.length,c1,q2,l[j].exprs.length,c2⟩∧SR C l[j] q1 q2
  few:l.length≤2199023255552
def DeRow (C:Cl) (q:Option Addr) (l:List DeZ):Prop:=∀ j (hj:j<l.length),∃ g o,q=some ⟨g,o,none⟩∧C ⟨g,o+j * 2,none⟩=some (.string l[j].name)∧C ⟨g,o+j * 2+1,none⟩=some (.int .u64 (l[j].label:Nat))
def LaRow (C:Cl) (q:Option Addr) (l:List Nat):Prop:=∀ j (hj:j<l.length),∃ g o,q=some ⟨g,o,none⟩∧C ⟨g,o+j,none⟩=some (.int .u64 (l[j]:Nat))
def DeF (d:DeZ):Prop:=d.label<18446744073709551616∧d.name.size≤140737488355327
section
variable {C:Cl} {B b:Nat} {vp:Value} {t:List Nat} {W:World} {ns:List ByteArray}
theorem bd1_p (hc:PC C B) (h:PI C B b vp t W) (s:StZ) {q1 q2:Option Addr} (c1 c2:Nat) (hs:SR C s q1 q2) (dp:Int) (hd:dp≤70368744177660) (hd2:-70368744177660≤dp) {g:Nat} (hg:b<g) (hb:BdS b g dp W) :
    Calls Tryz.prog 165 (#[sv s q1 c1 q2 c2]++bdC g) W fun e w'=>e=.returned (.tuple #[])∧PI C B b vp (t++stZ (dpZ dp s) s) w'∧BdS b g (nxZ dp s) w'∧Kp B (fun k=>k=b ∨ k=g+1) W w':=by
  by_cases h5:s.kind=5
  · have e1:dpZ dp s=dp:=if_neg (by omega)
    have e2:nxZ dp s=dp+1:=if_pos (.inl h5)
    rw [e1,e2];exact bd1_5 hc h s h5 c1 c2 hs dp hd hd2 hg hb
  by_cases h7:s.kind=7
  · have e1:dpZ dp s=dp:=if_neg (by omega)
    have e2:nxZ dp s=dp+1:=if_pos (.inr h7)
    rw [e1,e2];exact bd1_7 hc h s h7 c1 c2 hs dp hd hd2 hg hb
  by_cases h6:s.kind=6
  · have e1:dpZ dp s=dp - 1:=if_pos (.inl h6)
    have e2:nxZ dp s=dp:=by unfold nxZ;rw [if_neg (by omega),if_neg (by omega)]
    rw [e1,e2];exact bd1_6 hc h s h6 c1 c2 hs dp hd hd2 hg hb
  by_cases h8:s.kind=8
  · have e1:dpZ dp s=dp - 1:=if_pos (.inr h8)
    have e2:nxZ dp s=dp - 1:=by unfold nxZ;rw [if_neg (by omega),if_pos h8]
    rw [e1,e2];exact bd1_8 hc h s h8 c1 c2 hs dp hd hd2 hg hb
  · have e1:dpZ dp s=dp:=if_neg (by omega)
    have e2:nxZ dp s=dp:=by unfold nxZ;rw [if_neg (by omega),if_neg h8]
    rw [e1,e2];exact bd1_0 hc h s ⟨h5,h6,h7,h8⟩ c1 c2 hs dp hd hd2 hg hb
set_option maxRecDepth 100000 in
set_option maxHeartbeats 2000000 in
theorem body_p (hc:PC C B) (h:PI C B b vp t W) (l:List StZ) {q:Option Addr} {c:Nat} {lv:List StV} (hr:BdRow C q l lv) :
    Calls Tryz.prog 118 #[.pointer (some ⟨b,0,none⟩),.slice q l.length c] W (Wrote C B b vp W (t++bodyZ 1 l)):=by
  have hbW:=h.b_lt
  have hB2:Below W.heap.size W ((W.alloc (.cells #[.pointer (some ⟨b,0,none⟩)] 75)).alloc (.cells #[.int .i64 1] 3)):=on_alloc ((Below.refl _ _).alloc (Nat.le_refl _) _) _
  have hP2:=h.all hc hB2
  have hS2:BdS b W.heap.size 1 ((W.alloc (.cells #[.pointer (some ⟨b,0,none⟩)] 75)).alloc (.cells #[.int .i64 1] 3)):=⟨heap_new _ _ (World.alloc_heap_new W _),by
    have:=World.alloc_heap_new (W.alloc (.cells #[.pointer (some ⟨b,0,none⟩)] 75)) (.cells #[.int .i64 1] 3)
    rwa [World.size_alloc] at this⟩
  have hlen:=hr.len
  have HL:=Lib.hid (linesSt_p hc hP2 (c:=c) lv (by have:=hr.few;omega) hr.cells (Ki:=165) (fi:=#[]) (ci:=bdC W.heap.size) (enters_of Tryz.func165 (by kernel_rfl) rfl)
    (J:=fun k w=>BdS b W.heap.size (depZ 1 (l.take k)) w) (S:=fun k=>k=b ∨ k=W.heap.size+1) (fun i e=>by simp only [World.size_alloc];omega)
    (F:=fun k=>bodyZ 1 (l.take k)) (I:=fun k=>if h:k<l.length then stZ (dpZ (depZ 1 (l.take k)) l[k]) l[k] else []) rfl
    (fun k hk=>by
      rw [hlen] at hk
      simp only [hk,dif_pos]
      rw [List.take_succ_eq_append_getElem hk,bodyZ_snoc];simp) hS2 (fun _ _ _ h hb=>h.keep hb)
    (fun k hk x wr t' hx hp hj _=>by
      have hk':k<l.length:=by rw [← hlen];exact hk
      obtain ⟨q1,c1,q2,c2,h1,h2⟩:=hr.rd k hk hk'
      rw [hx] at h1
      subst h1
      simp only [hk',dif_pos]
      have hd:=depZ_le (l.take k) 1
      rw [List.length_take] at hd
      have hfew:=hr.few
      have:=bd1_p hc hp l[k] c1 c2 h2 (depZ 1 (l.take k)) (by omega) (by omega) (g:=W.heap.size) hbW hj
      rw [List.take_succ_eq_append_getElem hk',depZ_snoc]
      exact this))
  rw [hlen,List.take_length] at HL
  have HK:=Lib.hid (Kp.all (S:=fun k=>k=b) hB2 h.low)
  clear h hc hr hP2 hS2 hB2 hlen
  generalize l.length=n at *
  unfold bdC at HL
  go_enter Tryz.func118,Tryz.ntmps118
  go_wp2_with fail
  go_at_call 164
  refine HL.out.mono ?_
  rintro e w2 ⟨rfl,hp2,hk2⟩
  go_wp2_with fail
  first | go_end0 | refine bodyPost_ret (results_none rfl _ _ _) rfl ?_
  exact ⟨rfl,hp2,HK.out.then hk2 (fun i e=>by rcases e with e | e <;> omega)⟩
end
end Go.Proofs.YtpcniebkabkikaaGreatDoor
namespace Go.Proofs.YtpcniebkabkikaaGreatDoor
open Go Go.RowKit Go.Proofs.Mm
section
variable {C:Cl} {B b:Nat} {vp:Value} {t:List Nat} {W:World}
set_option maxRecDepth 100000 in
set_option maxHeartbeats 2000000 in
theorem eachAr_p (hc:PC C B) (h:PI C B b vp t W) {q:Option Addr} {c:Nat} (l:List ArZ) (hl:l.length≤9223372036854775807) (hrow:∀ j (hj:j<l.length),∃ g o,q=some ⟨g,o,none⟩∧C ⟨g,o+j * 3,none⟩=some (.string l[j].name)∧C ⟨g,o+j * 3+1,none⟩=some (.int .i64 l[j].len)∧C ⟨g,o+j * 3+2,none⟩=some (.int .u64 (l[j].label:Nat)))
    {Ka Ki:Nat} {ca fi ci:Array Value} (ea:∀ args w,(callFunc Ka args).run Tryz.prog w=.ok (.enter Ka args) w) (ei:∀ args w,(callFunc Ki args).run Tryz.prog w=.ok (.enter Ki args) w)
    {J J':Nat→World→Prop} {S:Nat→Prop} (hS:∀ i,S i→i<W.heap.size) {F A I:Nat→List Nat} (hF0:F 0=[]) (hF:∀ k,k<l.length→F (k+1)=F k++A k++I k) (h0:J 0 W)
    (hJ:∀ k wr w',J k wr→Below wr.heap.size wr w'→J k w')
    (hap:∀ k wr t',k<l.length→PI C B b vp t' wr→J k wr→Kp B S W wr→Calls Tryz.prog Ka ca wr fun e w'=>e=.returned (.tuple #[])∧PI C B b vp (t'++A k) w'∧J' k w'∧Kp B S wr w')
    (hit:∀ k (hk:k<l.length) x wr t',l[k]=x→PI C B b vp t' wr→J' k wr→Kp B S W wr→Calls Tryz.prog Ki (fi++#[.agg #[.string x.name,.int .i64 x.len,.int .u64 (x.label:Nat)]]++ci) wr fun e w'=>e=.returned (.tuple #[])∧PI C B b vp (t'++I k) w'∧J (k+1) w'∧Kp B S wr w') :
    Calls Tryz.prog 109 #[.pointer (some ⟨b,0,none⟩),.func (.func Ka) #[] ca,.func (.func Ki) fi ci,.slice q l.length c] W fun e w'=>e=.returned (.tuple #[])∧PI C B b vp (t++F l.length) w'∧Kp B S W w':=by
  have HC:=Lib.hid hc
  have HP:=Lib.hid h
  have HR:=Lib.hid hrow
  have HS:=Lib.hid hS
  have HF:=Lib.hid hF
  have HF0:=Lib.hid hF0
  have HJ0:=Lib.hid h0
  have HJ:=Lib.hid hJ
  have HAP:=Lib.hid hap
  have HIT:=Lib.hid hit
  obtain ⟨n,hn⟩:∃ n,l.length=n:=⟨_,rfl⟩
  have HN:=Lib.hid hn
  rw [hn] at hl ⊢
  clear h hrow hS hF hF0 h0 hJ hap hit hn hc
  go_enter Tryz.func109,Tryz.ntmps109
  go_wp2
  go_loopw [12] (fun i wr=>∃ k:Nat,k≤n∧i=.int .i64 k∧Hid (PI C B b vp (t++F k) wr)∧Hid (J k wr)∧Hid (Kp B S W wr)) (fun i _=>n - (intOf i).toNat)
  case atStart=>exact ⟨0,Nat.zero_le _,rfl,Lib.hid (by rw [HF0.out,List.append_nil];exact HP.out),HJ0,Lib.hid (Kp.refl _ _ _)⟩
  case round =>
    obtain ⟨k,hk,rfl,HPr,HJr,HKr⟩:=hrel
    by_cases hlt:k<n
    · have hk':k<l.length:=by rw [HN.out];exact hlt
      obtain ⟨x,hx,g,o,rfl,a0,a1,a2⟩:∃ x,l[k]=x∧∃ g o,q=some ⟨g,o,none⟩∧C ⟨g,o+k * 3,none⟩=some (.string x.name)∧C ⟨g,o+k * 3+1,none⟩=some (.int .i64 x.len)∧C ⟨g,o+k * 3+2,none⟩=some (.int .u64 (x.label:Nat)):=⟨_,rfl,HR.out k hk'⟩
      have HK':=Lib.hid hk'
      have hit1:=Lib.hid (HIT.out k hk')
      have hit2:=Lib.hid (fun wr t'=>hit1.out x wr t' hx)
      have e0:wr.cell? ⟨g,o+k * 3,none⟩=some (.string x.name):=HPr.out.rd _ _ a0
      clear a0
      have e1:wr.cell? ⟨g,o+k * 3+1,none⟩=some (.int .i64 x.len):=HPr.out.rd _ _ a1
      clear a1
      have e2:wr.cell? ⟨g,o+k * 3+2,none⟩=some (.int .u64 (x.label:Nat)):=HPr.out.rd _ _ a2
      clear a2
      obtain ⟨lg,acc,hw,hla,hx2⟩:=HPr.out.wr
      obtain ⟨c2,_⟩:=hw.raw
      have c3:=(hw.keep ((Below.refl wr.heap.size wr).alloc (Nat.le_refl _) (.cells #[.string x.name,.int .i64 x.len,.int .u64 (x.label:Nat)] 72))).raw.1
      have HW:=Lib.hid hw
      clear hw hk' hx hit1
      have hki:(k:Int)<(n:Int):=by omega
      rcases hx2 with ⟨rfl,hacc⟩ | ⟨rfl,hlong⟩
      · clear hacc
        have HP1:=Lib.hid (HPr.out.alloc HC.out (.cells #[.string x.name,.int .i64 x.len,.int .u64 (x.label:Nat)] 72))
        have HJ1:=Lib.hid (HJ.out k _ _ HJr.out ((Below.refl _ _).alloc (Nat.le_refl _) (.cells #[.string x.name,.int .i64 x.len,.int .u64 (x.label:Nat)] 72)))
        have HK1:=Lib.hid (HKr.out.alloc HPr.out.low (.cells #[.string x.name,.int .i64 x.len,.int .u64 (x.label:Nat)] 72))
        have HB1:=Lib.hid (World.alloc_heap_new wr (.cells #[.string x.name,.int .i64 x.len,.int .u64 (x.label:Nat)] 72))
        have HL1:=Lib.hid HKr.out.size
        clear HPr HJr HKr HW
        go_wp2_with fail
        generalize (wr.alloc _:World)=w0 at *
        refine (HAP.out k w0 _ HK'.out HP1.out HJ1.out HK1.out).mono ?_
        rintro e w1 ⟨rfl,hp1,hj1,hk1⟩
        have hb1:=hk1.heap HB1.out (fun e=>by have:=HS.out _ e;have:=HL1.out;omega) (by decide)
        have d0:=cell_of (j:=0) hb1 rfl
        have d1:=cell_of (j:=1) hb1 rfl
        have d2:=cell_of (j:=2) hb1 rfl
        have HP2:=Lib.hid hp1
        have HJ2:=Lib.hid hj1
        have HK2:=Lib.hid (HK1.out.trans hk1)
        clear hp1 hj1 hk1 hb1 HP1 HJ1 HK1
        go_wp2_with fail
        refine (hit2.out w1 _ HP2.out HJ2.out HK2.out).mono ?_
        rintro e w2 ⟨rfl,hp3,hj3,hk3⟩
        rw [List.append_assoc,List.append_assoc,← List.append_assoc (F k),← HF.out k HK'.out] at hp3
        have HP3:=Lib.hid hp3
        have HJ3:=Lib.hid hj3
        have HK3:=Lib.hid (HK2.out.trans hk3)
        clear hp3 hj3 hk3 HP2 HJ2 HK2
        go_wp2_with fail
        exact ⟨⟨k+1,by omega,by go_num,HP3,HJ3,HK3⟩,by simp [intOf];omega⟩
      · have HLG:=Lib.hid hlong
        obtain ⟨r,hr⟩:=text_on (l:=l) HF.out (Nat.le_of_lt HK'.out)
        rw [HN.out] at hr
        have HR2:=Lib.hid hr
        clear hlong hr
        go_wp2
        first | go_end0 | refine bodyPost_ret (results_none rfl _ _ _) rfl ?_
        have hb:=(Below.refl wr.heap.size wr).alloc (Nat.le_refl _) (.cells #[.string x.name,.int .i64 x.len,.int .u64 (x.label:Nat)] 72)
        refine ⟨rfl,?_,HKr.out.alloc HPr.out.low _⟩
        rw [HR2.out,← List.append_assoc]
        exact (HPr.out.long HW.out hla HLG.out r).all HC.out hb
    · obtain rfl:k=n:=by omega
      go_wp2
      first | go_end0 | refine bodyPost_ret (results_none rfl _ _ _) rfl ?_
      exact ⟨rfl,HPr.out,HKr.out⟩
end
end Go.Proofs.YtpcniebkabkikaaGreatDoor
namespace Go.Proofs.YtpcniebkabkikaaGreatDoor
open Go Go.RowKit Go.Proofs.Mm
section
variable {C:Cl} {B b:Nat} {vp:Value} {t:List Nat} {W:World}
set_option maxRecDepth 100000 in
theorem apartAr_p (w:World):Calls Tryz.prog 110 #[] w fun e w'=>e=.returned (.tuple #[])∧w=w':=by
  go_enter Tryz.func110,Tryz.ntmps110
  first | (go_wp2;go_end0) | go_end0
  exact ⟨rfl,rfl⟩
set_option maxRecDepth 100000 in
set_option maxHeartbeats 1000000 in
theorem linesAr_p (hc:PC C B) (h:PI C B b vp t W) {q:Option Addr} {c:Nat} (l:List ArZ) (hl:l.length≤9223372036854775807) (hrow:∀ j (hj:j<l.length),∃ g o,q=some ⟨g,o,none⟩∧C ⟨g,o+j * 3,none⟩=some (.string l[j].name)∧C ⟨g,o+j * 3+1,none⟩=some (.int .i64 l[j].len)∧C ⟨g,o+j * 3+2,none⟩=some (.int .u64 (l[j].label:Nat)))
    {Ki:Nat} {fi ci:Array Value} (ei:∀ args w,(callFunc Ki args).run Tryz.prog w=.ok (.enter Ki args) w)
    {J:Nat→World→Prop} {S:Nat→Prop} (hS:∀ i,S i→i<W.heap.size) {F I:Nat→List Nat} (hF0:F 0=[]) (hF:∀ k,k<l.length→F (k+1)=F k++[]++I k) (h0:J 0 W)
    (hJ:∀ k wr w',J k wr→Below wr.heap.size wr w'→J k w')
    (hit:∀ k (hk:k<l.length) x wr t',l[k]=x→PI C B b vp t' wr→J k wr→Kp B S W wr→Calls Tryz.prog Ki (fi++#[.agg #[.string x.name,.int .i64 x.len,.int .u64 (x.label:Nat)]]++ci) wr fun e w'=>e=.returned (.tuple #[])∧PI C B b vp (t'++I k) w'∧J (k+1) w'∧Kp B S wr w') :
    Calls Tryz.prog 62 #[.pointer (some ⟨b,0,none⟩),.func (.func Ki) fi ci,.slice q l.length c] W fun e w'=>e=.returned (.tuple #[])∧PI C B b vp (t++F l.length) w'∧Kp B S W w':=by
  have HX:=Lib.hid (eachAr_p hc h (c:=c) l hl hrow (Ka:=110) (ca:=#[]) (enters_of Tryz.func110 (by kernel_rfl) rfl) ei (J':=J) hS hF0 hF h0 hJ
    (fun k wr t' _ hp hj _=>(apartAr_p wr).mono fun e w' ⟨he,hw⟩=>by subst hw;exact ⟨he,by rw [List.append_nil];exact hp,hj,Kp.refl _ _ _⟩) hit)
  obtain ⟨n,hn⟩:∃ n,l.length=n:=⟨_,rfl⟩
  rw [hn] at HX ⊢
  clear hrow hit hn h hc hl hF hF0 h0 hJ hS
  go_enter Tryz.func62,Tryz.ntmps62
  go_wp2_with fail
  go_at_call 109
  refine HX.out.mono ?_
  rintro e w2 ⟨rfl,hp2,hk2⟩
  go_wp2_with fail
  first | go_end0 | refine bodyPost_ret (results_none rfl _ _ _) rfl ?_
  exact ⟨rfl,hp2,hk2⟩
end
end Go.Proofs.YtpcniebkabkikaaGreatDoor
namespace Go.Proofs.YtpcniebkabkikaaGreatDoor
open Go Go.RowKit Go.Proofs.Mm
section
variable {C:Cl} {B b:Nat} {vp:Value} {t:List Nat} {W:World}
set_option maxRecDepth 100000 in
set_option maxHeartbeats 2000000 in
theorem eachFn_p (hc:PC C B) (h:PI C B b vp t W) {q:Option Addr} {c:Nat} (l:List FnV) (hl:l.length≤9223372036854775807) (hrow:∀ j (hj:j<l.length),∃ g o,q=some ⟨g,o,none⟩∧C ⟨g,o+j * 6,none⟩=some (.string l[j].nm)∧C ⟨g,o+j * 6+1,none⟩=some (.int .u64 (l[j].lv:Nat))∧C ⟨g,o+j * 6+2,none⟩=some (.slice l[j].q1 l[j].n1 l[j].c1)∧C ⟨g,o+j * 6+3,none⟩=some (.slice l[j].q2 l[j].n2 l[j].c2)∧C ⟨g,o+j * 6+4,none⟩=some (.slice l[j].q3 l[j].n3 l[j].c3)∧C ⟨g,o+j * 6+5,none⟩=some (.slice l[j].q4 l[j].n4 l[j].c4))
    {Ka Ki:Nat} {ca fi ci:Array Value} (ea:∀ args w,(callFunc Ka args).run Tryz.prog w=.ok (.enter Ka args) w) (ei:∀ args w,(callFunc Ki args).run Tryz.prog w=.ok (.enter Ki args) w)
    {J J':Nat→World→Prop} {S:Nat→Prop} (hS:∀ i,S i→i<W.heap.size) {F A I:Nat→List Nat} (hF0:F 0=[]) (hF:∀ k,k<l.length→F (k+1)=F k++A k++I k) (h0:J 0 W)
    (hJ:∀ k wr w',J k wr→Below wr.heap.size wr w'→J k w')
    (hap:∀ k wr t',k<l.length→PI C B b vp t' wr→J k wr→Kp B S W wr→Calls Tryz.prog Ka ca wr fun e w'=>e=.returned (.tuple #[])∧PI C B b vp (t'++A k) w'∧J' k w'∧Kp B S wr w')
    (hit:∀ k (hk:k<l.length) x wr t',l[k]=x→PI C B b vp t' wr→J' k wr→Kp B S W wr→Calls Tryz.prog Ki (fi++#[.agg #[.string x.nm,.int .u64 (x.lv:Nat),.slice x.q1 x.n1 x.c1,.slice x.q2 x.n2 x.c2,.slice x.q3 x.n3 x.c3,.slice x.q4 x.n4 x.c4]]++ci) wr fun e w'=>e=.returned (.tuple #[])∧PI C B b vp (t'++I k) w'∧J (k+1) w'∧Kp B S wr w') :
    Calls Tryz.prog 114 #[.pointer (some ⟨b,0,none⟩),.func (.func Ka) #[] ca,.func (.func Ki) fi ci,.slice q l.length c] W fun e w'=>e=.returned (.tuple #[])∧PI C B b vp (t++F l.length) w'∧Kp B S W w':=by
  have HC:=Lib.hid hc
  have HP:=Lib.hid h
  have HR:=Lib.hid hrow
  have HS:=Lib.hid hS
  have HF:=Lib.hid hF
  have HF0:=Lib.hid hF0
  have HJ0:=Lib.hid h0
  have HJ:=Lib.hid hJ
  have HAP:=Lib.hid hap
  have HIT:=Lib.hid hit
  obtain ⟨n,hn⟩:∃ n,l.length=n:=⟨_,rfl⟩
  have HN:=Lib.hid hn
  rw [hn] at hl ⊢
  clear h hrow hS hF hF0 h0 hJ hap hit hn hc
  go_enter Tryz.func114,Tryz.ntmps114
  go_wp2
  go_loopw [12] (fun i wr=>∃ k:Nat,k≤n∧i=.int .i64 k∧Hid (PI C B b vp (t++F k) wr)∧Hid (J k wr)∧Hid (Kp B S W wr)) (fun i _=>n - (intOf i).toNat)
  case atStart=>exact ⟨0,Nat.zero_le _,rfl,Lib.hid (by rw [HF0.out,List.append_nil];exact HP.out),HJ0,Lib.hid (Kp.refl _ _ _)⟩
  case round =>
    obtain ⟨k,hk,rfl,HPr,HJr,HKr⟩:=hrel
    by_cases hlt:k<n
    · have hk':k<l.length:=by rw [HN.out];exact hlt
      obtain ⟨x,hx,g,o,rfl,a0,a1,a2,a3,a4,a5⟩:∃ x,l[k]=x∧∃ g o,q=some ⟨g,o,none⟩∧C ⟨g,o+k * 6,none⟩=some (.string x.nm)∧C ⟨g,o+k * 6+1,none⟩=some (.int .u64 (x.lv:Nat))∧C ⟨g,o+k * 6+2,none⟩=some (.slice x.q1 x.n1 x.c1)∧C ⟨g,o+k * 6+3,none⟩=some (.slice x.q2 x.n2 x.c2)∧C ⟨g,o+k * 6+4,none⟩=some (.slice x.q3 x.n3 x.c3)∧C ⟨g,o+k * 6+5,none⟩=some (.slice x.q4 x.n4 x.c4):=⟨_,rfl,HR.out k hk'⟩
      have HK':=Lib.hid hk'
      have hit1:=Lib.hid (HIT.out k hk')
      have hit2:=Lib.hid (fun wr t'=>hit1.out x wr t' hx)
      have e0:wr.cell? ⟨g,o+k * 6,none⟩=some (.string x.nm):=HPr.out.rd _ _ a0
      clear a0
      have e1:wr.cell? ⟨g,o+k * 6+1,none⟩=some (.int .u64 (x.lv:Nat)):=HPr.out.rd _ _ a1
      clear a1
      have e2:wr.cell? ⟨g,o+k * 6+2,none⟩=some (.slice x.q1 x.n1 x.c1):=HPr.out.rd _ _ a2
      clear a2
      have e3:wr.cell? ⟨g,o+k * 6+3,none⟩=some (.slice x.q2 x.n2 x.c2):=HPr.out.rd _ _ a3
      clear a3
      have e4:wr.cell? ⟨g,o+k * 6+4,none⟩=some (.slice x.q3 x.n3 x.c3):=HPr.out.rd _ _ a4
      clear a4
      have e5:wr.cell? ⟨g,o+k * 6+5,none⟩=some (.slice x.q4 x.n4 x.c4):=HPr.out.rd _ _ a5
      clear a5
      obtain ⟨lg,acc,hw,hla,hx2⟩:=HPr.out.wr
      obtain ⟨c2,_⟩:=hw.raw
      have c3:=(hw.keep ((Below.refl wr.heap.size wr).alloc (Nat.le_refl _) (.cells #[.string x.nm,.int .u64 (x.lv:Nat),.slice x.q1 x.n1 x.c1,.slice x.q2 x.n2 x.c2,.slice x.q3 x.n3 x.c3,.slice x.q4 x.n4 x.c4] 54))).raw.1
      have HW:=Lib.hid hw
      clear hw hk' hx hit1
      have hki:(k:Int)<(n:Int):=by omega
      rcases hx2 with ⟨rfl,hacc⟩ | ⟨rfl,hlong⟩
      · clear hacc
        have HP1:=Lib.hid (HPr.out.alloc HC.out (.cells #[.string x.nm,.int .u64 (x.lv:Nat),.slice x.q1 x.n1 x.c1,.slice x.q2 x.n2 x.c2,.slice x.q3 x.n3 x.c3,.slice x.q4 x.n4 x.c4] 54))
        have HJ1:=Lib.hid (HJ.out k _ _ HJr.out ((Below.refl _ _).alloc (Nat.le_refl _) (.cells #[.string x.nm,.int .u64 (x.lv:Nat),.slice x.q1 x.n1 x.c1,.slice x.q2 x.n2 x.c2,.slice x.q3 x.n3 x.c3,.slice x.q4 x.n4 x.c4] 54)))
        have HK1:=Lib.hid (HKr.out.alloc HPr.out.low (.cells #[.string x.nm,.int .u64 (x.lv:Nat),.slice x.q1 x.n1 x.c1,.slice x.q2 x.n2 x.c2,.slice x.q3 x.n3 x.c3,.slice x.q4 x.n4 x.c4] 54))
        have HB1:=Lib.hid (World.alloc_heap_new wr (.cells #[.string x.nm,.int .u64 (x.lv:Nat),.slice x.q1 x.n1 x.c1,.slice x.q2 x.n2 x.c2,.slice x.q3 x.n3 x.c3,.slice x.q4 x.n4 x.c4] 54))
        have HL1:=Lib.hid HKr.out.size
        clear HPr HJr HKr HW
        go_wp2_with fail
        generalize (wr.alloc _:World)=w0 at *
        refine (HAP.out k w0 _ HK'.out HP1.out HJ1.out HK1.out).mono ?_
        rintro e w1 ⟨rfl,hp1,hj1,hk1⟩
        have hb1:=hk1.heap HB1.out (fun e=>by have:=HS.out _ e;have:=HL1.out;omega) (by decide)
        have d0:=cell_of (j:=0) hb1 rfl
        have d1:=cell_of (j:=1) hb1 rfl
        have d2:=cell_of (j:=2) hb1 rfl
        have d3:=cell_of (j:=3) hb1 rfl
        have d4:=cell_of (j:=4) hb1 rfl
        have d5:=cell_of (j:=5) hb1 rfl
        have HP2:=Lib.hid hp1
        have HJ2:=Lib.hid hj1
        have HK2:=Lib.hid (HK1.out.trans hk1)
        clear hp1 hj1 hk1 hb1 HP1 HJ1 HK1
        go_wp2_with fail
        refine (hit2.out w1 _ HP2.out HJ2.out HK2.out).mono ?_
        rintro e w2 ⟨rfl,hp3,hj3,hk3⟩
        rw [List.append_assoc,List.append_assoc,← List.append_assoc (F k),← HF.out k HK'.out] at hp3
        have HP3:=Lib.hid hp3
        have HJ3:=Lib.hid hj3
        have HK3:=Lib.hid (HK2.out.trans hk3)
        clear hp3 hj3 hk3 HP2 HJ2 HK2
        go_wp2_with fail
        exact ⟨⟨k+1,by omega,by go_num,HP3,HJ3,HK3⟩,by simp [intOf];omega⟩
      · have HLG:=Lib.hid hlong
        obtain ⟨r,hr⟩:=text_on (l:=l) HF.out (Nat.le_of_lt HK'.out)
        rw [HN.out] at hr
        have HR2:=Lib.hid hr
        clear hlong hr
        go_wp2
        first | go_end0 | refine bodyPost_ret (results_none rfl _ _ _) rfl ?_
        have hb:=(Below.refl wr.heap.size wr).alloc (Nat.le_refl _) (.cells #[.string x.nm,.int .u64 (x.lv:Nat),.slice x.q1 x.n1 x.c1,.slice x.q2 x.n2 x.c2,.slice x.q3 x.n3 x.c3,.slice x.q4 x.n4 x.c4] 54)
        refine ⟨rfl,?_,HKr.out.alloc HPr.out.low _⟩
        rw [HR2.out,← List.append_assoc]
        exact (HPr.out.long HW.out hla HLG.out r).all HC.out hb
    · obtain rfl:k=n:=by omega
      go_wp2
      first | go_end0 | refine bodyPost_ret (results_none rfl _ _ _) rfl ?_
      exact ⟨rfl,HPr.out,HKr.out⟩
end
end Go.Proofs.YtpcniebkabkikaaGreatDoor
namespace Go.Proofs.YtpcniebkabkikaaGreatDoor
open Go Go.RowKit Go.Proofs.Mm
section
variable {C:Cl} {B b:Nat} {vp:Value} {t:List Nat} {W:World}
set_option maxRecDepth 100000 in
theorem apartFn_p (w:World):Calls Tryz.prog 115 #[] w fun e w'=>e=.returned (.tuple #[])∧w=w':=by
  go_enter Tryz.func115,Tryz.ntmps115
  first | (go_wp2;go_end0) | go_end0
  exact ⟨rfl,rfl⟩
set_option maxRecDepth 100000 in
set_option maxHeartbeats 1000000 in
theorem linesFn_p (hc:PC C B) (h:PI C B b vp t W) {q:Option Addr} {c:Nat} (l:List FnV) (hl:l.length≤9223372036854775807) (hrow:∀ j (hj:j<l.length),∃ g o,q=some ⟨g,o,none⟩∧C ⟨g,o+j * 6,none⟩=some (.string l[j].nm)∧C ⟨g,o+j * 6+1,none⟩=some (.int .u64 (l[j].lv:Nat))∧C ⟨g,o+j * 6+2,none⟩=some (.slice l[j].q1 l[j].n1 l[j].c1)∧C ⟨g,o+j * 6+3,none⟩=some (.slice l[j].q2 l[j].n2 l[j].c2)∧C ⟨g,o+j * 6+4,none⟩=some (.slice l[j].q3 l[j].n3 l[j].c3)∧C ⟨g,o+j * 6+5,none⟩=some (.slice l[j].q4 l[j].n4 l[j].c4))
    {Ki:Nat} {fi ci:Array Value} (ei:∀ args w,(callFunc Ki args).run Tryz.prog w=.ok (.enter Ki args) w)
    {J:Nat→World→Prop} {S:Nat→Prop} (hS:∀ i,S i→i<W.heap.size) {F I:Nat→List Nat} (hF0:F 0=[]) (hF:∀ k,k<l.length→F (k+1)=F k++[]++I k) (h0:J 0 W)
    (hJ:∀ k wr w',J k wr→Below wr.heap.size wr w'→J k w')
    (hit:∀ k (hk:k<l.length) x wr t',l[k]=x→PI C B b vp t' wr→J k wr→Kp B S W wr→Calls Tryz.prog Ki (fi++#[.agg #[.string x.nm,.int .u64 (x.lv:Nat),.slice x.q1 x.n1 x.c1,.slice x.q2 x.n2 x.c2,.slice x.q3 x.n3 x.c3,.slice x.q4 x.n4 x.c4]]++ci) wr fun e w'=>e=.returned (.tuple #[])∧PI C B b vp (t'++I k) w'∧J (k+1) w'∧Kp B S wr w') :
    Calls Tryz.prog 64 #[.pointer (some ⟨b,0,none⟩),.func (.func Ki) fi ci,.slice q l.length c] W fun e w'=>e=.returned (.tuple #[])∧PI C B b vp (t++F l.length) w'∧Kp B S W w':=by
  have HX:=Lib.hid (eachFn_p hc h (c:=c) l hl hrow (Ka:=115) (ca:=#[]) (enters_of Tryz.func115 (by kernel_rfl) rfl) ei (J':=J) hS hF0 hF h0 hJ
    (fun k wr t' _ hp hj _=>(apartFn_p wr).mono fun e w' ⟨he,hw⟩=>by subst hw;exact ⟨he,by rw [List.append_nil];exact hp,hj,Kp.refl _ _ _⟩) hit)
  obtain ⟨n,hn⟩:∃ n,l.length=n:=⟨_,rfl⟩
  rw [hn] at HX ⊢
  clear hrow hit hn h hc hl hF hF0 h0 hJ hS
  go_enter Tryz.func64,Tryz.ntmps64
  go_wp2_with fail
  go_at_call 114
  refine HX.out.mono ?_
  rintro e w2 ⟨rfl,hp2,hk2⟩
  go_wp2_with fail
  first | go_end0 | refine bodyPost_ret (results_none rfl _ _ _) rfl ?_
  exact ⟨rfl,hp2,hk2⟩
end
end Go.Proofs.YtpcniebkabkikaaGreatDoor
namespace Go.Proofs.YtpcniebkabkikaaGreatDoor
open Go Go.RowKit Go.Proofs.Mm
open List renaming setIfInBounds_toArray→n1,set_cons_zero→n2,set_cons_succ→n3,getElem_toArray→n4,getElem_cons_zero→n5,getElem_cons_succ→n6
section
variable {C:Cl} {B b:Nat} {vp:Value} {t:List Nat} {W:World} {ns:List ByteArray}
theorem dec_len:∀ (k n:Nat),0<k→n<10 ^ k→(Lib.decDigits n).length≤k
  | 0,_,h,_=>by omega
  | k+1,n,_,hn=>by
    unfold Lib.decDigits
    split
    · simp
    · rename_i h10
      rw [List.length_append,List.length_singleton]
      rcases Nat.eq_zero_or_pos k with rfl | hk
      · simp at hn;omega
      · have:=dec_len k (n / 10) hk (by rw [Nat.pow_succ] at hn;omega)
        omega
theorem itN_len (x:Int) (h1:-9223372036854775808≤x) (h2:x≤9223372036854775807):(itN x).length≤1000:=by
  have h:(dgN x.natAbs).length≤20:=by
    unfold dgN
    rw [List.length_map]
    exact dec_len 20 x.natAbs (by decide) (by omega)
  unfold itN
  split
  · rw [List.length_cons];omega
  · omega
theorem itoa_b (hE:EnvP W) (x:Int) (h1:-9223372036854775808≤x) (h2:x≤9223372036854775807):Calls Tryz.prog 112 #[.int .i64 x] W fun e w'=>∃ z,e=.returned (.string z)∧bl z=itN x∧Below W.heap.size W w':=by
  refine (Tryz.strconv_Itoa x h1 h2 W hE.pow).mono ?_
  rintro e w' ⟨rfl,k,os,rfl⟩
  refine ⟨_,rfl,?_,Lib.below_grow _ _ (Nat.le_refl _) k os⟩
  rw [bl_u8]
  unfold Lib.itoa itN dgN
  split
  · rfl
  · rename_i hx
    rw [show x.toNat=x.natAbs by omega]
def av (a:ArZ):Value:=.agg #[.string a.name,.int .i64 a.len,.int .u64 (a.label:Nat)]
def ao (a:ArZ):Obj:=.cells #[.string a.name,.int .i64 a.len,.int .u64 (a.label:Nat)] 72
def ArF (a:ArZ):Prop:=a.name.size≤140737488355327∧-9223372036854775808≤a.len∧a.len≤9223372036854775807∧a.label<18446744073709551616
theorem ao_cells {w:World} {g:Nat} {a:ArZ} (h:w.heap[g]?=some (ao a)):w.cell? ⟨g,0,none⟩=some (.string a.name)∧w.cell? ⟨g,1,none⟩=some (.int .i64 a.len)∧w.cell? ⟨g,2,none⟩=some (.int .u64 (a.label:Nat)):=⟨cell_of h rfl,cell_of h rfl,cell_of h rfl⟩
theorem ao_kp {w w':World} {g:Nat} {a:ArZ} (h:w.heap[g]?=some (ao a)) (hk:Kp B (fun k=>k=b) w w') (hg:g ≠ b):w'.heap[g]?=some (ao a):=hk.heap h hg (by decide)
set_option maxRecDepth 100000 in
set_option maxHeartbeats 2000000 in
theorem arrayLine_p (hc:PC C B) (hv:PV C vp ns) (h:PI C B b vp t W) (a:ArZ) (ha:ArF a) :
    Calls Tryz.prog 63 #[.pointer (some ⟨b,0,none⟩),av a] W (Wrote C B b vp W (t++arZ ns a)):=by
  have hne:W.heap.size ≠ b:=by have:=h.b_lt;omega
  have HP1:=Lib.hid (h.alloc hc (ao a))
  have HK1:=Lib.hid ((Kp.refl B (fun k=>k=b) W).alloc h.low (ao a))
  have HX1:=Lib.hid (World.alloc_heap_new W (ao a))
  have HC:=Lib.hid hc
  have HV:=Lib.hid hv
  have HA:=Lib.hid ha
  have hmx:Tryz.prog.follows .mixedOrders=true:=by kernel_rfl
  unfold ao at HP1 HK1 HX1
  unfold av
  clear h hc hv ha
  go_enter Tryz.func63,Tryz.ntmps63
  go_upto_region 1 with fail
  generalize (W.alloc _:World)=w1 at *
  have HPd:=Lib.hid (HP1.out.all HC.out (Below.refl _ w1).drew)
  have HKd:=Lib.hid (show Kp B (fun k=>k=b) W w1.drew from HK1.out.drewN 1)
  have HXd:=Lib.hid (show w1.drew.heap[W.heap.size]?=some (ao a) from HX1.out)
  have HI:=Lib.hid (itoa_b HPd.out.env a.len HA.out.2.1 HA.out.2.2.1)
  have hS0:=ao_cells HXd.out
  refine wp_region_held_drew (S:=(fun w':World=>w'.cell? ⟨W.heap.size,0,none⟩=some (.string a.name)∧w'.cell? ⟨W.heap.size,1,none⟩=some (.int .i64 a.len)∧w'.cell? ⟨W.heap.size,2,none⟩=some (.int .u64 (a.label:Nat)))) hmx hS0 (fun hHeld=>?_)
  refine wpAnyH_take (i:=0) (v:=.pointer (some ⟨b,0,none⟩)) rfl (by kernel_rfl) (by kernel_rfl) (by kernel_rfl) (fun _ _ _ h=>h) (Or.inl ⟨by rfl,fun w hSw=>by obtain ⟨s0,s1,s2⟩:=hSw;go_simp⟩) (by assumption) ?_
  try simp only [Act.put,n1,n2,n3,n4,n5,n6]
  refine wpAnyH_take (i:=1) (v:=.pointer (some ⟨W.heap.size,0,none⟩)) rfl (by kernel_rfl) (by kernel_rfl) (by kernel_rfl) (fun _ _ _ h=>h) (Or.inl ⟨by rfl,fun w hSw=>by obtain ⟨s0,s1,s2⟩:=hSw;go_simp⟩) (by assumption) ?_
  try simp only [Act.put,n1,n2,n3,n4,n5,n6]
  refine wpAnyH_take (i:=2) (v:=.string a.name) rfl (by kernel_rfl) (by kernel_rfl) (by kernel_rfl) (fun _ _ _ h=>h) (Or.inl ⟨by rfl,fun w hSw=>by obtain ⟨s0,s1,s2⟩:=hSw;go_simp⟩) (by assumption) ?_
  try simp only [Act.put,n1,n2,n3,n4,n5,n6]
  refine wpAnyH_take (i:=3) (v:=.pointer (some ⟨W.heap.size,1,none⟩)) rfl (by kernel_rfl) (by kernel_rfl) (by kernel_rfl) (fun _ _ _ h=>h) (Or.inl ⟨by rfl,fun w hSw=>by obtain ⟨s0,s1,s2⟩:=hSw;go_simp⟩) (by assumption) ?_
  try simp only [Act.put,n1,n2,n3,n4,n5,n6]
  refine wpAnyH_take (i:=4) (v:=.int .i64 a.len) rfl (by kernel_rfl) (by kernel_rfl) (by kernel_rfl) (fun _ _ _ h=>h) (Or.inl ⟨by rfl,fun w hSw=>by obtain ⟨s0,s1,s2⟩:=hSw;go_simp⟩) (by assumption) ?_
  try simp only [Act.put,n1,n2,n3,n4,n5,n6]
  refine wpAnyH_ready (rs:=[5]) (by kernel_rfl) (by simp) ?_
  refine AllReadyH.cons rfl (fun K1 hK1=>?_) AllReadyH.nil
  go_simp
  go_at_call 112
  refine HI.out.mono ?_
  rintro e wz ⟨z,rfl,hz,hb⟩
  have HPz:=Lib.hid (HPd.out.all HC.out hb)
  have HKz:=Lib.hid (HKd.out.trans (Kp.all hb HPd.out.low))
  have HXz:=Lib.hid ((hb.block _ (heap_lt HXd.out)).trans HXd.out)
  have HZ:=Lib.hid hz
  clear hb hz
  refine hK1.out _ _ (ao_cells HXz.out) (fun hHeld=>?_)
  try simp only [Act.put,n1,n2,n3,n4,n5,n6]
  refine wpAnyH_ready (rs:=[6]) (by kernel_rfl) (by simp) ?_
  refine AllReadyH.cons rfl (fun K2 hK2=>?_) AllReadyH.nil
  go_simp
  have HXa:=Lib.hid (heap_new wz (.cells #[.string ⟨#[97,114,114,97,121,32]⟩,.string a.name,.string ⟨#[32]⟩,.string z,.string ⟨#[32]⟩] 9) HXz.out)
  refine hK2.out _ _ (ao_cells HXa.out) (fun hHeld=>?_)
  try simp only [Act.put,n1,n2,n3,n4,n5,n6]
  refine wpAnyH_ready (rs:=[7]) (by kernel_rfl) (by simp) ?_
  refine AllReadyH.cons rfl (fun K3 hK3=>?_) AllReadyH.nil
  go_simp
  have HW2:=Lib.hid (putR_p HC.out HPz.out [⟨#[97,114,114,97,121,32]⟩,a.name,⟨#[32]⟩,z,⟨#[32]⟩] (by simp) (in_five (by decide) HA.out.1 (by decide) (by rw [← bl_length,HZ.out];have:=itN_len a.len HA.out.2.1 HA.out.2.2.1;omega) (by decide)) (L:=#[.string ⟨#[97,114,114,97,121,32]⟩,.string a.name,.string ⟨#[32]⟩,.string z,.string ⟨#[32]⟩]) rfl (n:=5) rfl)
  go_at_call 111
  refine HW2.out.mono ?_
  rintro e w2 ⟨rfl,hp,hk⟩
  have HP2:=Lib.hid (show PI C B b vp _ w2 from by rw [put5,HZ.out] at hp;exact hp)
  have HX2:=Lib.hid (ao_kp HXz.out hk hne)
  have HK2:=Lib.hid (HKz.out.trans hk)
  clear hp hk
  refine hK3.out _ _ (ao_cells HX2.out) (fun hHeld=>?_)
  try simp only [Act.put,n1,n2,n3,n4,n5,n6]
  refine wpAnyH_done (by kernel_rfl) ?_ _
  have HL:=Lib.hid (label_p HC.out HV.out HP2.out a.label HA.out.2.2.2)
  obtain ⟨d0,d1,d2⟩:=ao_cells HX2.out
  go_wp2_with fail
  go_at_call 113
  refine HL.out.mono ?_
  rintro e w3 ⟨rfl,hp3,hk3⟩
  have HW3:=Lib.hid (word_p HC.out hp3 ⟨#[59,10]⟩ (by decide))
  have HK3:=Lib.hid (HK2.out.trans hk3)
  clear hp3 hk3 d0 d1 d2
  go_wp2_with fail
  go_at_call 57
  refine HW3.out.mono ?_
  rintro e w4 ⟨rfl,hp4,hk4⟩
  go_wp2_with fail
  first | go_end0 | refine bodyPost_ret (results_none rfl _ _ _) rfl ?_
  refine ⟨rfl,?_,HK3.out.trans hk4⟩
  have e1:bl ⟨#[97,114,114,97,121,32]⟩=[97,114,114,97,121,32]:=rfl
  have e2:bl ⟨#[32]⟩=[32]:=rfl
  have e3:bl ⟨#[59,10]⟩=[59,10]:=rfl
  unfold arZ
  simpa [List.append_assoc,e1,e2,e3] using hp4
def fv (f:FnZ) (q1:Option Addr) (c1:Nat) (q2:Option Addr) (c2:Nat) (q3:Option Addr) (c3:Nat) (q4:Option Addr) (c4:Nat):Value:=.agg #[.string f.name,.int .u64 (f.level:Nat),.slice q1 f.params.length c1,.slice q2 f.results.length c2,.slice q3 f.vars.length c3,.slice q4 f.body.length c4]
def fo (f:FnZ) (q1:Option Addr) (c1:Nat) (q2:Option Addr) (c2:Nat) (q3:Option Addr) (c3:Nat) (q4:Option Addr) (c4:Nat):Obj:=.cells #[.string f.name,.int .u64 (f.level:Nat),.slice q1 f.params.length c1,.slice q2 f.results.length c2,.slice q3 f.vars.length c3,.slice q4 f.body.length c4] 54
structure FnF (f:FnZ):Prop where
  nm:f.name.size≤140737488355327
  lv:f.level<18446744073709551616
  ps:(∀ d ∈ f.params,DeF d)∧f.params.length≤9223372036854775807
  rs:(∀ d ∈ f.results,d<18446744073709551616)∧f.results.length≤9223372036854775807
  vs:(∀ d ∈ f.vars,DeF d)∧f.vars.length≤9223372036854775807
structure FR (C:Cl) (f:FnZ) (q1 q2 q3 q4:Option Addr):Prop where
  fine:FnF f
  ps:DeRow C q1 f.params
  rs:LaRow C q2 f.results
  vs:DeRow C q3 f.vars
  bd:∃ lv,BdRow C q4 f.body lv
theorem fo_cells {w:World} {g:Nat} {f:FnZ} {q1:Option Addr} {c1:Nat} {q2:Option Addr} {c2:Nat} {q3:Option Addr} {c3:Nat} {q4:Option Addr} {c4:Nat} (h:w.heap[g]?=some (fo f q1 c1 q2 c2 q3 c3 q4 c4)):w.cell? ⟨g,0,none⟩=some (.string f.name)∧w.cell? ⟨g,1,none⟩=some (.int .u64 (f.level:Nat))∧w.cell? ⟨g,2,none⟩=some (.slice q1 f.params.length c1)∧w.cell? ⟨g,3,none⟩=some (.slice q2 f.results.length c2)∧w.cell? ⟨g,4,none⟩=some (.slice q3 f.vars.length c3)∧w.cell? ⟨g,5,none⟩=some (.slice q4 f.body.length c4):=⟨cell_of h rfl,cell_of h rfl,cell_of h rfl,cell_of h rfl,cell_of h rfl,cell_of h rfl⟩
theorem fo_kp {w w':World} {g:Nat} {f:FnZ} {q1:Option Addr} {c1:Nat} {q2:Option Addr} {c2:Nat} {q3:Option Addr} {c3:Nat} {q4:Option Addr} {c4:Nat} (h:w.heap[g]?=some (fo f q1 c1 q2 c2 q3 c3 q4 c4)) (hk:Kp B (fun k=>k=b) w w') (hg:g ≠ b):w'.heap[g]?=some (fo f q1 c1 q2 c2 q3 c3 q4 c4):=hk.heap h hg (by decide)
set_option maxRecDepth 100000 in
set_option maxHeartbeats 4000000 in
theorem function_p (hc:PC C B) (hv:PV C vp ns) (h:PI C B b vp t W) (f:FnZ) {q1 q2 q3 q4:Option Addr} (c1 c2 c3 c4:Nat) (hf:FR C f q1 q2 q3 q4) :
    Calls Tryz.prog 65 #[.pointer (some ⟨b,0,none⟩),fv f q1 c1 q2 c2 q3 c3 q4 c4] W (Wrote C B b vp W (t++fnZ ns f)):=by
  have hne:W.heap.size ≠ b:=by have:=h.b_lt;omega
  have HP1:=Lib.hid (h.alloc hc (fo f q1 c1 q2 c2 q3 c3 q4 c4))
  have HK1:=Lib.hid ((Kp.refl B (fun k=>k=b) W).alloc h.low (fo f q1 c1 q2 c2 q3 c3 q4 c4))
  have HX1:=Lib.hid (World.alloc_heap_new W (fo f q1 c1 q2 c2 q3 c3 q4 c4))
  have HC:=Lib.hid hc
  have HV:=Lib.hid hv
  have HF:=Lib.hid hf
  obtain ⟨lv,hlv⟩:=hf.bd
  have HLV:=Lib.hid hlv
  have hmx:Tryz.prog.follows .mixedOrders=true:=by kernel_rfl
  unfold fo at HP1 HK1 HX1
  unfold fv
  clear h hc hv hf hlv
  go_enter Tryz.func65,Tryz.ntmps65
  go_upto_region 1 with fail
  generalize (W.alloc _:World)=w1 at *
  obtain ⟨d0,d1,d2,d3,d4,d5⟩:=fo_cells HX1.out
  have HW:=Lib.hid (word_p HC.out HP1.out ⟨#[102,117,110,99,32]⟩ (by decide))
  go_wp2_with fail
  go_at_call 57
  refine HW.out.mono ?_
  rintro e w2 ⟨rfl,hp,hk⟩
  have HP2:=Lib.hid hp
  have HX2:=Lib.hid (fo_kp HX1.out hk hne)
  have HK2:=Lib.hid (HK1.out.trans hk)
  clear hp hk d0 d1 d2 d3 d4 d5 HW HX1 HK1 HP1
  obtain ⟨d0,d1,d2,d3,d4,d5⟩:=fo_cells HX2.out
  have HW:=Lib.hid (decl_p HC.out HV.out HP2.out ⟨f.name,f.level⟩ HF.out.fine.lv HF.out.fine.nm)
  go_wp2_with fail
  go_at_call 108
  refine HW.out.mono ?_
  rintro e w3 ⟨rfl,hp,hk⟩
  have HP3:=Lib.hid hp
  have HX3:=Lib.hid (fo_kp HX2.out hk hne)
  have HK3:=Lib.hid (HK2.out.trans hk)
  clear hp hk d0 d1 d2 d3 d4 d5 HW HX2 HK2 HP2
  obtain ⟨d0,d1,d2,d3,d4,d5⟩:=fo_cells HX3.out
  have HW:=Lib.hid (word_p HC.out HP3.out ⟨#[32,40]⟩ (by decide))
  go_wp2_with fail
  go_at_call 57
  refine HW.out.mono ?_
  rintro e w4 ⟨rfl,hp,hk⟩
  have HP4:=Lib.hid hp
  have HX4:=Lib.hid (fo_kp HX3.out hk hne)
  have HK4:=Lib.hid (HK3.out.trans hk)
  clear hp hk d0 d1 d2 d3 d4 d5 HW HX3 HK3 HP3
  obtain ⟨d0,d1,d2,d3,d4,d5⟩:=fo_cells HX4.out
  have HW:=Lib.hid (listDe_p HC.out HP4.out (c:=c1) f.params HF.out.fine.ps.2 HF.out.ps (Ki:=108) (fi:=#[.pointer (some ⟨b,0,none⟩)]) (ci:=#[]) (enters_of Tryz.func108 (by kernel_rfl) rfl) (f:=declZ ns) (fun k hk x wr t' hx hp _=>by have hm:=HF.out.fine.ps.1 x (by rw [← hx];exact List.getElem_mem hk);exact decl_p HC.out HV.out hp x hm.1 hm.2))
  go_wp2_with fail
  go_at_call 116
  refine HW.out.mono ?_
  rintro e w5 ⟨rfl,hp,hk⟩
  have HP5:=Lib.hid hp
  have HX5:=Lib.hid (fo_kp HX4.out hk hne)
  have HK5:=Lib.hid (HK4.out.trans hk)
  clear hp hk d0 d1 d2 d3 d4 d5 HW HX4 HK4 HP4
  obtain ⟨d0,d1,d2,d3,d4,d5⟩:=fo_cells HX5.out
  have HW:=Lib.hid (word_p HC.out HP5.out ⟨#[41,32,40]⟩ (by decide))
  go_wp2_with fail
  go_at_call 57
  refine HW.out.mono ?_
  rintro e w6 ⟨rfl,hp,hk⟩
  have HP6:=Lib.hid hp
  have HX6:=Lib.hid (fo_kp HX5.out hk hne)
  have HK6:=Lib.hid (HK5.out.trans hk)
  clear hp hk d0 d1 d2 d3 d4 d5 HW HX5 HK5 HP5
  obtain ⟨d0,d1,d2,d3,d4,d5⟩:=fo_cells HX6.out
  have HW:=Lib.hid (listLa_p HC.out HP6.out (c:=c2) f.results HF.out.fine.rs.2 HF.out.rs (Ki:=113) (fi:=#[.pointer (some ⟨b,0,none⟩)]) (ci:=#[]) (enters_of Tryz.func113 (by kernel_rfl) rfl) (f:=lbZ ns) (fun k hk x wr t' hx hp _=>by have hm:=HF.out.fine.rs.1 x (by rw [← hx];exact List.getElem_mem hk);exact label_p HC.out HV.out hp x hm))
  go_wp2_with fail
  go_at_call 117
  refine HW.out.mono ?_
  rintro e w7 ⟨rfl,hp,hk⟩
  have HP7:=Lib.hid hp
  have HX7:=Lib.hid (fo_kp HX6.out hk hne)
  have HK7:=Lib.hid (HK6.out.trans hk)
  clear hp hk d0 d1 d2 d3 d4 d5 HW HX6 HK6 HP6
  obtain ⟨d0,d1,d2,d3,d4,d5⟩:=fo_cells HX7.out
  have HW:=Lib.hid (word_p HC.out HP7.out ⟨#[41,32,123,10]⟩ (by decide))
  go_wp2_with fail
  go_at_call 57
  refine HW.out.mono ?_
  rintro e w8 ⟨rfl,hp,hk⟩
  have HP8:=Lib.hid hp
  have HX8:=Lib.hid (fo_kp HX7.out hk hne)
  have HK8:=Lib.hid (HK7.out.trans hk)
  clear hp hk d0 d1 d2 d3 d4 d5 HW HX7 HK7 HP7
  obtain ⟨d0,d1,d2,d3,d4,d5⟩:=fo_cells HX8.out
  go_upto_region 8 with fail
  have HPd:=Lib.hid (HP8.out.all HC.out (Below.refl _ w8).drew)
  have HKd:=Lib.hid (show Kp B (fun k=>k=b) W w8.drew from HK8.out.drewN 1)
  have HXd:=Lib.hid (show w8.drew.heap[W.heap.size]?=some (fo f q1 c1 q2 c2 q3 c3 q4 c4) from HX8.out)
  clear d0 d1 d2 d3 d4 d5
  have hS0:=fo_cells HXd.out
  refine wp_region_held_drew (S:=(fun w':World=>w'.cell? ⟨W.heap.size,0,none⟩=some (.string f.name)∧w'.cell? ⟨W.heap.size,1,none⟩=some (.int .u64 (f.level:Nat))∧w'.cell? ⟨W.heap.size,2,none⟩=some (.slice q1 f.params.length c1)∧w'.cell? ⟨W.heap.size,3,none⟩=some (.slice q2 f.results.length c2)∧w'.cell? ⟨W.heap.size,4,none⟩=some (.slice q3 f.vars.length c3)∧w'.cell? ⟨W.heap.size,5,none⟩=some (.slice q4 f.body.length c4))) hmx hS0 (fun hHeld=>?_)
  refine wpAnyH_take (i:=0) (v:=.pointer (some ⟨b,0,none⟩)) rfl (by kernel_rfl) (by kernel_rfl) (by kernel_rfl) (fun _ _ _ h=>h) (Or.inl ⟨by rfl,fun w hSw=>by obtain ⟨s0,s1,s2,s3,s4,s5⟩:=hSw;go_simp⟩) (by assumption) ?_
  try simp only [Act.put,n1,n2,n3,n4,n5,n6]
  refine wpAnyH_take (i:=1) (v:=.pointer (some ⟨b,0,none⟩)) rfl (by kernel_rfl) (by kernel_rfl) (by kernel_rfl) (fun _ _ _ h=>h) (Or.inl ⟨by rfl,fun w hSw=>by obtain ⟨s0,s1,s2,s3,s4,s5⟩:=hSw;go_simp⟩) (by assumption) ?_
  try simp only [Act.put,n1,n2,n3,n4,n5,n6]
  refine wpAnyH_take (i:=3) (v:=.pointer (some ⟨W.heap.size,4,none⟩)) rfl (by kernel_rfl) (by kernel_rfl) (by kernel_rfl) (fun _ _ _ h=>h) (Or.inl ⟨by rfl,fun w hSw=>by obtain ⟨s0,s1,s2,s3,s4,s5⟩:=hSw;go_simp⟩) (by assumption) ?_
  try simp only [Act.put,n1,n2,n3,n4,n5,n6]
  refine wpAnyH_take (i:=4) (v:=.slice q3 f.vars.length c3) rfl (by kernel_rfl) (by kernel_rfl) (by kernel_rfl) (fun _ _ _ h=>h) (Or.inl ⟨by rfl,fun w hSw=>by obtain ⟨s0,s1,s2,s3,s4,s5⟩:=hSw;go_simp⟩) (by assumption) ?_
  try simp only [Act.put,n1,n2,n3,n4,n5,n6]
  refine wpAnyH_ready (rs:=[2]) (by kernel_rfl) (by simp) ?_
  refine AllReadyH.cons rfl (fun K1 hK1=>?_) AllReadyH.nil
  go_simp
  go_at_call 61
  refine (declLine_p (b:=b) ⟨#[32,32,118,97,114,32]⟩ _).mono ?_
  rintro e wz ⟨rfl,hb,hd⟩
  have HPz:=Lib.hid (HPd.out.all HC.out hb)
  have HKz:=Lib.hid (HKd.out.trans (Kp.all hb HPd.out.low))
  have HXz:=Lib.hid ((hb.block _ (heap_lt HXd.out)).trans HXd.out)
  have HDZ:=Lib.hid hd
  clear hb hd
  unfold dlC
  refine hK1.out _ _ (fo_cells HXz.out) (fun hHeld=>?_)
  try simp only [Act.put,n1,n2,n3,n4,n5,n6]
  refine wpAnyH_ready (rs:=[5]) (by kernel_rfl) (by simp) ?_
  refine AllReadyH.cons rfl (fun K2 hK2=>?_) AllReadyH.nil
  go_simp
  have HW2:=Lib.hid (kinds_p HC.out HV.out HPz.out (c:=c3) f.vars HF.out.fine.vs.2 HF.out.vs HF.out.fine.vs.1 (by decide) HDZ.out HPd.out.b_lt)
  unfold dlC at HW2
  go_at_call 60
  refine HW2.out.mono ?_
  rintro e w9 ⟨rfl,hp,hk⟩
  have HP9:=Lib.hid hp
  have HX9:=Lib.hid (fo_kp HXz.out hk hne)
  have HK9:=Lib.hid (HKz.out.trans hk)
  clear hp hk
  refine hK2.out _ _ (fo_cells HX9.out) (fun hHeld=>?_)
  try simp only [Act.put,n1,n2,n3,n4,n5,n6]
  refine wpAnyH_done (by kernel_rfl) ?_ _
  obtain ⟨d0,d1,d2,d3,d4,d5⟩:=fo_cells HX9.out
  have HW:=Lib.hid (body_p HC.out HP9.out f.body (c:=c4) HLV.out)
  go_wp2_with fail
  go_at_call 118
  refine HW.out.mono ?_
  rintro e w10 ⟨rfl,hp,hk⟩
  have HP10:=Lib.hid hp
  have HX10:=Lib.hid (fo_kp HX9.out hk hne)
  have HK10:=Lib.hid (HK9.out.trans hk)
  clear hp hk d0 d1 d2 d3 d4 d5 HW HX9 HK9 HP9
  obtain ⟨d0,d1,d2,d3,d4,d5⟩:=fo_cells HX10.out
  have HW:=Lib.hid (word_p HC.out HP10.out ⟨#[125,10]⟩ (by decide))
  go_wp2_with fail
  go_at_call 57
  refine HW.out.mono ?_
  rintro e w11 ⟨rfl,hp,hk⟩
  have HP11:=Lib.hid hp
  have HX11:=Lib.hid (fo_kp HX10.out hk hne)
  have HK11:=Lib.hid (HK10.out.trans hk)
  clear hp hk d0 d1 d2 d3 d4 d5 HW HX10 HK10 HP10
  go_wp2_with fail
  first | go_end0 | refine bodyPost_ret (results_none rfl _ _ _) rfl ?_
  refine ⟨rfl,?_,HK11.out⟩
  have hp:=HP11.out
  have e1:bl ⟨#[102,117,110,99,32]⟩=[102,117,110,99,32]:=rfl
  have e2:bl ⟨#[32,40]⟩=[32,40]:=rfl
  have e3:bl ⟨#[41,32,40]⟩=[41,32,40]:=rfl
  have e4:bl ⟨#[41,32,123,10]⟩=[41,32,123,10]:=rfl
  have e5:bl ⟨#[32,32,118,97,114,32]⟩=[32,32,118,97,114,32]:=rfl
  have e6:bl ⟨#[125,10]⟩=[125,10]:=rfl
  unfold fnZ
  simpa [List.append_assoc,e1,e2,e3,e4,e5,e6] using hp
end
end Go.Proofs.YtpcniebkabkikaaGreatDoor
namespace Go.Proofs.YtpcniebkabkikaaGreatDoor
open Go Go.RowKit Go.Proofs.Mm
def ArRow (C:Cl) (q:Option Addr) (l:List ArZ):Prop:=∀ j (hj:j<l.length),∃ g o,q=some ⟨g,o,none⟩∧C ⟨g,o+j * 3,none⟩=some (.string l[j].name)∧C ⟨g,o+j * 3+1,none⟩=some (.int .i64 l[j].len)∧C ⟨g,o+j * 3+2,none⟩=some (.int .u64 (l[j].label:Nat))
structure FnRow (C:Cl) (q:Option Addr) (l:List FnZ) (lv:List FnV):Prop where
  len:lv.length=l.length
  cells:∀ j (hj:j<lv.length),∃ g o,q=some ⟨g,o,none⟩∧C ⟨g,o+j * 6,none⟩=some (.string lv[j].nm)∧C ⟨g,o+j * 6+1,none⟩=some (.int .u64 (lv[j].lv:Nat))∧C ⟨g,o+j * 6+2,none⟩=some (.slice lv[j].q1 lv[j].n1 lv[j].c1)∧C ⟨g,o+j * 6+3,none⟩=some (.slice lv[j].q2 lv[j].n2 lv[j].c2)∧C ⟨g,o+j * 6+4,none⟩=some (.slice lv[j].q3 lv[j].n3 lv[j].c3)∧C ⟨g,o+j * 6+5,none⟩=some (.slice lv[j].q4 lv[j].n4 lv[j].c4)
  rd:∀ j (hj:j<lv.length) (hj':j<l.length),∃ q1 c1 q2 c2 q3 c3 q4 c4,lv[j]=⟨l[j].name,l[j].level,q1,l[j].params.length,c1,q2,l[j].results.length,c2,q3,l[j].vars.length,c3,q4,l[j].body.length,c4⟩∧FR C l[j] q1 q2 q3 q4
def sov (s:SoZ) (q1:Option Addr) (c1:Nat) (q2:Option Addr) (c2:Nat) (q3:Option Addr) (c3:Nat) (q4:Option Addr) (c4:Nat) (q5:Option Addr) (c5:Nat):Value:=.agg #[.slice q1 s.principals.length c1,.slice q2 s.globals.length c2,.slice q3 s.arrays.length c3,.slice q4 s.channels.length c4,.slice q5 s.funcs.length c5]
def soo (s:SoZ) (q1:Option Addr) (c1:Nat) (q2:Option Addr) (c2:Nat) (q3:Option Addr) (c3:Nat) (q4:Option Addr) (c4:Nat) (q5:Option Addr) (c5:Nat):Obj:=.cells #[.slice q1 s.principals.length c1,.slice q2 s.globals.length c2,.slice q3 s.arrays.length c3,.slice q4 s.channels.length c4,.slice q5 s.funcs.length c5] 27
structure SoR (C:Cl) (s:SoZ) (q1:Option Addr) (c1:Nat) (q2 q3 q4 q5:Option Addr):Prop where
  pv:PV C (.slice q1 s.principals.length c1) s.principals
  pr:StrRow C q1 s.principals
  gl:DeRow C q2 s.globals
  ar:ArRow C q3 s.arrays
  ch:DeRow C q4 s.channels
  fn:∃ lv,FnRow C q5 s.funcs lv
  gf:(∀ d ∈ s.globals,DeF d)∧s.globals.length≤9223372036854775807
  af:(∀ d ∈ s.arrays,ArF d)∧s.arrays.length≤9223372036854775807
  cf:(∀ d ∈ s.channels,DeF d)∧s.channels.length≤9223372036854775807
  ff:s.funcs.length≤9223372036854775807
  pf:(∀ d ∈ s.principals,d.size≤140737488355327)∧s.principals.length≤9223372036854775807
section
variable {C:Cl} {B b:Nat} {vp:Value} {t:List Nat} {W:World}
theorem soo_cells {w:World} {g:Nat} {s:SoZ} {q1:Option Addr} {c1:Nat} {q2:Option Addr} {c2:Nat} {q3:Option Addr} {c3:Nat} {q4:Option Addr} {c4:Nat} {q5:Option Addr} {c5:Nat} (h:w.heap[g]?=some (soo s q1 c1 q2 c2 q3 c3 q4 c4 q5 c5)):w.cell? ⟨g,0,none⟩=some (.slice q1 s.principals.length c1)∧w.cell? ⟨g,1,none⟩=some (.slice q2 s.globals.length c2)∧w.cell? ⟨g,2,none⟩=some (.slice q3 s.arrays.length c3)∧w.cell? ⟨g,3,none⟩=some (.slice q4 s.channels.length c4)∧w.cell? ⟨g,4,none⟩=some (.slice q5 s.funcs.length c5):=⟨cell_of h rfl,cell_of h rfl,cell_of h rfl,cell_of h rfl,cell_of h rfl⟩
theorem soo_kp {w w':World} {g:Nat} {s:SoZ} {q1:Option Addr} {c1:Nat} {q2:Option Addr} {c2:Nat} {q3:Option Addr} {c3:Nat} {q4:Option Addr} {c4:Nat} {q5:Option Addr} {c5:Nat} (h:w.heap[g]?=some (soo s q1 c1 q2 c2 q3 c3 q4 c4 q5 c5)) (hk:Kp B (fun k=>k=b) w w') (hg:g ≠ b):w'.heap[g]?=some (soo s q1 c1 q2 c2 q3 c3 q4 c4 q5 c5):=hk.heap h hg (by decide)
set_option maxRecDepth 100000 in
theorem arrays_p {ns:List ByteArray} (hc:PC C B) (hv:PV C vp ns) (h:PI C B b vp t W) {q:Option Addr} {c:Nat} (l:List ArZ) (hl:(∀ d ∈ l,ArF d)∧l.length≤9223372036854775807) (hrow:ArRow C q l) :
    Calls Tryz.prog 62 #[.pointer (some ⟨b,0,none⟩),.func (.func 63) #[.pointer (some ⟨b,0,none⟩)] #[],.slice q l.length c] W (Wrote C B b vp W (t++l.flatMap (arZ ns))):=by
  have hbW:=h.b_lt
  refine (linesAr_p hc h (c:=c) l hl.2 hrow (fi:=#[.pointer (some ⟨b,0,none⟩)]) (ci:=#[]) (enters_of Tryz.func63 (by kernel_rfl) rfl) (J:=fun _ _=>True) (S:=fun k=>k=b) (fun i e=>by omega)
    (F:=fun k=>(l.take k).flatMap (arZ ns)) (I:=fun k=>if h:k<l.length then arZ ns l[k] else []) (by simp) (fun k hk=>by simp only [hk,dif_pos];exact flat_take _ _ _ hk) trivial (fun _ _ _ _ _=>trivial)
    (fun k hk x wr t' hx hp _ _=>?_)).mono ?_
  · have hm:=hl.1 x (by rw [← hx];exact List.getElem_mem hk)
    simp only [hk,dif_pos,hx]
    exact (arrayLine_p hc hv hp x hm).mono fun e w' ⟨h1,h2,h3⟩=>⟨h1,h2,trivial,h3⟩
  · rintro e w' ⟨rfl,hp',hk'⟩
    rw [List.take_length] at hp'
    exact ⟨rfl,hp',hk'⟩
set_option maxRecDepth 100000 in
theorem funcs_p {ns:List ByteArray} (hc:PC C B) (hv:PV C vp ns) (h:PI C B b vp t W) {q:Option Addr} {c:Nat} (l:List FnZ) (hl:l.length≤9223372036854775807) {lv:List FnV} (hrow:FnRow C q l lv) :
    Calls Tryz.prog 64 #[.pointer (some ⟨b,0,none⟩),.func (.func 65) #[.pointer (some ⟨b,0,none⟩)] #[],.slice q l.length c] W (Wrote C B b vp W (t++l.flatMap (fnZ ns))):=by
  have hbW:=h.b_lt
  have hlen:=hrow.len
  rw [← hlen]
  refine (linesFn_p hc h (c:=c) lv (by rw [hlen];exact hl) hrow.cells (fi:=#[.pointer (some ⟨b,0,none⟩)]) (ci:=#[]) (enters_of Tryz.func65 (by kernel_rfl) rfl) (J:=fun _ _=>True) (S:=fun k=>k=b) (fun i e=>by omega)
    (F:=fun k=>(l.take k).flatMap (fnZ ns)) (I:=fun k=>if h:k<l.length then fnZ ns l[k] else []) (by simp) (fun k hk=>by rw [hlen] at hk;simp only [hk,dif_pos];exact flat_take _ _ _ hk) trivial (fun _ _ _ _ _=>trivial)
    (fun k hk x wr t' hx hp _ _=>?_)).mono ?_
  · have hk':k<l.length:=by rw [← hlen];exact hk
    obtain ⟨q1,c1,q2,c2,q3,c3,q4,c4,h1,h2⟩:=hrow.rd k hk hk'
    rw [hx] at h1
    subst h1
    simp only [hk',dif_pos]
    exact (function_p hc hv hp l[k] c1 c2 c3 c4 h2).mono fun e w' ⟨h1,h2,h3⟩=>⟨h1,h2,trivial,h3⟩
  · rintro e w' ⟨rfl,hp',hk'⟩
    rw [hlen,List.take_length] at hp'
    exact ⟨rfl,hp',hk'⟩
end
end Go.Proofs.YtpcniebkabkikaaGreatDoor
namespace Go.Proofs.YtpcniebkabkikaaGreatDoor
open Go Go.RowKit Go.Proofs.Mm
theorem take_next {α:Type} {l l':List α} {k:Nat} (h:k<l.length) (h':k<l'.length) (ht:l.take k=l'.take k) (he:l[k]=l'[k]):l.take (k+1)=l'.take (k+1):=by
  rw [List.take_succ_eq_append_getElem h,List.take_succ_eq_append_getElem h',ht,he]
theorem take_all {α:Type} {l l':List α} {n:Nat} (h:l.length=n) (h':l'.length=n) (ht:l.take n=l'.take n):l=l':=by
  rwa [List.take_of_length_le (by omega),List.take_of_length_le (by omega)] at ht
theorem ne_at {α:Type} {l l':List α} {k:Nat} (h:k<l.length) (h':k<l'.length) (he:¬ l[k]=l'[k]):¬ l=l':=by
  intro e;subst e;exact he rfl
theorem nm_eq {a b:ByteArray}:((a.toList == b.toList)=true) ↔ a=b:=by
  rw [beq_iff_eq,Lib.toList_data,Lib.toList_data]
  constructor
  · intro h
    exact ByteArray.ext (Array.toList_inj.1 h)
  · rintro rfl;rfl
def Says (p:Prop) (w:World) (e:Ending) (w':World):Prop:=∃ b:Bool,e=.returned (.bool b)∧(b=true ↔ p)∧∃ k,w'=w.drewN k
theorem says_no {p:Prop} {w:World} {k:Nat} (h:¬ p):Says p w (.returned (.bool false)) (w.drewN k):=⟨false,rfl,by simp [h],k,rfl⟩
theorem says_no2 {p:Prop} {w:World} {a b:Nat} (h:¬ p):Says p w (.returned (.bool false)) ((w.drewN a).drewN b):=⟨false,rfl,by simp [h],_,World.drewN_drewN ..⟩
theorem says_yes {p:Prop} {w:World} {k:Nat} (h:p):Says p w (.returned (.bool true)) (w.drewN k):=⟨true,rfl,by simp [h],k,rfl⟩
open Classical in
def tb' {α:Type} (a b:α):Prop:=a=b
noncomputable instance {α:Type} (a b:α):Decidable (tb' a b):=Classical.propDecidable _
def SaysB (p:Prop) (w:World) (e:Ending) (w':World):Prop:=∃ b:Bool,e=.returned (.bool b)∧(b=true ↔ p)∧Below w.heap.size w w'
theorem Says.b {p:Prop} {w:World} {e:Ending} {w':World} (h:Says p w e w'):SaysB p w e w':=by
  obtain ⟨b,h1,h2,k,rfl⟩:=h
  exact ⟨b,h1,h2,Go.below_drewN (Below.refl _ _) k⟩
end Go.Proofs.YtpcniebkabkikaaGreatDoor
namespace Go.Proofs.YtpcniebkabkikaaGreatDoor
open Go Go.RowKit Go.Proofs.Mm
section
variable {C D:Cl} {w:World} {q q':Option Addr}
set_option maxRecDepth 100000 in
set_option maxHeartbeats 2000000 in
theorem eqStr {l l':List ByteArray} {c c':Nat} (hl:l.length≤9223372036854775807) (hl':l'.length≤9223372036854775807) (ha:StrRow C q l) (hb:StrRow D q' l') (hC:CLe C (wC w)) (hD:CLe D (wC w)):Calls Tryz.prog 66 #[.slice q l.length c,.slice q' l'.length c'] w (Says (l=l') w):=by
  obtain ⟨n,hnn⟩:∃ n,l.length=n:=⟨_,rfl⟩
  obtain ⟨n',hnn'⟩:∃ n,l'.length=n:=⟨_,rfl⟩
  have HA:=Lib.hid ha
  have HB:=Lib.hid hb
  have HCC:=Lib.hid hC
  have HDD:=Lib.hid hD
  have HN:=Lib.hid hnn
  have HN':=Lib.hid hnn'
  rw [hnn] at hl ⊢
  rw [hnn'] at hl' ⊢
  clear ha hb hnn hnn' hC hD
  by_cases hnm:n=n'
  · subst hnm
    have hneq:((n:Int) != (n:Int))=false:=by simp
    go_enter Tryz.func66,Tryz.ntmps66
    go_wp2
    go_loopw [13] (fun i wr=>∃ k nq:Nat,k≤n∧i=.int .i64 k∧wr=w.drewN nq∧Hid (l.take k=l'.take k)) (fun i _=>n - (intOf i).toNat)
    case atStart=>exact ⟨0,0,Nat.zero_le _,rfl,rfl,Lib.hid rfl⟩
    case round =>
      obtain ⟨k,nq,hk,rfl,rfl,hT⟩:=hrel
      by_cases hlt:k<n
      · have hk1:k<l.length:=by rw [HN.out];exact hlt
        have hk2:k<l'.length:=by rw [HN'.out];exact hlt
        obtain ⟨g,o,rfl,a0⟩:=HA.out k hk1
        obtain ⟨g',o',rfl,b0⟩:=HB.out k hk2
        have x0:w.cell? ⟨g,o+k,none⟩=some (.string l[k]):=HCC.out _ _ a0
        have y0:w.cell? ⟨g',o'+k,none⟩=some (.string l'[k]):=HDD.out _ _ b0
        clear a0 b0
        have hki:(k:Int)<(n:Int):=by omega
        by_cases heq:l[k]=l'[k]
        · have HT2:=Lib.hid (take_next hk1 hk2 hT.out heq)
          rw [← heq] at y0
          generalize l[k]=z0 at *
          have e0a:(z0.toList == z0.toList)=true:=by simp
          have e0b:(z0.toList != z0.toList)=false:=by simp
          have e0c:(!(z0.toList == z0.toList))=false:=by simp
          clear heq
          go_wp2
          go_quiet (fail)
          go_wp2
          exact ⟨⟨k+1,_,by omega,by go_num,rfl,HT2⟩,by simp [intOf];omega⟩
        · have HNE:=Lib.hid (ne_at hk1 hk2 heq)
          have e1:(l[k].toList == l'[k].toList)=false:=by rw [Bool.eq_false_iff];intro h;exact heq (nm_eq.1 h)
          clear heq
          generalize l[k]=z at *
          generalize l'[k]=z' at *
          have e2:(z.toList != z'.toList)=true:=by simp [bne,e1]
          have e3:(!(z.toList == z'.toList))=true:=by rw [e1];rfl
          go_wp2
          go_quiet (fail)
          go_wp2
          go_ret
          exact says_no2 HNE.out
      · obtain rfl:k=n:=by omega
        have HT2:=Lib.hid (take_all HN.out HN'.out hT.out)
        go_wp2
        go_ret
        exact says_yes HT2.out
  · have HNE:=Lib.hid (show ¬ l=l' from fun e=>hnm (by rw [← HN.out,← HN'.out,e]))
    have hneq:((n:Int) != (n':Int))=true:=by simp;omega
    go_enter Tryz.func66,Tryz.ntmps66
    go_wp2
    go_ret
    exact says_no (k:=0) HNE.out
end
end Go.Proofs.YtpcniebkabkikaaGreatDoor
