/- What the laws know of texts: parsed and checked. What the laws know. -/
import Derived.Test.YtlpdjfimefjmcaaGreatDoorFlFewerPR35
import Derived.Test.YtlpdjfimefjmcaaGreatDoorFlFewerPR20
import Derived.Test.YtlpdjfimefjmcaaGreatDoorFlFewerPR36
namespace Go.Proofs.YtlpdjfimefjmcaaGreatDoor
open Go Go.RowKit Go.Proofs.Mm
def knB (t:ByteArray) (r:Int × Int × Int):Bool:=match Q.srcOf t with
  | .ok so=>decide (smSo so) && decide (flowZ (soOf so)=r)
  | .error _=>false
set_option maxRecDepth 100000 in
set_option maxHeartbeats 4000000 in
theorem of_p (W:World) (hE:Q.Env W) (b:ByteArray) (r:Int × Int × Int) (hsz:b.size≤1000) (hk:knB ((⟨#[112,114,105,110,99,105,112,97,108,32,97,32,98,59,32,103,108,111,98,97,108,32,120,32,123,97,125,59,32,103,108,111,98,97,108,32,121,32,123,125,59,32,99,104,97,110,110,101,108,32,99,32,123,125,59,32,102,117,110,99,32,102,32,123,125,32,40,41,32,40,41,32,123,32]⟩:ByteArray)++b++⟨#[32,114,101,116,117,114,110,59,32,125]⟩) r=true) :
    Calls Tryz.prog 16 #[.string b] W (RetB (.agg (flA r)) W):=by
  have hlt:=hE.lt
  have HE:=Lib.hid hE
  clear hE
  have hk2:∃ so,Q.srcOf ((⟨#[112,114,105,110,99,105,112,97,108,32,97,32,98,59,32,103,108,111,98,97,108,32,120,32,123,97,125,59,32,103,108,111,98,97,108,32,121,32,123,125,59,32,99,104,97,110,110,101,108,32,99,32,123,125,59,32,102,117,110,99,32,102,32,123,125,32,40,41,32,40,41,32,123,32]⟩:ByteArray)++b++⟨#[32,114,101,116,117,114,110,59,32,125]⟩)=.ok so∧smSo so∧flowZ (soOf so)=r:=by
    unfold knB at hk
    split at hk
    · rename_i so hso
      rw [Bool.and_eq_true,decide_eq_true_eq,decide_eq_true_eq] at hk
      exact ⟨so,hso,hk⟩
    · cases hk
  obtain ⟨so,hso,hsm,hfl⟩:=hk2
  have HPA:=Lib.hid (fun (w:World) (hw:Q.Env w)=>Q.parse_any ((⟨#[112,114,105,110,99,105,112,97,108,32,97,32,98,59,32,103,108,111,98,97,108,32,120,32,123,97,125,59,32,103,108,111,98,97,108,32,121,32,123,125,59,32,99,104,97,110,110,101,108,32,99,32,123,125,59,32,102,117,110,99,32,102,32,123,125,32,40,41,32,40,41,32,123,32]⟩:ByteArray)++b++⟨#[32,114,101,116,117,114,110,59,32,125]⟩) w hw (m:=Mem.nil) (has_nil w))
  have HSO:=Lib.hid hso
  have HSM:=Lib.hid hsm
  have HFL:=Lib.hid hfl
  clear hk hso hsm hfl
  have HT0:=Lib.hid (InB.new W #[.int .i64 0,.int .i64 0,.int .i64 0] 33)
  have HB0:=Lib.hid (bl_al (Below.refl W.heap.size W) (.cells #[.int .i64 0,.int .i64 0,.int .i64 0] 33))
  go_enter Tryz.func16,Tryz.ntmps16
  go_wp2_with fail
  all_goals try omega
  obtain ⟨w0,hw0⟩:∃ w,W.alloc (.cells #[.int .i64 0,.int .i64 0,.int .i64 0] 33)=w:=⟨_,rfl⟩
  rw [hw0] at HT0 HB0 ⊢
  obtain ⟨b2,hb2⟩:∃ b,W.heap.size=b:=⟨_,rfl⟩
  have hbz:W.heap.size≤b2:=by omega
  simp only [hb2] at HT0 ⊢
  clear hw0
  go_at_call 35
  refine (HPA.out _ (HE.out.below HB0.out hlt)).mono ?_
  rintro e w1 hpr
  obtain ⟨hb1,⟨er,a,hs,rfl⟩ | ⟨so',q1,c1,q2,c2,q3,c3,q4,c4,q5,c5,m',hs,rfl,h1,-,h3⟩⟩:=hpr.cases
  · rw [HSO.out] at hs;cases hs
  rw [HSO.out] at hs
  injection hs with hs
  subst hs
  have HO:=Lib.hid (so_q h1 HSM.out)
  have HH:=Lib.hid (has_cle h3)
  have HB1:=Lib.hid (bl_tr HB0.out hb1)
  have HT1:=Lib.hid (HT0.out.le hb1)
  clear h1 h3 hb1 hpr HSO HT0 HPA
  unfold soOf at HO
  have HFW:=Lib.hid (fun (w:World) (hw:Below w1.heap.size w1 w)=>flows_p (W:=w) HO.out (HH.out.trans (below_cle hw)))
  unfold srV at HFW
  simp only [List.length_map] at HFW
  have HFL2:Hid (flowZ ⟨so.principals.map Q.sb,so.globals.map deOf,so.arrays.map arOf,so.channels.map deOf,so.funcs.map fnOf⟩=r):=HFL
  rw [HFL2.out] at HFW
  clear HO HH HFL HFL2
  generalize so.principals.length=n1 at *
  generalize so.globals.length=n2 at *
  generalize so.arrays.length=n3 at *
  generalize so.channels.length=n4 at *
  generalize so.funcs.length=n5 at *
  have HB2:=Lib.hid (bl_al (bl_al (Below.refl w1.heap.size w1) (.cells #[.slice q1 n1 c1,.slice q2 n2 c2,.slice q3 n3 c3,.slice q4 n4 c4,.slice q5 n5 c5] 27)) (.cells #[.int .i64 0,.int .i64 0,.int .i64 0] 33))
  go_wp2_with fail
  go_at_call 10
  refine (HFW.out _ HB2.out).mono ?_
  rintro e w2 ⟨rfl,hb3⟩
  obtain ⟨ra,rb,rc⟩:=r
  have HY:=Lib.hid (HT1.out.le (bl_tr HB2.out hb3))
  have HW:=Lib.hid (bl_tr HB1.out (bl_tr HB2.out hb3))
  clear hb3 HFW HB2 HT1 HB1
  have y0:=HY.out.cell (j:=0) (v:=.int .i64 0) rfl
  have y1:=HY.out.cell (j:=1) (v:=.int .i64 0) rfl
  have y2:=HY.out.cell (j:=2) (v:=.int .i64 0) rfl
  have f0:w2.frozen? ⟨b2,0,none⟩=false:=free_of HY.out
  have f1:w2.frozen? ⟨b2,1,none⟩=false:=free_of HY.out
  have f2:w2.frozen? ⟨b2,2,none⟩=false:=free_of HY.out
  unfold flA
  go_wp2
  have hW:=heap_set (heap_set (heap_set HY.out 0 (.int .i64 ra)) 1 (.int .i64 rb)) 2 (.int .i64 rc)
  have hWB:=((HW.out.setCell (p:=⟨b2,0,none⟩) hbz (.int .i64 ra)).setCell (p:=⟨b2,1,none⟩) hbz (.int .i64 rb)).setCell (p:=⟨b2,2,none⟩) hbz (.int .i64 rc)
  generalize ((w2.setCell _ _).setCell _ _).setCell _ _=wE at *
  have c0:=cell_of (j:=0) hW rfl
  have c1:=cell_of (j:=1) hW rfl
  have c2:=cell_of (j:=2) hW rfl
  exact bodyPost_ret (v:=.agg #[.int .i64 ra,.int .i64 rb,.int .i64 rc]) (by simp [results,Tryz.results16,go_sem,c0,c1,c2]) rfl ⟨rfl,hWB⟩
end Go.Proofs.YtlpdjfimefjmcaaGreatDoor
namespace Go.Proofs.YtlpdjfimefjmcaaGreatDoor
open Go Go.RowKit Go.Proofs.Mm
set_option maxRecDepth 100000
theorem kn0:knB ((⟨#[112,114,105,110,99,105,112,97,108,32,97,32,98,59,32,103,108,111,98,97,108,32,120,32,123,97,125,59,32,103,108,111,98,97,108,32,121,32,123,125,59,32,99,104,97,110,110,101,108,32,99,32,123,125,59,32,102,117,110,99,32,102,32,123,125,32,40,41,32,40,41,32,123,32]⟩:ByteArray)++⟨#[120,32,61,32,121,59]⟩++⟨#[32,114,101,116,117,114,110,59,32,125]⟩) (0,0,0)=true:=by decide +kernel
theorem kn1:knB ((⟨#[112,114,105,110,99,105,112,97,108,32,97,32,98,59,32,103,108,111,98,97,108,32,120,32,123,97,125,59,32,103,108,111,98,97,108,32,121,32,123,125,59,32,99,104,97,110,110,101,108,32,99,32,123,125,59,32,102,117,110,99,32,102,32,123,125,32,40,41,32,40,41,32,123,32]⟩:ByteArray)++⟨#[121,32,61,32,120,59]⟩++⟨#[32,114,101,116,117,114,110,59,32,125]⟩) (80,0,0)=true:=by decide +kernel
theorem kn2:knB ((⟨#[112,114,105,110,99,105,112,97,108,32,97,32,98,59,32,103,108,111,98,97,108,32,120,32,123,97,125,59,32,103,108,111,98,97,108,32,121,32,123,125,59,32,99,104,97,110,110,101,108,32,99,32,123,125,59,32,102,117,110,99,32,102,32,123,125,32,40,41,32,40,41,32,123,32]⟩:ByteArray)++⟨#[115,101,110,100,32,99,32,120,59]⟩++⟨#[32,114,101,116,117,114,110,59,32,125]⟩) (80,0,0)=true:=by decide +kernel
theorem kn3:knB ((⟨#[112,114,105,110,99,105,112,97,108,32,97,32,98,59,32,103,108,111,98,97,108,32,120,32,123,97,125,59,32,103,108,111,98,97,108,32,121,32,123,125,59,32,99,104,97,110,110,101,108,32,99,32,123,125,59,32,102,117,110,99,32,102,32,123,125,32,40,41,32,40,41,32,123,32]⟩:ByteArray)++⟨#[105,102,32,120,32,123,32,121,32,61,32,49,59,32,125]⟩++⟨#[32,114,101,116,117,114,110,59,32,125]⟩) (80,0,1)=true:=by decide +kernel
theorem kn4:knB ((⟨#[112,114,105,110,99,105,112,97,108,32,97,32,98,59,32,103,108,111,98,97,108,32,120,32,123,97,125,59,32,103,108,111,98,97,108,32,121,32,123,125,59,32,99,104,97,110,110,101,108,32,99,32,123,125,59,32,102,117,110,99,32,102,32,123,125,32,40,41,32,40,41,32,123,32]⟩:ByteArray)++⟨#[105,102,32,121,32,123,32,120,32,61,32,49,59,32,125,32,101,108,115,101,32,123,32,121,32,61,32,50,59,32,125,32,115,101,110,100,32,99,32,121,59]⟩++⟨#[32,114,101,116,117,114,110,59,32,125]⟩) (0,0,0)=true:=by decide +kernel
theorem kn5:knB ((⟨#[112,114,105,110,99,105,112,97,108,32,97,32,98,59,32,103,108,111,98,97,108,32,120,32,123,97,125,59,32,103,108,111,98,97,108,32,121,32,123,125,59,32,99,104,97,110,110,101,108,32,99,32,123,125,59,32,102,117,110,99,32,102,32,123,125,32,40,41,32,40,41,32,123,32]⟩:ByteArray)++⟨#[119,104,105,108,101,32,120,32,123,32,120,32,61,32,120,32,45,32,49,59,32,125,32,121,32,61,32,48,59]⟩++⟨#[32,114,101,116,117,114,110,59,32,125]⟩) (0,0,0)=true:=by decide +kernel
set_option maxHeartbeats 4000000 in
theorem known_p (W:World) (hE:Q.Env W):Calls Tryz.prog 7 #[] W (RetB (.bool true) W):=by
  have hlt:=hE.lt
  have HE:=Lib.hid (fun (w:World) (hw:Below W.heap.size W w)=>hE.below hw hlt)
  clear hE
  have H0:=Lib.hid (fun (w:World) (hw:Below W.heap.size W w)=>of_p w (HE.out w hw) ⟨#[120,32,61,32,121,59]⟩ (0,0,0) (by decide) kn0)
  have H1:=Lib.hid (fun (w:World) (hw:Below W.heap.size W w)=>of_p w (HE.out w hw) ⟨#[121,32,61,32,120,59]⟩ (80,0,0) (by decide) kn1)
  have H2:=Lib.hid (fun (w:World) (hw:Below W.heap.size W w)=>of_p w (HE.out w hw) ⟨#[115,101,110,100,32,99,32,120,59]⟩ (80,0,0) (by decide) kn2)
  have H3:=Lib.hid (fun (w:World) (hw:Below W.heap.size W w)=>of_p w (HE.out w hw) ⟨#[105,102,32,120,32,123,32,121,32,61,32,49,59,32,125]⟩ (80,0,1) (by decide) kn3)
  have H4:=Lib.hid (fun (w:World) (hw:Below W.heap.size W w)=>of_p w (HE.out w hw) ⟨#[105,102,32,121,32,123,32,120,32,61,32,49,59,32,125,32,101,108,115,101,32,123,32,121,32,61,32,50,59,32,125,32,115,101,110,100,32,99,32,121,59]⟩ (0,0,0) (by decide) kn4)
  have H5:=Lib.hid (fun (w:World) (hw:Below W.heap.size W w)=>of_p w (HE.out w hw) ⟨#[119,104,105,108,101,32,120,32,123,32,120,32,61,32,120,32,45,32,49,59,32,125,32,121,32,61,32,48,59]⟩ (0,0,0) (by decide) kn5)
  unfold flA at H0 H1 H2 H3 H4 H5
  go_enter Tryz.func7,Tryz.ntmps7
  go_wp2_with fail
  have HB:=Lib.hid (Below.refl W.heap.size W)
  go_at_call 16
  refine (H0.out _ HB.out).mono ?_
  rintro e w1 ⟨rfl,hb⟩
  have HB0:=Lib.hid (bl_tr HB.out hb)
  clear hb
  go_wp2_with fail
  go_at_call 16
  refine (H1.out _ HB0.out).mono ?_
  rintro e w2 ⟨rfl,hb⟩
  have HB1:=Lib.hid (bl_tr HB0.out hb)
  clear hb
  go_wp2_with fail
  go_at_call 16
  refine (H2.out _ HB1.out).mono ?_
  rintro e w3 ⟨rfl,hb⟩
  have HB2:=Lib.hid (bl_tr HB1.out hb)
  clear hb
  go_wp2_with fail
  go_at_call 16
  refine (H3.out _ HB2.out).mono ?_
  rintro e w4 ⟨rfl,hb⟩
  have HB3:=Lib.hid (bl_tr HB2.out hb)
  clear hb
  go_wp2_with fail
  go_at_call 16
  refine (H4.out _ HB3.out).mono ?_
  rintro e w5 ⟨rfl,hb⟩
  have HB4:=Lib.hid (bl_tr HB3.out hb)
  clear hb
  go_wp2_with fail
  go_at_call 16
  refine (H5.out _ HB4.out).mono ?_
  rintro e w6 ⟨rfl,hb⟩
  have HB5:=Lib.hid (bl_tr HB4.out hb)
  clear hb
  go_wp2_with fail
  go_ret
  exact ⟨rfl,HB5.out⟩
end Go.Proofs.YtlpdjfimefjmcaaGreatDoor
