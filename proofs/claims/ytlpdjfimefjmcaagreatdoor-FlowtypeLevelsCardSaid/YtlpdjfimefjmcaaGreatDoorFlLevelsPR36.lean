/- What the laws know of texts: parsed and checked. What the laws know. Package flowtype, plain: labels as sets; when a source has no fault; sources of the same names. Package flowtype, plain: what the three laws say of sources. -/
import Derived.Test.YtlpdjfimefjmcaaGreatDoorFlLevelsPR33
import Derived.Test.YtlpdjfimefjmcaaGreatDoorFlLevelsPR19
import Derived.Test.YtlpdjfimefjmcaaGreatDoorFlLevelsPR35
import Derived.Test.YtlpdjfimefjmcaaGreatDoorFlLevelsPR16
import Derived.Test.YtlpdjfimefjmcaaGreatDoorFlLevelsPR17
namespace Go.Proofs.YtlpdjfimefjmcaaGreatDoor
open Go Go.RowKit Go.Proofs.Mm
def knB (t:ByteArray) (r:Int × Int × Int):Bool:=match Q.srcOf t with
  | .ok so=>decide (smSo so) && decide (flowZ (soOf so)=r)
  | .error _=>false
set_option maxRecDepth 100000 in
set_option maxHeartbeats 4000000 in
theorem of_p (W:World) (hE:Q.Env W) (b:ByteArray) (r:Int × Int × Int) (hsz:b.size≤1000) (hk:knB ((⟨#[112,114,105,110,99,105,112,97,108,32,97,32,98,59,32,103,108,111,98,97,108,32,120,32,123,97,125,59,32,103,108,111,98,97,108,32,121,32,123,125,59,32,99,104,97,110,110,101,108,32,99,32,123,125,59,32,102,117,110,99,32,102,32,123,125,32,40,41,32,40,41,32,123,32]⟩:ByteArray)++b++⟨#[32,114,101,116,117,114,110,59,32,125]⟩) r=true) :
    Calls Tryz.prog 16 #[.string b] W (RetB (.agg (flA r)) W):=by
  have hlt:=hE.lt
  have HE:=Lib.hid hE
  clear hE
  have hk2:∃ so,Q.srcOf ((⟨#[112,114,105,110,99,105,112,97,108,32,97,32,98,59,32,103,108,111,98,97,108,32,120,32,123,97,125,59,32,103,108,111,98,97,108,32,121,32,123,125,59,32,99,104,97,110,110,101,108,32,99,32,123,125,59,32,102,117,110,99,32,102,32,123,125,32,40,41,32,40,41,32,123,32]⟩:ByteArray)++b++⟨#[32,114,101,116,117,114,110,59,32,125]⟩)=.ok so∧smSo so∧flowZ (soOf so)=r:=by
    unfold knB at hk
    split at hk
    · rename_i so hso
      rw [Bool.and_eq_true,decide_eq_true_eq,decide_eq_true_eq] at hk
      exact ⟨so,hso,hk⟩
    · cases hk
  obtain ⟨so,hso,hsm,hfl⟩:=hk2
  have HPA:=Lib.hid (fun (w:World) (hw:Q.Env w)=>Q.parse_any ((⟨#[112,114,105,110,99,105,112,97,108,32,97,32,98,59,32,103,108,111,98,97,108,32,120,32,123,97,125,59,32,103,108,111,98,97,108,32,121,32,123,125,59,32,99,104,97,110,110,101,108,32,99,32,123,125,59,32,102,117,110,99,32,102,32,123,125,32,40,41,32,40,41,32,123,32]⟩:ByteArray)++b++⟨#[32,114,101,116,117,114,110,59,32,125]⟩) w hw (m:=Mem.nil) (has_nil w))
  have HSO:=Lib.hid hso
  have HSM:=Lib.hid hsm
  have HFL:=Lib.hid hfl
  clear hk hso hsm hfl
  have HT0:=Lib.hid (InB.new W #[.int .i64 0,.int .i64 0,.int .i64 0] 33)
  have HB0:=Lib.hid (bl_al (Below.refl W.heap.size W) (.cells #[.int .i64 0,.int .i64 0,.int .i64 0] 33))
  go_enter Tryz.func16,Tryz.ntmps16
  go_wp2_with fail
  all_goals try omega
  obtain ⟨w0,hw0⟩:∃ w,W.alloc (.cells #[.int .i64 0,.int .i64 0,.int .i64 0] 33)=w:=⟨_,rfl⟩
  rw [hw0] at HT0 HB0 ⊢
  obtain ⟨b2,hb2⟩:∃ b,W.heap.size=b:=⟨_,rfl⟩
  have hbz:W.heap.size≤b2:=by omega
  simp only [hb2] at HT0 ⊢
  clear hw0
  go_at_call 35
  refine (HPA.out _ (HE.out.below HB0.out hlt)).mono ?_
  rintro e w1 hpr
  obtain ⟨hb1,⟨er,a,hs,rfl⟩ | ⟨so',q1,c1,q2,c2,q3,c3,q4,c4,q5,c5,m',hs,rfl,h1,-,h3⟩⟩:=hpr.cases
  · rw [HSO.out] at hs;cases hs
  rw [HSO.out] at hs
  injection hs with hs
  subst hs
  have HO:=Lib.hid (so_q h1 HSM.out)
  have HH:=Lib.hid (has_cle h3)
  have HB1:=Lib.hid (bl_tr HB0.out hb1)
  have HT1:=Lib.hid (HT0.out.le hb1)
  clear h1 h3 hb1 hpr HSO HT0 HPA
  unfold soOf at HO
  have HFW:=Lib.hid (fun (w:World) (hw:Below w1.heap.size w1 w)=>flows_p (W:=w) HO.out (HH.out.trans (below_cle hw)))
  unfold srV at HFW
  simp only [List.length_map] at HFW
  have HFL2:Hid (flowZ ⟨so.principals.map Q.sb,so.globals.map deOf,so.arrays.map arOf,so.channels.map deOf,so.funcs.map fnOf⟩=r):=HFL
  rw [HFL2.out] at HFW
  clear HO HH HFL HFL2
  generalize so.principals.length=n1 at *
  generalize so.globals.length=n2 at *
  generalize so.arrays.length=n3 at *
  generalize so.channels.length=n4 at *
  generalize so.funcs.length=n5 at *
  have HB2:=Lib.hid (bl_al (bl_al (Below.refl w1.heap.size w1) (.cells #[.slice q1 n1 c1,.slice q2 n2 c2,.slice q3 n3 c3,.slice q4 n4 c4,.slice q5 n5 c5] 27)) (.cells #[.int .i64 0,.int .i64 0,.int .i64 0] 33))
  go_wp2_with fail
  go_at_call 10
  refine (HFW.out _ HB2.out).mono ?_
  rintro e w2 ⟨rfl,hb3⟩
  obtain ⟨ra,rb,rc⟩:=r
  have HY:=Lib.hid (HT1.out.le (bl_tr HB2.out hb3))
  have HW:=Lib.hid (bl_tr HB1.out (bl_tr HB2.out hb3))
  clear hb3 HFW HB2 HT1 HB1
  have y0:=HY.out.cell (j:=0) (v:=.int .i64 0) rfl
  have y1:=HY.out.cell (j:=1) (v:=.int .i64 0) rfl
  have y2:=HY.out.cell (j:=2) (v:=.int .i64 0) rfl
  have f0:w2.frozen? ⟨b2,0,none⟩=false:=free_of HY.out
  have f1:w2.frozen? ⟨b2,1,none⟩=false:=free_of HY.out
  have f2:w2.frozen? ⟨b2,2,none⟩=false:=free_of HY.out
  unfold flA
  go_wp2
  have hW:=heap_set (heap_set (heap_set HY.out 0 (.int .i64 ra)) 1 (.int .i64 rb)) 2 (.int .i64 rc)
  have hWB:=((HW.out.setCell (p:=⟨b2,0,none⟩) hbz (.int .i64 ra)).setCell (p:=⟨b2,1,none⟩) hbz (.int .i64 rb)).setCell (p:=⟨b2,2,none⟩) hbz (.int .i64 rc)
  generalize ((w2.setCell _ _).setCell _ _).setCell _ _=wE at *
  have c0:=cell_of (j:=0) hW rfl
  have c1:=cell_of (j:=1) hW rfl
  have c2:=cell_of (j:=2) hW rfl
  exact bodyPost_ret (v:=.agg #[.int .i64 ra,.int .i64 rb,.int .i64 rc]) (by simp [results,Tryz.results16,go_sem,c0,c1,c2]) rfl ⟨rfl,hWB⟩
end Go.Proofs.YtlpdjfimefjmcaaGreatDoor
namespace Go.Proofs.YtlpdjfimefjmcaaGreatDoor
open Go Go.RowKit Go.Proofs.Mm
set_option maxRecDepth 100000
theorem kn0:knB ((⟨#[112,114,105,110,99,105,112,97,108,32,97,32,98,59,32,103,108,111,98,97,108,32,120,32,123,97,125,59,32,103,108,111,98,97,108,32,121,32,123,125,59,32,99,104,97,110,110,101,108,32,99,32,123,125,59,32,102,117,110,99,32,102,32,123,125,32,40,41,32,40,41,32,123,32]⟩:ByteArray)++⟨#[120,32,61,32,121,59]⟩++⟨#[32,114,101,116,117,114,110,59,32,125]⟩) (0,0,0)=true:=by decide +kernel
theorem kn1:knB ((⟨#[112,114,105,110,99,105,112,97,108,32,97,32,98,59,32,103,108,111,98,97,108,32,120,32,123,97,125,59,32,103,108,111,98,97,108,32,121,32,123,125,59,32,99,104,97,110,110,101,108,32,99,32,123,125,59,32,102,117,110,99,32,102,32,123,125,32,40,41,32,40,41,32,123,32]⟩:ByteArray)++⟨#[121,32,61,32,120,59]⟩++⟨#[32,114,101,116,117,114,110,59,32,125]⟩) (80,0,0)=true:=by decide +kernel
theorem kn2:knB ((⟨#[112,114,105,110,99,105,112,97,108,32,97,32,98,59,32,103,108,111,98,97,108,32,120,32,123,97,125,59,32,103,108,111,98,97,108,32,121,32,123,125,59,32,99,104,97,110,110,101,108,32,99,32,123,125,59,32,102,117,110,99,32,102,32,123,125,32,40,41,32,40,41,32,123,32]⟩:ByteArray)++⟨#[115,101,110,100,32,99,32,120,59]⟩++⟨#[32,114,101,116,117,114,110,59,32,125]⟩) (80,0,0)=true:=by decide +kernel
theorem kn3:knB ((⟨#[112,114,105,110,99,105,112,97,108,32,97,32,98,59,32,103,108,111,98,97,108,32,120,32,123,97,125,59,32,103,108,111,98,97,108,32,121,32,123,125,59,32,99,104,97,110,110,101,108,32,99,32,123,125,59,32,102,117,110,99,32,102,32,123,125,32,40,41,32,40,41,32,123,32]⟩:ByteArray)++⟨#[105,102,32,120,32,123,32,121,32,61,32,49,59,32,125]⟩++⟨#[32,114,101,116,117,114,110,59,32,125]⟩) (80,0,1)=true:=by decide +kernel
theorem kn4:knB ((⟨#[112,114,105,110,99,105,112,97,108,32,97,32,98,59,32,103,108,111,98,97,108,32,120,32,123,97,125,59,32,103,108,111,98,97,108,32,121,32,123,125,59,32,99,104,97,110,110,101,108,32,99,32,123,125,59,32,102,117,110,99,32,102,32,123,125,32,40,41,32,40,41,32,123,32]⟩:ByteArray)++⟨#[105,102,32,121,32,123,32,120,32,61,32,49,59,32,125,32,101,108,115,101,32,123,32,121,32,61,32,50,59,32,125,32,115,101,110,100,32,99,32,121,59]⟩++⟨#[32,114,101,116,117,114,110,59,32,125]⟩) (0,0,0)=true:=by decide +kernel
theorem kn5:knB ((⟨#[112,114,105,110,99,105,112,97,108,32,97,32,98,59,32,103,108,111,98,97,108,32,120,32,123,97,125,59,32,103,108,111,98,97,108,32,121,32,123,125,59,32,99,104,97,110,110,101,108,32,99,32,123,125,59,32,102,117,110,99,32,102,32,123,125,32,40,41,32,40,41,32,123,32]⟩:ByteArray)++⟨#[119,104,105,108,101,32,120,32,123,32,120,32,61,32,120,32,45,32,49,59,32,125,32,121,32,61,32,48,59]⟩++⟨#[32,114,101,116,117,114,110,59,32,125]⟩) (0,0,0)=true:=by decide +kernel
set_option maxHeartbeats 4000000 in
theorem known_p (W:World) (hE:Q.Env W):Calls Tryz.prog 7 #[] W (RetB (.bool true) W):=by
  have hlt:=hE.lt
  have HE:=Lib.hid (fun (w:World) (hw:Below W.heap.size W w)=>hE.below hw hlt)
  clear hE
  have H0:=Lib.hid (fun (w:World) (hw:Below W.heap.size W w)=>of_p w (HE.out w hw) ⟨#[120,32,61,32,121,59]⟩ (0,0,0) (by decide) kn0)
  have H1:=Lib.hid (fun (w:World) (hw:Below W.heap.size W w)=>of_p w (HE.out w hw) ⟨#[121,32,61,32,120,59]⟩ (80,0,0) (by decide) kn1)
  have H2:=Lib.hid (fun (w:World) (hw:Below W.heap.size W w)=>of_p w (HE.out w hw) ⟨#[115,101,110,100,32,99,32,120,59]⟩ (80,0,0) (by decide) kn2)
  have H3:=Lib.hid (fun (w:World) (hw:Below W.heap.size W w)=>of_p w (HE.out w hw) ⟨#[105,102,32,120,32,123,32,121,32,61,32,49,59,32,125]⟩ (80,0,1) (by decide) kn3)
  have H4:=Lib.hid (fun (w:World) (hw:Below W.heap.size W w)=>of_p w (HE.out w hw) ⟨#[105,102,32,121,32,123,32,120,32,61,32,49,59,32,125,32,101,108,115,101,32,123,32,121,32,61,32,50,59,32,125,32,115,101,110,100,32,99,32,121,59]⟩ (0,0,0) (by decide) kn4)
  have H5:=Lib.hid (fun (w:World) (hw:Below W.heap.size W w)=>of_p w (HE.out w hw) ⟨#[119,104,105,108,101,32,120,32,123,32,120,32,61,32,120,32,45,32,49,59,32,125,32,121,32,61,32,48,59]⟩ (0,0,0) (by decide) kn5)
  unfold flA at H0 H1 H2 H3 H4 H5
  go_enter Tryz.func7,Tryz.ntmps7
  go_wp2_with fail
  have HB:=Lib.hid (Below.refl W.heap.size W)
  go_at_call 16
  refine (H0.out _ HB.out).mono ?_
  rintro e w1 ⟨rfl,hb⟩
  have HB0:=Lib.hid (bl_tr HB.out hb)
  clear hb
  go_wp2_with fail
  go_at_call 16
  refine (H1.out _ HB0.out).mono ?_
  rintro e w2 ⟨rfl,hb⟩
  have HB1:=Lib.hid (bl_tr HB0.out hb)
  clear hb
  go_wp2_with fail
  go_at_call 16
  refine (H2.out _ HB1.out).mono ?_
  rintro e w3 ⟨rfl,hb⟩
  have HB2:=Lib.hid (bl_tr HB1.out hb)
  clear hb
  go_wp2_with fail
  go_at_call 16
  refine (H3.out _ HB2.out).mono ?_
  rintro e w4 ⟨rfl,hb⟩
  have HB3:=Lib.hid (bl_tr HB2.out hb)
  clear hb
  go_wp2_with fail
  go_at_call 16
  refine (H4.out _ HB3.out).mono ?_
  rintro e w5 ⟨rfl,hb⟩
  have HB4:=Lib.hid (bl_tr HB3.out hb)
  clear hb
  go_wp2_with fail
  go_at_call 16
  refine (H5.out _ HB4.out).mono ?_
  rintro e w6 ⟨rfl,hb⟩
  have HB5:=Lib.hid (bl_tr HB4.out hb)
  clear hb
  go_wp2_with fail
  go_ret
  exact ⟨rfl,HB5.out⟩
end Go.Proofs.YtlpdjfimefjmcaaGreatDoor
namespace Go.Proofs.YtlpdjfimefjmcaaGreatDoor
open Go
theorem minus_zero {a b:Nat}:minusN a b=0 ↔ ∀ i,a.testBit i=true→(b ^^^ 18446744073709551615).testBit i=false:=by
  constructor
  · intro h i hi
    have:=congrArg (fun x=>x.testBit i) h
    simp only [minusN,Nat.testBit_and,Nat.zero_testBit,hi,Bool.true_and] at this
    exact this
  · intro h
    apply Nat.eq_of_testBit_eq
    intro i
    rw [Nat.zero_testBit]
    unfold minusN
    rw [Nat.testBit_and]
    cases ha:a.testBit i with
    | false=>rfl
    | true=>rw [h i ha];rfl
theorem mask_bit (i:Nat):(18446744073709551615:Nat).testBit i=decide (i<64):=Nat.testBit_two_pow_sub_one 64 i
theorem bit_lt {a i:Nat} (ha:a<u64B) (h:a.testBit i=true):i<64:=by
  apply Classical.byContradiction
  intro hi
  have h2:2 ^ 64≤2 ^ i:=Nat.pow_le_pow_right (by decide) (by omega)
  have:=Nat.testBit_lt_two_pow (x:=a) (i:=i) (Nat.lt_of_lt_of_le ha h2)
  rw [h] at this
  cases this
theorem sub_iff {a b:Nat} (ha:a<u64B):minusN a b=0 ↔ ∀ i,a.testBit i=true→b.testBit i=true:=by
  rw [minus_zero]
  constructor
  · intro h i hi
    have h1:=h i hi
    rw [Nat.testBit_xor,mask_bit,decide_eq_true (bit_lt ha hi)] at h1
    simpa using h1
  · intro h i hi
    rw [Nat.testBit_xor,mask_bit,decide_eq_true (bit_lt ha hi),h i hi]
    rfl
theorem within_iff {a b:Nat} (ha:a<u64B):within a b=true ↔ ∀ i,a.testBit i=true→b.testBit i=true:=by
  unfold within
  rw [beq_iff_eq,sub_iff ha]
theorem within_up {a b m:Nat} (ha:a<u64B) (h:within a b=true):within a (b ||| m)=true:=by
  rw [within_iff ha] at h ⊢
  intro i hi
  rw [Nat.testBit_or,h i hi]
  rfl
theorem within_self {a:Nat} (ha:a<u64B):within a a=true:=(within_iff ha).2 fun _ h=>h
theorem within_right {a b c:Nat} (ha:a<u64B) (hb:b<u64B) (h:within (a ||| b) c=true):within b c=true:=by
  have hab:a ||| b<u64B:=Nat.or_lt_two_pow (n:=64) ha hb
  rw [within_iff hab] at h
  rw [within_iff hb]
  intro i hi
  exact h i (by rw [Nat.testBit_or,hi,Bool.or_true])
section
variable {s s':SoZ} {nest:List Int→Bool}
structure FnGood (nest:List Int→Bool) (s:SoZ) (f:Nat) (d:FnZ):Prop where
  len:(decide (d.params.length≤8) && decide (d.results.length≤4) && decide (d.vars.length≤32) && decide (d.body.length≤256))=true
  lvl:lblE s d.level=0
  loc:locE s f (d.params++d.vars) 0=0
  res:lbsE s d.results=0
  bdy:(nest (d.body.map StZ.kind) && decide (deepZ d.body 0 0≤12) && onceZ d.body)=true
  sts:∀ x ∈ d.body,stE s f x=0
theorem fnE_good {f:Nat} {d:FnZ} (h:fnE nest s f d=none):FnGood nest s f d:=by
  unfold fnE at h
  simp only at h
  split at h
  · rename_i he
    have hz:=fst0_zero he
    exact ⟨unl_zero (by decide) (hz _ (.head _)),hz _ (.tail _ (.head _)),hz _ (.tail _ (.tail _ (.head _))),hz _ (.tail _ (.tail _ (.tail _ (.head _)))),unl_zero (by decide) (hz _ (.tail _ (.tail _ (.tail _ (.tail _ (.head _)))))),body_none h⟩
  · cases h
theorem badF_none {f:Nat}:∀ {l:List StZ} {ls:List Nat} {i:Nat},badF s f l ls i=none ↔ ∀ j (h1:j<l.length) (h2:j<ls.length),keepsZ s f l[j] ls[j]=true
  | [],ls,i=>by simp [badF]
  | x :: l,[],i=>by simp [badF]
  | x :: l,lv :: ls,i=>by
    rw [badF]
    constructor
    · intro h j h1 h2
      split at h
      · rename_i hk
        cases j with
        | zero=>exact hk
        | succ j=>exact badF_none.1 h j (by simpa using h1) (by simpa using h2)
      · cases h
    · intro h
      have h0:keepsZ s f x lv=true:=h 0 (by simp) (by simp)
      rw [if_pos h0]
      exact badF_none.2 fun j h1 h2=>h (j+1) (by simpa using h1) (by simpa using h2)
theorem flowsF_none:∀ {l:List FnZ} {f:Nat},flowsF s l f=none ↔ ∀ j (hj:j<l.length),badF s (f+j) l[j].body (levelsZ s (f+j)) 0=none
  | [],f=>by simp [flowsF]
  | d :: l,f=>by
    rw [flowsF]
    constructor
    · intro h j hj
      cases hb:badF s f d.body (levelsZ s f) 0 with
      | some i=>rw [hb] at h;cases h
      | none =>
        rw [hb] at h
        cases j with
        | zero=>exact hb
        | succ j =>
          have:=flowsF_none.1 h j (by simpa using hj)
          rw [show f+(j+1)=f+1+j by omega]
          exact this
    · intro h
      rw [show badF s f d.body (levelsZ s f) 0=none from h 0 (by simp)]
      apply flowsF_none.2
      intro j hj
      have:=h (j+1) (by simpa using hj)
      rwa [show f+(j+1)=f+1+j by omega] at this
theorem flow_zero:flowZ s=(0,0,0) ↔ chkZ nstZ s=(0,0,0)∧∀ f (hf:f<s.funcs.length) j (h1:j<s.funcs[f].body.length) (h2:j<(levelsZ s f).length),keepsZ s f s.funcs[f].body[j] (levelsZ s f)[j]=true:=by
  unfold flowZ
  constructor
  · intro h
    split at h
    · rename_i hc
      refine ⟨hc,fun f hf=>?_⟩
      cases hfl:flowsF s s.funcs 0 with
      | some p=>rw [hfl] at h;simp at h
      | none =>
        have:=flowsF_none.1 hfl f hf
        rw [Nat.zero_add] at this
        exact badF_none.1 this
    · rename_i hc
      exact absurd h hc
  · rintro ⟨hc,h⟩
    rw [if_pos hc]
    have:flowsF s s.funcs 0=none:=flowsF_none.2 fun j hj=>by
      rw [Nat.zero_add]
      exact badF_none.2 (h j hj)
    rw [this]
def sgF (d:FnZ):ByteArray × List ByteArray × List ByteArray × Nat:=(d.name,d.params.map DeZ.name,d.vars.map DeZ.name,d.results.length)
structure Nm (s s':SoZ):Prop where
  p:s'.principals=s.principals
  g:s'.globals.map DeZ.name=s.globals.map DeZ.name
  a:s'.arrays.map (fun d=>(d.name,d.len))=s.arrays.map (fun d=>(d.name,d.len))
  c:s'.channels.map DeZ.name=s.channels.map DeZ.name
  f:s'.funcs.map sgF=s.funcs.map sgF
theorem Nm.fns (h:Nm s s') (k:Nat):(s'.funcs[k]?).map sgF=(s.funcs[k]?).map sgF:=by
  rw [← List.getElem?_map,← List.getElem?_map,h.f]
theorem Nm.fn (h:Nm s s') {k:Nat} {d:FnZ} (hd:s.funcs[k]?=some d):∃ d',s'.funcs[k]?=some d'∧sgF d'=sgF d:=by
  have:=h.fns k
  rw [hd] at this
  cases hd':s'.funcs[k]? with
  | none=>rw [hd'] at this;cases this
  | some d'=>rw [hd'] at this;exact ⟨d',rfl,Option.some.inj this⟩
theorem Nm.fno (h:Nm s s') {k:Nat} (hd:s.funcs[k]?=none):s'.funcs[k]?=none:=by
  have:=h.fns k
  rw [hd] at this
  cases hd':s'.funcs[k]? with
  | none=>rfl
  | some d'=>rw [hd'] at this;cases this
theorem sgF_of {d d':FnZ} (h:sgF d'=sgF d):d'.name=d.name∧d'.params.map DeZ.name=d.params.map DeZ.name∧d'.vars.map DeZ.name=d.vars.map DeZ.name∧d'.results.length=d.results.length∧d'.params.length=d.params.length∧d'.vars.length=d.vars.length:=by
  unfold sgF at h
  simp only [Prod.mk.injEq] at h
  obtain ⟨a,b,c,e⟩:=h
  exact ⟨a,b,c,e,by simpa using congrArg List.length b,by simpa using congrArg List.length c⟩
theorem Nm.loc (h:Nm s s') (f:Int) (n:ByteArray):locZ s' f n=locZ s f n:=by
  unfold locZ
  split
  · rfl
  · cases hd:s.funcs[f.toNat]? with
    | none=>rw [h.fno hd]
    | some d =>
      obtain ⟨d',e,hs⟩:=h.fn hd
      obtain ⟨_,h1,h2,_,h3,_⟩:=sgF_of hs
      rw [e]
      simp only [h1,h2,h3]
theorem Nm.fnd (h:Nm s s') (f:Int) (n:ByteArray):fndZ s' f n=fndZ s f n:=by
  have ha:s'.arrays.map ArZ.name=s.arrays.map ArZ.name:=by
    have:=congrArg (List.map Prod.fst) h.a
    simpa [List.map_map,Function.comp_def] using this
  have hf:s'.funcs.map FnZ.name=s.funcs.map FnZ.name:=by
    have:=congrArg (List.map Prod.fst) h.f
    simpa [List.map_map,Function.comp_def,sgF] using this
  unfold fndZ
  rw [h.loc,h.g,h.c,ha,hf]
theorem Nm.len (h:Nm s s'):s'.funcs.length=s.funcs.length:=by simpa using congrArg List.length h.f
theorem Nm.cnt (h:Nm s s') (f:Nat) (x:StZ):cntE s' f x=cntE s f x:=by
  unfold cntE
  rw [h.fnd]
  split
  · cases hd:s.funcs[((fndZ s (f:Int) x.name).getD (0,0)).2]? with
    | none=>rw [h.fno hd]
    | some d =>
      obtain ⟨d',e,hs⟩:=h.fn hd
      obtain ⟨_,_,_,h4,h3,_⟩:=sgF_of hs
      rw [e]
      simp only [h3,h4]
  · split
    · cases hd:s.funcs[f]? with
      | none=>rw [h.fno hd]
      | some d =>
        obtain ⟨d',e,hs⟩:=h.fn hd
        obtain ⟨_,_,_,h4,_⟩:=sgF_of hs
        rw [e]
        simp only [h4]
    · rfl
theorem Nm.st (h:Nm s s') (f:Nat) (x:StZ):stE s' f x=stE s f x:=by
  have hu:useE s' f=useE s f:=by
    funext u
    unfold useE
    rw [h.fnd]
  unfold stE usesE
  rw [hu,h.cnt]
section
variable {bad:Prop}
end
structure Lb (s s':SoZ):Prop extends Nm s s' where
  lb:∀ f kd k,kd ≠ 4→lblZ s' f kd k=lblZ s f kd k
theorem Lb.nmd (h:Lb s s') (f:Nat) (n:ByteArray) {ks:List Nat} (hk:4 ∉ ks):nmdZ s' f n ks=nmdZ s f n ks:=by
  unfold nmdZ
  rw [h.toNm.fnd]
  cases fndZ s (f:Int) n with
  | none=>rfl
  | some z =>
    obtain ⟨kd,k⟩:=z
    simp only
    split
    · rename_i hm
      rw [h.lb f kd k (fun e=>hk (e ▸ hm))]
    · rfl
theorem Lb.tm (h:Lb s s') (f:Nat) (t:TmZ):tmL s' f t=tmL s f t:=by
  unfold tmL
  rw [h.nmd f t.name (by decide),h.nmd f t.name (by decide)]
theorem Lb.ex (h:Lb s s') (f:Nat):∀ (l:List TmZ) (a:Nat),exL s' f l a=exL s f l a
  | [],_=>rfl
  | t :: l,a=>by
    unfold exL
    rw [h.tm]
    cases tmL s f t with
    | none=>rfl
    | some x=>exact h.ex f l _
end
end Go.Proofs.YtlpdjfimefjmcaaGreatDoor
namespace Go.Proofs.YtlpdjfimefjmcaaGreatDoor
open Go
theorem getD_mem {l:List Nat} {i:Nat} (h:i<l.length):l.getD i 0 ∈ l:=by
  rw [List.getD_eq_getElem?_getD,List.getElem?_eq_getElem h]
  exact List.getElem_mem h
section
variable {s s':SoZ}
theorem lv_all {f lv:Nat} (hlv:lv<u64B):∀ (l:List StZ) (row:List Nat) (st:List Bool),Syn.nest ((l.map StZ.kind).map Int.toNat) st=some []→row.length=st.length+1→row.getD 0 0=lv→(∀ x ∈ row,within lv x=true) →
    ∀ i,i<l.length→within lv ((lvF s f l row).getD i 0)=true∧(i+1=l.length→(lvF s f l row).getD i 0=lv)
  | [],_,_,_,_,_,_,i,hi=>absurd hi (by simp)
  | x :: l,row,st,hn,hr,h0,hw,i,hi=>by
    obtain ⟨st',hn',hs,h6⟩:=nest_step hn
    have hz:lvZ1 x row=row.getD (arZ x row - 1) 0:=rfl
    have ha:arZ x row=if x.kind=6 ∨ x.kind=8 then row.length - 1 else row.length:=rfl
    have hlt:arZ x row - 1<row.length:=by rw [ha];split <;> omega
    have hlw:within lv (lvZ1 x row)=true:=by rw [hz];exact hw _ (getD_mem hlt)
    rw [lvF]
    cases i with
    | zero =>
      refine ⟨hlw,fun he=>?_⟩
      have hl:l=[]:=List.eq_nil_of_length_eq_zero (by simpa using he.symm)
      subst hl
      have hst':st'=[]:=by simpa [Syn.nest] using hn'
      subst hst'
      show lvZ1 x row=lv
      rw [hz,show arZ x row - 1=0 from ?_,h0]
      rw [ha]
      split at hs
      · simp at hs
      · split at hs
        · rename_i h8
          rw [if_pos (.inr h8),hr,hs];rfl
        · rename_i h8
          have hst:st.length=0:=hs.symm
          by_cases hk:x.kind=6
          · have:=h6 hk;omega
          · rw [if_neg (by omega),hr,hst]
    | succ i =>
      have hi':i<l.length:=by simpa using hi
      have h0r:row.getD 0 0=lv:=h0
      have hrow:∃ y r,row=y :: r:=List.exists_cons_of_length_pos (by omega)
      obtain ⟨y,r,hyr⟩:=hrow
      have hrw:(rowZ s f x row).length=st'.length+1∧(rowZ s f x row).getD 0 0=lv∧∀ z ∈ rowZ s f x row,within lv z=true:=by
        unfold rowZ
        split at hs
        · rename_i h57
          rw [if_pos h57]
          refine ⟨by simp;omega,?_,fun z hz'=>?_⟩
          · rw [hyr] at h0r ⊢;exact h0r
          · rcases List.mem_append.1 hz' with hz' | hz'
            · exact hw z hz'
            · rw [List.mem_singleton.1 hz'];exact within_up hlv hlw
        · rename_i h57
          rw [if_neg h57]
          split at hs
          · rename_i h8
            rw [if_pos h8]
            have ha8:arZ x row=row.length - 1:=by rw [ha,if_pos (.inr h8)]
            rw [ha8]
            refine ⟨by rw [List.length_take];omega,?_,fun z hz'=>hw z (List.mem_of_mem_take hz')⟩
            rw [hyr] at h0r ⊢
            rw [hyr] at hr
            obtain ⟨m,hm⟩:∃ m,(y :: r).length - 1=m+1:=⟨(y :: r).length - 2,by omega⟩
            rw [hm,List.take_succ_cons]
            exact h0r
          · rename_i h8
            rw [if_neg h8]
            exact ⟨by omega,h0r,hw⟩
      obtain ⟨r1,r2,r3⟩:=hrw
      have:=lv_all (f:=f) hlv l _ st' hn' r1 r2 r3 i hi'
      refine ⟨this.1,fun he=>this.2 (by simpa using he)⟩
theorem nst_nest {ks:List Int} (h:nstZ ks=true):Syn.nest (ks.map Int.toNat) []=some []:=(Syn.endsM_nest _).1 h
theorem levels_at {f:Nat} (hf:f<s.funcs.length) (hn:nstZ (s.funcs[f].body.map StZ.kind)=true):levelsZ s f=lvF s f s.funcs[f].body [s.funcs[f].level]:=by
  unfold levelsZ
  rw [List.getElem?_eq_getElem hf]
  simp only [hn,if_true]
theorem levels_facts {f:Nat} (hf:f<s.funcs.length) (hn:nstZ (s.funcs[f].body.map StZ.kind)=true) (hlv:s.funcs[f].level<u64B) :
    (levelsZ s f).length=s.funcs[f].body.length∧∀ i,i<s.funcs[f].body.length→within s.funcs[f].level ((levelsZ s f).getD i 0)=true∧(i=0→(levelsZ s f).getD i 0=s.funcs[f].level)∧(i+1=s.funcs[f].body.length→(levelsZ s f).getD i 0=s.funcs[f].level):=by
  rw [levels_at hf hn]
  refine ⟨lvF_length _ _ _ _,fun i hi=>?_⟩
  obtain ⟨h1,h2⟩:=lv_all (s:=s) (f:=f) hlv s.funcs[f].body [s.funcs[f].level] [] (nst_nest hn) rfl rfl (fun x hx=>by rw [List.mem_singleton.1 hx];exact within_self hlv) i hi
  refine ⟨h1,fun h0=>?_,h2⟩
  subst h0
  cases hb:s.funcs[f].body with
  | nil=>rw [hb] at hi;simp at hi
  | cons x l =>
    rw [lvF]
    show lvZ1 x _=_
    unfold lvZ1 arZ
    split <;> rfl
theorem levels_none {f:Nat} (hf:f<s.funcs.length) (hn:nstZ (s.funcs[f].body.map StZ.kind)=false):levelsZ s f=[]:=by
  unfold levelsZ
  rw [List.getElem?_eq_getElem hf]
  simp only [hn]
  rfl
theorem fn_good (h:chkZ nstZ s=(0,0,0)) {f:Nat} (hf:f<s.funcs.length):FnGood nstZ s f s.funcs[f]:=by
  have:=fns_none (chk_zero h).2 f hf
  rw [Nat.zero_add] at this
  exact fnE_good this
theorem st_uses {f:Nat} {x:StZ} (h:stE s f x=0):usesE s f x=0:=fst0_zero h _ (by simp)
theorem send_good (h:flowZ s=(0,0,0)) {f:Nat} (hf:f<s.funcs.length) {i:Nat} (hi:i<s.funcs[f].body.length) (hk:s.funcs[f].body[i].kind=3) (hb:∀ l,exsL s f l<u64B) (hlb:∀ x ∈ levelsZ s f,x<u64B) :
    ∃ j,∃ hj:j<s.channels.length,fndZ s (f:Int) s.funcs[f].body[i].name=some (4,j)∧within ((levelsZ s f).getD i 0) s.channels[j].label=true:=by
  obtain ⟨hc,hkp⟩:=flow_zero.1 h
  have hlen:=levels_length hc hf
  have hkeep:=hkp f hf i hi (by omega)
  have hst:=(fn_good hc hf).sts _ (List.getElem_mem hi)
  generalize hx:s.funcs[f].body[i]=x at *
  obtain ⟨k,j,hz,hkk⟩:=use_found (st_uses hst) (u:=(x.name,4)) (by unfold usesZ;simp [hk])
  obtain rfl:k=4:=by simpa using hkk
  have hr:=fnd_ref hz
  unfold RefOk at hr
  have hj:j<s.channels.length:=by simpa using hr
  refine ⟨j,hj,hz,?_⟩
  have e:keepsZ s f x (levelsZ s f)[i]=within (exsL s f x.exprs ||| (levelsZ s f)[i]) (toZ s f x.name):=by
    unfold keepsZ
    simp [hk]
  rw [e] at hkeep
  have ht:toZ s f x.name=s.channels[j].label:=by
    unfold toZ lblZ
    rw [show fndZ s (f:Int) x.name=some (4,j) from hz]
    simp [hj]
  rw [ht] at hkeep
  have h2:i<(levelsZ s f).length:=by omega
  rw [List.getD_eq_getElem?_getD,List.getElem?_eq_getElem h2]
  exact within_right (hb _) (hlb _ (List.getElem_mem h2)) hkeep
theorem lvF_lt {f:Nat} (hb:∀ l,exsL s f l<u64B):∀ (l:List StZ) (row:List Nat),(∀ x ∈ row,x<u64B)→∀ x ∈ lvF s f l row,x<u64B
  | [],_,_,x,hx=>by cases hx
  | y :: l,row,hr,x,hx=>by
    have hd:∀ j,row.getD j 0<u64B:=fun j=>by
      by_cases hj:j<row.length
      · exact hr _ (getD_mem hj)
      · rw [List.getD_eq_getElem?_getD,List.getElem?_eq_none (by omega)];show (0:Nat)<u64B;decide
    rw [lvF] at hx
    rcases List.mem_cons.1 hx with rfl | hx
    · exact hd _
    · refine lvF_lt hb l _ (fun z hz=>?_) x hx
      unfold rowZ at hz
      split at hz
      · rcases List.mem_append.1 hz with hz | hz
        · exact hr z hz
        · rw [List.mem_singleton.1 hz]
          exact Nat.or_lt_two_pow (n:=64) (hd _) (hb _)
      · split at hz
        · exact hr z (List.mem_of_mem_take hz)
        · exact hr z hz
theorem levels_lt {f:Nat} (hb:∀ l,exsL s f l<u64B) (hv:∀ hf:f<s.funcs.length,s.funcs[f].level<u64B):∀ x ∈ levelsZ s f,x<u64B:=by
  intro x hx
  unfold levelsZ at hx
  cases hd:s.funcs[f]? with
  | none=>rw [hd] at hx;cases hx
  | some d =>
    obtain ⟨hf,rfl⟩:=List.getElem?_eq_some_iff.1 hd
    rw [hd] at hx
    simp only at hx
    split at hx
    · exact lvF_lt hb _ _ (fun z hz=>by rw [List.mem_singleton.1 hz];exact hv hf) x hx
    · cases hx
theorem chk_ne {nest:List Int→Bool} (h:(chkZ nest s).1=0):chkZ nest s=(0,0,0):=by
  unfold chkZ at h ⊢
  cases hd:declsZE s with
  | some p =>
    obtain ⟨a,e⟩:=p
    rw [hd] at h
    have:=decls_err hd
    simp only at h
    omega
  | none =>
    rw [hd] at h
    cases hf:fnsF nest s s.funcs 0 with
    | none=>rfl
    | some p =>
      obtain ⟨f,a,e⟩:=p
      rw [hf] at h
      have:=fns_err hf
      simp only at h
      omega
theorem flow_ne (h:(flowZ s).1=0):flowZ s=(0,0,0):=by
  unfold flowZ at h ⊢
  split at h
  · rename_i hc
    rw [if_pos hc]
    cases hf:flowsF s s.funcs 0 with
    | none=>rfl
    | some p=>rw [hf] at h;simp at h
  · rename_i hc
    exact absurd (chk_ne h) hc
end
end Go.Proofs.YtlpdjfimefjmcaaGreatDoor
