/- A part of the proof of PrintBack: contracts and plain facts. -/
import Derived.Test.YtpcniebkabkikaaGreatDoorPBqR14
import Derived.Test.YtpcniebkabkikaaGreatDoorPBqR9
import Derived.Deep.QuietTactic
import Derived.BigQuiet
import Derived.Deep.Cut
set_option maxRecDepth 100000
set_option maxHeartbeats 8000000
open Go.Lib (hid)
open Go.Proofs.Tryz
open Go.World renaming alloc_heap_new → nwn, size_alloc → nwz
namespace Go.Proofs.YtpcniebkabkikaaGreatDoor
open Go Go.RowKit Go.Proofs.Mm
section
variable {C:Cl} {B b:Nat} {vp:Value} {t:List Nat} {W:World}
theorem tm_ (w:World):Calls prog 115 #[] w fun e w'=>e=.returned (.tuple #[])∧w=w':=by
 go_enter func115,ntmps115
 first|(go_wp2;go_end0)|go_end0
 exact ⟨rfl,rfl⟩
theorem tn_ (hc:PC C B) (h:PI C B b vp t W) {q:Option Addr} {c:Nat} (l:List FnV) (hl:l.length≤9223372036854775807) (hrow:∀j (hj:j<l.length),∃g o,q=some ⟨g,o,none⟩∧C ⟨g,o+j*6,none⟩=some (.string l[j].nm)∧C ⟨g,o+j*6+1,none⟩=some (.int .u64 (l[j].lv:Nat))∧C ⟨g,o+j*6+2,none⟩=some (.slice l[j].q1 l[j].n1 l[j].c1)∧C ⟨g,o+j*6+3,none⟩=some (.slice l[j].q2 l[j].n2 l[j].c2)∧C ⟨g,o+j*6+4,none⟩=some (.slice l[j].q3 l[j].n3 l[j].c3)∧C ⟨g,o+j*6+5,none⟩=some (.slice l[j].q4 l[j].n4 l[j].c4))
 {Ki:Nat} {fi ci:Array Value} (ei:∀args w,(callFunc Ki args).run prog w=.ok (.enter Ki args) w)
 {J:Nat→World→Prop} {S:Nat→Prop} (hS:∀i,S i→i<W.heap.size) {F I:Nat→List Nat} (hF0:F 0=[]) (hF:∀k,k<l.length→F (k+1)=F k++[]++I k) (h0:J 0 W)
 (hJ:∀k wr w',J k wr→Below wr.heap.size wr w'→J k w')
 (hit:∀k (hk:k<l.length) x wr t',l[k]=x→PI C B b vp t' wr→J k wr→Kp B S W wr→Calls prog Ki (fi++#[.agg #[.string x.nm,.int .u64 (x.lv:Nat),.slice x.q1 x.n1 x.c1,.slice x.q2 x.n2 x.c2,.slice x.q3 x.n3 x.c3,.slice x.q4 x.n4 x.c4]]++ci) wr fun e w'=>e=.returned (.tuple #[])∧PI C B b vp (t'++I k) w'∧J (k+1) w'∧Kp B S wr w') :
 Calls prog 64 #[.pointer (some ⟨b,0,none⟩),.func (.func Ki) fi ci,.slice q l.length c] W fun e w'=>e=.returned (.tuple #[])∧PI C B b vp (t++F l.length) w'∧Kp B S W w':=by
 have HX:=hid (x3_ hc h (c:=c) l hl hrow (Ka:=115) (ca:=#[]) (enters_of func115 (by kernel_rfl) rfl) ei (J':=J) hS hF0 hF h0 hJ
  (fun k wr t' _ hp hj _=>(tm_ wr).mono fun e w' ⟨he,hw⟩=>by subst hw;exact ⟨he,by rw [List.append_nil];exact hp,hj,Kp.refl _ _ _⟩) hit)
 obtain ⟨n,hn⟩:∃n,l.length=n:=⟨_,rfl⟩
 rw [hn] at HX ⊢
 clear hrow hit hn h hc hl hF hF0 h0 hJ hS
 go_enter func64,ntmps64
 go_wp2_with fail
 go_at_call 114
 refine HX.out.mono ?_
 rintro e w2 ⟨rfl,hp2,hk2⟩
 go_wp2_with fail
 first|go_end0|refine bodyPost_ret (results_none rfl _ _ _) rfl ?_
 exact ⟨rfl,hp2,hk2⟩
end
end Go.Proofs.YtpcniebkabkikaaGreatDoor
namespace Go.Proofs.YtpcniebkabkikaaGreatDoor
open Go Go.RowKit Go.Proofs.Mm
open List renaming setIfInBounds_toArray → n1,set_cons_zero → n2,set_cons_succ → n3,getElem_toArray → n4,getElem_cons_zero → n5,getElem_cons_succ → n6
section
variable {C:Cl} {B b:Nat} {vp:Value} {t:List Nat} {W:World} {ns:List ByteArray}
theorem to_:∀(k n:Nat),0<k→n<10 ^ k→(Lib.decDigits n).length≤k
 | 0,_,h,_=>by omega
 | k+1,n,_,hn=>by
  unfold Lib.decDigits
  split
  ·simp
  ·rename_i h10
   rw [List.length_append,List.length_singleton]
   rcases Nat.eq_zero_or_pos k with rfl|hk
   ·simp at hn;omega
   ·have:=to_ k (n / 10) hk (by rw [Nat.pow_succ] at hn;omega)
    omega
theorem itN_len (x:Int) (h1:-9223372036854775808≤x) (h2:x≤9223372036854775807):(itN x).length≤1000:=by
 have h:(dgN x.natAbs).length≤20:=by
  unfold dgN
  rw [List.length_map]
  exact to_ 20 x.natAbs (by decide) (by omega)
 unfold itN
 split
 ·rw [List.length_cons];omega
 ·omega
theorem itoa_b (hE:EnvP W) (x:Int) (h1:-9223372036854775808≤x) (h2:x≤9223372036854775807):Calls prog 112 #[.int .i64 x] W fun e w'=>∃z,e=.returned (.string z)∧bl z=itN x∧Below W.heap.size W w':=by
 refine (Tryz.strconv_Itoa x h1 h2 W hE.pow).mono ?_
 rintro e w' ⟨rfl,k,os,rfl⟩
 refine ⟨_,rfl,?_,Lib.below_grow _ _ (Nat.le_refl _) k os⟩
 rw [zn_]
 unfold Lib.itoa itN dgN
 split
 ·rfl
 ·rename_i hx
  rw [show x.toNat=x.natAbs by omega]
def av (a:ArZ):Value:=.agg #[.string a.name,.int .i64 a.len,.int .u64 (a.label:Nat)]
def ao (a:ArZ):Obj:=.cells #[.string a.name,.int .i64 a.len,.int .u64 (a.label:Nat)] 72
def ArF (a:ArZ):Prop:=a.name.size≤140737488355327∧-9223372036854775808≤a.len∧a.len≤9223372036854775807∧a.label<18446744073709551616
theorem fu_ {w:World} {g:Nat} {a:ArZ} (h:w.heap[g]?=some (ao a)):w.cell? ⟨g,0,none⟩=some (.string a.name)∧w.cell? ⟨g,1,none⟩=some (.int .i64 a.len)∧w.cell? ⟨g,2,none⟩=some (.int .u64 (a.label:Nat)):=⟨aa_ h rfl,aa_ h rfl,aa_ h rfl⟩
theorem ao_kp {w w':World} {g:Nat} {a:ArZ} (h:w.heap[g]?=some (ao a)) (hk:Kp B (fun k=>k=b) w w') (hg:g≠b):w'.heap[g]?=some (ao a):=hk.heap h hg (by decide)
theorem ol_ (hc:PC C B) (hv:PV C vp ns) (h:PI C B b vp t W) (a:ArZ) (ha:ArF a) :
 Calls prog 63 #[.pointer (some ⟨b,0,none⟩),av a] W (Wrote C B b vp W (t++arZ ns a)):=by
 have hne:W.heap.size≠b:=by have:=h.b_lt;omega
 have HP1:=hid (h.alloc hc (ao a))
 have HK1:=hid ((Kp.refl B (fun k=>k=b) W).alloc h.low (ao a))
 have HX1:=hid (nwn W (ao a))
 have HC:=hid hc
 have HV:=hid hv
 have HA:=hid ha
 have hmx:prog.follows .mixedOrders=true:=by kernel_rfl
 unfold ao at HP1 HK1 HX1
 unfold av
 clear h hc hv ha
 go_enter func63,ntmps63
 go_upto_region 1 with fail
 generalize (W.alloc _:World)=w1 at *
 have HPd:=hid (HP1.out.all HC.out (Below.refl _ w1).drew)
 have HKd:=hid (show Kp B (fun k=>k=b) W w1.drew from HK1.out.drewN 1)
 have HXd:=hid (show w1.drew.heap[W.heap.size]?=some (ao a) from HX1.out)
 have HI:=hid (itoa_b HPd.out.env a.len HA.out.2.1 HA.out.2.2.1)
 have hS0:=fu_ HXd.out
 refine wp_region_held_drew (S:=(fun w':World=>w'.cell? ⟨W.heap.size,0,none⟩=some (.string a.name)∧w'.cell? ⟨W.heap.size,1,none⟩=some (.int .i64 a.len)∧w'.cell? ⟨W.heap.size,2,none⟩=some (.int .u64 (a.label:Nat)))) hmx hS0 (fun hHeld=>?_)
 refine wpAnyH_take (i:=0) (v:=.pointer (some ⟨b,0,none⟩)) rfl (by kernel_rfl) (by kernel_rfl) (by kernel_rfl) (fun _ _ _ h=>h) (Or.inl ⟨by rfl,fun w hSw=>by obtain ⟨s0,s1,s2⟩:=hSw;go_simp⟩) (by assumption) ?_
 try simp only [Act.put,n1,n2,n3,n4,n5,n6]
 refine wpAnyH_take (i:=1) (v:=.pointer (some ⟨W.heap.size,0,none⟩)) rfl (by kernel_rfl) (by kernel_rfl) (by kernel_rfl) (fun _ _ _ h=>h) (Or.inl ⟨by rfl,fun w hSw=>by obtain ⟨s0,s1,s2⟩:=hSw;go_simp⟩) (by assumption) ?_
 try simp only [Act.put,n1,n2,n3,n4,n5,n6]
 refine wpAnyH_take (i:=2) (v:=.string a.name) rfl (by kernel_rfl) (by kernel_rfl) (by kernel_rfl) (fun _ _ _ h=>h) (Or.inl ⟨by rfl,fun w hSw=>by obtain ⟨s0,s1,s2⟩:=hSw;go_simp⟩) (by assumption) ?_
 try simp only [Act.put,n1,n2,n3,n4,n5,n6]
 refine wpAnyH_take (i:=3) (v:=.pointer (some ⟨W.heap.size,1,none⟩)) rfl (by kernel_rfl) (by kernel_rfl) (by kernel_rfl) (fun _ _ _ h=>h) (Or.inl ⟨by rfl,fun w hSw=>by obtain ⟨s0,s1,s2⟩:=hSw;go_simp⟩) (by assumption) ?_
 try simp only [Act.put,n1,n2,n3,n4,n5,n6]
 refine wpAnyH_take (i:=4) (v:=.int .i64 a.len) rfl (by kernel_rfl) (by kernel_rfl) (by kernel_rfl) (fun _ _ _ h=>h) (Or.inl ⟨by rfl,fun w hSw=>by obtain ⟨s0,s1,s2⟩:=hSw;go_simp⟩) (by assumption) ?_
 try simp only [Act.put,n1,n2,n3,n4,n5,n6]
 refine wpAnyH_ready (rs:=[5]) (by kernel_rfl) (by simp) ?_
 refine AllReadyH.cons rfl (fun K1 hK1=>?_) AllReadyH.nil
 go_simp
 go_at_call 112
 refine HI.out.mono ?_
 rintro e wz ⟨z,rfl,hz,hb⟩
 have HPz:=hid (HPd.out.all HC.out hb)
 have HKz:=hid (HKd.out.trans (Kp.all hb HPd.out.low))
 have HXz:=hid ((hb.block _ (heap_lt HXd.out)).trans HXd.out)
 have HZ:=hid hz
 clear hb hz
 refine hK1.out _ _ (fu_ HXz.out) (fun hHeld=>?_)
 try simp only [Act.put,n1,n2,n3,n4,n5,n6]
 refine wpAnyH_ready (rs:=[6]) (by kernel_rfl) (by simp) ?_
 refine AllReadyH.cons rfl (fun K2 hK2=>?_) AllReadyH.nil
 go_simp
 have HXa:=hid (ad_ wz (.cells #[.string ⟨#[97,114,114,97,121,32]⟩,.string a.name,.string ⟨#[32]⟩,.string z,.string ⟨#[32]⟩] 9) HXz.out)
 refine hK2.out _ _ (fu_ HXa.out) (fun hHeld=>?_)
 try simp only [Act.put,n1,n2,n3,n4,n5,n6]
 refine wpAnyH_ready (rs:=[7]) (by kernel_rfl) (by simp) ?_
 refine AllReadyH.cons rfl (fun K3 hK3=>?_) AllReadyH.nil
 go_simp
 have HW2:=hid (ha_ HC.out HPz.out [⟨#[97,114,114,97,121,32]⟩,a.name,⟨#[32]⟩,z,⟨#[32]⟩] (by simp) (ok_ (by decide) HA.out.1 (by decide) (by rw [←ae_,HZ.out];have:=itN_len a.len HA.out.2.1 HA.out.2.2.1;omega) (by decide)) (L:=#[.string ⟨#[97,114,114,97,121,32]⟩,.string a.name,.string ⟨#[32]⟩,.string z,.string ⟨#[32]⟩]) rfl (n:=5) rfl)
 go_at_call 111
 refine HW2.out.mono ?_
 rintro e w2 ⟨rfl,hp,hk⟩
 have HP2:=hid (show PI C B b vp _ w2 from by rw [put5,HZ.out] at hp;exact hp)
 have HX2:=hid (ao_kp HXz.out hk hne)
 have HK2:=hid (HKz.out.trans hk)
 clear hp hk
 refine hK3.out _ _ (fu_ HX2.out) (fun hHeld=>?_)
 try simp only [Act.put,n1,n2,n3,n4,n5,n6]
 refine wpAnyH_done (by kernel_rfl) ?_ _
 have HL:=hid (pb_ HC.out HV.out HP2.out a.label HA.out.2.2.2)
 obtain ⟨d0,d1,d2⟩:=fu_ HX2.out
 go_wp2_with fail
 go_at_call 113
 refine HL.out.mono ?_
 rintro e w3 ⟨rfl,hp3,hk3⟩
 have HW3:=hid (aw_ HC.out hp3 ⟨#[59,10]⟩ (by decide))
 have HK3:=hid (HK2.out.trans hk3)
 clear hp3 hk3 d0 d1 d2
 go_wp2_with fail
 go_at_call 57
 refine HW3.out.mono ?_
 rintro e w4 ⟨rfl,hp4,hk4⟩
 go_wp2_with fail
 first|go_end0|refine bodyPost_ret (results_none rfl _ _ _) rfl ?_
 refine ⟨rfl,?_,HK3.out.trans hk4⟩
 have e1:bl ⟨#[97,114,114,97,121,32]⟩=[97,114,114,97,121,32]:=rfl
 have e2:bl ⟨#[32]⟩=[32]:=rfl
 have e3:bl ⟨#[59,10]⟩=[59,10]:=rfl
 unfold arZ
 simpa [List.append_assoc,e1,e2,e3] using hp4
def fv (f:FnZ) (q1:Option Addr) (c1:Nat) (q2:Option Addr) (c2:Nat) (q3:Option Addr) (c3:Nat) (q4:Option Addr) (c4:Nat):Value:=.agg #[.string f.name,.int .u64 (f.level:Nat),.slice q1 f.params.length c1,.slice q2 f.results.length c2,.slice q3 f.vars.length c3,.slice q4 f.body.length c4]
def fo (f:FnZ) (q1:Option Addr) (c1:Nat) (q2:Option Addr) (c2:Nat) (q3:Option Addr) (c3:Nat) (q4:Option Addr) (c4:Nat):Obj:=.cells #[.string f.name,.int .u64 (f.level:Nat),.slice q1 f.params.length c1,.slice q2 f.results.length c2,.slice q3 f.vars.length c3,.slice q4 f.body.length c4] 54
structure FnF (f:FnZ):Prop where
 nm:f.name.size≤140737488355327
 lv:f.level<18446744073709551616
 ps:(∀d∈f.params,DeF d)∧f.params.length≤9223372036854775807
 rs:(∀d∈f.results,d<18446744073709551616)∧f.results.length≤9223372036854775807
 vs:(∀d∈f.vars,DeF d)∧f.vars.length≤9223372036854775807
structure FR (C:Cl) (f:FnZ) (q1 q2 q3 q4:Option Addr):Prop where
 fine:FnF f
 ps:DeRow C q1 f.params
 rs:LaRow C q2 f.results
 vs:DeRow C q3 f.vars
 bd:∃lv,BdRow C q4 f.body lv
theorem au_ {w:World} {g:Nat} {f:FnZ} {q1:Option Addr} {c1:Nat} {q2:Option Addr} {c2:Nat} {q3:Option Addr} {c3:Nat} {q4:Option Addr} {c4:Nat} (h:w.heap[g]?=some (fo f q1 c1 q2 c2 q3 c3 q4 c4)):w.cell? ⟨g,0,none⟩=some (.string f.name)∧w.cell? ⟨g,1,none⟩=some (.int .u64 (f.level:Nat))∧w.cell? ⟨g,2,none⟩=some (.slice q1 f.params.length c1)∧w.cell? ⟨g,3,none⟩=some (.slice q2 f.results.length c2)∧w.cell? ⟨g,4,none⟩=some (.slice q3 f.vars.length c3)∧w.cell? ⟨g,5,none⟩=some (.slice q4 f.body.length c4):=⟨aa_ h rfl,aa_ h rfl,aa_ h rfl,aa_ h rfl,aa_ h rfl,aa_ h rfl⟩
theorem jq_ {w w':World} {g:Nat} {f:FnZ} {q1:Option Addr} {c1:Nat} {q2:Option Addr} {c2:Nat} {q3:Option Addr} {c3:Nat} {q4:Option Addr} {c4:Nat} (h:w.heap[g]?=some (fo f q1 c1 q2 c2 q3 c3 q4 c4)) (hk:Kp B (fun k=>k=b) w w') (hg:g≠b):w'.heap[g]?=some (fo f q1 c1 q2 c2 q3 c3 q4 c4):=hk.heap h hg (by decide)
theorem rj_ (hc:PC C B) (hv:PV C vp ns) (h:PI C B b vp t W) (f:FnZ) {q1 q2 q3 q4:Option Addr} (c1 c2 c3 c4:Nat) (hf:FR C f q1 q2 q3 q4) :
 Calls prog 65 #[.pointer (some ⟨b,0,none⟩),fv f q1 c1 q2 c2 q3 c3 q4 c4] W (Wrote C B b vp W (t++fnZ ns f)):=by
 have hne:W.heap.size≠b:=by have:=h.b_lt;omega
 have HP1:=hid (h.alloc hc (fo f q1 c1 q2 c2 q3 c3 q4 c4))
 have HK1:=hid ((Kp.refl B (fun k=>k=b) W).alloc h.low (fo f q1 c1 q2 c2 q3 c3 q4 c4))
 have HX1:=hid (nwn W (fo f q1 c1 q2 c2 q3 c3 q4 c4))
 have HC:=hid hc
 have HV:=hid hv
 have HF:=hid hf
 obtain ⟨lv,hlv⟩:=hf.bd
 have HLV:=hid hlv
 have hmx:prog.follows .mixedOrders=true:=by kernel_rfl
 unfold fo at HP1 HK1 HX1
 unfold fv
 clear h hc hv hf hlv
 go_enter func65,ntmps65
 go_upto_region 1 with fail
 generalize (W.alloc _:World)=w1 at *
 obtain ⟨d0,d1,d2,d3,d4,d5⟩:=au_ HX1.out
 have HW:=hid (aw_ HC.out HP1.out ⟨#[102,117,110,99,32]⟩ (by decide))
 go_wp2_with fail
 go_at_call 57
 refine HW.out.mono ?_
 rintro e w2 ⟨rfl,hp,hk⟩
 have HP2:=hid hp
 have HX2:=hid (jq_ HX1.out hk hne)
 have HK2:=hid (HK1.out.trans hk)
 clear hp hk d0 d1 d2 d3 d4 d5 HW HX1 HK1 HP1
 obtain ⟨d0,d1,d2,d3,d4,d5⟩:=au_ HX2.out
 have HW:=hid (w9_ HC.out HV.out HP2.out ⟨f.name,f.level⟩ HF.out.fine.lv HF.out.fine.nm)
 go_wp2_with fail
 go_at_call 108
 refine HW.out.mono ?_
 rintro e w3 ⟨rfl,hp,hk⟩
 have HP3:=hid hp
 have HX3:=hid (jq_ HX2.out hk hne)
 have HK3:=hid (HK2.out.trans hk)
 clear hp hk d0 d1 d2 d3 d4 d5 HW HX2 HK2 HP2
 obtain ⟨d0,d1,d2,d3,d4,d5⟩:=au_ HX3.out
 have HW:=hid (aw_ HC.out HP3.out ⟨#[32,40]⟩ (by decide))
 go_wp2_with fail
 go_at_call 57
 refine HW.out.mono ?_
 rintro e w4 ⟨rfl,hp,hk⟩
 have HP4:=hid hp
 have HX4:=hid (jq_ HX3.out hk hne)
 have HK4:=hid (HK3.out.trans hk)
 clear hp hk d0 d1 d2 d3 d4 d5 HW HX3 HK3 HP3
 obtain ⟨d0,d1,d2,d3,d4,d5⟩:=au_ HX4.out
 have HW:=hid (xp_ HC.out HP4.out (c:=c1) f.params HF.out.fine.ps.2 HF.out.ps (Ki:=108) (fi:=#[.pointer (some ⟨b,0,none⟩)]) (ci:=#[]) (enters_of func108 (by kernel_rfl) rfl) (f:=declZ ns) (fun k hk x wr t' hx hp _=>by have hm:=HF.out.fine.ps.1 x (by rw [←hx];exact List.getElem_mem hk);exact w9_ HC.out HV.out hp x hm.1 hm.2))
 go_wp2_with fail
 go_at_call 116
 refine HW.out.mono ?_
 rintro e w5 ⟨rfl,hp,hk⟩
 have HP5:=hid hp
 have HX5:=hid (jq_ HX4.out hk hne)
 have HK5:=hid (HK4.out.trans hk)
 clear hp hk d0 d1 d2 d3 d4 d5 HW HX4 HK4 HP4
 obtain ⟨d0,d1,d2,d3,d4,d5⟩:=au_ HX5.out
 have HW:=hid (aw_ HC.out HP5.out ⟨#[41,32,40]⟩ (by decide))
 go_wp2_with fail
 go_at_call 57
 refine HW.out.mono ?_
 rintro e w6 ⟨rfl,hp,hk⟩
 have HP6:=hid hp
 have HX6:=hid (jq_ HX5.out hk hne)
 have HK6:=hid (HK5.out.trans hk)
 clear hp hk d0 d1 d2 d3 d4 d5 HW HX5 HK5 HP5
 obtain ⟨d0,d1,d2,d3,d4,d5⟩:=au_ HX6.out
 have HW:=hid (x1_ HC.out HP6.out (c:=c2) f.results HF.out.fine.rs.2 HF.out.rs (Ki:=113) (fi:=#[.pointer (some ⟨b,0,none⟩)]) (ci:=#[]) (enters_of func113 (by kernel_rfl) rfl) (f:=lbZ ns) (fun k hk x wr t' hx hp _=>by have hm:=HF.out.fine.rs.1 x (by rw [←hx];exact List.getElem_mem hk);exact pb_ HC.out HV.out hp x hm))
 go_wp2_with fail
 go_at_call 117
 refine HW.out.mono ?_
 rintro e w7 ⟨rfl,hp,hk⟩
 have HP7:=hid hp
 have HX7:=hid (jq_ HX6.out hk hne)
 have HK7:=hid (HK6.out.trans hk)
 clear hp hk d0 d1 d2 d3 d4 d5 HW HX6 HK6 HP6
 obtain ⟨d0,d1,d2,d3,d4,d5⟩:=au_ HX7.out
 have HW:=hid (aw_ HC.out HP7.out ⟨#[41,32,123,10]⟩ (by decide))
 go_wp2_with fail
 go_at_call 57
 refine HW.out.mono ?_
 rintro e w8 ⟨rfl,hp,hk⟩
 have HP8:=hid hp
 have HX8:=hid (jq_ HX7.out hk hne)
 have HK8:=hid (HK7.out.trans hk)
 clear hp hk d0 d1 d2 d3 d4 d5 HW HX7 HK7 HP7
 obtain ⟨d0,d1,d2,d3,d4,d5⟩:=au_ HX8.out
 go_upto_region 8 with fail
 have HPd:=hid (HP8.out.all HC.out (Below.refl _ w8).drew)
 have HKd:=hid (show Kp B (fun k=>k=b) W w8.drew from HK8.out.drewN 1)
 have HXd:=hid (show w8.drew.heap[W.heap.size]?=some (fo f q1 c1 q2 c2 q3 c3 q4 c4) from HX8.out)
 clear d0 d1 d2 d3 d4 d5
 have hS0:=au_ HXd.out
 refine wp_region_held_drew (S:=(fun w':World=>w'.cell? ⟨W.heap.size,0,none⟩=some (.string f.name)∧w'.cell? ⟨W.heap.size,1,none⟩=some (.int .u64 (f.level:Nat))∧w'.cell? ⟨W.heap.size,2,none⟩=some (.slice q1 f.params.length c1)∧w'.cell? ⟨W.heap.size,3,none⟩=some (.slice q2 f.results.length c2)∧w'.cell? ⟨W.heap.size,4,none⟩=some (.slice q3 f.vars.length c3)∧w'.cell? ⟨W.heap.size,5,none⟩=some (.slice q4 f.body.length c4))) hmx hS0 (fun hHeld=>?_)
 refine wpAnyH_take (i:=0) (v:=.pointer (some ⟨b,0,none⟩)) rfl (by kernel_rfl) (by kernel_rfl) (by kernel_rfl) (fun _ _ _ h=>h) (Or.inl ⟨by rfl,fun w hSw=>by obtain ⟨s0,s1,s2,s3,s4,s5⟩:=hSw;go_simp⟩) (by assumption) ?_
 try simp only [Act.put,n1,n2,n3,n4,n5,n6]
 refine wpAnyH_take (i:=1) (v:=.pointer (some ⟨b,0,none⟩)) rfl (by kernel_rfl) (by kernel_rfl) (by kernel_rfl) (fun _ _ _ h=>h) (Or.inl ⟨by rfl,fun w hSw=>by obtain ⟨s0,s1,s2,s3,s4,s5⟩:=hSw;go_simp⟩) (by assumption) ?_
 try simp only [Act.put,n1,n2,n3,n4,n5,n6]
 refine wpAnyH_take (i:=3) (v:=.pointer (some ⟨W.heap.size,4,none⟩)) rfl (by kernel_rfl) (by kernel_rfl) (by kernel_rfl) (fun _ _ _ h=>h) (Or.inl ⟨by rfl,fun w hSw=>by obtain ⟨s0,s1,s2,s3,s4,s5⟩:=hSw;go_simp⟩) (by assumption) ?_
 try simp only [Act.put,n1,n2,n3,n4,n5,n6]
 refine wpAnyH_take (i:=4) (v:=.slice q3 f.vars.length c3) rfl (by kernel_rfl) (by kernel_rfl) (by kernel_rfl) (fun _ _ _ h=>h) (Or.inl ⟨by rfl,fun w hSw=>by obtain ⟨s0,s1,s2,s3,s4,s5⟩:=hSw;go_simp⟩) (by assumption) ?_
 try simp only [Act.put,n1,n2,n3,n4,n5,n6]
 refine wpAnyH_ready (rs:=[2]) (by kernel_rfl) (by simp) ?_
 refine AllReadyH.cons rfl (fun K1 hK1=>?_) AllReadyH.nil
 go_simp
 go_at_call 61
 refine (dg_ (b:=b) ⟨#[32,32,118,97,114,32]⟩ _).mono ?_
 rintro e wz ⟨rfl,hb,hd⟩
 have HPz:=hid (HPd.out.all HC.out hb)
 have HKz:=hid (HKd.out.trans (Kp.all hb HPd.out.low))
 have HXz:=hid ((hb.block _ (heap_lt HXd.out)).trans HXd.out)
 have HDZ:=hid hd
 clear hb hd
 unfold dlC
 refine hK1.out _ _ (au_ HXz.out) (fun hHeld=>?_)
 try simp only [Act.put,n1,n2,n3,n4,n5,n6]
 refine wpAnyH_ready (rs:=[5]) (by kernel_rfl) (by simp) ?_
 refine AllReadyH.cons rfl (fun K2 hK2=>?_) AllReadyH.nil
 go_simp
 have HW2:=hid (ig_ HC.out HV.out HPz.out (c:=c3) f.vars HF.out.fine.vs.2 HF.out.vs HF.out.fine.vs.1 (by decide) HDZ.out HPd.out.b_lt)
 unfold dlC at HW2
 go_at_call 60
 refine HW2.out.mono ?_
 rintro e w9 ⟨rfl,hp,hk⟩
 have HP9:=hid hp
 have HX9:=hid (jq_ HXz.out hk hne)
 have HK9:=hid (HKz.out.trans hk)
 clear hp hk
 refine hK2.out _ _ (au_ HX9.out) (fun hHeld=>?_)
 try simp only [Act.put,n1,n2,n3,n4,n5,n6]
 refine wpAnyH_done (by kernel_rfl) ?_ _
 obtain ⟨d0,d1,d2,d3,d4,d5⟩:=au_ HX9.out
 have HW:=hid (body_p HC.out HP9.out f.body (c:=c4) HLV.out)
 go_wp2_with fail
 go_at_call 118
 refine HW.out.mono ?_
 rintro e w10 ⟨rfl,hp,hk⟩
 have HP10:=hid hp
 have HX10:=hid (jq_ HX9.out hk hne)
 have HK10:=hid (HK9.out.trans hk)
 clear hp hk d0 d1 d2 d3 d4 d5 HW HX9 HK9 HP9
 obtain ⟨d0,d1,d2,d3,d4,d5⟩:=au_ HX10.out
 have HW:=hid (aw_ HC.out HP10.out ⟨#[125,10]⟩ (by decide))
 go_wp2_with fail
 go_at_call 57
 refine HW.out.mono ?_
 rintro e w11 ⟨rfl,hp,hk⟩
 have HP11:=hid hp
 have HX11:=hid (jq_ HX10.out hk hne)
 have HK11:=hid (HK10.out.trans hk)
 clear hp hk d0 d1 d2 d3 d4 d5 HW HX10 HK10 HP10
 go_wp2_with fail
 first|go_end0|refine bodyPost_ret (results_none rfl _ _ _) rfl ?_
 refine ⟨rfl,?_,HK11.out⟩
 have hp:=HP11.out
 have e1:bl ⟨#[102,117,110,99,32]⟩=[102,117,110,99,32]:=rfl
 have e2:bl ⟨#[32,40]⟩=[32,40]:=rfl
 have e3:bl ⟨#[41,32,40]⟩=[41,32,40]:=rfl
 have e4:bl ⟨#[41,32,123,10]⟩=[41,32,123,10]:=rfl
 have e5:bl ⟨#[32,32,118,97,114,32]⟩=[32,32,118,97,114,32]:=rfl
 have e6:bl ⟨#[125,10]⟩=[125,10]:=rfl
 unfold fnZ
 simpa [List.append_assoc,e1,e2,e3,e4,e5,e6] using hp
end
end Go.Proofs.YtpcniebkabkikaaGreatDoor
namespace Go.Proofs.YtpcniebkabkikaaGreatDoor
open Go Go.RowKit Go.Proofs.Mm
def ArRow (C:Cl) (q:Option Addr) (l:List ArZ):Prop:=∀j (hj:j<l.length),∃g o,q=some ⟨g,o,none⟩∧C ⟨g,o+j*3,none⟩=some (.string l[j].name)∧C ⟨g,o+j*3+1,none⟩=some (.int .i64 l[j].len)∧C ⟨g,o+j*3+2,none⟩=some (.int .u64 (l[j].label:Nat))
structure FnRow (C:Cl) (q:Option Addr) (l:List FnZ) (lv:List FnV):Prop where
 len:lv.length=l.length
 cells:∀j (hj:j<lv.length),∃g o,q=some ⟨g,o,none⟩∧C ⟨g,o+j*6,none⟩=some (.string lv[j].nm)∧C ⟨g,o+j*6+1,none⟩=some (.int .u64 (lv[j].lv:Nat))∧C ⟨g,o+j*6+2,none⟩=some (.slice lv[j].q1 lv[j].n1 lv[j].c1)∧C ⟨g,o+j*6+3,none⟩=some (.slice lv[j].q2 lv[j].n2 lv[j].c2)∧C ⟨g,o+j*6+4,none⟩=some (.slice lv[j].q3 lv[j].n3 lv[j].c3)∧C ⟨g,o+j*6+5,none⟩=some (.slice lv[j].q4 lv[j].n4 lv[j].c4)
 rd:∀j (hj:j<lv.length) (hj':j<l.length),∃q1 c1 q2 c2 q3 c3 q4 c4,lv[j]=⟨l[j].name,l[j].level,q1,l[j].params.length,c1,q2,l[j].results.length,c2,q3,l[j].vars.length,c3,q4,l[j].body.length,c4⟩∧FR C l[j] q1 q2 q3 q4
def sov (s:SoZ) (q1:Option Addr) (c1:Nat) (q2:Option Addr) (c2:Nat) (q3:Option Addr) (c3:Nat) (q4:Option Addr) (c4:Nat) (q5:Option Addr) (c5:Nat):Value:=.agg #[.slice q1 s.principals.length c1,.slice q2 s.globals.length c2,.slice q3 s.arrays.length c3,.slice q4 s.channels.length c4,.slice q5 s.funcs.length c5]
def soo (s:SoZ) (q1:Option Addr) (c1:Nat) (q2:Option Addr) (c2:Nat) (q3:Option Addr) (c3:Nat) (q4:Option Addr) (c4:Nat) (q5:Option Addr) (c5:Nat):Obj:=.cells #[.slice q1 s.principals.length c1,.slice q2 s.globals.length c2,.slice q3 s.arrays.length c3,.slice q4 s.channels.length c4,.slice q5 s.funcs.length c5] 27
structure SoR (C:Cl) (s:SoZ) (q1:Option Addr) (c1:Nat) (q2 q3 q4 q5:Option Addr):Prop where
 pv:PV C (.slice q1 s.principals.length c1) s.principals
 pr:StrRow C q1 s.principals
 gl:DeRow C q2 s.globals
 ar:ArRow C q3 s.arrays
 ch:DeRow C q4 s.channels
 fn:∃lv,FnRow C q5 s.funcs lv
 gf:(∀d∈s.globals,DeF d)∧s.globals.length≤9223372036854775807
 af:(∀d∈s.arrays,ArF d)∧s.arrays.length≤9223372036854775807
 cf:(∀d∈s.channels,DeF d)∧s.channels.length≤9223372036854775807
 ff:s.funcs.length≤9223372036854775807
 pf:(∀d∈s.principals,d.size≤140737488355327)∧s.principals.length≤9223372036854775807
section
variable {C:Cl} {B b:Nat} {vp:Value} {t:List Nat} {W:World}
theorem aj_ {w:World} {g:Nat} {s:SoZ} {q1:Option Addr} {c1:Nat} {q2:Option Addr} {c2:Nat} {q3:Option Addr} {c3:Nat} {q4:Option Addr} {c4:Nat} {q5:Option Addr} {c5:Nat} (h:w.heap[g]?=some (soo s q1 c1 q2 c2 q3 c3 q4 c4 q5 c5)):w.cell? ⟨g,0,none⟩=some (.slice q1 s.principals.length c1)∧w.cell? ⟨g,1,none⟩=some (.slice q2 s.globals.length c2)∧w.cell? ⟨g,2,none⟩=some (.slice q3 s.arrays.length c3)∧w.cell? ⟨g,3,none⟩=some (.slice q4 s.channels.length c4)∧w.cell? ⟨g,4,none⟩=some (.slice q5 s.funcs.length c5):=⟨aa_ h rfl,aa_ h rfl,aa_ h rfl,aa_ h rfl,aa_ h rfl⟩
theorem ed_ {w w':World} {g:Nat} {s:SoZ} {q1:Option Addr} {c1:Nat} {q2:Option Addr} {c2:Nat} {q3:Option Addr} {c3:Nat} {q4:Option Addr} {c4:Nat} {q5:Option Addr} {c5:Nat} (h:w.heap[g]?=some (soo s q1 c1 q2 c2 q3 c3 q4 c4 q5 c5)) (hk:Kp B (fun k=>k=b) w w') (hg:g≠b):w'.heap[g]?=some (soo s q1 c1 q2 c2 q3 c3 q4 c4 q5 c5):=hk.heap h hg (by decide)
theorem pp_ {ns:List ByteArray} (hc:PC C B) (hv:PV C vp ns) (h:PI C B b vp t W) {q:Option Addr} {c:Nat} (l:List ArZ) (hl:(∀d∈l,ArF d)∧l.length≤9223372036854775807) (hrow:ArRow C q l) :
 Calls prog 62 #[.pointer (some ⟨b,0,none⟩),.func (.func 63) #[.pointer (some ⟨b,0,none⟩)] #[],.slice q l.length c] W (Wrote C B b vp W (t++l.flatMap (arZ ns))):=by
 have hbW:=h.b_lt
 refine (tl_ hc h (c:=c) l hl.2 hrow (fi:=#[.pointer (some ⟨b,0,none⟩)]) (ci:=#[]) (enters_of func63 (by kernel_rfl) rfl) (J:=fun _ _=>True) (S:=fun k=>k=b) (fun i e=>by omega)
  (F:=fun k=>(l.take k).flatMap (arZ ns)) (I:=fun k=>if h:k<l.length then arZ ns l[k] else []) (by simp) (fun k hk=>by simp only [hk,dif_pos];exact jo_ _ _ _ hk) trivial (fun _ _ _ _ _=>trivial)
  (fun k hk x wr t' hx hp _ _=>?_)).mono ?_
 ·have hm:=hl.1 x (by rw [←hx];exact List.getElem_mem hk)
  simp only [hk,dif_pos,hx]
  exact (ol_ hc hv hp x hm).mono fun e w' ⟨h1,h2,h3⟩=>⟨h1,h2,trivial,h3⟩
 ·rintro e w' ⟨rfl,hp',hk'⟩
  rw [List.take_length] at hp'
  exact ⟨rfl,hp',hk'⟩
theorem tp_ {ns:List ByteArray} (hc:PC C B) (hv:PV C vp ns) (h:PI C B b vp t W) {q:Option Addr} {c:Nat} (l:List FnZ) (hl:l.length≤9223372036854775807) {lv:List FnV} (hrow:FnRow C q l lv) :
 Calls prog 64 #[.pointer (some ⟨b,0,none⟩),.func (.func 65) #[.pointer (some ⟨b,0,none⟩)] #[],.slice q l.length c] W (Wrote C B b vp W (t++l.flatMap (fnZ ns))):=by
 have hbW:=h.b_lt
 have hlen:=hrow.len
 rw [←hlen]
 refine (tn_ hc h (c:=c) lv (by rw [hlen];exact hl) hrow.cells (fi:=#[.pointer (some ⟨b,0,none⟩)]) (ci:=#[]) (enters_of func65 (by kernel_rfl) rfl) (J:=fun _ _=>True) (S:=fun k=>k=b) (fun i e=>by omega)
  (F:=fun k=>(l.take k).flatMap (fnZ ns)) (I:=fun k=>if h:k<l.length then fnZ ns l[k] else []) (by simp) (fun k hk=>by rw [hlen] at hk;simp only [hk,dif_pos];exact jo_ _ _ _ hk) trivial (fun _ _ _ _ _=>trivial)
  (fun k hk x wr t' hx hp _ _=>?_)).mono ?_
 ·have hk':k<l.length:=by rw [←hlen];exact hk
  obtain ⟨q1,c1,q2,c2,q3,c3,q4,c4,h1,h2⟩:=hrow.rd k hk hk'
  rw [hx] at h1
  subst h1
  simp only [hk',dif_pos]
  exact (rj_ hc hv hp l[k] c1 c2 c3 c4 h2).mono fun e w' ⟨h1,h2,h3⟩=>⟨h1,h2,trivial,h3⟩
 ·rintro e w' ⟨rfl,hp',hk'⟩
  rw [hlen,List.take_length] at hp'
  exact ⟨rfl,hp',hk'⟩
end
theorem bc_ {α:Type} {l l':List α} {k:Nat} (h:k<l.length) (h':k<l'.length) (ht:l.take k=l'.take k) (he:l[k]=l'[k]):l.take (k+1)=l'.take (k+1):=by
 rw [List.take_succ_eq_append_getElem h,List.take_succ_eq_append_getElem h',ht,he]
theorem bp_ {α:Type} {l l':List α} {n:Nat} (h:l.length=n) (h':l'.length=n) (ht:l.take n=l'.take n):l=l':=by
 rwa [List.take_of_length_le (by omega),List.take_of_length_le (by omega)] at ht
theorem dt_ {α:Type} {l l':List α} {k:Nat} (h:k<l.length) (h':k<l'.length) (he:¬l[k]=l'[k]):¬l=l':=by
 intro e;subst e;exact he rfl
theorem hm_ {a b:ByteArray}:((a.toList == b.toList)=true)↔a=b:=by
 rw [beq_iff_eq,Lib.toList_data,Lib.toList_data]
 constructor
 ·intro h
  exact ByteArray.ext (Array.toList_inj.1 h)
 ·rintro rfl;rfl
def Says (p:Prop) (w:World) (e:Ending) (w':World):Prop:=∃b:Bool,e=.returned (.bool b)∧(b=true↔p)∧∃k,w'=w.drewN k
theorem cy_ {p:Prop} {w:World} {k:Nat} (h:¬p):Says p w (.returned (.bool false)) (w.drewN k):=⟨false,rfl,by simp [h],k,rfl⟩
theorem bw_ {p:Prop} {w:World} {a b:Nat} (h:¬p):Says p w (.returned (.bool false)) ((w.drewN a).drewN b):=⟨false,rfl,by simp [h],_,World.drewN_drewN ..⟩
theorem b9_ {p:Prop} {w:World} {k:Nat} (h:p):Says p w (.returned (.bool true)) (w.drewN k):=⟨true,rfl,by simp [h],k,rfl⟩
open Classical in
def tb' {α:Type} (a b:α):Prop:=a=b
noncomputable instance {α:Type} (a b:α):Decidable (tb' a b):=Classical.propDecidable _
theorem k3_ {p:Prop} {tb:Bool} {w:World} {e:Ending} {w':World} (ht:tb=true↔p) (h:Says p w e w'):e=.returned (.bool tb)∧∃k,w'=w.drewN k:=by
 obtain ⟨b,rfl,hb,hk⟩:=h
 refine ⟨?_,hk⟩
 have:b=tb:=by rw [Bool.eq_iff_iff,hb,ht]
 rw [this]
def SaysB (p:Prop) (w:World) (e:Ending) (w':World):Prop:=∃b:Bool,e=.returned (.bool b)∧(b=true↔p)∧Below w.heap.size w w'
theorem Says.b {p:Prop} {w:World} {e:Ending} {w':World} (h:Says p w e w'):SaysB p w e w':=by
 obtain ⟨b,h1,h2,k,rfl⟩:=h
 exact ⟨b,h1,h2,Go.below_drewN (Below.refl _ _) k⟩
section
variable {C D:Cl} {w:World} {q q':Option Addr}
theorem eqStr {l l':List ByteArray} {c c':Nat} (hl:l.length≤9223372036854775807) (hl':l'.length≤9223372036854775807) (ha:StrRow C q l) (hb:StrRow D q' l') (hC:CLe C (wC w)) (hD:CLe D (wC w)):Calls prog 66 #[.slice q l.length c,.slice q' l'.length c'] w (Says (l=l') w):=by
 obtain ⟨n,hnn⟩:∃n,l.length=n:=⟨_,rfl⟩
 obtain ⟨n',hnn'⟩:∃n,l'.length=n:=⟨_,rfl⟩
 have HA:=hid ha
 have HB:=hid hb
 have HCC:=hid hC
 have HDD:=hid hD
 have HN:=hid hnn
 have HN':=hid hnn'
 rw [hnn] at hl ⊢
 rw [hnn'] at hl' ⊢
 clear ha hb hnn hnn' hC hD
 by_cases hnm:n=n'
 ·subst hnm
  have hneq:((n:Int) != (n:Int))=false:=by simp
  go_enter func66,ntmps66
  go_wp2
  go_loopw [13] (fun i wr=>∃k nq:Nat,k≤n∧i=.int .i64 k∧wr=w.drewN nq∧Hid (l.take k=l'.take k)) (fun i _=>n - (intOf i).toNat)
  case atStart=>exact ⟨0,0,Nat.zero_le _,rfl,rfl,hid rfl⟩
  case round =>
   obtain ⟨k,nq,hk,rfl,rfl,hT⟩:=hrel
   by_cases hlt:k<n
   ·have hk1:k<l.length:=by rw [HN.out];exact hlt
    have hk2:k<l'.length:=by rw [HN'.out];exact hlt
    obtain ⟨g,o,rfl,a0⟩:=HA.out k hk1
    obtain ⟨g',o',rfl,b0⟩:=HB.out k hk2
    have x0:w.cell? ⟨g,o+k,none⟩=some (.string l[k]):=HCC.out _ _ a0
    have y0:w.cell? ⟨g',o'+k,none⟩=some (.string l'[k]):=HDD.out _ _ b0
    clear a0 b0
    have hki:(k:Int)<(n:Int):=by omega
    by_cases heq:l[k]=l'[k]
    ·have HT2:=hid (bc_ hk1 hk2 hT.out heq)
     rw [←heq] at y0
     generalize l[k]=z0 at *
     have e0a:(z0.toList == z0.toList)=true:=by simp
     have e0b:(z0.toList != z0.toList)=false:=by simp
     have e0c:(!(z0.toList == z0.toList))=false:=by simp
     clear heq
     go_wp2
     go_quiet (fail)
     go_wp2
     exact ⟨⟨k+1,_,by omega,by go_num,rfl,HT2⟩,by simp [intOf];omega⟩
    ·have HNE:=hid (dt_ hk1 hk2 heq)
     have e1:(l[k].toList == l'[k].toList)=false:=by rw [Bool.eq_false_iff];intro h;exact heq (hm_.1 h)
     clear heq
     generalize l[k]=z at *
     generalize l'[k]=z' at *
     have e2:(z.toList != z'.toList)=true:=by simp [bne,e1]
     have e3:(!(z.toList == z'.toList))=true:=by rw [e1];rfl
     go_wp2
     go_quiet (fail)
     go_wp2
     go_ret
     exact bw_ HNE.out
   ·obtain rfl:k=n:=by omega
    have HT2:=hid (bp_ HN.out HN'.out hT.out)
    go_wp2
    go_ret
    exact b9_ HT2.out
 ·have HNE:=hid (show ¬l=l' from fun e=>hnm (by rw [←HN.out,←HN'.out,e]))
  have hneq:((n:Int) != (n':Int))=true:=by simp;omega
  go_enter func66,ntmps66
  go_wp2
  go_ret
  exact cy_ (k:=0) HNE.out
theorem kitStr {l l':List ByteArray} {c c':Nat} (hl:l.length≤9223372036854775807) (hl':l'.length≤9223372036854775807) (ha:StrRow C q l) (hb:StrRow D q' l') (hC:CLe C (wC w)) (hD:CLe D (wC w)):Calls prog 51 #[.slice q l.length c,.slice q' l'.length c'] w (Says (l=l') w):=by
 obtain ⟨n,hnn⟩:∃n,l.length=n:=⟨_,rfl⟩
 obtain ⟨n',hnn'⟩:∃n,l'.length=n:=⟨_,rfl⟩
 have HA:=hid ha
 have HB:=hid hb
 have HCC:=hid hC
 have HDD:=hid hD
 have HN:=hid hnn
 have HN':=hid hnn'
 rw [hnn] at hl ⊢
 rw [hnn'] at hl' ⊢
 clear ha hb hnn hnn' hC hD
 by_cases hnm:n=n'
 ·subst hnm
  have hneq:((n:Int) != (n:Int))=false:=by simp
  go_enter func51,ntmps51
  go_wp2
  go_loopw [5] (fun i wr=>∃k nq:Nat,k≤n∧i=.int .i64 k∧wr=w.drewN nq∧Hid (l.take k=l'.take k)) (fun i _=>n - (intOf i).toNat)
  case atStart=>exact ⟨0,0,Nat.zero_le _,rfl,rfl,hid rfl⟩
  case round =>
   obtain ⟨k,nq,hk,rfl,rfl,hT⟩:=hrel
   by_cases hlt:k<n
   ·have hk1:k<l.length:=by rw [HN.out];exact hlt
    have hk2:k<l'.length:=by rw [HN'.out];exact hlt
    obtain ⟨g,o,rfl,a0⟩:=HA.out k hk1
    obtain ⟨g',o',rfl,b0⟩:=HB.out k hk2
    have x0:w.cell? ⟨g,o+k,none⟩=some (.string l[k]):=HCC.out _ _ a0
    have y0:w.cell? ⟨g',o'+k,none⟩=some (.string l'[k]):=HDD.out _ _ b0
    clear a0 b0
    have hki:(k:Int)<(n:Int):=by omega
    by_cases heq:l[k]=l'[k]
    ·have HT2:=hid (bc_ hk1 hk2 hT.out heq)
     rw [←heq] at y0
     generalize l[k]=z0 at *
     have e0a:(z0.toList == z0.toList)=true:=by simp
     have e0b:(z0.toList != z0.toList)=false:=by simp
     have e0c:(!(z0.toList == z0.toList))=false:=by simp
     clear heq
     go_wp2
     go_quiet (fail)
     go_wp2
     exact ⟨⟨k+1,_,by omega,by go_num,rfl,HT2⟩,by simp [intOf];omega⟩
    ·have HNE:=hid (dt_ hk1 hk2 heq)
     have e1:(l[k].toList == l'[k].toList)=false:=by rw [Bool.eq_false_iff];intro h;exact heq (hm_.1 h)
     clear heq
     generalize l[k]=z at *
     generalize l'[k]=z' at *
     have e2:(z.toList != z'.toList)=true:=by simp [bne,e1]
     have e3:(!(z.toList == z'.toList))=true:=by rw [e1];rfl
     go_wp2
     go_quiet (fail)
     go_wp2
     go_ret
     exact bw_ HNE.out
   ·obtain rfl:k=n:=by omega
    have HT2:=hid (bp_ HN.out HN'.out hT.out)
    go_wp2
    go_ret
    exact b9_ HT2.out
 ·have HNE:=hid (show ¬l=l' from fun e=>hnm (by rw [←HN.out,←HN'.out,e]))
  have hneq:((n:Int) != (n':Int))=true:=by simp;omega
  go_enter func51,ntmps51
  go_wp2
  go_ret
  exact cy_ (k:=0) HNE.out
end
section
variable {C D:Cl} {w:World} {q q':Option Addr}
theorem eqTm {l l':List TmZ} {c c':Nat} (hl:l.length≤9223372036854775807) (hl':l'.length≤9223372036854775807) (ha:TmRow C q l) (hb:TmRow D q' l') (hC:CLe C (wC w)) (hD:CLe D (wC w)):Calls prog 168 #[.slice q l.length c,.slice q' l'.length c'] w (Says (l=l') w):=by
 obtain ⟨n,hnn⟩:∃n,l.length=n:=⟨_,rfl⟩
 obtain ⟨n',hnn'⟩:∃n,l'.length=n:=⟨_,rfl⟩
 have HA:=hid ha
 have HB:=hid hb
 have HCC:=hid hC
 have HDD:=hid hD
 have HN:=hid hnn
 have HN':=hid hnn'
 rw [hnn] at hl ⊢
 rw [hnn'] at hl' ⊢
 clear ha hb hnn hnn' hC hD
 by_cases hnm:n=n'
 ·subst hnm
  have hneq:((n:Int) != (n:Int))=false:=by simp
  go_enter func168,ntmps168
  go_wp2
  go_loopw [13] (fun i wr=>∃k nq:Nat,k≤n∧i=.int .i64 k∧wr=w.drewN nq∧Hid (l.take k=l'.take k)) (fun i _=>n - (intOf i).toNat)
  case atStart=>exact ⟨0,0,Nat.zero_le _,rfl,rfl,hid rfl⟩
  case round =>
   obtain ⟨k,nq,hk,rfl,rfl,hT⟩:=hrel
   by_cases hlt:k<n
   ·have hk1:k<l.length:=by rw [HN.out];exact hlt
    have hk2:k<l'.length:=by rw [HN'.out];exact hlt
    obtain ⟨g,o,rfl,a0,a1,a2⟩:=HA.out k hk1
    obtain ⟨g',o',rfl,b0,b1,b2⟩:=HB.out k hk2
    have x0:w.cell? ⟨g,o+k*3,none⟩=some (.int .i64 l[k].kind):=HCC.out _ _ a0
    have y0:w.cell? ⟨g',o'+k*3,none⟩=some (.int .i64 l'[k].kind):=HDD.out _ _ b0
    have x1:w.cell? ⟨g,o+k*3+1,none⟩=some (.int .i64 l[k].value):=HCC.out _ _ a1
    have y1:w.cell? ⟨g',o'+k*3+1,none⟩=some (.int .i64 l'[k].value):=HDD.out _ _ b1
    have x2:w.cell? ⟨g,o+k*3+2,none⟩=some (.string l[k].name):=HCC.out _ _ a2
    have y2:w.cell? ⟨g',o'+k*3+2,none⟩=some (.string l'[k].name):=HDD.out _ _ b2
    clear a0 a1 a2 b0 b1 b2
    have hki:(k:Int)<(n:Int):=by omega
    by_cases heq:l[k]=l'[k]
    ·have HT2:=hid (bc_ hk1 hk2 hT.out heq)
     rw [←heq] at y0 y1 y2
     generalize l[k].kind=z0 at *
     have e0a:((z0:Int) == (z0:Int))=true:=by simp
     generalize l[k].value=z1 at *
     have e1a:((z1:Int) == (z1:Int))=true:=by simp
     generalize l[k].name=z2 at *
     have e2a:(z2.toList == z2.toList)=true:=by simp
     clear heq
     go_wp2
     go_quiet (fail)
     go_wp2
     exact ⟨⟨k+1,_,by omega,by go_num,rfl,HT2⟩,by simp [intOf];omega⟩
    ·have HNE:=hid (dt_ hk1 hk2 heq)
     obtain ⟨b0,e0⟩:∃b,(l[k].kind == l'[k].kind)=b:=⟨_,rfl⟩
     obtain ⟨b1,e1⟩:∃b,(l[k].value == l'[k].value)=b:=⟨_,rfl⟩
     obtain ⟨b2,e2⟩:∃b,(l[k].name.toList == l'[k].name.toList)=b:=⟨_,rfl⟩
     have HB3:=hid (show ¬(b0=true∧b1=true∧b2=true) from fun ⟨c0,c1,c2⟩=>heq (by
      subst c0 c1 c2
      have d0:=beq_iff_eq.1 e0
      have d1:=beq_iff_eq.1 e1
      have d2:=hm_.1 e2
      generalize l[k]=x at d0 d1 d2 ⊢
      generalize l'[k]=y at d0 d1 d2 ⊢
      cases x;cases y;simp_all))
     clear heq
     generalize l[k].kind=z0 at *
     generalize l'[k].kind=z0' at *
     generalize l[k].value=z1 at *
     generalize l'[k].value=z1' at *
     generalize l[k].name=z2 at *
     generalize l'[k].name=z2' at *
     cases b0 <;> cases b1 <;> cases b2
     all_goals first
      | exact absurd ⟨rfl,rfl,rfl⟩ HB3.out
      | (go_wp2
         go_quiet (fail)
         go_wp2
         go_ret
         exact bw_ HNE.out)
   ·obtain rfl:k=n:=by omega
    have HT2:=hid (bp_ HN.out HN'.out hT.out)
    go_wp2
    go_ret
    exact b9_ HT2.out
 ·have HNE:=hid (show ¬l=l' from fun e=>hnm (by rw [←HN.out,←HN'.out,e]))
  have hneq:((n:Int) != (n':Int))=true:=by simp;omega
  go_enter func168,ntmps168
  go_wp2
  go_ret
  exact cy_ (k:=0) HNE.out
theorem kitTm {l l':List TmZ} {c c':Nat} (hl:l.length≤9223372036854775807) (hl':l'.length≤9223372036854775807) (ha:TmRow C q l) (hb:TmRow D q' l') (hC:CLe C (wC w)) (hD:CLe D (wC w)):Calls prog 28 #[.slice q l.length c,.slice q' l'.length c'] w (Says (l=l') w):=by
 obtain ⟨n,hnn⟩:∃n,l.length=n:=⟨_,rfl⟩
 obtain ⟨n',hnn'⟩:∃n,l'.length=n:=⟨_,rfl⟩
 have HA:=hid ha
 have HB:=hid hb
 have HCC:=hid hC
 have HDD:=hid hD
 have HN:=hid hnn
 have HN':=hid hnn'
 rw [hnn] at hl ⊢
 rw [hnn'] at hl' ⊢
 clear ha hb hnn hnn' hC hD
 by_cases hnm:n=n'
 ·subst hnm
  have hneq:((n:Int) != (n:Int))=false:=by simp
  go_enter func28,ntmps28
  go_wp2
  go_loopw [5] (fun i wr=>∃k nq:Nat,k≤n∧i=.int .i64 k∧wr=w.drewN nq∧Hid (l.take k=l'.take k)) (fun i _=>n - (intOf i).toNat)
  case atStart=>exact ⟨0,0,Nat.zero_le _,rfl,rfl,hid rfl⟩
  case round =>
   obtain ⟨k,nq,hk,rfl,rfl,hT⟩:=hrel
   by_cases hlt:k<n
   ·have hk1:k<l.length:=by rw [HN.out];exact hlt
    have hk2:k<l'.length:=by rw [HN'.out];exact hlt
    obtain ⟨g,o,rfl,a0,a1,a2⟩:=HA.out k hk1
    obtain ⟨g',o',rfl,b0,b1,b2⟩:=HB.out k hk2
    have x0:w.cell? ⟨g,o+k*3,none⟩=some (.int .i64 l[k].kind):=HCC.out _ _ a0
    have y0:w.cell? ⟨g',o'+k*3,none⟩=some (.int .i64 l'[k].kind):=HDD.out _ _ b0
    have x1:w.cell? ⟨g,o+k*3+1,none⟩=some (.int .i64 l[k].value):=HCC.out _ _ a1
    have y1:w.cell? ⟨g',o'+k*3+1,none⟩=some (.int .i64 l'[k].value):=HDD.out _ _ b1
    have x2:w.cell? ⟨g,o+k*3+2,none⟩=some (.string l[k].name):=HCC.out _ _ a2
    have y2:w.cell? ⟨g',o'+k*3+2,none⟩=some (.string l'[k].name):=HDD.out _ _ b2
    clear a0 a1 a2 b0 b1 b2
    have hki:(k:Int)<(n:Int):=by omega
    by_cases heq:l[k]=l'[k]
    ·have HT2:=hid (bc_ hk1 hk2 hT.out heq)
     rw [←heq] at y0 y1 y2
     generalize l[k].kind=z0 at *
     have e0a:((z0:Int) == (z0:Int))=true:=by simp
     generalize l[k].value=z1 at *
     have e1a:((z1:Int) == (z1:Int))=true:=by simp
     generalize l[k].name=z2 at *
     have e2a:(z2.toList == z2.toList)=true:=by simp
     clear heq
     go_wp2
     go_quiet (fail)
     go_wp2
     exact ⟨⟨k+1,_,by omega,by go_num,rfl,HT2⟩,by simp [intOf];omega⟩
    ·have HNE:=hid (dt_ hk1 hk2 heq)
     obtain ⟨b0,e0⟩:∃b,(l[k].kind == l'[k].kind)=b:=⟨_,rfl⟩
     obtain ⟨b1,e1⟩:∃b,(l[k].value == l'[k].value)=b:=⟨_,rfl⟩
     obtain ⟨b2,e2⟩:∃b,(l[k].name.toList == l'[k].name.toList)=b:=⟨_,rfl⟩
     have HB3:=hid (show ¬(b0=true∧b1=true∧b2=true) from fun ⟨c0,c1,c2⟩=>heq (by
      subst c0 c1 c2
      have d0:=beq_iff_eq.1 e0
      have d1:=beq_iff_eq.1 e1
      have d2:=hm_.1 e2
      generalize l[k]=x at d0 d1 d2 ⊢
      generalize l'[k]=y at d0 d1 d2 ⊢
      cases x;cases y;simp_all))
     clear heq
     generalize l[k].kind=z0 at *
     generalize l'[k].kind=z0' at *
     generalize l[k].value=z1 at *
     generalize l'[k].value=z1' at *
     generalize l[k].name=z2 at *
     generalize l'[k].name=z2' at *
     cases b0 <;> cases b1 <;> cases b2
     all_goals first
      | exact absurd ⟨rfl,rfl,rfl⟩ HB3.out
      | (go_wp2
         go_quiet (fail)
         go_wp2
         go_ret
         exact bw_ HNE.out)
   ·obtain rfl:k=n:=by omega
    have HT2:=hid (bp_ HN.out HN'.out hT.out)
    go_wp2
    go_ret
    exact b9_ HT2.out
 ·have HNE:=hid (show ¬l=l' from fun e=>hnm (by rw [←HN.out,←HN'.out,e]))
  have hneq:((n:Int) != (n':Int))=true:=by simp;omega
  go_enter func28,ntmps28
  go_wp2
  go_ret
  exact cy_ (k:=0) HNE.out
end
section
variable {C D:Cl} {W:World} {q q':Option Addr}
theorem efEx_p {α:Type} {l l':List α} {lv lv':List Value} {c c':Nat} (h1:lv.length=l.length) (h2:lv'.length=l'.length) (hl:l.length≤9223372036854775807) (hl':l'.length≤9223372036854775807)
 (hrow:∀j (hj:j<lv.length),∃g o,q=some ⟨g,o,none⟩∧C ⟨g,o+j,none⟩=some (lv[j]))
 (hrow':∀j (hj:j<lv'.length),∃g o,q'=some ⟨g,o,none⟩∧D ⟨g,o+j,none⟩=some (lv'[j]))
 (hC:CLe C (wC W)) (hD:CLe D (wC W)) {Ke:Nat} (ek:∀args w,(callFunc Ke args).run prog w=.ok (.enter Ke args) w)
 (heq:∀j (_:j<lv.length) (_:j<lv'.length) (_:j<l.length) (_:j<l'.length) W',Below W.heap.size W W'→Calls prog Ke #[lv[j],lv'[j]] W' (SaysB (l[j]=l'[j]) W')) :
 Calls prog 167 #[.slice q l.length c,.slice q' l'.length c',.func (.func Ke) #[] #[]] W (SaysB (l=l') W):=by
 obtain ⟨n,hnn⟩:∃n,l.length=n:=⟨_,rfl⟩
 obtain ⟨n',hnn'⟩:∃n,l'.length=n:=⟨_,rfl⟩
 have HA:=hid hrow
 have HB:=hid hrow'
 have HCC:=hid hC
 have HDD:=hid hD
 have HN:=hid hnn
 have HN':=hid hnn'
 have H1:=hid h1
 have H2:=hid h2
 have HEQ:=hid heq
 rw [hnn] at hl ⊢
 rw [hnn'] at hl' ⊢
 clear hrow hrow' hnn hnn' hC hD h1 h2 heq
 by_cases hnm:n=n'
 ·subst hnm
  have hneq:((n:Int) != (n:Int))=false:=by simp
  go_enter func167,ntmps167
  go_wp2
  go_loopw [17] (fun i wr=>∃k:Nat,k≤n∧i=.int .i64 k∧Hid (Below W.heap.size W wr)∧Hid (l.take k=l'.take k)) (fun i _=>n - (intOf i).toNat)
  case atStart=>exact ⟨0,Nat.zero_le _,rfl,hid (Below.refl _ _),hid rfl⟩
  case round =>
   obtain ⟨k,hk,rfl,HBW,hT⟩:=hrel
   by_cases hlt:k<n
   ·have hk1:k<l.length:=by rw [HN.out];exact hlt
    have hk2:k<l'.length:=by rw [HN'.out];exact hlt
    have hk3:k<lv.length:=by rw [H1.out];exact hk1
    have hk4:k<lv'.length:=by rw [H2.out];exact hk2
    obtain ⟨x,hx,g,o,rfl,a0⟩:∃x,lv[k]=x∧∃g o,q=some ⟨g,o,none⟩∧C ⟨g,o+k,none⟩=some (x):=⟨_,rfl,HA.out k hk3⟩
    obtain ⟨y,hy,g',o',rfl,b0⟩:∃y,lv'[k]=y∧∃g o,q'=some ⟨g,o,none⟩∧D ⟨g,o+k,none⟩=some (y):=⟨_,rfl,HB.out k hk4⟩
    have e0:wr.cell? ⟨g,o+k,none⟩=some (x):=ab_ HBW.out _ _ (HCC.out _ _ a0)
    have f0:wr.cell? ⟨g',o'+k,none⟩=some (y):=ab_ HBW.out _ _ (HDD.out _ _ b0)
    clear a0 b0
    have hki:(k:Int)<(n:Int):=by omega
    have HB2:=hid HBW.out
    have HCALL:=hid (HEQ.out k hk3 hk4 hk1 hk2 _ HB2.out)
    rw [hx,hy] at HCALL
    have HK:=hid (And.intro hk1 hk2)
    clear hx hy
    go_wp2_with fail
    refine HCALL.out.mono ?_
    rintro e w2 ⟨bb,rfl,hbb,hbel⟩
    have HB3:=hid (show Below W.heap.size W w2 from HB2.out.trans (hbel.mono HB2.out.size))
    clear hbel HCALL
    cases bb
    ·have HNE:=hid (dt_ HK.out.1 HK.out.2 (fun e=>by have:=hbb.2 e;exact absurd this (by decide)))
     clear hbb
     go_wp2_with fail
     go_ret
     exact ⟨false,rfl,by have:=HNE.out;simp [this],HB3.out⟩
    ·have HT2:=hid (bc_ HK.out.1 HK.out.2 hT.out (hbb.1 rfl))
     clear hbb
     go_wp2_with fail
     exact ⟨⟨k+1,by omega,by go_num,HB3,HT2⟩,by simp [intOf];omega⟩
   ·obtain rfl:k=n:=by omega
    have HT2:=hid (bp_ HN.out HN'.out hT.out)
    go_wp2
    go_ret
    exact ⟨true,rfl,by have:=HT2.out;simp [this],HBW.out⟩
 ·have HNE:=hid (show ¬l=l' from fun e=>hnm (by rw [←HN.out,←HN'.out,e]))
  have hneq:((n:Int) != (n':Int))=true:=by simp;omega
  go_enter func167,ntmps167
  go_wp2
  go_ret
  exact ⟨false,rfl,by have:=HNE.out;simp [this],Below.refl _ _⟩
end
structure SRd (C:Cl) (s:StZ) (q1 q2:Option Addr) (vs:List Value):Prop where
 tg:StrRow C q1 s.targets
 ex:ExRow C q2 s.exprs vs
 n1:s.targets.length≤9223372036854775807
 n2:s.exprs.length≤9223372036854775807
 n3:∀e∈s.exprs,e.length≤9223372036854775807
theorem SR.rd2 {C:Cl} {s:StZ} {q1 q2:Option Addr} (h:SR C s q1 q2):∃vs,SRd C s q1 q2 vs:=by
 obtain ⟨vs,hv⟩:=h.ex
 exact ⟨vs,h.tg,hv,h.f.2.2.2.1,h.f.2.2.2.2,fun e he=>by have:=(h.f.2.2.1 e he).1;omega⟩
section
variable {C D:Cl} {W:World} {q1 q2 r1 r2:Option Addr}
theorem x4_ {l l':List (List TmZ)} {vs vs':List Value} {c c':Nat} (hl:l.length≤9223372036854775807) (hl':l'.length≤9223372036854775807) (n3:∀e∈l,e.length≤9223372036854775807) (n3':∀e∈l',e.length≤9223372036854775807) (ha:ExRow C q1 l vs) (hb:ExRow D q2 l' vs') (hC:CLe C (wC W)) (hD:CLe D (wC W)) :
 Calls prog 167 #[.slice q1 l.length c,.slice q2 l'.length c',.func (.func 168) #[] #[]] W (SaysB (l=l') W) :=
 efEx_p (lv:=vs) (lv':=vs') ha.len hb.len hl hl' ha.cells hb.cells hC hD (enters_of func168 (by kernel_rfl) rfl) (fun j h1 h2 h3 h4 W' hw=>by
  obtain ⟨qe,ce,e1,hr,_⟩:=ha.each j h1 h3
  obtain ⟨qe',ce',e2,hr',_⟩:=hb.each j h2 h4
  rw [e1,e2]
  exact (eqTm (n3 _ (List.getElem_mem h3)) (n3' _ (List.getElem_mem h4)) hr hr' (hC.trans (ab_ hw)) (hD.trans (ab_ hw))).mono fun _ _ h=>h.b)
theorem stz_ext {a b:StZ} (h1:a.kind=b.kind) (h2:a.name=b.name) (h3:a.targets=b.targets) (h4:a.exprs=b.exprs):a=b:=by
 cases a;cases b;simp_all
theorem rk_ (s t:StZ) {vs vt:List Value} {c1 c2 d1 d2:Nat} (hs:SRd C s q1 q2 vs) (ht:SRd D t r1 r2 vt) (hC:CLe C (wC W)) (hD:CLe D (wC W)) :
 Calls prog 121 #[sv s q1 c1 q2 c2,sv t r1 d1 r2 d2] W (SaysB (s=t) W):=by
 have HB:=hid (show Below W.heap.size W ((W.alloc (so s q1 c1 q2 c2)).alloc (so t r1 d1 r2 d2)) from ((Below.refl _ _).alloc (Nat.le_refl _) _).alloc (by rw [nwz];omega) _)
 have HX:=hid (ad_ (W.alloc (so s q1 c1 q2 c2)) (so t r1 d1 r2 d2) (nwn W (so s q1 c1 q2 c2)))
 have hy:=nwn (W.alloc (so s q1 c1 q2 c2)) (so t r1 d1 r2 d2)
 rw [nwz] at hy
 have HY:=hid hy
 have HS:=hid (fun w (h:Below W.heap.size W w)=>(eqStr (c:=c1) (c':=d1) hs.n1 ht.n1 hs.tg ht.tg (hC.trans (ab_ h)) (hD.trans (ab_ h))).mono fun _ _ h=>h.b)
 have HE:=hid (fun w (h:Below W.heap.size W w)=>x4_ (c:=c2) (c':=d2) hs.n2 ht.n2 hs.n3 ht.n3 hs.ex ht.ex (hC.trans (ab_ h)) (hD.trans (ab_ h)))
 have HEXT:=hid (show (s.kind=t.kind∧s.name=t.name∧s.targets=t.targets∧s.exprs=t.exprs)↔s=t from ⟨fun ⟨a,b,c,d⟩=>stz_ext a b c d,fun h=>by subst h;exact ⟨rfl,rfl,rfl,rfl⟩⟩)
 unfold sv
 unfold so at HB HX HY
 clear hs ht hC hD hy
 obtain ⟨b1,e1⟩:∃b,(s.kind == t.kind)=b:=⟨_,rfl⟩
 obtain ⟨b2,e2⟩:∃b,(s.name.toList == t.name.toList)=b:=⟨_,rfl⟩
 have HE1:=hid (show b1=true↔s.kind=t.kind from by rw [←e1];exact beq_iff_eq)
 have HE2:=hid (show b2=true↔s.name=t.name from by rw [←e2];exact hm_)
 cases b1
 ·go_enter func121,ntmps121
  obtain ⟨x0,x1,x2,x3⟩:=ay_ (HX.out)
  obtain ⟨y0,y1,y2,y3⟩:=ay_ (HY.out)
  go_wp2_with fail
  go_ret
  exact ⟨false,rfl,by rw [←HEXT.out];exact ⟨fun h=>(by cases h),fun h=>HE1.out.2 h.1⟩,HB.out⟩
 ·skip
  cases b2
  ·go_enter func121,ntmps121
   obtain ⟨x0,x1,x2,x3⟩:=ay_ (HX.out)
   obtain ⟨y0,y1,y2,y3⟩:=ay_ (HY.out)
   go_wp2_with fail
   go_ret
   exact ⟨false,rfl,by rw [←HEXT.out];exact ⟨fun h=>(by cases h),fun h=>HE2.out.2 h.2.1⟩,HB.out⟩
  ·skip
   go_enter func121,ntmps121
   obtain ⟨x0,x1,x2,x3⟩:=ay_ (HX.out)
   obtain ⟨y0,y1,y2,y3⟩:=ay_ (HY.out)
   have HW1:=hid (HS.out _ HB.out)
   go_wp2_with fail
   go_at_call 66
   refine HW1.out.mono ?_
   rintro e w1 ⟨p1,rfl,hp1,hbel⟩
   have HB1:=hid (ac_ HB.out hbel)
   have HX1:=hid ((hbel.block _ (heap_lt HX.out)).trans HX.out)
   have HY1:=hid ((hbel.block _ (heap_lt HY.out)).trans HY.out)
   have HP1:=hid hp1
   clear hbel hp1 HW1 x0 x1 x2 x3 y0 y1 y2 y3
   obtain ⟨x0,x1,x2,x3⟩:=ay_ (HX1.out)
   obtain ⟨y0,y1,y2,y3⟩:=ay_ (HY1.out)
   cases p1
   ·go_wp2_with fail
    go_ret
    exact ⟨false,rfl,by rw [←HEXT.out];exact ⟨fun h=>(by cases h),fun h=>HP1.out.2 h.2.2.1⟩,HB1.out⟩
   ·skip
    have HW2:=hid (HE.out _ HB1.out)
    go_wp2_with fail
    go_at_call 167
    refine HW2.out.mono ?_
    rintro e w2 ⟨p2,rfl,hp2,hbel⟩
    have HB2:=hid (ac_ HB1.out hbel)
    have HX2:=hid ((hbel.block _ (heap_lt HX1.out)).trans HX1.out)
    have HY2:=hid ((hbel.block _ (heap_lt HY1.out)).trans HY1.out)
    have HP2:=hid hp2
    clear hbel hp2 HW2 x0 x1 x2 x3 y0 y1 y2 y3
    obtain ⟨x0,x1,x2,x3⟩:=ay_ (HX2.out)
    obtain ⟨y0,y1,y2,y3⟩:=ay_ (HY2.out)
    cases p2
    ·go_wp2_with fail
     go_ret
     exact ⟨false,rfl,by rw [←HEXT.out];exact ⟨fun h=>(by cases h),fun h=>HP2.out.2 h.2.2.2⟩,HB2.out⟩
    ·go_wp2_with fail
     go_ret
     exact ⟨true,rfl,by rw [←HEXT.out];exact ⟨fun _=>⟨HE1.out.1 (by first|rfl|trivial),HE2.out.1 (by first|rfl|trivial),HP1.out.1 (by first|rfl|trivial),HP2.out.1 (by first|rfl|trivial)⟩,fun _=>rfl⟩,HB2.out⟩
end
section
variable {C D:Cl} {w:World} {q q':Option Addr}
theorem eqDe {l l':List DeZ} {c c':Nat} (hl:l.length≤9223372036854775807) (hl':l'.length≤9223372036854775807) (ha:DeRow C q l) (hb:DeRow D q' l') (hC:CLe C (wC w)) (hD:CLe D (wC w)):Calls prog 67 #[.slice q l.length c,.slice q' l'.length c'] w (Says (l=l') w):=by
 obtain ⟨n,hnn⟩:∃n,l.length=n:=⟨_,rfl⟩
 obtain ⟨n',hnn'⟩:∃n,l'.length=n:=⟨_,rfl⟩
 have HA:=hid ha
 have HB:=hid hb
 have HCC:=hid hC
 have HDD:=hid hD
 have HN:=hid hnn
 have HN':=hid hnn'
 rw [hnn] at hl ⊢
 rw [hnn'] at hl' ⊢
 clear ha hb hnn hnn' hC hD
 by_cases hnm:n=n'
 ·subst hnm
  have hneq:((n:Int) != (n:Int))=false:=by simp
  go_enter func67,ntmps67
  go_wp2
  go_loopw [13] (fun i wr=>∃k nq:Nat,k≤n∧i=.int .i64 k∧wr=w.drewN nq∧Hid (l.take k=l'.take k)) (fun i _=>n - (intOf i).toNat)
  case atStart=>exact ⟨0,0,Nat.zero_le _,rfl,rfl,hid rfl⟩
  case round =>
   obtain ⟨k,nq,hk,rfl,rfl,hT⟩:=hrel
   by_cases hlt:k<n
   ·have hk1:k<l.length:=by rw [HN.out];exact hlt
    have hk2:k<l'.length:=by rw [HN'.out];exact hlt
    obtain ⟨g,o,rfl,a0,a1⟩:=HA.out k hk1
    obtain ⟨g',o',rfl,b0,b1⟩:=HB.out k hk2
    have x0:w.cell? ⟨g,o+k*2,none⟩=some (.string l[k].name):=HCC.out _ _ a0
    have y0:w.cell? ⟨g',o'+k*2,none⟩=some (.string l'[k].name):=HDD.out _ _ b0
    have x1:w.cell? ⟨g,o+k*2+1,none⟩=some (.int .u64 (l[k].label:Nat)):=HCC.out _ _ a1
    have y1:w.cell? ⟨g',o'+k*2+1,none⟩=some (.int .u64 (l'[k].label:Nat)):=HDD.out _ _ b1
    clear a0 a1 b0 b1
    have hki:(k:Int)<(n:Int):=by omega
    by_cases heq:l[k]=l'[k]
    ·have HT2:=hid (bc_ hk1 hk2 hT.out heq)
     rw [←heq] at y0 y1
     generalize l[k].name=z0 at *
     have e0a:(z0.toList == z0.toList)=true:=by simp
     generalize l[k].label=z1 at *
     have e1a:(((z1:Nat):Int) == ((z1:Nat):Int))=true:=by simp
     clear heq
     go_wp2
     go_quiet (fail)
     go_wp2
     exact ⟨⟨k+1,_,by omega,by go_num,rfl,HT2⟩,by simp [intOf];omega⟩
    ·have HNE:=hid (dt_ hk1 hk2 heq)
     obtain ⟨b0,e0⟩:∃b,(l[k].name.toList == l'[k].name.toList)=b:=⟨_,rfl⟩
     obtain ⟨b1,e1⟩:∃b,(((l[k].label:Nat):Int) == ((l'[k].label:Nat):Int))=b:=⟨_,rfl⟩
     have HB3:=hid (show ¬(b0=true∧b1=true) from fun ⟨c0,c1⟩=>heq (by
      subst c0 c1
      have d0:=hm_.1 e0
      have d1:=Int.ofNat.inj (beq_iff_eq.1 e1)
      generalize l[k]=x at d0 d1 ⊢
      generalize l'[k]=y at d0 d1 ⊢
      cases x;cases y;simp_all))
     clear heq
     generalize l[k].name=z0 at *
     generalize l'[k].name=z0' at *
     generalize l[k].label=z1 at *
     generalize l'[k].label=z1' at *
     cases b0 <;> cases b1
     all_goals first
      | exact absurd ⟨rfl,rfl⟩ HB3.out
      | (go_wp2
         go_quiet (fail)
         go_wp2
         go_ret
         exact bw_ HNE.out)
   ·obtain rfl:k=n:=by omega
    have HT2:=hid (bp_ HN.out HN'.out hT.out)
    go_wp2
    go_ret
    exact b9_ HT2.out
 ·have HNE:=hid (show ¬l=l' from fun e=>hnm (by rw [←HN.out,←HN'.out,e]))
  have hneq:((n:Int) != (n':Int))=true:=by simp;omega
  go_enter func67,ntmps67
  go_wp2
  go_ret
  exact cy_ (k:=0) HNE.out
theorem kitDe {l l':List DeZ} {c c':Nat} (hl:l.length≤9223372036854775807) (hl':l'.length≤9223372036854775807) (ha:DeRow C q l) (hb:DeRow D q' l') (hC:CLe C (wC w)) (hD:CLe D (wC w)):Calls prog 52 #[.slice q l.length c,.slice q' l'.length c'] w (Says (l=l') w):=by
 obtain ⟨n,hnn⟩:∃n,l.length=n:=⟨_,rfl⟩
 obtain ⟨n',hnn'⟩:∃n,l'.length=n:=⟨_,rfl⟩
 have HA:=hid ha
 have HB:=hid hb
 have HCC:=hid hC
 have HDD:=hid hD
 have HN:=hid hnn
 have HN':=hid hnn'
 rw [hnn] at hl ⊢
 rw [hnn'] at hl' ⊢
 clear ha hb hnn hnn' hC hD
 by_cases hnm:n=n'
 ·subst hnm
  have hneq:((n:Int) != (n:Int))=false:=by simp
  go_enter func52,ntmps52
  go_wp2
  go_loopw [5] (fun i wr=>∃k nq:Nat,k≤n∧i=.int .i64 k∧wr=w.drewN nq∧Hid (l.take k=l'.take k)) (fun i _=>n - (intOf i).toNat)
  case atStart=>exact ⟨0,0,Nat.zero_le _,rfl,rfl,hid rfl⟩
  case round =>
   obtain ⟨k,nq,hk,rfl,rfl,hT⟩:=hrel
   by_cases hlt:k<n
   ·have hk1:k<l.length:=by rw [HN.out];exact hlt
    have hk2:k<l'.length:=by rw [HN'.out];exact hlt
    obtain ⟨g,o,rfl,a0,a1⟩:=HA.out k hk1
    obtain ⟨g',o',rfl,b0,b1⟩:=HB.out k hk2
    have x0:w.cell? ⟨g,o+k*2,none⟩=some (.string l[k].name):=HCC.out _ _ a0
    have y0:w.cell? ⟨g',o'+k*2,none⟩=some (.string l'[k].name):=HDD.out _ _ b0
    have x1:w.cell? ⟨g,o+k*2+1,none⟩=some (.int .u64 (l[k].label:Nat)):=HCC.out _ _ a1
    have y1:w.cell? ⟨g',o'+k*2+1,none⟩=some (.int .u64 (l'[k].label:Nat)):=HDD.out _ _ b1
    clear a0 a1 b0 b1
    have hki:(k:Int)<(n:Int):=by omega
    by_cases heq:l[k]=l'[k]
    ·have HT2:=hid (bc_ hk1 hk2 hT.out heq)
     rw [←heq] at y0 y1
     generalize l[k].name=z0 at *
     have e0a:(z0.toList == z0.toList)=true:=by simp
     generalize l[k].label=z1 at *
     have e1a:(((z1:Nat):Int) == ((z1:Nat):Int))=true:=by simp
     clear heq
     go_wp2
     go_quiet (fail)
     go_wp2
     exact ⟨⟨k+1,_,by omega,by go_num,rfl,HT2⟩,by simp [intOf];omega⟩
    ·have HNE:=hid (dt_ hk1 hk2 heq)
     obtain ⟨b0,e0⟩:∃b,(l[k].name.toList == l'[k].name.toList)=b:=⟨_,rfl⟩
     obtain ⟨b1,e1⟩:∃b,(((l[k].label:Nat):Int) == ((l'[k].label:Nat):Int))=b:=⟨_,rfl⟩
     have HB3:=hid (show ¬(b0=true∧b1=true) from fun ⟨c0,c1⟩=>heq (by
      subst c0 c1
      have d0:=hm_.1 e0
      have d1:=Int.ofNat.inj (beq_iff_eq.1 e1)
      generalize l[k]=x at d0 d1 ⊢
      generalize l'[k]=y at d0 d1 ⊢
      cases x;cases y;simp_all))
     clear heq
     generalize l[k].name=z0 at *
     generalize l'[k].name=z0' at *
     generalize l[k].label=z1 at *
     generalize l'[k].label=z1' at *
     cases b0 <;> cases b1
     all_goals first
      | exact absurd ⟨rfl,rfl⟩ HB3.out
      | (go_wp2
         go_quiet (fail)
         go_wp2
         go_ret
         exact bw_ HNE.out)
   ·obtain rfl:k=n:=by omega
    have HT2:=hid (bp_ HN.out HN'.out hT.out)
    go_wp2
    go_ret
    exact b9_ HT2.out
 ·have HNE:=hid (show ¬l=l' from fun e=>hnm (by rw [←HN.out,←HN'.out,e]))
  have hneq:((n:Int) != (n':Int))=true:=by simp;omega
  go_enter func52,ntmps52
  go_wp2
  go_ret
  exact cy_ (k:=0) HNE.out
end
section
variable {C D:Cl} {w:World} {q q':Option Addr}
theorem eqLa {l l':List Nat} {c c':Nat} (hl:l.length≤9223372036854775807) (hl':l'.length≤9223372036854775807) (ha:LaRow C q l) (hb:LaRow D q' l') (hC:CLe C (wC w)) (hD:CLe D (wC w)):Calls prog 119 #[.slice q l.length c,.slice q' l'.length c'] w (Says (l=l') w):=by
 obtain ⟨n,hnn⟩:∃n,l.length=n:=⟨_,rfl⟩
 obtain ⟨n',hnn'⟩:∃n,l'.length=n:=⟨_,rfl⟩
 have HA:=hid ha
 have HB:=hid hb
 have HCC:=hid hC
 have HDD:=hid hD
 have HN:=hid hnn
 have HN':=hid hnn'
 rw [hnn] at hl ⊢
 rw [hnn'] at hl' ⊢
 clear ha hb hnn hnn' hC hD
 by_cases hnm:n=n'
 ·subst hnm
  have hneq:((n:Int) != (n:Int))=false:=by simp
  go_enter func119,ntmps119
  go_wp2
  go_loopw [13] (fun i wr=>∃k nq:Nat,k≤n∧i=.int .i64 k∧wr=w.drewN nq∧Hid (l.take k=l'.take k)) (fun i _=>n - (intOf i).toNat)
  case atStart=>exact ⟨0,0,Nat.zero_le _,rfl,rfl,hid rfl⟩
  case round =>
   obtain ⟨k,nq,hk,rfl,rfl,hT⟩:=hrel
   by_cases hlt:k<n
   ·have hk1:k<l.length:=by rw [HN.out];exact hlt
    have hk2:k<l'.length:=by rw [HN'.out];exact hlt
    obtain ⟨g,o,rfl,a0⟩:=HA.out k hk1
    obtain ⟨g',o',rfl,b0⟩:=HB.out k hk2
    have x0:w.cell? ⟨g,o+k,none⟩=some (.int .u64 (l[k]:Nat)):=HCC.out _ _ a0
    have y0:w.cell? ⟨g',o'+k,none⟩=some (.int .u64 (l'[k]:Nat)):=HDD.out _ _ b0
    clear a0 b0
    have hki:(k:Int)<(n:Int):=by omega
    by_cases heq:l[k]=l'[k]
    ·have HT2:=hid (bc_ hk1 hk2 hT.out heq)
     rw [←heq] at y0
     generalize l[k]=z0 at *
     have e0a:(((z0:Nat):Int) == ((z0:Nat):Int))=true:=by simp
     have e0b:(((z0:Nat):Int) != ((z0:Nat):Int))=false:=by simp
     clear heq
     go_wp2
     go_quiet (fail)
     go_wp2
     exact ⟨⟨k+1,_,by omega,by go_num,rfl,HT2⟩,by simp [intOf];omega⟩
    ·have HNE:=hid (dt_ hk1 hk2 heq)
     have e1:(((l[k]:Nat):Int) == ((l'[k]:Nat):Int))=false:=by rw [Bool.eq_false_iff];intro h;rw [beq_iff_eq] at h;exact heq (by omega)
     clear heq
     generalize l[k]=z at *
     generalize l'[k]=z' at *
     have e2:(((z:Nat):Int) != ((z':Nat):Int))=true:=by simp only [bne,e1,Bool.not_false]
     go_wp2
     go_quiet (fail)
     go_wp2
     go_ret
     exact bw_ HNE.out
   ·obtain rfl:k=n:=by omega
    have HT2:=hid (bp_ HN.out HN'.out hT.out)
    go_wp2
    go_ret
    exact b9_ HT2.out
 ·have HNE:=hid (show ¬l=l' from fun e=>hnm (by rw [←HN.out,←HN'.out,e]))
  have hneq:((n:Int) != (n':Int))=true:=by simp;omega
  go_enter func119,ntmps119
  go_wp2
  go_ret
  exact cy_ (k:=0) HNE.out
theorem kitLa {l l':List Nat} {c c':Nat} (hl:l.length≤9223372036854775807) (hl':l'.length≤9223372036854775807) (ha:LaRow C q l) (hb:LaRow D q' l') (hC:CLe C (wC w)) (hD:CLe D (wC w)):Calls prog 53 #[.slice q l.length c,.slice q' l'.length c'] w (Says (l=l') w):=by
 obtain ⟨n,hnn⟩:∃n,l.length=n:=⟨_,rfl⟩
 obtain ⟨n',hnn'⟩:∃n,l'.length=n:=⟨_,rfl⟩
 have HA:=hid ha
 have HB:=hid hb
 have HCC:=hid hC
 have HDD:=hid hD
 have HN:=hid hnn
 have HN':=hid hnn'
 rw [hnn] at hl ⊢
 rw [hnn'] at hl' ⊢
 clear ha hb hnn hnn' hC hD
 by_cases hnm:n=n'
 ·subst hnm
  have hneq:((n:Int) != (n:Int))=false:=by simp
  go_enter func53,ntmps53
  go_wp2
  go_loopw [5] (fun i wr=>∃k nq:Nat,k≤n∧i=.int .i64 k∧wr=w.drewN nq∧Hid (l.take k=l'.take k)) (fun i _=>n - (intOf i).toNat)
  case atStart=>exact ⟨0,0,Nat.zero_le _,rfl,rfl,hid rfl⟩
  case round =>
   obtain ⟨k,nq,hk,rfl,rfl,hT⟩:=hrel
   by_cases hlt:k<n
   ·have hk1:k<l.length:=by rw [HN.out];exact hlt
    have hk2:k<l'.length:=by rw [HN'.out];exact hlt
    obtain ⟨g,o,rfl,a0⟩:=HA.out k hk1
    obtain ⟨g',o',rfl,b0⟩:=HB.out k hk2
    have x0:w.cell? ⟨g,o+k,none⟩=some (.int .u64 (l[k]:Nat)):=HCC.out _ _ a0
    have y0:w.cell? ⟨g',o'+k,none⟩=some (.int .u64 (l'[k]:Nat)):=HDD.out _ _ b0
    clear a0 b0
    have hki:(k:Int)<(n:Int):=by omega
    by_cases heq:l[k]=l'[k]
    ·have HT2:=hid (bc_ hk1 hk2 hT.out heq)
     rw [←heq] at y0
     generalize l[k]=z0 at *
     have e0a:(((z0:Nat):Int) == ((z0:Nat):Int))=true:=by simp
     have e0b:(((z0:Nat):Int) != ((z0:Nat):Int))=false:=by simp
     clear heq
     go_wp2
     go_quiet (fail)
     go_wp2
     exact ⟨⟨k+1,_,by omega,by go_num,rfl,HT2⟩,by simp [intOf];omega⟩
    ·have HNE:=hid (dt_ hk1 hk2 heq)
     have e1:(((l[k]:Nat):Int) == ((l'[k]:Nat):Int))=false:=by rw [Bool.eq_false_iff];intro h;rw [beq_iff_eq] at h;exact heq (by omega)
     clear heq
     generalize l[k]=z at *
     generalize l'[k]=z' at *
     have e2:(((z:Nat):Int) != ((z':Nat):Int))=true:=by simp only [bne,e1,Bool.not_false]
     go_wp2
     go_quiet (fail)
     go_wp2
     go_ret
     exact bw_ HNE.out
   ·obtain rfl:k=n:=by omega
    have HT2:=hid (bp_ HN.out HN'.out hT.out)
    go_wp2
    go_ret
    exact b9_ HT2.out
 ·have HNE:=hid (show ¬l=l' from fun e=>hnm (by rw [←HN.out,←HN'.out,e]))
  have hneq:((n:Int) != (n':Int))=true:=by simp;omega
  go_enter func53,ntmps53
  go_wp2
  go_ret
  exact cy_ (k:=0) HNE.out
end
section
variable {C D:Cl} {W:World} {q q':Option Addr}
theorem efSt_p {α:Type} {l l':List α} {lv lv':List StV} {c c':Nat} (h1:lv.length=l.length) (h2:lv'.length=l'.length) (hl:l.length≤9223372036854775807) (hl':l'.length≤9223372036854775807)
 (hrow:∀j (hj:j<lv.length),∃g o,q=some ⟨g,o,none⟩∧C ⟨g,o+j*4,none⟩=some (.int .i64 lv[j].k)∧C ⟨g,o+j*4+1,none⟩=some (.string lv[j].nm)∧C ⟨g,o+j*4+2,none⟩=some (.slice lv[j].q1 lv[j].n1 lv[j].c1)∧C ⟨g,o+j*4+3,none⟩=some (.slice lv[j].q2 lv[j].n2 lv[j].c2))
 (hrow':∀j (hj:j<lv'.length),∃g o,q'=some ⟨g,o,none⟩∧D ⟨g,o+j*4,none⟩=some (.int .i64 lv'[j].k)∧D ⟨g,o+j*4+1,none⟩=some (.string lv'[j].nm)∧D ⟨g,o+j*4+2,none⟩=some (.slice lv'[j].q1 lv'[j].n1 lv'[j].c1)∧D ⟨g,o+j*4+3,none⟩=some (.slice lv'[j].q2 lv'[j].n2 lv'[j].c2))
 (hC:CLe C (wC W)) (hD:CLe D (wC W)) {Ke:Nat} (ek:∀args w,(callFunc Ke args).run prog w=.ok (.enter Ke args) w)
 (heq:∀j (_:j<lv.length) (_:j<lv'.length) (_:j<l.length) (_:j<l'.length) W',Below W.heap.size W W'→Calls prog Ke #[.agg #[.int .i64 lv[j].k,.string lv[j].nm,.slice lv[j].q1 lv[j].n1 lv[j].c1,.slice lv[j].q2 lv[j].n2 lv[j].c2],.agg #[.int .i64 lv'[j].k,.string lv'[j].nm,.slice lv'[j].q1 lv'[j].n1 lv'[j].c1,.slice lv'[j].q2 lv'[j].n2 lv'[j].c2]] W' (SaysB (l[j]=l'[j]) W')) :
 Calls prog 120 #[.slice q l.length c,.slice q' l'.length c',.func (.func Ke) #[] #[]] W (SaysB (l=l') W):=by
 obtain ⟨n,hnn⟩:∃n,l.length=n:=⟨_,rfl⟩
 obtain ⟨n',hnn'⟩:∃n,l'.length=n:=⟨_,rfl⟩
 have HA:=hid hrow
 have HB:=hid hrow'
 have HCC:=hid hC
 have HDD:=hid hD
 have HN:=hid hnn
 have HN':=hid hnn'
 have H1:=hid h1
 have H2:=hid h2
 have HEQ:=hid heq
 rw [hnn] at hl ⊢
 rw [hnn'] at hl' ⊢
 clear hrow hrow' hnn hnn' hC hD h1 h2 heq
 by_cases hnm:n=n'
 ·subst hnm
  have hneq:((n:Int) != (n:Int))=false:=by simp
  go_enter func120,ntmps120
  go_wp2
  go_loopw [17] (fun i wr=>∃k:Nat,k≤n∧i=.int .i64 k∧Hid (Below W.heap.size W wr)∧Hid (l.take k=l'.take k)) (fun i _=>n - (intOf i).toNat)
  case atStart=>exact ⟨0,Nat.zero_le _,rfl,hid (Below.refl _ _),hid rfl⟩
  case round =>
   obtain ⟨k,hk,rfl,HBW,hT⟩:=hrel
   by_cases hlt:k<n
   ·have hk1:k<l.length:=by rw [HN.out];exact hlt
    have hk2:k<l'.length:=by rw [HN'.out];exact hlt
    have hk3:k<lv.length:=by rw [H1.out];exact hk1
    have hk4:k<lv'.length:=by rw [H2.out];exact hk2
    obtain ⟨x,hx,g,o,rfl,a0,a1,a2,a3⟩:∃x,lv[k]=x∧∃g o,q=some ⟨g,o,none⟩∧C ⟨g,o+k*4,none⟩=some (.int .i64 x.k)∧C ⟨g,o+k*4+1,none⟩=some (.string x.nm)∧C ⟨g,o+k*4+2,none⟩=some (.slice x.q1 x.n1 x.c1)∧C ⟨g,o+k*4+3,none⟩=some (.slice x.q2 x.n2 x.c2):=⟨_,rfl,HA.out k hk3⟩
    obtain ⟨y,hy,g',o',rfl,b0,b1,b2,b3⟩:∃y,lv'[k]=y∧∃g o,q'=some ⟨g,o,none⟩∧D ⟨g,o+k*4,none⟩=some (.int .i64 y.k)∧D ⟨g,o+k*4+1,none⟩=some (.string y.nm)∧D ⟨g,o+k*4+2,none⟩=some (.slice y.q1 y.n1 y.c1)∧D ⟨g,o+k*4+3,none⟩=some (.slice y.q2 y.n2 y.c2):=⟨_,rfl,HB.out k hk4⟩
    have e0:wr.cell? ⟨g,o+k*4,none⟩=some (.int .i64 x.k):=ab_ HBW.out _ _ (HCC.out _ _ a0)
    have e1:wr.cell? ⟨g,o+k*4+1,none⟩=some (.string x.nm):=ab_ HBW.out _ _ (HCC.out _ _ a1)
    have e2:wr.cell? ⟨g,o+k*4+2,none⟩=some (.slice x.q1 x.n1 x.c1):=ab_ HBW.out _ _ (HCC.out _ _ a2)
    have e3:wr.cell? ⟨g,o+k*4+3,none⟩=some (.slice x.q2 x.n2 x.c2):=ab_ HBW.out _ _ (HCC.out _ _ a3)
    have f0:(wr.alloc (.cells #[.int .i64 x.k,.string x.nm,.slice x.q1 x.n1 x.c1,.slice x.q2 x.n2 x.c2] 57)).cell? ⟨g',o'+k*4,none⟩=some (.int .i64 y.k):=(((Below.refl _ _).alloc (Nat.le_refl _) _).cell (World.block_lt_of_cell? _ _ (ab_ HBW.out _ _ (HDD.out _ _ b0)))).trans (ab_ HBW.out _ _ (HDD.out _ _ b0))
    have f1:(wr.alloc (.cells #[.int .i64 x.k,.string x.nm,.slice x.q1 x.n1 x.c1,.slice x.q2 x.n2 x.c2] 57)).cell? ⟨g',o'+k*4+1,none⟩=some (.string y.nm):=(((Below.refl _ _).alloc (Nat.le_refl _) _).cell (World.block_lt_of_cell? _ _ (ab_ HBW.out _ _ (HDD.out _ _ b1)))).trans (ab_ HBW.out _ _ (HDD.out _ _ b1))
    have f2:(wr.alloc (.cells #[.int .i64 x.k,.string x.nm,.slice x.q1 x.n1 x.c1,.slice x.q2 x.n2 x.c2] 57)).cell? ⟨g',o'+k*4+2,none⟩=some (.slice y.q1 y.n1 y.c1):=(((Below.refl _ _).alloc (Nat.le_refl _) _).cell (World.block_lt_of_cell? _ _ (ab_ HBW.out _ _ (HDD.out _ _ b2)))).trans (ab_ HBW.out _ _ (HDD.out _ _ b2))
    have f3:(wr.alloc (.cells #[.int .i64 x.k,.string x.nm,.slice x.q1 x.n1 x.c1,.slice x.q2 x.n2 x.c2] 57)).cell? ⟨g',o'+k*4+3,none⟩=some (.slice y.q2 y.n2 y.c2):=(((Below.refl _ _).alloc (Nat.le_refl _) _).cell (World.block_lt_of_cell? _ _ (ab_ HBW.out _ _ (HDD.out _ _ b3)))).trans (ab_ HBW.out _ _ (HDD.out _ _ b3))
    clear a0 a1 a2 a3 b0 b1 b2 b3
    have hki:(k:Int)<(n:Int):=by omega
    have HB2:=hid (show Below W.heap.size W ((wr.alloc (.cells #[.int .i64 x.k,.string x.nm,.slice x.q1 x.n1 x.c1,.slice x.q2 x.n2 x.c2] 57)).alloc (.cells #[.int .i64 y.k,.string y.nm,.slice y.q1 y.n1 y.c1,.slice y.q2 y.n2 y.c2] 57)) from (HBW.out.alloc HBW.out.size _).alloc (by rw [nwz];have:=HBW.out.size;omega) _)
    have HCALL:=hid (HEQ.out k hk3 hk4 hk1 hk2 _ HB2.out)
    rw [hx,hy] at HCALL
    have HK:=hid (And.intro hk1 hk2)
    clear hx hy
    go_wp2_with fail
    refine HCALL.out.mono ?_
    rintro e w2 ⟨bb,rfl,hbb,hbel⟩
    have HB3:=hid (show Below W.heap.size W w2 from HB2.out.trans (hbel.mono HB2.out.size))
    clear hbel HCALL
    cases bb
    ·have HNE:=hid (dt_ HK.out.1 HK.out.2 (fun e=>by have:=hbb.2 e;exact absurd this (by decide)))
     clear hbb
     go_wp2_with fail
     go_ret
     exact ⟨false,rfl,by have:=HNE.out;simp [this],HB3.out⟩
    ·have HT2:=hid (bc_ HK.out.1 HK.out.2 hT.out (hbb.1 rfl))
     clear hbb
     go_wp2_with fail
     exact ⟨⟨k+1,by omega,by go_num,HB3,HT2⟩,by simp [intOf];omega⟩
   ·obtain rfl:k=n:=by omega
    have HT2:=hid (bp_ HN.out HN'.out hT.out)
    go_wp2
    go_ret
    exact ⟨true,rfl,by have:=HT2.out;simp [this],HBW.out⟩
 ·have HNE:=hid (show ¬l=l' from fun e=>hnm (by rw [←HN.out,←HN'.out,e]))
  have hneq:((n:Int) != (n':Int))=true:=by simp;omega
  go_enter func120,ntmps120
  go_wp2
  go_ret
  exact ⟨false,rfl,by have:=HNE.out;simp [this],Below.refl _ _⟩
end
section
variable {C D:Cl} {W:World} {q1 q2 q3 q4 r1 r2 r3 r4:Option Addr}
theorem body_eq {l l':List StZ} {lv lv':List StV} {c c':Nat} (ha:BdRow C q1 l lv) (hb:BdRow D q2 l' lv') (hC:CLe C (wC W)) (hD:CLe D (wC W)) :
 Calls prog 120 #[.slice q1 l.length c,.slice q2 l'.length c',.func (.func 121) #[] #[]] W (SaysB (l=l') W) :=
 efSt_p (lv:=lv) (lv':=lv') ha.len hb.len (by have:=ha.few;omega) (by have:=hb.few;omega) ha.cells hb.cells hC hD (enters_of func121 (by kernel_rfl) rfl) (fun j h1 h2 h3 h4 W' hw=>by
  obtain ⟨p1,e1,p2,e2,e,hs⟩:=ha.rd j h1 h3
  obtain ⟨p1',e1',p2',e2',e',hs'⟩:=hb.rd j h2 h4
  obtain ⟨vs,hs⟩:=hs.rd2
  obtain ⟨vs',hs'⟩:=hs'.rd2
  rw [e,e']
  exact rk_ l[j] l'[j] hs hs' (hC.trans (ab_ hw)) (hD.trans (ab_ hw)))
theorem tq_ {a b:FnZ} (h1:a.name=b.name) (h2:a.level=b.level) (h3:a.params=b.params) (h4:a.results=b.results) (h5:a.vars=b.vars) (h6:a.body=b.body):a=b:=by
 cases a;cases b;simp_all
theorem rl_ (s t:FnZ) {c1 c2 c3 c4 d1 d2 d3 d4:Nat} (hs:FR C s q1 q2 q3 q4) (ht:FR D t r1 r2 r3 r4) (hC:CLe C (wC W)) (hD:CLe D (wC W)) :
 Calls prog 70 #[fv s q1 c1 q2 c2 q3 c3 q4 c4,fv t r1 d1 r2 d2 r3 d3 r4 d4] W (SaysB (s=t) W):=by
 have HB:=hid (show Below W.heap.size W ((W.alloc (fo s q1 c1 q2 c2 q3 c3 q4 c4)).alloc (fo t r1 d1 r2 d2 r3 d3 r4 d4)) from ((Below.refl _ _).alloc (Nat.le_refl _) _).alloc (by rw [nwz];omega) _)
 have HX:=hid (ad_ (W.alloc (fo s q1 c1 q2 c2 q3 c3 q4 c4)) (fo t r1 d1 r2 d2 r3 d3 r4 d4) (nwn W (fo s q1 c1 q2 c2 q3 c3 q4 c4)))
 have hy:=nwn (W.alloc (fo s q1 c1 q2 c2 q3 c3 q4 c4)) (fo t r1 d1 r2 d2 r3 d3 r4 d4)
 rw [nwz] at hy
 have HY:=hid hy
 obtain ⟨lv,hlv⟩:=hs.bd
 obtain ⟨lv',hlv'⟩:=ht.bd
 have HPS:=hid (fun w (h:Below W.heap.size W w)=>(eqDe (c:=c1) (c':=d1) hs.fine.ps.2 ht.fine.ps.2 hs.ps ht.ps (hC.trans (ab_ h)) (hD.trans (ab_ h))).mono fun _ _ h=>h.b)
 have HRS:=hid (fun w (h:Below W.heap.size W w)=>(eqLa (c:=c2) (c':=d2) hs.fine.rs.2 ht.fine.rs.2 hs.rs ht.rs (hC.trans (ab_ h)) (hD.trans (ab_ h))).mono fun _ _ h=>h.b)
 have HVS:=hid (fun w (h:Below W.heap.size W w)=>(eqDe (c:=c3) (c':=d3) hs.fine.vs.2 ht.fine.vs.2 hs.vs ht.vs (hC.trans (ab_ h)) (hD.trans (ab_ h))).mono fun _ _ h=>h.b)
 have HBD:=hid (fun w (h:Below W.heap.size W w)=>body_eq (c:=c4) (c':=d4) hlv hlv' (hC.trans (ab_ h)) (hD.trans (ab_ h)))
 have HEXT:=hid (show (s.name=t.name∧s.level=t.level∧s.params=t.params∧s.results=t.results∧s.vars=t.vars∧s.body=t.body)↔s=t from ⟨fun ⟨a,b,c,d,e,f⟩=>tq_ a b c d e f,fun h=>by subst h;exact ⟨rfl,rfl,rfl,rfl,rfl,rfl⟩⟩)
 unfold fv
 unfold fo at HB HX HY
 clear hs ht hC hD hy hlv hlv'
 obtain ⟨b1,e1⟩:∃b,(s.name.toList == t.name.toList)=b:=⟨_,rfl⟩
 obtain ⟨b2,e2⟩:∃b,(((s.level:Nat):Int) == ((t.level:Nat):Int))=b:=⟨_,rfl⟩
 have HE1:=hid (show b1=true↔s.name=t.name from by rw [←e1];exact hm_)
 have HE2:=hid (show b2=true↔s.level=t.level from by rw [←e2,beq_iff_eq];exact Int.ofNat_inj)
 cases b1
 ·go_enter func70,ntmps70
  obtain ⟨x0,x1,x2,x3,x4,x5⟩:=au_ (HX.out)
  obtain ⟨y0,y1,y2,y3,y4,y5⟩:=au_ (HY.out)
  go_wp2_with fail
  go_ret
  exact ⟨false,rfl,by rw [←HEXT.out];exact ⟨fun h=>(by cases h),fun h=>HE1.out.2 h.1⟩,HB.out⟩
 ·skip
  cases b2
  ·go_enter func70,ntmps70
   obtain ⟨x0,x1,x2,x3,x4,x5⟩:=au_ (HX.out)
   obtain ⟨y0,y1,y2,y3,y4,y5⟩:=au_ (HY.out)
   go_wp2_with fail
   go_ret
   exact ⟨false,rfl,by rw [←HEXT.out];exact ⟨fun h=>(by cases h),fun h=>HE2.out.2 h.2.1⟩,HB.out⟩
  ·skip
   go_enter func70,ntmps70
   obtain ⟨x0,x1,x2,x3,x4,x5⟩:=au_ (HX.out)
   obtain ⟨y0,y1,y2,y3,y4,y5⟩:=au_ (HY.out)
   have HW1:=hid (HPS.out _ HB.out)
   go_wp2_with fail
   go_at_call 67
   refine HW1.out.mono ?_
   rintro e w1 ⟨p1,rfl,hp1,hbel⟩
   have HB1:=hid (ac_ HB.out hbel)
   have HX1:=hid ((hbel.block _ (heap_lt HX.out)).trans HX.out)
   have HY1:=hid ((hbel.block _ (heap_lt HY.out)).trans HY.out)
   have HP1:=hid hp1
   clear hbel hp1 HW1 x0 x1 x2 x3 x4 x5 y0 y1 y2 y3 y4 y5
   obtain ⟨x0,x1,x2,x3,x4,x5⟩:=au_ (HX1.out)
   obtain ⟨y0,y1,y2,y3,y4,y5⟩:=au_ (HY1.out)
   cases p1
   ·go_wp2_with fail
    go_ret
    exact ⟨false,rfl,by rw [←HEXT.out];exact ⟨fun h=>(by cases h),fun h=>HP1.out.2 h.2.2.1⟩,HB1.out⟩
   ·skip
    have HW2:=hid (HRS.out _ HB1.out)
    go_wp2_with fail
    go_at_call 119
    refine HW2.out.mono ?_
    rintro e w2 ⟨p2,rfl,hp2,hbel⟩
    have HB2:=hid (ac_ HB1.out hbel)
    have HX2:=hid ((hbel.block _ (heap_lt HX1.out)).trans HX1.out)
    have HY2:=hid ((hbel.block _ (heap_lt HY1.out)).trans HY1.out)
    have HP2:=hid hp2
    clear hbel hp2 HW2 x0 x1 x2 x3 x4 x5 y0 y1 y2 y3 y4 y5
    obtain ⟨x0,x1,x2,x3,x4,x5⟩:=au_ (HX2.out)
    obtain ⟨y0,y1,y2,y3,y4,y5⟩:=au_ (HY2.out)
    cases p2
    ·go_wp2_with fail
     go_ret
     exact ⟨false,rfl,by rw [←HEXT.out];exact ⟨fun h=>(by cases h),fun h=>HP2.out.2 h.2.2.2.1⟩,HB2.out⟩
    ·skip
     have HW3:=hid (HVS.out _ HB2.out)
     go_wp2_with fail
     go_at_call 67
     refine HW3.out.mono ?_
     rintro e w3 ⟨p3,rfl,hp3,hbel⟩
     have HB3:=hid (ac_ HB2.out hbel)
     have HX3:=hid ((hbel.block _ (heap_lt HX2.out)).trans HX2.out)
     have HY3:=hid ((hbel.block _ (heap_lt HY2.out)).trans HY2.out)
     have HP3:=hid hp3
     clear hbel hp3 HW3 x0 x1 x2 x3 x4 x5 y0 y1 y2 y3 y4 y5
     obtain ⟨x0,x1,x2,x3,x4,x5⟩:=au_ (HX3.out)
     obtain ⟨y0,y1,y2,y3,y4,y5⟩:=au_ (HY3.out)
     cases p3
     ·go_wp2_with fail
      go_ret
      exact ⟨false,rfl,by rw [←HEXT.out];exact ⟨fun h=>(by cases h),fun h=>HP3.out.2 h.2.2.2.2.1⟩,HB3.out⟩
     ·skip
      have HW4:=hid (HBD.out _ HB3.out)
      go_wp2_with fail
      go_at_call 120
      refine HW4.out.mono ?_
      rintro e w4 ⟨p4,rfl,hp4,hbel⟩
      have HB4:=hid (ac_ HB3.out hbel)
      have HX4:=hid ((hbel.block _ (heap_lt HX3.out)).trans HX3.out)
      have HY4:=hid ((hbel.block _ (heap_lt HY3.out)).trans HY3.out)
      have HP4:=hid hp4
      clear hbel hp4 HW4 x0 x1 x2 x3 x4 x5 y0 y1 y2 y3 y4 y5
      obtain ⟨x0,x1,x2,x3,x4,x5⟩:=au_ (HX4.out)
      obtain ⟨y0,y1,y2,y3,y4,y5⟩:=au_ (HY4.out)
      cases p4
      ·go_wp2_with fail
       go_ret
       exact ⟨false,rfl,by rw [←HEXT.out];exact ⟨fun h=>(by cases h),fun h=>HP4.out.2 h.2.2.2.2.2⟩,HB4.out⟩
      ·go_wp2_with fail
       go_ret
       exact ⟨true,rfl,by rw [←HEXT.out];exact ⟨fun _=>⟨HE1.out.1 (by first|rfl|trivial),HE2.out.1 (by first|rfl|trivial),HP1.out.1 (by first|rfl|trivial),HP2.out.1 (by first|rfl|trivial),HP3.out.1 (by first|rfl|trivial),HP4.out.1 (by first|rfl|trivial)⟩,fun _=>rfl⟩,HB4.out⟩
end
section
variable {C D:Cl} {w:World} {q q':Option Addr}
theorem eqAr {l l':List ArZ} {c c':Nat} (hl:l.length≤9223372036854775807) (hl':l'.length≤9223372036854775807) (ha:ArRow C q l) (hb:ArRow D q' l') (hC:CLe C (wC w)) (hD:CLe D (wC w)):Calls prog 68 #[.slice q l.length c,.slice q' l'.length c'] w (Says (l=l') w):=by
 obtain ⟨n,hnn⟩:∃n,l.length=n:=⟨_,rfl⟩
 obtain ⟨n',hnn'⟩:∃n,l'.length=n:=⟨_,rfl⟩
 have HA:=hid ha
 have HB:=hid hb
 have HCC:=hid hC
 have HDD:=hid hD
 have HN:=hid hnn
 have HN':=hid hnn'
 rw [hnn] at hl ⊢
 rw [hnn'] at hl' ⊢
 clear ha hb hnn hnn' hC hD
 by_cases hnm:n=n'
 ·subst hnm
  have hneq:((n:Int) != (n:Int))=false:=by simp
  go_enter func68,ntmps68
  go_wp2
  go_loopw [13] (fun i wr=>∃k nq:Nat,k≤n∧i=.int .i64 k∧wr=w.drewN nq∧Hid (l.take k=l'.take k)) (fun i _=>n - (intOf i).toNat)
  case atStart=>exact ⟨0,0,Nat.zero_le _,rfl,rfl,hid rfl⟩
  case round =>
   obtain ⟨k,nq,hk,rfl,rfl,hT⟩:=hrel
   by_cases hlt:k<n
   ·have hk1:k<l.length:=by rw [HN.out];exact hlt
    have hk2:k<l'.length:=by rw [HN'.out];exact hlt
    obtain ⟨g,o,rfl,a0,a1,a2⟩:=HA.out k hk1
    obtain ⟨g',o',rfl,b0,b1,b2⟩:=HB.out k hk2
    have x0:w.cell? ⟨g,o+k*3,none⟩=some (.string l[k].name):=HCC.out _ _ a0
    have y0:w.cell? ⟨g',o'+k*3,none⟩=some (.string l'[k].name):=HDD.out _ _ b0
    have x1:w.cell? ⟨g,o+k*3+1,none⟩=some (.int .i64 l[k].len):=HCC.out _ _ a1
    have y1:w.cell? ⟨g',o'+k*3+1,none⟩=some (.int .i64 l'[k].len):=HDD.out _ _ b1
    have x2:w.cell? ⟨g,o+k*3+2,none⟩=some (.int .u64 (l[k].label:Nat)):=HCC.out _ _ a2
    have y2:w.cell? ⟨g',o'+k*3+2,none⟩=some (.int .u64 (l'[k].label:Nat)):=HDD.out _ _ b2
    clear a0 a1 a2 b0 b1 b2
    have hki:(k:Int)<(n:Int):=by omega
    by_cases heq:l[k]=l'[k]
    ·have HT2:=hid (bc_ hk1 hk2 hT.out heq)
     rw [←heq] at y0 y1 y2
     generalize l[k].name=z0 at *
     have e0a:(z0.toList == z0.toList)=true:=by simp
     generalize l[k].len=z1 at *
     have e1a:((z1:Int) == (z1:Int))=true:=by simp
     generalize l[k].label=z2 at *
     have e2a:(((z2:Nat):Int) == ((z2:Nat):Int))=true:=by simp
     clear heq
     go_wp2
     go_quiet (fail)
     go_wp2
     exact ⟨⟨k+1,_,by omega,by go_num,rfl,HT2⟩,by simp [intOf];omega⟩
    ·have HNE:=hid (dt_ hk1 hk2 heq)
     obtain ⟨b0,e0⟩:∃b,(l[k].name.toList == l'[k].name.toList)=b:=⟨_,rfl⟩
     obtain ⟨b1,e1⟩:∃b,(l[k].len == l'[k].len)=b:=⟨_,rfl⟩
     obtain ⟨b2,e2⟩:∃b,(((l[k].label:Nat):Int) == ((l'[k].label:Nat):Int))=b:=⟨_,rfl⟩
     have HB3:=hid (show ¬(b0=true∧b1=true∧b2=true) from fun ⟨c0,c1,c2⟩=>heq (by
      subst c0 c1 c2
      have d0:=hm_.1 e0
      have d1:=beq_iff_eq.1 e1
      have d2:=Int.ofNat.inj (beq_iff_eq.1 e2)
      generalize l[k]=x at d0 d1 d2 ⊢
      generalize l'[k]=y at d0 d1 d2 ⊢
      cases x;cases y;simp_all))
     clear heq
     generalize l[k].name=z0 at *
     generalize l'[k].name=z0' at *
     generalize l[k].len=z1 at *
     generalize l'[k].len=z1' at *
     generalize l[k].label=z2 at *
     generalize l'[k].label=z2' at *
     cases b0 <;> cases b1 <;> cases b2
     all_goals first
      | exact absurd ⟨rfl,rfl,rfl⟩ HB3.out
      | (go_wp2
         go_quiet (fail)
         go_wp2
         go_ret
         exact bw_ HNE.out)
   ·obtain rfl:k=n:=by omega
    have HT2:=hid (bp_ HN.out HN'.out hT.out)
    go_wp2
    go_ret
    exact b9_ HT2.out
 ·have HNE:=hid (show ¬l=l' from fun e=>hnm (by rw [←HN.out,←HN'.out,e]))
  have hneq:((n:Int) != (n':Int))=true:=by simp;omega
  go_enter func68,ntmps68
  go_wp2
  go_ret
  exact cy_ (k:=0) HNE.out
end
section
variable {C D:Cl} {W:World} {q q':Option Addr}
theorem efFn_p {α:Type} {l l':List α} {lv lv':List FnV} {c c':Nat} (h1:lv.length=l.length) (h2:lv'.length=l'.length) (hl:l.length≤9223372036854775807) (hl':l'.length≤9223372036854775807)
 (hrow:∀j (hj:j<lv.length),∃g o,q=some ⟨g,o,none⟩∧C ⟨g,o+j*6,none⟩=some (.string lv[j].nm)∧C ⟨g,o+j*6+1,none⟩=some (.int .u64 (lv[j].lv:Nat))∧C ⟨g,o+j*6+2,none⟩=some (.slice lv[j].q1 lv[j].n1 lv[j].c1)∧C ⟨g,o+j*6+3,none⟩=some (.slice lv[j].q2 lv[j].n2 lv[j].c2)∧C ⟨g,o+j*6+4,none⟩=some (.slice lv[j].q3 lv[j].n3 lv[j].c3)∧C ⟨g,o+j*6+5,none⟩=some (.slice lv[j].q4 lv[j].n4 lv[j].c4))
 (hrow':∀j (hj:j<lv'.length),∃g o,q'=some ⟨g,o,none⟩∧D ⟨g,o+j*6,none⟩=some (.string lv'[j].nm)∧D ⟨g,o+j*6+1,none⟩=some (.int .u64 (lv'[j].lv:Nat))∧D ⟨g,o+j*6+2,none⟩=some (.slice lv'[j].q1 lv'[j].n1 lv'[j].c1)∧D ⟨g,o+j*6+3,none⟩=some (.slice lv'[j].q2 lv'[j].n2 lv'[j].c2)∧D ⟨g,o+j*6+4,none⟩=some (.slice lv'[j].q3 lv'[j].n3 lv'[j].c3)∧D ⟨g,o+j*6+5,none⟩=some (.slice lv'[j].q4 lv'[j].n4 lv'[j].c4))
 (hC:CLe C (wC W)) (hD:CLe D (wC W)) {Ke:Nat} (ek:∀args w,(callFunc Ke args).run prog w=.ok (.enter Ke args) w)
 (heq:∀j (_:j<lv.length) (_:j<lv'.length) (_:j<l.length) (_:j<l'.length) W',Below W.heap.size W W'→Calls prog Ke #[.agg #[.string lv[j].nm,.int .u64 (lv[j].lv:Nat),.slice lv[j].q1 lv[j].n1 lv[j].c1,.slice lv[j].q2 lv[j].n2 lv[j].c2,.slice lv[j].q3 lv[j].n3 lv[j].c3,.slice lv[j].q4 lv[j].n4 lv[j].c4],.agg #[.string lv'[j].nm,.int .u64 (lv'[j].lv:Nat),.slice lv'[j].q1 lv'[j].n1 lv'[j].c1,.slice lv'[j].q2 lv'[j].n2 lv'[j].c2,.slice lv'[j].q3 lv'[j].n3 lv'[j].c3,.slice lv'[j].q4 lv'[j].n4 lv'[j].c4]] W' (SaysB (l[j]=l'[j]) W')) :
 Calls prog 69 #[.slice q l.length c,.slice q' l'.length c',.func (.func Ke) #[] #[]] W (SaysB (l=l') W):=by
 obtain ⟨n,hnn⟩:∃n,l.length=n:=⟨_,rfl⟩
 obtain ⟨n',hnn'⟩:∃n,l'.length=n:=⟨_,rfl⟩
 have HA:=hid hrow
 have HB:=hid hrow'
 have HCC:=hid hC
 have HDD:=hid hD
 have HN:=hid hnn
 have HN':=hid hnn'
 have H1:=hid h1
 have H2:=hid h2
 have HEQ:=hid heq
 rw [hnn] at hl ⊢
 rw [hnn'] at hl' ⊢
 clear hrow hrow' hnn hnn' hC hD h1 h2 heq
 by_cases hnm:n=n'
 ·subst hnm
  have hneq:((n:Int) != (n:Int))=false:=by simp
  go_enter func69,ntmps69
  go_wp2
  go_loopw [17] (fun i wr=>∃k:Nat,k≤n∧i=.int .i64 k∧Hid (Below W.heap.size W wr)∧Hid (l.take k=l'.take k)) (fun i _=>n - (intOf i).toNat)
  case atStart=>exact ⟨0,Nat.zero_le _,rfl,hid (Below.refl _ _),hid rfl⟩
  case round =>
   obtain ⟨k,hk,rfl,HBW,hT⟩:=hrel
   by_cases hlt:k<n
   ·have hk1:k<l.length:=by rw [HN.out];exact hlt
    have hk2:k<l'.length:=by rw [HN'.out];exact hlt
    have hk3:k<lv.length:=by rw [H1.out];exact hk1
    have hk4:k<lv'.length:=by rw [H2.out];exact hk2
    obtain ⟨x,hx,g,o,rfl,a0,a1,a2,a3,a4,a5⟩:∃x,lv[k]=x∧∃g o,q=some ⟨g,o,none⟩∧C ⟨g,o+k*6,none⟩=some (.string x.nm)∧C ⟨g,o+k*6+1,none⟩=some (.int .u64 (x.lv:Nat))∧C ⟨g,o+k*6+2,none⟩=some (.slice x.q1 x.n1 x.c1)∧C ⟨g,o+k*6+3,none⟩=some (.slice x.q2 x.n2 x.c2)∧C ⟨g,o+k*6+4,none⟩=some (.slice x.q3 x.n3 x.c3)∧C ⟨g,o+k*6+5,none⟩=some (.slice x.q4 x.n4 x.c4):=⟨_,rfl,HA.out k hk3⟩
    obtain ⟨y,hy,g',o',rfl,b0,b1,b2,b3,b4,b5⟩:∃y,lv'[k]=y∧∃g o,q'=some ⟨g,o,none⟩∧D ⟨g,o+k*6,none⟩=some (.string y.nm)∧D ⟨g,o+k*6+1,none⟩=some (.int .u64 (y.lv:Nat))∧D ⟨g,o+k*6+2,none⟩=some (.slice y.q1 y.n1 y.c1)∧D ⟨g,o+k*6+3,none⟩=some (.slice y.q2 y.n2 y.c2)∧D ⟨g,o+k*6+4,none⟩=some (.slice y.q3 y.n3 y.c3)∧D ⟨g,o+k*6+5,none⟩=some (.slice y.q4 y.n4 y.c4):=⟨_,rfl,HB.out k hk4⟩
    have e0:wr.cell? ⟨g,o+k*6,none⟩=some (.string x.nm):=ab_ HBW.out _ _ (HCC.out _ _ a0)
    have e1:wr.cell? ⟨g,o+k*6+1,none⟩=some (.int .u64 (x.lv:Nat)):=ab_ HBW.out _ _ (HCC.out _ _ a1)
    have e2:wr.cell? ⟨g,o+k*6+2,none⟩=some (.slice x.q1 x.n1 x.c1):=ab_ HBW.out _ _ (HCC.out _ _ a2)
    have e3:wr.cell? ⟨g,o+k*6+3,none⟩=some (.slice x.q2 x.n2 x.c2):=ab_ HBW.out _ _ (HCC.out _ _ a3)
    have e4:wr.cell? ⟨g,o+k*6+4,none⟩=some (.slice x.q3 x.n3 x.c3):=ab_ HBW.out _ _ (HCC.out _ _ a4)
    have e5:wr.cell? ⟨g,o+k*6+5,none⟩=some (.slice x.q4 x.n4 x.c4):=ab_ HBW.out _ _ (HCC.out _ _ a5)
    have f0:(wr.alloc (.cells #[.string x.nm,.int .u64 (x.lv:Nat),.slice x.q1 x.n1 x.c1,.slice x.q2 x.n2 x.c2,.slice x.q3 x.n3 x.c3,.slice x.q4 x.n4 x.c4] 54)).cell? ⟨g',o'+k*6,none⟩=some (.string y.nm):=(((Below.refl _ _).alloc (Nat.le_refl _) _).cell (World.block_lt_of_cell? _ _ (ab_ HBW.out _ _ (HDD.out _ _ b0)))).trans (ab_ HBW.out _ _ (HDD.out _ _ b0))
    have f1:(wr.alloc (.cells #[.string x.nm,.int .u64 (x.lv:Nat),.slice x.q1 x.n1 x.c1,.slice x.q2 x.n2 x.c2,.slice x.q3 x.n3 x.c3,.slice x.q4 x.n4 x.c4] 54)).cell? ⟨g',o'+k*6+1,none⟩=some (.int .u64 (y.lv:Nat)):=(((Below.refl _ _).alloc (Nat.le_refl _) _).cell (World.block_lt_of_cell? _ _ (ab_ HBW.out _ _ (HDD.out _ _ b1)))).trans (ab_ HBW.out _ _ (HDD.out _ _ b1))
    have f2:(wr.alloc (.cells #[.string x.nm,.int .u64 (x.lv:Nat),.slice x.q1 x.n1 x.c1,.slice x.q2 x.n2 x.c2,.slice x.q3 x.n3 x.c3,.slice x.q4 x.n4 x.c4] 54)).cell? ⟨g',o'+k*6+2,none⟩=some (.slice y.q1 y.n1 y.c1):=(((Below.refl _ _).alloc (Nat.le_refl _) _).cell (World.block_lt_of_cell? _ _ (ab_ HBW.out _ _ (HDD.out _ _ b2)))).trans (ab_ HBW.out _ _ (HDD.out _ _ b2))
    have f3:(wr.alloc (.cells #[.string x.nm,.int .u64 (x.lv:Nat),.slice x.q1 x.n1 x.c1,.slice x.q2 x.n2 x.c2,.slice x.q3 x.n3 x.c3,.slice x.q4 x.n4 x.c4] 54)).cell? ⟨g',o'+k*6+3,none⟩=some (.slice y.q2 y.n2 y.c2):=(((Below.refl _ _).alloc (Nat.le_refl _) _).cell (World.block_lt_of_cell? _ _ (ab_ HBW.out _ _ (HDD.out _ _ b3)))).trans (ab_ HBW.out _ _ (HDD.out _ _ b3))
    have f4:(wr.alloc (.cells #[.string x.nm,.int .u64 (x.lv:Nat),.slice x.q1 x.n1 x.c1,.slice x.q2 x.n2 x.c2,.slice x.q3 x.n3 x.c3,.slice x.q4 x.n4 x.c4] 54)).cell? ⟨g',o'+k*6+4,none⟩=some (.slice y.q3 y.n3 y.c3):=(((Below.refl _ _).alloc (Nat.le_refl _) _).cell (World.block_lt_of_cell? _ _ (ab_ HBW.out _ _ (HDD.out _ _ b4)))).trans (ab_ HBW.out _ _ (HDD.out _ _ b4))
    have f5:(wr.alloc (.cells #[.string x.nm,.int .u64 (x.lv:Nat),.slice x.q1 x.n1 x.c1,.slice x.q2 x.n2 x.c2,.slice x.q3 x.n3 x.c3,.slice x.q4 x.n4 x.c4] 54)).cell? ⟨g',o'+k*6+5,none⟩=some (.slice y.q4 y.n4 y.c4):=(((Below.refl _ _).alloc (Nat.le_refl _) _).cell (World.block_lt_of_cell? _ _ (ab_ HBW.out _ _ (HDD.out _ _ b5)))).trans (ab_ HBW.out _ _ (HDD.out _ _ b5))
    clear a0 a1 a2 a3 a4 a5 b0 b1 b2 b3 b4 b5
    have hki:(k:Int)<(n:Int):=by omega
    have HB2:=hid (show Below W.heap.size W ((wr.alloc (.cells #[.string x.nm,.int .u64 (x.lv:Nat),.slice x.q1 x.n1 x.c1,.slice x.q2 x.n2 x.c2,.slice x.q3 x.n3 x.c3,.slice x.q4 x.n4 x.c4] 54)).alloc (.cells #[.string y.nm,.int .u64 (y.lv:Nat),.slice y.q1 y.n1 y.c1,.slice y.q2 y.n2 y.c2,.slice y.q3 y.n3 y.c3,.slice y.q4 y.n4 y.c4] 54)) from (HBW.out.alloc HBW.out.size _).alloc (by rw [nwz];have:=HBW.out.size;omega) _)
    have HCALL:=hid (HEQ.out k hk3 hk4 hk1 hk2 _ HB2.out)
    rw [hx,hy] at HCALL
    have HK:=hid (And.intro hk1 hk2)
    clear hx hy
    go_wp2_with fail
    refine HCALL.out.mono ?_
    rintro e w2 ⟨bb,rfl,hbb,hbel⟩
    have HB3:=hid (show Below W.heap.size W w2 from HB2.out.trans (hbel.mono HB2.out.size))
    clear hbel HCALL
    cases bb
    ·have HNE:=hid (dt_ HK.out.1 HK.out.2 (fun e=>by have:=hbb.2 e;exact absurd this (by decide)))
     clear hbb
     go_wp2_with fail
     go_ret
     exact ⟨false,rfl,by have:=HNE.out;simp [this],HB3.out⟩
    ·have HT2:=hid (bc_ HK.out.1 HK.out.2 hT.out (hbb.1 rfl))
     clear hbb
     go_wp2_with fail
     exact ⟨⟨k+1,by omega,by go_num,HB3,HT2⟩,by simp [intOf];omega⟩
   ·obtain rfl:k=n:=by omega
    have HT2:=hid (bp_ HN.out HN'.out hT.out)
    go_wp2
    go_ret
    exact ⟨true,rfl,by have:=HT2.out;simp [this],HBW.out⟩
 ·have HNE:=hid (show ¬l=l' from fun e=>hnm (by rw [←HN.out,←HN'.out,e]))
  have hneq:((n:Int) != (n':Int))=true:=by simp;omega
  go_enter func69,ntmps69
  go_wp2
  go_ret
  exact ⟨false,rfl,by have:=HNE.out;simp [this],Below.refl _ _⟩
end
end Go.Proofs.YtpcniebkabkikaaGreatDoor
