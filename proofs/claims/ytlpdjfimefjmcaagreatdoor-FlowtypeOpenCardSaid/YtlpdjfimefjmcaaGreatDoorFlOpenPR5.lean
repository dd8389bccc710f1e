/- Package names: a text's bytes, keywords, and whether it is a name. What slices.IndexFunc answers: plain. slices.IndexFunc at one type, over whatever is asked of an item. (Written by a program.) slices.IndexFunc at one type, over whatever is asked of an item. (Written by a program.) slices.IndexFunc  -/
import Derived.Test.YtlpdjfimefjmcaaGreatDoorFlOpenPR4
import Derived.Test.YtlpdjfimefjmcaaGreatDoorFlOpenPR2
import Derived.Lib.Strings
import Derived.Lib.Hide
import Derived.Test.YtlpdjfimefjmcaaGreatDoorFlOpenPR3
import Derived.Deep.RegionWith
import Derived.Shelf.Abstract
open Go.Lib (hid)
namespace Go.Proofs.YtlpdjfimefjmcaaGreatDoor
open Go Go.RowKit Go.Proofs.Mm
def RetB (v:Value) (W:World) (e:Ending) (w':World):Prop:=e=.returned v∧Below W.heap.size W w'
theorem RetB.of_eq {v:Value} {W:World} {e:Ending} {w':World} (h:e=.returned v∧W=w'):RetB v W e w':=by
 obtain ⟨rfl,rfl⟩:=h;exact ⟨rfl,Below.refl _ _⟩
theorem bl_al {W w:World} (h:Below W.heap.size W w) (o:Obj):Below W.heap.size W (w.alloc o):=h.alloc h.size o
theorem bl_dr {W w:World} (h:Below W.heap.size W w):Below W.heap.size W w.drew:=h.drew
theorem bl_dN {W w:World} (h:Below W.heap.size W w) (n:Nat):Below W.heap.size W (w.drewN n):=Go.below_drewN h n
theorem bl_tr {W w w':World} (h:Below W.heap.size W w) (k:Below w.heap.size w w'):Below W.heap.size W w':=h.trans (k.mono h.size)
set_option maxRecDepth 100000 in
theorem isDigit_p (c:Nat) (W:World):Calls Tryz.prog 152 #[.int .u8 (c:Int)] W fun e w'=>e=.returned (.bool (dgB c))∧W=w':=by
 unfold dgB
 by_cases h1:48≤c
 ·by_cases h2:c≤57
  ·have e1:(48:Int)≤(c:Int):=by omega
   have e2:(c:Int)≤57:=by omega
   rw [decide_eq_true h1,decide_eq_true h2]
   go_enter Tryz.func152,Tryz.ntmps152
   go_wp2
   go_ret
   exact ⟨rfl,rfl⟩
  ·have e1:(48:Int)≤(c:Int):=by omega
   have e2:¬(c:Int)≤57:=by omega
   rw [decide_eq_true h1,decide_eq_false h2]
   go_enter Tryz.func152,Tryz.ntmps152
   go_wp2
   go_ret
   exact ⟨rfl,rfl⟩
 ·have e1:¬(48:Int)≤(c:Int):=by omega
  rw [decide_eq_false h1,Bool.false_and]
  go_enter Tryz.func152,Tryz.ntmps152
  go_wp2
  go_ret
  exact ⟨rfl,rfl⟩
theorem ret_bool {a b:Bool} (h:a=b):Ending.returned (.bool a)=.returned (.bool b):=by rw [h]
theorem isOfName_p (c:Nat) (W:World):Calls Tryz.prog 154 #[.int .u8 (c:Int)] W fun e w'=>e=.returned (.bool (nmB c))∧W=w':=by
 have hc:(97≤c∧c≤122)∨c=95∨(c<97∧¬c=95)∨122<c:=by omega
 have h1:=isDigit_p c W
 rcases hc with ⟨h2,h3⟩|rfl|⟨h2,h3⟩|h2
 all_goals
  go_enter Tryz.func154,Tryz.ntmps154
  go_wp2_with (go_at_call 152;refine h1.mono ?_;rintro e w' ⟨rfl,rfl⟩)
  all_goals
   go_ret
   exact ⟨ret_bool (by
    unfold nmB
    try unfold dgB
    first|decide|(rw [Bool.eq_iff_iff];simp;omega)),rfl⟩
theorem ne_lit {s:ByteArray} {L:List (List Nat)} {u:List UInt8} (h:bl s ∉ L) (hu:u.map UInt8.toNat∈L):(s.toList == u)=false:=by
 rw [beq_eq_false_iff_ne]
 intro e
 rw [Lib.toList_data] at e
 exact h (by unfold bl;rw [e];exact hu)
set_option maxRecDepth 100000 in
set_option maxHeartbeats 1000000 in
theorem isKeyword_no (s:ByteArray) (h:bl s ∉ keysL) (w:World):Calls Tryz.prog 153 #[.string s] w fun e w'=>e=.returned (.bool false)∧w=w':=by
 have e0:(s.toList == [112,114,105,110,99,105,112,97,108])=false:=ne_lit h (by decide)
 have e1:(s.toList == [103,108,111,98,97,108])=false:=ne_lit h (by decide)
 have e2:(s.toList == [97,114,114,97,121])=false:=ne_lit h (by decide)
 have e3:(s.toList == [99,104,97,110,110,101,108])=false:=ne_lit h (by decide)
 have e4:(s.toList == [102,117,110,99])=false:=ne_lit h (by decide)
 have e5:(s.toList == [118,97,114])=false:=ne_lit h (by decide)
 have e6:(s.toList == [105,102])=false:=ne_lit h (by decide)
 have e7:(s.toList == [101,108,115,101])=false:=ne_lit h (by decide)
 have e8:(s.toList == [119,104,105,108,101])=false:=ne_lit h (by decide)
 have e9:(s.toList == [115,101,110,100])=false:=ne_lit h (by decide)
 have e10:(s.toList == [114,101,116,117,114,110])=false:=ne_lit h (by decide)
 clear h
 go_enter Tryz.func153,Tryz.ntmps153
 go_wp2
 go_ret
 exact ⟨rfl,rfl⟩
set_option maxRecDepth 100000 in
set_option maxHeartbeats 1000000 in
theorem isKeyword_yes (s:ByteArray) (h:bl s∈keysL) (w:World):Calls Tryz.prog 153 #[.string s] w fun e w'=>e=.returned (.bool true)∧w=w':=by
 simp only [keysL,List.mem_cons,List.not_mem_nil,or_false] at h
 rcases h with h|h|h|h|h|h|h|h|h|h|h
 ·obtain rfl:s=⟨#[112,114,105,110,99,105,112,97,108]⟩:=bl_inj (h.trans (by decide))
  clear h
  go_enter Tryz.func153,Tryz.ntmps153
  go_wp2
  go_ret
  exact ⟨rfl,rfl⟩
 ·obtain rfl:s=⟨#[103,108,111,98,97,108]⟩:=bl_inj (h.trans (by decide))
  clear h
  go_enter Tryz.func153,Tryz.ntmps153
  go_wp2
  go_ret
  exact ⟨rfl,rfl⟩
 ·obtain rfl:s=⟨#[97,114,114,97,121]⟩:=bl_inj (h.trans (by decide))
  clear h
  go_enter Tryz.func153,Tryz.ntmps153
  go_wp2
  go_ret
  exact ⟨rfl,rfl⟩
 ·obtain rfl:s=⟨#[99,104,97,110,110,101,108]⟩:=bl_inj (h.trans (by decide))
  clear h
  go_enter Tryz.func153,Tryz.ntmps153
  go_wp2
  go_ret
  exact ⟨rfl,rfl⟩
 ·obtain rfl:s=⟨#[102,117,110,99]⟩:=bl_inj (h.trans (by decide))
  clear h
  go_enter Tryz.func153,Tryz.ntmps153
  go_wp2
  go_ret
  exact ⟨rfl,rfl⟩
 ·obtain rfl:s=⟨#[118,97,114]⟩:=bl_inj (h.trans (by decide))
  clear h
  go_enter Tryz.func153,Tryz.ntmps153
  go_wp2
  go_ret
  exact ⟨rfl,rfl⟩
 ·obtain rfl:s=⟨#[105,102]⟩:=bl_inj (h.trans (by decide))
  clear h
  go_enter Tryz.func153,Tryz.ntmps153
  go_wp2
  go_ret
  exact ⟨rfl,rfl⟩
 ·obtain rfl:s=⟨#[101,108,115,101]⟩:=bl_inj (h.trans (by decide))
  clear h
  go_enter Tryz.func153,Tryz.ntmps153
  go_wp2
  go_ret
  exact ⟨rfl,rfl⟩
 ·obtain rfl:s=⟨#[119,104,105,108,101]⟩:=bl_inj (h.trans (by decide))
  clear h
  go_enter Tryz.func153,Tryz.ntmps153
  go_wp2
  go_ret
  exact ⟨rfl,rfl⟩
 ·obtain rfl:s=⟨#[115,101,110,100]⟩:=bl_inj (h.trans (by decide))
  clear h
  go_enter Tryz.func153,Tryz.ntmps153
  go_wp2
  go_ret
  exact ⟨rfl,rfl⟩
 ·obtain rfl:s=⟨#[114,101,116,117,114,110]⟩:=bl_inj (h.trans (by decide))
  clear h
  go_enter Tryz.func153,Tryz.ntmps153
  go_wp2
  go_ret
  exact ⟨rfl,rfl⟩
theorem keyword_p (s:ByteArray) (W:World):Calls Tryz.prog 153 #[.string s] W fun e w'=>e=.returned (.bool (decide (bl s∈keysL)))∧W=w':=by
 by_cases h:bl s∈keysL
 ·rw [decide_eq_true h];exact isKeyword_yes s h W
 ·rw [decide_eq_false h];exact isKeyword_no s h W
theorem all_step {p:Nat→Bool} (l:List Nat) (k:Nat) (h:∀x∈l.take k,p x=true) (c:Nat) (hc:l[k]?=some c) (hp:p c=true):∀x∈l.take (k+1),p x=true:=by
 rw [List.take_add_one,hc]
 intro x hx
 rcases List.mem_append.1 hx with h1|h1
 ·exact h x h1
 ·obtain rfl:x=c:=by simpa using h1
  exact hp
theorem name_head (s:ByteArray) (h:0<s.size):(bl s).head?=some (s[0]).toNat:=by
 rw [List.head?_eq_getElem?];exact bl_get s 0 h
theorem nameZ_long {s:ByteArray} (h:32<s.size):nameZ s=false:=by
 unfold nameZ
 rw [bl_length,decide_eq_false (by omega)];simp
theorem nameZ_mid {s:ByteArray} (h0:0<s.size) (h1:s.size≤32):nameZ s=(!dgB (s[0]).toNat && !decide (bl s∈keysL) && (bl s).all nmB):=by
 unfold nameZ
 rw [bl_length,decide_eq_true h1,name_head s h0]
 have:(bl s).isEmpty=false:=by
  rw [List.isEmpty_eq_false_iff];intro e;have:=bl_length s;rw [e] at this;simp at this;omega
 rw [this];simp
set_option maxRecDepth 100000 in
set_option maxHeartbeats 1000000 in
theorem name_p (s:ByteArray) (W:World):Calls Tryz.prog 121 #[.string s] W fun e w'=>e=.returned (.bool (nameZ s))∧W=w':=by
 by_cases h0:s.size=0
 ·obtain rfl:s=⟨#[]⟩:=bl_inj (by
   have:=bl_length s;rw [h0] at this;rw [List.length_eq_zero_iff.1 this];rfl)
  go_enter Tryz.func121,Tryz.ntmps121
  go_wp2
  go_ret
  exact ⟨rfl,rfl⟩
 have he:s.toList.isEmpty=false:=by
  rw [Lib.toList_data]
  rw [List.isEmpty_eq_false_iff];intro e
  have:=bl_length s
  unfold bl at this
  rw [e] at this
  simp at this
  omega
 by_cases h1:32<s.size
 ·have HZ:=hid (nameZ_long h1)
  have h1':(32:Int)<(s.size:Int):=by omega
  go_enter Tryz.func121,Tryz.ntmps121
  go_wp2
  go_ret
  exact ⟨ret_bool HZ.out.symm,rfl⟩
 have h0':0<s.size:=by omega
 have HZ:=hid (nameZ_mid h0' (by omega))
 have h1':¬(32:Int)<(s.size:Int):=by omega
 have HD:=hid (isDigit_p (s[0]).toNat W)
 have HK:=hid (keyword_p s W)
 cases hd:dgB (s[0]).toNat
 ·cases hk:decide (bl s∈keysL)
  ·have HD2:=hid (hd ▸ HD.out)
   have HK2:=hid (hk ▸ HK.out)
   have HZ2:=hid (show nameZ s=(bl s).all nmB by rw [HZ.out,hd,hk];rfl)
   clear hd hk
   have HL:=hid (bl_length s)
   go_enter Tryz.func121,Tryz.ntmps121
   go_wp2_with (first|(go_at_call 152;refine HD2.out.mono ?_;rintro e w' ⟨rfl,rfl⟩)|(go_at_call 153;refine HK2.out.mono ?_;rintro e w' ⟨rfl,rfl⟩))
   go_loop [17] (fun i=>∃k:Nat,k≤s.size∧i=.int .i64 k∧Hid (∀x∈(bl s).take k,nmB x=true)) (fun i=>s.size - (intOf i).toNat)
   case atStart=>exact ⟨0,Nat.zero_le _,rfl,hid (by simp)⟩
   case round =>
    obtain ⟨k,hk,rfl,H⟩:=hrel
    by_cases hlt:k<s.size
    ·have hb:=hid (bl_get s k hlt)
     cases hp:nmB (s[k]).toNat
     ·have hcall:=hp ▸ isOfName_p (s[k]).toNat W
      have HP:=hid hp
      clear hp
      go_wp2_with (go_at_call 154;refine hcall.mono ?_;rintro e w' ⟨rfl,rfl⟩)
      go_ret
      exact ⟨ret_bool (by
       rw [HZ2.out]
       symm
       rw [List.all_eq_false]
       exact ⟨_,List.mem_of_getElem? hb.out,by rw [HP.out];decide⟩),rfl⟩
     ·have hcall:=hp ▸ isOfName_p (s[k]).toNat W
      have HP:=hid hp
      clear hp
      go_wp2_with (go_at_call 154;refine hcall.mono ?_;rintro e w' ⟨rfl,rfl⟩)
      go_round
      case rel=>exact ⟨k+1,by omega,by go_num,hid (all_step _ k H.out _ hb.out HP.out)⟩
      case measure=>simp [intOf];omega
    ·have HK:=hid (show (bl s).all nmB=true by
      rw [List.all_eq_true]
      intro x hx
      exact H.out x (by rw [List.take_of_length_le (by rw [bl_length];omega)];exact hx))
     go_wp2
     go_ret
     exact ⟨ret_bool (by rw [HZ2.out,HK.out]),rfl⟩
  ·have HD2:=hid (hd ▸ HD.out)
   have HK2:=hid (hk ▸ HK.out)
   have HZ2:=hid (show nameZ s=false by rw [HZ.out,hk];simp)
   clear hd hk
   go_enter Tryz.func121,Tryz.ntmps121
   go_wp2_with (first|(go_at_call 152;refine HD2.out.mono ?_;rintro e w' ⟨rfl,rfl⟩)|(go_at_call 153;refine HK2.out.mono ?_;rintro e w' ⟨rfl,rfl⟩))
   go_ret
   exact ⟨ret_bool HZ2.out.symm,rfl⟩
 ·have HD2:=hid (hd ▸ HD.out)
  have HZ2:=hid (show nameZ s=false by rw [HZ.out,hd];simp)
  clear hd
  go_enter Tryz.func121,Tryz.ntmps121
  go_wp2_with (first|(go_at_call 152;refine HD2.out.mono ?_;rintro e w' ⟨rfl,rfl⟩))
  go_ret
  exact ⟨ret_bool HZ2.out.symm,rfl⟩
def ixI (x:Option Nat):Int:=match x with
 | some k=>(k:Int)
 | none=>-1
theorem ix_hit {α:Type} {l:List α} {p:α→Bool} {k:Nat} (hk:k<l.length) (h:∀j (hj:j<l.length),j<k→p l[j]=false) (hp:p l[k]=true):l.findIdx? p=some k:=by
 rw [List.findIdx?_eq_some_iff_getElem]
 exact ⟨hk,hp,fun j hj=>by rw [h j (by omega) hj];decide⟩
theorem ix_no {α:Type} {l:List α} {p:α→Bool} (h:∀j (hj:j<l.length),j<l.length→p l[j]=false):l.findIdx? p=none:=by
 rw [List.findIdx?_eq_none_iff]
 intro x hx
 obtain ⟨j,hj,rfl⟩:=List.getElem_of_mem hx
 exact h j hj hj
theorem ix_step {α:Type} {l:List α} {p:α→Bool} {k:Nat} (hk:k<l.length) (h:∀j (hj:j<l.length),j<k→p l[j]=false) (hp:p l[k]=false):∀j (hj:j<l.length),j<k+1→p l[j]=false:=by
 intro j hj h2
 rcases Nat.lt_or_ge j k with h3|h3
 ·exact h j hj h3
 ·obtain rfl:j=k:=by omega
  exact hp
def Ent (K:Nat):Prop:=∀args w,(callFunc K args).run Tryz.prog w=.ok (.enter K args) w
section
variable {C:Cl} {W:World} {q:Option Addr}
set_option maxRecDepth 100000 in
set_option maxHeartbeats 2000000 in
theorem ixSr_p {l:List ByteArray} {c:Nat} (hl:l.length≤9223372036854775807) (hrow:StrAt C q l) (hC:CLe C (wC W)) {K:Nat} {ca:Array Value} (ek:Ent K) (p:ByteArray→Bool)
 (hcl:∀k (hk:k<l.length) W',Below W.heap.size W W'→Calls Tryz.prog K (#[]++#[.string l[k]]++ca) W' (RetB (.bool (p l[k])) W')) :
 Calls Tryz.prog 176 #[.slice q l.length c,.func (.func K) #[] ca] W (RetB (.int .i64 (ixI (l.findIdx? p))) W):=by
 have HA:=hid hrow
 have HCC:=hid hC
 have HCL:=hid hcl
 obtain ⟨n,hn⟩:∃n,l.length=n:=⟨_,rfl⟩
 have HN:=hid hn
 unfold Ent at ek
 rw [hn] at hl ⊢
 clear hrow hC hn hcl
 go_enter Tryz.func176,Tryz.ntmps176
 go_wp2
 go_loopw [8] (fun i wr=>∃k:Nat,k≤n∧i=.int .i64 k∧Hid (Below W.heap.size W wr)∧Hid (∀j (hj:j<l.length),j<k→p l[j]=false)) (fun i _=>n - (intOf i).toNat)
 case atStart=>exact ⟨0,Nat.zero_le _,rfl,hid (Below.refl _ _),hid (fun j hj h=>absurd h (by omega))⟩
 case round =>
  obtain ⟨k,hk,rfl,HBW,HT⟩:=hrel
  by_cases hlt:k<n
  ·have hk1:k<l.length:=by rw [HN.out];exact hlt
   have HK:=hid hk1
   obtain ⟨g,o,rfl,a0⟩:=HA.out k hk1
   have e0:wr.cell? ⟨g,o+k,none⟩=some (.string l[k]):=below_cle HBW.out _ _ (HCC.out _ _ a0)
   have HCALL:=hid (HCL.out k hk1 wr HBW.out)
   clear a0
   generalize hpx:p l[k]=b at HCALL
   have HS0:=hid (fun h:b=false=>ix_step HK.out HT.out (hpx.trans h))
   have HS1:=hid (fun h:b=true=>ix_hit HK.out HT.out (hpx.trans h))
   clear hpx
   generalize l[k]=z0 at *
   clear hk1
   have hki:(k:Int)<(n:Int):=by omega
   go_wp2_with fail
   refine HCALL.out.mono ?_
   rintro e w2 ⟨rfl,hbel⟩
   have HB3:=hid (bl_tr HBW.out hbel)
   clear hbel HCALL
   cases b
   ·have HT2:=hid (HS0.out rfl)
    go_wp2_with fail
    exact ⟨⟨k+1,by omega,by go_num,HB3,HT2⟩,by simp [intOf];omega⟩
   ·have HT2:=hid (HS1.out rfl)
    go_wp2_with fail
    go_ret
    exact ⟨by rw [HT2.out];rfl,HB3.out⟩
  ·have HT2:=hid (ix_no (fun j hj _=>HT.out j hj (by have:=HN.out;omega)))
   go_wp2
   go_ret
   exact ⟨by rw [HT2.out];rfl,HBW.out⟩
end
section
variable {C:Cl} {W:World} {q:Option Addr} {lt:Bool}
set_option maxRecDepth 100000 in
set_option maxHeartbeats 2000000 in
theorem ixEx_p {l:List (List TmZ)} {c:Nat} (hl:l.length≤9223372036854775807) (hrow:ExAt lt C q l) (hC:CLe C (wC W)) {K:Nat} {ca:Array Value} (ek:Ent K) (p:(List TmZ)→Bool)
 (hcl:∀k (hk:k<l.length) (qe:Option Addr) (ce:Nat) (_:TmsR lt C (.slice qe l[k].length ce) l[k]) W',Below W.heap.size W W'→Calls Tryz.prog K (#[]++#[.slice qe l[k].length ce]++ca) W' (RetB (.bool (p l[k])) W')) :
 Calls Tryz.prog 161 #[.slice q l.length c,.func (.func K) #[] ca] W (RetB (.int .i64 (ixI (l.findIdx? p))) W):=by
 have HA:=hid hrow
 have HCC:=hid hC
 have HCL:=hid hcl
 obtain ⟨n,hn⟩:∃n,l.length=n:=⟨_,rfl⟩
 have HN:=hid hn
 unfold Ent at ek
 rw [hn] at hl ⊢
 clear hrow hC hn hcl
 go_enter Tryz.func161,Tryz.ntmps161
 go_wp2
 go_loopw [8] (fun i wr=>∃k:Nat,k≤n∧i=.int .i64 k∧Hid (Below W.heap.size W wr)∧Hid (∀j (hj:j<l.length),j<k→p l[j]=false)) (fun i _=>n - (intOf i).toNat)
 case atStart=>exact ⟨0,Nat.zero_le _,rfl,hid (Below.refl _ _),hid (fun j hj h=>absurd h (by omega))⟩
 case round =>
  obtain ⟨k,hk,rfl,HBW,HT⟩:=hrel
  by_cases hlt:k<n
  ·have hk1:k<l.length:=by rw [HN.out];exact hlt
   have HK:=hid hk1
   obtain ⟨g,o,qe,ce,rfl,a0⟩:=HA.out k hk1
   have e0:wr.cell? ⟨g,o+k,none⟩=some (.slice qe l[k].length ce):=below_cle HBW.out _ _ (HCC.out _ _ a0.1)
   have HCALL:=hid (HCL.out k hk1 qe ce a0.2 wr HBW.out)
   clear a0
   generalize hpx:p l[k]=b at HCALL
   have HS0:=hid (fun h:b=false=>ix_step HK.out HT.out (hpx.trans h))
   have HS1:=hid (fun h:b=true=>ix_hit HK.out HT.out (hpx.trans h))
   clear hpx
   generalize l[k].length=z0 at *
   clear hk1
   have hki:(k:Int)<(n:Int):=by omega
   go_wp2_with fail
   refine HCALL.out.mono ?_
   rintro e w2 ⟨rfl,hbel⟩
   have HB3:=hid (bl_tr HBW.out hbel)
   clear hbel HCALL
   cases b
   ·have HT2:=hid (HS0.out rfl)
    go_wp2_with fail
    exact ⟨⟨k+1,by omega,by go_num,HB3,HT2⟩,by simp [intOf];omega⟩
   ·have HT2:=hid (HS1.out rfl)
    go_wp2_with fail
    go_ret
    exact ⟨by rw [HT2.out];rfl,HB3.out⟩
  ·have HT2:=hid (ix_no (fun j hj _=>HT.out j hj (by have:=HN.out;omega)))
   go_wp2
   go_ret
   exact ⟨by rw [HT2.out];rfl,HBW.out⟩
end
section
variable {C:Cl} {W:World} {q:Option Addr}
set_option maxRecDepth 100000 in
set_option maxHeartbeats 2000000 in
theorem ixLa_p {l:List Nat} {c:Nat} (hl:l.length≤9223372036854775807) (hrow:LaAt C q l) (hC:CLe C (wC W)) {K:Nat} {ca:Array Value} (ek:Ent K) (p:Nat→Bool)
 (hcl:∀k (hk:k<l.length) W',Below W.heap.size W W'→Calls Tryz.prog K (#[]++#[.int .u64 (l[k]:Nat)]++ca) W' (RetB (.bool (p l[k])) W')) :
 Calls Tryz.prog 155 #[.slice q l.length c,.func (.func K) #[] ca] W (RetB (.int .i64 (ixI (l.findIdx? p))) W):=by
 have HA:=hid hrow
 have HCC:=hid hC
 have HCL:=hid hcl
 obtain ⟨n,hn⟩:∃n,l.length=n:=⟨_,rfl⟩
 have HN:=hid hn
 unfold Ent at ek
 rw [hn] at hl ⊢
 clear hrow hC hn hcl
 go_enter Tryz.func155,Tryz.ntmps155
 go_wp2
 go_loopw [8] (fun i wr=>∃k:Nat,k≤n∧i=.int .i64 k∧Hid (Below W.heap.size W wr)∧Hid (∀j (hj:j<l.length),j<k→p l[j]=false)) (fun i _=>n - (intOf i).toNat)
 case atStart=>exact ⟨0,Nat.zero_le _,rfl,hid (Below.refl _ _),hid (fun j hj h=>absurd h (by omega))⟩
 case round =>
  obtain ⟨k,hk,rfl,HBW,HT⟩:=hrel
  by_cases hlt:k<n
  ·have hk1:k<l.length:=by rw [HN.out];exact hlt
   have HK:=hid hk1
   obtain ⟨g,o,rfl,a0⟩:=HA.out k hk1
   have e0:wr.cell? ⟨g,o+k,none⟩=some (.int .u64 (l[k]:Nat)):=below_cle HBW.out _ _ (HCC.out _ _ a0.1)
   have HCALL:=hid (HCL.out k hk1 wr HBW.out)
   clear a0
   generalize hpx:p l[k]=b at HCALL
   have HS0:=hid (fun h:b=false=>ix_step HK.out HT.out (hpx.trans h))
   have HS1:=hid (fun h:b=true=>ix_hit HK.out HT.out (hpx.trans h))
   clear hpx
   generalize l[k]=z0 at *
   clear hk1
   have hki:(k:Int)<(n:Int):=by omega
   go_wp2_with fail
   refine HCALL.out.mono ?_
   rintro e w2 ⟨rfl,hbel⟩
   have HB3:=hid (bl_tr HBW.out hbel)
   clear hbel HCALL
   cases b
   ·have HT2:=hid (HS0.out rfl)
    go_wp2_with fail
    exact ⟨⟨k+1,by omega,by go_num,HB3,HT2⟩,by simp [intOf];omega⟩
   ·have HT2:=hid (HS1.out rfl)
    go_wp2_with fail
    go_ret
    exact ⟨by rw [HT2.out];rfl,HB3.out⟩
  ·have HT2:=hid (ix_no (fun j hj _=>HT.out j hj (by have:=HN.out;omega)))
   go_wp2
   go_ret
   exact ⟨by rw [HT2.out];rfl,HBW.out⟩
end
section
variable {C:Cl} {W:World} {q:Option Addr}
set_option maxRecDepth 100000 in
set_option maxHeartbeats 2000000 in
theorem ixDe_p {l:List DeZ} {c:Nat} (hl:l.length≤9223372036854775807) (hrow:DeAt C q l) (hC:CLe C (wC W)) {K:Nat} {ca:Array Value} (ek:Ent K) (p:DeZ→Bool)
 (hcl:∀k (hk:k<l.length) W',Below W.heap.size W W'→Calls Tryz.prog K (#[]++#[.agg #[.string l[k].name,.int .u64 (l[k].label:Nat)]]++ca) W' (RetB (.bool (p l[k])) W')) :
 Calls Tryz.prog 103 #[.slice q l.length c,.func (.func K) #[] ca] W (RetB (.int .i64 (ixI (l.findIdx? p))) W):=by
 have HA:=hid hrow
 have HCC:=hid hC
 have HCL:=hid hcl
 obtain ⟨n,hn⟩:∃n,l.length=n:=⟨_,rfl⟩
 have HN:=hid hn
 unfold Ent at ek
 rw [hn] at hl ⊢
 clear hrow hC hn hcl
 go_enter Tryz.func103,Tryz.ntmps103
 go_wp2
 go_loopw [8] (fun i wr=>∃k:Nat,k≤n∧i=.int .i64 k∧Hid (Below W.heap.size W wr)∧Hid (∀j (hj:j<l.length),j<k→p l[j]=false)) (fun i _=>n - (intOf i).toNat)
 case atStart=>exact ⟨0,Nat.zero_le _,rfl,hid (Below.refl _ _),hid (fun j hj h=>absurd h (by omega))⟩
 case round =>
  obtain ⟨k,hk,rfl,HBW,HT⟩:=hrel
  by_cases hlt:k<n
  ·have hk1:k<l.length:=by rw [HN.out];exact hlt
   have HK:=hid hk1
   obtain ⟨g,o,rfl,a0⟩:=HA.out k hk1
   have e0:wr.cell? ⟨g,o+k*2,none⟩=some (.string l[k].name):=below_cle HBW.out _ _ (HCC.out _ _ a0.1)
   have e1:wr.cell? ⟨g,o+k*2+1,none⟩=some (.int .u64 (l[k].label:Nat)):=below_cle HBW.out _ _ (HCC.out _ _ a0.2.1)
   have HCALL:=hid (HCL.out k hk1 wr HBW.out)
   clear a0
   generalize hpx:p l[k]=b at HCALL
   have HS0:=hid (fun h:b=false=>ix_step HK.out HT.out (hpx.trans h))
   have HS1:=hid (fun h:b=true=>ix_hit HK.out HT.out (hpx.trans h))
   clear hpx
   generalize l[k].label=z0 at *
   generalize l[k].name=z1 at *
   clear hk1
   have hki:(k:Int)<(n:Int):=by omega
   go_wp2_with fail
   refine HCALL.out.mono ?_
   rintro e w2 ⟨rfl,hbel⟩
   have HB3:=hid (bl_tr HBW.out hbel)
   clear hbel HCALL
   cases b
   ·have HT2:=hid (HS0.out rfl)
    go_wp2_with fail
    exact ⟨⟨k+1,by omega,by go_num,HB3,HT2⟩,by simp [intOf];omega⟩
   ·have HT2:=hid (HS1.out rfl)
    go_wp2_with fail
    go_ret
    exact ⟨by rw [HT2.out];rfl,HB3.out⟩
  ·have HT2:=hid (ix_no (fun j hj _=>HT.out j hj (by have:=HN.out;omega)))
   go_wp2
   go_ret
   exact ⟨by rw [HT2.out];rfl,HBW.out⟩
end
section
variable {C:Cl} {W:World} {q:Option Addr}
set_option maxRecDepth 100000 in
set_option maxHeartbeats 2000000 in
theorem ixAr_p {l:List ArZ} {c:Nat} (hl:l.length≤9223372036854775807) (hrow:ArAt C q l) (hC:CLe C (wC W)) {K:Nat} {ca:Array Value} (ek:Ent K) (p:ArZ→Bool)
 (hcl:∀k (hk:k<l.length) W',Below W.heap.size W W'→Calls Tryz.prog K (#[]++#[.agg #[.string l[k].name,.int .i64 l[k].len,.int .u64 (l[k].label:Nat)]]++ca) W' (RetB (.bool (p l[k])) W')) :
 Calls Tryz.prog 105 #[.slice q l.length c,.func (.func K) #[] ca] W (RetB (.int .i64 (ixI (l.findIdx? p))) W):=by
 have HA:=hid hrow
 have HCC:=hid hC
 have HCL:=hid hcl
 obtain ⟨n,hn⟩:∃n,l.length=n:=⟨_,rfl⟩
 have HN:=hid hn
 unfold Ent at ek
 rw [hn] at hl ⊢
 clear hrow hC hn hcl
 go_enter Tryz.func105,Tryz.ntmps105
 go_wp2
 go_loopw [8] (fun i wr=>∃k:Nat,k≤n∧i=.int .i64 k∧Hid (Below W.heap.size W wr)∧Hid (∀j (hj:j<l.length),j<k→p l[j]=false)) (fun i _=>n - (intOf i).toNat)
 case atStart=>exact ⟨0,Nat.zero_le _,rfl,hid (Below.refl _ _),hid (fun j hj h=>absurd h (by omega))⟩
 case round =>
  obtain ⟨k,hk,rfl,HBW,HT⟩:=hrel
  by_cases hlt:k<n
  ·have hk1:k<l.length:=by rw [HN.out];exact hlt
   have HK:=hid hk1
   obtain ⟨g,o,rfl,a0⟩:=HA.out k hk1
   have e0:wr.cell? ⟨g,o+k*3,none⟩=some (.string l[k].name):=below_cle HBW.out _ _ (HCC.out _ _ a0.1)
   have e1:wr.cell? ⟨g,o+k*3+1,none⟩=some (.int .i64 l[k].len):=below_cle HBW.out _ _ (HCC.out _ _ a0.2.1)
   have e2:wr.cell? ⟨g,o+k*3+2,none⟩=some (.int .u64 (l[k].label:Nat)):=below_cle HBW.out _ _ (HCC.out _ _ a0.2.2.1)
   have HCALL:=hid (HCL.out k hk1 wr HBW.out)
   clear a0
   generalize hpx:p l[k]=b at HCALL
   have HS0:=hid (fun h:b=false=>ix_step HK.out HT.out (hpx.trans h))
   have HS1:=hid (fun h:b=true=>ix_hit HK.out HT.out (hpx.trans h))
   clear hpx
   generalize l[k].label=z0 at *
   generalize l[k].name=z1 at *
   generalize l[k].len=z2 at *
   clear hk1
   have hki:(k:Int)<(n:Int):=by omega
   go_wp2_with fail
   refine HCALL.out.mono ?_
   rintro e w2 ⟨rfl,hbel⟩
   have HB3:=hid (bl_tr HBW.out hbel)
   clear hbel HCALL
   cases b
   ·have HT2:=hid (HS0.out rfl)
    go_wp2_with fail
    exact ⟨⟨k+1,by omega,by go_num,HB3,HT2⟩,by simp [intOf];omega⟩
   ·have HT2:=hid (HS1.out rfl)
    go_wp2_with fail
    go_ret
    exact ⟨by rw [HT2.out];rfl,HB3.out⟩
  ·have HT2:=hid (ix_no (fun j hj _=>HT.out j hj (by have:=HN.out;omega)))
   go_wp2
   go_ret
   exact ⟨by rw [HT2.out];rfl,HBW.out⟩
end
section
variable {C:Cl} {W:World} {q:Option Addr} {lt:Bool}
set_option maxRecDepth 100000 in
set_option maxHeartbeats 2000000 in
theorem ixFn_p {l:List FnZ} {c:Nat} (hl:l.length≤9223372036854775807) (hrow:FnAt lt C q l) (hC:CLe C (wC W)) {K:Nat} {ca:Array Value} (ek:Ent K) (p:FnZ→Bool)
 (hcl:∀k (hk:k<l.length) (qp:Option Addr) (cp:Nat) (qr:Option Addr) (cr:Nat) (qv:Option Addr) (cv:Nat) (qb:Option Addr) (cb:Nat) (_:FnLies lt C l[k] qp cp qr cr qv cv qb cb) W',Below W.heap.size W W'→Calls Tryz.prog K (#[]++#[.agg #[.string l[k].name,.int .u64 (l[k].level:Nat),.slice qp l[k].params.length cp,.slice qr l[k].results.length cr,.slice qv l[k].vars.length cv,.slice qb l[k].body.length cb]]++ca) W' (RetB (.bool (p l[k])) W')) :
 Calls Tryz.prog 107 #[.slice q l.length c,.func (.func K) #[] ca] W (RetB (.int .i64 (ixI (l.findIdx? p))) W):=by
 have HA:=hid hrow
 have HCC:=hid hC
 have HCL:=hid hcl
 obtain ⟨n,hn⟩:∃n,l.length=n:=⟨_,rfl⟩
 have HN:=hid hn
 unfold Ent at ek
 rw [hn] at hl ⊢
 clear hrow hC hn hcl
 go_enter Tryz.func107,Tryz.ntmps107
 go_wp2
 go_loopw [8] (fun i wr=>∃k:Nat,k≤n∧i=.int .i64 k∧Hid (Below W.heap.size W wr)∧Hid (∀j (hj:j<l.length),j<k→p l[j]=false)) (fun i _=>n - (intOf i).toNat)
 case atStart=>exact ⟨0,Nat.zero_le _,rfl,hid (Below.refl _ _),hid (fun j hj h=>absurd h (by omega))⟩
 case round =>
  obtain ⟨k,hk,rfl,HBW,HT⟩:=hrel
  by_cases hlt:k<n
  ·have hk1:k<l.length:=by rw [HN.out];exact hlt
   have HK:=hid hk1
   obtain ⟨g,o,qp,cp,qr,cr,qv,cv,qb,cb,rfl,a0⟩:=HA.out k hk1
   have e0:wr.cell? ⟨g,o+k*6,none⟩=some (.string l[k].name):=below_cle HBW.out _ _ (HCC.out _ _ a0.1)
   have e1:wr.cell? ⟨g,o+k*6+1,none⟩=some (.int .u64 (l[k].level:Nat)):=below_cle HBW.out _ _ (HCC.out _ _ a0.2.1)
   have e2:wr.cell? ⟨g,o+k*6+2,none⟩=some (.slice qp l[k].params.length cp):=below_cle HBW.out _ _ (HCC.out _ _ a0.2.2.1)
   have e3:wr.cell? ⟨g,o+k*6+3,none⟩=some (.slice qr l[k].results.length cr):=below_cle HBW.out _ _ (HCC.out _ _ a0.2.2.2.1)
   have e4:wr.cell? ⟨g,o+k*6+4,none⟩=some (.slice qv l[k].vars.length cv):=below_cle HBW.out _ _ (HCC.out _ _ a0.2.2.2.2.1)
   have e5:wr.cell? ⟨g,o+k*6+5,none⟩=some (.slice qb l[k].body.length cb):=below_cle HBW.out _ _ (HCC.out _ _ a0.2.2.2.2.2.1)
   have HCALL:=hid (HCL.out k hk1 qp cp qr cr qv cv qb cb a0.2.2.2.2.2.2 wr HBW.out)
   clear a0
   generalize hpx:p l[k]=b at HCALL
   have HS0:=hid (fun h:b=false=>ix_step HK.out HT.out (hpx.trans h))
   have HS1:=hid (fun h:b=true=>ix_hit HK.out HT.out (hpx.trans h))
   clear hpx
   generalize l[k].results.length=z0 at *
   generalize l[k].params.length=z1 at *
   generalize l[k].vars.length=z2 at *
   generalize l[k].body.length=z3 at *
   generalize l[k].level=z4 at *
   generalize l[k].name=z5 at *
   clear hk1
   have hki:(k:Int)<(n:Int):=by omega
   go_wp2_with fail
   refine HCALL.out.mono ?_
   rintro e w2 ⟨rfl,hbel⟩
   have HB3:=hid (bl_tr HBW.out hbel)
   clear hbel HCALL
   cases b
   ·have HT2:=hid (HS0.out rfl)
    go_wp2_with fail
    exact ⟨⟨k+1,by omega,by go_num,HB3,HT2⟩,by simp [intOf];omega⟩
   ·have HT2:=hid (HS1.out rfl)
    go_wp2_with fail
    go_ret
    exact ⟨by rw [HT2.out];rfl,HB3.out⟩
  ·have HT2:=hid (ix_no (fun j hj _=>HT.out j hj (by have:=HN.out;omega)))
   go_wp2
   go_ret
   exact ⟨by rw [HT2.out];rfl,HBW.out⟩
end
theorem str_dec {a b:ByteArray}:(a.toList == b.toList)=decide (a=b):=by
 rw [Bool.eq_iff_iff,beq_iff_eq,decide_eq_true_iff,Lib.toList_data,Lib.toList_data]
 constructor
 ·intro h
  exact ByteArray.ext (Array.toList_inj.1 h)
 ·rintro rfl;rfl
theorem str_dec2 {a b:ByteArray} {x:Bool} (h:x=decide (a=b)):Ending.returned (.bool (a.toList == b.toList))=.returned (.bool x):=by rw [h,str_dec]
theorem cell_lt {w:World} {a:Addr} {v:Value} (h:w.cell? a=some v):a.block<w.heap.size:=World.block_lt_of_cell? _ _ h
theorem cell_b {w w':World} {a:Addr} {v:Value} (h:w.cell? a=some v) (hb:Below w.heap.size w w'):w'.cell? a=some v:=below_cle hb _ _ h
theorem ent_of {P : Program} {f : FuncId} {fn : Func} {c : Code} (hf : P.funcs[f]? = some fn) (hname : (fn.name == "runtime.NumGoroutine") = false) (hb : fn.body = some c) : ∀ args w, (callFunc f args).run P w = .ok (.enter f args) w := enters_of hf hname hb
theorem new_cell (W:World) (v:Value) (T:TypeId):(W.alloc (.cells #[v] T)).cell? ⟨W.heap.size,0,none⟩=some v:=by
 rw [World.cell?_alloc_new];rfl
theorem new_cell' {W:World} {n:Nat} (v:Value) (T:TypeId) (h:W.heap.size=n):(W.alloc (.cells #[v] T)).cell? ⟨n,0,none⟩=some v:=by subst h;exact new_cell W v T
section
variable {lt:Bool} {C:Cl} {W:World} {q:Option Addr} {c:Nat}
set_option maxRecDepth 100000 in
theorem nmDe_p (d:DeZ) (W:World):Calls Tryz.prog 55 #[.agg #[.string d.name,.int .u64 (d.label:Nat)]] W fun e w'=>e=.returned (.string d.name)∧W.alloc (.cells #[.string d.name,.int .u64 (d.label:Nat)] 37)=w':=by
 go_enter Tryz.func55,Tryz.ntmps55
 go_wp2
 go_ret
 exact ⟨rfl,rfl⟩
set_option maxRecDepth 100000 in
set_option maxHeartbeats 1000000 in
theorem fcDe_p (d:DeZ) (nm:ByteArray) (W:World) (b1 b2:Nat) (h1:W.cell? ⟨b1,0,none⟩=some (.func (.func 55) #[] #[])) (h2:W.cell? ⟨b2,0,none⟩=some (.string nm)) :
 Calls Tryz.prog 104 #[.agg #[.string d.name,.int .u64 (d.label:Nat)],.pointer (some ⟨b1,0,none⟩),.pointer (some ⟨b2,0,none⟩)] W (RetB (.bool (decide (d.name=nm))) W):=by
 have hn:=nmDe_p d
 have ek:∀args w,(callFunc 55 args).run Tryz.prog w=.ok (.enter 55 args) w:=ent_of Tryz.func55 (by kernel_rfl) rfl
 have hlt1:=cell_lt h1
 have hlt2:=cell_lt h2
 have HN:=hid hn
 clear hn
 go_enter Tryz.func104,Tryz.ntmps104
 go_wp2_with fail
 go_region_with (first|(go_at_call 55;refine (HN.out _).mono ?_;rintro e w' ⟨rfl,rfl⟩))
 all_goals
  go_wp2
  go_ret
  refine ⟨str_dec2 rfl,?_⟩
  repeat (first|exact Below.refl _ _|refine bl_al ?_ _|refine bl_dr ?_)
end
section
variable {lt:Bool} {C:Cl} {W:World} {q:Option Addr} {c:Nat}
set_option maxRecDepth 100000 in
theorem nmAr_p (d:ArZ) (W:World):Calls Tryz.prog 57 #[.agg #[.string d.name,.int .i64 d.len,.int .u64 (d.label:Nat)]] W fun e w'=>e=.returned (.string d.name)∧W.alloc (.cells #[.string d.name,.int .i64 d.len,.int .u64 (d.label:Nat)] 39)=w':=by
 go_enter Tryz.func57,Tryz.ntmps57
 go_wp2
 go_ret
 exact ⟨rfl,rfl⟩
set_option maxRecDepth 100000 in
set_option maxHeartbeats 1000000 in
theorem fcAr_p (d:ArZ) (nm:ByteArray) (W:World) (b1 b2:Nat) (h1:W.cell? ⟨b1,0,none⟩=some (.func (.func 57) #[] #[])) (h2:W.cell? ⟨b2,0,none⟩=some (.string nm)) :
 Calls Tryz.prog 106 #[.agg #[.string d.name,.int .i64 d.len,.int .u64 (d.label:Nat)],.pointer (some ⟨b1,0,none⟩),.pointer (some ⟨b2,0,none⟩)] W (RetB (.bool (decide (d.name=nm))) W):=by
 have hn:=nmAr_p d
 have ek:∀args w,(callFunc 57 args).run Tryz.prog w=.ok (.enter 57 args) w:=ent_of Tryz.func57 (by kernel_rfl) rfl
 have hlt1:=cell_lt h1
 have hlt2:=cell_lt h2
 have HN:=hid hn
 clear hn
 go_enter Tryz.func106,Tryz.ntmps106
 go_wp2_with fail
 go_region_with (first|(go_at_call 57;refine (HN.out _).mono ?_;rintro e w' ⟨rfl,rfl⟩))
 all_goals
  go_wp2
  go_ret
  refine ⟨str_dec2 rfl,?_⟩
  repeat (first|exact Below.refl _ _|refine bl_al ?_ _|refine bl_dr ?_)
end
section
variable {lt:Bool} {C:Cl} {W:World} {q:Option Addr} {c:Nat}
set_option maxRecDepth 100000 in
theorem nmFn_p (d:FnZ) (qp:Option Addr) (cp:Nat) (qr:Option Addr) (cr:Nat) (qv:Option Addr) (cv:Nat) (qb:Option Addr) (cb:Nat) (W:World):Calls Tryz.prog 59 #[.agg #[.string d.name,.int .u64 (d.level:Nat),.slice qp d.params.length cp,.slice qr d.results.length cr,.slice qv d.vars.length cv,.slice qb d.body.length cb]] W fun e w'=>e=.returned (.string d.name)∧W.alloc (.cells #[.string d.name,.int .u64 (d.level:Nat),.slice qp d.params.length cp,.slice qr d.results.length cr,.slice qv d.vars.length cv,.slice qb d.body.length cb] 43)=w':=by
 go_enter Tryz.func59,Tryz.ntmps59
 go_wp2
 go_ret
 exact ⟨rfl,rfl⟩
set_option maxRecDepth 100000 in
set_option maxHeartbeats 1000000 in
theorem fcFn_p (d:FnZ) (qp:Option Addr) (cp:Nat) (qr:Option Addr) (cr:Nat) (qv:Option Addr) (cv:Nat) (qb:Option Addr) (cb:Nat) (nm:ByteArray) (W:World) (b1 b2:Nat) (h1:W.cell? ⟨b1,0,none⟩=some (.func (.func 59) #[] #[])) (h2:W.cell? ⟨b2,0,none⟩=some (.string nm)) :
 Calls Tryz.prog 108 #[.agg #[.string d.name,.int .u64 (d.level:Nat),.slice qp d.params.length cp,.slice qr d.results.length cr,.slice qv d.vars.length cv,.slice qb d.body.length cb],.pointer (some ⟨b1,0,none⟩),.pointer (some ⟨b2,0,none⟩)] W (RetB (.bool (decide (d.name=nm))) W):=by
 have hn:=nmFn_p d qp cp qr cr qv cv qb cb
 have ek:∀args w,(callFunc 59 args).run Tryz.prog w=.ok (.enter 59 args) w:=ent_of Tryz.func59 (by kernel_rfl) rfl
 have hlt1:=cell_lt h1
 have hlt2:=cell_lt h2
 have HN:=hid hn
 clear hn
 go_enter Tryz.func108,Tryz.ntmps108
 go_wp2_with fail
 go_region_with (first|(go_at_call 59;refine (HN.out _).mono ?_;rintro e w' ⟨rfl,rfl⟩))
 all_goals
  go_wp2
  go_ret
  refine ⟨str_dec2 rfl,?_⟩
  repeat (first|exact Below.refl _ _|refine bl_al ?_ _|refine bl_dr ?_)
end
section
variable {lt:Bool} {C:Cl} {W:World} {q:Option Addr} {c:Nat}
set_option maxRecDepth 100000 in
set_option maxHeartbeats 1000000 in
theorem firstDe_p {l:List DeZ} (h:DesR lt C (.slice q l.length c) l) (hC:CLe C (wC W)) (nm:ByteArray) :
 Calls Tryz.prog 54 #[.slice q l.length c,.func (.func 55) #[] #[],.string nm] W (RetB (.int .i64 (ixI (idxZ (l.map DeZ.name) nm))) W):=by
 have hmf:∀(fn:Fn) (first cap:Array Value) (w:World),(Instr.makeFunc fn first cap).run Tryz.prog w=.ok (.func fn first cap) w:=fun _ _ _ _=>rfl
 have ek:Ent 104:=ent_of Tryz.func104 (by kernel_rfl) rfl
 have hlen:=slx_len h
 have HX:=hid (show idxZ (l.map DeZ.name) nm=l.findIdx? (fun d=>decide (d.name=nm)) by unfold idxZ;rw [List.findIdx?_map];rfl)
 have HI:=hid (fun (w:World) (b1 b2:Nat) (hb:Below W.heap.size W w) (h1:w.cell? ⟨b1,0,none⟩=some (.func (.func 55) #[] #[])) (h2:w.cell? ⟨b2,0,none⟩=some (.string nm)) =>
  ixDe_p (W:=w) (c:=c) (by omega) (h.cells) (hC.trans (below_cle hb)) ek (ca:=#[.pointer (some ⟨b1,0,none⟩),.pointer (some ⟨b2,0,none⟩)]) (fun d=>decide (d.name=nm))
   (fun k hk w' hb'=>fcDe_p l[k] nm w' b1 b2 (cell_b h1 hb') (cell_b h2 hb')))
 clear h hC hlen
 generalize l.length=n at *
 go_enter Tryz.func54,Tryz.ntmps54
 go_wp2_with (go_at_call 103;refine (HI.out _ W.heap.size (W.heap.size+1) ?_ ?_ ?_).mono ?_)
 ·repeat (first|exact Below.refl _ _|refine bl_al ?_ _|refine bl_dr ?_)
 ·exact cell_b (new_cell W _ _) (bl_al (Below.refl _ _) _)
 ·exact new_cell' _ _ (by simp)
 ·rintro e w1 ⟨rfl,hb1⟩
  have HB:=hid (bl_tr (bl_al (bl_al (Below.refl W.heap.size W) _) _) hb1)
  clear hb1
  go_wp2
  go_ret
  exact ⟨by rw [HX.out];rfl,HB.out⟩
end
section
variable {lt:Bool} {C:Cl} {W:World} {q:Option Addr} {c:Nat}
set_option maxRecDepth 100000 in
set_option maxHeartbeats 1000000 in
theorem firstAr_p {l:List ArZ} (h:ArsR lt C (.slice q l.length c) l) (hC:CLe C (wC W)) (nm:ByteArray) :
 Calls Tryz.prog 56 #[.slice q l.length c,.func (.func 57) #[] #[],.string nm] W (RetB (.int .i64 (ixI (idxZ (l.map ArZ.name) nm))) W):=by
 have hmf:∀(fn:Fn) (first cap:Array Value) (w:World),(Instr.makeFunc fn first cap).run Tryz.prog w=.ok (.func fn first cap) w:=fun _ _ _ _=>rfl
 have ek:Ent 106:=ent_of Tryz.func106 (by kernel_rfl) rfl
 have hlen:=slx_len h
 have HX:=hid (show idxZ (l.map ArZ.name) nm=l.findIdx? (fun d=>decide (d.name=nm)) by unfold idxZ;rw [List.findIdx?_map];rfl)
 have HI:=hid (fun (w:World) (b1 b2:Nat) (hb:Below W.heap.size W w) (h1:w.cell? ⟨b1,0,none⟩=some (.func (.func 57) #[] #[])) (h2:w.cell? ⟨b2,0,none⟩=some (.string nm)) =>
  ixAr_p (W:=w) (c:=c) (by omega) (h.cells) (hC.trans (below_cle hb)) ek (ca:=#[.pointer (some ⟨b1,0,none⟩),.pointer (some ⟨b2,0,none⟩)]) (fun d=>decide (d.name=nm))
   (fun k hk w' hb'=>fcAr_p l[k] nm w' b1 b2 (cell_b h1 hb') (cell_b h2 hb')))
 clear h hC hlen
 generalize l.length=n at *
 go_enter Tryz.func56,Tryz.ntmps56
 go_wp2_with (go_at_call 105;refine (HI.out _ W.heap.size (W.heap.size+1) ?_ ?_ ?_).mono ?_)
 ·repeat (first|exact Below.refl _ _|refine bl_al ?_ _|refine bl_dr ?_)
 ·exact cell_b (new_cell W _ _) (bl_al (Below.refl _ _) _)
 ·exact new_cell' _ _ (by simp)
 ·rintro e w1 ⟨rfl,hb1⟩
  have HB:=hid (bl_tr (bl_al (bl_al (Below.refl W.heap.size W) _) _) hb1)
  clear hb1
  go_wp2
  go_ret
  exact ⟨by rw [HX.out];rfl,HB.out⟩
end
section
variable {lt:Bool} {C:Cl} {W:World} {q:Option Addr} {c:Nat}
set_option maxRecDepth 100000 in
set_option maxHeartbeats 1000000 in
theorem firstFn_p {l:List FnZ} (h:FnsR lt C (.slice q l.length c) l) (hC:CLe C (wC W)) (nm:ByteArray) :
 Calls Tryz.prog 58 #[.slice q l.length c,.func (.func 59) #[] #[],.string nm] W (RetB (.int .i64 (ixI (idxZ (l.map FnZ.name) nm))) W):=by
 have hmf:∀(fn:Fn) (first cap:Array Value) (w:World),(Instr.makeFunc fn first cap).run Tryz.prog w=.ok (.func fn first cap) w:=fun _ _ _ _=>rfl
 have ek:Ent 108:=ent_of Tryz.func108 (by kernel_rfl) rfl
 have hlen:=slx_len h
 have HX:=hid (show idxZ (l.map FnZ.name) nm=l.findIdx? (fun d=>decide (d.name=nm)) by unfold idxZ;rw [List.findIdx?_map];rfl)
 have HI:=hid (fun (w:World) (b1 b2:Nat) (hb:Below W.heap.size W w) (h1:w.cell? ⟨b1,0,none⟩=some (.func (.func 59) #[] #[])) (h2:w.cell? ⟨b2,0,none⟩=some (.string nm)) =>
  ixFn_p (W:=w) (c:=c) (by omega) (h.cells) (hC.trans (below_cle hb)) ek (ca:=#[.pointer (some ⟨b1,0,none⟩),.pointer (some ⟨b2,0,none⟩)]) (fun d=>decide (d.name=nm))
   (fun k hk qp cp qr cr qv cv qb cb _ w' hb'=>fcFn_p l[k] qp cp qr cr qv cv qb cb nm w' b1 b2 (cell_b h1 hb') (cell_b h2 hb')))
 clear h hC hlen
 generalize l.length=n at *
 go_enter Tryz.func58,Tryz.ntmps58
 go_wp2_with (go_at_call 107;refine (HI.out _ W.heap.size (W.heap.size+1) ?_ ?_ ?_).mono ?_)
 ·repeat (first|exact Below.refl _ _|refine bl_al ?_ _|refine bl_dr ?_)
 ·exact cell_b (new_cell W _ _) (bl_al (Below.refl _ _) _)
 ·exact new_cell' _ _ (by simp)
 ·rintro e w1 ⟨rfl,hb1⟩
  have HB:=hid (bl_tr (bl_al (bl_al (Below.refl W.heap.size W) _) _) hb1)
  clear hb1
  go_wp2
  go_ret
  exact ⟨by rw [HX.out];rfl,HB.out⟩
end
theorem all_any {α:Type} (l:List α) (p:α→Bool):(!(l.findIdx? fun x=>!p x).isSome)=l.all p:=by
 rw [List.findIdx?_isSome]
 induction l with
 | nil=>rfl
 | cons x l ih=>simp only [List.any_cons,List.all_cons,Bool.not_or,Bool.not_not,ih]
section
variable {C:Cl} {W:World} {q:Option Addr}
set_option maxRecDepth 100000 in
theorem conSr_p {l:List ByteArray} {c:Nat} (hl:l.length≤9223372036854775807) (hrow:StrAt C q l) (hC:CLe C (wC W)) {K:Nat} {ca:Array Value} (ek:Ent K) (p:ByteArray→Bool)
 (hcl:∀k (hk:k<l.length) W',Below W.heap.size W W'→Calls Tryz.prog K (#[]++#[.string l[k]]++ca) W' (RetB (.bool (p l[k])) W')) :
 Calls Tryz.prog 157 #[.slice q l.length c,.func (.func K) #[] ca] W (RetB (.bool (l.findIdx? p).isSome) W):=by
 have H:=ixSr_p (c:=c) hl hrow hC ek p hcl
 clear hrow hcl
 generalize l.findIdx? p=X at *
 cases X with
 | none =>
  have HH:=hid H
  clear H
  have ix1:ixI none=-1:=rfl
  go_enter Tryz.func157,Tryz.ntmps157
  go_wp2_with (go_at_call 176;refine HH.out.mono ?_;rintro e w1 ⟨rfl,hb⟩;rw [ix1])
  go_ret
  exact ⟨rfl,hb⟩
 | some k =>
  have HH:=hid H
  clear H
  have ix1:ixI (some k)=(k:Int):=rfl
  have hk:(0:Int)≤(k:Int):=by omega
  go_enter Tryz.func157,Tryz.ntmps157
  go_wp2_with (go_at_call 176;refine HH.out.mono ?_;rintro e w1 ⟨rfl,hb⟩;rw [ix1])
  go_ret
  exact ⟨rfl,hb⟩
set_option maxRecDepth 100000 in
theorem allcSr_p (ev:Value) (b:Nat) (r:Bool) {K:Nat} {ca:Array Value} (ek:Ent K) (hc:W.cell? ⟨b,0,none⟩=some (.func (.func K) #[] ca)) (hcall:Calls Tryz.prog K (#[]++#[ev]++ca) W (RetB (.bool r) W)) :
 Calls Tryz.prog 158 #[ev,.pointer (some ⟨b,0,none⟩)] W (RetB (.bool (!r)) W):=by
 have HH:=hid hcall
 unfold Ent at ek
 clear hcall
 go_enter Tryz.func158,Tryz.ntmps158
 go_wp2_with fail
 refine HH.out.mono ?_
 rintro e w1 ⟨rfl,hb⟩
 cases r
 ·go_wp2
  go_ret
  exact ⟨rfl,hb⟩
 ·go_wp2
  go_ret
  exact ⟨rfl,hb⟩
set_option maxRecDepth 100000 in
theorem allSr_p {l:List ByteArray} {c:Nat} (hl:l.length≤9223372036854775807) (hrow:StrAt C q l) (hC:CLe C (wC W)) {K:Nat} {ca:Array Value} (ek:Ent K) (p:ByteArray→Bool)
 (hcl:∀k (hk:k<l.length) W',Below W.heap.size W W'→Calls Tryz.prog K (#[]++#[.string l[k]]++ca) W' (RetB (.bool (p l[k])) W')) :
 Calls Tryz.prog 131 #[.slice q l.length c,.func (.func K) #[] ca] W (RetB (.bool (l.all p)) W):=by
 have hmf:∀(fn:Fn) (first cap:Array Value) (w:World),(Instr.makeFunc fn first cap).run Tryz.prog w=.ok (.func fn first cap) w:=fun _ _ _ _=>rfl
 have ek2:Ent 158:=ent_of Tryz.func158 (by kernel_rfl) rfl
 have HI:=hid (fun (w:World) (b:Nat) (hb:Below W.heap.size W w) (h1:w.cell? ⟨b,0,none⟩=some (.func (.func K) #[] ca)) =>
  conSr_p (W:=w) (c:=c) hl hrow (hC.trans (below_cle hb)) ek2 (ca:=#[.pointer (some ⟨b,0,none⟩)]) (fun x=>!p x)
   (fun k hk w' hb'=>allcSr_p _ b (p l[k]) ek (cell_b h1 hb') (hcl k hk w' (bl_tr hb hb'))))
 have HX:=hid (all_any l p)
 clear hcl hC hrow ek hl
 generalize l.length=n at *
 go_enter Tryz.func131,Tryz.ntmps131
 go_wp2_with (go_at_call 157;refine (HI.out _ W.heap.size ?_ ?_).mono ?_)
 ·repeat (first|exact Below.refl _ _|refine bl_al ?_ _|refine bl_dr ?_)
 ·exact new_cell' _ _ rfl
 ·rintro e w1 ⟨rfl,hb1⟩
  have HB:=hid (bl_tr (bl_al (Below.refl W.heap.size W) _) hb1)
  clear hb1
  generalize (l.findIdx? fun x=>!p x).isSome=r at *
  go_wp2
  go_ret
  exact ⟨ret_bool HX.out,HB.out⟩
end
section
variable {C:Cl} {W:World} {q:Option Addr} {lt:Bool}
set_option maxRecDepth 100000 in
theorem conEx_p {l:List (List TmZ)} {c:Nat} (hl:l.length≤9223372036854775807) (hrow:ExAt lt C q l) (hC:CLe C (wC W)) {K:Nat} {ca:Array Value} (ek:Ent K) (p:(List TmZ)→Bool)
 (hcl:∀k (hk:k<l.length) (qe:Option Addr) (ce:Nat) (hx:TmsR lt C (.slice qe l[k].length ce) l[k]) W',Below W.heap.size W W'→Calls Tryz.prog K (#[]++#[.slice qe l[k].length ce]++ca) W' (RetB (.bool (p l[k])) W')) :
 Calls Tryz.prog 133 #[.slice q l.length c,.func (.func K) #[] ca] W (RetB (.bool (l.findIdx? p).isSome) W):=by
 have H:=ixEx_p (c:=c) hl hrow hC ek p hcl
 clear hrow hcl
 generalize l.findIdx? p=X at *
 cases X with
 | none =>
  have HH:=hid H
  clear H
  have ix1:ixI none=-1:=rfl
  go_enter Tryz.func133,Tryz.ntmps133
  go_wp2_with (go_at_call 161;refine HH.out.mono ?_;rintro e w1 ⟨rfl,hb⟩;rw [ix1])
  go_ret
  exact ⟨rfl,hb⟩
 | some k =>
  have HH:=hid H
  clear H
  have ix1:ixI (some k)=(k:Int):=rfl
  have hk:(0:Int)≤(k:Int):=by omega
  go_enter Tryz.func133,Tryz.ntmps133
  go_wp2_with (go_at_call 161;refine HH.out.mono ?_;rintro e w1 ⟨rfl,hb⟩;rw [ix1])
  go_ret
  exact ⟨rfl,hb⟩
set_option maxRecDepth 100000 in
theorem allcEx_p (ev:Value) (b:Nat) (r:Bool) {K:Nat} {ca:Array Value} (ek:Ent K) (hc:W.cell? ⟨b,0,none⟩=some (.func (.func K) #[] ca)) (hcall:Calls Tryz.prog K (#[]++#[ev]++ca) W (RetB (.bool r) W)) :
 Calls Tryz.prog 134 #[ev,.pointer (some ⟨b,0,none⟩)] W (RetB (.bool (!r)) W):=by
 have HH:=hid hcall
 unfold Ent at ek
 clear hcall
 go_enter Tryz.func134,Tryz.ntmps134
 go_wp2_with fail
 refine HH.out.mono ?_
 rintro e w1 ⟨rfl,hb⟩
 cases r
 ·go_wp2
  go_ret
  exact ⟨rfl,hb⟩
 ·go_wp2
  go_ret
  exact ⟨rfl,hb⟩
set_option maxRecDepth 100000 in
theorem allEx_p {l:List (List TmZ)} {c:Nat} (hl:l.length≤9223372036854775807) (hrow:ExAt lt C q l) (hC:CLe C (wC W)) {K:Nat} {ca:Array Value} (ek:Ent K) (p:(List TmZ)→Bool)
 (hcl:∀k (hk:k<l.length) (qe:Option Addr) (ce:Nat) (hx:TmsR lt C (.slice qe l[k].length ce) l[k]) W',Below W.heap.size W W'→Calls Tryz.prog K (#[]++#[.slice qe l[k].length ce]++ca) W' (RetB (.bool (p l[k])) W')) :
 Calls Tryz.prog 92 #[.slice q l.length c,.func (.func K) #[] ca] W (RetB (.bool (l.all p)) W):=by
 have hmf:∀(fn:Fn) (first cap:Array Value) (w:World),(Instr.makeFunc fn first cap).run Tryz.prog w=.ok (.func fn first cap) w:=fun _ _ _ _=>rfl
 have ek2:Ent 134:=ent_of Tryz.func134 (by kernel_rfl) rfl
 have HI:=hid (fun (w:World) (b:Nat) (hb:Below W.heap.size W w) (h1:w.cell? ⟨b,0,none⟩=some (.func (.func K) #[] ca)) =>
  conEx_p (W:=w) (c:=c) hl hrow (hC.trans (below_cle hb)) ek2 (ca:=#[.pointer (some ⟨b,0,none⟩)]) (fun x=>!p x)
   (fun k hk qe ce hx w' hb'=>allcEx_p _ b (p l[k]) ek (cell_b h1 hb') (hcl k hk qe ce hx w' (bl_tr hb hb'))))
 have HX:=hid (all_any l p)
 clear hcl hC hrow ek hl
 generalize l.length=n at *
 go_enter Tryz.func92,Tryz.ntmps92
 go_wp2_with (go_at_call 133;refine (HI.out _ W.heap.size ?_ ?_).mono ?_)
 ·repeat (first|exact Below.refl _ _|refine bl_al ?_ _|refine bl_dr ?_)
 ·exact new_cell' _ _ rfl
 ·rintro e w1 ⟨rfl,hb1⟩
  have HB:=hid (bl_tr (bl_al (Below.refl W.heap.size W) _) hb1)
  clear hb1
  generalize (l.findIdx? fun x=>!p x).isSome=r at *
  go_wp2
  go_ret
  exact ⟨ret_bool HX.out,HB.out⟩
end
section
variable {C:Cl} {W:World} {q:Option Addr}
set_option maxRecDepth 100000 in
theorem conLa_p {l:List Nat} {c:Nat} (hl:l.length≤9223372036854775807) (hrow:LaAt C q l) (hC:CLe C (wC W)) {K:Nat} {ca:Array Value} (ek:Ent K) (p:Nat→Bool)
 (hcl:∀k (hk:k<l.length) W',Below W.heap.size W W'→Calls Tryz.prog K (#[]++#[.int .u64 (l[k]:Nat)]++ca) W' (RetB (.bool (p l[k])) W')) :
 Calls Tryz.prog 124 #[.slice q l.length c,.func (.func K) #[] ca] W (RetB (.bool (l.findIdx? p).isSome) W):=by
 have H:=ixLa_p (c:=c) hl hrow hC ek p hcl
 clear hrow hcl
 generalize l.findIdx? p=X at *
 cases X with
 | none =>
  have HH:=hid H
  clear H
  have ix1:ixI none=-1:=rfl
  go_enter Tryz.func124,Tryz.ntmps124
  go_wp2_with (go_at_call 155;refine HH.out.mono ?_;rintro e w1 ⟨rfl,hb⟩;rw [ix1])
  go_ret
  exact ⟨rfl,hb⟩
 | some k =>
  have HH:=hid H
  clear H
  have ix1:ixI (some k)=(k:Int):=rfl
  have hk:(0:Int)≤(k:Int):=by omega
  go_enter Tryz.func124,Tryz.ntmps124
  go_wp2_with (go_at_call 155;refine HH.out.mono ?_;rintro e w1 ⟨rfl,hb⟩;rw [ix1])
  go_ret
  exact ⟨rfl,hb⟩
set_option maxRecDepth 100000 in
theorem allcLa_p (ev:Value) (b:Nat) (r:Bool) {K:Nat} {ca:Array Value} (ek:Ent K) (hc:W.cell? ⟨b,0,none⟩=some (.func (.func K) #[] ca)) (hcall:Calls Tryz.prog K (#[]++#[ev]++ca) W (RetB (.bool r) W)) :
 Calls Tryz.prog 125 #[ev,.pointer (some ⟨b,0,none⟩)] W (RetB (.bool (!r)) W):=by
 have HH:=hid hcall
 unfold Ent at ek
 clear hcall
 go_enter Tryz.func125,Tryz.ntmps125
 go_wp2_with fail
 refine HH.out.mono ?_
 rintro e w1 ⟨rfl,hb⟩
 cases r
 ·go_wp2
  go_ret
  exact ⟨rfl,hb⟩
 ·go_wp2
  go_ret
  exact ⟨rfl,hb⟩
set_option maxRecDepth 100000 in
theorem allLa_p {l:List Nat} {c:Nat} (hl:l.length≤9223372036854775807) (hrow:LaAt C q l) (hC:CLe C (wC W)) {K:Nat} {ca:Array Value} (ek:Ent K) (p:Nat→Bool)
 (hcl:∀k (hk:k<l.length) W',Below W.heap.size W W'→Calls Tryz.prog K (#[]++#[.int .u64 (l[k]:Nat)]++ca) W' (RetB (.bool (p l[k])) W')) :
 Calls Tryz.prog 81 #[.slice q l.length c,.func (.func K) #[] ca] W (RetB (.bool (l.all p)) W):=by
 have hmf:∀(fn:Fn) (first cap:Array Value) (w:World),(Instr.makeFunc fn first cap).run Tryz.prog w=.ok (.func fn first cap) w:=fun _ _ _ _=>rfl
 have ek2:Ent 125:=ent_of Tryz.func125 (by kernel_rfl) rfl
 have HI:=hid (fun (w:World) (b:Nat) (hb:Below W.heap.size W w) (h1:w.cell? ⟨b,0,none⟩=some (.func (.func K) #[] ca)) =>
  conLa_p (W:=w) (c:=c) hl hrow (hC.trans (below_cle hb)) ek2 (ca:=#[.pointer (some ⟨b,0,none⟩)]) (fun x=>!p x)
   (fun k hk w' hb'=>allcLa_p _ b (p l[k]) ek (cell_b h1 hb') (hcl k hk w' (bl_tr hb hb'))))
 have HX:=hid (all_any l p)
 clear hcl hC hrow ek hl
 generalize l.length=n at *
 go_enter Tryz.func81,Tryz.ntmps81
 go_wp2_with (go_at_call 124;refine (HI.out _ W.heap.size ?_ ?_).mono ?_)
 ·repeat (first|exact Below.refl _ _|refine bl_al ?_ _|refine bl_dr ?_)
 ·exact new_cell' _ _ rfl
 ·rintro e w1 ⟨rfl,hb1⟩
  have HB:=hid (bl_tr (bl_al (Below.refl W.heap.size W) _) hb1)
  clear hb1
  generalize (l.findIdx? fun x=>!p x).isSome=r at *
  go_wp2
  go_ret
  exact ⟨ret_bool HX.out,HB.out⟩
end
end Go.Proofs.YtlpdjfimefjmcaaGreatDoor
