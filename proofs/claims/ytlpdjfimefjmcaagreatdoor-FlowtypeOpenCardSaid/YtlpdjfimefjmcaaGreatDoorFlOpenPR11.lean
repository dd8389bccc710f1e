/- slices.IndexFunc at one type, over whatever is asked of an item. (Written by a program.) math/bits.Mul of 1 and a number; slices.Repeat of one number; slices.Clone of numbers. slices.Clone of numbers. Ends in memory: the rows ends, elses and open. Ends of the package: where blocks end. Package names -/
import Derived.Test.YtlpdjfimefjmcaaGreatDoorFlOpenPR5
import Derived.Test.YtlpdjfimefjmcaaGreatDoorFlOpenPR3
import Derived.Test.YtlpdjfimefjmcaaGreatDoorFlOpenPR2
import Derived.RangeFuncRecord
import Derived.RangeFuncOwn
import Derived.Laws.CopyOwn
import Derived.Deep.OwnRows
import Derived.Laws.OwnMore
import Derived.Laws.Bits64
import Derived.Laws.Bits64b
import Derived.Deep.AppendLies
import Derived.Test.YtlpdjfimefjmcaaGreatDoorFlOpenPR8
open Go.Lib (hid)
namespace Go.Proofs.YtlpdjfimefjmcaaGreatDoor
open Go Go.RowKit Go.Proofs.Mm
section
variable {C:Cl} {W:World} {q:Option Addr} {lt:Bool}
set_option maxRecDepth 100000 in
set_option maxHeartbeats 2000000 in
theorem ixSt_p {l:List StZ} {c:Nat} (hl:l.length≤9223372036854775807) (hrow:StAt lt C q l) (hC:CLe C (wC W)) {K:Nat} {ca:Array Value} (ek:Ent K) (p:StZ→Bool)
 (hcl:∀k (hk:k<l.length) (qt:Option Addr) (ct:Nat) (qe:Option Addr) (ce:Nat) (_:StrR lt C (.slice qt l[k].targets.length ct) l[k].targets∧ExsR lt C (.slice qe l[k].exprs.length ce) l[k].exprs) W',Below W.heap.size W W'→Calls Tryz.prog K (#[]++#[.agg #[.int .i64 l[k].kind,.string l[k].name,.slice qt l[k].targets.length ct,.slice qe l[k].exprs.length ce]]++ca) W' (RetB (.bool (p l[k])) W')) :
 Calls Tryz.prog 127 #[.slice q l.length c,.func (.func K) #[] ca] W (RetB (.int .i64 (ixI (l.findIdx? p))) W):=by
 have HA:=hid hrow
 have HCC:=hid hC
 have HCL:=hid hcl
 obtain ⟨n,hn⟩:∃n,l.length=n:=⟨_,rfl⟩
 have HN:=hid hn
 unfold Ent at ek
 rw [hn] at hl ⊢
 clear hrow hC hn hcl
 go_enter Tryz.func127,Tryz.ntmps127
 go_wp2
 go_loopw [8] (fun i wr=>∃k:Nat,k≤n∧i=.int .i64 k∧Hid (Below W.heap.size W wr)∧Hid (∀j (hj:j<l.length),j<k→p l[j]=false)) (fun i _=>n - (intOf i).toNat)
 case atStart=>exact ⟨0,Nat.zero_le _,rfl,hid (Below.refl _ _),hid (fun j hj h=>absurd h (by omega))⟩
 case round =>
  obtain ⟨k,hk,rfl,HBW,HT⟩:=hrel
  by_cases hlt:k<n
  ·have hk1:k<l.length:=by rw [HN.out];exact hlt
   have HK:=hid hk1
   obtain ⟨g,o,qt,ct,qe,ce,rfl,a0⟩:=HA.out k hk1
   have e0:wr.cell? ⟨g,o+k*4,none⟩=some (.int .i64 l[k].kind):=below_cle HBW.out _ _ (HCC.out _ _ a0.1)
   have e1:wr.cell? ⟨g,o+k*4+1,none⟩=some (.string l[k].name):=below_cle HBW.out _ _ (HCC.out _ _ a0.2.1)
   have e2:wr.cell? ⟨g,o+k*4+2,none⟩=some (.slice qt l[k].targets.length ct):=below_cle HBW.out _ _ (HCC.out _ _ a0.2.2.1)
   have e3:wr.cell? ⟨g,o+k*4+3,none⟩=some (.slice qe l[k].exprs.length ce):=below_cle HBW.out _ _ (HCC.out _ _ a0.2.2.2.1)
   have HCALL:=hid (HCL.out k hk1 qt ct qe ce a0.2.2.2.2 wr HBW.out)
   clear a0
   generalize hpx:p l[k]=b at HCALL
   have HS0:=hid (fun h:b=false=>ix_step HK.out HT.out (hpx.trans h))
   have HS1:=hid (fun h:b=true=>ix_hit HK.out HT.out (hpx.trans h))
   clear hpx
   generalize l[k].targets.length=z0 at *
   generalize l[k].exprs.length=z1 at *
   generalize l[k].kind=z2 at *
   generalize l[k].name=z3 at *
   clear hk1
   have hki:(k:Int)<(n:Int):=by omega
   go_wp2_with fail
   refine HCALL.out.mono ?_
   rintro e w2 ⟨rfl,hbel⟩
   have HB3:=hid (bl_tr HBW.out hbel)
   clear hbel HCALL
   cases b
   ·have HT2:=hid (HS0.out rfl)
    go_wp2_with fail
    exact ⟨⟨k+1,by omega,by go_num,HB3,HT2⟩,by simp [intOf];omega⟩
   ·have HT2:=hid (HS1.out rfl)
    go_wp2_with fail
    go_ret
    exact ⟨by rw [HT2.out];rfl,HB3.out⟩
  ·have HT2:=hid (ix_no (fun j hj _=>HT.out j hj (by have:=HN.out;omega)))
   go_wp2
   go_ret
   exact ⟨by rw [HT2.out];rfl,HBW.out⟩
end
set_option maxRecDepth 100000 in
theorem mul64_one (n:Nat) (hn:n≤140737488355328) (w:World):Calls Tryz.prog 102 #[.int .u64 1,.int .u64 (n:Nat)] w fun e w'=>e=.returned (.tuple #[.int .u64 0,.int .u64 (n:Nat)])∧w=w':=by
 have e1:bits BinOp.and IntKind.u64 1 4294967295=1:=by
  have:=bits_and_u64_nat 1 4294967295 (by decide) (by decide)
  exact this
 have e2:bits BinOp.and IntKind.u64 (n:Int) 4294967295=((n % 4294967296:Nat):Int):=by
  have:=bits_and_u64_nat n 4294967295 (by omega) (by decide)
  rw [show n &&& 4294967295=n % 4294967296 from Nat.and_two_pow_sub_one_eq_mod n 32] at this
  exact this
 have e3:bits BinOp.and IntKind.u64 0 4294967295=0:=by
  have:=bits_and_u64_nat 0 4294967295 (by decide) (by decide)
  exact this
 have E1:=hid e1
 have E2:=hid e2
 have E3:=hid e3
 clear e1 e2 e3
 go_enter Tryz.func102,Tryz.ntmps102
 go_wp2
 go_ret2
 refine ⟨?_,rfl⟩
 have e4:IntKind.u64.wrap (IntKind.u64.wrap (1*((n % 4294967296:Nat):Int)) / 4294967296)=0:=by rw [IntKind.wrap_u64,IntKind.wrap_u64];omega
 have e5:IntKind.u64.wrap (0+IntKind.u64.wrap (1*((n:Int) / 4294967296))) / 4294967296=0:=by rw [IntKind.wrap_u64,IntKind.wrap_u64];omega
 have e6:IntKind.u64.wrap (IntKind.u64.wrap (1*((n % 4294967296:Nat):Int)) / 4294967296) / 4294967296=0:=by rw [e4];rfl
 rw [E1.out,E2.out,e6,e4,E3.out,e5]
 rfl
set_option maxRecDepth 100000 in
theorem mul_one (n:Nat) (hn:n≤140737488355328) (w:World):Calls Tryz.prog 52 #[.int .u64 1,.int .u64 (n:Nat)] w fun e w'=>e=.returned (.tuple #[.int .u64 0,.int .u64 (n:Nat)])∧w=w':=by
 have h1:=hid (mul64_one n hn w)
 go_enter Tryz.func52,Tryz.ntmps52
 go_wp2_with (go_at_call 102;refine h1.out.mono ?_;rintro e w' ⟨rfl,rfl⟩)
 go_ret2
 exact ⟨rfl,rfl⟩
def negs (n m:Nat):List Value:=List.replicate m (.int .i64 (-1))++List.replicate (n - m) (.int .i64 0)
theorem negs_len {n m:Nat} (h:m≤n):(negs n m).length=n:=by simp [negs];omega
theorem negs_splice {n m c:Nat} (_h:m+c≤n):splice (negs n m) m (List.replicate c (.int .i64 (-1)))=negs n (m+c):=by
 unfold splice negs
 rw [List.take_append_of_le_length (by simp),List.take_of_length_le (by simp),List.drop_append,List.drop_eq_nil_of_le (by simp),List.nil_append,List.drop_replicate,←List.append_assoc,List.replicate_append_replicate]
 congr 2
 simp
 omega
theorem mk_ints (n:Nat) (hn:n≤2199023255552) (w:World):(Instr.makeSlice 50 (.int .i64 (n:Int)) (.int .i64 (n:Int))).run Tryz.prog w=.ok (.slice (some ⟨w.heap.size,0,none⟩) n n) (w.alloc (.cells (negs n 0).toArray 3)):=by
 have h:=run_make_row' (P:=Tryz.prog) 50 3 (.int .i64 0) 8 (by kernel_rfl) (by kernel_rfl) rfl .i64 .i64 n (by omega) (by omega) w
 rw [h,show madeCells #[.int .i64 0] n=(negs n 0).toArray from by rw [←Array.toList_inj,toList_madeCells_one];simp [negs]]
def RepI (w:World) (n:Nat) (i:Value) (wr:World):Prop:=∃m:Nat,m≤n∧(n=0∨0<m)∧i=.int .i64 m∧Hid (wr.heap[w.heap.size]?=some (.cells (negs n m).toArray 3 (0,0)))∧Hid (Below w.heap.size w wr)
theorem stopAt {P:Program} {w:World} {ops:Array Oper} {rest:List Oper} {a:Act} {Q:Exit→Act→World→Prop} (n:Nat) {op:Op} {ty:TypeId} {pos:String} {after:Array Edge} {g:Option (Nat × Bool)} (h:Hid (wpList P ops Q (⟨some n,op,ty,pos,after,g⟩::rest) a w)):wpList P ops Q (⟨some n,op,ty,pos,after,g⟩::rest) a w:=h
set_option maxRecDepth 100000 in
set_option maxHeartbeats 1000000 in
theorem repeat_any (n:Nat) (hn:n≤2199023255552) (w:World) (g:Nat) (hg:w.cell? ⟨g,0,none⟩=some (.int .i64 (-1))):Calls Tryz.prog 27 #[.slice (some ⟨g,0,none⟩) 1 1,.int .i64 (n:Nat)] w fun e w'=>e=.returned (.slice (some ⟨w.heap.size,0,none⟩) n n)∧w'.heap[w.heap.size]?=some (.cells (negs n n).toArray 3 (0,0))∧Below w.heap.size w w':=by
 have HMU:=hid (mul_one n (by omega) w)
 have hmk:=mk_ints n hn w
 obtain ⟨W1,hW1⟩:∃W1,w.alloc (.cells (negs n 0).toArray 3)=W1:=⟨_,rfl⟩
 have HA:=hid (show W1.heap[w.heap.size]?=some (.cells (negs n 0).toArray 3 (0,0)) by rw [←hW1];exact World.alloc_heap_new w _)
 have HB:=hid (show Below w.heap.size w W1 by rw [←hW1];exact (Below.refl _ _).alloc (Nat.le_refl _) _)
 have HG:=hid (show W1.cell? ⟨g,0,none⟩=some (.int .i64 (-1)) by rw [←hW1];exact cell_kept hg (World.grownBy_alloc w _ none) (fun r e=>by cases e))
 rw [hW1] at hmk
 obtain ⟨c1,hc1⟩:∃c1,Nat.min 1 n=c1:=⟨_,rfl⟩
 have HC:=hid (show c1≤n∧(n=0∨0<c1)∧c1≤1 by rw [←hc1];simp only [Nat.min_def];split <;> omega)
 have HC2:=hid hc1
 clear hg hW1 hc1
 have hw1:IntKind.u64.wrap (n:Int)=n:=by rw [IntKind.wrap_u64];omega
 have hw2:IntKind.i64.wrap (n:Int)=n:=by rw [IntKind.wrap_i64];omega
 have hn0:¬((n:Int)<0):=by omega
 have hn1:¬(9223372036854775807<(n:Int)):=by omega
 go_enter Tryz.func27,Tryz.ntmps27
 go_wp2_with (first
  | (go_at_call 52;refine HMU.out.mono ?_;rintro e w' ⟨rfl,rfl⟩)
  | (with_reducible refine stopAt 33 ?_))
 show wpList _ _ _ _ _ _
 refine wpList_copy_splice rfl (.tmp 31) (.tmp 32) 50 50 rfl 3 (by kernel_rfl) (by kernel_rfl) (some ⟨w.heap.size, 0, none⟩) (some ⟨g, 0, none⟩) n n 1 1 rfl rfl w.heap.size 0 (negs n 0) 3 HA.out (List.replicate c1 (.int .i64 (-1))) (by rw [List.length_replicate]; exact HC2.out.symm) (fun _ => ⟨rfl, ⟨g, 0, none⟩, rfl, fun j v hv => by
       have hj:j<c1:=by have:=(List.getElem?_eq_some_iff.1 hv).1;simpa using this
       have hv':v=.int .i64 (-1):=by rw [List.getElem?_replicate,if_pos hj] at hv;exact (Option.some.inj hv).symm
       obtain rfl:j=0:=by have:=HC.out.2.2;omega
       rw [hv'];exact HG.out⟩) (by rw [List.length_replicate,negs_len (Nat.zero_le _)];have:=HC.out.1;omega) (by intro v hv;rw [List.eq_of_mem_replicate hv];rfl) w.heap.size w HB.out (Nat.le_refl _) ?_
 intro w2 hw2r hw2b
 have HR:=hid (show w2.heap[w.heap.size]?=some (.cells (negs n c1).toArray 3 (0,0)) by
  have h:=hw2r.out
  rw [negs_splice (by have:=HC.out.1;omega),Nat.zero_add] at h
  exact h)
 clear hw2r
 have HB2:=hid hw2b
 clear hw2b
 rw [List.length_replicate]
 go_wp2
 go_loopw [8] (RepI w n) (fun i _=>n - (intOf i).toNat)
 case atStart=>exact ⟨c1,HC.out.1,HC.out.2.1,rfl,HR,HB2⟩
 case round =>
  obtain ⟨m,hm,hm0,rfl,hR,hB⟩:=hrel
  by_cases hmn:m<n
  ·have hmn':(m:Int)<(n:Int):=by omega
   obtain ⟨c,hc⟩:∃c,Nat.min m (n - m)=c:=⟨_,rfl⟩
   have HC3:=hid (show c≤m∧c≤n - m∧0<c by rw [←hc];simp only [Nat.min_def];split <;> omega)
   have HC4:=hid (show (List.replicate c (Value.int .i64 (-1))).length=Nat.min m (n - m) by rw [List.length_replicate,hc])
   have HC5:=hid (show m+(List.replicate c (Value.int .i64 (-1))).length≤(negs n m).length by rw [List.length_replicate,negs_len hm];have:=HC3.out;omega)
   have HC6:=hid (show ∀v∈List.replicate c (Value.int .i64 (-1)),v.oneCell'=true by intro v hv;rw [List.eq_of_mem_replicate hv];rfl)
   have HC7:=hid (show ∀j v,(List.replicate c (Value.int .i64 (-1)))[j]?=some v→wr.drew.cell? ((⟨w.heap.size,0,none⟩:Addr).add j)=some v from fun j v hv=>by
    have hj:j<c:=by have:=(List.getElem?_eq_some_iff.1 hv).1;simpa using this
    have hv':v=.int .i64 (-1):=by rw [List.getElem?_replicate,if_pos hj] at hv;exact (Option.some.inj hv).symm
    have h1:=HC3.out.1
    rw [show ((⟨w.heap.size,0,none⟩:Addr).add j)=⟨w.heap.size,j,none⟩ from by simp [Addr.add];intro h;exact h.symm]
    refine cell_of (show wr.drew.heap[w.heap.size]?=_ from hR.out) ?_
    rw [hv',List.getElem?_toArray,negs,List.getElem?_append_left (by simp;omega),List.getElem?_replicate,if_pos (by omega)])
   have HR8:=hid (show wr.drew.heap[w.heap.size]?=_ from hR.out)
   have HB8:=hid (show Below w.heap.size w wr.drew from hB.out.drew)
   have e1:¬(n - m=0):=by omega
   have e4:¬n=m:=by omega
   have e2:(m:Int)≤(n:Int):=by omega
   have e3:¬((m:Int)<0):=by omega
   go_wp2
   go_region_law (refine step_copy_splice rfl (.tmp 41) (.tmp 44) 50 50 rfl 3 (by kernel_rfl) (by kernel_rfl) (some ⟨w.heap.size,m,none⟩) (some ⟨w.heap.size,0,none⟩) (n - m) (n - m) m n (by simp [Act.eval,Act.put]) (by simp [Act.eval,Act.put]) w.heap.size m (negs n m) 3 HR8.out (List.replicate c (.int .i64 (-1))) HC4.out (fun _=>⟨rfl,_,rfl,HC7.out⟩) HC5.out HC6.out w.heap.size w HB8.out (Nat.le_refl _) ?_;intro w3 hw3r hw3b)
   have HR9:=hid (show w3.heap[w.heap.size]?=some (.cells (negs n (m+c)).toArray 3 (0,0)) by
    have h:=hw3r.out
    rw [negs_splice (by have:=HC3.out;omega)] at h
    exact h)
   have HB9:=hid hw3b
   clear hw3r hw3b
   have hmw:IntKind.i64.wrap ((m:Int)+(c:Int))=(m:Int)+(c:Int):=by rw [IntKind.wrap_i64];have:=HC3.out;omega
   rw [hmw]
   go_wp2
   try simp only [Act.put]
   try simp
   exact ⟨⟨m+c,by have:=HC3.out;omega,by have:=HC3.out;omega,by go_num,HR9,HB9⟩,by have:=HC3.out;simp [intOf];omega⟩
  ·obtain rfl:m=n:=by omega
   go_wp2
   go_ret
   exact ⟨rfl,hR.out,hB.out⟩
theorem infoInt:∃i,Tryz.prog.info? 3=some i∧i.zero=some (.int .i64 0)∧i.size=1∧i.bytes=8:=by
 have h:(Tryz.prog.info? 3).map (fun i=>(i.zero,i.size,i.bytes))=some (some (.int .i64 0),1,8):=by kernel_rfl
 cases hi:Tryz.prog.info? 3 with
 | none=>rw [hi] at h;cases h
 | some i =>
  rw [hi] at h
  simp only [Option.map_some,Option.some.injEq,Prod.mk.injEq] at h
  exact ⟨i,rfl,h.1,h.2.1,h.2.2⟩
theorem und_ints:Tryz.prog.underlying 50=some (.slice 3):=by kernel_rfl
theorem ints_not_nil (ad:Addr) (n c:Nat) (w:World):(binOp .eql 50 (.slice (some ad) n c) (.slice none 0 0)).run Tryz.prog w=.ok (.bool false) w:=by kernel_rfl
theorem negs_all (n:Nat):negs n n=List.replicate n (.int .i64 (-1)):=by simp [negs]
set_option maxRecDepth 100000 in
set_option maxHeartbeats 1000000 in
theorem clone_ints (g n:Nat) (hn:n≤2199023255552) (w:World) (hg:w.heap[g]?=some (.cells (negs n n).toArray 3 (0,0))) :
 Calls Tryz.prog 28 #[.slice (some ⟨g,0,none⟩) n n] w fun e w'=>∃q c,e=.returned (.slice q n c)∧w'.ownsRow w.heap.size 3 1 (.slice q n c) n (negs n n)∧Below w.heap.size w w':=by
 obtain ⟨i2,h2,h3,h4,h5⟩:=infoInt
 have hq:=ints_not_nil ⟨g,0,none⟩ n n w
 have hon:∀v∈negs n n,v.oneCell'=true:=by intro v hv;rw [negs_all] at hv;rw [List.eq_of_mem_replicate hv];rfl
 have hll:(negs n n).length=n*1:=by rw [negs_len (Nat.le_refl _),Nat.mul_one]
 have hR0:=World.ownsRow_lit (base:=w.heap.size) (e:=3) (size:=1) w #[] 0 (Nat.le_refl _) (by unfold maxLen;omega) rfl
 have hB0:Below w.heap.size w (w.alloc (.cells #[] 3)):=(Below.refl _ w).alloc (Nat.le_refl _) _
 have hcl':∀(j:Nat) (u:Value),(negs n n)[j]?=some u→(w.alloc (.cells #[] 3)).cell? ((⟨g,0,none⟩:Addr).add j)=some u:=by
  intro j u h
  rw [show ((⟨g,0,none⟩:Addr).add j)=⟨g,j,none⟩ from by simp [Addr.add];intro h;exact h.symm]
  have hc:w.cell? ⟨g,j,none⟩=some u:=cell_of hg (by rw [List.getElem?_toArray];exact h)
  exact (hB0.cell (World.block_lt_of_cell? _ _ hc)).trans hc
 clear hg
 go_enter Tryz.func28,Tryz.ntmps28
 go_wp2_with (at_builtin;refine wpList_append_own _ rfl _ _ 50 rfl w.heap.size 3 i2 (.int .i64 0) 1 8 und_ints h2 h3 h4 h5 rfl (by omega) _ 0 [] rfl hR0 ⟨g,0,none⟩ n n (negs n n) rfl hll hcl' hon (by unfold maxLen;omega) (by omega) (by simp) ?_)
 intro v2 w2 hR2 hg2 _
 obtain ⟨q,c,rfl⟩:=own_shape hR2
 have hB2:Below w.heap.size w w2:=grown_below hB0 (by simp) hg2 (fun j hj=>(hR0.lt j hj).1)
 have HB2:=hid hB2
 clear hg2 hR0 hB0 hB2
 have HR:=hid hR2
 clear hR2
 go_wp2
 go_ret
 exact ⟨_,_,rfl,by simpa using HR.out,HB2.out⟩
end Go.Proofs.YtlpdjfimefjmcaaGreatDoor
namespace Go.Proofs.YtlpdjfimefjmcaaGreatDoor
open Go Go.RowKit Go.Proofs.Mm Go.Proofs.Syn
def iv (z:Int):Value:=.int .i64 z
def ivs (l:List Int):List Value:=l.map iv
def ops (l:List Nat):List Value:=l.reverse.map fun (t:Nat)=>Value.int .i64 (t:Int)
def BodyR (w:World) (q:Option Addr) (zs:List Int):Prop:=∀j z,zs[j]?=some z→∃g o s a1 n1 c1 a2 n2 c2,q=some ⟨g,o,none⟩∧w.cell? ⟨g,o+j*4,none⟩=some (.int .i64 z)∧w.cell? ⟨g,o+j*4+1,none⟩=some (.string s)∧w.cell? ⟨g,o+j*4+2,none⟩=some (.slice a1 n1 c1)∧w.cell? ⟨g,o+j*4+3,none⟩=some (.slice a2 n2 c2)
theorem BodyR.below {w w':World} {q:Option Addr} {zs:List Int} (h:BodyR w q zs) (hb:Below w.heap.size w w'):BodyR w' q zs:=by
 intro j z hz
 obtain ⟨g,o,s,a1,n1,c1,a2,n2,c2,h0,h1,h2,h3,h4⟩:=h j z hz
 have hlt:g<w.heap.size:=World.block_lt_of_cell? _ _ h1
 exact ⟨g,o,s,a1,n1,c1,a2,n2,c2,h0,(hb.cell hlt).trans h1,(hb.cell hlt).trans h2,(hb.cell hlt).trans h3,(hb.cell hlt).trans h4⟩
structure EnW (w:World) (H1 H2 H3 n:Nat) (W:World) (E L:List Int) (op:List Nat) (q5:Option Addr) (c5:Nat) (q6:Option Addr) (c6:Nat) (v7:Value):Prop where
 e:W.ownsRow H1 3 1 (.slice q5 n c5) n (ivs E)
 l:W.ownsRow H2 3 1 (.slice q6 n c6) n (ivs L)
 o:W.ownsRow H3 3 1 v7 op.length (ops op)
 b:Below w.heap.size w W
 h0:w.heap.size≤H1
 h1:H1≤H2
 h2:H2≤H3
 h3:H3≤W.heap.size
 be:∀k,(Value.slice q5 n c5).ownBlock=some k→k<H2
 bl:∀k,(Value.slice q6 n c6).ownBlock=some k→k<H3
section
variable {w:World} {H1 H2 H3 n:Nat} {W:World} {E L:List Int} {op:List Nat} {q5:Option Addr} {c5:Nat} {q6:Option Addr} {c6:Nat} {v7:Value}
theorem EnW.lenE (h:EnW w H1 H2 H3 n W E L op q5 c5 q6 c6 v7):E.length=n:=by have:=h.e.1;simpa [ivs] using this
theorem EnW.lenL (h:EnW w H1 H2 H3 n W E L op q5 c5 q6 c6 v7):L.length=n:=by have:=h.l.1;simpa [ivs] using this
theorem EnW.alloc (h:EnW w H1 H2 H3 n W E L op q5 c5 q6 c6 v7) (o:Obj):EnW w H1 H2 H3 n (W.alloc o) E L op q5 c5 q6 c6 v7 :=
 ⟨h.e.alloc o,h.l.alloc o,h.o.alloc o,h.b.alloc h.b.size o,h.h0,h.h1,h.h2,by rw [World.size_alloc];have:=h.h3;omega,h.be,h.bl⟩
theorem own_not_zero {V:World} {B e size m:Nat} {q:Option Addr} {c:Nat} {xs:List Value} (h:V.ownsRow B e size (.slice q m c) m xs) (hm:0<m):∃g,q=some ⟨g,0,none⟩∧B≤g∧g<V.heap.size:=by
 obtain ⟨g,cap,hv,hb,hlt⟩:=h.form hm
 injection hv with hv
 exact ⟨g,hv,hb,hlt⟩
theorem ivs_at {l:List Int} {t:Nat} (ht:t<l.length):(ivs l)[t]?=some (.int .i64 (gI l t)):=by
 unfold ivs
 rw [List.getElem?_map,gI_at ht];rfl
theorem EnW.eAt (h:EnW w H1 H2 H3 n W E L op q5 c5 q6 c6 v7) (t:Nat) (ht:t<n):∃g,q5=some ⟨g,0,none⟩∧H1≤g∧W.cell? ⟨g,t,none⟩=some (.int .i64 (gI E t))∧W.frozen? ⟨g,t,none⟩=false ∧
 ∀z:Int,EnW w H1 H2 H3 n (W.setCell ⟨g,t,none⟩ (.int .i64 z)) (E.set t z) L op q5 c5 q6 c6 v7:=by
 have hn:0<n:=by omega
 have he:=h.e
 obtain ⟨g,rfl,hb,hlt⟩:=own_not_zero he hn
 have hg2:g<H2:=h.be g rfl
 refine ⟨g,rfl,hb,by rw [he.cellAt t (by omega)];exact ivs_at (by rw [h.lenE];exact ht),he.frozenAt t,fun z=>?_⟩
 have hs:=(he.stored t (.int .i64 z))
 refine ⟨by rw [show ivs (E.set t z)=(ivs E).set t (.int .i64 z) from by unfold ivs;rw [List.map_set];rfl];exact hs.1,?_,?_,?_,h.h0,h.h1,h.h2,by simpa using h.h3,h.be,h.bl⟩
 ·refine h.l.kept hs.2 (.inr fun e=>?_)
  obtain ⟨a,_⟩:=h.l.lt g e
  omega
 ·refine h.o.kept hs.2 (.inr fun e=>?_)
  obtain ⟨a,_⟩:=h.o.lt g e
  have:=h.h2
  omega
 ·exact h.b.setCell (p:=⟨g,t,none⟩) (by have:=h.h0;show w.heap.size≤g;omega) _
theorem EnW.lAt (h:EnW w H1 H2 H3 n W E L op q5 c5 q6 c6 v7) (t:Nat) (ht:t<n):∃g,q6=some ⟨g,0,none⟩∧W.cell? ⟨g,t,none⟩=some (.int .i64 (gI L t))∧W.frozen? ⟨g,t,none⟩=false ∧
 ∀z:Int,EnW w H1 H2 H3 n (W.setCell ⟨g,t,none⟩ (.int .i64 z)) E (L.set t z) op q5 c5 q6 c6 v7:=by
 have hn:0<n:=by omega
 have he:=h.l
 obtain ⟨g,rfl,hb,hlt⟩:=own_not_zero he hn
 have hg2:g<H3:=h.bl g rfl
 refine ⟨g,rfl,by rw [he.cellAt t (by omega)];exact ivs_at (by rw [h.lenL];exact ht),he.frozenAt t,fun z=>?_⟩
 have hs:=(he.stored t (.int .i64 z))
 refine ⟨?_,by rw [show ivs (L.set t z)=(ivs L).set t (.int .i64 z) from by unfold ivs;rw [List.map_set];rfl];exact hs.1,?_,?_,h.h0,h.h1,h.h2,by simpa using h.h3,h.be,h.bl⟩
 ·refine h.e.kept hs.2 (.inr fun e=>?_)
  have:=h.be g e
  omega
 ·refine h.o.kept hs.2 (.inr fun e=>?_)
  obtain ⟨a,_⟩:=h.o.lt g e
  omega
 ·exact h.b.setCell (p:=⟨g,t,none⟩) (by have:=h.h0;have:=h.h1;show w.heap.size≤g;omega) _
theorem EnW.top {t:Nat} (h:EnW w H1 H2 H3 n W E L (t::op) q5 c5 q6 c6 v7):∃g c,v7=.slice (some ⟨g,0,none⟩) (op.length+1) c∧op.length≤c∧W.cell? ⟨g,op.length,none⟩=some (.int .i64 (t:Int)) ∧
 EnW w H1 H2 H3 n W E L op q5 c5 q6 c6 (.slice (some ⟨g,0,none⟩) op.length c):=by
 have ho:=h.o
 rcases ho.2 with ⟨_,h0⟩|⟨g,cap,cur,hv,hb,hg,h1,h2,h3,h4⟩
 ·simp at h0
 ·have hops:ops (t::op)=ops op++[.int .i64 (t:Int)]:=by simp [ops]
  have hlo:(ops op).length=op.length:=by simp [ops]
  subst hv
  simp only [List.length_cons] at ho h1 h4 ⊢
  refine ⟨g,cap,rfl,by omega,?_,h.e,h.l,⟨by rw [hlo,Nat.mul_one],.inr ⟨g,cap,cur,rfl,hb,hg,by omega,h2,h3,?_⟩⟩,h.b,h.h0,h.h1,h.h2,h.h3,h.be,h.bl⟩
  ·rw [ho.cellAt op.length (by omega),hops,List.getElem?_append_right (by omega),hlo,Nat.sub_self];rfl
  ·rw [hops] at h4
   have:=congrArg (List.take op.length) h4
   rw [List.take_take,Nat.min_eq_left (by omega),List.take_append_of_le_length (by omega),List.take_of_length_le (l:=ops op) (by omega)] at this
   rw [Nat.mul_one]
   exact this
theorem EnW.push (h:EnW w H1 H2 H3 n W E L op q5 c5 q6 c6 v7) {i:Nat} {v':Value} {w':World} (hw:w'.ownsRow H3 3 1 v' (op.length+1) (ops op++[.int .i64 (i:Int)])) (hg:W.grownBy w' v7.ownBlock):EnW w H1 H2 H3 n w' E L (i::op) q5 c5 q6 c6 v':=by
 have hol:=h.o.lt
 refine ⟨h.e.kept hg ?_,h.l.kept hg ?_,by simpa [ops] using hw,h.b.grown hg h.b.size (fun k hk=>by have:=(hol k hk).1;have:=h.h0;have:=h.h1;have:=h.h2;omega),h.h0,h.h1,h.h2,by have:=hg.size;have:=h.h3;omega,h.be,h.bl⟩
 ·cases hq:(Value.slice q5 n c5).ownBlock with
  | none=>exact .inl rfl
  | some k =>
   refine .inr fun e=>?_
   have a:=h.be k hq
   have b:=(hol k e.symm).1
   have:=h.h2
   omega
 ·cases hq:(Value.slice q6 n c6).ownBlock with
  | none=>exact .inl rfl
  | some k =>
   refine .inr fun e=>?_
   have a:=h.bl k hq
   have b:=(hol k e.symm).1
   omega
end
theorem ivs_negs (n:Nat):ivs (List.replicate n (-1))=negs n n:=by rw [negs_all];unfold ivs;rw [List.map_replicate];rfl
def EndsR (w:World) (n:Nat) (e:Ending) (w':World):Option (List Int × List Int)→Prop
 | none=>e=.returned (.tuple #[.slice none 0 0,.slice none 0 0,.bool false])
 | some (es,ls)=>∃q5 c5 q6 c6 H,e=.returned (.tuple #[.slice q5 n c5,.slice q6 n c6,.bool true])∧w'.ownsRow w.heap.size 3 1 (.slice q5 n c5) n (ivs es)∧w'.ownsRow w.heap.size 3 1 (.slice q6 n c6) n (ivs ls) ∧
  (∀k,(Value.slice q5 n c5).ownBlock=some k→k<H)∧(∀k,(Value.slice q6 n c6).ownBlock=some k→H≤k)
theorem EnW.start {w w2 w3:World} {n:Nat} (hn:n≤2199023255552) (h2:w2.heap[w.heap.size+1]?=some (.cells (negs n n).toArray 3 (0,0))) (b2:Below (w.heap.size+1) (w.alloc (.cells #[.int .i64 (-1)] 3)) w2)
 {q:Option Addr} {c:Nat} (h3:w3.ownsRow w2.heap.size 3 1 (.slice q n c) n (negs n n)) (b3:Below w2.heap.size w2 w3) :
 EnW w (w.heap.size+1) w2.heap.size w3.heap.size n w3 (List.replicate n (-1)) (List.replicate n (-1)) [] (some ⟨w.heap.size+1,0,none⟩) n q c (.slice none 0 0):=by
 have hlt:w.heap.size+1<w2.heap.size:=by
  rcases Nat.lt_or_ge (w.heap.size+1) w2.heap.size with h|h
  ·exact h
  ·rw [Array.getElem?_eq_none h] at h2;cases h2
 have hl:(negs n n).length=n:=negs_len (Nat.le_refl _)
 refine ⟨⟨by simp [ivs],.inr ⟨w.heap.size+1,n,(negs n n).toArray,rfl,Nat.le_refl _,?_,Nat.le_refl _,by unfold maxLen;omega,by simp [hl],?_⟩⟩,by rw [ivs_negs];exact h3,World.ownsRow_nil _ _ _ _,?_,by omega,by omega,b3.size,Nat.le_refl _,?_,?_⟩
 ·rw [b3.block _ hlt];exact h2
 ·rw [ivs_negs];exact List.take_of_length_le (by simp [hl])
 ·exact (((Below.refl _ w).alloc (Nat.le_refl _) _).trans (b2.mono (by omega))).trans (b3.mono (by omega))
 ·intro k hk
  injection hk with hk
  subst hk
  exact hlt
 ·intro k hk
  exact (h3.lt k hk).2
theorem own_mono {V:World} {B B' e size m:Nat} {v:Value} {xs:List Value} (h:V.ownsRow B e size v m xs) (hb:B'≤B):V.ownsRow B' e size v m xs:=by
 refine ⟨h.1,?_⟩
 rcases h.2 with h|⟨g,cap,cur,h1,h2,h3⟩
 ·exact .inl h
 ·exact .inr ⟨g,cap,cur,h1,Nat.le_trans hb h2,h3⟩
section
variable {w:World} {H1 H2 H3 n:Nat} {W:World} {E L:List Int} {op:List Nat} {c5:Nat} {q6:Option Addr} {c6:Nat} {g5 g7 c7 t:Nat}
theorem EnW.pop {q5:Option Addr} (h:EnW w H1 H2 H3 n W E L (t::op) q5 c5 q6 c6 (.slice (some ⟨g7,0,none⟩) (op.length+1) c7)):EnW w H1 H2 H3 n W E L op q5 c5 q6 c6 (.slice (some ⟨g7,0,none⟩) op.length c7):=by
 obtain ⟨g,c,e,_,_,h'⟩:=h.top
 injection e with e1 _ e2
 injection e1 with e1
 injection e1 with e1
 subst e1 e2
 exact h'
theorem EnW.setE {v7:Value} (h:EnW w H1 H2 H3 n W E L op (some ⟨g5,0,none⟩) c5 q6 c6 v7) (t:Nat) (ht:t<n) (z:Int):EnW w H1 H2 H3 n (W.setCell ⟨g5,t,none⟩ (.int .i64 z)) (E.set t z) L op (some ⟨g5,0,none⟩) c5 q6 c6 v7:=by
 obtain ⟨g,e,_,_,_,h'⟩:=h.eAt t ht
 injection e with e
 injection e with e
 subst e
 exact h' z
theorem EnW.close1 (h:EnW w H1 H2 H3 n W E L (t::op) (some ⟨g5,0,none⟩) c5 q6 c6 (.slice (some ⟨g7,0,none⟩) (op.length+1) c7)) (ht:t<n) (i:Nat) (hl:gI L t<0) :
 EnW w H1 H2 H3 n (W.setCell ⟨g5,t,none⟩ (.int .i64 (i:Nat))) (closeP E L t i) L op (some ⟨g5,0,none⟩) c5 q6 c6 (.slice (some ⟨g7,0,none⟩) op.length c7):=by
 unfold closeP
 rw [if_neg (by omega)]
 exact (h.setE t ht i).pop
theorem EnW.close2 (h:EnW w H1 H2 H3 n W E L (t::op) (some ⟨g5,0,none⟩) c5 q6 c6 (.slice (some ⟨g7,0,none⟩) (op.length+1) c7)) (ht:t<n) (i:Nat) {u:Nat} (hu:u<n) (hl:gI L t=(u:Int)) :
 EnW w H1 H2 H3 n ((W.setCell ⟨g5,t,none⟩ (.int .i64 (i:Nat))).setCell ⟨g5,u,none⟩ (.int .i64 (i:Nat))) (closeP E L t i) L op (some ⟨g5,0,none⟩) c5 q6 c6 (.slice (some ⟨g7,0,none⟩) op.length c7):=by
 unfold closeP
 rw [if_pos (by omega),hl]
 exact ((h.setE t ht i).setE u hu i).pop
end
def EndI (w:World) (H1 H2 H3 n:Nat) (ks:List Nat) (q5:Option Addr) (c5:Nat) (q6:Option Addr) (c6:Nat) (v7 iV:Value) (wr:World):Prop :=
 ∃i op E L es,i≤n∧iV=.int .i64 (i:Nat)∧Hid (EnW w H1 H2 H3 n wr E L op q5 c5 q6 c6 v7)∧Hid (EI ks i op E L es)∧Hid (goP ks (ks.drop i) i op E L=endsM ks)
theorem drop_at {ks:List Nat} {i k:Nat} (hk:ks[i]?=some k):ks.drop i=k::ks.drop (i+1):=by
 obtain ⟨h,e⟩:=List.getElem?_eq_some_iff.1 hk
 rw [List.drop_eq_getElem_cons h,e]
theorem goP_push {ks:List Nat} {i k:Nat} {op:List Nat} {E L:List Int} {r:Option (List Int × List Int)} (hk:ks[i]?=some k) (h57:k=5∨k=7) (h:goP ks (ks.drop i) i op E L=r):goP ks (ks.drop (i+1)) (i+1) (i::op) E L=r:=by
 rw [drop_at hk,goP_cons,if_pos h57] at h;exact h
theorem goP_else {ks:List Nat} {i t:Nat} {op:List Nat} {E L:List Int} {r:Option (List Int × List Int)} (hk:ks[i]?=some 6) (ht:ks[t]?=some 5) (hl:gI L t<0) (h:goP ks (ks.drop i) i (t::op) E L=r):goP ks (ks.drop (i+1)) (i+1) (t::op) E (L.set t i)=r:=by
 rw [drop_at hk,goP_cons,if_neg (by omega),if_pos rfl] at h
 simp only [if_pos (And.intro ht hl)] at h
 exact h
theorem goP_else_bad {ks:List Nat} {i:Nat} {op:List Nat} {E L:List Int} {r:Option (List Int × List Int)} (hk:ks[i]?=some 6) (hb:∀t op',op=t::op'→¬(ks[t]?=some 5∧gI L t<0)) (h:goP ks (ks.drop i) i op E L=r):r=none:=by
 rw [drop_at hk,goP_cons,if_neg (by omega),if_pos rfl] at h
 cases op with
 | nil=>exact h.symm
 | cons t op =>
  simp only [if_neg (hb t op rfl)] at h
  exact h.symm
theorem goP_end {ks:List Nat} {i t:Nat} {op:List Nat} {E L:List Int} {r:Option (List Int × List Int)} (hk:ks[i]?=some 8) (h:goP ks (ks.drop i) i (t::op) E L=r):goP ks (ks.drop (i+1)) (i+1) op (closeP E L t i) L=r:=by
 rw [drop_at hk,goP_cons,if_neg (by omega),if_neg (by omega),if_pos rfl] at h
 exact h
theorem goP_end_bad {ks:List Nat} {i:Nat} {E L:List Int} {r:Option (List Int × List Int)} (hk:ks[i]?=some 8) (h:goP ks (ks.drop i) i [] E L=r):r=none:=by
 rw [drop_at hk,goP_cons,if_neg (by omega),if_neg (by omega),if_pos rfl] at h
 exact h.symm
theorem goP_skip {ks:List Nat} {i k:Nat} {op:List Nat} {E L:List Int} {r:Option (List Int × List Int)} (hk:ks[i]?=some k) (h5:k≠5) (h6:k≠6) (h7:k≠7) (h8:k≠8) (h:goP ks (ks.drop i) i op E L=r):goP ks (ks.drop (i+1)) (i+1) op E L=r:=by
 rw [drop_at hk,goP_cons,if_neg (by omega),if_neg h6,if_neg h8] at h
 exact h
theorem goP_done {ks:List Nat} {op:List Nat} {E L:List Int} {r:Option (List Int × List Int)} (h:goP ks (ks.drop ks.length) ks.length op E L=r):r=if op=[] then some (E,L) else none:=by
 rw [List.drop_length,goP_nil] at h
 exact h.symm
set_option maxRecDepth 100000 in
set_option maxHeartbeats 4000000 in
theorem ends_any {w:World} {q:Option Addr} {c n:Nat} (zs:List Int) (hn:zs.length=n) (hb:BodyR w q zs) (hmax:n≤2199023255552) :
 Calls Tryz.prog 12 #[.slice q n c] w fun e w'=>Below w.heap.size w w'∧EndsR w n e w' (endsM (zs.map Int.toNat)):=by
 have HN:=hid hn
 have HR:=hid (repeat_any n hmax (w.alloc (.cells #[.int .i64 (-1)] 3)) w.heap.size (cell_of (World.alloc_heap_new w _) rfl))
 have HB:=hid hb
 obtain ⟨ks,hks⟩:∃ks,zs.map Int.toNat=ks:=⟨_,rfl⟩
 rw [hks]
 have HK:=hid hks
 clear hn hb hks
 go_enter Tryz.func12,Tryz.ntmps12
 go_wp2_with fail
 go_at_call 27
 refine HR.out.mono ?_
 rintro e w2 ⟨rfl,r1,r2⟩
 rw [World.size_alloc] at r1 r2
 have HC:=hid (clone_ints (w.heap.size+1) n hmax w2 r1)
 have HR1:=hid r1
 have HR2:=hid r2
 clear r1 r2
 go_wp2_with fail
 go_at_call 28
 refine HC.out.mono ?_
 rintro e w3 ⟨q6,c6,rfl,r3,r4⟩
 have H0:=hid (EnW.start hmax HR1.out HR2.out r3 r4)
 clear r3 r4
 go_wp2_with fail
 have HKL:=hid (show ks.length=n by rw [←HK.out,List.length_map];exact HN.out)
 generalize hH1:w.heap.size+1=H1 at *
 obtain ⟨H2,hH2⟩:∃H2,w2.heap.size=H2:=⟨_,rfl⟩
 obtain ⟨H3,hH3⟩:∃H3,w3.heap.size=H3:=⟨_,rfl⟩
 rw [hH2,hH3] at H0
 obtain ⟨q5,hq5⟩:∃q5,(some (⟨H1,0,none⟩:Addr))=q5:=⟨_,rfl⟩
 rw [hq5] at H0 ⊢
 clear hH2 hH3 HR1 HR2 HC hH1 hq5 HR
 go_loopw [7,21] (EndI w H1 H2 H3 n ks q5 n q6 c6) (fun _ i _=>n - (intOf i).toNat)
 case atStart=>exact ⟨0,[],_,_,_,Nat.zero_le _,rfl,H0,hid (HKL.out ▸ EI.start ks),hid (by have:=goP_ends ks;rw [HKL.out] at this;exact this)⟩
 case round =>
  obtain ⟨i,op,E,L,es,hi,rfl,HE,HI,HG⟩:=hrel
  clear H0
  by_cases hlt:i<n
  ·have hii:(i:Int)<(n:Int):=by omega
   obtain ⟨z,hz⟩:∃z,zs[i]?=some z:=⟨_,List.getElem?_eq_getElem (by rw [HN.out];exact hlt)⟩
   have HZ:=hid (show ks[i]?=some z.toNat by rw [←HK.out,List.getElem?_map,hz];rfl)
   obtain ⟨g,o,s,a1,n1,k1,a2,n2,k2,rfl,b0,b1,b2,b3⟩:=(HB.out.below HE.out.b) i z hz
   have hglt:g<wr.heap.size:=World.block_lt_of_cell? _ _ b0
   obtain ⟨q7,c7,rfl⟩:=own_shape HE.out.o
   clear hz
   have hlen:=HI.out.len
   by_cases h57:z=5∨z=7
   ·obtain ⟨i0,hi0,hz0,hz1,hz2⟩:=infoInt
    have hrow:=HE.out.o
    have hone:∀u∈[Value.int .i64 (i:Nat)],u.oneCell'=true:=by intro u hu;rw [List.mem_singleton.1 hu];rfl
    have HPU:=hid (HI.out.push (by rw [HKL.out];exact hlt) (by rw [HZ.out];rcases h57 with rfl|rfl <;> simp))
    have HGU:=hid (goP_push HZ.out (by rcases h57 with rfl|rfl <;> simp) HG.out)
    have h3:=HE.out.h3
    have hnew:∀o:Obj,∀(j:Nat) (u:Value),[Value.int .i64 (i:Nat)][j]?=some u→((wr.alloc o).alloc (.cells #[.int .i64 (i:Nat)] 3)).cell? ((⟨wr.heap.size+1,0,none⟩:Addr).add j)=some u:=fun o=>by
     have h:=row_new (wr.alloc o) [.int .i64 (i:Nat)] 3
     rw [World.size_alloc] at h
     exact h
    rcases h57 with rfl|rfl
    all_goals
     go_wp2_with (at_builtin;refine wpList_append_own_at _ rfl _ _ 50 rfl H3 3 i0 _ 1 8 und_ints hi0 hz0 hz1 hz2 rfl (by decide) _ _ _ rfl ((hrow.alloc _).alloc _) ⟨wr.heap.size+1,0,none⟩ 1 1 [.int .i64 (i:Nat)] rfl rfl (hnew _) hone (by unfold maxLen;omega) (by omega) (by simp;omega) ?_)
     intro v9 w9 hown9 hgrow9 _ _
     obtain ⟨q9,c9,rfl⟩:=own_shape hown9
     have HE9:=hid (((HE.out.alloc _).alloc _).push hown9 hgrow9)
     clear hown9 hgrow9
     go_wp2_with fail
     exact ⟨⟨i+1,i::op,E,L,es,by omega,by go_num,HE9,HPU,HGU⟩,by simp [intOf];omega⟩
   by_cases h68:z=6∨z=8
   ·rcases h68 with rfl|rfl
    ·cases op with
     | nil =>
      have HGU:=hid (goP_else_bad HZ.out (fun t op' e=>by cases e) HG.out)
      go_wp2_with fail
      go_ret3
      refine ⟨HE.out.b.alloc HE.out.b.size _,?_⟩
      rw [HGU.out]
      rfl
     | cons t op =>
      obtain ⟨g7,c7',hv7,hc7,htop,_⟩:=HE.out.top
      have htn:t<n:=by have:=(HI.out.lt t (by simp)).1;omega
      obtain ⟨g5,rfl,hb5,he,hef,_⟩:=HE.out.eAt t htn
      obtain ⟨g6,rfl,hl,hlf,hls⟩:=HE.out.lAt t htn
      have HS:=hid hls
      clear hls
      injection hv7 with hv7 _ hv8
      subst hv7 hv8
      have hg7:g7<wr.heap.size:=World.block_lt_of_cell? _ _ htop
      have hg6:g6<wr.heap.size:=World.block_lt_of_cell? _ _ hl
      have htn':(t:Int)<(n:Int):=by omega
      obtain ⟨zt,hzt⟩:∃z,zs[t]?=some z:=⟨_,List.getElem?_eq_getElem (by rw [HN.out];exact htn)⟩
      have HZT:=hid (show ks[t]?=some zt.toNat by rw [←HK.out,List.getElem?_map,hzt];rfl)
      obtain ⟨g',o',s',x1,x2,x3,y1,y2,y3,hq,d0,_,_,_⟩:=(HB.out.below HE.out.b) t zt hzt
      obtain ⟨rfl,rfl⟩:g=g'∧o=o':=by injection hq with hq;injection hq with hq1 hq2;exact ⟨hq1,hq2⟩
      clear hq
      clear hzt
      by_cases h5:zt=5
      ·subst h5
       by_cases hu:0≤gI L t
       ·have HGU:=hid (goP_else_bad HZ.out (fun t' op' e c=>by injection e with e1 e2;subst e1;have:=c.2;omega) HG.out)
        go_wp2_with fail
        go_ret3
        refine ⟨HE.out.b.alloc HE.out.b.size _,?_⟩
        rw [HGU.out]
        rfl
       ·have hu1:gI L t<0:=by omega
        have HGU:=hid (goP_else HZ.out HZT.out hu1 HG.out)
        have HPU:=hid (HI.out.put (by rw [HKL.out];exact hlt) HZ.out HZT.out hu1)
        go_wp2_with fail
        exact ⟨⟨i+1,t::op,E,_,es,by omega,by go_num,hid ((HS.out i).alloc _),HPU,HGU⟩,by simp [intOf];omega⟩
      ·have HGU:=hid (goP_else_bad HZ.out (fun t' op' e c=>by
        injection e with e1 e2;subst e1
        have h:=c.1
        rw [HZT.out] at h
        injection h with h
        omega) HG.out)
       have e5:(zt == 5)=false:=by simp;omega
       have e5':(zt != 5)=true:=by simp;omega
       go_wp2_with fail
       go_ret3
       refine ⟨HE.out.b.alloc HE.out.b.size _,?_⟩
       rw [HGU.out]
       rfl
    ·cases op with
     | nil =>
      have HGU:=hid (goP_end_bad HZ.out HG.out)
      go_wp2_with fail
      go_ret3
      refine ⟨HE.out.b.alloc HE.out.b.size _,?_⟩
      rw [HGU.out]
      rfl
     | cons t op =>
      have HGU:=hid (goP_end HZ.out HG.out)
      have HPU:=hid (HI.out.pop (by rw [HKL.out];exact hlt))
      obtain ⟨g7,c7',hv7,hc7,htop,_⟩:=HE.out.top
      have htn:t<n:=by have:=(HI.out.lt t (by simp)).1;omega
      obtain ⟨g5,rfl,hb5,he,hef,_⟩:=HE.out.eAt t htn
      obtain ⟨g6,rfl,hl,hlf,_⟩:=HE.out.lAt t htn
      injection hv7 with hv7 _ hv8
      subst hv7 hv8
      have hg7:g7<wr.heap.size:=World.block_lt_of_cell? _ _ htop
      have hg5:g5<wr.heap.size:=World.block_lt_of_cell? _ _ he
      have hg6:g6<wr.heap.size:=World.block_lt_of_cell? _ _ hl
      have hn1:¬g6=g5:=by
       have h1:=HE.out.be g5 rfl
       have h2:=(HE.out.l.lt g6 rfl).1
       omega
      have htn':(t:Int)<(n:Int):=by omega
      by_cases hu:0≤gI L t
      ·have hel:=HI.out.els t hu
       obtain ⟨u,hu'⟩:∃u:Nat,gI L t=(u:Int):=⟨_,(Int.toNat_of_nonneg hu).symm⟩
       have hun:u<n:=by have:=hel.1;rw [hu'] at this;omega
       have hut:¬u=t:=by
        rintro rfl
        have h1:=hel.2.1
        rw [hu'] at h1
        have h2:=hel.2.2.1
        rw [show ((u:Int)).toNat=u from by omega,h2] at h1
        cases h1
       have hun':(u:Int)<(n:Int):=by omega
       obtain ⟨g5',hq,_,he2,hef2,_⟩:=HE.out.eAt u hun
       injection hq with hq
       injection hq with hq
       subst hq
       have HC2:=hid (HE.out.close2 htn i hun hu')
       rw [hu'] at hl
       have hu0:(0:Int)≤(u:Int):=by omega
       clear hel hu hu'
       go_wp2_with fail
       exact ⟨⟨i+1,op,_,L,_,by omega,by go_num,hid (HC2.out.alloc _),HPU,HGU⟩,by simp [intOf];omega⟩
      ·have hu1:gI L t<0:=by omega
       have HC2:=hid (HE.out.close1 htn i hu1)
       go_wp2_with fail
       exact ⟨⟨i+1,op,_,L,_,by omega,by go_num,hid (HC2.out.alloc _),HPU,HGU⟩,by simp [intOf];omega⟩
   ·have h6:¬z=6:=fun e=>h68 (.inl e)
    have h8:¬z=8:=fun e=>h68 (.inr e)
    have e5:(z == 5)=false:=by simp;omega
    have e6:(z == 6)=false:=by simp;omega
    have e7:(z == 7)=false:=by simp;omega
    have e8:(z == 8)=false:=by simp;omega
    have HPU:=hid (HI.out.skip (by rw [HKL.out];exact hlt))
    have HGU:=hid (goP_skip HZ.out (by omega) (by omega) (by omega) (by omega) HG.out)
    go_wp2_with fail
    exact ⟨⟨i+1,op,E,L,es,by omega,by go_num,hid (HE.out.alloc _),HPU,HGU⟩,by simp [intOf];omega⟩
  ·obtain rfl:i=n:=by omega
   have hg:=HG.out
   rw [←HKL.out] at hg
   have HD:=hid (goP_done hg)
   clear hg
   obtain ⟨q7,c7,rfl⟩:=own_shape HE.out.o
   cases op with
   | nil =>
    go_wp2_with fail
    go_ret3
    refine ⟨HE.out.b,?_⟩
    rw [show endsM ks=some (E,L) from by rw [HD.out];simp]
    exact ⟨q5,i,q6,c6,H2,rfl,own_mono HE.out.e HE.out.h0,own_mono HE.out.l (by have:=HE.out.h0;have:=HE.out.h1;omega),HE.out.be,fun k hk=>(HE.out.l.lt k hk).1⟩
   | cons t op =>
    go_wp2_with fail
    go_ret3
    refine ⟨HE.out.b,?_⟩
    rw [HD.out,if_neg (by simp)]
    rfl
end Go.Proofs.YtlpdjfimefjmcaaGreatDoor
namespace Go.Proofs.YtlpdjfimefjmcaaGreatDoor
open Go Go.RowKit Go.Proofs.Mm
section
variable {lt:Bool} {C:Cl} {W:World} {q:Option Addr} {c:Nat}
set_option maxRecDepth 100000 in
set_option maxHeartbeats 2000000 in
theorem deepest_p (l:List StZ) (hl:l.length≤2199023255552) (hrow:StAt lt C q l) (hC:CLe C (wC W)):Calls Tryz.prog 86 #[.slice q l.length c] W (RetB (.int .i64 (deepZ l 0 0)) W):=by
 have HA:=hid hrow
 have HCC:=hid hC
 obtain ⟨n,hn⟩:∃n,l.length=n:=⟨_,rfl⟩
 have HN:=hid hn
 rw [hn] at hl ⊢
 clear hrow hC hn
 have HR:=hid (show deepZ l 0 0=deepZ (l.drop 0) 0 0 from rfl)
 generalize deepZ l 0 0=R at *
 go_enter Tryz.func86,Tryz.ntmps86
 go_wp2
 go_loopw [3,4,9] (fun a b i wr=>∃k:Nat,∃d m:Int,k≤n∧i=.int .i64 k∧a=.int .i64 d∧b=.int .i64 m∧-(k:Int)≤d∧d≤k∧0≤m∧m≤k∧Hid (Below W.heap.size W wr)∧Hid (R=deepZ (l.drop k) d m)) (fun _ _ i _=>n - (intOf i).toNat)
 case atStart=>exact ⟨0,0,0,Nat.zero_le _,rfl,rfl,rfl,by omega,by omega,by omega,by omega,hid (Below.refl _ _),HR⟩
 case round =>
  obtain ⟨k,d,m,hk,rfl,rfl,rfl,hd1,hd2,hm1,hm2,HB,HT⟩:=hrel
  by_cases hlt:k<n
  ·have hk1:k<l.length:=by rw [HN.out];exact hlt
   obtain ⟨g,o,qt,ct,qe,ce,rfl,a0,a1,a2,a3,-⟩:=HA.out k hk1
   have e0:=below_cle HB.out _ _ (HCC.out _ _ a0)
   have e1:=below_cle HB.out _ _ (HCC.out _ _ a1)
   have e2:=below_cle HB.out _ _ (HCC.out _ _ a2)
   have e3:=below_cle HB.out _ _ (HCC.out _ _ a3)
   unfold wC at e0 e1 e2 e3
   have HD:=hid (HT.out.trans (by rw [drop_next hk1]))
   clear a0 a1 a2 a3 HT
   generalize l[k]=x at *
   obtain ⟨kd,nm,ts,es⟩:=x
   simp only at e0 e1 e2 e3
   generalize ts.length=nt at *
   generalize es.length=ne at *
   have hki:(k:Int)<(n:Int):=by omega
   have hg:g<wr.heap.size:=cell_lt e0
   clear hk1
   have HB2:=hid (show Below W.heap.size W (wr.alloc (.cells #[.int .i64 kd,.string nm,.slice qt nt ct,.slice qe ne ce] 47)) from bl_al HB.out _)
   by_cases h57:kd=5∨kd=7
   ·have HX:=hid (show R=deepZ (l.drop (k+1)) (d+1) (max m (d+1)) by rw [HD.out,deepZ];exact if_pos h57)
    rcases h57 with rfl|rfl
    all_goals
     go_wp2
     have hmx:(if m<d+1 then d+1 else m)=max m (d+1):=by split <;> omega
     exact ⟨⟨k+1,d+1,max m (d+1),by omega,by go_num,rfl,by rw [hmx],by omega,by omega,by omega,by omega,HB2,HX⟩,by simp [intOf];omega⟩
   ·have e5:(kd == 5)=false:=by rw [beq_eq_false_iff_ne];omega
    have e7:(kd == 7)=false:=by rw [beq_eq_false_iff_ne];omega
    by_cases h8:kd=8
    ·have HX:=hid (show R=deepZ (l.drop (k+1)) (d - 1) m by rw [HD.out,deepZ];rw [if_neg h57,if_pos h8])
     subst h8
     clear h57
     go_wp2
     exact ⟨⟨k+1,d - 1,m,by omega,by go_num,by first|rfl|(congr 1;omega),rfl,by omega,by omega,by omega,by omega,HB2,HX⟩,by simp [intOf];omega⟩
    ·have e8:(kd == 8)=false:=by rw [beq_eq_false_iff_ne];omega
     have HX:=hid (show R=deepZ (l.drop (k+1)) d m by rw [HD.out,deepZ];rw [if_neg h57,if_neg h8])
     clear h57 h8
     go_wp2
     exact ⟨⟨k+1,d,m,by omega,by go_num,rfl,rfl,by omega,by omega,by omega,by omega,HB2,HX⟩,by simp [intOf];omega⟩
  ·have hk':k=n:=by omega
   subst hk'
   have HX:=hid (show R=m by rw [HT.out,List.drop_of_length_le (by rw [HN.out];exact Nat.le_refl _)];rfl)
   go_wp2
   go_ret
   exact ⟨by rw [HX.out];rfl,HB.out⟩
set_option maxRecDepth 100000 in
theorem isRet_p (kd:Int) (nm:ByteArray) (qt:Option Addr) (nt ct:Nat) (qe:Option Addr) (ne ce:Nat) (W:World):Calls Tryz.prog 128 #[.agg #[.int .i64 kd,.string nm,.slice qt nt ct,.slice qe ne ce]] W (RetB (.bool (kd == 9)) W):=by
 go_enter Tryz.func128,Tryz.ntmps128
 go_wp2
 go_ret
 exact ⟨rfl,bl_al (Below.refl _ _) _⟩
set_option maxRecDepth 100000 in
theorem endsOnce_p (l:List StZ) (hl:l.length≤2199023255552) (hrow:StAt lt C q l) (hC:CLe C (wC W)):Calls Tryz.prog 87 #[.slice q l.length c] W (RetB (.bool (onceZ l)) W):=by
 have ek:Ent 128:=ent_of Tryz.func128 (by kernel_rfl) rfl
 have HI:=hid (ixSt_p (c:=c) (by omega) hrow hC ek (ca:=#[]) (fun x=>x.kind == 9) (fun k hk qt ct qe ce _ w' _=>isRet_p _ _ _ _ _ _ _ _ w'))
 have HO:=hid (show onceZ l=match l.findIdx? fun x=>x.kind == 9 with | some k=>k+1 == l.length | none=>false from rfl)
 have HK:=hid (fun k (h:l.findIdx? (fun x=>x.kind == 9)=some k)=>show k<l.length from (List.findIdx?_eq_some_iff_getElem.1 h).1)
 clear hrow hC ek
 generalize onceZ l=R at *
 generalize l.length=n at *
 generalize l.findIdx? (fun x=>x.kind == 9)=X at *
 cases X with
 | none =>
  have HR:=hid (show R=false from HO.out)
  have ix1:ixI none=-1:=rfl
  rw [ix1] at HI
  go_enter Tryz.func87,Tryz.ntmps87
  go_wp2_with fail
  go_at_call 127
  refine HI.out.mono ?_
  rintro e w1 ⟨rfl,hb⟩
  go_wp2
  go_ret
  exact ⟨ret_bool HR.out.symm,hb⟩
 | some k =>
  have HR:=hid (show R=(k+1 == n) from HO.out)
  have hkn:=HK.out k rfl
  have ix1:ixI (some k)=(k:Int):=rfl
  have hk0:(0:Int)≤(k:Int):=by omega
  rw [ix1] at HI
  go_enter Tryz.func87,Tryz.ntmps87
  go_wp2_with fail
  go_at_call 127
  refine HI.out.mono ?_
  rintro e w1 ⟨rfl,hb⟩
  go_wp2
  go_ret
  exact ⟨ret_bool (by rw [HR.out,Bool.eq_iff_iff];simp;omega),hb⟩
def nstZ (zs:List Int):Bool:=(Syn.endsM (zs.map Int.toNat)).isSome
theorem StAt.body {w:World} {l:List StZ} (h:StAt lt C q l) (hC:CLe C (wC w)):BodyR w q (l.map StZ.kind):=by
 intro j z hz
 rw [List.getElem?_map] at hz
 obtain ⟨x,hx,rfl⟩:=Option.map_eq_some_iff.1 hz
 obtain ⟨hj,rfl⟩:=List.getElem?_eq_some_iff.1 hx
 obtain ⟨g,o,qt,ct,qe,ce,e,a0,a1,a2,a3,-⟩:=h j hj
 exact ⟨g,o,_,_,_,_,_,_,_,e,hC _ _ a0,hC _ _ a1,hC _ _ a2,hC _ _ a3⟩
def blkE (b:List StZ):Nat:=unl (nstZ (b.map StZ.kind) && decide (deepZ b 0 0≤12) && onceZ b) 50
set_option maxRecDepth 100000 in
set_option maxHeartbeats 2000000 in
theorem blocksC_p (l:List StZ) (hl:l.length≤2199023255552) (b:Nat) (h0:W.cell? ⟨b,0,none⟩=some (.slice q l.length c)) (hrow:StAt lt C q l) (hC:CLe C (wC W)) :
 Calls Tryz.prog 85 #[.pointer (some ⟨b,0,none⟩)] W (RetB (.int .i64 ((blkE l:Nat):Int)) W):=by
 have HE:=hid (ends_any (w:=W) (c:=c) (l.map StZ.kind) (by rw [List.length_map]) (hrow.body hC) hl)
 have HD:=hid (fun (w:World) (hb:Below W.heap.size W w)=>deepest_p (W:=w) (c:=c) l hl hrow (hC.trans (below_cle hb)))
 have HO:=hid (fun (w:World) (hb:Below W.heap.size W w)=>endsOnce_p (W:=w) (c:=c) l hl hrow (hC.trans (below_cle hb)))
 have HB:=hid (show blkE l=unl (nstZ (l.map StZ.kind) && decide (deepZ l 0 0≤12) && onceZ l) 50 from rfl)
 unfold nstZ at HB
 clear hrow hC
 generalize Syn.endsM ((l.map StZ.kind).map Int.toNat)=X at *
 generalize blkE l=E at *
 generalize deepZ l 0 0=dp at *
 generalize onceZ l=r at *
 generalize l.length=n at *
 cases X with
 | none =>
  have HB2:=hid (show E=50 by rw [HB.out];rfl)
  go_enter Tryz.func85,Tryz.ntmps85
  go_wp2_with fail
  go_at_call 12
  refine HE.out.mono ?_
  rintro e w1 ⟨hb,hr⟩
  obtain rfl:e=_:=hr
  have HB1:=hid hb
  clear hb
  go_wp2_with (go_at_call 78;refine (unless_p _ _ _).mono ?_;rintro e w2 ⟨rfl,rfl⟩)
  go_ret
  exact ⟨by rw [HB2.out];rfl,HB1.out⟩
 | some p =>
  obtain ⟨es,ls⟩:=p
  have k0:=h0
  go_enter Tryz.func85,Tryz.ntmps85
  go_wp2_with fail
  go_at_call 12
  refine HE.out.mono ?_
  rintro e w1 ⟨hb,hr⟩
  obtain ⟨q5,c5,q6,c6,H,rfl,-⟩:=hr
  have HB1:=hid hb
  have h1:=cell_b h0 hb
  clear hb
  go_wp2_with fail
  go_at_call 86
  refine (HD.out _ HB1.out).mono ?_
  rintro e w2 ⟨rfl,hb2⟩
  have HB2:=hid (bl_tr HB1.out hb2)
  have h2:=cell_b h1 hb2
  clear hb2
  by_cases h12:dp≤12
  ·go_wp2_with fail
   go_at_call 87
   refine (HO.out _ HB2.out).mono ?_
   rintro e w3 ⟨rfl,hb3⟩
   have HB3:=hid (bl_tr HB2.out hb3)
   clear hb3
   cases r
   all_goals
    go_wp2_with (go_at_call 78;refine (unless_p _ _ _).mono ?_;rintro e w2 ⟨rfl,rfl⟩)
    go_ret
    exact ⟨by rw [HB.out,decide_eq_true h12];rfl,HB3.out⟩
  ·go_wp2_with (go_at_call 78;refine (unless_p _ _ _).mono ?_;rintro e w2 ⟨rfl,rfl⟩)
   go_ret
   exact ⟨by rw [HB.out,decide_eq_false (by omega)];simp [unl],HB2.out⟩
set_option maxRecDepth 100000 in
theorem blocks_p (l:List StZ) (hl:l.length≤2199023255552) (hrow:StAt lt C q l) (hC:CLe C (wC W)) :
 Calls Tryz.prog 41 #[.slice q l.length c] W (Makes (.int .i64 ((blkE l:Nat):Int)) W):=by
 have hmf:∀(fn:Fn) (first cap:Array Value) (w:World),(Instr.makeFunc fn first cap).run Tryz.prog w=.ok (.func fn first cap) w:=fun _ _ _ _=>rfl
 have ek:Ent 85:=ent_of Tryz.func85 (by kernel_rfl) rfl
 have HM:=hid (fun (w':World) (hW:Below W.heap.size W w') (h:w'.cell? ⟨W.heap.size,0,none⟩=some (.slice q l.length c)) w hb=>blocksC_p (W:=w) l hl W.heap.size (cell_b h hb) hrow (hC.trans (below_cle (bl_tr hW hb))))
 generalize blkE l=E at *
 generalize l.length=n at *
 clear hrow hC
 go_enter Tryz.func41,Tryz.ntmps41
 go_wp2
 go_ret
 exact Makes.mk (bl_al (Below.refl _ _) _) ek (fun w hb=>HM.out _ (bl_al (Below.refl _ _) _) (new_cell _ _ _) w hb)
end
end Go.Proofs.YtlpdjfimefjmcaaGreatDoor
