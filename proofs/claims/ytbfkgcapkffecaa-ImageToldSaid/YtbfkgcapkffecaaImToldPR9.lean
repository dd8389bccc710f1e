/- Plain: with one byte another one, one less or one more, an image is none. ApartBytes of the statements' kit, of two lists that lie apart: what it goes by; in every memory. ImageTold: the law's walk. -/
import Derived.Test.YtbfkgcapkffecaaImToldPR8
import Derived.Test.YtbfkgcapkffecaaImToldPR3
import Derived.OneCell
import Derived.Deep.DeepCutAuto
import Derived.Deep.CutBlock
namespace Go.Proofs.Ytbfkgcapkffecaa
open Go Go.RowKit Go.Proofs.Mm Go.Sort
theorem mulP_inj {a b:Nat} (ha:a<W64) (hb:b<W64) (h:a * 1099511628211 % W64=b * 1099511628211 % W64):a=b:=by
  have key:∀ x,x<W64→(x * 1099511628211 % W64) * 14886173955864302971 % W64=x:=by
    intro x hx
    rw [Nat.mod_mul_mod,Nat.mul_assoc,Nat.mul_mod,show 1099511628211 * 14886173955864302971 % W64=1 from by decide,Nat.mul_one,Nat.mod_mod,Nat.mod_eq_of_lt hx]
  have h2:(a * 1099511628211 % W64) * 14886173955864302971 % W64=(b * 1099511628211 % W64) * 14886173955864302971 % W64:=by rw [h]
  rw [key a ha,key b hb] at h2
  exact h2
theorem xor_lt {n x:Nat} (hn:n<W64) (hx:x<256):n ^^^ x<W64:=by
  have:n ^^^ x<2 ^ 64:=Nat.xor_lt_two_pow (by unfold W64 at hn;omega) (by omega)
  unfold W64
  omega
theorem xor_left {a b c:Nat} (h:a ^^^ b=a ^^^ c):b=c:=by
  have:=congrArg (fun z=>a ^^^ z) h
  simp only [← Nat.xor_assoc,Nat.xor_self,Nat.zero_xor] at this
  exact this
theorem xor_right {a b c:Nat} (h:a ^^^ c=b ^^^ c):a=b:=by
  have:=congrArg (fun z=>z ^^^ c) h
  simp only [Nat.xor_assoc,Nat.xor_self,Nat.xor_zero] at this
  exact this
theorem sumF_inj:∀ {l:List Nat} {a b:Nat},bytesL l→a<W64→b<W64→sumF a l=sumF b l→a=b
  | [],_,_,_,_,_,h=>h
  | x :: l,a,b,hl,ha,hb,h=>by
    have hx:x<256:=hl x (by simp)
    rw [sumF,sumF] at h
    have h2:=sumF_inj (fun y hy=>hl y (by simp [hy])) (Nat.mod_lt _ (by decide)) (Nat.mod_lt _ (by decide)) h
    exact xor_right (mulP_inj (xor_lt ha hx) (xor_lt hb hx) h2)
theorem sum_set {l:List Nat} {k y:Nat} (hl:bytesL l) (hk:k<l.length) (hy:y<256) (h:sumF sum0 (l.set k y)=sumF sum0 l):y=l[k]:=by
  have e1:l=l.take k++l[k] :: l.drop (k+1):=by rw [List.getElem_cons_drop,List.take_append_drop]
  have e2:l.set k y=l.take k++y :: l.drop (k+1):=by rw [List.set_eq_take_append_cons_drop,if_pos hk]
  have hT:=sumF_lt sum0 sum0_lt (l.take k)
  rw [e2] at h
  have h3:sumF sum0 (l.take k++y :: l.drop (k+1))=sumF sum0 (l.take k++l[k] :: l.drop (k+1)):=by rw [← e1];exact h
  rw [sumF_append,sumF_append,sumF,sumF] at h3
  have h4:=sumF_inj (bytesL_drop hl (k+1)) (Nat.mod_lt _ (by decide)) (Nat.mod_lt _ (by decide)) h3
  exact xor_left (mulP_inj (xor_lt hT hy) (xor_lt hT (hl _ (List.getElem_mem hk))) h4)
theorem seal_inj {l l':List Nat} (h:sealF l=sealF l'):sumF sum0 l=sumF sum0 l':=by
  have h1:=sumF_lt sum0 sum0_lt l
  have h2:=sumF_lt sum0 sum0_lt l'
  unfold sealF at h
  generalize sumF sum0 l=a at *
  generalize sumF sum0 l'=b at *
  simp [List.range_succ] at h
  unfold W64 at h1 h2
  omega
theorem app_len {a b c d:List Nat} (h:a++b=c++d) (hl:b.length=d.length):a=c∧b=d:=by
  have:=congrArg List.length h
  rw [List.length_append,List.length_append] at this
  exact List.append_inj h (by omega)
theorem told_turn {m:MoM} {k y:Nat} (hk:k<(imF m).length) (hy:y<256) (hne:y ≠ (imF m)[k]):∀ mo,¬ imgOf ((imF m).set k y) mo:=by
  intro mo h
  obtain ⟨_,he,_⟩:=img_is h
  have hlen:=congrArg List.length he
  rw [List.length_set,imF_len,imF_len] at hlen
  by_cases hkF:k<(moF m).length
  · have e1:(imF m).set k y=(moF m).set k y++sealF (moF m):=by unfold imF;rw [List.set_append,if_pos hkF]
    rw [e1] at he
    unfold imF at he
    obtain ⟨f1,f2⟩:=app_len he (by rw [sealF_len,sealF_len])
    have f3:=seal_inj f2
    rw [f1] at f3
    have f4:=sum_set (moF_bytes m) hkF hy f3
    apply hne
    have f5:(imF m)[k]?=some ((moF m)[k]):=by unfold imF;rw [List.getElem?_append_left hkF,List.getElem?_eq_getElem hkF]
    rw [List.getElem?_eq_getElem hk] at f5
    injection f5 with f5
    rw [f4,f5]
  · have e1:(imF m).set k y=moF m++(sealF (moF m)).set (k - (moF m).length) y:=by unfold imF;rw [List.set_append,if_neg hkF]
    rw [e1] at he
    unfold imF at he
    obtain ⟨f1,f2⟩:=app_len he (by rw [List.length_set,sealF_len,sealF_len])
    rw [f1] at f2
    have hk8:k - (moF m).length<(sealF (moF m)).length:=by rw [sealF_len];rw [imF_len] at hk;omega
    have f3:(sealF (moF m))[k - (moF m).length]?=some y:=by rw [f2];simp [hk8]
    apply hne
    have f4:(imF m)[k]?=some y:=by unfold imF;rw [List.getElem?_append_right (by omega)];exact f3
    rw [List.getElem?_eq_getElem hk] at f4
    injection f4 with f4
    exact f4.symm
section
variable {m:MoM} (hw:moW m) (hC:WC m)
include hw hC
theorem told_less:∀ mo,¬ imgOf ((imF m).take ((imF m).length - 1)) mo:=by
  intro mo h
  obtain ⟨hP,he,_⟩:=img_is h
  have hlen:=congrArg List.length he
  rw [List.length_take,imF_len,imF_len] at hlen
  have hF:moF mo=(moF m).take ((moF m).length - 1):=by
    have h2:=congrArg (List.take (moF mo).length) he
    unfold imF at h2
    rw [List.take_left,List.take_take,List.take_append_of_le_length (by omega)] at h2
    rw [h2]
    congr 1
    rw [List.length_append,sealF_len]
    omega
  have hpos:4≤(bdF m).length:=by
    have hall:∀ n,0<(putU n).length:=fun n=>List.length_pos_iff.2 (putU_ne n)
    unfold bdF listF
    simp only [List.length_append]
    have:=hall m.globals.length
    have:=hall m.arrays.length
    have:=hall m.channels.length
    have:=hall m.funcs.length
    omega
  have hB:bdF mo=(bdF m).take ((bdF m).length - 1):=by
    unfold moF at hF
    rw [List.length_append,show headF.length=4 from rfl,List.take_append,show headF.length=4 from rfl,List.take_of_length_le (by rw [show headF.length=4 from rfl];omega)] at hF
    have:=List.append_cancel_left hF
    rw [this]
    congr 1
    omega
  have hS:bdF m=bdF mo++[(bdF m)[(bdF m).length - 1]]:=by
    rw [hB]
    conv=>lhs;rw [← List.take_append_drop ((bdF m).length - 1) (bdF m)]
    congr 1
    rw [List.drop_eq_getElem_cons (by omega)]
    congr 1
    exact List.drop_eq_nil_of_le (by omega)
  have r1:=rt_mo m [] (moP_of hw hC.1)
  have r2:=rt_mo mo [(bdF m)[(bdF m).length - 1]] hP
  rw [List.append_nil,hS] at r1
  rw [r2] at r1
  injection r1 with r1
  injection r1 with _ r1
  cases r1
theorem told_more (t:Nat):∀ mo,¬ imgOf (imF m++[t]) mo:=by
  intro mo h
  obtain ⟨hP,he,_⟩:=img_is h
  have hlen:=congrArg List.length he
  rw [List.length_append,imF_len,imF_len,List.length_singleton] at hlen
  obtain ⟨s0,S,hs⟩:∃ s0 S,sealF (moF m)=s0 :: S:=by
    cases hh:sealF (moF m) with
    | nil=>have:=sealF_len (moF m);rw [hh] at this;cases this
    | cons a b=>exact ⟨a,b,rfl⟩
  have hS7:S.length=7:=by have:=sealF_len (moF m);rw [hs] at this;simpa using this
  have hF:moF mo=moF m++[s0]:=by
    unfold imF at he
    rw [hs] at he
    have e2:moF m++s0 :: S++[t]=(moF m++[s0])++(S++[t]):=by simp
    rw [e2] at he
    exact (app_len he (by rw [sealF_len,List.length_append,hS7];rfl)).1
  have hB:bdF mo=bdF m++[s0]:=by
    unfold moF at hF
    rw [List.append_assoc] at hF
    exact List.append_cancel_left hF
  have r1:=rt_mo m [s0] (moP_of hw hC.1)
  have r2:=rt_mo mo [] hP
  rw [List.append_nil,hB,r1] at r2
  injection r2 with r2
  injection r2 with _ r2
  cases r2
end
end Go.Proofs.Ytbfkgcapkffecaa
namespace Go.Proofs.Ytbfkgcapkffecaa
open Go Go.RowKit
structure But (R:Nat) (w w':World):Prop where
  os:w'.os=w.os
  tape:w'.tape=w.tape
  output:w'.output=w.output
  size:w.heap.size≤w'.heap.size
  block:∀ k,k<w.heap.size→k ≠ R→w'.heap[k]?=w.heap[k]?
theorem But.of_below {R:Nat} {w w':World} (h:Below w.heap.size w w'):But R w w':=⟨h.os,h.tape,h.output,h.size,fun k hk _=>h.block k hk⟩
theorem But.trans {R:Nat} {a b c:World} (h:But R a b) (k:But R b c):But R a c :=
  ⟨k.os.trans h.os,k.tape.trans h.tape,k.output.trans h.output,Nat.le_trans h.size k.size,fun i hi hne=>(k.block i (Nat.lt_of_lt_of_le hi h.size) hne).trans (h.block i hi hne)⟩
theorem But.set {R:Nat} (w:World) (o:Nat) (u:Value):But R w (w.setCell ⟨R,o,none⟩ u) :=
  ⟨rfl,rfl,rfl,by simp [World.setCell],fun k _ hk=>Below.heap_setCell _ _ _ _ hk⟩
theorem But.low {R B:Nat} {w w':World} (h:But R w w') (hB:B≤w.heap.size) (hR:B≤R):Below B w w' :=
  ⟨h.os,h.tape,h.output,h.size,fun k hk=>h.block k (by omega) (by omega)⟩
theorem But.cell {R:Nat} {w w':World} {a:Addr} {v:Value} (h:But R w w') (hc:w.cell? a=some v) (hne:a.block ≠ R):w'.cell? a=some v :=
  (World.cell?_of_block (h.block a.block (World.block_lt_of_cell? _ _ hc) hne)).trans hc
theorem bv_set (l:List Nat) (k x:Nat):bv (l.set k x)=(bv l).set k (.int .u8 (x:Int)):=by simp [bv]
theorem OwnB.stored {B g n c:Nat} {w:World} {l:List Nat} (h:OwnB B w (.slice (some ⟨g,0,none⟩) n c) l) (hn:n=l.length) (k x:Nat):OwnB B (w.setCell ⟨g,k,none⟩ (.int .u8 (x:Int))) (.slice (some ⟨g,0,none⟩) n c) (l.set k x):=by
  subst hn
  have:=(World.ownsRow.stored h k (.int .u8 (x:Int))).1
  unfold OwnB
  rw [List.length_set,bv_set]
  exact this
theorem OwnB.block {B g n c:Nat} {w:World} {l:List Nat} (h:OwnB B w (.slice (some ⟨g,0,none⟩) n c) l):∃ cur,w.heap[g]?=some (.cells cur 5 (0,0))∧B≤g∧n≤c∧c≤maxLen∧g<w.heap.size:=by
  rcases h.2 with ⟨h2,_⟩ | ⟨g',cap',cur,hv,hg',hh,h3,h4,_⟩
  · simp at h2
  · simp only [Value.slice.injEq,Option.some.injEq,Addr.mk.injEq,and_true] at hv
    obtain ⟨rfl,rfl,rfl⟩:=hv
    exact ⟨cur,hh,hg',h3,h4,lt_of_block hh⟩
theorem OwnB.at {B g n c:Nat} {w:World} {l:List Nat} (h:OwnB B w (.slice (some ⟨g,0,none⟩) n c) l) (hn:n=l.length) (k:Nat) (hk:k<n):w.cell? ⟨g,k,none⟩=some (.int .u8 ((l.getD k 0:Nat):Int))∧w.frozen? ⟨g,k,none⟩=false:=by
  subst hn
  exact ⟨own_cell h k hk,World.ownsRow.frozenAt h k⟩
end Go.Proofs.Ytbfkgcapkffecaa
namespace Go.Proofs.Ytbfkgcapkffecaa
open Go Go.RowKit Go.Proofs.Mm Go.Sort
theorem wpList_row {ops:Array Oper} {rest:List Oper} {o:Oper} {a:Act} {Q:Exit→Act→World→Prop} {w:World} (hgd:o.guard=none) (s x:Operand)
    (ho:o.op=.call { callee:=.builtin .append,args:=#[s,x],argTypes:=#[28,28] })
    (B:Nat) (v:Value) (l:List Nat) (hs:a.eval s=v) (hown:RowW B w v l)
    (ad:Addr) (c:Nat) (news:List Nat) (hne:0<news.length) (hx:a.eval x=.slice (some ad) news.length c) (hnews:∀ j u,(bv news)[j]?=some u→w.cell? (ad.add j)=some u)
    (hb:l.length+news.length≤140737488355328) (hbase:B≤w.heap.size)
    (h:∀ v' w',OwnB B w' v' (l++news)→w.grownBy w' v.ownBlock→wpList Try.prog ops Q rest (a.put o.dst v') w'):wpList Try.prog ops Q (o :: rest) a w:=by
  obtain ⟨v',w',hr,r1,r2⟩:=run_append_row w B o.type v l hown ad c news hne hnews hb hbase
  refine wpList_plain hgd fun K hK=>?_
  unfold Oper.wp execOp
  simp only [ho,resolve,invoke,builtin,Sem.run_bind,Sem.run_pure,Result.andThen_ok,List.map_toArray,List.map_cons,List.map_nil,hs,hx,hr]
  exact hK _ _ (h v' w' r1 r2)
theorem empty_full (w:World):FullW w.heap.size (w.alloc (.cells #[] 5)) (.slice (some ⟨w.heap.size,0,none⟩) 0 0) []:=⟨w.heap.size,#[],(0,0),rfl,Nat.le_refl _,heap_alloc_new _ _,rfl⟩
theorem u8_wf' {n:Int} (h:(Lit.int .u8 n).wf=true):0≤n∧n<256:=by
  simp [Lit.wf,IntKind.min,IntKind.max,IntKind.signed,IntKind.bits] at h
  omega
section
variable {w:World}
set_option maxRecDepth 100000 in
set_option maxHeartbeats 8000000 in
theorem told_law {v:Value} {m:MoM} (h:MoR false (wC w) v m) (hf:moW m) (pos t:Int) (hpw:(Lit.int .i64 pos).wf=true) (htw:(Lit.int .u8 t).wf=true) :
    Calls Try.prog 8 #[v,.int .i64 pos,.int .u8 t] w fun e w'=>e=.returned (.bool true)∧Below w.heap.size w w':=by
  obtain ⟨a1,n1,d1,a2,n2,d2,a3,n3,d3,a4,n4,d4,rfl,h⟩:=h.form
  have hp64:=wf_64 hpw
  have ht8:=u8_wf' htw
  have HF:=Lib.hid hf
  have HB0:=Lib.hid (show Below w.heap.size w (w.alloc (.cells #[.slice a1 n1 d1,.slice a2 n2 d2,.slice a3 n3 d3,.slice a4 n4 d4] 26)) from bl_al (Below.refl _ _) _)
  have HW:=Lib.hid (Write_any (h.le (below_cle HB0.out)) hf)
  clear h hf hpw htw
  go_enter Try.func8,Try.ntmps8
  go_wp2_with fail
  refine HW.out.mono ?_
  rintro e w1 hw1
  clear HW
  by_cases hC:WC m
  · obtain ⟨g,cp,rfl,hO,hc1,hc2,hb⟩:=hw1.yes hC
    have HB1:=Lib.hid (bl_tr HB0.out hb)
    by_cases ht0:t=0
    · subst ht0
      clear hb hO hw1 hc1 hc2 HB0
      go_wp2_with (go_at_call 16;refine (awake_any _).mono ?_;rintro e w7 ⟨rfl,hb⟩)
      all_goals
        have HB7:=Lib.hid (bl_tr HB1.out hb)
        go_ret
        exact ⟨rfl,HB7.out⟩
    · have HO1:=Lib.hid hO
      have HCC:=Lib.hid hC
      obtain ⟨L,hL⟩:∃ L,(imF m).length=L:=⟨_,rfl⟩
      have HL:=Lib.hid hL
      have hL16:16≤L∧L≤262144:=by
        have:(moF m).length=4+(bdF m).length:=by unfold moF;rw [List.length_append];rfl
        have h4:4≤(bdF m).length:=by
          have hall:∀ n,0<(putU n).length:=fun n=>List.length_pos_iff.2 (putU_ne n)
          unfold bdF listF
          simp only [List.length_append]
          have:=hall m.globals.length
          have:=hall m.arrays.length
          have:=hall m.channels.length
          have:=hall m.funcs.length
          omega
        have:=imF_len m
        have:=hC.2
        omega
      rw [hL] at HO1 hc1 ⊢
      clear hb hO hw1 HB0 hL hC
      go_wp2_with fail
      refine (awake_any _).mono ?_
      rintro e w2 ⟨rfl,hb⟩
      have HO2:=Lib.hid (OwnB.stay (show OwnB w.heap.size w1 (.slice (some ⟨g,0,none⟩) L cp) (imF m) from HO1.out.base (by simp)) hb)
      have HB2:=Lib.hid (bl_tr HB1.out hb)
      clear hb HO1
      go_upto_region 6 with (fail)
      have hLp:(0:Int)<(L:Int):=by omega
      have hr1:=Int.tmod_lt_of_pos pos hLp
      have hr2:=Int.lt_tmod_of_pos pos hLp
      generalize pos.tmod (L:Int)=r at *
      obtain ⟨tn,rfl⟩:∃ tn:Nat,t=tn:=⟨t.toNat,by omega⟩
      have ht0:¬ tn=0:=by omega
      have ht8:tn<256:=by omega
      by_cases hr:r<0
      · obtain ⟨k,hkr⟩:∃ k:Nat,r+(L:Int)=k:=⟨(r+L).toNat,by omega⟩
        have hkL:k<L:=by omega
        have hk':k<(imF m).length:=by rw [HL.out];exact hkL
        obtain ⟨x,hxx⟩:∃ x,(imF m).getD k 0=x:=⟨_,rfl⟩
        have hx8:x<256:=by rw [← hxx];exact bytesL_at (imF_bytes m) k
        have hxor:=u8_xor_nat x tn hx8 ht8
        have hy8:x ^^^ tn<256:=by
          have:x ^^^ tn<2 ^ 8:=Nat.xor_lt_two_pow (by omega) (by omega)
          omega
        have HT1:=Lib.hid (told_turn (m:=m) (k:=k) (y:=x ^^^ tn) hk' hy8 (by
          intro e
          apply ht0
          have e2:(imF m)[k]=x:=by rw [← hxx,List.getD_eq_getElem?_getD,List.getElem?_eq_getElem hk'];rfl
          rw [e2] at e
          have:x ^^^ (x ^^^ tn)=x ^^^ x:=by rw [e]
          rw [← Nat.xor_assoc,Nat.xor_self,Nat.zero_xor] at this
          exact this))
        generalize hy:x ^^^ tn=y at *
        have HXX:=Lib.hid hxx
        have hcl:=by_cells ((HO2.out.stay (bl_al (Below.refl _ _) (.cells #[] 5))).in)
        have hrw:RowW w2.heap.size (w2.alloc (.cells #[] 5)) (.slice (some ⟨w2.heap.size,0,none⟩) 0 0) []:=.inr (empty_full w2)
        clear hxx hy
        go_wp2_with (at_builtin;refine wpList_row rfl _ _ rfl w2.heap.size _ [] rfl hrw ⟨g,0,none⟩ cp (imF m) (by omega) (by rw [HL.out];rfl) hcl (by rw [HL.out];simp;omega) (by simp) ?_)
        intro v3 w3 hO3 hg3
        have hO3:OwnB w2.heap.size w3 v3 (imF m):=hO3
        have hb3:Below w2.heap.size w2 w3:=(bl_al (Below.refl _ _) _).trans (below_own hg3 (by simp) (fun j hj=>by have h9:w2.heap.size=j:=(by simpa [Value.ownBlock] using hj);omega))
        obtain ⟨g3,c3,rfl,hg3'⟩:=row_form hO3 (by omega)
        obtain ⟨hcap1,hcap2⟩:=row_cap hO3
        rw [HL.out] at hO3 hcap1 ⊢
        obtain ⟨k1,k2⟩:=OwnB.at hO3 HL.out.symm k hkL
        rw [HXX.out] at k1
        have hO4:=OwnB.stored hO3 HL.out.symm k y
        have hb4:Below w2.heap.size w2 (w3.setCell ⟨g3,k,none⟩ (.int .u8 (y:Int))):=hb3.setCell hg3' _
        have HR1:=Lib.hid (Read_any (w:=w3.setCell ⟨g3,k,none⟩ (.int .u8 (y:Int))) (q:=some ⟨g3,0,none⟩) (c:=c3) ((imF m).set k y) hO4.in (fun z hz=>by
          rcases List.mem_or_eq_of_mem_set hz with h | h
          · exact imF_bytes m z h
          · omega) (by rw [List.length_set,HL.out];exact hcap1) hcap2 (m0:=fun _=>none) (fun _ _ h=>by cases h))
        rw [List.length_set,HL.out] at HR1
        have HB4:=Lib.hid hb4
        have hki2:(k:Int)<(L:Int):=by omega
        clear hO3 hb3 hO4 hb4 hg3 hrw hcl hg3' hcap1
        go_wp2_with fail
        refine HR1.out.mono ?_
        rintro e w5 ⟨hb,⟨mo,_,_,him,_⟩ | ⟨_,rfl⟩⟩
        · exact absurd him (HT1.out mo)
        have HB5:=Lib.hid (bl_tr HB4.out hb)
        obtain ⟨er1,her1⟩:∃ er,errR ((imF m).set k y)=er:=⟨_,rfl⟩
        have hn1:¬ (er1:Int)=0:=by have:=errR_ne ((imF m).set k y);omega
        rw [her1]
        unfold zeroMo
        clear hb her1 k1 k2 HR1
        have HB6:=Lib.hid (bl_al HB5.out (.cells #[.slice none 0 0,.slice none 0 0,.slice none 0 0,.slice none 0 0] 26))
        have HR2:=Lib.hid (Read_any (w:=w5.alloc (.cells #[.slice none 0 0,.slice none 0 0,.slice none 0 0,.slice none 0 0] 26)) (q:=some ⟨g,0,none⟩) (c:=cp) ((imF m).take (L - 1)) (((HO2.out.stay HB6.out).in).take _) (bytesL_take (imF_bytes m) _) (by rw [List.length_take,HL.out];omega) hc2 (m0:=fun _=>none) (fun _ _ h=>by cases h))
        have hl1:((imF m).take (L - 1)).length=L - 1:=by rw [List.length_take,HL.out];omega
        obtain ⟨L1,hL1⟩:∃ L1,L - 1=L1:=⟨_,rfl⟩
        have hL1i:(L:Int) - 1=(L1:Int):=by omega
        have hL1c:(L1:Int)≤(cp:Int):=by omega
        rw [hl1,hL1] at HR2
        have HT2:=Lib.hid (show ∀ mo,¬ imgOf ((imF m).take L1) mo from by have:=told_less HF.out HCC.out;rw [HL.out,hL1] at this;exact this)
        have hcp0:¬ cp=0:=by omega
        clear hl1 hL1
        go_wp2_with fail
        refine HR2.out.mono ?_
        rintro e w6 ⟨hb,⟨mo,_,_,him,_⟩ | ⟨_,rfl⟩⟩
        · exact absurd him (HT2.out mo)
        have HB7:=Lib.hid (bl_al (bl_tr HB6.out hb) (.cells #[.slice none 0 0,.slice none 0 0,.slice none 0 0,.slice none 0 0] 26))
        obtain ⟨er2,her2⟩:∃ er,errR ((imF m).take L1)=er:=⟨_,rfl⟩
        have hn2:¬ (er2:Int)=0:=by have:=errR_ne ((imF m).take L1);omega
        rw [her2]
        unfold zeroMo
        clear hb her2 HR2
        have HBW:=Lib.hid (bl_tr HB2.out HB7.out)
        have hcl:=by_cells ((HO2.out.stay (bl_al HB7.out (.cells #[] 5))).in)
        have hrw:RowW (w6.heap.size+1) ((w6.alloc (.cells #[.slice none 0 0,.slice none 0 0,.slice none 0 0,.slice none 0 0] 26)).alloc (.cells #[] 5)) (.slice (some ⟨w6.heap.size+1,0,none⟩) 0 0) []:=by
          have:=empty_full (w6.alloc (.cells #[.slice none 0 0,.slice none 0 0,.slice none 0 0,.slice none 0 0] 26))
          rw [World.size_alloc] at this
          exact .inr this
        go_wp2_with (at_builtin;refine wpList_row rfl _ _ rfl (w6.heap.size+1) _ [] rfl hrw ⟨g,0,none⟩ cp (imF m) (by omega) (by rw [HL.out];rfl) hcl (by rw [HL.out];simp;omega) (by simp) ?_)
        intro v8 w8 hO8 hg8
        have hO8:OwnB (w6.heap.size+1) w8 v8 (imF m):=hO8
        have hw6:=HBW.out.size
        rw [World.size_alloc] at hw6
        have hb8:Below w.heap.size w w8:=(bl_al HBW.out _).trans (below_own hg8 (by simp;omega) (fun j hj=>by have h9:w6.heap.size+1=j:=(by simpa [Value.ownBlock] using hj);omega))
        obtain ⟨g8,c8,rfl,hg8'⟩:=row_form hO8 (by omega)
        have hA8:=hO8.alloc (.cells #[.int .u8 (tn:Int)] 5)
        rw [HL.out] at hA8 ⊢
        have hb8s:=hb8.size
        have hw68:=hg8.size
        simp only [World.size_alloc] at hw68
        have HB8:=Lib.hid hb8
        clear hO8 hb8 hg8 hrw hcl
        have q1:(imF m).length+[tn].length≤140737488355328:=by rw [HL.out,List.length_singleton];omega
        have q2:w6.heap.size+1≤(w8.alloc (.cells #[.int .u8 (tn:Int)] 5)).heap.size:=by rw [World.size_alloc];omega
        have Q1:=Lib.hid q1
        have Q2:=Lib.hid q2
        have HA8:=Lib.hid hA8
        clear q1 q2
        go_wp2_with (at_builtin;refine wpList_row rfl _ _ rfl (w6.heap.size+1) _ (imF m) rfl (.inl HA8.out) ⟨w8.heap.size,0,none⟩ 1 [tn] Nat.zero_lt_one rfl (one_cells _ tn) Q1.out Q2.out ?_)
        intro v9 w9 hO9 hg9
        have hb9:Below w.heap.size w w9:=(bl_al HB8.out _).trans (below_own hg9 (by simp;omega) (fun j hj=>by have:=(hA8.lt j hj).1;omega))
        have HT3:=Lib.hid (told_more HF.out HCC.out tn)
        obtain ⟨g9,c9,rfl,hg9'⟩:=row_form hO9 (by simp)
        obtain ⟨hd1,hd2⟩:=row_cap hO9
        have HR3:=Lib.hid (Read_any (w:=w9) (q:=some ⟨g9,0,none⟩) (c:=c9) (imF m++[tn]) hO9.in (bytesL_append (imF_bytes m) (by intro z hz;simp at hz;omega)) hd1 hd2 (m0:=fun _=>none) (fun _ _ h=>by cases h))
        have HB9:=Lib.hid hb9
        generalize (imF m++[tn]).length=L9 at *
        clear hO9 hb9 hg9 hA8 hd1
        go_wp2_with fail
        refine HR3.out.mono ?_
        rintro e w10 ⟨hb,⟨mo,_,_,him,_⟩ | ⟨_,rfl⟩⟩
        · exact absurd him (HT3.out mo)
        have HB10:=Lib.hid (bl_al (bl_tr HB9.out hb) (.cells #[.slice none 0 0,.slice none 0 0,.slice none 0 0,.slice none 0 0] 26))
        obtain ⟨er3,her3⟩:∃ er,errR (imF m++[tn])=er:=⟨_,rfl⟩
        have hn3:¬ (er3:Int)=0:=by have:=errR_ne (imF m++[tn]);omega
        rw [her3]
        unfold zeroMo
        clear hb her3 HR3
        go_wp2
        have j1:((er1:Int) != 0)=true:=bne_iff_ne.2 hn1
        have j2:((er2:Int) != 0)=true:=bne_iff_ne.2 hn2
        have j3:((er3:Int) != 0)=true:=bne_iff_ne.2 hn3
        go_ret
        exact ⟨by simp [j1,j2,j3],HB10.out⟩
      · obtain ⟨k,rfl⟩:∃ k:Nat,r=k:=⟨r.toNat,by omega⟩
        have hkL:k<L:=by omega
        have hk':k<(imF m).length:=by rw [HL.out];exact hkL
        obtain ⟨x,hxx⟩:∃ x,(imF m).getD k 0=x:=⟨_,rfl⟩
        have hx8:x<256:=by rw [← hxx];exact bytesL_at (imF_bytes m) k
        have hxor:=u8_xor_nat x tn hx8 ht8
        have hy8:x ^^^ tn<256:=by
          have:x ^^^ tn<2 ^ 8:=Nat.xor_lt_two_pow (by omega) (by omega)
          omega
        have HT1:=Lib.hid (told_turn (m:=m) (k:=k) (y:=x ^^^ tn) hk' hy8 (by
          intro e
          apply ht0
          have e2:(imF m)[k]=x:=by rw [← hxx,List.getD_eq_getElem?_getD,List.getElem?_eq_getElem hk'];rfl
          rw [e2] at e
          have:x ^^^ (x ^^^ tn)=x ^^^ x:=by rw [e]
          rw [← Nat.xor_assoc,Nat.xor_self,Nat.zero_xor] at this
          exact this))
        generalize hy:x ^^^ tn=y at *
        have HXX:=Lib.hid hxx
        have hcl:=by_cells ((HO2.out.stay (bl_al (Below.refl _ _) (.cells #[] 5))).in)
        have hrw:RowW w2.heap.size (w2.alloc (.cells #[] 5)) (.slice (some ⟨w2.heap.size,0,none⟩) 0 0) []:=.inr (empty_full w2)
        clear hxx hy
        go_wp2_with (at_builtin;refine wpList_row rfl _ _ rfl w2.heap.size _ [] rfl hrw ⟨g,0,none⟩ cp (imF m) (by omega) (by rw [HL.out];rfl) hcl (by rw [HL.out];simp;omega) (by simp) ?_)
        intro v3 w3 hO3 hg3
        have hO3:OwnB w2.heap.size w3 v3 (imF m):=hO3
        have hb3:Below w2.heap.size w2 w3:=(bl_al (Below.refl _ _) _).trans (below_own hg3 (by simp) (fun j hj=>by have h9:w2.heap.size=j:=(by simpa [Value.ownBlock] using hj);omega))
        obtain ⟨g3,c3,rfl,hg3'⟩:=row_form hO3 (by omega)
        obtain ⟨hcap1,hcap2⟩:=row_cap hO3
        rw [HL.out] at hO3 hcap1 ⊢
        obtain ⟨k1,k2⟩:=OwnB.at hO3 HL.out.symm k hkL
        rw [HXX.out] at k1
        have hO4:=OwnB.stored hO3 HL.out.symm k y
        have hb4:Below w2.heap.size w2 (w3.setCell ⟨g3,k,none⟩ (.int .u8 (y:Int))):=hb3.setCell hg3' _
        have HR1:=Lib.hid (Read_any (w:=w3.setCell ⟨g3,k,none⟩ (.int .u8 (y:Int))) (q:=some ⟨g3,0,none⟩) (c:=c3) ((imF m).set k y) hO4.in (fun z hz=>by
          rcases List.mem_or_eq_of_mem_set hz with h | h
          · exact imF_bytes m z h
          · omega) (by rw [List.length_set,HL.out];exact hcap1) hcap2 (m0:=fun _=>none) (fun _ _ h=>by cases h))
        rw [List.length_set,HL.out] at HR1
        have HB4:=Lib.hid hb4
        have hki2:(k:Int)<(L:Int):=by omega
        clear hO3 hb3 hO4 hb4 hg3 hrw hcl hg3' hcap1
        go_wp2_with fail
        refine HR1.out.mono ?_
        rintro e w5 ⟨hb,⟨mo,_,_,him,_⟩ | ⟨_,rfl⟩⟩
        · exact absurd him (HT1.out mo)
        have HB5:=Lib.hid (bl_tr HB4.out hb)
        obtain ⟨er1,her1⟩:∃ er,errR ((imF m).set k y)=er:=⟨_,rfl⟩
        have hn1:¬ (er1:Int)=0:=by have:=errR_ne ((imF m).set k y);omega
        rw [her1]
        unfold zeroMo
        clear hb her1 k1 k2 HR1
        have HB6:=Lib.hid (bl_al HB5.out (.cells #[.slice none 0 0,.slice none 0 0,.slice none 0 0,.slice none 0 0] 26))
        have HR2:=Lib.hid (Read_any (w:=w5.alloc (.cells #[.slice none 0 0,.slice none 0 0,.slice none 0 0,.slice none 0 0] 26)) (q:=some ⟨g,0,none⟩) (c:=cp) ((imF m).take (L - 1)) (((HO2.out.stay HB6.out).in).take _) (bytesL_take (imF_bytes m) _) (by rw [List.length_take,HL.out];omega) hc2 (m0:=fun _=>none) (fun _ _ h=>by cases h))
        have hl1:((imF m).take (L - 1)).length=L - 1:=by rw [List.length_take,HL.out];omega
        obtain ⟨L1,hL1⟩:∃ L1,L - 1=L1:=⟨_,rfl⟩
        have hL1i:(L:Int) - 1=(L1:Int):=by omega
        have hL1c:(L1:Int)≤(cp:Int):=by omega
        rw [hl1,hL1] at HR2
        have HT2:=Lib.hid (show ∀ mo,¬ imgOf ((imF m).take L1) mo from by have:=told_less HF.out HCC.out;rw [HL.out,hL1] at this;exact this)
        have hcp0:¬ cp=0:=by omega
        clear hl1 hL1
        go_wp2_with fail
        refine HR2.out.mono ?_
        rintro e w6 ⟨hb,⟨mo,_,_,him,_⟩ | ⟨_,rfl⟩⟩
        · exact absurd him (HT2.out mo)
        have HB7:=Lib.hid (bl_al (bl_tr HB6.out hb) (.cells #[.slice none 0 0,.slice none 0 0,.slice none 0 0,.slice none 0 0] 26))
        obtain ⟨er2,her2⟩:∃ er,errR ((imF m).take L1)=er:=⟨_,rfl⟩
        have hn2:¬ (er2:Int)=0:=by have:=errR_ne ((imF m).take L1);omega
        rw [her2]
        unfold zeroMo
        clear hb her2 HR2
        have HBW:=Lib.hid (bl_tr HB2.out HB7.out)
        have hcl:=by_cells ((HO2.out.stay (bl_al HB7.out (.cells #[] 5))).in)
        have hrw:RowW (w6.heap.size+1) ((w6.alloc (.cells #[.slice none 0 0,.slice none 0 0,.slice none 0 0,.slice none 0 0] 26)).alloc (.cells #[] 5)) (.slice (some ⟨w6.heap.size+1,0,none⟩) 0 0) []:=by
          have:=empty_full (w6.alloc (.cells #[.slice none 0 0,.slice none 0 0,.slice none 0 0,.slice none 0 0] 26))
          rw [World.size_alloc] at this
          exact .inr this
        go_wp2_with (at_builtin;refine wpList_row rfl _ _ rfl (w6.heap.size+1) _ [] rfl hrw ⟨g,0,none⟩ cp (imF m) (by omega) (by rw [HL.out];rfl) hcl (by rw [HL.out];simp;omega) (by simp) ?_)
        intro v8 w8 hO8 hg8
        have hO8:OwnB (w6.heap.size+1) w8 v8 (imF m):=hO8
        have hw6:=HBW.out.size
        rw [World.size_alloc] at hw6
        have hb8:Below w.heap.size w w8:=(bl_al HBW.out _).trans (below_own hg8 (by simp;omega) (fun j hj=>by have h9:w6.heap.size+1=j:=(by simpa [Value.ownBlock] using hj);omega))
        obtain ⟨g8,c8,rfl,hg8'⟩:=row_form hO8 (by omega)
        have hA8:=hO8.alloc (.cells #[.int .u8 (tn:Int)] 5)
        rw [HL.out] at hA8 ⊢
        have hb8s:=hb8.size
        have hw68:=hg8.size
        simp only [World.size_alloc] at hw68
        have HB8:=Lib.hid hb8
        clear hO8 hb8 hg8 hrw hcl
        have q1:(imF m).length+[tn].length≤140737488355328:=by rw [HL.out,List.length_singleton];omega
        have q2:w6.heap.size+1≤(w8.alloc (.cells #[.int .u8 (tn:Int)] 5)).heap.size:=by rw [World.size_alloc];omega
        have Q1:=Lib.hid q1
        have Q2:=Lib.hid q2
        have HA8:=Lib.hid hA8
        clear q1 q2
        go_wp2_with (at_builtin;refine wpList_row rfl _ _ rfl (w6.heap.size+1) _ (imF m) rfl (.inl HA8.out) ⟨w8.heap.size,0,none⟩ 1 [tn] Nat.zero_lt_one rfl (one_cells _ tn) Q1.out Q2.out ?_)
        intro v9 w9 hO9 hg9
        have hb9:Below w.heap.size w w9:=(bl_al HB8.out _).trans (below_own hg9 (by simp;omega) (fun j hj=>by have:=(hA8.lt j hj).1;omega))
        have HT3:=Lib.hid (told_more HF.out HCC.out tn)
        obtain ⟨g9,c9,rfl,hg9'⟩:=row_form hO9 (by simp)
        obtain ⟨hd1,hd2⟩:=row_cap hO9
        have HR3:=Lib.hid (Read_any (w:=w9) (q:=some ⟨g9,0,none⟩) (c:=c9) (imF m++[tn]) hO9.in (bytesL_append (imF_bytes m) (by intro z hz;simp at hz;omega)) hd1 hd2 (m0:=fun _=>none) (fun _ _ h=>by cases h))
        have HB9:=Lib.hid hb9
        generalize (imF m++[tn]).length=L9 at *
        clear hO9 hb9 hg9 hA8 hd1
        go_wp2_with fail
        refine HR3.out.mono ?_
        rintro e w10 ⟨hb,⟨mo,_,_,him,_⟩ | ⟨_,rfl⟩⟩
        · exact absurd him (HT3.out mo)
        have HB10:=Lib.hid (bl_al (bl_tr HB9.out hb) (.cells #[.slice none 0 0,.slice none 0 0,.slice none 0 0,.slice none 0 0] 26))
        obtain ⟨er3,her3⟩:∃ er,errR (imF m++[tn])=er:=⟨_,rfl⟩
        have hn3:¬ (er3:Int)=0:=by have:=errR_ne (imF m++[tn]);omega
        rw [her3]
        unfold zeroMo
        clear hb her3 HR3
        go_wp2
        have j1:((er1:Int) != 0)=true:=bne_iff_ne.2 hn1
        have j2:((er2:Int) != 0)=true:=bne_iff_ne.2 hn2
        have j3:((er3:Int) != 0)=true:=bne_iff_ne.2 hn3
        go_ret
        exact ⟨by simp [j1,j2,j3],HB10.out⟩
  · obtain ⟨z,rfl,hz,_,_,hb⟩:=hw1.no hC
    have HB1:=Lib.hid (bl_tr HB0.out hb)
    clear hb hw1 HB0
    go_wp2_with (go_at_call 16;refine (awake_any _).mono ?_;rintro e w7 ⟨rfl,hb⟩)
    all_goals
      have HB7:=Lib.hid (bl_tr HB1.out hb)
      go_ret
      exact ⟨rfl,HB7.out⟩
end
end Go.Proofs.Ytbfkgcapkffecaa
