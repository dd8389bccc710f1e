/- Sources that are handed in: rows of statements and expressions, of whatever kinds and names, as they read in memory, with a mark behind each row or without. What instructions take and lay on: effects of package code, in every memory. Bytes of instructions: Put, of package code and of the document's  -/
import Derived.Test.YtbfkgcapkffecaaImWritesPR3
import Derived.Lib.QuietBelow
import Derived.Test.YtbfkgcapkffecaaImWritesPR1
import Derived.ChangeArms
import Derived.Deep.Slices
import Derived.SizedLaws
import Derived.Lib.LaidU8
namespace Go.Proofs.Ytbfkgcapkffecaa
open Go Go.RowKit Go.Proofs.Mm
structure TmZ where
  kind:Int
  value:Int
  name:ByteArray
structure StZ where
  kind:Int
  name:ByteArray
  targets:List ByteArray
  exprs:List (List TmZ)
instance:Inhabited TmZ:=⟨⟨0,0,⟨#[]⟩⟩⟩
instance:Inhabited StZ:=⟨⟨0,⟨#[]⟩,[],[]⟩⟩
abbrev Cl:=Addr→Option Value
def CLe (C D:Cl):Prop:=∀ a v,C a=some v→D a=some v
theorem CLe.refl (C:Cl):CLe C C:=fun _ _ h=>h
theorem CLe.trans {A B C:Cl} (h:CLe A B) (k:CLe B C):CLe A C:=fun a v e=>k a v (h a v e)
def wC (w:World):Cl:=fun a=>w.cell? a
def mC (m:Mem):Cl:=fun a=>match m a.block with
  | some (.cells cur _ r)=>if a.spot=none∧r=(0,0) then cur[a.off]? else none
  | _=>none
theorem below_cle {w w':World} (h:Below w.heap.size w w'):CLe (wC w) (wC w'):=fun _ _ e=>(h.cell (World.block_lt_of_cell? _ _ e)).trans e
theorem mle_cle {m m':Mem} (h:m.le m'):CLe (mC m) (mC m'):=by
  intro a v e
  unfold mC at e ⊢
  cases hm:m a.block with
  | none=>rw [hm] at e;cases e
  | some o=>rw [hm] at e;rw [h _ _ hm];exact e
theorem has_cle {w:World} {m:Mem} (h:Has w m):CLe (mC m) (wC w):=by
  intro a v e
  obtain ⟨b,o,s⟩:=a
  unfold mC at e
  simp only at e
  cases hm:m b with
  | none=>rw [hm] at e;cases e
  | some ob =>
    rw [hm] at e
    cases ob with
    | cells cur T r =>
      simp only at e
      split at e
      · rename_i hs
        obtain ⟨hs,_⟩:=hs
        subst hs
        unfold wC
        rw [cell_of_row w b o cur T r (h _ _ hm)]
        exact e
      · cases e
    | _=>cases e
def RdO (C:Cl) (q:Option Addr) (cs:List Value):Prop:=cs=[] ∨ ∃ g o,q=some ⟨g,o,none⟩∧∀ j u,cs[j]?=some u→C ⟨g,o+j,none⟩=some u
theorem RdO.le {C D:Cl} {q:Option Addr} {cs:List Value} (h:RdO C q cs) (hc:CLe C D):RdO D q cs:=by
  rcases h with h | ⟨g,o,h1,h2⟩
  · exact .inl h
  · exact .inr ⟨g,o,h1,fun j u hu=>hc _ _ (h2 j u hu)⟩
theorem RdO.left {C:Cl} {q:Option Addr} {cs ds:List Value} (h:RdO C q (cs++ds)):RdO C q cs:=by
  rcases h with h | ⟨g,o,h1,h2⟩
  · exact .inl (List.append_eq_nil_iff.1 h).1
  · exact .inr ⟨g,o,h1,fun j u hu=>h2 j u (by rw [List.getElem?_append_left (by have:=(List.getElem?_eq_some_iff.1 hu).1;exact this)];exact hu)⟩
theorem RowM.rdO {m:Mem} {E:TypeId} {size n c:Nat} {q:Option Addr} {xs:List Value} (h:RowM m E size (.slice q n c) n xs):RdO (mC m) q xs:=by
  obtain ⟨h1,⟨h2,rfl⟩ | ⟨g,cap,cur,h2,h3,h4,h5,h6,h7⟩⟩:=h
  · exact .inl (List.eq_nil_of_length_eq_zero (by simpa using h1))
  · injection h2 with h2 _ _
    refine .inr ⟨g,0,h2,fun j u hu=>?_⟩
    rw [← h7,List.getElem?_take] at hu
    split at hu
    · unfold mC
      simp only [h3,Nat.zero_add]
      simpa using hu
    · cases hu
def SlX {α:Type} (mk:List Value) (bs:Nat) (C:Cl) (R:List Value→α→Prop) (v:Value) (l:List α):Prop :=
  ∃ q c cs,v=.slice q l.length c∧(mk=[] ∨ l.length+1≤c)∧RdO C q (cs++mk)∧Enc R cs l∧l.length * bs≤140737488351232∧c≤maxLen∧(q=none→c=0)∧l.length≤c
theorem SlX.mono {α:Type} {mk:List Value} {bs:Nat} {C D:Cl} {R R':List Value→α→Prop} {v:Value} {l:List α} (h:SlX mk bs C R v l) (hc:CLe C D) (hR:∀ c x,R c x→R' c x):SlX mk bs D R' v l:=by
  obtain ⟨q,c,cs,h1,h2,h3,h4,h5,h6⟩:=h
  exact ⟨q,c,cs,h1,h2,h3.le hc,h4.mono hR,h5,h6⟩
def tmZ (t:TmZ):List Value:=[.int .i64 t.kind,.int .i64 t.value,.string t.name]
def mkS (lt:Bool):List Value:=if lt then [.string ⟨#[109,97,114,107]⟩] else []
def mkT (lt:Bool):List Value:=if lt then [.int .i64 (-71),.int .i64 0,.string ⟨#[]⟩] else []
def mkE (lt:Bool):List Value:=if lt then [.slice none 0 0] else []
def mkB (lt:Bool):List Value:=if lt then [.int .i64 (-71),.string ⟨#[]⟩,.slice none 0 0,.slice none 0 0] else []
def StrR (lt:Bool) (C:Cl) (v:Value) (l:List ByteArray):Prop:=SlX (mkS lt) 16 C (fun c s=>c=[Value.string s]) v l
def TmsR (lt:Bool) (C:Cl) (v:Value) (l:List TmZ):Prop:=SlX (mkT lt) 32 C (fun c t=>c=tmZ t) v l
def ExR1 (lt:Bool) (C:Cl) (c:List Value) (t:List TmZ):Prop:=∃ u,c=[u]∧TmsR lt C u t
def ExsR (lt:Bool) (C:Cl) (v:Value) (l:List (List TmZ)):Prop:=SlX (mkE lt) 24 C (ExR1 lt C) v l
def StR1 (lt:Bool) (C:Cl) (c:List Value) (s:StZ):Prop:=∃ vt ve,c=[.int .i64 s.kind,.string s.name,vt,ve]∧StrR lt C vt s.targets∧ExsR lt C ve s.exprs
def BdR (lt:Bool) (C:Cl) (v:Value) (l:List StZ):Prop:=SlX (mkB lt) 72 C (StR1 lt C) v l
section
variable {lt:Bool} {C D:Cl}
theorem StrR.le {v:Value} {l:List ByteArray} (h:StrR lt C v l) (hc:CLe C D):StrR lt D v l:=SlX.mono h hc fun _ _ e=>e
theorem TmsR.le {v:Value} {l:List TmZ} (h:TmsR lt C v l) (hc:CLe C D):TmsR lt D v l:=SlX.mono h hc fun _ _ e=>e
theorem ExR1.le {c:List Value} {l:List TmZ} (h:ExR1 lt C c l) (hc:CLe C D):ExR1 lt D c l:=let ⟨u,e,k⟩:=h;⟨u,e,k.le hc⟩
theorem ExsR.le {v:Value} {l:List (List TmZ)} (h:ExsR lt C v l) (hc:CLe C D):ExsR lt D v l:=SlX.mono h hc fun _ _ e=>e.le hc
theorem StR1.le {c:List Value} {s:StZ} (h:StR1 lt C c s) (hc:CLe C D):StR1 lt D c s:=let ⟨vt,ve,e,a,b⟩:=h;⟨vt,ve,e,a.le hc,b.le hc⟩
theorem BdR.le {v:Value} {l:List StZ} (h:BdR lt C v l) (hc:CLe C D):BdR lt D v l:=SlX.mono h hc fun _ _ e=>e.le hc
end
theorem encZ_at {α:Type} {R:List Value→α→Prop} {size:Nat} (hR:∀ c x,R c x→c.length=size):∀ {l:List α} {cs:List Value},Enc R cs l→cs.length=l.length * size∧∀ j (h:j<l.length),∃ c,R c l[j]∧∀ r,r<size→cs[j * size+r]?=c[r]?
  | [],cs,he=>by obtain rfl:cs=[]:=he;exact ⟨by simp,fun j h=>absurd h (by simp)⟩
  | x :: l,cs,he=>by
    obtain ⟨c,d,rfl,h1,h2⟩:=he
    have hc:=hR _ _ h1
    obtain ⟨h5,h6⟩:=encZ_at hR h2
    refine ⟨by rw [List.length_append,hc,h5,List.length_cons,Nat.succ_mul];omega,fun j h=>?_⟩
    cases j with
    | zero=>exact ⟨c,h1,fun r hr=>by rw [Nat.zero_mul,Nat.zero_add,List.getElem?_append_left (by omega)]⟩
    | succ j =>
      obtain ⟨c',h3,h4⟩:=h6 j (by simpa using h)
      refine ⟨c',h3,fun r hr=>?_⟩
      rw [show (j+1) * size+r=c.length+(j * size+r) by rw [hc,Nat.succ_mul];omega,List.getElem?_append_right (by omega),Nat.add_sub_cancel_left]
      exact h4 r hr
theorem SlX.at {α:Type} {mk:List Value} {bs:Nat} {C:Cl} {R:List Value→α→Prop} {v:Value} {l:List α} {size:Nat} (h:SlX mk (bs+1) C R v l) (hs:0<size) (hR:∀ c x,R c x→c.length=size) :
    ∃ q c,v=.slice q l.length c∧(mk=[] ∨ l.length+1≤c)∧l.length≤140737488351232∧c≤maxLen ∧
      (∀ j (hj:j<l.length),∃ g o e,q=some ⟨g,o,none⟩∧R e l[j]∧∀ r u,r<size→e[r]?=some u→C ⟨g,o+(j * size+r),none⟩=some u) ∧
      (mk=[] ∨ ∃ g o,q=some ⟨g,o,none⟩∧∀ r u,mk[r]?=some u→C ⟨g,o+(l.length * size+r),none⟩=some u):=by
  obtain ⟨q,c,cs,h1,h2,h3,h4,h5,h6,_⟩:=h
  obtain ⟨hl,ha⟩:=encZ_at hR h4
  refine ⟨q,c,h1,h2,Nat.le_trans (Nat.le_mul_of_pos_right _ (Nat.succ_pos _)) h5,h6,fun j hj=>?_,?_⟩
  · obtain ⟨e,e1,e2⟩:=ha j hj
    have hle:j * size+size≤l.length * size:=by rw [← Nat.succ_mul];exact Nat.mul_le_mul_right _ hj
    rcases h3 with h3 | ⟨g,o,h3,h7⟩
    · have:=(List.append_eq_nil_iff.1 h3).1
      rw [this] at hl
      simp only [List.length_nil] at hl
      omega
    · refine ⟨g,o,e,h3,e1,fun r u hr hu=>h7 _ _ ?_⟩
      rw [List.getElem?_append_left (by omega),e2 r hr]
      exact hu
  · by_cases hm:mk=[]
    · exact .inl hm
    · refine .inr ?_
      rcases h3 with h3 | ⟨g,o,h3,h7⟩
      · exact absurd (List.append_eq_nil_iff.1 h3).2 hm
      · refine ⟨g,o,h3,fun r u hu=>h7 _ _ ?_⟩
        rw [List.getElem?_append_right (by omega),hl,Nat.add_sub_cancel_left]
        exact hu
end Go.Proofs.Ytbfkgcapkffecaa
namespace Go.Proofs.Ytbfkgcapkffecaa
open Go Go.RowKit Go.Proofs.Mm
theorem bl_al {W w:World} (h:Below W.heap.size W w) (o:Obj):Below W.heap.size W (w.alloc o):=h.alloc h.size o
theorem bl_tr {W w w':World} (h:Below W.heap.size W w) (k:Below w.heap.size w w'):Below W.heap.size W w':=h.trans (k.mono h.size)
theorem cell_b {w w':World} {a:Addr} {v:Value} (h:w.cell? a=some v) (hb:Below w.heap.size w w'):w'.cell? a=some v:=below_cle hb _ _ h
def InB (w:World) (b:Nat) (cs:Array Value) (T:TypeId):Prop:=w.heap[b]?=some (.cells cs T (0,0))
theorem InB.le {w w':World} {b:Nat} {cs:Array Value} {T:TypeId} (h:InB w b cs T) (hb:Below w.heap.size w w'):InB w' b cs T:=(hb.block b (heap_lt h)).trans h
theorem InB.cell {w:World} {b:Nat} {cs:Array Value} {T:TypeId} (h:InB w b cs T) {j:Nat} {v:Value} (hv:cs[j]?=some v):w.cell? ⟨b,j,none⟩=some v:=cell_of h hv
theorem InB.free {w:World} {b:Nat} {cs:Array Value} {T:TypeId} (h:InB w b cs T) (j:Nat):w.frozen? ⟨b,j,none⟩=false:=free_of h
theorem InB.lt {w:World} {b:Nat} {cs:Array Value} {T:TypeId} (h:InB w b cs T):b<w.heap.size:=heap_lt h
theorem InB.new (w:World) (cs:Array Value) (T:TypeId):InB (w.alloc (.cells cs T)) w.heap.size cs T:=heap_alloc_new _ _
theorem InB.new' {w:World} {b:Nat} (cs:Array Value) (T:TypeId) (h:w.heap.size=b):InB (w.alloc (.cells cs T)) b cs T:=by subst h;exact InB.new _ _ _
theorem InB.set2 {w:World} {b c i j:Nat} {x y:Value} {cs:Array Value} {T:TypeId} (h:InB w b cs T) (hn:b ≠ c):InB ((w.setCell ⟨c,i,none⟩ x).setCell ⟨c,j,none⟩ y) b cs T:=heap_other (heap_other h hn) hn
theorem _root_.Go.RowKit.Below.set2 {n:Nat} {W w:World} (h:Below n W w) {c i j:Nat} {x y:Value} (hc:n≤c):Below n W ((w.setCell ⟨c,i,none⟩ x).setCell ⟨c,j,none⟩ y):=(h.setCell hc x).setCell hc y
theorem mayI_kn {op a:Int} (h:mayI op a=true):knI op=true:=by
  cases hk:knI op
  · rw [mayI_none hk] at h;cases h
  · rfl
end Go.Proofs.Ytbfkgcapkffecaa
namespace Go.Proofs.Ytbfkgcapkffecaa
open Go Go.RowKit Go.Proofs.Mm Go.Sort
def putI (op a:Int):List Nat:=if mayI op a then op.toNat :: (if op=32 then putS a else if opdI op then putU a.toNat else []) else []
structure PutR (w:World) (op a:Int) (e:Ending) (w':World):Prop where
  val:∃ v,e=.returned v∧OwnB w.heap.size w' v (putI op a)∧(mayI op a=false→v=.slice none 0 0)
  bl:Below w.heap.size w w'
theorem wrapU64 (z:Int):IntKind.u64.wrap z=z % 18446744073709551616:=by simp [IntKind.wrap,IntKind.signed,IntKind.bits]
theorem byteI {op:Int} (h:knI op=true):IntKind.u8.wrap op=op:=by
  obtain ⟨k,hk,rfl⟩:=knI_nat h
  rw [byteU]
  omega
theorem one_own (w:World) (x:Nat):OwnB w.heap.size (w.alloc (.cells #[.int .u8 (x:Int)] 5)) (.slice (some ⟨w.heap.size,0,none⟩) 1 1) [x] :=
  World.ownsRow_lit w #[.int .u8 (x:Int)] 1 (Nat.le_refl _) (by unfold maxLen;omega) rfl
theorem kiI_none {op:Int} (h:knI op=true) (h2:opdI op=false):kiI op=0:=by
  unfold opdI at h2
  rw [h,Bool.true_and,decide_eq_false_iff_not] at h2
  have h3:∀ k:Fin 48,0≤kiL.getD k.val 0:=by decide
  obtain ⟨k,hk,rfl⟩:=knI_nat h
  have h4:0≤kiI (k:Int):=h3 ⟨k,hk⟩
  omega
section
variable (w:World) (op a:Int)
set_option maxRecDepth 100000 in
set_option maxHeartbeats 1000000 in
theorem Put_no (hm:mayI op a=false):Calls Try.prog 101 #[inV op a] w (PutR w op a):=by
  have HM:=Lib.hid (hm ▸ May_any op a)
  go_enter Try.func101,Try.ntmps101
  go_wp2_with fail
  refine (HM.out _).mono ?_
  rintro e w1 ⟨rfl,hb⟩
  have HB:=Lib.hid ((bl_al (Below.refl _ w) _).trans (hb.mono (by simp)))
  clear hb
  go_wp2
  go_ret
  refine ⟨⟨_,rfl,?_,fun _=>rfl⟩,HB.out⟩
  rw [show putI op a=[] from by unfold putI;rw [hm];rfl]
  exact World.ownsRow_nil _ _ _ _
set_option maxRecDepth 100000 in
set_option maxHeartbeats 1000000 in
theorem Put_plain (hm:mayI op a=true) (h32:op ≠ 32) (ho:opdI op=false):Calls Try.prog 101 #[inV op a] w (PutR w op a):=by
  have HM:=Lib.hid (hm ▸ May_any op a)
  have HO:=Lib.hid (ho ▸ Operand_any op)
  have hbyte:=byteI (mayI_kn hm)
  have h32b:(op == 32)=false:=by rw [beq_eq_false_iff_ne];exact h32
  obtain ⟨k,hk,rfl⟩:=knI_nat (mayI_kn hm)
  have HL:=Lib.hid (show putI k a=[k] from by unfold putI;rw [hm,if_neg h32,ho];rfl)
  have HMM:=Lib.hid hm
  clear hm ho h32
  go_enter Try.func101,Try.ntmps101
  go_wp2_with fail
  refine (HM.out _).mono ?_
  rintro e w1 ⟨rfl,hb⟩
  have hl1:w.heap.size<w1.heap.size:=by have:=hb.size;simp at this;omega
  have hI:=(InB.new w #[.int .i64 (k:Int),.int .i64 a] 57).le hb
  have d0:=hI.cell (j:=0) rfl
  have d1:=hI.cell (j:=1) rfl
  have HB:=Lib.hid ((bl_al (Below.refl _ w) _).trans (hb.mono (by simp)))
  clear hb hI
  go_wp2_with fail
  refine (HO.out _).mono ?_
  rintro e w2 ⟨rfl,rfl⟩
  go_wp2
  go_ret
  refine ⟨⟨_,rfl,?_,fun h=>absurd h (by rw [HMM.out];simp)⟩,bl_al HB.out _⟩
  rw [HL.out]
  exact (one_own w1 k).base HB.out.size
set_option maxRecDepth 100000 in
set_option maxHeartbeats 1000000 in
theorem Put_const (h1:-9223372036854775808≤a) (h2:a<9223372036854775808):Calls Try.prog 101 #[inV 32 a] w (PutR w 32 a):=by
  have hm:mayI 32 a=true:=mayI_const a
  have HM:=Lib.hid (hm ▸ May_any 32 a)
  have HL:=Lib.hid (show putI 32 a=[32]++putS a from by unfold putI;rw [hm];rfl)
  have HMM:=Lib.hid hm
  clear hm
  go_enter Try.func101,Try.ntmps101
  go_wp2_with fail
  refine (HM.out _).mono ?_
  rintro e w1 ⟨rfl,hb⟩
  have hl1:w.heap.size<w1.heap.size:=by have:=hb.size;simp at this;omega
  have hI:=(InB.new w #[.int .i64 32,.int .i64 a] 57).le hb
  have d0:=hI.cell (j:=0) rfl
  have d1:=hI.cell (j:=1) rfl
  have HB:=Lib.hid ((bl_al (Below.refl _ w) _).trans (hb.mono (by simp)))
  clear hb hI
  have HP:=Lib.hid (fun (W:World) (hs:ByIn W.heap.size W (some ⟨w1.heap.size,0,none⟩) [32])=>PutSigned_any (some ⟨w1.heap.size,0,none⟩) 1 [32] a h1 h2 (.inr ⟨_,rfl⟩) (by simp) W hs)
  clear h1 h2
  have HO1:=Lib.hid (one_own w1 32)
  go_wp2_with fail
  refine (HP.out _ HO1.out.in).mono ?_
  rintro e w2 ⟨v,rfl,hO,hb⟩
  have HO:=Lib.hid (hO.base (Nat.le_trans HB.out.size (by simp)))
  have HB2:=Lib.hid ((bl_al HB.out _).trans (hb.mono (by have:=HB.out.size;simp;omega)))
  clear hO hb
  go_wp2
  go_ret
  refine ⟨⟨_,rfl,?_,fun h=>absurd h (by rw [HMM.out];simp)⟩,HB2.out⟩
  rw [HL.out]
  exact HO.out
set_option maxRecDepth 100000 in
set_option maxHeartbeats 1000000 in
theorem Put_uns (hm:mayI op a=true) (h32:op ≠ 32) (ho:opdI op=true) (h2:a<9223372036854775808):Calls Try.prog 101 #[inV op a] w (PutR w op a):=by
  have HM:=Lib.hid (hm ▸ May_any op a)
  have HO:=Lib.hid (ho ▸ Operand_any op)
  have hbyte:=byteI (mayI_kn hm)
  have h32b:(op == 32)=false:=by rw [beq_eq_false_iff_ne];exact h32
  obtain ⟨k,hk,rfl⟩:=knI_nat (mayI_kn hm)
  have ha0:0≤a:=by
    rw [mayI_unsigned ho h32] at hm
    exact of_decide_eq_true hm
  obtain ⟨m,rfl⟩:∃ m:Nat,a=m:=⟨a.toNat,by omega⟩
  have hw:IntKind.u64.wrap (m:Int)=(m:Int):=by rw [wrapU64];omega
  have HL:=Lib.hid (show putI k m=[k]++putU m from by unfold putI;rw [hm,if_neg h32,ho];rfl)
  have HMM:=Lib.hid hm
  clear hm ho h32
  go_enter Try.func101,Try.ntmps101
  go_wp2_with fail
  refine (HM.out _).mono ?_
  rintro e w1 ⟨rfl,hb⟩
  have hl1:w.heap.size<w1.heap.size:=by have:=hb.size;simp at this;omega
  have hI:=(InB.new w #[.int .i64 (k:Int),.int .i64 (m:Int)] 57).le hb
  have d0:=hI.cell (j:=0) rfl
  have d1:=hI.cell (j:=1) rfl
  have HB:=Lib.hid ((bl_al (Below.refl _ w) _).trans (hb.mono (by simp)))
  clear hb hI
  have HP:=Lib.hid (fun (W:World) (hs:ByIn W.heap.size W (some ⟨w1.heap.size,0,none⟩) [k])=>Put_any (some ⟨w1.heap.size,0,none⟩) 1 [k] m (by unfold W64;omega) (.inr ⟨_,rfl⟩) (by simp) W hs)
  clear ha0 h2
  have HO1:=Lib.hid (one_own w1 k)
  go_wp2_with fail
  refine (HO.out _).mono ?_
  rintro e w3 ⟨rfl,rfl⟩
  go_wp2_with fail
  refine (HP.out _ HO1.out.in).mono ?_
  rintro e w2 ⟨v,rfl,hO,hb⟩
  have HO:=Lib.hid (hO.base (Nat.le_trans HB.out.size (by simp)))
  have HB2:=Lib.hid ((bl_al HB.out _).trans (hb.mono (by have:=HB.out.size;simp;omega)))
  clear hO hb
  go_wp2
  go_ret
  refine ⟨⟨_,rfl,?_,fun h=>absurd h (by rw [HMM.out];simp)⟩,HB2.out⟩
  rw [HL.out]
  exact HO.out
theorem cPut_any (h1:-9223372036854775808≤a) (h2:a<9223372036854775808):Calls Try.prog 101 #[inV op a] w (PutR w op a):=by
  cases hm:mayI op a
  · exact Put_no w op a hm
  · by_cases h32:op=32
    · subst h32;exact Put_const w a h1 h2
    · cases ho:opdI op
      · exact Put_plain w op a hm h32 ho
      · exact Put_uns w op a hm h32 ho h2
set_option maxRecDepth 100000 in
set_option maxHeartbeats 1000000 in
theorem refPut_no (hm:mayI op a=false):Calls Try.prog 67 #[inV op a] w (PutR w op a):=by
  have HM:=Lib.hid (hm ▸ refMay_any op a)
  go_enter Try.func67,Try.ntmps67
  go_wp2_with fail
  refine (HM.out _).mono ?_
  rintro e w1 ⟨rfl,hb⟩
  have HB:=Lib.hid ((bl_al (Below.refl _ w) _).trans (hb.mono (by simp)))
  clear hb
  go_wp2
  go_ret
  refine ⟨⟨_,rfl,?_,fun _=>rfl⟩,HB.out⟩
  rw [show putI op a=[] from by unfold putI;rw [hm];rfl]
  exact World.ownsRow_nil _ _ _ _
set_option maxRecDepth 100000 in
set_option maxHeartbeats 1000000 in
theorem refPut_plain (hm:mayI op a=true) (h32:op ≠ 32) (ho:opdI op=false):Calls Try.prog 67 #[inV op a] w (PutR w op a):=by
  have HM:=Lib.hid (hm ▸ refMay_any op a)
  have hbyte:=byteI (mayI_kn hm)
  obtain ⟨k,hk,rfl⟩:=knI_nat (mayI_kn hm)
  have HL:=Lib.hid (show putI k a=[k] from by unfold putI;rw [hm,if_neg h32,ho];rfl)
  have hk0:kiI (k:Int)=0:=kiI_none (mayI_kn hm) ho
  have HT:=Lib.hid (show ∀ W,Calls Try.prog 89 #[.int .i64 (k:Int)] W fun e w'=>e=.returned (.tuple #[.agg #[.string (nmI (k:Int)),.int .i64 (poI (k:Int)),.int .i64 (puI (k:Int)),.int .i64 (kiI (k:Int))],.bool true])∧Below W.heap.size W w' from fun W=>by
    have h:=Table_any (k:Int) W
    unfold tbV rwV at h
    rw [mayI_kn hm] at h
    exact h)
  generalize nmI (k:Int)=ns at HT
  generalize poI (k:Int)=po at HT
  generalize puI (k:Int)=pu at HT
  rw [hk0] at HT
  have HMM:=Lib.hid hm
  clear hm ho h32 hk0
  go_enter Try.func67,Try.ntmps67
  go_wp2_with fail
  refine (HM.out _).mono ?_
  rintro e w1 ⟨rfl,hb⟩
  have hl1:w.heap.size<w1.heap.size:=by have:=hb.size;simp at this;omega
  have hI:=(InB.new w #[.int .i64 (k:Int),.int .i64 a] 57).le hb
  have d0:=hI.cell (j:=0) rfl
  have HI:=Lib.hid hI
  have HB:=Lib.hid ((bl_al (Below.refl _ w) _).trans (hb.mono (by simp)))
  clear hb hI
  go_wp2_with fail
  refine (HT.out _).mono ?_
  rintro e w2 ⟨rfl,hb⟩
  have hI:=HI.out.le hb
  have d0:=hI.cell (j:=0) rfl
  have d1:=hI.cell (j:=1) rfl
  have hl2:=hI.lt
  have HB2:=Lib.hid (bl_tr HB.out hb)
  clear hb hI hl1 HI HB
  go_wp2
  all_goals
    go_ret
    refine ⟨⟨_,rfl,?_,fun h=>absurd h (by rw [HMM.out];simp)⟩,bl_al (bl_al HB2.out _) _⟩
    rw [HL.out]
    have h:=one_own (w2.alloc (.cells #[.string ns,.int .i64 po,.int .i64 pu,.int .i64 0] 125)) k
    rw [World.size_alloc] at h
    exact h.base (Nat.le_trans HB2.out.size (by simp))
set_option maxRecDepth 100000 in
set_option maxHeartbeats 1000000 in
theorem refPut_const (h1:-9223372036854775808≤a) (h2:a<9223372036854775808):Calls Try.prog 67 #[inV 32 a] w (PutR w 32 a):=by
  have hm:mayI 32 a=true:=mayI_const a
  have HM:=Lib.hid (hm ▸ refMay_any 32 a)
  have HL:=Lib.hid (show putI 32 a=[32]++putS a from by unfold putI;rw [hm];rfl)
  have HT:=Lib.hid (show ∀ W,Calls Try.prog 89 #[.int .i64 32] W fun e w'=>e=.returned (.tuple #[.agg #[.string (nmI 32),.int .i64 (poI 32),.int .i64 (puI 32),.int .i64 (kiI 32)],.bool true])∧Below W.heap.size W w' from fun W=>by
    have h:=Table_any 32 W
    unfold tbV rwV at h
    rw [mayI_kn hm] at h
    exact h)
  generalize nmI 32=ns at HT
  generalize poI 32=po at HT
  generalize puI 32=pu at HT
  rw [show kiI 32=1 from rfl] at HT
  have HMM:=Lib.hid hm
  have HP:=Lib.hid (refPutSigned_any a h1 h2)
  have HNE:=Lib.hid (putS_ne a)
  have HLEN:=Lib.hid (putS_ten h1 h2)
  clear hm h1 h2
  go_enter Try.func67,Try.ntmps67
  go_wp2_with fail
  refine (HM.out _).mono ?_
  rintro e w1 ⟨rfl,hb⟩
  have hl1:w.heap.size<w1.heap.size:=by have:=hb.size;simp at this;omega
  have hI:=(InB.new w #[.int .i64 32,.int .i64 a] 57).le hb
  have d0:=hI.cell (j:=0) rfl
  have HI:=Lib.hid hI
  have HB:=Lib.hid ((bl_al (Below.refl _ w) _).trans (hb.mono (by simp)))
  clear hb hI
  go_wp2_with fail
  refine (HT.out _).mono ?_
  rintro e w2 ⟨rfl,hb⟩
  have hI:=HI.out.le hb
  have d0:=hI.cell (j:=0) rfl
  have d1:=hI.cell (j:=1) rfl
  have hl2:=hI.lt
  have HB2:=Lib.hid (bl_tr HB.out hb)
  clear hb hI hl1 HI HB
  have HR0:=Lib.hid (((one_own (w2.alloc (.cells #[.string ns,.int .i64 po,.int .i64 pu,.int .i64 1] 125)) 32)).base (show w.heap.size≤_ from Nat.le_trans HB2.out.size (by simp)))
  go_wp2_with fail
  refine (HP.out _).mono ?_
  rintro e w3 ⟨v,rfl,hO,hb⟩
  have HB3:=Lib.hid ((bl_al (bl_al HB2.out _) _).trans (hb.mono (by have:=HB2.out.size;simp;omega)))
  obtain ⟨g,cp,rfl,hg⟩:=row_form hO (List.length_pos_iff.2 HNE.out)
  have hin:=hO.in
  have hcl:=by_cells hin
  have hR:=HR0.out.stay hb
  rw [World.size_alloc] at hR
  have HR:=Lib.hid hR
  have r3:=((InB.new w2 #[.string ns,.int .i64 po,.int .i64 pu,.int .i64 1] 125).le (bl_al (Below.refl _ _) (.cells #[.int .u8 (32:Int)] 5))).le hb
  clear hR
  have hbig:=HB3.out.size
  have hlen:=HLEN.out
  clear hO hin
  go_wp2_with (at_builtin;refine wpList_bytes rfl _ _ rfl w.heap.size _ [32] rfl HR.out ⟨g,0,none⟩ cp (putS a) rfl hcl (by simp;omega) hbig ?_)
  intro v2 w4 hO2 hgr _
  have HB4:=Lib.hid (HB3.out.trans (below_own hgr hbig (fun t ht=>(HR.out.lt t ht).1)))
  have HO2:=Lib.hid hO2
  have r4:InB w4 w2.heap.size #[.string ns,.int .i64 po,.int .i64 pu,.int .i64 1] 125:=(hgr.block _ r3.lt (fun e=>by simp [Value.ownBlock] at e)).trans r3
  have q3:=r4.cell (j:=3) rfl
  clear hO2 hgr hcl hbig hlen r3 r4
  go_wp2
  all_goals
    go_ret
    refine ⟨⟨_,rfl,?_,fun h=>absurd h (by rw [HMM.out];simp)⟩,HB4.out⟩
    rw [HL.out]
    exact HO2.out
set_option maxRecDepth 100000 in
set_option maxHeartbeats 1000000 in
theorem refPut_uns (hm:mayI op a=true) (h32:op ≠ 32) (ho:opdI op=true) (h2:a<9223372036854775808):Calls Try.prog 67 #[inV op a] w (PutR w op a):=by
  have HM:=Lib.hid (hm ▸ refMay_any op a)
  have hbyte:=byteI (mayI_kn hm)
  have hk1:1<kiI op:=by
    have h:=ho
    unfold opdI at h
    rw [Bool.and_eq_true,decide_eq_true_iff] at h
    have h1:kiI op ≠ 1:=fun e=>h32 (kiI_one e)
    omega
  obtain ⟨k,hk,rfl⟩:=knI_nat (mayI_kn hm)
  have ha0:0≤a:=by
    rw [mayI_unsigned ho h32] at hm
    exact of_decide_eq_true hm
  obtain ⟨m,rfl⟩:∃ m:Nat,a=m:=⟨a.toNat,by omega⟩
  have hw:IntKind.u64.wrap (m:Int)=(m:Int):=by rw [wrapU64];omega
  have HL:=Lib.hid (show putI k m=[k]++putU m from by unfold putI;rw [hm,if_neg h32,ho];rfl)
  have HT:=Lib.hid (show ∀ W,Calls Try.prog 89 #[.int .i64 (k:Int)] W fun e w'=>e=.returned (.tuple #[.agg #[.string (nmI (k:Int)),.int .i64 (poI (k:Int)),.int .i64 (puI (k:Int)),.int .i64 (kiI (k:Int))],.bool true])∧Below W.heap.size W w' from fun W=>by
    have h:=Table_any (k:Int) W
    unfold tbV rwV at h
    rw [mayI_kn hm] at h
    exact h)
  generalize nmI (k:Int)=ns at HT
  generalize poI (k:Int)=po at HT
  generalize puI (k:Int)=pu at HT
  generalize kiI (k:Int)=ki at HT hk1
  have hki1:¬ ki=1:=by omega
  have HMM:=Lib.hid hm
  have hW:m<W64:=by unfold W64;omega
  have HP:=Lib.hid (refPut_any m hW)
  have HNE:=Lib.hid (putU_ne m)
  have HLEN:=Lib.hid (putU_ten hW)
  clear hm ha0 h2 h32 ho hW
  go_enter Try.func67,Try.ntmps67
  go_wp2_with fail
  refine (HM.out _).mono ?_
  rintro e w1 ⟨rfl,hb⟩
  have hl1:w.heap.size<w1.heap.size:=by have:=hb.size;simp at this;omega
  have hI:=(InB.new w #[.int .i64 (k:Int),.int .i64 (m:Int)] 57).le hb
  have d0:=hI.cell (j:=0) rfl
  have HI:=Lib.hid hI
  have HB:=Lib.hid ((bl_al (Below.refl _ w) _).trans (hb.mono (by simp)))
  clear hb hI
  go_wp2_with fail
  refine (HT.out _).mono ?_
  rintro e w2 ⟨rfl,hb⟩
  have hI:=HI.out.le hb
  have d0:=hI.cell (j:=0) rfl
  have d1:=hI.cell (j:=1) rfl
  have hl2:=hI.lt
  have HB2:=Lib.hid (bl_tr HB.out hb)
  clear hb hI hl1 HI HB
  have HR0:=Lib.hid (((one_own (w2.alloc (.cells #[.string ns,.int .i64 po,.int .i64 pu,.int .i64 ki] 125)) k)).base (show w.heap.size≤_ from Nat.le_trans HB2.out.size (by simp)))
  go_wp2_with fail
  refine (HP.out _).mono ?_
  rintro e w3 ⟨v,rfl,hO,hb⟩
  have HB3:=Lib.hid ((bl_al (bl_al HB2.out _) _).trans (hb.mono (by have:=HB2.out.size;simp;omega)))
  obtain ⟨g,cp,rfl,hg⟩:=row_form hO (List.length_pos_iff.2 HNE.out)
  have hin:=hO.in
  have hcl:=by_cells hin
  have hR:=HR0.out.stay hb
  rw [World.size_alloc] at hR
  have HR:=Lib.hid hR
  have r3:=((InB.new w2 #[.string ns,.int .i64 po,.int .i64 pu,.int .i64 ki] 125).le (bl_al (Below.refl _ _) (.cells #[.int .u8 (k:Int)] 5))).le hb
  clear hR
  have hbig:=HB3.out.size
  have hlen:=HLEN.out
  clear hO hin
  go_wp2_with (at_builtin;refine wpList_bytes rfl _ _ rfl w.heap.size _ [k] rfl HR.out ⟨g,0,none⟩ cp (putU m) rfl hcl (by simp;omega) hbig ?_)
  intro v2 w4 hO2 hgr _
  have HB4:=Lib.hid (HB3.out.trans (below_own hgr hbig (fun t ht=>(HR.out.lt t ht).1)))
  have HO2:=Lib.hid hO2
  have r4:InB w4 w2.heap.size #[.string ns,.int .i64 po,.int .i64 pu,.int .i64 ki] 125:=(hgr.block _ r3.lt (fun e=>by simp [Value.ownBlock] at e)).trans r3
  have q3:=r4.cell (j:=3) rfl
  clear hO2 hgr hcl hbig hlen r3 r4
  go_wp2
  all_goals
    go_ret
    refine ⟨⟨_,rfl,?_,fun h=>absurd h (by rw [HMM.out];simp)⟩,HB4.out⟩
    rw [HL.out]
    exact HO2.out
theorem crPut_any (h1:-9223372036854775808≤a) (h2:a<9223372036854775808):Calls Try.prog 67 #[inV op a] w (PutR w op a):=by
  cases hm:mayI op a
  · exact refPut_no w op a hm
  · by_cases h32:op=32
    · subst h32;exact refPut_const w a h1 h2
    · cases ho:opdI op
      · exact refPut_plain w op a hm h32 ho
      · exact refPut_uns w op a hm h32 ho h2
end
end Go.Proofs.Ytbfkgcapkffecaa
namespace Go.Proofs.Ytbfkgcapkffecaa
open Go Go.RowKit Go.Proofs.Mm Go.Sort
theorem getU_cases (l:List Nat):(getU l).2.2=0 ∨ (getU l=(0,0,30) ∨ getU l=(0,0,31)):=by
  unfold getU
  split
  · exact .inr (.inr rfl)
  · split
    · exact .inr (.inl rfl)
    · split
      · exact .inl rfl
      · exact .inr (.inr rfl)
theorem getS_cases (l:List Nat):(getS l).2.2=0 ∨ (getS l=(0,0,30) ∨ getS l=(0,0,31)):=by
  unfold getS
  split
  · exact .inr (.inr rfl)
  · split
    · exact .inr (.inl rfl)
    · split
      · exact .inl rfl
      · exact .inr (.inr rfl)
def oprI (op:Int) (r:List Nat):Int × Nat × Nat :=
  if op=32 then getS r else if opdI op then (if 9223372036854775807<(getU r).1 then (0,0,100) else (((getU r).1:Int),(getU r).2.1,(getU r).2.2)) else (0,0,0)
def getI:List Nat→Int × Int × Nat × Nat
  | []=>(0,0,0,30)
  | x :: r=>if knI x then (if (oprI x r).2.2=0 then ((x:Int),(oprI x r).1,(oprI x r).2.1+1,0) else (0,0,0,(oprI x r).2.2)) else (0,0,0,100)
theorem getI_cons (x:Nat) (r:List Nat):getI (x :: r)=if knI x then (if (oprI x r).2.2=0 then ((x:Int),(oprI x r).1,(oprI x r).2.1+1,0) else (0,0,0,(oprI x r).2.2)) else (0,0,0,100):=rfl
theorem oprI_err {op:Int} {r:List Nat} (h:(oprI op r).2.2 ≠ 0):oprI op r=(0,0,30) ∨ oprI op r=(0,0,31) ∨ oprI op r=(0,0,100):=by
  unfold oprI at h ⊢
  split at h
  · rename_i h32
    rw [if_pos h32]
    rcases getS_cases r with h0 | h0 | h0
    · exact absurd h0 h
    · exact .inl h0
    · exact .inr (.inl h0)
  · rename_i h32
    rw [if_neg h32]
    split at h
    · rename_i ho
      rw [if_pos ho]
      split at h
      · rename_i hb
        rw [if_pos hb]
        exact .inr (.inr rfl)
      · rename_i hb
        rw [if_neg hb]
        rcases getU_cases r with h0 | h0 | h0
        · exact absurd h0 h
        · rw [h0];exact .inl rfl
        · rw [h0];exact .inr (.inl rfl)
    · exact absurd rfl h
theorem oprI_le (op:Int) (r:List Nat):(oprI op r).2.1≤r.length:=by
  unfold oprI
  split
  · rcases getS_cases r with h | h | h
    · exact (getS_is h).2.1
    · rw [h];exact Nat.zero_le _
    · rw [h];exact Nat.zero_le _
  · split
    · split
      · exact Nat.zero_le _
      · rcases getU_cases r with h | h | h
        · exact (getU_is h).2.1
        · rw [h];exact Nat.zero_le _
        · rw [h];exact Nat.zero_le _
    · exact Nat.zero_le _
theorem results_c3 {P:Program} {fn:Func} {p u v:Tmp} {ty:TypeId} (h:fn.results=#[.cell p ty,.tmp u,.tmp v]) (tmps:Array Value) (w:World) (g:Nat) (t:TypeId) (cs:Array Value) (fr:Nat × Nat) (d:TypeDesc)
    (hp:tmps.getD p undef=.pointer (some ⟨g,0,none⟩)) (hg:w.heap[g]?=some (.cells cs t fr))
    (hu:P.underlying ty=some d) (hd:(match d with | .struct _ | .array _ _=>true | _=>false)=true) (hi:(P.info? ty).map (·.size)=some cs.size) :
    (results fn tmps).run P w=.ok (.tuple #[.agg cs,tmps.getD u undef,tmps.getD v undef]) w:=by
  have hp':tmps[p]?.getD undef=.pointer (some ⟨g,0,none⟩):=by simpa using hp
  simp [results,h,hp',asAddr,run_loadVar_row w g t ty cs fr d hg hu hd hi]
theorem ByIn.tail {B:Nat} {w:World} {b off:Nat} {x:Nat} {r:List Nat} (h:ByIn B w (some ⟨b,off,none⟩) (x :: r)):ByIn B w (some ⟨b,off+1,none⟩) r:=by
  intro i hi
  obtain ⟨b',off',e,hlt,hc⟩:=h (i+1) (by simp;omega)
  injection e with e
  injection e with e1 e2 e3
  subst e1 e2
  refine ⟨b,off+1,rfl,hlt,?_⟩
  rw [show off+1+i=off+(i+1) from by omega]
  exact hc
theorem ByIn.head {B:Nat} {w:World} {p:Option Addr} {x:Nat} {r:List Nat} (h:ByIn B w p (x :: r)):∃ b off,p=some ⟨b,off,none⟩∧b<B∧w.cell? ⟨b,off,none⟩=some (.int .u8 (x:Int)):=by
  obtain ⟨b,off,e,hlt,hc⟩:=h 0 (by simp)
  exact ⟨b,off,e,hlt,hc⟩
def opV (x:Int × Nat × Nat):Value:=.tuple #[.int .i64 x.1,.int .i64 (x.2.1:Nat),.int .i64 (x.2.2:Nat)]
def gtV (x:Int × Int × Nat × Nat):Value:=.tuple #[.agg #[.int .i64 x.1,.int .i64 x.2.1],.int .i64 (x.2.2.1:Nat),.int .i64 (x.2.2.2:Nat)]
set_option maxRecDepth 100000 in
set_option maxHeartbeats 1000000 in
theorem operand_any (op:Int) (p:Option Addr) (c:Nat) (xs:List Nat) (hx:bytesL xs) (hl:xs.length≤c) (hm:c≤maxLen) (w:World) (hp:ByIn w.heap.size w p xs) :
    Calls Try.prog 112 #[.int .i64 op,.slice p xs.length c] w fun e w'=>e=.returned (opV (oprI op xs))∧Below w.heap.size w w':=by
  unfold oprI
  by_cases h32:op=32
  · subst h32
    rw [if_pos rfl]
    unfold opV
    have HG:=Lib.hid (GetSigned_any p c xs hx hl hm w hp)
    generalize getS xs=r at HG ⊢
    generalize xs.length=n at HG ⊢
    clear hx hl hm hp
    go_enter Try.func112,Try.ntmps112
    go_wp2_with fail
    refine HG.out.mono ?_
    rintro e w1 ⟨rfl,hb⟩
    have HB:=Lib.hid hb
    clear hb
    go_wp2
    go_ret3
    exact ⟨rfl,HB.out⟩
  · rw [if_neg h32]
    have h32b:(op == 32)=false:=by rw [beq_eq_false_iff_ne];exact h32
    cases ho:opdI op
    · have HO:=Lib.hid (ho ▸ Operand_any op)
      rw [if_neg (by simp)]
      unfold opV
      clear ho h32 hx hl hm hp
      generalize xs.length=n
      go_enter Try.func112,Try.ntmps112
      go_wp2_with fail
      refine (HO.out _).mono ?_
      rintro e w1 ⟨rfl,rfl⟩
      go_wp2
      go_ret3
      exact ⟨rfl,Below.refl _ _⟩
    · have HO:=Lib.hid (ho ▸ Operand_any op)
      rw [if_pos rfl]
      have HG:=Lib.hid (Get_any p c xs hx hl hm w hp)
      have hlt:(getU xs).1<W64:=by
        rcases getU_cases xs with h0 | h0 | h0
        · exact (getU_is h0).2.2
        · rw [h0];decide
        · rw [h0];decide
      unfold W64 at hlt
      generalize getU xs=r at HG hlt ⊢
      obtain ⟨m,k,er⟩:=r
      simp only at hlt ⊢
      generalize xs.length=n at HG ⊢
      clear hx hl hm hp ho h32
      by_cases hbig:9223372036854775807<m
      · rw [if_pos hbig]
        have hbi:(9223372036854775807:Int)<(m:Int):=by omega
        unfold opV
        clear hbig hlt
        go_enter Try.func112,Try.ntmps112
        go_wp2_with fail
        refine (HO.out _).mono ?_
        rintro e w1 ⟨rfl,rfl⟩
        go_wp2_with fail
        refine HG.out.mono ?_
        rintro e w1 ⟨rfl,hb⟩
        have HB:=Lib.hid hb
        clear hb
        go_wp2
        go_ret3
        exact ⟨rfl,HB.out⟩
      · rw [if_neg hbig]
        have hbi:¬ (9223372036854775807:Int)<(m:Int):=by omega
        have hw:IntKind.i64.wrap (m:Int)=(m:Int):=by rw [wrap_i64];exact wrap_id (by omega) (by omega)
        unfold opV
        clear hbig hlt
        go_enter Try.func112,Try.ntmps112
        go_wp2_with fail
        refine (HO.out _).mono ?_
        rintro e w1 ⟨rfl,rfl⟩
        go_wp2_with fail
        refine HG.out.mono ?_
        rintro e w1 ⟨rfl,hb⟩
        have HB:=Lib.hid hb
        clear hb
        go_wp2
        go_ret3
        exact ⟨rfl,HB.out⟩
set_option maxRecDepth 100000 in
set_option maxHeartbeats 1000000 in
theorem cGet_any (p:Option Addr) (c:Nat) (xs:List Nat) (hx:bytesL xs) (hl:xs.length≤c) (hm:c≤maxLen) (w:World) (hp:ByIn w.heap.size w p xs) :
    Calls Try.prog 106 #[.slice p xs.length c] w fun e w'=>e=.returned (gtV (getI xs))∧Below w.heap.size w w':=by
  cases xs with
  | nil =>
    rw [show gtV (getI [])=.tuple #[.agg #[.int .i64 0,.int .i64 0],.int .i64 0,.int .i64 30] from rfl]
    simp only [List.length_nil]
    clear hx hl hm hp
    go_enter Try.func106,Try.ntmps106
    go_wp2
    try simp only [Exit.inBlock,Exit.then]
    refine bodyPost_ret (v:=.tuple #[.agg #[.int .i64 0,.int .i64 0],.int .i64 0,.int .i64 30]) (by simp [results,Try.results106,go_sem]) rfl ⟨rfl,bl_al (Below.refl _ _) _⟩
  | cons x r =>
    obtain ⟨b,off,rfl,hlt,hc⟩:=hp.head
    have HK:=Lib.hid (isKnown_any (x:Int))
    have hlen:(r.length:Int)+1≤(c:Int):=by simp at hl;omega
    have hx256:x<256:=hx x (List.mem_cons_self ..)
    have hw2:wrap64 (x:Int)=x:=wrap_id (by omega) (by omega)
    have hw1:IntKind.i64.wrap (x:Int)=x:=by rw [wrap_i64];exact hw2
    clear hx256
    have hmx:=hm
    unfold maxLen at hmx
    rw [getI_cons]
    cases hk:knI (x:Int)
    · rw [if_neg (by simp)]
      rw [hk] at HK
      rw [show gtV (0,0,0,100)=.tuple #[.agg #[.int .i64 0,.int .i64 0],.int .i64 0,.int .i64 100] from rfl]
      rw [List.length_cons]
      generalize r.length=n at hlen ⊢
      clear hx hl hm hp hk
      go_enter Try.func106,Try.ntmps106
      go_wp2_with fail
      refine (HK.out _).mono ?_
      rintro e w1 ⟨rfl,rfl⟩
      go_wp2
      try simp only [Exit.inBlock,Exit.then]
      refine bodyPost_ret (v:=.tuple #[.agg #[.int .i64 0,.int .i64 0],.int .i64 0,.int .i64 100]) (by simp [results,Try.results106,go_sem]) rfl ⟨rfl,bl_al (Below.refl _ _) _⟩
    · rw [if_pos rfl]
      rw [hk] at HK
      have HE:=Lib.hid (oprI_err (op:=(x:Int)) (r:=r))
      have hle:=oprI_le (x:Int) r
      rw [List.length_cons]
      by_cases hc1:c=1
      · subst hc1
        have hr0:r=[]:=List.eq_nil_of_length_eq_zero (by omega)
        subst hr0
        have HP:=Lib.hid (fun (W:World) (hb:Below w.heap.size w W)=>operand_any (x:Int) (some ⟨b,off,none⟩) 0 [] (fun y hy=>by cases hy) (Nat.le_refl _) (by omega) W (ByIn.nil _ _ _))
        generalize oprI (x:Int) []=R at HP HE hle ⊢
        simp only [List.length_nil] at HP hlen hle ⊢
        obtain ⟨m,k,er⟩:=R
        unfold opV at HP
        simp only at HE hle ⊢
        clear hx hl hm hp hk
        by_cases he:er=0
        · subst he
          rw [if_pos rfl]
          unfold gtV
          have hwk:wrap64 (1+(k:Int))=(k:Int)+1:=by rw [Int.add_comm];exact wrap_id (by omega) (by omega)
          simp only
          rw [show ((k+1:Nat):Int)=wrap64 (1+(k:Int)) from by rw [hwk];omega]
          clear hwk
          clear HE hle
          go_enter Try.func106,Try.ntmps106
          go_wp2_with fail
          refine (HK.out _).mono ?_
          rintro e w1 ⟨rfl,rfl⟩
          go_wp2_with fail
          refine (HP.out _ (bl_al (Below.refl _ _) _)).mono ?_
          rintro e w2 ⟨rfl,hb⟩
          have hI:=(InB.new w #[.int .i64 0,.int .i64 0] 57).le hb
          have d0:=hI.cell (j:=0) rfl
          have d1:=hI.cell (j:=1) rfl
          have f0:=hI.free 0
          have f1:=hI.free 1
          have hl2:=hI.lt
          have HI:=Lib.hid hI
          have HB:=Lib.hid ((bl_al (Below.refl _ w) _).trans (hb.mono (by simp)))
          clear hb hI
          go_wp2
          refine bodyPost_ret (results_c3 rfl _ _ w.heap.size 57 #[.int .i64 (x:Int),.int .i64 m] (0,0) _ rfl (heap_set (heap_set HI.out 0 _) 1 _) Try.underlying57 rfl (by kernel_rfl)) rfl ⟨rfl,HB.out.set2 (Nat.le_refl _)⟩
        · rw [if_neg he]
          have hz:=HE.out he
          clear HE hle
          rcases hz with hz | hz | hz
          all_goals
            simp only [Prod.mk.injEq] at hz
            obtain ⟨rfl,rfl,rfl⟩:=hz
            clear he
            unfold gtV
            simp only
            go_enter Try.func106,Try.ntmps106
            go_wp2_with fail
            refine (HK.out _).mono ?_
            rintro e w1 ⟨rfl,rfl⟩
            go_wp2_with fail
            refine (HP.out _ (bl_al (Below.refl _ _) _)).mono ?_
            rintro e w2 ⟨rfl,hb⟩
            have hI:=(InB.new w #[.int .i64 0,.int .i64 0] 57).le hb
            have d0:=hI.cell (j:=0) rfl
            have d1:=hI.cell (j:=1) rfl
            have f0:=hI.free 0
            have f1:=hI.free 1
            have hl2:=hI.lt
            have HI:=Lib.hid hI
            have HB:=Lib.hid ((bl_al (Below.refl _ w) _).trans (hb.mono (by simp)))
            clear hb hI
            go_wp2
            refine bodyPost_ret (results_c3 rfl _ _ w.heap.size 57 #[.int .i64 0,.int .i64 0] (0,0) _ rfl (heap_set (heap_set HI.out 0 _) 1 _) Try.underlying57 rfl (by kernel_rfl)) rfl ⟨rfl,HB.out.set2 (Nat.le_refl _)⟩
      · have HP:=Lib.hid (fun (W:World) (hb:Below w.heap.size w W)=>operand_any (x:Int) (some ⟨b,off+1,none⟩) (c - 1) r (fun y hy=>hx y (List.mem_cons_of_mem _ hy)) (by simp at hl;omega) (by omega) W (hp.tail.below hb (Nat.le_refl _) hb.size))
        generalize oprI (x:Int) r=R at HP HE hle ⊢
        generalize r.length=n at HP hlen hle ⊢
        obtain ⟨m,k,er⟩:=R
        unfold opV at HP
        simp only at HE hle ⊢
        clear hx hl hm hp hk
        by_cases he:er=0
        · subst he
          rw [if_pos rfl]
          unfold gtV
          have hwk:wrap64 (1+(k:Int))=(k:Int)+1:=by rw [Int.add_comm];exact wrap_id (by omega) (by omega)
          simp only
          rw [show ((k+1:Nat):Int)=wrap64 (1+(k:Int)) from by rw [hwk];omega]
          clear hwk
          clear HE hle
          go_enter Try.func106,Try.ntmps106
          go_wp2_with fail
          refine (HK.out _).mono ?_
          rintro e w1 ⟨rfl,rfl⟩
          go_wp2_with fail
          refine (HP.out _ (bl_al (Below.refl _ _) _)).mono ?_
          rintro e w2 ⟨rfl,hb⟩
          have hI:=(InB.new w #[.int .i64 0,.int .i64 0] 57).le hb
          have d0:=hI.cell (j:=0) rfl
          have d1:=hI.cell (j:=1) rfl
          have f0:=hI.free 0
          have f1:=hI.free 1
          have hl2:=hI.lt
          have HI:=Lib.hid hI
          have HB:=Lib.hid ((bl_al (Below.refl _ w) _).trans (hb.mono (by simp)))
          clear hb hI
          go_wp2
          refine bodyPost_ret (results_c3 rfl _ _ w.heap.size 57 #[.int .i64 (x:Int),.int .i64 m] (0,0) _ rfl (heap_set (heap_set HI.out 0 _) 1 _) Try.underlying57 rfl (by kernel_rfl)) rfl ⟨rfl,HB.out.set2 (Nat.le_refl _)⟩
        · rw [if_neg he]
          have hz:=HE.out he
          clear HE hle
          rcases hz with hz | hz | hz
          all_goals
            simp only [Prod.mk.injEq] at hz
            obtain ⟨rfl,rfl,rfl⟩:=hz
            clear he
            unfold gtV
            simp only
            go_enter Try.func106,Try.ntmps106
            go_wp2_with fail
            refine (HK.out _).mono ?_
            rintro e w1 ⟨rfl,rfl⟩
            go_wp2_with fail
            refine (HP.out _ (bl_al (Below.refl _ _) _)).mono ?_
            rintro e w2 ⟨rfl,hb⟩
            have hI:=(InB.new w #[.int .i64 0,.int .i64 0] 57).le hb
            have d0:=hI.cell (j:=0) rfl
            have d1:=hI.cell (j:=1) rfl
            have f0:=hI.free 0
            have f1:=hI.free 1
            have hl2:=hI.lt
            have HI:=Lib.hid hI
            have HB:=Lib.hid ((bl_al (Below.refl _ w) _).trans (hb.mono (by simp)))
            clear hb hI
            go_wp2
            refine bodyPost_ret (results_c3 rfl _ _ w.heap.size 57 #[.int .i64 0,.int .i64 0] (0,0) _ rfl (heap_set (heap_set HI.out 0 _) 1 _) Try.underlying57 rfl (by kernel_rfl)) rfl ⟨rfl,HB.out.set2 (Nat.le_refl _)⟩
end Go.Proofs.Ytbfkgcapkffecaa
namespace Go.Proofs.Ytbfkgcapkffecaa
open Go Go.RowKit Go.Proofs.Mm Go.Sort
section
variable (b off c n x:Nat) (w:World) (hb:b<w.heap.size) (hc:w.cell? ⟨b,off,none⟩=some (.int .u8 (x:Int))) (hx:x<256) (hlen:(n:Int)+1≤(c:Int)) (hmx:c≤9223372036854775807)
include hb hc hx hlen hmx
set_option linter.unusedSectionVars false
end
end Go.Proofs.Ytbfkgcapkffecaa
namespace Go.Proofs.Ytbfkgcapkffecaa
open Go Go.RowKit Go.Proofs.Mm Go.Sort
end Go.Proofs.Ytbfkgcapkffecaa
namespace Go.Proofs.Ytbfkgcapkffecaa
open Go Go.RowKit Go.Proofs.Mm Go.Sort
theorem putI_len (op a:Int) (h1:-9223372036854775808≤a) (h2:a<9223372036854775808):(putI op a).length≤11:=by
  unfold putI
  split
  · split
    · have:=putS_ten h1 h2;simp only [List.length_cons];omega
    · split
      · rename_i hm h32 ho
        have ha:0≤a:=by
          rw [mayI_unsigned ho h32] at hm
          exact of_decide_eq_true hm
        have hW:a.toNat<W64:=by unfold W64;omega
        have:=putU_ten hW
        simp only [List.length_cons]
        omega
      · simp
  · simp
end Go.Proofs.Ytbfkgcapkffecaa
namespace Go.Proofs.Ytbfkgcapkffecaa
open Go Go.ChangeShapes Go.WideShapes Go.ChangeAt Go.RowKit Go.Lib
theorem wf_le {k:IntKind} {n:Int} (h:(Lit.int k n).wf=true):k.min≤n∧n≤k.max:=by
  unfold Lit.wf at h
  rw [Bool.and_eq_true,decide_eq_true_eq,decide_eq_true_eq] at h
  exact h
set_option maxRecDepth 100000 in
theorem wf_64 {n:Int} (h:(Lit.int .i64 n).wf=true):-9223372036854775808≤n∧n<9223372036854775808:=by
  have h1:=wf_le h
  have h2:IntKind.min .i64=-9223372036854775808:=by decide
  have h3:IntKind.max .i64=9223372036854775807:=by decide
  rw [h2,h3] at h1
  omega
set_option maxRecDepth 100000 in
theorem ins_open {H:Type} {enc:TypeId × Value→H} {w:World} {n:Nat} {cs:List Value} {d:DataW H} {p:List MemPlace} (hl:cs.length=2) (h:DataW.trod enc Try.prog w 0 (fun _=>true) true n 57 cs=some (d,p)) :
    ∃ op a:Int,cs=[.int .i64 op,.int .i64 a]∧(-9223372036854775808≤a∧a<9223372036854775808)∧(-9223372036854775808≤op∧op<9223372036854775808):=by
  obtain ⟨xs,n',rfl,hx,_,hlen,hf⟩:=DataW.trod_struct Try.underlying57 h
  have h0:=hf 0 _ rfl
  have h1:=hf 1 _ rfl
  match cs,hl with
  | [c0,c1],_ =>
    have l2:xs.length=2:=hlen
    rw [List.getElem?_eq_getElem (by omega)] at h0 h1
    obtain ⟨op,ho,_,hw0⟩:=DataW.trod_int (k:=.i64) (by kernel_rfl) h0
    obtain ⟨a,ha,_,hw1⟩:=DataW.trod_int (k:=.i64) (by kernel_rfl) h1
    have ho':[c0]=[.int .i64 op]:=ho
    have ha':[c1]=[.int .i64 a]:=ha
    injection ho' with e0
    injection ha' with e1
    exact ⟨op,a,by rw [e0,e1],wf_64 hw1,wf_64 hw0⟩
end Go.Proofs.Ytbfkgcapkffecaa
namespace Go.Proofs.Ytbfkgcapkffecaa
open Go Go.RowKit Go.Proofs.Mm Go.ChangeShapes Go.WideShapes
def Wt {H:Type} (t:TypeId) (d:DataW H):Prop:=∀ x ∈ d.weights Try.prog t,x≤reachBytes
theorem all_mem {H:Type} {P:Program} {e:TypeId}:∀ {l:List (DataW H)} {d:DataW H},d ∈ l→∀ x ∈ d.weights P e,x ∈ DataW.weightsAll P e l
  | y :: l,d,hd,x,hx=>by
    simp only [DataW.weightsAll,List.mem_append]
    rcases List.mem_cons.1 hd with rfl | hd
    · exact .inl hx
    · exact .inr (all_mem hd x hx)
theorem enc_range {α:Type} {R:List Value→α→Prop} (f:Nat→α) (g:Nat→List Value):∀ n,(∀ i,i<n→R (g i) (f i))→Enc R ((List.range n).flatMap g) ((List.range n).map f)
  | 0,_=>rfl
  | n+1,h=>by
    rw [List.range_succ,List.flatMap_append,List.map_append]
    refine (enc_range f g n fun i hi=>h i (by omega)).app ?_
    simp only [List.flatMap_cons,List.flatMap_nil,List.append_nil,List.map_cons,List.map_nil]
    exact Enc.one (h n (by omega))
theorem open_sl {H:Type} {enc:TypeId × Value→H} {w:World} {α:Type} [Inhabited α] {t e:TypeId} {size bs fuel:Nat} {cs:List Value} {d:DataW H} {p:List MemPlace} (ht:Try.prog.underlying t=some (.slice e)) (hc:Try.prog.cellsOf e=size) (hs:0<size) (hbs:Try.prog.bytesOf e=bs)
    {R:List Value→α→Prop} (hR:∀ c x,R c x→c.length=size)
    (hopen:∀ n cs' d p,cs'.length=size→DataW.trod enc Try.prog w 0 (fun _=>true) true n e cs'=some (d,p)→Wt e d→∃ a,R cs' a)
    (h:DataW.trod enc Try.prog w 0 (fun _=>true) true fuel t cs=some (d,p)) (hw:Wt t d):∃ v l,cs=[v]∧SlX [] bs (wC w) R v l:=by
  rcases Go.Deep.open_slice ht h with ⟨rfl,hx⟩ | ⟨a,len,cap,m,n,D,Pl,rfl,hb,hl,hm,hmm,hx,hel⟩
  · exact ⟨_,[],rfl,none,0,[],rfl,.inl rfl,.inl rfl,Enc.nil,by simp,by unfold maxLen;omega,fun _=>rfl,by simp⟩
  · rw [if_pos rfl] at hmm
    subst hmm
    rw [hc] at hel
    injection hx with hx1 hx2
    subst hx1
    have hwl:m * bs≤reachBytes:=by
      have:=hw (((List.range len).map D).length+((List.range (m - len)).map fun j=>D (len+j)).length |>.mul (Try.prog.bytesOf e)) (by simp only [DataW.weights,ht];exact List.mem_cons_self ..)
      simp only [List.length_map,List.length_range,hbs] at this
      rw [show len+(m - len)=m by omega] at this
      exact this
    have hDm:∀ i,i<len→D i ∈ ((List.range len).map D):=fun i hi=>List.mem_map.2 ⟨i,List.mem_range.2 hi,rfl⟩
    have hch:∀ i,i<len→∃ y:List Value × α,w.cells? 0 (a.add (i * size)) size=some y.1∧R y.1 y.2:=fun i hi=>by
      obtain ⟨cs',h1,h2⟩:=hel i (by omega)
      obtain ⟨_,hlen,_⟩:=World.cells?_some h1
      obtain ⟨x,hx⟩:=hopen n cs' (D i) (Pl i) hlen h2 (fun x hx=>hw x (by
        simp only [DataW.weights,ht]
        exact List.mem_cons_of_mem _ (List.mem_append_left _ (all_mem (hDm i hi) x hx))))
      exact ⟨(cs',x),h1,hx⟩
    obtain ⟨f,hf⟩:=Go.Deep.choose_lt hch
    have hE:Enc R ((List.range len).flatMap fun i=>(f i).1) ((List.range len).map fun i=>(f i).2):=enc_range _ _ len fun i hi=>(hf i hi).2
    refine ⟨_,(List.range len).map fun i=>(f i).2,rfl,some a,m,(List.range len).flatMap fun i=>(f i).1,by simp,.inl rfl,?_,hE,by simp only [List.length_map,List.length_range];have hrb:reachBytes=140737488351232:=rfl;have:=Nat.mul_le_mul_right bs hl;omega,hm,by simp,by simpa using hl⟩
    rw [List.append_nil]
    by_cases h0:len=0
    · subst h0;exact .inl rfl
    · refine .inr ?_
      obtain ⟨b,off,sp⟩:=a
      have hE':Enc (fun c i=>c=(f i).1∧i<len) ((List.range len).flatMap fun i=>(f i).1) ((List.range len).map fun i=>i):=enc_range _ _ len fun i hi=>⟨rfl,hi⟩
      have hlen:∀ c i,(c=(f i).1∧i<len)→c.length=size:=fun c i ⟨e,hi⟩=>by rw [e];exact hR _ _ (hf i hi).2
      obtain ⟨hL,hA⟩:=encZ_at hlen hE'
      have hsp:sp=none:=by
        obtain ⟨_,h2,h3⟩:=World.cells?_some (hf 0 (by omega)).1
        have h4:=h3 0 hs
        rw [List.getElem?_eq_getElem (by omega)] at h4
        rw [Nat.zero_mul] at h4
        have h5:(((⟨b,off,sp⟩:Addr).add 0).add 0)=⟨b,off,sp⟩:=by simp [Addr.add]
        rw [h5] at h4
        exact cell_spot h4
      subst hsp
      refine ⟨b,off,rfl,fun j u hu=>?_⟩
      have hj:j<len * size:=by
        have:=(List.getElem?_eq_some_iff.1 hu).1
        rw [hL] at this
        simpa using this
      have hq:j / size<len:=(Nat.div_lt_iff_lt_mul hs).2 hj
      obtain ⟨c,⟨e1,_⟩,e2⟩:=hA (j / size) (by simpa using hq)
      have hr:j % size<size:=Nat.mod_lt _ hs
      have e3:=e2 (j % size) hr
      have hjj:j / size * size+j % size=j:=by rw [Nat.mul_comm];exact Nat.div_add_mod j size
      rw [hjj,hu] at e3
      simp only [List.getElem_map,List.getElem_range] at e1
      obtain ⟨_,_,h3⟩:=World.cells?_some (hf (j / size) hq).1
      have h4:=h3 (j % size) hr
      rw [← e1,← e3] at h4
      have h5:(((⟨b,off,none⟩:Addr).add (j / size * size)).add (j % size))=⟨b,off+j,none⟩:=by
        rw [Go.Deep.add_add,hjj]
        unfold Addr.add
        split <;> simp_all
      rw [h5] at h4
      exact h4
end Go.Proofs.Ytbfkgcapkffecaa
namespace Go.Proofs.Ytbfkgcapkffecaa
open Go Go.RowKit Go.Proofs.Mm Go.ChangeShapes Go.WideShapes
structure FnM where
  level:Int
  params:List Int
  results:List Int
  locals:Int
  stack:Int
  code:List (Int × Int)
structure MoM where
  globals:List Int
  arrays:List (Int × Int)
  channels:List Int
  funcs:List FnM
instance:Inhabited FnM:=⟨⟨0,[],[],0,0,[]⟩⟩
def mkL (lt:Bool):List Value:=if lt then [.int .u64 7171] else []
def mkI (lt:Bool):List Value:=if lt then [.int .i64 (-71),.int .i64 0] else []
def mkA (lt:Bool):List Value:=if lt then [.int .i64 (-71),.int .u64 0] else []
def mkF (lt:Bool):List Value:=if lt then [.int .u64 0,.slice none 0 0,.slice none 0 0,.int .i64 0,.int .i64 (-71),.slice none 0 0] else []
abbrev laR (c:List Value) (x:Int):Prop:=c=[.int .u64 x]
abbrev inR (c:List Value) (x:Int × Int):Prop:=c=[.int .i64 x.1,.int .i64 x.2]
abbrev arR (c:List Value) (x:Int × Int):Prop:=c=[.int .i64 x.1,.int .u64 x.2]
def LasR (lt:Bool) (C:Cl) (v:Value) (l:List Int):Prop:=SlX (mkL lt) 8 C laR v l
def CdR (lt:Bool) (C:Cl) (v:Value) (l:List (Int × Int)):Prop:=SlX (mkI lt) 16 C inR v l
def ArsR (lt:Bool) (C:Cl) (v:Value) (l:List (Int × Int)):Prop:=SlX (mkA lt) 16 C arR v l
def FnR1 (lt:Bool) (C:Cl) (c:List Value) (f:FnM):Prop :=
  ∃ vp vr vc,c=[.int .u64 f.level,vp,vr,.int .i64 f.locals,.int .i64 f.stack,vc]∧LasR lt C vp f.params∧LasR lt C vr f.results∧CdR lt C vc f.code
def FnsR (lt:Bool) (C:Cl) (v:Value) (l:List FnM):Prop:=SlX (mkF lt) 96 C (FnR1 lt C) v l
def MoR (lt:Bool) (C:Cl) (v:Value) (m:MoM):Prop :=
  ∃ v1 v2 v3 v4,v=.agg #[v1,v2,v3,v4]∧LasR lt C v1 m.globals∧ArsR lt C v2 m.arrays∧LasR lt C v3 m.channels∧FnsR lt C v4 m.funcs
theorem la_len (c:List Value) (x:Int) (h:laR c x):c.length=1:=by rw [h];rfl
theorem in_len (c:List Value) (x:Int × Int) (h:inR c x):c.length=2:=by rw [h];rfl
theorem ar_len (c:List Value) (x:Int × Int) (h:arR c x):c.length=2:=by rw [h];rfl
section
variable {lt:Bool} {C D:Cl}
theorem fn_len (c:List Value) (f:FnM) (h:FnR1 lt C c f):c.length=6:=by obtain ⟨a,b,e,rfl,_⟩:=h;rfl
theorem LasR.le {v:Value} {l:List Int} (h:LasR lt C v l) (hc:CLe C D):LasR lt D v l:=SlX.mono h hc fun _ _ e=>e
theorem CdR.le {v:Value} {l:List (Int × Int)} (h:CdR lt C v l) (hc:CLe C D):CdR lt D v l:=SlX.mono h hc fun _ _ e=>e
theorem ArsR.le {v:Value} {l:List (Int × Int)} (h:ArsR lt C v l) (hc:CLe C D):ArsR lt D v l:=SlX.mono h hc fun _ _ e=>e
theorem FnR1.le {c:List Value} {f:FnM} (h:FnR1 lt C c f) (hc:CLe C D):FnR1 lt D c f:=by
  obtain ⟨vp,vr,vc,e,h1,h2,h3⟩:=h
  exact ⟨vp,vr,vc,e,h1.le hc,h2.le hc,h3.le hc⟩
theorem FnsR.le {v:Value} {l:List FnM} (h:FnsR lt C v l) (hc:CLe C D):FnsR lt D v l:=SlX.mono h hc fun _ _ e=>e.le hc
end
theorem slx_shape {α:Type} {mk:List Value} {bs:Nat} {C:Cl} {R:List Value→α→Prop} {v:Value} {l:List α} (h:SlX mk bs C R v l):∃ q c,v=.slice q l.length c:=let ⟨q,c,_,e,_⟩:=h;⟨q,c,e⟩
theorem slx_max {α:Type} {mk:List Value} {bs:Nat} {C:Cl} {R:List Value→α→Prop} {v:Value} {l:List α} (h:SlX mk bs C R v l):l.length≤maxLen:=by
  obtain ⟨_,_,_,_,_,_,_,_,h1,_,h2⟩:=h;omega
section
variable {lt:Bool} {C:Cl} {q:Option Addr} {n c:Nat}
theorem slx_at {α:Type} {mk:List Value} {bs:Nat} {R:List Value→α→Prop} {l:List α} {size:Nat} (h:SlX mk (bs+1) C R (.slice q n c) l) (hs:0<size) (hR:∀ c x,R c x→c.length=size) :
    ∀ j (hj:j<l.length),∃ g o e,q=some ⟨g,o,none⟩∧R e l[j]∧∀ r u,r<size→e[r]?=some u→C ⟨g,o+j * size+r,none⟩=some u:=by
  intro j hj
  obtain ⟨q',c',e1,_,_,_,ha,_⟩:=h.at hs hR
  obtain ⟨rfl,_,_⟩:q=q'∧n=l.length∧c=c':=by injection e1 with a b c;exact ⟨a,b,c⟩
  obtain ⟨g,o,e,h1,h2,h3⟩:=ha j hj
  exact ⟨g,o,e,h1,h2,fun r u hr hu=>by rw [Nat.add_assoc];exact h3 r u hr hu⟩
end
section
set_option maxRecDepth 100000
variable {H:Type} {enc:TypeId × Value→H} {w:World} {n:Nat} {cs:List Value} {d:DataW H} {p:List MemPlace}
end
end Go.Proofs.Ytbfkgcapkffecaa
