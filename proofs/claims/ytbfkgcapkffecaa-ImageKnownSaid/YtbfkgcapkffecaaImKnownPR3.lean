/- What instructions take and lay on: effects of package code, in every memory. Bytes of instructions: Put, of package code and of the document's answer, in every memory. Instructions out of bytes: Get, of package code and of the document's answer, in every memory. Get of the document's answer, in ever -/
import Derived.Test.YtbfkgcapkffecaaImKnownPR2
import Derived.Lib.QuietBelow
import Derived.Test.YtbfkgcapkffecaaImKnownPR1
import Derived.ChangeArms
import Derived.Deep.Slices
import Derived.SizedLaws
import Derived.Lib.LaidU8
import Derived.Laws.AppendOwnNone
import Derived.Laws.StructEq
namespace Go.Proofs.Ytbfkgcapkffecaa
open Go Go.RowKit Go.Proofs.Mm
theorem bl_al {W w:World} (h:Below W.heap.size W w) (o:Obj):Below W.heap.size W (w.alloc o):=h.alloc h.size o
theorem bl_tr {W w w':World} (h:Below W.heap.size W w) (k:Below w.heap.size w w'):Below W.heap.size W w':=h.trans (k.mono h.size)
theorem bl_set {W w:World} (h:Below W.heap.size W w) {b j:Nat} (v:Value) (hb:W.heap.size≤b):Below W.heap.size W (w.setCell ⟨b,j,none⟩ v):=h.setCell hb v
theorem cell_b {w w':World} {a:Addr} {v:Value} (h:w.cell? a=some v) (hb:Below w.heap.size w w'):w'.cell? a=some v:=below_cle hb _ _ h
def InB (w:World) (b:Nat) (cs:Array Value) (T:TypeId):Prop:=w.heap[b]?=some (.cells cs T (0,0))
theorem InB.le {w w':World} {b:Nat} {cs:Array Value} {T:TypeId} (h:InB w b cs T) (hb:Below w.heap.size w w'):InB w' b cs T:=(hb.block b (heap_lt h)).trans h
theorem InB.cell {w:World} {b:Nat} {cs:Array Value} {T:TypeId} (h:InB w b cs T) {j:Nat} {v:Value} (hv:cs[j]?=some v):w.cell? ⟨b,j,none⟩=some v:=cell_of h hv
theorem InB.free {w:World} {b:Nat} {cs:Array Value} {T:TypeId} (h:InB w b cs T) (j:Nat):w.frozen? ⟨b,j,none⟩=false:=free_of h
theorem InB.lt {w:World} {b:Nat} {cs:Array Value} {T:TypeId} (h:InB w b cs T):b<w.heap.size:=heap_lt h
theorem InB.new (w:World) (cs:Array Value) (T:TypeId):InB (w.alloc (.cells cs T)) w.heap.size cs T:=heap_alloc_new _ _
theorem InB.new' {w:World} {b:Nat} (cs:Array Value) (T:TypeId) (h:w.heap.size=b):InB (w.alloc (.cells cs T)) b cs T:=by subst h;exact InB.new _ _ _
theorem InB.set2 {w:World} {b c i j:Nat} {x y:Value} {cs:Array Value} {T:TypeId} (h:InB w b cs T) (hn:b ≠ c):InB ((w.setCell ⟨c,i,none⟩ x).setCell ⟨c,j,none⟩ y) b cs T:=heap_other (heap_other h hn) hn
theorem _root_.Go.RowKit.Below.set2 {n:Nat} {W w:World} (h:Below n W w) {c i j:Nat} {x y:Value} (hc:n≤c):Below n W ((w.setCell ⟨c,i,none⟩ x).setCell ⟨c,j,none⟩ y):=(h.setCell hc x).setCell hc y
theorem mayI_kn {op a:Int} (h:mayI op a=true):knI op=true:=by
  cases hk:knI op
  · rw [mayI_none hk] at h;cases h
  · rfl
end Go.Proofs.Ytbfkgcapkffecaa
namespace Go.Proofs.Ytbfkgcapkffecaa
open Go Go.RowKit Go.Proofs.Mm Go.Sort
def putI (op a:Int):List Nat:=if mayI op a then op.toNat :: (if op=32 then putS a else if opdI op then putU a.toNat else []) else []
structure PutR (w:World) (op a:Int) (e:Ending) (w':World):Prop where
  val:∃ v,e=.returned v∧OwnB w.heap.size w' v (putI op a)∧(mayI op a=false→v=.slice none 0 0)
  bl:Below w.heap.size w w'
theorem wrapU64 (z:Int):IntKind.u64.wrap z=z % 18446744073709551616:=by simp [IntKind.wrap,IntKind.signed,IntKind.bits]
theorem byteI {op:Int} (h:knI op=true):IntKind.u8.wrap op=op:=by
  obtain ⟨k,hk,rfl⟩:=knI_nat h
  rw [byteU]
  omega
theorem one_own (w:World) (x:Nat):OwnB w.heap.size (w.alloc (.cells #[.int .u8 (x:Int)] 5)) (.slice (some ⟨w.heap.size,0,none⟩) 1 1) [x] :=
  World.ownsRow_lit w #[.int .u8 (x:Int)] 1 (Nat.le_refl _) (by unfold maxLen;omega) rfl
section
variable (w:World) (op a:Int)
set_option maxRecDepth 100000 in
set_option maxHeartbeats 1000000 in
theorem Put_no (hm:mayI op a=false):Calls Try.prog 101 #[inV op a] w (PutR w op a):=by
  have HM:=Lib.hid (hm ▸ May_any op a)
  go_enter Try.func101,Try.ntmps101
  go_wp2_with fail
  refine (HM.out _).mono ?_
  rintro e w1 ⟨rfl,hb⟩
  have HB:=Lib.hid ((bl_al (Below.refl _ w) _).trans (hb.mono (by simp)))
  clear hb
  go_wp2
  go_ret
  refine ⟨⟨_,rfl,?_,fun _=>rfl⟩,HB.out⟩
  rw [show putI op a=[] from by unfold putI;rw [hm];rfl]
  exact World.ownsRow_nil _ _ _ _
set_option maxRecDepth 100000 in
set_option maxHeartbeats 1000000 in
theorem Put_plain (hm:mayI op a=true) (h32:op ≠ 32) (ho:opdI op=false):Calls Try.prog 101 #[inV op a] w (PutR w op a):=by
  have HM:=Lib.hid (hm ▸ May_any op a)
  have HO:=Lib.hid (ho ▸ Operand_any op)
  have hbyte:=byteI (mayI_kn hm)
  have h32b:(op == 32)=false:=by rw [beq_eq_false_iff_ne];exact h32
  obtain ⟨k,hk,rfl⟩:=knI_nat (mayI_kn hm)
  have HL:=Lib.hid (show putI k a=[k] from by unfold putI;rw [hm,if_neg h32,ho];rfl)
  have HMM:=Lib.hid hm
  clear hm ho h32
  go_enter Try.func101,Try.ntmps101
  go_wp2_with fail
  refine (HM.out _).mono ?_
  rintro e w1 ⟨rfl,hb⟩
  have hl1:w.heap.size<w1.heap.size:=by have:=hb.size;simp at this;omega
  have hI:=(InB.new w #[.int .i64 (k:Int),.int .i64 a] 57).le hb
  have d0:=hI.cell (j:=0) rfl
  have d1:=hI.cell (j:=1) rfl
  have HB:=Lib.hid ((bl_al (Below.refl _ w) _).trans (hb.mono (by simp)))
  clear hb hI
  go_wp2_with fail
  refine (HO.out _).mono ?_
  rintro e w2 ⟨rfl,rfl⟩
  go_wp2
  go_ret
  refine ⟨⟨_,rfl,?_,fun h=>absurd h (by rw [HMM.out];simp)⟩,bl_al HB.out _⟩
  rw [HL.out]
  exact (one_own w1 k).base HB.out.size
set_option maxRecDepth 100000 in
set_option maxHeartbeats 1000000 in
theorem Put_const (h1:-9223372036854775808≤a) (h2:a<9223372036854775808):Calls Try.prog 101 #[inV 32 a] w (PutR w 32 a):=by
  have hm:mayI 32 a=true:=mayI_const a
  have HM:=Lib.hid (hm ▸ May_any 32 a)
  have HL:=Lib.hid (show putI 32 a=[32]++putS a from by unfold putI;rw [hm];rfl)
  have HMM:=Lib.hid hm
  clear hm
  go_enter Try.func101,Try.ntmps101
  go_wp2_with fail
  refine (HM.out _).mono ?_
  rintro e w1 ⟨rfl,hb⟩
  have hl1:w.heap.size<w1.heap.size:=by have:=hb.size;simp at this;omega
  have hI:=(InB.new w #[.int .i64 32,.int .i64 a] 57).le hb
  have d0:=hI.cell (j:=0) rfl
  have d1:=hI.cell (j:=1) rfl
  have HB:=Lib.hid ((bl_al (Below.refl _ w) _).trans (hb.mono (by simp)))
  clear hb hI
  have HP:=Lib.hid (fun (W:World) (hs:ByIn W.heap.size W (some ⟨w1.heap.size,0,none⟩) [32])=>PutSigned_any (some ⟨w1.heap.size,0,none⟩) 1 [32] a h1 h2 (.inr ⟨_,rfl⟩) (by simp) W hs)
  clear h1 h2
  have HO1:=Lib.hid (one_own w1 32)
  go_wp2_with fail
  refine (HP.out _ HO1.out.in).mono ?_
  rintro e w2 ⟨v,rfl,hO,hb⟩
  have HO:=Lib.hid (hO.base (Nat.le_trans HB.out.size (by simp)))
  have HB2:=Lib.hid ((bl_al HB.out _).trans (hb.mono (by have:=HB.out.size;simp;omega)))
  clear hO hb
  go_wp2
  go_ret
  refine ⟨⟨_,rfl,?_,fun h=>absurd h (by rw [HMM.out];simp)⟩,HB2.out⟩
  rw [HL.out]
  exact HO.out
set_option maxRecDepth 100000 in
set_option maxHeartbeats 1000000 in
theorem Put_uns (hm:mayI op a=true) (h32:op ≠ 32) (ho:opdI op=true) (h2:a<9223372036854775808):Calls Try.prog 101 #[inV op a] w (PutR w op a):=by
  have HM:=Lib.hid (hm ▸ May_any op a)
  have HO:=Lib.hid (ho ▸ Operand_any op)
  have hbyte:=byteI (mayI_kn hm)
  have h32b:(op == 32)=false:=by rw [beq_eq_false_iff_ne];exact h32
  obtain ⟨k,hk,rfl⟩:=knI_nat (mayI_kn hm)
  have ha0:0≤a:=by
    rw [mayI_unsigned ho h32] at hm
    exact of_decide_eq_true hm
  obtain ⟨m,rfl⟩:∃ m:Nat,a=m:=⟨a.toNat,by omega⟩
  have hw:IntKind.u64.wrap (m:Int)=(m:Int):=by rw [wrapU64];omega
  have HL:=Lib.hid (show putI k m=[k]++putU m from by unfold putI;rw [hm,if_neg h32,ho];rfl)
  have HMM:=Lib.hid hm
  clear hm ho h32
  go_enter Try.func101,Try.ntmps101
  go_wp2_with fail
  refine (HM.out _).mono ?_
  rintro e w1 ⟨rfl,hb⟩
  have hl1:w.heap.size<w1.heap.size:=by have:=hb.size;simp at this;omega
  have hI:=(InB.new w #[.int .i64 (k:Int),.int .i64 (m:Int)] 57).le hb
  have d0:=hI.cell (j:=0) rfl
  have d1:=hI.cell (j:=1) rfl
  have HB:=Lib.hid ((bl_al (Below.refl _ w) _).trans (hb.mono (by simp)))
  clear hb hI
  have HP:=Lib.hid (fun (W:World) (hs:ByIn W.heap.size W (some ⟨w1.heap.size,0,none⟩) [k])=>Put_any (some ⟨w1.heap.size,0,none⟩) 1 [k] m (by unfold W64;omega) (.inr ⟨_,rfl⟩) (by simp) W hs)
  clear ha0 h2
  have HO1:=Lib.hid (one_own w1 k)
  go_wp2_with fail
  refine (HO.out _).mono ?_
  rintro e w3 ⟨rfl,rfl⟩
  go_wp2_with fail
  refine (HP.out _ HO1.out.in).mono ?_
  rintro e w2 ⟨v,rfl,hO,hb⟩
  have HO:=Lib.hid (hO.base (Nat.le_trans HB.out.size (by simp)))
  have HB2:=Lib.hid ((bl_al HB.out _).trans (hb.mono (by have:=HB.out.size;simp;omega)))
  clear hO hb
  go_wp2
  go_ret
  refine ⟨⟨_,rfl,?_,fun h=>absurd h (by rw [HMM.out];simp)⟩,HB2.out⟩
  rw [HL.out]
  exact HO.out
theorem cPut_any (h1:-9223372036854775808≤a) (h2:a<9223372036854775808):Calls Try.prog 101 #[inV op a] w (PutR w op a):=by
  cases hm:mayI op a
  · exact Put_no w op a hm
  · by_cases h32:op=32
    · subst h32;exact Put_const w a h1 h2
    · cases ho:opdI op
      · exact Put_plain w op a hm h32 ho
      · exact Put_uns w op a hm h32 ho h2
end
end Go.Proofs.Ytbfkgcapkffecaa
namespace Go.Proofs.Ytbfkgcapkffecaa
open Go Go.RowKit Go.Proofs.Mm Go.Sort
theorem getU_cases (l:List Nat):(getU l).2.2=0 ∨ (getU l=(0,0,30) ∨ getU l=(0,0,31)):=by
  unfold getU
  split
  · exact .inr (.inr rfl)
  · split
    · exact .inr (.inl rfl)
    · split
      · exact .inl rfl
      · exact .inr (.inr rfl)
theorem getS_cases (l:List Nat):(getS l).2.2=0 ∨ (getS l=(0,0,30) ∨ getS l=(0,0,31)):=by
  unfold getS
  split
  · exact .inr (.inr rfl)
  · split
    · exact .inr (.inl rfl)
    · split
      · exact .inl rfl
      · exact .inr (.inr rfl)
def oprI (op:Int) (r:List Nat):Int × Nat × Nat :=
  if op=32 then getS r else if opdI op then (if 9223372036854775807<(getU r).1 then (0,0,100) else (((getU r).1:Int),(getU r).2.1,(getU r).2.2)) else (0,0,0)
def getI:List Nat→Int × Int × Nat × Nat
  | []=>(0,0,0,30)
  | x :: r=>if knI x then (if (oprI x r).2.2=0 then ((x:Int),(oprI x r).1,(oprI x r).2.1+1,0) else (0,0,0,(oprI x r).2.2)) else (0,0,0,100)
theorem getI_cons (x:Nat) (r:List Nat):getI (x :: r)=if knI x then (if (oprI x r).2.2=0 then ((x:Int),(oprI x r).1,(oprI x r).2.1+1,0) else (0,0,0,(oprI x r).2.2)) else (0,0,0,100):=rfl
theorem oprI_err {op:Int} {r:List Nat} (h:(oprI op r).2.2 ≠ 0):oprI op r=(0,0,30) ∨ oprI op r=(0,0,31) ∨ oprI op r=(0,0,100):=by
  unfold oprI at h ⊢
  split at h
  · rename_i h32
    rw [if_pos h32]
    rcases getS_cases r with h0 | h0 | h0
    · exact absurd h0 h
    · exact .inl h0
    · exact .inr (.inl h0)
  · rename_i h32
    rw [if_neg h32]
    split at h
    · rename_i ho
      rw [if_pos ho]
      split at h
      · rename_i hb
        rw [if_pos hb]
        exact .inr (.inr rfl)
      · rename_i hb
        rw [if_neg hb]
        rcases getU_cases r with h0 | h0 | h0
        · exact absurd h0 h
        · rw [h0];exact .inl rfl
        · rw [h0];exact .inr (.inl rfl)
    · exact absurd rfl h
theorem oprI_le (op:Int) (r:List Nat):(oprI op r).2.1≤r.length:=by
  unfold oprI
  split
  · rcases getS_cases r with h | h | h
    · exact (getS_is h).2.1
    · rw [h];exact Nat.zero_le _
    · rw [h];exact Nat.zero_le _
  · split
    · split
      · exact Nat.zero_le _
      · rcases getU_cases r with h | h | h
        · exact (getU_is h).2.1
        · rw [h];exact Nat.zero_le _
        · rw [h];exact Nat.zero_le _
    · exact Nat.zero_le _
theorem results_c3 {P:Program} {fn:Func} {p u v:Tmp} {ty:TypeId} (h:fn.results=#[.cell p ty,.tmp u,.tmp v]) (tmps:Array Value) (w:World) (g:Nat) (t:TypeId) (cs:Array Value) (fr:Nat × Nat) (d:TypeDesc)
    (hp:tmps.getD p undef=.pointer (some ⟨g,0,none⟩)) (hg:w.heap[g]?=some (.cells cs t fr))
    (hu:P.underlying ty=some d) (hd:(match d with | .struct _ | .array _ _=>true | _=>false)=true) (hi:(P.info? ty).map (·.size)=some cs.size) :
    (results fn tmps).run P w=.ok (.tuple #[.agg cs,tmps.getD u undef,tmps.getD v undef]) w:=by
  have hp':tmps[p]?.getD undef=.pointer (some ⟨g,0,none⟩):=by simpa using hp
  simp [results,h,hp',asAddr,run_loadVar_row w g t ty cs fr d hg hu hd hi]
theorem ByIn.tail {B:Nat} {w:World} {b off:Nat} {x:Nat} {r:List Nat} (h:ByIn B w (some ⟨b,off,none⟩) (x :: r)):ByIn B w (some ⟨b,off+1,none⟩) r:=by
  intro i hi
  obtain ⟨b',off',e,hlt,hc⟩:=h (i+1) (by simp;omega)
  injection e with e
  injection e with e1 e2 e3
  subst e1 e2
  refine ⟨b,off+1,rfl,hlt,?_⟩
  rw [show off+1+i=off+(i+1) from by omega]
  exact hc
theorem ByIn.head {B:Nat} {w:World} {p:Option Addr} {x:Nat} {r:List Nat} (h:ByIn B w p (x :: r)):∃ b off,p=some ⟨b,off,none⟩∧b<B∧w.cell? ⟨b,off,none⟩=some (.int .u8 (x:Int)):=by
  obtain ⟨b,off,e,hlt,hc⟩:=h 0 (by simp)
  exact ⟨b,off,e,hlt,hc⟩
def opV (x:Int × Nat × Nat):Value:=.tuple #[.int .i64 x.1,.int .i64 (x.2.1:Nat),.int .i64 (x.2.2:Nat)]
def gtV (x:Int × Int × Nat × Nat):Value:=.tuple #[.agg #[.int .i64 x.1,.int .i64 x.2.1],.int .i64 (x.2.2.1:Nat),.int .i64 (x.2.2.2:Nat)]
set_option maxRecDepth 100000 in
set_option maxHeartbeats 1000000 in
theorem operand_any (op:Int) (p:Option Addr) (c:Nat) (xs:List Nat) (hx:bytesL xs) (hl:xs.length≤c) (hm:c≤maxLen) (w:World) (hp:ByIn w.heap.size w p xs) :
    Calls Try.prog 112 #[.int .i64 op,.slice p xs.length c] w fun e w'=>e=.returned (opV (oprI op xs))∧Below w.heap.size w w':=by
  unfold oprI
  by_cases h32:op=32
  · subst h32
    rw [if_pos rfl]
    unfold opV
    have HG:=Lib.hid (GetSigned_any p c xs hx hl hm w hp)
    generalize getS xs=r at HG ⊢
    generalize xs.length=n at HG ⊢
    clear hx hl hm hp
    go_enter Try.func112,Try.ntmps112
    go_wp2_with fail
    refine HG.out.mono ?_
    rintro e w1 ⟨rfl,hb⟩
    have HB:=Lib.hid hb
    clear hb
    go_wp2
    go_ret3
    exact ⟨rfl,HB.out⟩
  · rw [if_neg h32]
    have h32b:(op == 32)=false:=by rw [beq_eq_false_iff_ne];exact h32
    cases ho:opdI op
    · have HO:=Lib.hid (ho ▸ Operand_any op)
      rw [if_neg (by simp)]
      unfold opV
      clear ho h32 hx hl hm hp
      generalize xs.length=n
      go_enter Try.func112,Try.ntmps112
      go_wp2_with fail
      refine (HO.out _).mono ?_
      rintro e w1 ⟨rfl,rfl⟩
      go_wp2
      go_ret3
      exact ⟨rfl,Below.refl _ _⟩
    · have HO:=Lib.hid (ho ▸ Operand_any op)
      rw [if_pos rfl]
      have HG:=Lib.hid (Get_any p c xs hx hl hm w hp)
      have hlt:(getU xs).1<W64:=by
        rcases getU_cases xs with h0 | h0 | h0
        · exact (getU_is h0).2.2
        · rw [h0];decide
        · rw [h0];decide
      unfold W64 at hlt
      generalize getU xs=r at HG hlt ⊢
      obtain ⟨m,k,er⟩:=r
      simp only at hlt ⊢
      generalize xs.length=n at HG ⊢
      clear hx hl hm hp ho h32
      by_cases hbig:9223372036854775807<m
      · rw [if_pos hbig]
        have hbi:(9223372036854775807:Int)<(m:Int):=by omega
        unfold opV
        clear hbig hlt
        go_enter Try.func112,Try.ntmps112
        go_wp2_with fail
        refine (HO.out _).mono ?_
        rintro e w1 ⟨rfl,rfl⟩
        go_wp2_with fail
        refine HG.out.mono ?_
        rintro e w1 ⟨rfl,hb⟩
        have HB:=Lib.hid hb
        clear hb
        go_wp2
        go_ret3
        exact ⟨rfl,HB.out⟩
      · rw [if_neg hbig]
        have hbi:¬ (9223372036854775807:Int)<(m:Int):=by omega
        have hw:IntKind.i64.wrap (m:Int)=(m:Int):=by rw [wrap_i64];exact wrap_id (by omega) (by omega)
        unfold opV
        clear hbig hlt
        go_enter Try.func112,Try.ntmps112
        go_wp2_with fail
        refine (HO.out _).mono ?_
        rintro e w1 ⟨rfl,rfl⟩
        go_wp2_with fail
        refine HG.out.mono ?_
        rintro e w1 ⟨rfl,hb⟩
        have HB:=Lib.hid hb
        clear hb
        go_wp2
        go_ret3
        exact ⟨rfl,HB.out⟩
set_option maxRecDepth 100000 in
set_option maxHeartbeats 1000000 in
theorem cGet_any (p:Option Addr) (c:Nat) (xs:List Nat) (hx:bytesL xs) (hl:xs.length≤c) (hm:c≤maxLen) (w:World) (hp:ByIn w.heap.size w p xs) :
    Calls Try.prog 106 #[.slice p xs.length c] w fun e w'=>e=.returned (gtV (getI xs))∧Below w.heap.size w w':=by
  cases xs with
  | nil =>
    rw [show gtV (getI [])=.tuple #[.agg #[.int .i64 0,.int .i64 0],.int .i64 0,.int .i64 30] from rfl]
    simp only [List.length_nil]
    clear hx hl hm hp
    go_enter Try.func106,Try.ntmps106
    go_wp2
    try simp only [Exit.inBlock,Exit.then]
    refine bodyPost_ret (v:=.tuple #[.agg #[.int .i64 0,.int .i64 0],.int .i64 0,.int .i64 30]) (by simp [results,Try.results106,go_sem]) rfl ⟨rfl,bl_al (Below.refl _ _) _⟩
  | cons x r =>
    obtain ⟨b,off,rfl,hlt,hc⟩:=hp.head
    have HK:=Lib.hid (isKnown_any (x:Int))
    have hlen:(r.length:Int)+1≤(c:Int):=by simp at hl;omega
    have hx256:x<256:=hx x (List.mem_cons_self ..)
    have hw2:wrap64 (x:Int)=x:=wrap_id (by omega) (by omega)
    have hw1:IntKind.i64.wrap (x:Int)=x:=by rw [wrap_i64];exact hw2
    clear hx256
    have hmx:=hm
    unfold maxLen at hmx
    rw [getI_cons]
    cases hk:knI (x:Int)
    · rw [if_neg (by simp)]
      rw [hk] at HK
      rw [show gtV (0,0,0,100)=.tuple #[.agg #[.int .i64 0,.int .i64 0],.int .i64 0,.int .i64 100] from rfl]
      rw [List.length_cons]
      generalize r.length=n at hlen ⊢
      clear hx hl hm hp hk
      go_enter Try.func106,Try.ntmps106
      go_wp2_with fail
      refine (HK.out _).mono ?_
      rintro e w1 ⟨rfl,rfl⟩
      go_wp2
      try simp only [Exit.inBlock,Exit.then]
      refine bodyPost_ret (v:=.tuple #[.agg #[.int .i64 0,.int .i64 0],.int .i64 0,.int .i64 100]) (by simp [results,Try.results106,go_sem]) rfl ⟨rfl,bl_al (Below.refl _ _) _⟩
    · rw [if_pos rfl]
      rw [hk] at HK
      have HE:=Lib.hid (oprI_err (op:=(x:Int)) (r:=r))
      have hle:=oprI_le (x:Int) r
      rw [List.length_cons]
      by_cases hc1:c=1
      · subst hc1
        have hr0:r=[]:=List.eq_nil_of_length_eq_zero (by omega)
        subst hr0
        have HP:=Lib.hid (fun (W:World) (hb:Below w.heap.size w W)=>operand_any (x:Int) (some ⟨b,off,none⟩) 0 [] (fun y hy=>by cases hy) (Nat.le_refl _) (by omega) W (ByIn.nil _ _ _))
        generalize oprI (x:Int) []=R at HP HE hle ⊢
        simp only [List.length_nil] at HP hlen hle ⊢
        obtain ⟨m,k,er⟩:=R
        unfold opV at HP
        simp only at HE hle ⊢
        clear hx hl hm hp hk
        by_cases he:er=0
        · subst he
          rw [if_pos rfl]
          unfold gtV
          have hwk:wrap64 (1+(k:Int))=(k:Int)+1:=by rw [Int.add_comm];exact wrap_id (by omega) (by omega)
          simp only
          rw [show ((k+1:Nat):Int)=wrap64 (1+(k:Int)) from by rw [hwk];omega]
          clear hwk
          clear HE hle
          go_enter Try.func106,Try.ntmps106
          go_wp2_with fail
          refine (HK.out _).mono ?_
          rintro e w1 ⟨rfl,rfl⟩
          go_wp2_with fail
          refine (HP.out _ (bl_al (Below.refl _ _) _)).mono ?_
          rintro e w2 ⟨rfl,hb⟩
          have hI:=(InB.new w #[.int .i64 0,.int .i64 0] 57).le hb
          have d0:=hI.cell (j:=0) rfl
          have d1:=hI.cell (j:=1) rfl
          have f0:=hI.free 0
          have f1:=hI.free 1
          have hl2:=hI.lt
          have HI:=Lib.hid hI
          have HB:=Lib.hid ((bl_al (Below.refl _ w) _).trans (hb.mono (by simp)))
          clear hb hI
          go_wp2
          refine bodyPost_ret (results_c3 rfl _ _ w.heap.size 57 #[.int .i64 (x:Int),.int .i64 m] (0,0) _ rfl (heap_set (heap_set HI.out 0 _) 1 _) Try.underlying57 rfl (by kernel_rfl)) rfl ⟨rfl,HB.out.set2 (Nat.le_refl _)⟩
        · rw [if_neg he]
          have hz:=HE.out he
          clear HE hle
          rcases hz with hz | hz | hz
          all_goals
            simp only [Prod.mk.injEq] at hz
            obtain ⟨rfl,rfl,rfl⟩:=hz
            clear he
            unfold gtV
            simp only
            go_enter Try.func106,Try.ntmps106
            go_wp2_with fail
            refine (HK.out _).mono ?_
            rintro e w1 ⟨rfl,rfl⟩
            go_wp2_with fail
            refine (HP.out _ (bl_al (Below.refl _ _) _)).mono ?_
            rintro e w2 ⟨rfl,hb⟩
            have hI:=(InB.new w #[.int .i64 0,.int .i64 0] 57).le hb
            have d0:=hI.cell (j:=0) rfl
            have d1:=hI.cell (j:=1) rfl
            have f0:=hI.free 0
            have f1:=hI.free 1
            have hl2:=hI.lt
            have HI:=Lib.hid hI
            have HB:=Lib.hid ((bl_al (Below.refl _ w) _).trans (hb.mono (by simp)))
            clear hb hI
            go_wp2
            refine bodyPost_ret (results_c3 rfl _ _ w.heap.size 57 #[.int .i64 0,.int .i64 0] (0,0) _ rfl (heap_set (heap_set HI.out 0 _) 1 _) Try.underlying57 rfl (by kernel_rfl)) rfl ⟨rfl,HB.out.set2 (Nat.le_refl _)⟩
      · have HP:=Lib.hid (fun (W:World) (hb:Below w.heap.size w W)=>operand_any (x:Int) (some ⟨b,off+1,none⟩) (c - 1) r (fun y hy=>hx y (List.mem_cons_of_mem _ hy)) (by simp at hl;omega) (by omega) W (hp.tail.below hb (Nat.le_refl _) hb.size))
        generalize oprI (x:Int) r=R at HP HE hle ⊢
        generalize r.length=n at HP hlen hle ⊢
        obtain ⟨m,k,er⟩:=R
        unfold opV at HP
        simp only at HE hle ⊢
        clear hx hl hm hp hk
        by_cases he:er=0
        · subst he
          rw [if_pos rfl]
          unfold gtV
          have hwk:wrap64 (1+(k:Int))=(k:Int)+1:=by rw [Int.add_comm];exact wrap_id (by omega) (by omega)
          simp only
          rw [show ((k+1:Nat):Int)=wrap64 (1+(k:Int)) from by rw [hwk];omega]
          clear hwk
          clear HE hle
          go_enter Try.func106,Try.ntmps106
          go_wp2_with fail
          refine (HK.out _).mono ?_
          rintro e w1 ⟨rfl,rfl⟩
          go_wp2_with fail
          refine (HP.out _ (bl_al (Below.refl _ _) _)).mono ?_
          rintro e w2 ⟨rfl,hb⟩
          have hI:=(InB.new w #[.int .i64 0,.int .i64 0] 57).le hb
          have d0:=hI.cell (j:=0) rfl
          have d1:=hI.cell (j:=1) rfl
          have f0:=hI.free 0
          have f1:=hI.free 1
          have hl2:=hI.lt
          have HI:=Lib.hid hI
          have HB:=Lib.hid ((bl_al (Below.refl _ w) _).trans (hb.mono (by simp)))
          clear hb hI
          go_wp2
          refine bodyPost_ret (results_c3 rfl _ _ w.heap.size 57 #[.int .i64 (x:Int),.int .i64 m] (0,0) _ rfl (heap_set (heap_set HI.out 0 _) 1 _) Try.underlying57 rfl (by kernel_rfl)) rfl ⟨rfl,HB.out.set2 (Nat.le_refl _)⟩
        · rw [if_neg he]
          have hz:=HE.out he
          clear HE hle
          rcases hz with hz | hz | hz
          all_goals
            simp only [Prod.mk.injEq] at hz
            obtain ⟨rfl,rfl,rfl⟩:=hz
            clear he
            unfold gtV
            simp only
            go_enter Try.func106,Try.ntmps106
            go_wp2_with fail
            refine (HK.out _).mono ?_
            rintro e w1 ⟨rfl,rfl⟩
            go_wp2_with fail
            refine (HP.out _ (bl_al (Below.refl _ _) _)).mono ?_
            rintro e w2 ⟨rfl,hb⟩
            have hI:=(InB.new w #[.int .i64 0,.int .i64 0] 57).le hb
            have d0:=hI.cell (j:=0) rfl
            have d1:=hI.cell (j:=1) rfl
            have f0:=hI.free 0
            have f1:=hI.free 1
            have hl2:=hI.lt
            have HI:=Lib.hid hI
            have HB:=Lib.hid ((bl_al (Below.refl _ w) _).trans (hb.mono (by simp)))
            clear hb hI
            go_wp2
            refine bodyPost_ret (results_c3 rfl _ _ w.heap.size 57 #[.int .i64 0,.int .i64 0] (0,0) _ rfl (heap_set (heap_set HI.out 0 _) 1 _) Try.underlying57 rfl (by kernel_rfl)) rfl ⟨rfl,HB.out.set2 (Nat.le_refl _)⟩
end Go.Proofs.Ytbfkgcapkffecaa
namespace Go.Proofs.Ytbfkgcapkffecaa
open Go Go.RowKit Go.Proofs.Mm Go.Sort
section
variable (b off c n x:Nat) (w:World) (hb:b<w.heap.size) (hc:w.cell? ⟨b,off,none⟩=some (.int .u8 (x:Int))) (hx:x<256) (hlen:(n:Int)+1≤(c:Int)) (hmx:c≤9223372036854775807)
include hb hc hx hlen hmx
set_option linter.unusedSectionVars false
end
end Go.Proofs.Ytbfkgcapkffecaa
namespace Go.Proofs.Ytbfkgcapkffecaa
open Go Go.RowKit Go.Proofs.Mm Go.Sort
end Go.Proofs.Ytbfkgcapkffecaa
namespace Go.Proofs.Ytbfkgcapkffecaa
open Go Go.RowKit Go.Proofs.Mm Go.Sort
theorem putI_len (op a:Int) (h1:-9223372036854775808≤a) (h2:a<9223372036854775808):(putI op a).length≤11:=by
  unfold putI
  split
  · split
    · have:=putS_ten h1 h2;simp only [List.length_cons];omega
    · split
      · rename_i hm h32 ho
        have ha:0≤a:=by
          rw [mayI_unsigned ho h32] at hm
          exact of_decide_eq_true hm
        have hW:a.toNat<W64:=by unfold W64;omega
        have:=putU_ten hW
        simp only [List.length_cons]
        omega
      · simp
  · simp
end Go.Proofs.Ytbfkgcapkffecaa
namespace Go.Proofs.Ytbfkgcapkffecaa
open Go Go.ChangeShapes Go.WideShapes Go.ChangeAt Go.RowKit Go.Lib
end Go.Proofs.Ytbfkgcapkffecaa
namespace Go.Proofs.Ytbfkgcapkffecaa
open Go Go.RowKit Go.Proofs.Mm Go.ChangeShapes Go.WideShapes
end Go.Proofs.Ytbfkgcapkffecaa
namespace Go.Proofs.Ytbfkgcapkffecaa
open Go Go.RowKit Go.Proofs.Mm Go.ChangeShapes Go.WideShapes
structure FnM where
  level:Int
  params:List Int
  results:List Int
  locals:Int
  stack:Int
  code:List (Int × Int)
structure MoM where
  globals:List Int
  arrays:List (Int × Int)
  channels:List Int
  funcs:List FnM
instance:Inhabited FnM:=⟨⟨0,[],[],0,0,[]⟩⟩
def mkL (lt:Bool):List Value:=if lt then [.int .u64 7171] else []
def mkI (lt:Bool):List Value:=if lt then [.int .i64 (-71),.int .i64 0] else []
def mkA (lt:Bool):List Value:=if lt then [.int .i64 (-71),.int .u64 0] else []
def mkF (lt:Bool):List Value:=if lt then [.int .u64 0,.slice none 0 0,.slice none 0 0,.int .i64 0,.int .i64 (-71),.slice none 0 0] else []
abbrev laR (c:List Value) (x:Int):Prop:=c=[.int .u64 x]
abbrev inR (c:List Value) (x:Int × Int):Prop:=c=[.int .i64 x.1,.int .i64 x.2]
abbrev arR (c:List Value) (x:Int × Int):Prop:=c=[.int .i64 x.1,.int .u64 x.2]
def LasR (lt:Bool) (C:Cl) (v:Value) (l:List Int):Prop:=SlX (mkL lt) 8 C laR v l
def CdR (lt:Bool) (C:Cl) (v:Value) (l:List (Int × Int)):Prop:=SlX (mkI lt) 16 C inR v l
def ArsR (lt:Bool) (C:Cl) (v:Value) (l:List (Int × Int)):Prop:=SlX (mkA lt) 16 C arR v l
def FnR1 (lt:Bool) (C:Cl) (c:List Value) (f:FnM):Prop :=
  ∃ vp vr vc,c=[.int .u64 f.level,vp,vr,.int .i64 f.locals,.int .i64 f.stack,vc]∧LasR lt C vp f.params∧LasR lt C vr f.results∧CdR lt C vc f.code
def FnsR (lt:Bool) (C:Cl) (v:Value) (l:List FnM):Prop:=SlX (mkF lt) 96 C (FnR1 lt C) v l
def MoR (lt:Bool) (C:Cl) (v:Value) (m:MoM):Prop :=
  ∃ v1 v2 v3 v4,v=.agg #[v1,v2,v3,v4]∧LasR lt C v1 m.globals∧ArsR lt C v2 m.arrays∧LasR lt C v3 m.channels∧FnsR lt C v4 m.funcs
theorem la_len (c:List Value) (x:Int) (h:laR c x):c.length=1:=by rw [h];rfl
theorem in_len (c:List Value) (x:Int × Int) (h:inR c x):c.length=2:=by rw [h];rfl
theorem ar_len (c:List Value) (x:Int × Int) (h:arR c x):c.length=2:=by rw [h];rfl
section
variable {lt:Bool} {C D:Cl}
theorem fn_len (c:List Value) (f:FnM) (h:FnR1 lt C c f):c.length=6:=by obtain ⟨a,b,e,rfl,_⟩:=h;rfl
theorem LasR.le {v:Value} {l:List Int} (h:LasR lt C v l) (hc:CLe C D):LasR lt D v l:=SlX.mono h hc fun _ _ e=>e
theorem CdR.le {v:Value} {l:List (Int × Int)} (h:CdR lt C v l) (hc:CLe C D):CdR lt D v l:=SlX.mono h hc fun _ _ e=>e
theorem ArsR.le {v:Value} {l:List (Int × Int)} (h:ArsR lt C v l) (hc:CLe C D):ArsR lt D v l:=SlX.mono h hc fun _ _ e=>e
theorem FnR1.le {c:List Value} {f:FnM} (h:FnR1 lt C c f) (hc:CLe C D):FnR1 lt D c f:=by
  obtain ⟨vp,vr,vc,e,h1,h2,h3⟩:=h
  exact ⟨vp,vr,vc,e,h1.le hc,h2.le hc,h3.le hc⟩
theorem FnsR.le {v:Value} {l:List FnM} (h:FnsR lt C v l) (hc:CLe C D):FnsR lt D v l:=SlX.mono h hc fun _ _ e=>e.le hc
end
theorem slx_shape {α:Type} {mk:List Value} {bs:Nat} {C:Cl} {R:List Value→α→Prop} {v:Value} {l:List α} (h:SlX mk bs C R v l):∃ q c,v=.slice q l.length c:=let ⟨q,c,_,e,_⟩:=h;⟨q,c,e⟩
theorem slx_max {α:Type} {mk:List Value} {bs:Nat} {C:Cl} {R:List Value→α→Prop} {v:Value} {l:List α} (h:SlX mk bs C R v l):l.length≤maxLen:=by
  obtain ⟨_,_,_,_,_,_,_,_,h1,_,h2⟩:=h;omega
section
variable {lt:Bool} {C:Cl} {q:Option Addr} {n c:Nat}
theorem slx_at {α:Type} {mk:List Value} {bs:Nat} {R:List Value→α→Prop} {l:List α} {size:Nat} (h:SlX mk (bs+1) C R (.slice q n c) l) (hs:0<size) (hR:∀ c x,R c x→c.length=size) :
    ∀ j (hj:j<l.length),∃ g o e,q=some ⟨g,o,none⟩∧R e l[j]∧∀ r u,r<size→e[r]?=some u→C ⟨g,o+j * size+r,none⟩=some u:=by
  intro j hj
  obtain ⟨q',c',e1,_,_,_,ha,_⟩:=h.at hs hR
  obtain ⟨rfl,_,_⟩:q=q'∧n=l.length∧c=c':=by injection e1 with a b c;exact ⟨a,b,c⟩
  obtain ⟨g,o,e,h1,h2,h3⟩:=ha j hj
  exact ⟨g,o,e,h1,h2,fun r u hr hu=>by rw [Nat.add_assoc];exact h3 r u hr hu⟩
end
section
set_option maxRecDepth 100000
variable {H:Type} {enc:TypeId × Value→H} {w:World} {n:Nat} {cs:List Value} {d:DataW H} {p:List MemPlace}
end
end Go.Proofs.Ytbfkgcapkffecaa
namespace Go.Proofs.Ytbfkgcapkffecaa
open Go Go.RowKit Go.Proofs.Mm Go.Sort
theorem putI_bytes (op a:Int):bytesL (putI op a):=by
  unfold putI
  split
  · rename_i hm
    have hb:op.toNat<256:=by
      obtain ⟨k,hk,e⟩:=knI_nat (mayI_kn hm)
      omega
    intro x hx
    rcases List.mem_cons.1 hx with h | hx
    · rw [h]
      exact hb
    · split at hx
      · exact putS_bytes _ x hx
      · split at hx
        · exact putU_bytes _ x hx
        · cases hx
  · intro x hx;cases hx
theorem oprI_plain {op:Int} (hk:knI op=true) (ho:opdI op=false) (m:List Nat):oprI op m=(0,0,0):=by
  have h32:op ≠ 32:=by rintro rfl;cases ho
  unfold oprI
  rw [if_neg h32,ho]
  rfl
theorem getI_put {op a:Int} (hm:mayI op a=true) (h1:-9223372036854775808≤a) (h2:a<9223372036854775808) (m:List Nat):getI (putI op a++m)=(op,a,(putI op a).length,0):=by
  have hk:=mayI_kn hm
  obtain ⟨k,hk48,rfl⟩:=knI_nat hk
  unfold putI
  rw [if_pos hm,List.cons_append,getI_cons,show ((k:Int).toNat:Int)=k from by omega,if_pos hk]
  by_cases h32:(k:Int)=32
  · rw [if_pos h32,show oprI (k:Int) (putS a++m)=getS (putS a++m) from by unfold oprI;rw [if_pos h32],getS_put a h1 h2 m]
    simp
  · rw [if_neg h32]
    cases ho:opdI (k:Int)
    · simp only [Bool.false_eq_true,if_false]
      rw [oprI_plain hk ho]
      rw [mayI_plain hk ho] at hm
      have ha:=of_decide_eq_true hm
      simp [ha]
    · rw [if_pos rfl]
      rw [mayI_unsigned ho h32] at hm
      have ha:=of_decide_eq_true hm
      have hW:a.toNat<W64:=by unfold W64;omega
      have hg:=getU_put a.toNat hW m
      rw [show oprI (k:Int) (putU a.toNat++m)=(a,(putU a.toNat).length,0) from by
        unfold oprI
        rw [if_neg h32,ho,if_pos rfl,hg,if_neg (by simp only;omega)]
        simp only [Prod.mk.injEq,and_true]
        omega]
      simp
theorem getI_is {l:List Nat} (h:(getI l).2.2.2=0):mayI (getI l).1 (getI l).2.1=true∧putI (getI l).1 (getI l).2.1=l.take (getI l).2.2.1∧(getI l).2.2.1≤l.length∧-9223372036854775808≤(getI l).2.1∧(getI l).2.1<9223372036854775808:=by
  cases l with
  | nil=>simp [getI] at h
  | cons x r =>
    rw [getI_cons] at h ⊢
    cases hk:knI (x:Int)
    · rw [hk] at h;simp at h
    · rw [hk,if_pos rfl] at h
      rw [if_pos rfl]
      have hle:=oprI_le (x:Int) r
      by_cases he:(oprI (x:Int) r).2.2=0
      · rw [if_pos he]
        simp only
        by_cases h32:(x:Int)=32
        · have e:oprI (x:Int) r=getS r:=by unfold oprI;rw [if_pos h32]
          rw [e] at he hle ⊢
          obtain ⟨g1,g2,g3,g4⟩:=getS_is he
          have hm:mayI (x:Int) (getS r).1=true:=by rw [h32];exact mayI_const _
          refine ⟨hm,?_,by simp only [List.length_cons];omega,g3,g4⟩
          unfold putI
          rw [if_pos hm,if_pos h32,g1]
          rfl
        · cases ho:opdI (x:Int)
          · rw [oprI_plain hk ho] at he hle ⊢
            have hm:mayI (x:Int) 0=true:=by rw [mayI_plain hk ho];rfl
            refine ⟨hm,?_,by simp only [List.length_cons];omega,by decide,by decide⟩
            unfold putI
            rw [if_pos hm,if_neg h32,ho]
            rfl
          · have e:oprI (x:Int) r=if 9223372036854775807<(getU r).1 then (0,0,100) else (((getU r).1:Int),(getU r).2.1,(getU r).2.2):=by
              unfold oprI
              rw [if_neg h32,ho]
              rfl
            rw [e] at he hle ⊢
            by_cases hb:9223372036854775807<(getU r).1
            · rw [if_pos hb] at he;simp at he
            · rw [if_neg hb] at he hle ⊢
              simp only at he hle ⊢
              obtain ⟨g1,g2,g3⟩:=getU_is he
              have hm:mayI (x:Int) ((getU r).1:Int)=true:=by rw [mayI_unsigned ho h32];exact decide_eq_true (by omega)
              refine ⟨hm,?_,by simp only [List.length_cons];omega,by omega,by omega⟩
              unfold putI
              rw [if_pos hm,if_neg h32,ho,if_pos rfl,show (((getU r).1:Nat):Int).toNat=(getU r).1 from rfl,g1]
              rfl
      · rw [if_neg he] at h
        exact absurd h he
end Go.Proofs.Ytbfkgcapkffecaa
namespace Go.Proofs.Ytbfkgcapkffecaa
open Go Go.RowKit
def labF (x:Int):List Nat:=putU x.toNat
def szF (x:Int):List Nat:=putU (x % 18446744073709551616).toNat
def listF {α:Type} (f:α→List Nat) (l:List α):List Nat:=putU l.length++l.flatMap f
def arF (x:Int × Int):List Nat:=szF x.1++labF x.2
def inF (x:Int × Int):List Nat:=putI x.1 x.2
def fnF (f:FnM):List Nat:=labF f.level++(listF labF f.params++(listF labF f.results++(szF f.locals++(szF f.stack++listF inF f.code))))
def bdF (m:MoM):List Nat:=listF labF m.globals++(listF arF m.arrays++(listF labF m.channels++listF fnF m.funcs))
def headF:List Nat:=[76,86,82,1]
def moF (m:MoM):List Nat:=headF++bdF m
def sumF (n:Nat):List Nat→Nat
  | []=>n
  | x :: l=>sumF ((n ^^^ x) * 1099511628211 % W64) l
def sum0:Nat:=14695981039346656037
def sealF (l:List Nat):List Nat:=(List.range 8).map fun j=>sumF sum0 l / 2 ^ (56 - 8 * j) % 256
def imF (m:MoM):List Nat:=moF m++sealF (moF m)
def fnOk (f:FnM):Bool:=decide (0≤f.locals) && (decide (0≤f.stack) && f.code.all fun x=>mayI x.1 x.2)
def moOk (m:MoM):Bool:=(m.arrays.all fun x=>decide (0≤x.1)) && m.funcs.all fnOk
def labW (x:Int):Prop:=0≤x∧x<18446744073709551616
def szW (x:Int):Prop:=-9223372036854775808≤x∧x<9223372036854775808
def arW (x:Int × Int):Prop:=szW x.1∧labW x.2
def inW (x:Int × Int):Prop:=szW x.1∧szW x.2
def liW {α:Type} (P:α→Prop) (l:List α):Prop:=l.length<9223372036854775808∧∀ x ∈ l,P x
def fnW (f:FnM):Prop:=labW f.level∧liW labW f.params∧liW labW f.results∧szW f.locals∧szW f.stack∧liW inW f.code
def moW (m:MoM):Prop:=liW labW m.globals∧liW arW m.arrays∧liW labW m.channels∧liW fnW m.funcs
def rdU (l:List Nat):Option (Nat × List Nat):=if (getU l).2.2=0 then some ((getU l).1,l.drop (getU l).2.1) else none
def rdLab (l:List Nat):Option (Int × List Nat):=match rdU l with
  | none=>none
  | some (n,r)=>some ((n:Int),r)
def rdSz (l:List Nat):Option (Int × List Nat):=match rdU l with
  | none=>none
  | some (n,r)=>if 9223372036854775807<n then none else some ((n:Int),r)
def rdN {α:Type} (f:List Nat→Option (α × List Nat)):Nat→List Nat→Option (List α × List Nat)
  | 0,l=>some ([],l)
  | n+1,l=>match f l with
    | none=>none
    | some (x,r)=>match rdN f n r with
      | none=>none
      | some (xs,r')=>some (x :: xs,r')
def rdList {α:Type} (f:List Nat→Option (α × List Nat)) (l:List Nat):Option (List α × List Nat):=match rdU l with
  | none=>none
  | some (n,r)=>rdN f n r
def rdAr (l:List Nat):Option ((Int × Int) × List Nat):=match rdSz l with
  | none=>none
  | some (a,r)=>match rdLab r with
    | none=>none
    | some (b,r')=>some ((a,b),r')
def rdIn (l:List Nat):Option ((Int × Int) × List Nat):=if (getI l).2.2.2=0 then some (((getI l).1,(getI l).2.1),l.drop (getI l).2.2.1) else none
def rdFn (l:List Nat):Option (FnM × List Nat):=match rdLab l with
  | none=>none
  | some (lv,r1)=>match rdList rdLab r1 with
    | none=>none
    | some (ps,r2)=>match rdList rdLab r2 with
      | none=>none
      | some (rs,r3)=>match rdSz r3 with
        | none=>none
        | some (lo,r4)=>match rdSz r4 with
          | none=>none
          | some (st,r5)=>match rdList rdIn r5 with
            | none=>none
            | some (cd,r6)=>some (⟨lv,ps,rs,lo,st,cd⟩,r6)
def rdMo (l:List Nat):Option (MoM × List Nat):=match rdList rdLab l with
  | none=>none
  | some (gs,r1)=>match rdList rdAr r1 with
    | none=>none
    | some (ars,r2)=>match rdList rdLab r2 with
      | none=>none
      | some (cs,r3)=>match rdList rdFn r3 with
        | none=>none
        | some (fs,r4)=>some (⟨gs,ars,cs,fs⟩,r4)
def RT {α:Type} (f:List Nat→Option (α × List Nat)) (F:α→List Nat) (P:α→Prop):Prop:=∀ x r,P x→f (F x++r)=some (x,r)
def RB {α:Type} (f:List Nat→Option (α × List Nat)) (F:α→List Nat) (P:α→Prop):Prop:=∀ l x r,f l=some (x,r)→P x∧l=F x++r
theorem RT.mono {α:Type} {f:List Nat→Option (α × List Nat)} {F:α→List Nat} {P Q:α→Prop} (h:RT f F P) (hq:∀ x,Q x→P x):RT f F Q:=fun x r k=>h x r (hq x k)
theorem rdU_put {n:Nat} (hn:n<W64) (r:List Nat):rdU (putU n++r)=some (n,r):=by
  unfold rdU
  rw [getU_put n hn r,if_pos rfl,List.drop_left]
theorem rdU_is {l:List Nat} {n:Nat} {r:List Nat} (h:rdU l=some (n,r)):n<W64∧l=putU n++r:=by
  unfold rdU at h
  split at h
  · rename_i h0
    obtain ⟨h1,h2,h3⟩:=getU_is h0
    injection h with h
    injection h with ha hb
    subst ha hb
    exact ⟨h3,by rw [h1,List.take_append_drop]⟩
  · cases h
theorem rt_lab:RT rdLab labF labW:=fun x r h=>by
  unfold rdLab labF
  rw [rdU_put (by have:=h.1;have:=h.2;unfold W64;omega) r]
  simp only
  rw [Int.toNat_of_nonneg h.1]
theorem rb_lab:RB rdLab labF labW:=fun l x r h=>by
  unfold rdLab at h
  split at h
  · cases h
  · rename_i n r' hu
    injection h with h
    injection h with ha hb
    subst ha hb
    obtain ⟨h1,h2⟩:=rdU_is hu
    unfold W64 at h1
    exact ⟨⟨by omega,by omega⟩,by unfold labF;rw [Int.toNat_natCast];exact h2⟩
def szP (x:Int):Prop:=0≤x∧x<9223372036854775808
theorem szF_of {x:Int} (h:szP x):szF x=putU x.toNat:=by
  unfold szF
  rw [Int.emod_eq_of_lt h.1 (by have:=h.2;omega)]
theorem rt_sz:RT rdSz szF szP:=fun x r h=>by
  unfold rdSz
  rw [szF_of h,rdU_put (by have:=h.1;have:=h.2;unfold W64;omega) r]
  simp only
  rw [if_neg (by have:=h.1;have:=h.2;omega),Int.toNat_of_nonneg h.1]
theorem rb_sz:RB rdSz szF szP:=fun l x r h=>by
  unfold rdSz at h
  split at h
  · cases h
  · rename_i n r' hu
    split at h
    · cases h
    · injection h with h
      injection h with ha hb
      subst ha hb
      obtain ⟨h1,h2⟩:=rdU_is hu
      have hP:szP (n:Int):=⟨by omega,by omega⟩
      exact ⟨hP,by rw [szF_of hP,Int.toNat_natCast];exact h2⟩
def arP (x:Int × Int):Prop:=szP x.1∧labW x.2
theorem rt_ar:RT rdAr arF arP:=fun x r h=>by
  unfold rdAr arF
  rw [List.append_assoc,rt_sz _ _ h.1]
  simp only
  rw [rt_lab _ _ h.2]
theorem rb_ar:RB rdAr arF arP:=fun l x r h=>by
  unfold rdAr at h
  split at h
  · cases h
  · rename_i a r1 h1
    split at h
    · cases h
    · rename_i b r2 h2
      injection h with h
      injection h with ha hb
      subst ha hb
      obtain ⟨p1,e1⟩:=rb_sz _ _ _ h1
      obtain ⟨p2,e2⟩:=rb_lab _ _ _ h2
      exact ⟨⟨p1,p2⟩,by rw [e1,e2];simp [arF]⟩
def inP (x:Int × Int):Prop:=mayI x.1 x.2=true∧szW x.2
theorem rt_in:RT rdIn inF inP:=fun x r h=>by
  unfold rdIn inF
  rw [getI_put h.1 h.2.1 h.2.2 r,if_pos rfl]
  simp
theorem rb_in:RB rdIn inF inP:=fun l x r h=>by
  unfold rdIn at h
  split at h
  · rename_i h0
    obtain ⟨h1,h2,h3,h4,h5⟩:=getI_is h0
    injection h with h
    injection h with ha hb
    subst ha hb
    exact ⟨⟨h1,h4,h5⟩,by unfold inF;simp only;rw [h2,List.take_append_drop]⟩
  · cases h
section
variable {α:Type} {f:List Nat→Option (α × List Nat)} {F:α→List Nat} {P:α→Prop}
theorem rt_n (h:RT f F P):∀ (l:List α) (r:List Nat),(∀ x ∈ l,P x)→rdN f l.length (l.flatMap F++r)=some (l,r)
  | [],r,_=>rfl
  | x :: l,r,hp=>by
    rw [List.length_cons,List.flatMap_cons,List.append_assoc,rdN,h x _ (hp x (by simp))]
    simp only
    rw [rt_n h l r fun y hy=>hp y (by simp [hy])]
theorem rb_n (h:RB f F P):∀ (n:Nat) (l:List Nat) (xs:List α) (r:List Nat),rdN f n l=some (xs,r)→xs.length=n∧(∀ x ∈ xs,P x)∧l=xs.flatMap F++r
  | 0,l,xs,r,e=>by
    rw [rdN] at e
    injection e with e
    injection e with ha hb
    subst ha hb
    exact ⟨rfl,by simp,rfl⟩
  | n+1,l,xs,r,e=>by
    rw [rdN] at e
    split at e
    · cases e
    · rename_i x r1 h1
      split at e
      · cases e
      · rename_i ys r2 h2
        injection e with e
        injection e with ha hb
        subst ha hb
        obtain ⟨p1,e1⟩:=h _ _ _ h1
        obtain ⟨p2,p3,e2⟩:=rb_n h n _ _ _ h2
        refine ⟨by simp [p2],?_,by rw [e1,e2];simp⟩
        intro y hy
        rcases List.mem_cons.1 hy with rfl | hy
        · exact p1
        · exact p3 y hy
theorem rt_list (h:RT f F P):RT (rdList f) (listF F) fun l=>l.length<W64∧∀ x ∈ l,P x:=fun l r hp=>by
  unfold rdList listF
  rw [List.append_assoc,rdU_put hp.1]
  simp only
  exact rt_n h l r hp.2
theorem rb_list (h:RB f F P):RB (rdList f) (listF F) fun l=>l.length<W64∧∀ x ∈ l,P x:=fun l xs r e=>by
  unfold rdList at e
  split at e
  · cases e
  · rename_i n r1 h1
    obtain ⟨p1,e1⟩:=rdU_is h1
    obtain ⟨p2,p3,e2⟩:=rb_n h n _ _ _ e
    exact ⟨⟨by rw [p2];exact p1,p3⟩,by rw [e1,e2,listF,p2,List.append_assoc]⟩
end
def fnP (f:FnM):Prop:=labW f.level∧(f.params.length<W64∧∀ x ∈ f.params,labW x)∧(f.results.length<W64∧∀ x ∈ f.results,labW x)∧szP f.locals∧szP f.stack∧(f.code.length<W64∧∀ x ∈ f.code,inP x)
theorem rt_fn:RT rdFn fnF fnP:=fun x r h=>by
  obtain ⟨h1,h2,h3,h4,h5,h6⟩:=h
  unfold rdFn fnF
  simp only [List.append_assoc]
  rw [rt_lab _ _ h1];simp only
  rw [rt_list rt_lab _ _ h2];simp only
  rw [rt_list rt_lab _ _ h3];simp only
  rw [rt_sz _ _ h4];simp only
  rw [rt_sz _ _ h5];simp only
  rw [rt_list rt_in _ _ h6]
theorem rb_fn:RB rdFn fnF fnP:=fun l x r h=>by
  unfold rdFn at h
  split at h
  · cases h
  rename_i lv r1 h1
  split at h
  · cases h
  rename_i ps r2 h2
  split at h
  · cases h
  rename_i rs r3 h3
  split at h
  · cases h
  rename_i lo r4 h4
  split at h
  · cases h
  rename_i st r5 h5
  split at h
  · cases h
  rename_i cd r6 h6
  injection h with h
  injection h with ha hb
  subst ha hb
  obtain ⟨p1,e1⟩:=rb_lab _ _ _ h1
  obtain ⟨p2,e2⟩:=rb_list rb_lab _ _ _ h2
  obtain ⟨p3,e3⟩:=rb_list rb_lab _ _ _ h3
  obtain ⟨p4,e4⟩:=rb_sz _ _ _ h4
  obtain ⟨p5,e5⟩:=rb_sz _ _ _ h5
  obtain ⟨p6,e6⟩:=rb_list rb_in _ _ _ h6
  exact ⟨⟨p1,p2,p3,p4,p5,p6⟩,by rw [e1,e2,e3,e4,e5,e6];simp [fnF]⟩
def moP (m:MoM):Prop:=(m.globals.length<W64∧∀ x ∈ m.globals,labW x)∧(m.arrays.length<W64∧∀ x ∈ m.arrays,arP x)∧(m.channels.length<W64∧∀ x ∈ m.channels,labW x)∧(m.funcs.length<W64∧∀ x ∈ m.funcs,fnP x)
theorem rt_mo:RT rdMo bdF moP:=fun x r h=>by
  obtain ⟨h1,h2,h3,h4⟩:=h
  unfold rdMo bdF
  simp only [List.append_assoc]
  rw [rt_list rt_lab _ _ h1];simp only
  rw [rt_list rt_ar _ _ h2];simp only
  rw [rt_list rt_lab _ _ h3];simp only
  rw [rt_list rt_fn _ _ h4]
theorem rb_mo:RB rdMo bdF moP:=fun l x r h=>by
  unfold rdMo at h
  split at h
  · cases h
  rename_i gs r1 h1
  split at h
  · cases h
  rename_i ars r2 h2
  split at h
  · cases h
  rename_i cs r3 h3
  split at h
  · cases h
  rename_i fs r4 h4
  injection h with h
  injection h with ha hb
  subst ha hb
  obtain ⟨p1,e1⟩:=rb_list rb_lab _ _ _ h1
  obtain ⟨p2,e2⟩:=rb_list rb_ar _ _ _ h2
  obtain ⟨p3,e3⟩:=rb_list rb_lab _ _ _ h3
  obtain ⟨p4,e4⟩:=rb_list rb_fn _ _ _ h4
  exact ⟨⟨p1,p2,p3,p4⟩,by rw [e1,e2,e3,e4];simp [bdF]⟩
theorem moP_of {m:MoM} (hw:moW m) (ho:moOk m=true):moP m:=by
  obtain ⟨⟨a1,a2⟩,⟨b1,b2⟩,⟨c1,c2⟩,⟨d1,d2⟩⟩:=hw
  unfold moOk at ho
  rw [Bool.and_eq_true,List.all_eq_true,List.all_eq_true] at ho
  refine ⟨⟨by unfold W64;omega,a2⟩,⟨by unfold W64;omega,fun x hx=>?_⟩,⟨by unfold W64;omega,c2⟩,⟨by unfold W64;omega,fun f hf=>?_⟩⟩
  · have h1:=of_decide_eq_true (ho.1 x hx)
    exact ⟨⟨h1,(b2 x hx).1.2⟩,(b2 x hx).2⟩
  · have h1:=ho.2 f hf
    unfold fnOk at h1
    rw [Bool.and_eq_true,Bool.and_eq_true,List.all_eq_true] at h1
    obtain ⟨k1,⟨k2,k3⟩,⟨k4,k5⟩,k6,k7,⟨k8,k9⟩⟩:=d2 f hf
    exact ⟨k1,⟨by unfold W64;omega,k3⟩,⟨by unfold W64;omega,k5⟩,⟨of_decide_eq_true h1.1,k6.2⟩,⟨of_decide_eq_true h1.2.1,k7.2⟩,⟨by unfold W64;omega,fun x hx=>⟨h1.2.2 x hx,(k9 x hx).2⟩⟩⟩
end Go.Proofs.Ytbfkgcapkffecaa
namespace Go.Proofs.Ytbfkgcapkffecaa
open Go Go.RowKit Go.Proofs.Mm Go.ChangeShapes Go.WideShapes Go.ChangeAt
section
set_option maxRecDepth 100000
variable {H:Type} {enc:TypeId × Value→H} {w:World} {n:Nat} {cs:List Value} {d:DataW H} {p:List MemPlace}
end
end Go.Proofs.Ytbfkgcapkffecaa
namespace Go.Proofs.Ytbfkgcapkffecaa
open Go Go.RowKit Go.Proofs.Mm Go.Sort
theorem infoOf {P:Program} {t:TypeId} {z:Value} {size bytes:Nat} (h:(P.info? t).map (fun i=>(i.zero,i.size,i.bytes))=some (some z,size,bytes)):∃ i,P.info? t=some i∧i.zero=some z∧i.size=size∧i.bytes=bytes:=by
  cases hi:P.info? t with
  | none=>rw [hi] at h;cases h
  | some i =>
    rw [hi] at h
    simp only [Option.map_some,Option.some.injEq,Prod.mk.injEq] at h
    exact ⟨i,rfl,h.1,h.2.1,h.2.2⟩
theorem infoL:∃ i,Try.prog.info? 53=some i∧i.zero=some (.int .u64 0)∧i.size=1∧i.bytes=8:=infoOf (by kernel_rfl)
theorem infoA:∃ i,Try.prog.info? 55=some i∧i.zero=some (.agg #[.int .i64 0,.int .u64 0])∧i.size=2∧i.bytes=16:=infoOf (by kernel_rfl)
theorem infoF:∃ i,Try.prog.info? 60=some i∧i.zero=some (.agg #[.int .u64 0,.slice none 0 0,.slice none 0 0,.int .i64 0,.int .i64 0,.slice none 0 0])∧i.size=6∧i.bytes=96:=infoOf (by kernel_rfl)
theorem und_L:Try.prog.underlying 22=some (.slice 53):=by kernel_rfl
theorem und_A:Try.prog.underlying 23=some (.slice 55):=by kernel_rfl
theorem und_F:Try.prog.underlying 24=some (.slice 60):=by kernel_rfl
def RowIn (w:World) (q:Option Addr) (n c size:Nat) (cs:List Value):Prop:=cs.length=n * size∧(∀ u ∈ cs,u.oneCell'=true)∧((q=none∧n=0∧c=0) ∨ ∃ ad,q=some ad∧∀ j u,cs[j]?=some u→w.cell? (ad.add j)=some u)
theorem RowIn.le {w w':World} {q:Option Addr} {n c size:Nat} {cs:List Value} (h:RowIn w q n c size cs) (hb:Below w.heap.size w w'):RowIn w' q n c size cs :=
  ⟨h.1,h.2.1,h.2.2.imp id fun ⟨ad,e,hc⟩=>⟨ad,e,fun j u hu=>cell_b (hc j u hu) hb⟩⟩
theorem one_enc {α:Type} {R:List Value→α→Prop} (hR:∀ c x,R c x→∀ u ∈ c,u.oneCell'=true):∀ {l:List α} {cs:List Value},Enc R cs l→∀ u ∈ cs,u.oneCell'=true
  | [],cs,e,u,hu=>by
    obtain rfl:cs=[]:=e
    cases hu
  | x :: l,cs,⟨c,r,e,h1,h2⟩,u,hu=>by
    subst e
    rcases List.mem_append.1 hu with hu | hu
    · exact hR c x h1 u hu
    · exact one_enc hR h2 u hu
theorem ar_one (c:List Value) (x:Int × Int) (h:arR c x):∀ u ∈ c,u.oneCell'=true:=by rw [h];intro u hu;simp at hu;rcases hu with rfl | rfl <;> rfl
end Go.Proofs.Ytbfkgcapkffecaa
namespace Go.Proofs.Ytbfkgcapkffecaa
open Go Go.RowKit Go.Proofs.Mm
theorem infoI:∃ i,Try.prog.info? 57=some i∧i.zero=some (.agg #[.int .i64 0,.int .i64 0])∧i.size=2∧i.bytes=16:=infoOf (by kernel_rfl)
theorem und_I:Try.prog.underlying 58=some (.slice 57):=by kernel_rfl
theorem has_grown {w w':World} {m:Mem} (h:Has w m) (hb:Below w.heap.size w w'):Has w' m:=fun k o e=>by
  have:=h k o e
  rw [hb.block k (heap_lt this)];exact this
theorem enc_cells {α:Type} {C:Cl} {R:List Value→α→Prop} {l:List α} {cs:List Value} {g o:Nat} (_h:Enc R cs l) (hr:∀ j u,cs[j]?=some u→C ⟨g,o+j,none⟩=some u):∀ j u,cs[j]?=some u→C ((⟨g,o,none⟩:Addr).add j)=some u:=by
  intro j u hu
  rw [show ((⟨g,o,none⟩:Addr).add j)=⟨g,o+j,none⟩ from by unfold Addr.add;split <;> simp_all]
  exact hr j u hu
end Go.Proofs.Ytbfkgcapkffecaa
namespace Go.Proofs.Ytbfkgcapkffecaa
open Go Go.RowKit
theorem eqIns (a b c d:Int) (w:World):(Op.equalIn 10000 57 (.agg #[.int .i64 a,.int .i64 b]) (.agg #[.int .i64 c,.int .i64 d])).run Try.prog w=.ok (a == c && b == d) w:=by
  have u3:=Try.underlying3
  have u2:=Try.underlying2
  have hS:Try.prog.underlying 57=some (.struct (Try.prog.fieldsOf 57)):=by kernel_rfl
  have hp:Try.prog.stoodInHeld 57=false:=by kernel_rfl
  rw [show (10000:Nat)=9999+1 from rfl,run_equalIn_agg w 9999 57 _ _ hS hp]
  simp only [Program.fieldsOf,Try.underlying57]
  go_simp
  by_cases h1:a=c <;> by_cases h2:b=d <;> simp [h1,h2]
theorem neIns' (a b c d:Int) (w:World):(binOp .neq 57 (.agg #[.int .i64 a,.int .i64 b]) (.agg #[.int .i64 c,.int .i64 d])).run Try.prog w=.ok (.bool (!(a == c && b == d))) w:=by
  rw [run_neq_struct,eqIns];rfl
end Go.Proofs.Ytbfkgcapkffecaa
