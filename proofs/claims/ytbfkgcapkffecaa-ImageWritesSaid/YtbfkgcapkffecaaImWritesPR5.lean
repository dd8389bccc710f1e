/- What is put is got; what is got is what would be put (plain). Plain facts: the form of a module, and how it is read. A module that comes in, with the ranges of its numbers. CodeMore: the law's walk. The kit's lent labels and code: they read as what came in, with a mark behind, in memory of their own -/
import Derived.Test.YtbfkgcapkffecaaImWritesPR4
import Derived.Laws.AppendOwnNone
import Derived.Laws.StructEq
import Derived.BigQuiet
namespace Go.Proofs.Ytbfkgcapkffecaa
open Go Go.RowKit Go.Proofs.Mm Go.Sort
theorem putI_bytes (op a:Int):bytesL (putI op a):=by
  unfold putI
  split
  · rename_i hm
    have hb:op.toNat<256:=by
      obtain ⟨k,hk,e⟩:=knI_nat (mayI_kn hm)
      omega
    intro x hx
    rcases List.mem_cons.1 hx with h | hx
    · rw [h]
      exact hb
    · split at hx
      · exact putS_bytes _ x hx
      · split at hx
        · exact putU_bytes _ x hx
        · cases hx
  · intro x hx;cases hx
theorem oprI_plain {op:Int} (hk:knI op=true) (ho:opdI op=false) (m:List Nat):oprI op m=(0,0,0):=by
  have h32:op ≠ 32:=by rintro rfl;cases ho
  unfold oprI
  rw [if_neg h32,ho]
  rfl
theorem getI_put {op a:Int} (hm:mayI op a=true) (h1:-9223372036854775808≤a) (h2:a<9223372036854775808) (m:List Nat):getI (putI op a++m)=(op,a,(putI op a).length,0):=by
  have hk:=mayI_kn hm
  obtain ⟨k,hk48,rfl⟩:=knI_nat hk
  unfold putI
  rw [if_pos hm,List.cons_append,getI_cons,show ((k:Int).toNat:Int)=k from by omega,if_pos hk]
  by_cases h32:(k:Int)=32
  · rw [if_pos h32,show oprI (k:Int) (putS a++m)=getS (putS a++m) from by unfold oprI;rw [if_pos h32],getS_put a h1 h2 m]
    simp
  · rw [if_neg h32]
    cases ho:opdI (k:Int)
    · simp only [Bool.false_eq_true,if_false]
      rw [oprI_plain hk ho]
      rw [mayI_plain hk ho] at hm
      have ha:=of_decide_eq_true hm
      simp [ha]
    · rw [if_pos rfl]
      rw [mayI_unsigned ho h32] at hm
      have ha:=of_decide_eq_true hm
      have hW:a.toNat<W64:=by unfold W64;omega
      have hg:=getU_put a.toNat hW m
      rw [show oprI (k:Int) (putU a.toNat++m)=(a,(putU a.toNat).length,0) from by
        unfold oprI
        rw [if_neg h32,ho,if_pos rfl,hg,if_neg (by simp only;omega)]
        simp only [Prod.mk.injEq,and_true]
        omega]
      simp
theorem getI_is {l:List Nat} (h:(getI l).2.2.2=0):mayI (getI l).1 (getI l).2.1=true∧putI (getI l).1 (getI l).2.1=l.take (getI l).2.2.1∧(getI l).2.2.1≤l.length∧-9223372036854775808≤(getI l).2.1∧(getI l).2.1<9223372036854775808:=by
  cases l with
  | nil=>simp [getI] at h
  | cons x r =>
    rw [getI_cons] at h ⊢
    cases hk:knI (x:Int)
    · rw [hk] at h;simp at h
    · rw [hk,if_pos rfl] at h
      rw [if_pos rfl]
      have hle:=oprI_le (x:Int) r
      by_cases he:(oprI (x:Int) r).2.2=0
      · rw [if_pos he]
        simp only
        by_cases h32:(x:Int)=32
        · have e:oprI (x:Int) r=getS r:=by unfold oprI;rw [if_pos h32]
          rw [e] at he hle ⊢
          obtain ⟨g1,g2,g3,g4⟩:=getS_is he
          have hm:mayI (x:Int) (getS r).1=true:=by rw [h32];exact mayI_const _
          refine ⟨hm,?_,by simp only [List.length_cons];omega,g3,g4⟩
          unfold putI
          rw [if_pos hm,if_pos h32,g1]
          rfl
        · cases ho:opdI (x:Int)
          · rw [oprI_plain hk ho] at he hle ⊢
            have hm:mayI (x:Int) 0=true:=by rw [mayI_plain hk ho];rfl
            refine ⟨hm,?_,by simp only [List.length_cons];omega,by decide,by decide⟩
            unfold putI
            rw [if_pos hm,if_neg h32,ho]
            rfl
          · have e:oprI (x:Int) r=if 9223372036854775807<(getU r).1 then (0,0,100) else (((getU r).1:Int),(getU r).2.1,(getU r).2.2):=by
              unfold oprI
              rw [if_neg h32,ho]
              rfl
            rw [e] at he hle ⊢
            by_cases hb:9223372036854775807<(getU r).1
            · rw [if_pos hb] at he;simp at he
            · rw [if_neg hb] at he hle ⊢
              simp only at he hle ⊢
              obtain ⟨g1,g2,g3⟩:=getU_is he
              have hm:mayI (x:Int) ((getU r).1:Int)=true:=by rw [mayI_unsigned ho h32];exact decide_eq_true (by omega)
              refine ⟨hm,?_,by simp only [List.length_cons];omega,by omega,by omega⟩
              unfold putI
              rw [if_pos hm,if_neg h32,ho,if_pos rfl,show (((getU r).1:Nat):Int).toNat=(getU r).1 from rfl,g1]
              rfl
      · rw [if_neg he] at h
        exact absurd h he
end Go.Proofs.Ytbfkgcapkffecaa
namespace Go.Proofs.Ytbfkgcapkffecaa
open Go Go.RowKit
def labF (x:Int):List Nat:=putU x.toNat
def szF (x:Int):List Nat:=putU (x % 18446744073709551616).toNat
def listF {α:Type} (f:α→List Nat) (l:List α):List Nat:=putU l.length++l.flatMap f
def arF (x:Int × Int):List Nat:=szF x.1++labF x.2
def inF (x:Int × Int):List Nat:=putI x.1 x.2
def fnF (f:FnM):List Nat:=labF f.level++(listF labF f.params++(listF labF f.results++(szF f.locals++(szF f.stack++listF inF f.code))))
def bdF (m:MoM):List Nat:=listF labF m.globals++(listF arF m.arrays++(listF labF m.channels++listF fnF m.funcs))
def headF:List Nat:=[76,86,82,1]
def moF (m:MoM):List Nat:=headF++bdF m
def sumF (n:Nat):List Nat→Nat
  | []=>n
  | x :: l=>sumF ((n ^^^ x) * 1099511628211 % W64) l
def sum0:Nat:=14695981039346656037
def sealF (l:List Nat):List Nat:=(List.range 8).map fun j=>sumF sum0 l / 2 ^ (56 - 8 * j) % 256
def imF (m:MoM):List Nat:=moF m++sealF (moF m)
def fnOk (f:FnM):Bool:=decide (0≤f.locals) && (decide (0≤f.stack) && f.code.all fun x=>mayI x.1 x.2)
def moOk (m:MoM):Bool:=(m.arrays.all fun x=>decide (0≤x.1)) && m.funcs.all fnOk
def labW (x:Int):Prop:=0≤x∧x<18446744073709551616
def szW (x:Int):Prop:=-9223372036854775808≤x∧x<9223372036854775808
def arW (x:Int × Int):Prop:=szW x.1∧labW x.2
def inW (x:Int × Int):Prop:=szW x.1∧szW x.2
def liW {α:Type} (P:α→Prop) (l:List α):Prop:=l.length<9223372036854775808∧∀ x ∈ l,P x
def fnW (f:FnM):Prop:=labW f.level∧liW labW f.params∧liW labW f.results∧szW f.locals∧szW f.stack∧liW inW f.code
def moW (m:MoM):Prop:=liW labW m.globals∧liW arW m.arrays∧liW labW m.channels∧liW fnW m.funcs
def rdU (l:List Nat):Option (Nat × List Nat):=if (getU l).2.2=0 then some ((getU l).1,l.drop (getU l).2.1) else none
def rdLab (l:List Nat):Option (Int × List Nat):=match rdU l with
  | none=>none
  | some (n,r)=>some ((n:Int),r)
def rdSz (l:List Nat):Option (Int × List Nat):=match rdU l with
  | none=>none
  | some (n,r)=>if 9223372036854775807<n then none else some ((n:Int),r)
def rdN {α:Type} (f:List Nat→Option (α × List Nat)):Nat→List Nat→Option (List α × List Nat)
  | 0,l=>some ([],l)
  | n+1,l=>match f l with
    | none=>none
    | some (x,r)=>match rdN f n r with
      | none=>none
      | some (xs,r')=>some (x :: xs,r')
def rdList {α:Type} (f:List Nat→Option (α × List Nat)) (l:List Nat):Option (List α × List Nat):=match rdU l with
  | none=>none
  | some (n,r)=>rdN f n r
def rdAr (l:List Nat):Option ((Int × Int) × List Nat):=match rdSz l with
  | none=>none
  | some (a,r)=>match rdLab r with
    | none=>none
    | some (b,r')=>some ((a,b),r')
def rdIn (l:List Nat):Option ((Int × Int) × List Nat):=if (getI l).2.2.2=0 then some (((getI l).1,(getI l).2.1),l.drop (getI l).2.2.1) else none
def rdFn (l:List Nat):Option (FnM × List Nat):=match rdLab l with
  | none=>none
  | some (lv,r1)=>match rdList rdLab r1 with
    | none=>none
    | some (ps,r2)=>match rdList rdLab r2 with
      | none=>none
      | some (rs,r3)=>match rdSz r3 with
        | none=>none
        | some (lo,r4)=>match rdSz r4 with
          | none=>none
          | some (st,r5)=>match rdList rdIn r5 with
            | none=>none
            | some (cd,r6)=>some (⟨lv,ps,rs,lo,st,cd⟩,r6)
def rdMo (l:List Nat):Option (MoM × List Nat):=match rdList rdLab l with
  | none=>none
  | some (gs,r1)=>match rdList rdAr r1 with
    | none=>none
    | some (ars,r2)=>match rdList rdLab r2 with
      | none=>none
      | some (cs,r3)=>match rdList rdFn r3 with
        | none=>none
        | some (fs,r4)=>some (⟨gs,ars,cs,fs⟩,r4)
def RT {α:Type} (f:List Nat→Option (α × List Nat)) (F:α→List Nat) (P:α→Prop):Prop:=∀ x r,P x→f (F x++r)=some (x,r)
def RB {α:Type} (f:List Nat→Option (α × List Nat)) (F:α→List Nat) (P:α→Prop):Prop:=∀ l x r,f l=some (x,r)→P x∧l=F x++r
theorem RT.mono {α:Type} {f:List Nat→Option (α × List Nat)} {F:α→List Nat} {P Q:α→Prop} (h:RT f F P) (hq:∀ x,Q x→P x):RT f F Q:=fun x r k=>h x r (hq x k)
theorem rdU_put {n:Nat} (hn:n<W64) (r:List Nat):rdU (putU n++r)=some (n,r):=by
  unfold rdU
  rw [getU_put n hn r,if_pos rfl,List.drop_left]
theorem rdU_is {l:List Nat} {n:Nat} {r:List Nat} (h:rdU l=some (n,r)):n<W64∧l=putU n++r:=by
  unfold rdU at h
  split at h
  · rename_i h0
    obtain ⟨h1,h2,h3⟩:=getU_is h0
    injection h with h
    injection h with ha hb
    subst ha hb
    exact ⟨h3,by rw [h1,List.take_append_drop]⟩
  · cases h
theorem rt_lab:RT rdLab labF labW:=fun x r h=>by
  unfold rdLab labF
  rw [rdU_put (by have:=h.1;have:=h.2;unfold W64;omega) r]
  simp only
  rw [Int.toNat_of_nonneg h.1]
theorem rb_lab:RB rdLab labF labW:=fun l x r h=>by
  unfold rdLab at h
  split at h
  · cases h
  · rename_i n r' hu
    injection h with h
    injection h with ha hb
    subst ha hb
    obtain ⟨h1,h2⟩:=rdU_is hu
    unfold W64 at h1
    exact ⟨⟨by omega,by omega⟩,by unfold labF;rw [Int.toNat_natCast];exact h2⟩
def szP (x:Int):Prop:=0≤x∧x<9223372036854775808
theorem szF_of {x:Int} (h:szP x):szF x=putU x.toNat:=by
  unfold szF
  rw [Int.emod_eq_of_lt h.1 (by have:=h.2;omega)]
theorem rt_sz:RT rdSz szF szP:=fun x r h=>by
  unfold rdSz
  rw [szF_of h,rdU_put (by have:=h.1;have:=h.2;unfold W64;omega) r]
  simp only
  rw [if_neg (by have:=h.1;have:=h.2;omega),Int.toNat_of_nonneg h.1]
theorem rb_sz:RB rdSz szF szP:=fun l x r h=>by
  unfold rdSz at h
  split at h
  · cases h
  · rename_i n r' hu
    split at h
    · cases h
    · injection h with h
      injection h with ha hb
      subst ha hb
      obtain ⟨h1,h2⟩:=rdU_is hu
      have hP:szP (n:Int):=⟨by omega,by omega⟩
      exact ⟨hP,by rw [szF_of hP,Int.toNat_natCast];exact h2⟩
def arP (x:Int × Int):Prop:=szP x.1∧labW x.2
theorem rt_ar:RT rdAr arF arP:=fun x r h=>by
  unfold rdAr arF
  rw [List.append_assoc,rt_sz _ _ h.1]
  simp only
  rw [rt_lab _ _ h.2]
theorem rb_ar:RB rdAr arF arP:=fun l x r h=>by
  unfold rdAr at h
  split at h
  · cases h
  · rename_i a r1 h1
    split at h
    · cases h
    · rename_i b r2 h2
      injection h with h
      injection h with ha hb
      subst ha hb
      obtain ⟨p1,e1⟩:=rb_sz _ _ _ h1
      obtain ⟨p2,e2⟩:=rb_lab _ _ _ h2
      exact ⟨⟨p1,p2⟩,by rw [e1,e2];simp [arF]⟩
def inP (x:Int × Int):Prop:=mayI x.1 x.2=true∧szW x.2
theorem rt_in:RT rdIn inF inP:=fun x r h=>by
  unfold rdIn inF
  rw [getI_put h.1 h.2.1 h.2.2 r,if_pos rfl]
  simp
theorem rb_in:RB rdIn inF inP:=fun l x r h=>by
  unfold rdIn at h
  split at h
  · rename_i h0
    obtain ⟨h1,h2,h3,h4,h5⟩:=getI_is h0
    injection h with h
    injection h with ha hb
    subst ha hb
    exact ⟨⟨h1,h4,h5⟩,by unfold inF;simp only;rw [h2,List.take_append_drop]⟩
  · cases h
section
variable {α:Type} {f:List Nat→Option (α × List Nat)} {F:α→List Nat} {P:α→Prop}
theorem rt_n (h:RT f F P):∀ (l:List α) (r:List Nat),(∀ x ∈ l,P x)→rdN f l.length (l.flatMap F++r)=some (l,r)
  | [],r,_=>rfl
  | x :: l,r,hp=>by
    rw [List.length_cons,List.flatMap_cons,List.append_assoc,rdN,h x _ (hp x (by simp))]
    simp only
    rw [rt_n h l r fun y hy=>hp y (by simp [hy])]
theorem rb_n (h:RB f F P):∀ (n:Nat) (l:List Nat) (xs:List α) (r:List Nat),rdN f n l=some (xs,r)→xs.length=n∧(∀ x ∈ xs,P x)∧l=xs.flatMap F++r
  | 0,l,xs,r,e=>by
    rw [rdN] at e
    injection e with e
    injection e with ha hb
    subst ha hb
    exact ⟨rfl,by simp,rfl⟩
  | n+1,l,xs,r,e=>by
    rw [rdN] at e
    split at e
    · cases e
    · rename_i x r1 h1
      split at e
      · cases e
      · rename_i ys r2 h2
        injection e with e
        injection e with ha hb
        subst ha hb
        obtain ⟨p1,e1⟩:=h _ _ _ h1
        obtain ⟨p2,p3,e2⟩:=rb_n h n _ _ _ h2
        refine ⟨by simp [p2],?_,by rw [e1,e2];simp⟩
        intro y hy
        rcases List.mem_cons.1 hy with rfl | hy
        · exact p1
        · exact p3 y hy
theorem rt_list (h:RT f F P):RT (rdList f) (listF F) fun l=>l.length<W64∧∀ x ∈ l,P x:=fun l r hp=>by
  unfold rdList listF
  rw [List.append_assoc,rdU_put hp.1]
  simp only
  exact rt_n h l r hp.2
theorem rb_list (h:RB f F P):RB (rdList f) (listF F) fun l=>l.length<W64∧∀ x ∈ l,P x:=fun l xs r e=>by
  unfold rdList at e
  split at e
  · cases e
  · rename_i n r1 h1
    obtain ⟨p1,e1⟩:=rdU_is h1
    obtain ⟨p2,p3,e2⟩:=rb_n h n _ _ _ e
    exact ⟨⟨by rw [p2];exact p1,p3⟩,by rw [e1,e2,listF,p2,List.append_assoc]⟩
end
def fnP (f:FnM):Prop:=labW f.level∧(f.params.length<W64∧∀ x ∈ f.params,labW x)∧(f.results.length<W64∧∀ x ∈ f.results,labW x)∧szP f.locals∧szP f.stack∧(f.code.length<W64∧∀ x ∈ f.code,inP x)
theorem rt_fn:RT rdFn fnF fnP:=fun x r h=>by
  obtain ⟨h1,h2,h3,h4,h5,h6⟩:=h
  unfold rdFn fnF
  simp only [List.append_assoc]
  rw [rt_lab _ _ h1];simp only
  rw [rt_list rt_lab _ _ h2];simp only
  rw [rt_list rt_lab _ _ h3];simp only
  rw [rt_sz _ _ h4];simp only
  rw [rt_sz _ _ h5];simp only
  rw [rt_list rt_in _ _ h6]
theorem rb_fn:RB rdFn fnF fnP:=fun l x r h=>by
  unfold rdFn at h
  split at h
  · cases h
  rename_i lv r1 h1
  split at h
  · cases h
  rename_i ps r2 h2
  split at h
  · cases h
  rename_i rs r3 h3
  split at h
  · cases h
  rename_i lo r4 h4
  split at h
  · cases h
  rename_i st r5 h5
  split at h
  · cases h
  rename_i cd r6 h6
  injection h with h
  injection h with ha hb
  subst ha hb
  obtain ⟨p1,e1⟩:=rb_lab _ _ _ h1
  obtain ⟨p2,e2⟩:=rb_list rb_lab _ _ _ h2
  obtain ⟨p3,e3⟩:=rb_list rb_lab _ _ _ h3
  obtain ⟨p4,e4⟩:=rb_sz _ _ _ h4
  obtain ⟨p5,e5⟩:=rb_sz _ _ _ h5
  obtain ⟨p6,e6⟩:=rb_list rb_in _ _ _ h6
  exact ⟨⟨p1,p2,p3,p4,p5,p6⟩,by rw [e1,e2,e3,e4,e5,e6];simp [fnF]⟩
def moP (m:MoM):Prop:=(m.globals.length<W64∧∀ x ∈ m.globals,labW x)∧(m.arrays.length<W64∧∀ x ∈ m.arrays,arP x)∧(m.channels.length<W64∧∀ x ∈ m.channels,labW x)∧(m.funcs.length<W64∧∀ x ∈ m.funcs,fnP x)
theorem rt_mo:RT rdMo bdF moP:=fun x r h=>by
  obtain ⟨h1,h2,h3,h4⟩:=h
  unfold rdMo bdF
  simp only [List.append_assoc]
  rw [rt_list rt_lab _ _ h1];simp only
  rw [rt_list rt_ar _ _ h2];simp only
  rw [rt_list rt_lab _ _ h3];simp only
  rw [rt_list rt_fn _ _ h4]
theorem moP_of {m:MoM} (hw:moW m) (ho:moOk m=true):moP m:=by
  obtain ⟨⟨a1,a2⟩,⟨b1,b2⟩,⟨c1,c2⟩,⟨d1,d2⟩⟩:=hw
  unfold moOk at ho
  rw [Bool.and_eq_true,List.all_eq_true,List.all_eq_true] at ho
  refine ⟨⟨by unfold W64;omega,a2⟩,⟨by unfold W64;omega,fun x hx=>?_⟩,⟨by unfold W64;omega,c2⟩,⟨by unfold W64;omega,fun f hf=>?_⟩⟩
  · have h1:=of_decide_eq_true (ho.1 x hx)
    exact ⟨⟨h1,(b2 x hx).1.2⟩,(b2 x hx).2⟩
  · have h1:=ho.2 f hf
    unfold fnOk at h1
    rw [Bool.and_eq_true,Bool.and_eq_true,List.all_eq_true] at h1
    obtain ⟨k1,⟨k2,k3⟩,⟨k4,k5⟩,k6,k7,⟨k8,k9⟩⟩:=d2 f hf
    exact ⟨k1,⟨by unfold W64;omega,k3⟩,⟨by unfold W64;omega,k5⟩,⟨of_decide_eq_true h1.1,k6.2⟩,⟨of_decide_eq_true h1.2.1,k7.2⟩,⟨by unfold W64;omega,fun x hx=>⟨h1.2.2 x hx,(k9 x hx).2⟩⟩⟩
end Go.Proofs.Ytbfkgcapkffecaa
namespace Go.Proofs.Ytbfkgcapkffecaa
open Go Go.RowKit Go.Proofs.Mm Go.ChangeShapes Go.WideShapes Go.ChangeAt
set_option maxRecDepth 100000 in
theorem wf_u64 {n:Int} (h:(Lit.int .u64 n).wf=true):labW n:=by
  have h1:=wf_le h
  have h2:IntKind.min .u64=0:=by decide
  have h3:IntKind.max .u64=18446744073709551615:=by decide
  rw [h2,h3] at h1
  unfold labW
  omega
theorem enc_all {α:Type} {R:List Value→α→Prop} {P:α→Prop}:∀ {l:List α} {cs:List Value},Enc (fun c x=>R c x∧P x) cs l→Enc R cs l∧∀ x ∈ l,P x
  | [],_,e=>⟨e,fun x hx=>by cases hx⟩
  | x :: l,cs,⟨c,r,e,h1,h2⟩=>by
    obtain ⟨k1,k2⟩:=enc_all h2
    refine ⟨⟨c,r,e,h1.1,k1⟩,fun y hy=>?_⟩
    rcases List.mem_cons.1 hy with rfl | hy
    · exact h1.2
    · exact k2 y hy
theorem sl_w {α:Type} {bs:Nat} {C:Cl} {R:List Value→α→Prop} {P:α→Prop} {cs:List Value} (h:∃ v l,cs=[v]∧SlX [] (bs+1) C (fun c x=>R c x∧P x) v l):∃ v l,cs=[v]∧SlX [] (bs+1) C R v l∧liW P l:=by
  obtain ⟨v,l,h0,q,c,ds,h1,h2,h3,h4,h5,h6⟩:=h
  obtain ⟨k1,k2⟩:=enc_all h4
  refine ⟨v,l,h0,⟨q,c,ds,h1,h2,h3,k1,h5,h6⟩,?_,k2⟩
  have:=Nat.le_mul_of_pos_right l.length (Nat.succ_pos bs)
  have e:l.length * bs.succ=l.length * (bs+1):=rfl
  omega
section
set_option maxRecDepth 100000
variable {H:Type} {enc:TypeId × Value→H} {w:World} {n:Nat} {cs:List Value} {d:DataW H} {p:List MemPlace}
theorem lab_openW (h:DataW.trod enc Try.prog w 0 (fun _=>true) true n 53 cs=some (d,p)):∃ l:Int,laR cs l∧labW l:=by
  obtain ⟨a,ha,_,hw⟩:=DataW.trod_int (k:=.u64) (by kernel_rfl) h
  exact ⟨a,ha,wf_u64 hw⟩
theorem las_openW (h:DataW.trod enc Try.prog w 0 (fun _=>true) true n 22 cs=some (d,p)) (hw:Wt 22 d):∃ v l,cs=[v]∧LasR false (wC w) v l∧liW labW l :=
  sl_w (bs:=7) (open_sl (size:=1) (bs:=8) (R:=fun c x=>laR c x∧labW x) (e:=53) (by kernel_rfl) (by kernel_rfl) (by decide) (by kernel_rfl) (fun c x h=>la_len c x h.1) (fun _ _ _ _ _ h _=>lab_openW h) h hw)
theorem cds_openW (h:DataW.trod enc Try.prog w 0 (fun _=>true) true n 58 cs=some (d,p)) (hw:Wt 58 d):∃ v l,cs=[v]∧CdR false (wC w) v l∧liW inW l :=
  sl_w (bs:=15) (open_sl (size:=2) (bs:=16) (R:=fun c x=>inR c x∧inW x) (e:=57) (by kernel_rfl) (by kernel_rfl) (by decide) (by kernel_rfl) (fun c x h=>in_len c x h.1) (fun _ _ _ _ hl h _=>by
    obtain ⟨op,a,e,h1,h2⟩:=ins_open hl h
    exact ⟨(op,a),e,h2,h1⟩) h hw)
theorem ar_openW (hl:cs.length=2) (h:DataW.trod enc Try.prog w 0 (fun _=>true) true n 55 cs=some (d,p)):∃ x:Int × Int,arR cs x∧arW x:=by
  obtain ⟨xs,n',rfl,hx,_,hlen,hf⟩:=DataW.trod_struct Try.underlying55 h
  have h0:=hf 0 _ rfl
  have h1:=hf 1 _ rfl
  match cs,hl with
  | [c0,c1],_ =>
    have l2:xs.length=2:=hlen
    rw [List.getElem?_eq_getElem (by omega)] at h0 h1
    obtain ⟨a,ha,_,hwa⟩:=DataW.trod_int (k:=.i64) (by kernel_rfl) h0
    obtain ⟨b,hb,hwb⟩:=lab_openW h1
    have ha':[c0]=[.int .i64 a]:=ha
    have hb':[c1]=[.int .u64 b]:=hb
    injection ha' with e0
    injection hb' with e1
    exact ⟨(a,b),by rw [e0,e1],wf_64 hwa,hwb⟩
theorem ars_openW (h:DataW.trod enc Try.prog w 0 (fun _=>true) true n 23 cs=some (d,p)) (hw:Wt 23 d):∃ v l,cs=[v]∧ArsR false (wC w) v l∧liW arW l :=
  sl_w (bs:=15) (open_sl (size:=2) (bs:=16) (R:=fun c x=>arR c x∧arW x) (e:=55) (by kernel_rfl) (by kernel_rfl) (by decide) (by kernel_rfl) (fun c x h=>ar_len c x h.1) (fun _ _ _ _ hl h _=>ar_openW hl h) h hw)
theorem fn_openW (hl:cs.length=6) (h:DataW.trod enc Try.prog w 0 (fun _=>true) true n 60 cs=some (d,p)) (hw:Wt 60 d):∃ f:FnM,FnR1 false (wC w) cs f∧fnW f:=by
  obtain ⟨c0,c1,c2,c3,c4,c5,rfl⟩:∃ c0 c1 c2 c3 c4 c5,cs=[c0,c1,c2,c3,c4,c5]:=by
    match cs,hl with
    | [c0,c1,c2,c3,c4,c5],_=>exact ⟨c0,c1,c2,c3,c4,c5,rfl⟩
  obtain ⟨xs,n',rfl,hx,_,hlen,hf⟩:=DataW.trod_struct Try.underlying60 h
  have h0:=hf 0 _ rfl
  have h1:=hf 1 _ rfl
  have h2:=hf 2 _ rfl
  have h3:=hf 3 _ rfl
  have h4:=hf 4 _ rfl
  have h5:=hf 5 _ rfl
  injection hx with hd _
  subst hd
  have lk:xs.length=6:=hlen
  have hwe:∀ j (hj:j<6) t,([53,22,22,3,3,58]:List TypeId)[j]?=some t→Wt t (xs[j]'(by omega)).1:=fun j hj t ht x hx=>hw x (by
    simp only [DataW.weights,Try.underlying60]
    refine DataW.weights_mem_each (j:=j) (t:=t) ?_ ?_ x hx
    · exact ht
    · rw [List.getElem?_map,List.getElem?_eq_getElem (by omega)];rfl)
  rw [List.getElem?_eq_getElem (by omega)] at h0 h1 h2 h3 h4 h5
  obtain ⟨v0,e0,g0⟩:=lab_openW h0
  obtain ⟨w1,v1,e1,r1,g1⟩:=las_openW (d:=(xs[1]'(by omega)).1) (p:=(xs[1]'(by omega)).2) h1 (hwe 1 (by omega) _ rfl)
  obtain ⟨w2,v2,e2,r2,g2⟩:=las_openW (d:=(xs[2]'(by omega)).1) (p:=(xs[2]'(by omega)).2) h2 (hwe 2 (by omega) _ rfl)
  obtain ⟨v3,e3,_,g3⟩:=DataW.trod_int (k:=.i64) (by kernel_rfl) h3
  obtain ⟨v4,e4,_,g4⟩:=DataW.trod_int (k:=.i64) (by kernel_rfl) h4
  obtain ⟨w5,v5,e5,r5,g5⟩:=cds_openW (d:=(xs[5]'(by omega)).1) (p:=(xs[5]'(by omega)).2) h5 (hwe 5 (by omega) _ rfl)
  have z0:[c0]=[.int .u64 v0]:=e0
  injection z0 with y0
  have z1:[c1]=[w1]:=e1
  injection z1 with y1
  have z2:[c2]=[w2]:=e2
  injection z2 with y2
  have z3:[c3]=[.int .i64 v3]:=e3
  injection z3 with y3
  have z4:[c4]=[.int .i64 v4]:=e4
  injection z4 with y4
  have z5:[c5]=[w5]:=e5
  injection z5 with y5
  subst y0 y1 y2 y3 y4 y5
  exact ⟨⟨v0,v1,v2,v3,v4,v5⟩,⟨c1,c2,c5,rfl,r1,r2,r5⟩,g0,g1,g2,wf_64 g3,wf_64 g4,g5⟩
theorem fns_openW (h:DataW.trod enc Try.prog w 0 (fun _=>true) true n 24 cs=some (d,p)) (hw:Wt 24 d):∃ v l,cs=[v]∧FnsR false (wC w) v l∧liW fnW l :=
  sl_w (bs:=95) (open_sl (size:=6) (bs:=96) (R:=fun c x=>FnR1 false (wC w) c x∧fnW x) (e:=60) (by kernel_rfl) (by kernel_rfl) (by decide) (by kernel_rfl) (fun c x h=>fn_len c x h.1) (fun _ _ _ _ hl h hw=>fn_openW hl h hw) h hw)
theorem mod_openW (hl:cs.length=4) (h:DataW.trod enc Try.prog w 0 (fun _=>true) true n 26 cs=some (d,p)) (hw:Wt 26 d):∃ m:MoM,MoR false (wC w) (.agg cs.toArray) m∧moW m:=by
  obtain ⟨c0,c1,c2,c3,rfl⟩:∃ c0 c1 c2 c3,cs=[c0,c1,c2,c3]:=by
    match cs,hl with
    | [c0,c1,c2,c3],_=>exact ⟨c0,c1,c2,c3,rfl⟩
  obtain ⟨xs,n',rfl,hx,_,hlen,hf⟩:=DataW.trod_struct Try.underlying26 h
  have h0:=hf 0 _ rfl
  have h1:=hf 1 _ rfl
  have h2:=hf 2 _ rfl
  have h3:=hf 3 _ rfl
  injection hx with hd _
  subst hd
  have lk:xs.length=4:=hlen
  have hwe:∀ j (hj:j<4) t,([22,23,22,24]:List TypeId)[j]?=some t→Wt t (xs[j]'(by omega)).1:=fun j hj t ht x hx=>hw x (by
    simp only [DataW.weights,Try.underlying26]
    refine DataW.weights_mem_each (j:=j) (t:=t) ?_ ?_ x hx
    · exact ht
    · rw [List.getElem?_map,List.getElem?_eq_getElem (by omega)];rfl)
  rw [List.getElem?_eq_getElem (by omega)] at h0 h1 h2 h3
  obtain ⟨w0,v0,e0,r0,g0⟩:=las_openW (d:=(xs[0]'(by omega)).1) (p:=(xs[0]'(by omega)).2) h0 (hwe 0 (by omega) _ rfl)
  obtain ⟨w1,v1,e1,r1,g1⟩:=ars_openW (d:=(xs[1]'(by omega)).1) (p:=(xs[1]'(by omega)).2) h1 (hwe 1 (by omega) _ rfl)
  obtain ⟨w2,v2,e2,r2,g2⟩:=las_openW (d:=(xs[2]'(by omega)).1) (p:=(xs[2]'(by omega)).2) h2 (hwe 2 (by omega) _ rfl)
  obtain ⟨w3,v3,e3,r3,g3⟩:=fns_openW (d:=(xs[3]'(by omega)).1) (p:=(xs[3]'(by omega)).2) h3 (hwe 3 (by omega) _ rfl)
  have z0:[c0]=[w0]:=e0
  injection z0 with y0
  have z1:[c1]=[w1]:=e1
  injection z1 with y1
  have z2:[c2]=[w2]:=e2
  injection z2 with y2
  have z3:[c3]=[w3]:=e3
  injection z3 with y3
  subst y0 y1 y2 y3
  exact ⟨⟨v0,v1,v2,v3⟩,⟨c0,c1,c2,c3,rfl,r0,r1,r2,r3⟩,g0,g1,g2,g3⟩
end
set_option maxRecDepth 100000 in
theorem in_modW {H:Type} {enc:TypeId × Value→H} {W:World} {b0:Nat} {v:Value} {d:DataW H} {ps:List MemPlace} (hval:Value.okWide Try.prog W .any b0 26 v) (hd:DataW.Trod enc Try.prog W 0 (fun _=>true) true 26 v d ps) (hw:Wt 26 d) :
    ∃ m:MoM,MoR false (wC W) v m∧moW m:=by
  obtain ⟨cs0,rfl,hcs⟩:=okWide_struct Try.underlying26 hval
  obtain ⟨fuel,hf⟩:=hd
  have hc4:cs0.toList.length=4:=by rw [Array.length_toList,hcs];kernel_rfl
  have:=mod_openW hc4 hf hw
  simpa using this
end Go.Proofs.Ytbfkgcapkffecaa
namespace Go.Proofs.Ytbfkgcapkffecaa
open Go Go.RowKit Go.Proofs.Mm Go.Sort
theorem infoOf {P:Program} {t:TypeId} {z:Value} {size bytes:Nat} (h:(P.info? t).map (fun i=>(i.zero,i.size,i.bytes))=some (some z,size,bytes)):∃ i,P.info? t=some i∧i.zero=some z∧i.size=size∧i.bytes=bytes:=by
  cases hi:P.info? t with
  | none=>rw [hi] at h;cases h
  | some i =>
    rw [hi] at h
    simp only [Option.map_some,Option.some.injEq,Prod.mk.injEq] at h
    exact ⟨i,rfl,h.1,h.2.1,h.2.2⟩
theorem infoL:∃ i,Try.prog.info? 53=some i∧i.zero=some (.int .u64 0)∧i.size=1∧i.bytes=8:=infoOf (by kernel_rfl)
theorem infoA:∃ i,Try.prog.info? 55=some i∧i.zero=some (.agg #[.int .i64 0,.int .u64 0])∧i.size=2∧i.bytes=16:=infoOf (by kernel_rfl)
theorem infoF:∃ i,Try.prog.info? 60=some i∧i.zero=some (.agg #[.int .u64 0,.slice none 0 0,.slice none 0 0,.int .i64 0,.int .i64 0,.slice none 0 0])∧i.size=6∧i.bytes=96:=infoOf (by kernel_rfl)
theorem und_L:Try.prog.underlying 22=some (.slice 53):=by kernel_rfl
theorem und_A:Try.prog.underlying 23=some (.slice 55):=by kernel_rfl
theorem und_F:Try.prog.underlying 24=some (.slice 60):=by kernel_rfl
def RowIn (w:World) (q:Option Addr) (n c size:Nat) (cs:List Value):Prop:=cs.length=n * size∧(∀ u ∈ cs,u.oneCell'=true)∧((q=none∧n=0∧c=0) ∨ ∃ ad,q=some ad∧∀ j u,cs[j]?=some u→w.cell? (ad.add j)=some u)
theorem RowIn.le {w w':World} {q:Option Addr} {n c size:Nat} {cs:List Value} (h:RowIn w q n c size cs) (hb:Below w.heap.size w w'):RowIn w' q n c size cs :=
  ⟨h.1,h.2.1,h.2.2.imp id fun ⟨ad,e,hc⟩=>⟨ad,e,fun j u hu=>cell_b (hc j u hu) hb⟩⟩
theorem one_enc {α:Type} {R:List Value→α→Prop} (hR:∀ c x,R c x→∀ u ∈ c,u.oneCell'=true):∀ {l:List α} {cs:List Value},Enc R cs l→∀ u ∈ cs,u.oneCell'=true
  | [],cs,e,u,hu=>by
    obtain rfl:cs=[]:=e
    cases hu
  | x :: l,cs,⟨c,r,e,h1,h2⟩,u,hu=>by
    subst e
    rcases List.mem_append.1 hu with hu | hu
    · exact hR c x h1 u hu
    · exact one_enc hR h2 u hu
theorem la_one (c:List Value) (x:Int) (h:laR c x):∀ u ∈ c,u.oneCell'=true:=by rw [h];intro u hu;simp at hu;subst hu;rfl
theorem ar_one (c:List Value) (x:Int × Int) (h:arR c x):∀ u ∈ c,u.oneCell'=true:=by rw [h];intro u hu;simp at hu;rcases hu with rfl | rfl <;> rfl
end Go.Proofs.Ytbfkgcapkffecaa
namespace Go.Proofs.Ytbfkgcapkffecaa
open Go Go.RowKit Go.Proofs.Mm
theorem infoI:∃ i,Try.prog.info? 57=some i∧i.zero=some (.agg #[.int .i64 0,.int .i64 0])∧i.size=2∧i.bytes=16:=infoOf (by kernel_rfl)
theorem und_I:Try.prog.underlying 58=some (.slice 57):=by kernel_rfl
theorem in_one (c:List Value) (x:Int × Int) (h:inR c x):∀ u ∈ c,u.oneCell'=true:=by rw [h];intro u hu;simp at hu;rcases hu with rfl | rfl <;> rfl
theorem lent_done {α:Type} {w w':World} {m:Mem} {E:TypeId} {size bs n c:Nat} {q:Option Addr} {cs mk:List Value} {R:Mem→List Value→α→Prop} {l:List α} (hm:Has w' m) (hv:∀ k,(Value.slice q (n+1) c).ownBlock=some k→m k=none)
    (hrow:w'.ownsRow w.heap.size E size (.slice q (n+1) c) (n+1) (cs++mk)) (hl:l.length=n) (he:Enc (R m) cs l) (hR:∀ m m':Mem,m.le m'→∀ c x,R m c x→R m' c x) (hb:n * bs≤140737488351232) :
    ∃ m',m.More w m'∧Has w' m'∧SlX mk bs (mC m') (R m') (.slice q n c) l:=by
  have hcap:n+1≤c∧c≤maxLen∧q ≠ none:=by
    rcases hrow.2 with ⟨_,h0⟩ | ⟨g',cap',cur,h0,_,_,h1,h2,_⟩
    · omega
    · injection h0 with h3 _ h4
      subst h4
      exact ⟨h1,h2,by rw [h3];simp⟩
  obtain ⟨m',h1,h2,h3,h4⟩:=RowM.done hrow hm hv
  refine ⟨m',⟨h1,fun k hk hlt=>?_⟩,h3,q,c,cs,by rw [hl],.inr (by omega),RowM.rdO h4,he.mono (hR _ _ h1),by rw [hl];exact hb,hcap.2.1,fun h=>absurd h hcap.2.2,by omega⟩
  cases hx:m' k with
  | none=>rfl
  | some o =>
    rcases h2 k (by rw [hx];simp) with h | h
    · exact absurd hk h
    · have:=(hrow.lt k h).1
      omega
theorem has_grown {w w':World} {m:Mem} (h:Has w m) (hb:Below w.heap.size w w'):Has w' m:=fun k o e=>by
  have:=h k o e
  rw [hb.block k (heap_lt this)];exact this
theorem enc_cells {α:Type} {C:Cl} {R:List Value→α→Prop} {l:List α} {cs:List Value} {g o:Nat} (_h:Enc R cs l) (hr:∀ j u,cs[j]?=some u→C ⟨g,o+j,none⟩=some u):∀ j u,cs[j]?=some u→C ((⟨g,o,none⟩:Addr).add j)=some u:=by
  intro j u hu
  rw [show ((⟨g,o,none⟩:Addr).add j)=⟨g,o+j,none⟩ from by unfold Addr.add;split <;> simp_all]
  exact hr j u hu
set_option maxRecDepth 100000 in
set_option maxHeartbeats 2000000 in
theorem lentLabels_any {w:World} {v:Value} {l:List Int} (h:LasR false (wC w) v l) {m:Mem} (hm:Has w m) :
    Calls Try.prog 31 #[v] w fun e w'=>∃ v' m',e=.returned v'∧Below w.heap.size w w'∧m.More w m'∧Has w' m'∧LasR true (mC m') v' l:=by
  obtain ⟨q,c,cs,rfl,_,hr,he,hb,hmax,hqn,hlc⟩:=h
  obtain ⟨n,hn⟩:∃ n,l.length=n:=⟨_,rfl⟩
  obtain ⟨hcl,_⟩:=encZ_at la_len he
  have hon:=one_enc la_one he
  have HE:=Lib.hid he
  have HN:=Lib.hid hn
  have HM:=Lib.hid hm
  rw [hn] at hb hcl hlc ⊢
  clear he hn hm
  obtain ⟨i2,h2,h3,h4,h5⟩:=infoL
  have hnil:=World.ownsRow_nil w w.heap.size 53 1
  have HF:=Lib.hid (show ∀ k,w.heap.size≤k→m k=none from fun k hk=>HM.out.lt hk)
  have hone:∀ u ∈ mkL true,u.oneCell'=true:=by intro u hu;simp only [mkL,if_true,List.mem_cons,List.not_mem_nil,or_false] at hu;(subst hu;rfl)
  rcases q with _ | ad
  · obtain rfl:c=0:=hqn rfl
    obtain rfl:n=0:=by omega
    have hc0:cs=[]:=List.eq_nil_of_length_eq_zero (by simpa using hcl)
    subst hc0
    have hR1:=hnil.alloc (.cells (mkL true).toArray 53)
    have hnew:=row_new w (mkL true) 53
    go_enter Try.func31,Try.ntmps31
    go_wp2_with (first | (at_builtin;refine wpList_append_own_none rfl _ _ 22 rfl w.heap.size 53 i2 1 und_L h2 _ 0 [] rfl hnil rfl ?_) | (at_builtin;refine wpList_append_own _ rfl _ _ 22 rfl w.heap.size 53 i2 _ 1 8 und_L h2 h3 h4 h5 rfl (by decide) _ 0 [] rfl hR1 ⟨w.heap.size,0,none⟩ 1 1 (mkL true) rfl rfl hnew hone (by unfold maxLen;omega) (by omega) (by simp) ?_))
    intro v2 w2 hR2 hg2 _
    obtain ⟨q2,c2,rfl⟩:=own_shape hR2
    have hB2:Below w.heap.size w w2:=grown_below ((Below.refl _ w).alloc (Nat.le_refl _) _) (by simp) hg2 (fun j hj=>(hR1.lt j hj).1)
    have HD:=Lib.hid (lent_done (w:=w) (bs:=8) (R:=fun _=>laR) (has_grown HM.out hB2) (fun k hk=>HF.out k (hR2.lt k hk).1) (by simpa using hR2) HN.out HE.out (fun _ _ _ _ _ h=>h) (by omega))
    have HB:=Lib.hid hB2
    have hcap:1≤c2:=by
      rcases hR2.2 with ⟨_,h0⟩ | ⟨g',cap',cur,h0,_,_,h1,_,_⟩
      · omega
      · injection h0 with _ _ h4
        omega
    clear hg2 hR1 hnil hB2 hR2
    go_wp2
    go_ret
    obtain ⟨m',d1,d2,d3⟩:=HD.out
    exact ⟨_,m',rfl,HB.out,d1,d2,d3⟩
  · have hcl2:∀ j u,cs[j]?=some u→w.cell? (ad.add j)=some u:=by
      rcases hr with hr | ⟨g,o,hq,hr⟩
      · have:=(List.append_eq_nil_iff.1 hr).1
        subst this
        intro j u hu
        simp at hu
      · injection hq with hq
        subst hq
        exact enc_cells HE.out (fun j u hu=>hr j u (by rw [List.getElem?_append_left ((List.getElem?_eq_some_iff.1 hu).1)];exact hu))
    clear hr
    go_enter Try.func31,Try.ntmps31
    go_wp2_with (at_builtin;refine wpList_append_own _ rfl _ _ 22 rfl w.heap.size 53 i2 _ 1 8 und_L h2 h3 h4 h5 rfl (by decide) _ 0 [] rfl hnil ad n c cs rfl hcl hcl2 hon (by unfold maxLen;omega) (by omega) (Nat.le_refl _) ?_)
    intro v1 w1 hR1 hg1 _
    obtain ⟨q1,c1,rfl⟩:=own_shape hR1
    have hB1:Below w.heap.size w w1:=grown_below (Below.refl _ w) (Nat.le_refl _) hg1 (fun j hj=>by cases hj)
    have hw1:=hB1.size
    have hR1':=hR1.alloc (.cells (mkL true).toArray 53)
    have hnew:=row_new w1 (mkL true) 53
    try simp only [Nat.zero_add,List.nil_append] at hR1 hR1'
    clear hg1 hnil hcl2 hon hR1
    go_wp2_with (at_builtin;refine wpList_append_own _ rfl _ _ 22 rfl w.heap.size 53 i2 _ 1 8 und_L h2 h3 h4 h5 rfl (by decide) _ n cs rfl hR1' ⟨w1.heap.size,0,none⟩ 1 1 (mkL true) rfl rfl hnew hone (by unfold maxLen;omega) (by omega) (by simp <;> omega) ?_)
    intro v2 w2 hR2 hg2 _
    obtain ⟨q2,c2,rfl⟩:=own_shape hR2
    have hB2:Below w.heap.size w w2:=grown_below (hB1.alloc hw1 _) (by simp;omega) hg2 (fun j hj=>(hR1'.lt j hj).1)
    have HD:=Lib.hid (lent_done (w:=w) (bs:=8) (R:=fun _=>laR) (has_grown HM.out hB2) (fun k hk=>HF.out k (hR2.lt k hk).1) hR2 HN.out HE.out (fun _ _ _ _ _ h=>h) (by omega))
    have HB:=Lib.hid hB2
    have hcap:n+1≤c2:=by
      rcases hR2.2 with ⟨_,h0⟩ | ⟨g',cap',cur,h0,_,_,h1,_,_⟩
      · omega
      · injection h0 with _ _ h4
        omega
    clear hg2 hR1' hB2 hR2 hB1
    go_wp2
    go_ret
    obtain ⟨m',d1,d2,d3⟩:=HD.out
    exact ⟨_,m',rfl,HB.out,d1,d2,d3⟩
set_option maxRecDepth 100000 in
set_option maxHeartbeats 2000000 in
theorem lentCode_any {w:World} {v:Value} {l:List (Int × Int)} (h:CdR false (wC w) v l) {m:Mem} (hm:Has w m) :
    Calls Try.prog 53 #[v] w fun e w'=>∃ v' m',e=.returned v'∧Below w.heap.size w w'∧m.More w m'∧Has w' m'∧CdR true (mC m') v' l:=by
  obtain ⟨q,c,cs,rfl,_,hr,he,hb,hmax,hqn,hlc⟩:=h
  obtain ⟨n,hn⟩:∃ n,l.length=n:=⟨_,rfl⟩
  obtain ⟨hcl,_⟩:=encZ_at in_len he
  have hon:=one_enc in_one he
  have HE:=Lib.hid he
  have HN:=Lib.hid hn
  have HM:=Lib.hid hm
  rw [hn] at hb hcl hlc ⊢
  clear he hn hm
  obtain ⟨i2,h2,h3,h4,h5⟩:=infoI
  have hnil:=World.ownsRow_nil w w.heap.size 57 2
  have HF:=Lib.hid (show ∀ k,w.heap.size≤k→m k=none from fun k hk=>HM.out.lt hk)
  have hone:∀ u ∈ mkI true,u.oneCell'=true:=by intro u hu;simp only [mkI,if_true,List.mem_cons,List.not_mem_nil,or_false] at hu;(rcases hu with rfl | rfl <;> rfl)
  rcases q with _ | ad
  · obtain rfl:c=0:=hqn rfl
    obtain rfl:n=0:=by omega
    have hc0:cs=[]:=List.eq_nil_of_length_eq_zero (by simpa using hcl)
    subst hc0
    have hR1:=hnil.alloc (.cells (mkI true).toArray 57)
    have hnew:=row_new w (mkI true) 57
    go_enter Try.func53,Try.ntmps53
    go_wp2_with (first | (at_builtin;refine wpList_append_own_none rfl _ _ 58 rfl w.heap.size 57 i2 2 und_I h2 _ 0 [] rfl hnil rfl ?_) | (at_builtin;refine wpList_append_own _ rfl _ _ 58 rfl w.heap.size 57 i2 _ 2 16 und_I h2 h3 h4 h5 rfl (by decide) _ 0 [] rfl hR1 ⟨w.heap.size,0,none⟩ 1 1 (mkI true) rfl rfl hnew hone (by unfold maxLen;omega) (by omega) (by simp) ?_))
    intro v2 w2 hR2 hg2 _
    obtain ⟨q2,c2,rfl⟩:=own_shape hR2
    have hB2:Below w.heap.size w w2:=grown_below ((Below.refl _ w).alloc (Nat.le_refl _) _) (by simp) hg2 (fun j hj=>(hR1.lt j hj).1)
    have HD:=Lib.hid (lent_done (w:=w) (bs:=16) (R:=fun _=>inR) (has_grown HM.out hB2) (fun k hk=>HF.out k (hR2.lt k hk).1) (by simpa using hR2) HN.out HE.out (fun _ _ _ _ _ h=>h) (by omega))
    have HB:=Lib.hid hB2
    have hcap:1≤c2:=by
      rcases hR2.2 with ⟨_,h0⟩ | ⟨g',cap',cur,h0,_,_,h1,_,_⟩
      · omega
      · injection h0 with _ _ h4
        omega
    clear hg2 hR1 hnil hB2 hR2
    go_wp2
    go_ret
    obtain ⟨m',d1,d2,d3⟩:=HD.out
    exact ⟨_,m',rfl,HB.out,d1,d2,d3⟩
  · have hcl2:∀ j u,cs[j]?=some u→w.cell? (ad.add j)=some u:=by
      rcases hr with hr | ⟨g,o,hq,hr⟩
      · have:=(List.append_eq_nil_iff.1 hr).1
        subst this
        intro j u hu
        simp at hu
      · injection hq with hq
        subst hq
        exact enc_cells HE.out (fun j u hu=>hr j u (by rw [List.getElem?_append_left ((List.getElem?_eq_some_iff.1 hu).1)];exact hu))
    clear hr
    go_enter Try.func53,Try.ntmps53
    go_wp2_with (at_builtin;refine wpList_append_own _ rfl _ _ 58 rfl w.heap.size 57 i2 _ 2 16 und_I h2 h3 h4 h5 rfl (by decide) _ 0 [] rfl hnil ad n c cs rfl hcl hcl2 hon (by unfold maxLen;omega) (by omega) (Nat.le_refl _) ?_)
    intro v1 w1 hR1 hg1 _
    obtain ⟨q1,c1,rfl⟩:=own_shape hR1
    have hB1:Below w.heap.size w w1:=grown_below (Below.refl _ w) (Nat.le_refl _) hg1 (fun j hj=>by cases hj)
    have hw1:=hB1.size
    have hR1':=hR1.alloc (.cells (mkI true).toArray 57)
    have hnew:=row_new w1 (mkI true) 57
    try simp only [Nat.zero_add,List.nil_append] at hR1 hR1'
    clear hg1 hnil hcl2 hon hR1
    go_wp2_with (at_builtin;refine wpList_append_own _ rfl _ _ 58 rfl w.heap.size 57 i2 _ 2 16 und_I h2 h3 h4 h5 rfl (by decide) _ n cs rfl hR1' ⟨w1.heap.size,0,none⟩ 1 1 (mkI true) rfl rfl hnew hone (by unfold maxLen;omega) (by omega) (by simp <;> omega) ?_)
    intro v2 w2 hR2 hg2 _
    obtain ⟨q2,c2,rfl⟩:=own_shape hR2
    have hB2:Below w.heap.size w w2:=grown_below (hB1.alloc hw1 _) (by simp;omega) hg2 (fun j hj=>(hR1'.lt j hj).1)
    have HD:=Lib.hid (lent_done (w:=w) (bs:=16) (R:=fun _=>inR) (has_grown HM.out hB2) (fun k hk=>HF.out k (hR2.lt k hk).1) hR2 HN.out HE.out (fun _ _ _ _ _ h=>h) (by omega))
    have HB:=Lib.hid hB2
    have hcap:n+1≤c2:=by
      rcases hR2.2 with ⟨_,h0⟩ | ⟨g',cap',cur,h0,_,_,h1,_,_⟩
      · omega
      · injection h0 with _ _ h4
        omega
    clear hg2 hR1' hB2 hR2 hB1
    go_wp2
    go_ret
    obtain ⟨m',d1,d2,d3⟩:=HD.out
    exact ⟨_,m',rfl,HB.out,d1,d2,d3⟩
end Go.Proofs.Ytbfkgcapkffecaa
namespace Go.Proofs.Ytbfkgcapkffecaa
open Go Go.RowKit
theorem eqIns (a b c d:Int) (w:World):(Op.equalIn 10000 57 (.agg #[.int .i64 a,.int .i64 b]) (.agg #[.int .i64 c,.int .i64 d])).run Try.prog w=.ok (a == c && b == d) w:=by
  have u3:=Try.underlying3
  have u2:=Try.underlying2
  have hS:Try.prog.underlying 57=some (.struct (Try.prog.fieldsOf 57)):=by kernel_rfl
  have hp:Try.prog.stoodInHeld 57=false:=by kernel_rfl
  rw [show (10000:Nat)=9999+1 from rfl,run_equalIn_agg w 9999 57 _ _ hS hp]
  simp only [Program.fieldsOf,Try.underlying57]
  go_simp
  by_cases h1:a=c <;> by_cases h2:b=d <;> simp [h1,h2]
theorem eqIns' (a b c d:Int) (w:World):(binOp .eql 57 (.agg #[.int .i64 a,.int .i64 b]) (.agg #[.int .i64 c,.int .i64 d])).run Try.prog w=.ok (.bool (a == c && b == d)) w:=by
  rw [run_eql_struct,eqIns];rfl
theorem neIns' (a b c d:Int) (w:World):(binOp .neq 57 (.agg #[.int .i64 a,.int .i64 b]) (.agg #[.int .i64 c,.int .i64 d])).run Try.prog w=.ok (.bool (!(a == c && b == d))) w:=by
  rw [run_neq_struct,eqIns];rfl
end Go.Proofs.Ytbfkgcapkffecaa
namespace Go.Proofs.Ytbfkgcapkffecaa
open Go Go.RowKit Go.Proofs.Mm
def Yes (w:World) (e:Ending) (w':World):Prop:=e=.returned (.bool true)∧∃ k,w'=w.drewN k
section
variable {lt:Bool} {C:Cl} {q:Option Addr} {n c:Nat}
def LaAt (C:Cl) (q:Option Addr) (l:List Int):Prop:=∀ j (hj:j<l.length),∃ g o,q=some ⟨g,o,none⟩∧C ⟨g,o+j,none⟩=some (.int .u64 l[j])
def InAt (C:Cl) (q:Option Addr) (l:List (Int × Int)):Prop:=∀ j (hj:j<l.length),∃ g o,q=some ⟨g,o,none⟩∧C ⟨g,o+j * 2,none⟩=some (.int .i64 l[j].1)∧C ⟨g,o+j * 2+1,none⟩=some (.int .i64 l[j].2)
def ArAt (C:Cl) (q:Option Addr) (l:List (Int × Int)):Prop:=∀ j (hj:j<l.length),∃ g o,q=some ⟨g,o,none⟩∧C ⟨g,o+j * 2,none⟩=some (.int .i64 l[j].1)∧C ⟨g,o+j * 2+1,none⟩=some (.int .u64 l[j].2)
theorem LasR.cells {l:List Int} (h:LasR lt C (.slice q n c) l):LaAt C q l:=by
  intro j hj
  obtain ⟨g,o,e,h1,rfl,h3⟩:=slx_at (size:=1) h (by decide) la_len j hj
  refine ⟨g,o,h1,?_⟩
  have:=h3 0 _ (by decide) rfl
  simpa using this
theorem CdR.cells {l:List (Int × Int)} (h:CdR lt C (.slice q n c) l):InAt C q l:=by
  intro j hj
  obtain ⟨g,o,e,h1,rfl,h3⟩:=slx_at (size:=2) h (by decide) in_len j hj
  exact ⟨g,o,h1,h3 0 _ (by decide) rfl,h3 1 _ (by decide) rfl⟩
theorem ArsR.cells {l:List (Int × Int)} (h:ArsR lt C (.slice q n c) l):ArAt C q l:=by
  intro j hj
  obtain ⟨g,o,e,h1,rfl,h3⟩:=slx_at (size:=2) h (by decide) ar_len j hj
  exact ⟨g,o,h1,h3 0 _ (by decide) rfl,h3 1 _ (by decide) rfl⟩
theorem slx_mark {α:Type} {mk:List Value} {bs:Nat} {R:List Value→α→Prop} {l:List α} {size:Nat} (h:SlX mk (bs+1) C R (.slice q n c) l) (hs:0<size) (hR:∀ c x,R c x→c.length=size) (hmk:mk ≠ []) :
    n=l.length∧n+1≤c∧c≤maxLen∧∃ g o,q=some ⟨g,o,none⟩∧∀ r u,mk[r]?=some u→C ⟨g,o+n * size+r,none⟩=some u:=by
  obtain ⟨q',c',e1,h2,_,h4,_,h6⟩:=h.at hs hR
  injection e1 with e1 e2 e3
  subst e1 e2 e3
  obtain ⟨g,o,hq,hm⟩:=h6.resolve_left hmk
  exact ⟨rfl,h2.resolve_left hmk,h4,g,o,hq,fun r u hu=>by rw [Nat.add_assoc];exact hm r u hu⟩
end
set_option maxRecDepth 100000 in
set_option maxHeartbeats 1000000 in
theorem labels_same {w:World} {q q':Option Addr} {c c':Nat} (l:List Int) (ha:LaAt (wC w) q l) (hb:LaAt (wC w) q' l) (hmax:l.length≤9223372036854775807) :
    Calls Try.prog 47 #[.slice q l.length c,.slice q' l.length c'] w (Yes w):=by
  obtain ⟨n,hn⟩:∃ n,l.length=n:=⟨_,rfl⟩
  have HN:=Lib.hid hn
  have HA:=Lib.hid ha
  have HB:=Lib.hid hb
  rw [hn] at hmax ⊢
  have hneq:((n:Int) != (n:Int))=false:=by simp
  clear ha hb hn
  go_enter Try.func47,Try.ntmps47
  go_wp2
  go_loopw [5] (fun i wr=>∃ k nq:Nat,k≤n∧i=.int .i64 k∧wr=w.drewN nq) (fun i _=>n - (intOf i).toNat)
  case atStart=>exact ⟨0,0,Nat.zero_le _,rfl,rfl⟩
  case round =>
    obtain ⟨k,nq,hk,rfl,rfl⟩:=hrel
    by_cases hlt:k<n
    · have hk':k<l.length:=by rw [HN.out];exact hlt
      obtain ⟨g,o,rfl,a1⟩:=HA.out k hk'
      obtain ⟨g',o',rfl,b1⟩:=HB.out k hk'
      have x1:w.cell? ⟨g,o+k,none⟩=some (.int .u64 l[k]):=a1
      have y1:w.cell? ⟨g',o'+k,none⟩=some (.int .u64 l[k]):=b1
      clear a1 b1
      generalize l[k]=lb at *
      have hki:(k:Int)<(n:Int):=by omega
      have e2:(lb == lb)=true:=by simp
      have e3:(lb != lb)=false:=by simp
      go_wp2
      go_quiet (fail)
      go_wp2
      exact ⟨⟨k+1,_,by omega,by go_num,rfl⟩,by simp [intOf];omega⟩
    · go_wp2
      go_ret
      exact ⟨rfl,_,rfl⟩
set_option maxRecDepth 100000 in
set_option maxHeartbeats 1000000 in
theorem code_same {w:World} {q q':Option Addr} {c c':Nat} (l:List (Int × Int)) (ha:InAt (wC w) q l) (hb:InAt (wC w) q' l) (hmax:l.length≤9223372036854775807) :
    Calls Try.prog 80 #[.slice q l.length c,.slice q' l.length c'] w (Yes w):=by
  obtain ⟨n,hn⟩:∃ n,l.length=n:=⟨_,rfl⟩
  have HN:=Lib.hid hn
  have HA:=Lib.hid ha
  have HB:=Lib.hid hb
  rw [hn] at hmax ⊢
  have hneq:((n:Int) != (n:Int))=false:=by simp
  clear ha hb hn
  go_enter Try.func80,Try.ntmps80
  go_wp2
  go_loopw [5] (fun i wr=>∃ k nq:Nat,k≤n∧i=.int .i64 k∧wr=w.drewN nq) (fun i _=>n - (intOf i).toNat)
  case atStart=>exact ⟨0,0,Nat.zero_le _,rfl,rfl⟩
  case round =>
    obtain ⟨k,nq,hk,rfl,rfl⟩:=hrel
    by_cases hlt:k<n
    · have hk':k<l.length:=by rw [HN.out];exact hlt
      obtain ⟨g,o,rfl,a1,a2⟩:=HA.out k hk'
      obtain ⟨g',o',rfl,b1,b2⟩:=HB.out k hk'
      have x1:w.cell? ⟨g,o+k * 2,none⟩=some (.int .i64 l[k].1):=a1
      have x2:w.cell? ⟨g,o+k * 2+1,none⟩=some (.int .i64 l[k].2):=a2
      have y1:w.cell? ⟨g',o'+k * 2,none⟩=some (.int .i64 l[k].1):=b1
      have y2:w.cell? ⟨g',o'+k * 2+1,none⟩=some (.int .i64 l[k].2):=b2
      clear a1 b1 a2 b2
      generalize l[k].1=z1 at *
      generalize l[k].2=z2 at *
      have hki:(k:Int)<(n:Int):=by omega
      have hne:∀ W,(binOp .neq 57 (.agg #[.int .i64 z1,.int .i64 z2]) (.agg #[.int .i64 z1,.int .i64 z2])).run Try.prog W=.ok (.bool false) W:=fun W=>by rw [neIns'];simp
      go_wp2
      go_quiet (fail)
      go_wp2
      exact ⟨⟨k+1,_,by omega,by go_num,rfl⟩,by simp [intOf];omega⟩
    · go_wp2
      go_ret
      exact ⟨rfl,_,rfl⟩
set_option maxRecDepth 100000 in
set_option maxHeartbeats 1000000 in
theorem keptLabels_true {w:World} {v v':Value} {l:List Int} (ha:LasR true (wC w) v l) (hb:LasR false (wC w) v' l):Calls Try.prog 38 #[v,v'] w (Yes w):=by
  obtain ⟨qa,ca,rfl⟩:=slx_shape ha
  obtain ⟨qb,cb,rfl⟩:=slx_shape hb
  have hm:=slx_max ha
  unfold maxLen at hm
  have HD:=Lib.hid (labels_same (c:=ca) (c':=cb) l ha.cells hb.cells (by omega))
  obtain ⟨_,hc,hmx,g,o,rfl,hmk⟩:=slx_mark (size:=1) ha (by decide) la_len (by simp [mkL])
  generalize l.length=n at hc hmk HD ⊢
  unfold maxLen at hmx
  have hx:w.cell? ⟨g,o+n,none⟩=some (.int .u64 7171):=by have:=hmk 0 _ rfl;simpa [wC] using this
  have hi:(n:Int)<(n:Int)+1:=by omega
  have hcc:(n:Int)+1≤(ca:Int):=by omega
  clear ha hb hmk hm
  go_enter Try.func38,Try.ntmps38
  go_wp2_with (go_at_call 47;refine HD.out.mono ?_;rintro e w2 ⟨rfl,k,rfl⟩)
  go_ret
  exact ⟨rfl,_,rfl⟩
set_option maxRecDepth 100000 in
set_option maxHeartbeats 1000000 in
theorem keptCode_true {w:World} {v v':Value} {l:List (Int × Int)} (ha:CdR true (wC w) v l) (hb:CdR false (wC w) v' l):Calls Try.prog 69 #[v,v'] w (Yes w):=by
  obtain ⟨qa,ca,rfl⟩:=slx_shape ha
  obtain ⟨qb,cb,rfl⟩:=slx_shape hb
  have hm:=slx_max ha
  unfold maxLen at hm
  have HD:=Lib.hid (code_same (c:=ca) (c':=cb) l ha.cells hb.cells (by omega))
  obtain ⟨_,hc,hmx,g,o,rfl,hmk⟩:=slx_mark (size:=2) ha (by decide) in_len (by simp [mkI])
  generalize l.length=n at hc hmk HD ⊢
  unfold maxLen at hmx
  have hx:w.cell? ⟨g,o+n * 2,none⟩=some (.int .i64 (-71)):=hmk 0 _ rfl
  have hx2:w.cell? ⟨g,o+n * 2+1,none⟩=some (.int .i64 0):=hmk 1 _ rfl
  have hi:(n:Int)<(n:Int)+1:=by omega
  have hcc:(n:Int)+1≤(ca:Int):=by omega
  have heq:∀ W,(binOp .eql 57 (.agg #[.int .i64 (-71),.int .i64 0]) (.agg #[.int .i64 (-71),.int .i64 0])).run Try.prog W=.ok (.bool true) W:=fun W=>by rw [eqIns'];simp
  clear ha hb hmk hm
  go_enter Try.func69,Try.ntmps69
  go_wp2_with (go_at_call 80;refine HD.out.mono ?_;rintro e w2 ⟨rfl,k,rfl⟩)
  go_ret
  exact ⟨rfl,_,rfl⟩
end Go.Proofs.Ytbfkgcapkffecaa
