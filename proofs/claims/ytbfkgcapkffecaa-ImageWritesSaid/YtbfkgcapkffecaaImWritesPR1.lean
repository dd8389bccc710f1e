/- Plain facts on numbers as bytes: forms of unsigned numbers, fewest groups of seven bits. Plain facts on numbers as bytes: forms of signed numbers, fewest groups of seven bits in two's complement. Plain facts: what Get reads: how many bytes belong to a number, what their groups come to in a word of 6 -/
import Derived.WalkKit
import Derived.Laws.Bits64
import Derived.Laws.Bits64b
import Derived.Laws.BitsAllLaws
import Derived.Test.YtbfkgcapkffecaaChecked
import Derived.OwnWalk
import Derived.Laws.AppendOwn
import Derived.Laws.AppendOwnNone
import Derived.Laws.OwnMore
import Derived.ArgAppend
import Derived.Below
import Derived.Lib.Hide
import Derived.Test.YtbfkgcapkffecaaRows
import Derived.ProofKit
import Derived.OpenShut
import Derived.LaidMore
import Derived.Lay
import Derived.SizedLaws
import Derived.ChangeSlices
import Derived.Lib.LaidU8
import Derived.Laws.BytesString
import Derived.Laws.BytesArg
import Derived.Lib.Bytes
import Derived.Lib.Strings
import Derived.Lib.Slices
import Derived.Lib.Walk
namespace Go.Proofs.Ytbfkgcapkffecaa
def putU (n:Nat):List Nat:=if n<128 then [n] else (n % 128+128) :: putU (n / 128)
termination_by n
decreasing_by omega
def valU:List Nat→Nat
  | []=>0
  | x :: l=>x % 128+128 * valU l
def oneB:List Nat→Prop
  | []=>False
  | [x]=>x<128
  | x :: y :: l=>(128≤x∧x<256)∧oneB (y :: l)
theorem putU_small {n:Nat} (h:n<128):putU n=[n]:=by rw [putU,if_pos h]
theorem putU_big {n:Nat} (h:¬ n<128):putU n=(n % 128+128) :: putU (n / 128):=by rw [putU,if_neg h]
theorem putU_ne (n:Nat):putU n ≠ []:=by
  by_cases h:n<128
  · rw [putU_small h];simp
  · rw [putU_big h];simp
theorem oneB_cons {x:Nat} {l:List Nat} (h1:128≤x) (h2:x<256) (hl:oneB l):oneB (x :: l):=by
  cases l with
  | nil=>exact hl.elim
  | cons y l=>exact ⟨⟨h1,h2⟩,hl⟩
theorem putU_one (n:Nat):oneB (putU n):=by
  induction n using Nat.strongRecOn with
  | _ n ih =>
    by_cases h:n<128
    · rw [putU_small h];exact h
    · rw [putU_big h]
      exact oneB_cons (by omega) (by omega) (ih (n / 128) (by omega))
theorem valU_putU (n:Nat):valU (putU n)=n:=by
  induction n using Nat.strongRecOn with
  | _ n ih =>
    by_cases h:n<128
    · rw [putU_small h];simp [valU];omega
    · rw [putU_big h,valU,ih (n / 128) (by omega)];omega
theorem putU_length_le (n:Nat):∀ k,0<k→n<128 ^ k→(putU n).length≤k:=by
  induction n using Nat.strongRecOn with
  | _ n ih =>
    intro k hk h
    by_cases hn:n<128
    · rw [putU_small hn];exact hk
    · rw [putU_big hn,List.length_cons]
      obtain ⟨j,rfl⟩:∃ j,k=j+1:=⟨k - 1,by omega⟩
      have hj:0<j:=by
        rcases Nat.eq_zero_or_pos j with h0 | h0
        · subst h0;simp at h;omega
        · exact h0
      have:=ih (n / 128) (by omega) j hj (by rw [Nat.pow_succ] at h;omega)
      omega
theorem putU_length_gt (n:Nat):∀ k,128 ^ k≤n→k<(putU n).length:=by
  induction n using Nat.strongRecOn with
  | _ n ih =>
    intro k h
    cases k with
    | zero=>exact List.length_pos_iff.2 (putU_ne n)
    | succ k =>
      have hn:¬ n<128:=by
        have:=Nat.pow_pos (n:=k) (show 0<128 by omega)
        rw [Nat.pow_succ] at h;omega
      rw [putU_big hn,List.length_cons]
      have:=ih (n / 128) (by omega) k (by rw [Nat.pow_succ] at h;omega)
      omega
theorem putU_ten {n:Nat} (h:n<18446744073709551616):(putU n).length≤10:=putU_length_le n 10 (by omega) (by omega)
theorem putU_at (n:Nat):∀ i,i<(putU n).length→(putU n)[i]?=some (n / 128 ^ i % 128+if i+1<(putU n).length then 128 else 0):=by
  induction n using Nat.strongRecOn with
  | _ n ih =>
    intro i hi
    by_cases hn:n<128
    · rw [putU_small hn] at hi ⊢
      obtain rfl:i=0:=by simpa using hi
      simp;omega
    · have hp:=List.length_pos_iff.2 (putU_ne (n / 128))
      rw [putU_big hn] at hi ⊢
      cases i with
      | zero =>
        rw [List.length_cons,if_pos (by omega)]
        simp
      | succ i =>
        have h2:=ih (n / 128) (by omega) i (by simpa using hi)
        rw [List.getElem?_cons_succ,h2,List.length_cons,Nat.pow_succ,Nat.mul_comm,← Nat.div_div_eq_div_mul]
        congr 2
        simp only [Nat.add_lt_add_iff_right]
end Go.Proofs.Ytbfkgcapkffecaa
namespace Go.Proofs.Ytbfkgcapkffecaa
def putS (n:Int):List Nat:=if -64≤n∧n<64 then [(n % 128).toNat] else ((n % 128).toNat+128) :: putS (n / 128)
termination_by n.natAbs
decreasing_by omega
def valS:List Nat→Int
  | []=>0
  | [x]=>if x % 128<64 then ((x % 128:Nat):Int) else ((x % 128:Nat):Int) - 128
  | x :: y :: l=>((x % 128:Nat):Int)+128 * valS (y :: l)
def oneS:List Nat→Prop
  | []=>False
  | [x]=>x<128
  | x :: y :: l=>(128≤x∧x<256)∧oneS (y :: l)
theorem putS_small {n:Int} (h:-64≤n∧n<64):putS n=[(n % 128).toNat]:=by rw [putS,if_pos h]
theorem putS_big {n:Int} (h:¬ (-64≤n∧n<64)):putS n=((n % 128).toNat+128) :: putS (n / 128):=by rw [putS,if_neg h]
theorem putS_ne (n:Int):putS n ≠ []:=by
  by_cases h:-64≤n∧n<64
  · rw [putS_small h];simp
  · rw [putS_big h];simp
theorem oneS_cons {x:Nat} {l:List Nat} (h1:128≤x) (h2:x<256) (hl:oneS l):oneS (x :: l):=by
  cases l with
  | nil=>exact hl.elim
  | cons y l=>exact ⟨⟨h1,h2⟩,hl⟩
theorem abs_rec {P:Int→Prop} (h:∀ n,(∀ m,m.natAbs<n.natAbs→P m)→P n) (n:Int):P n:=by
  have:∀ (k:Nat) (n:Int),n.natAbs<k→P n:=by
    intro k
    induction k with
    | zero=>intro n hn;omega
    | succ k ih=>intro n hn;exact h n (fun m hm=>ih m (by omega))
  exact this _ n (Nat.lt_succ_self _)
theorem putS_one (n:Int):oneS (putS n):=by
  induction n using abs_rec with
  | _ n ih =>
    by_cases h:-64≤n∧n<64
    · rw [putS_small h]
      show (n % 128).toNat<128
      omega
    · rw [putS_big h]
      exact oneS_cons (by omega) (by omega) (ih (n / 128) (by omega))
theorem valS_cons (x:Nat) {l:List Nat} (h:l ≠ []):valS (x :: l)=((x % 128:Nat):Int)+128 * valS l:=by
  cases l with
  | nil=>exact absurd rfl h
  | cons y l=>rfl
theorem valS_putS (n:Int):valS (putS n)=n:=by
  induction n using abs_rec with
  | _ n ih =>
    by_cases h:-64≤n∧n<64
    · rw [putS_small h]
      simp only [valS]
      split <;> omega
    · rw [putS_big h,valS_cons _ (putS_ne _),ih (n / 128) (by omega)]
      omega
theorem putS_length_le (n:Int):∀ k:Nat,-(64 * 128 ^ k:Int)≤n→n<64 * 128 ^ k→(putS n).length≤k+1:=by
  induction n using abs_rec with
  | _ n ih =>
    intro k h1 h2
    by_cases h:-64≤n∧n<64
    · rw [putS_small h];simp
    · rw [putS_big h,List.length_cons]
      cases k with
      | zero=>simp at h1 h2;omega
      | succ k =>
        rw [Int.pow_succ] at h1 h2
        have:=ih (n / 128) (by omega) k (by omega) (by omega)
        omega
theorem putS_length_gt (n : Int) : ∀ k : Nat,(n < -(64 * 128 ^ k : Int) ∨ 64 * 128 ^ k ≤ n) → k + 1 < (putS n).length := by
  induction n using abs_rec with
  | _ n ih =>
    intro k h
    have hp:(1:Int)≤128 ^ k:=Int.pow_pos (by decide)
    have hn:¬ (-64≤n∧n<64):=by omega
    rw [putS_big hn,List.length_cons]
    cases k with
    | zero =>
      have:=List.length_pos_iff.2 (putS_ne (n / 128))
      omega
    | succ k =>
      rw [Int.pow_succ] at h
      have:=ih (n / 128) (by omega) k (by omega)
      omega
theorem putS_ten {n:Int} (h1:-9223372036854775808≤n) (h2:n<9223372036854775808):(putS n).length≤10:=putS_length_le n 9 (by omega) (by omega)
theorem putS_at (n:Int):∀ i,i<(putS n).length→(putS n)[i]?=some ((n / 128 ^ i % 128).toNat+if i+1<(putS n).length then 128 else 0):=by
  induction n using abs_rec with
  | _ n ih =>
    intro i hi
    by_cases hn:-64≤n∧n<64
    · rw [putS_small hn] at hi ⊢
      obtain rfl:i=0:=by simpa using hi
      simp
    · have hp:=List.length_pos_iff.2 (putS_ne (n / 128))
      rw [putS_big hn] at hi ⊢
      cases i with
      | zero =>
        rw [List.length_cons,if_pos (by omega)]
        simp
      | succ i =>
        have h2:=ih (n / 128) (by omega) i (by simpa using hi)
        rw [List.getElem?_cons_succ,h2,List.length_cons,Int.pow_succ,Int.mul_comm,← Int.ediv_ediv_of_nonneg (by decide)]
        congr 2
        simp only [Nat.add_lt_add_iff_right]
end Go.Proofs.Ytbfkgcapkffecaa
namespace Go.Proofs.Ytbfkgcapkffecaa
open Go Go.RowKit
abbrev W64:Nat:=18446744073709551616
theorem wrap_i64 (n:Int):IntKind.i64.wrap n=wrap64 n:=by
  simp [IntKind.wrap,IntKind.bits,IntKind.signed,wrap64]
  split <;> omega
theorem wrap_congr {x y:Int} (h:x % 18446744073709551616=y % 18446744073709551616):wrap64 x=wrap64 y:=by
  unfold wrap64;omega
theorem wrap_id {x:Int} (h1:-9223372036854775808≤x) (h2:x<9223372036854775808):wrap64 x=x:=by
  unfold wrap64;omega
theorem wrap_le (x:Int):-9223372036854775808≤wrap64 x∧wrap64 x<9223372036854775808:=by
  unfold wrap64;omega
theorem wrap_emod (x:Int):wrap64 x % 18446744073709551616=x % 18446744073709551616:=by
  unfold wrap64;omega
def bytesL (l:List Nat):Prop:=∀ x ∈ l,x<256
theorem bytesL_at {l:List Nat} (h:bytesL l) (i:Nat):l.getD i 0<256:=by
  rw [List.getD_eq_getElem?_getD]
  cases hi:l[i]? with
  | none=>simp
  | some x=>exact h x (List.mem_of_getElem? hi)
theorem bytesL_take {l:List Nat} (h:bytesL l) (k:Nat):bytesL (l.take k):=fun x hx=>h x (List.mem_of_mem_take hx)
theorem bytesL_drop {l:List Nat} (h:bytesL l) (k:Nat):bytesL (l.drop k):=fun x hx=>h x (List.mem_of_mem_drop hx)
theorem bytesL_append {l m:List Nat} (h:bytesL l) (h2:bytesL m):bytesL (l++m):=fun x hx=>(List.mem_append.1 hx).elim (h x) (h2 x)
theorem putU_bytes (n:Nat):bytesL (putU n):=by
  induction n using Nat.strongRecOn with
  | _ n ih =>
    by_cases h:n<128
    · rw [putU_small h];intro x hx;simp at hx;omega
    · rw [putU_big h]
      intro x hx
      rcases List.mem_cons.1 hx with rfl | hx
      · omega
      · exact ih (n / 128) (by omega) x hx
theorem putS_bytes (n:Int):bytesL (putS n):=by
  refine abs_rec (P:=fun n=>bytesL (putS n)) (fun n ih=>?_) n
  by_cases h:-64≤n∧n<64
  · rw [putS_small h];intro x hx;simp at hx;omega
  · rw [putS_big h]
    intro x hx
    rcases List.mem_cons.1 hx with rfl | hx
    · omega
    · exact ih (n / 128) (by omega) x hx
def lead:List Nat→Nat
  | []=>0
  | x :: l=>if 128≤x then lead l+1 else 0
theorem lead_le:∀ l:List Nat,lead l≤l.length
  | []=>Nat.le_refl _
  | x :: l=>by
    have:=lead_le l
    rw [lead];split <;> simp <;> omega
theorem lead_ge:∀ (l:List Nat) (i:Nat),i≤l.length→(∀ j,j<i→128≤l.getD j 0)→i≤lead l
  | [],i,h,_=>h
  | x :: l,0,_,_=>Nat.zero_le _
  | x :: l,i+1,h,hj=>by
    have h0:128≤x:=hj 0 (by omega)
    have:=lead_ge l i (by simpa using h) (fun j hji=>by have:=hj (j+1) (by omega);simpa using this)
    rw [lead,if_pos h0];omega
theorem lead_at:∀ (l:List Nat) (j:Nat),j<lead l→128≤l.getD j 0
  | [],j,h=>absurd h (by simp [lead])
  | x :: l,j,h=>by
    rw [lead] at h
    split at h
    · cases j with
      | zero=>simpa using ‹128≤x›
      | succ j=>have:=lead_at l j (by omega);simpa using this
    · omega
theorem lead_eq {l:List Nat} {i:Nat} (h:i<l.length) (hj:∀ j,j<i→128≤l.getD j 0) (hi:l.getD i 0<128):lead l=i:=by
  have h1:=lead_ge l i (by omega) hj
  rcases Nat.lt_or_ge i (lead l) with h2 | h2
  · have:=lead_at l i h2;omega
  · omega
def getU (l:List Nat):Nat × Nat × Nat :=
  if 10≤lead l then (0,0,31) else if lead l=l.length then (0,0,30) else
    if putU (valU (l.take (lead l+1)) % W64)=l.take (lead l+1) then (valU (l.take (lead l+1)) % W64,lead l+1,0) else (0,0,31)
def getS (l:List Nat):Int × Nat × Nat :=
  if 10≤lead l then (0,0,31) else if lead l=l.length then (0,0,30) else
    if putS (wrap64 (valS (l.take (lead l+1))))=l.take (lead l+1) then (wrap64 (valS (l.take (lead l+1))),lead l+1,0) else (0,0,31)
theorem lead_append:∀ {l:List Nat} (m:List Nat),oneB l→lead (l++m)+1=l.length
  | [],_,h=>h.elim
  | [x],m,h=>by
    have hx:x<128:=h
    rw [List.singleton_append,lead,if_neg (by omega)];rfl
  | x :: y :: l,m,h=>by
    have:=lead_append (l:=y :: l) m h.2
    rw [List.cons_append,lead,if_pos h.1.1]
    simp only [List.length_cons] at this ⊢
    omega
theorem oneB_of_oneS:∀ {l:List Nat},oneS l→oneB l
  | [],h=>h.elim
  | [_],h=>h
  | _ :: y :: l,h=>⟨h.1,oneB_of_oneS (l:=y :: l) h.2⟩
theorem take_put {l m:List Nat} {k:Nat} (h:k=l.length):(l++m).take k=l:=by
  subst h;exact List.take_left
theorem getU_put (n:Nat) (hn:n<W64) (m:List Nat):getU (putU n++m)=(n,(putU n).length,0):=by
  have h1:=lead_append m (putU_one n)
  have h10:=putU_ten hn
  have ht:=take_put (m:=m) h1
  unfold getU
  rw [if_neg (by omega),if_neg (by rw [List.length_append];omega),ht,valU_putU,Nat.mod_eq_of_lt hn,if_pos rfl,h1]
theorem getS_put (n:Int) (h1:-9223372036854775808≤n) (h2:n<9223372036854775808) (m:List Nat):getS (putS n++m)=(n,(putS n).length,0):=by
  have h3:=lead_append m (oneB_of_oneS (putS_one n))
  have h10:=putS_ten h1 h2
  have ht:=take_put (m:=m) h3
  unfold getS
  rw [if_neg (by omega),if_neg (by rw [List.length_append];omega),ht,valS_putS,wrap_id h1 h2,if_pos rfl,h3]
theorem getU_is {l:List Nat} (h:(getU l).2.2=0):putU (getU l).1=l.take (getU l).2.1∧(getU l).2.1≤l.length∧(getU l).1<W64:=by
  have hl:=lead_le l
  unfold getU at h ⊢
  by_cases h1:10≤lead l
  · rw [if_pos h1] at h;simp at h
  · rw [if_neg h1] at h ⊢
    by_cases h2:lead l=l.length
    · rw [if_pos h2] at h;simp at h
    · rw [if_neg h2] at h ⊢
      by_cases h3:putU (valU (l.take (lead l+1)) % W64)=l.take (lead l+1)
      · rw [if_pos h3]
        exact ⟨h3,by simp only;omega,Nat.mod_lt _ (by decide)⟩
      · rw [if_neg h3] at h;simp at h
theorem getS_is {l:List Nat} (h:(getS l).2.2=0):putS (getS l).1=l.take (getS l).2.1∧(getS l).2.1≤l.length∧-9223372036854775808≤(getS l).1∧(getS l).1<9223372036854775808:=by
  have hl:=lead_le l
  unfold getS at h ⊢
  by_cases h1:10≤lead l
  · rw [if_pos h1] at h;simp at h
  · rw [if_neg h1] at h ⊢
    by_cases h2:lead l=l.length
    · rw [if_pos h2] at h;simp at h
    · rw [if_neg h2] at h ⊢
      by_cases h3:putS (wrap64 (valS (l.take (lead l+1))))=l.take (lead l+1)
      · rw [if_pos h3]
        exact ⟨h3,by simp only;omega,wrap_le _⟩
      · rw [if_neg h3] at h;simp at h
end Go.Proofs.Ytbfkgcapkffecaa
namespace Go.Proofs.Ytbfkgcapkffecaa
open Go Go.RowKit
def intOf:Value→Int
  | .int _ n=>n
  | _=>0
def ByIn (B:Nat) (w:World) (p:Option Addr) (ns:List Nat):Prop :=
  ∀ i,i<ns.length→∃ b off,p=some ⟨b,off,none⟩∧b<B∧w.cell? ⟨b,off+i,none⟩=some (.int .u8 ((ns.getD i 0:Nat):Int))
theorem ByIn.below {B B' n:Nat} {w w':World} {p:Option Addr} {ns:List Nat} (h:ByIn B w p ns) (hb:Below n w w') (hn:B≤n) (hB:B≤B'):ByIn B' w' p ns:=by
  intro i hi
  obtain ⟨b,off,hp,hlt,hc⟩:=h i hi
  exact ⟨b,off,hp,by omega,(hb.cell (p:=⟨b,off+i,none⟩) (by simp;omega)).trans hc⟩
theorem ByIn.nil (B:Nat) (w:World) (p:Option Addr):ByIn B w p []:=fun i hi=>absurd hi (by simp)
theorem ByIn.wider {B B':Nat} {w:World} {p:Option Addr} {ns:List Nat} (h:ByIn B w p ns) (hB:B≤B'):ByIn B' w p ns:=by
  intro i hi
  obtain ⟨b,off,hp,hlt,hc⟩:=h i hi
  exact ⟨b,off,hp,by omega,hc⟩
theorem info5:∃ i,Try.prog.info? 5=some i∧i.zero=some (.int .u8 0)∧i.size=1∧i.bytes=1:=by
  have h:(Try.prog.info? 5).map (fun i=>(i.zero,i.size,i.bytes))=some (some (.int .u8 0),1,1):=by kernel_rfl
  cases hi:Try.prog.info? 5 with
  | none=>rw [hi] at h;cases h
  | some i =>
    rw [hi] at h
    simp only [Option.map_some,Option.some.injEq,Prod.mk.injEq] at h
    obtain ⟨e1,e2,e3⟩:=h
    exact ⟨i,rfl,e1,e2,e3⟩
theorem below_own {n:Nat} {A B:World} {r:Option Nat} (hg:A.grownBy B r) (hn:n≤A.heap.size) (hr:∀ k,r=some k→n≤k):Below n A B :=
  ⟨hg.os,hg.tape,hg.output,hg.size,fun k hk=>hg.block k (by omega) (fun e=>by have:=hr k e.symm;omega)⟩
theorem row_slice {w:World} {b:Nat} {e:TypeId} {size:Nat} {v:Value} {n:Nat} {xs:List Value} (h:w.ownsRow b e size v n xs):∃ q c,v=.slice q n c:=by
  rcases h.2 with ⟨rfl,rfl⟩ | ⟨g,cap,_,rfl,_⟩
  · exact ⟨_,_,rfl⟩
  · exact ⟨_,_,rfl⟩
theorem row_cap {W:World} {b:Nat} {e:TypeId} {size:Nat} {g n cap:Nat} {xs:List Value} (h:W.ownsRow b e size (.slice (some ⟨g,0,none⟩) n cap) n xs):n≤cap∧cap≤maxLen:=by
  rcases h.2 with ⟨h0,_⟩ | ⟨g',cap',cur,h0,_,_,h1,h2,_⟩
  · simp at h0
  · simp only [Value.slice.injEq,true_and] at h0
    obtain ⟨_,rfl⟩:=h0
    exact ⟨h1,h2⟩
theorem row_form {W:World} {b:Nat} {e:TypeId} {size:Nat} {v:Value} {n:Nat} {xs:List Value} (h:W.ownsRow b e size v n xs) (hn:0<n):∃ g cap,v=.slice (some ⟨g,0,none⟩) n cap∧b≤g:=by
  rcases h.2 with ⟨_,h0⟩ | ⟨g,cap,cur,h0,hb,_⟩
  · omega
  · exact ⟨g,cap,h0,hb⟩
theorem cell_new (W:World) (v:Value) (t:TypeId):(W.alloc (.cells #[v] t)).cell? ⟨W.heap.size,0,none⟩=some v∧(W.alloc (.cells #[v] t)).frozen? ⟨W.heap.size,0,none⟩=false :=
  ⟨by rw [World.cell?_alloc_new];rfl,by rw [World.frozen?_alloc_new]⟩
def bv (l:List Nat):List Value:=l.map fun (s:Nat)=>Value.int .u8 (s:Int)
theorem bv_append (l m:List Nat):bv (l++m)=bv l++bv m:=by simp [bv]
theorem bv_one (l:List Nat):∀ u ∈ bv l,u.oneCell'=true:=by
  intro u h
  obtain ⟨s,_,rfl⟩:=List.mem_map.1 h
  rfl
theorem by_cells {w:World} {B:Nat} {ad:Addr} {ns:List Nat} (hs:ByIn B w (some ad) ns):∀ (j:Nat) (u:Value),(bv ns)[j]?=some u→w.cell? (ad.add j)=some u:=by
  intro j u h
  have hj:j<ns.length:=by
    have:=(List.getElem?_eq_some_iff.1 h).1
    simpa [bv] using this
  obtain ⟨b,off,he,_,hc⟩:=hs j hj
  obtain rfl:=Option.some.inj he
  rw [show (⟨b,off,none⟩:Addr).add j=⟨b,off+j,none⟩ from by unfold Addr.add;split <;> simp_all,hc,← h]
  simp [bv,List.getD_eq_getElem?_getD,hj]
theorem one_cells (W:World) (x:Nat):∀ (j:Nat) (u:Value),(bv [x])[j]?=some u→(W.alloc (.cells #[.int .u8 (x:Int)] 5)).cell? ((⟨W.heap.size,0,none⟩:Addr).add j)=some u:=by
  intro j u h
  cases j with
  | zero =>
    obtain rfl:Value.int .u8 (x:Int)=u:=by simpa [bv] using h
    exact (cell_new W _ 5).1
  | succ j=>simp [bv] at h
def OwnB (B:Nat) (w:World) (v:Value) (l:List Nat):Prop:=w.ownsRow B 5 1 v l.length (bv l)
theorem OwnB.slice {B:Nat} {w:World} {v:Value} {l:List Nat} (h:OwnB B w v l):∃ q c,v=.slice q l.length c:=row_slice h
theorem own_cell {w:World} {b g cap:Nat} {xs:List Nat} (h:w.ownsRow b 5 1 (.slice (some ⟨g,0,none⟩) xs.length cap) xs.length (bv xs)) (i:Nat) (hi:i<xs.length) :
    w.cell? ⟨g,i,none⟩=some (.int .u8 ((xs.getD i 0:Nat):Int)):=by
  have hc:=h.cellAt i (by omega)
  refine hc.trans ?_
  simp only [bv,List.getElem?_map,List.getD_eq_getElem?_getD]
  rw [List.getElem?_eq_getElem hi];rfl
theorem row_in {w:World} {b n:Nat} {p:Option Addr} {c:Nat} {xs:List Nat} (h:w.ownsRow b 5 1 (.slice p n c) xs.length (bv xs)):ByIn w.heap.size w p xs:=by
  intro i hi
  rcases h.2 with ⟨h0,hn⟩ | ⟨g,cap,cur,h0,_⟩
  · omega
  · simp only [Value.slice.injEq] at h0
    obtain ⟨rfl,rfl,rfl⟩:=h0
    have hc:=own_cell h i hi
    refine ⟨g,0,rfl,World.block_lt_of_cell? _ _ hc,?_⟩
    rw [Nat.zero_add]
    exact hc
theorem OwnB.in {B n:Nat} {w:World} {p:Option Addr} {c:Nat} {l:List Nat} (h:OwnB B w (.slice p n c) l):ByIn w.heap.size w p l:=by
  obtain ⟨q,d,e⟩:=h.slice
  simp only [Value.slice.injEq] at e
  obtain ⟨rfl,rfl,rfl⟩:=e
  exact row_in (n:=l.length) h
theorem eq_of_getD {xs ys:List Nat} (hl:xs.length=ys.length) (h:∀ j,j<xs.length→xs.getD j 0=ys.getD j 0):xs=ys:=by
  apply List.ext_getElem hl
  intro i h1 h2
  have:=h i h1
  rwa [List.getD_eq_getElem?_getD,List.getD_eq_getElem?_getD,List.getElem?_eq_getElem h1,List.getElem?_eq_getElem h2] at this
set_option maxRecDepth 100000 in
set_option maxHeartbeats 1000000 in
theorem bytes_any (p q:Option Addr) (c d:Nat) (xs ys:List Nat) (hl:xs.length≤maxLen) (w:World) (hp:ByIn w.heap.size w p xs) (hq:ByIn w.heap.size w q ys) :
    Calls Try.prog 13 #[.slice p xs.length c,.slice q ys.length d] w fun e w'=>e=.returned (.bool (decide (xs=ys)))∧Below w.heap.size w w':=by
  unfold maxLen at hl
  obtain ⟨r,hr⟩:∃ r,decide (xs=ys)=r:=⟨_,rfl⟩
  rw [hr]
  have HR:=Lib.hid hr
  clear hr
  by_cases hne:xs.length=ys.length
  · have HL:=Lib.hid hne
    obtain ⟨n,hn⟩:∃ n,xs.length=n:=⟨_,rfl⟩
    have hn':((n:Int) != (n:Int))=false:=by simp
    rw [← hne,hn]
    rw [hn] at hl
    clear hne
    have HN:=Lib.hid hn
    clear hn
    go_enter Try.func13,Try.ntmps13
    go_wp2
    go_loopw [5] (fun i wr=>∃ k:Nat,k≤n∧i=.int .i64 k∧Below w.heap.size w wr∧∀ j,j<k→xs.getD j 0=ys.getD j 0) (fun i _=>n - (intOf i).toNat)
    case atStart=>exact ⟨0,Nat.zero_le _,rfl,Below.refl _ _,fun j hj=>absurd hj (by omega)⟩
    case round =>
      obtain ⟨k,hk,rfl,hB,hsame⟩:=hrel
      have HS:=Lib.hid hsame
      clear hsame
      by_cases hlt:k<n
      · obtain ⟨b,off,rfl,hb,hc⟩:=hp k (by rw [HN.out];exact hlt)
        obtain ⟨b2,off2,rfl,hb2,hc2⟩:=hq k (by rw [← HL.out,HN.out];exact hlt)
        have h1:=(hB.cell (p:=⟨b,off+k,none⟩) hb).trans hc
        have h2:=(hB.cell (p:=⟨b2,off2+k,none⟩) hb2).trans hc2
        clear hc hc2 hp hq
        have hki:(k:Int)<(n:Int):=by omega
        by_cases he:xs.getD k 0=ys.getD k 0
        · have HE:=Lib.hid he
          rw [← he] at h2
          clear he
          generalize xs.getD k 0=y at h1 h2
          go_wp2
          go_region
          go_wp2
          refine ⟨⟨k+1,by omega,by go_num,hB.drew,fun j hj=>?_⟩,by simp [intOf];omega⟩
          rcases Nat.lt_or_ge j k with hjk | hjk
          · exact HS.out j hjk
          · obtain rfl:j=k:=by omega
            exact HE.out
        · have hd:¬ xs=ys:=fun h=>he (by rw [h])
          have hne2:(((xs.getD k 0:Nat):Int) != ((ys.getD k 0:Nat):Int))=true:=by rw [bne_iff_ne];omega
          have hrf:r=false:=by rw [← HR.out,decide_eq_false hd]
          subst hrf
          clear hd he
          generalize xs.getD k 0=y at h1 hne2
          generalize ys.getD k 0=z at h2 hne2
          go_wp2
          go_region
          go_wp2
          go_ret
          exact ⟨rfl,hB.drew⟩
      · obtain rfl:k=n:=by omega
        have hd:xs=ys:=eq_of_getD HL.out (by rw [HN.out];exact HS.out)
        have hrt:r=true:=by rw [← HR.out,decide_eq_true hd]
        subst hrt
        clear hd
        go_wp2
        go_ret
        exact ⟨rfl,hB⟩
  · have hd:¬ xs=ys:=fun h=>hne (by rw [h])
    have hne2:(((xs.length:Nat):Int) != ((ys.length:Nat):Int))=true:=by rw [bne_iff_ne];omega
    have hrf:r=false:=by rw [← HR.out,decide_eq_false hd]
    subst hrf
    clear hd hne hp hq HR
    generalize xs.length=n at hl hne2
    generalize ys.length=m at hne2
    go_enter Try.func13,Try.ntmps13
    go_wp2
    go_ret
    exact ⟨rfl,Below.refl _ _⟩
end Go.Proofs.Ytbfkgcapkffecaa
namespace Go.Proofs.Ytbfkgcapkffecaa
open Go Go.ChangeShapes Go.WideShapes Go.ChangeAt Go.RowKit Go.Lib
theorem own:ownKnob Try.prog.godebug=none:=by kernel_rfl
theorem laidOut:laidOutB Try.prog=true:=by kernel_rfl
theorem trodAll_below {H:Type} {enc:TypeId × Value→H} {P:Program} (hl:laidOutB P=true) {W W':World} (hb:Below W.heap.size W W') (ts:List TypeId):∀ {vs:List Value} {ds:List (DataW H)} {ps:List MemPlace},
    (∀ t ∈ ts,P.readableRec t=true∧t<P.types.size)→DataW.TrodAll enc P W 0 (fun _=>true) true ts vs ds ps→(∀ x ∈ ps,x.block<W.heap.size)→DataW.TrodAll enc P W' 0 (fun b=>decide (b<W.heap.size)) true ts vs ds ps:=by
  induction ts with
  | nil =>
    intro vs ds ps _ h _
    cases vs <;> cases ds <;> exact h
  | cons t ts ih =>
    intro vs ds ps hr h hlt
    cases vs with
    | nil=>cases ds <;> cases h
    | cons v vs=>cases ds with
      | nil=>cases h
      | cons d ds =>
        obtain ⟨p,q,h1,h2,rfl⟩:=h
        have ht:=hr t (List.mem_cons_self ..)
        exact ⟨p,q,Below.trod hl ht.1 ht.2 h1 hb fun x hx=>hlt x (List.mem_append_left _ hx),ih (fun u hu=>hr u (List.mem_cons_of_mem _ hu)) h2 fun x hx=>hlt x (List.mem_append_right _ hx),rfl⟩
theorem post_true {H:Type} {enc:TypeId × Value→H} {fn:Func} {s:ChangeSpec} {W W':World} {args:Array Value} {ds:List (DataW H)} {before:List MemPlace} (hv:s.vars=[]) (hrt:fn.resultTypes=#[4])
    (hr:∀ t ∈ fn.params.toList,Try.prog.readableRec t=true∧t<Try.prog.types.size) (hs:s.fn H ds={ results:=[.lit (.bool true)],args:=ds,vars:=[] })
    (hW:DataW.Whole enc Try.prog fn.params.toList s.vars false W args.toList ds [] before) (hb:Below W.heap.size W W'):s.post enc Try.prog fn false true false false W args (.bool true) W':=by
  have hW':=hW
  obtain ⟨p,q,hA,hV,rfl,hfz,_⟩:=hW
  rw [hv] at hV
  obtain rfl:q=[]:=hV
  refine ⟨ds,[],p++[],[],p,[],hW',?_,?_,?_,hb.frame _,fun h=>by cases h⟩
  · rw [List.append_nil,hs,hrt];exact trodAll_mk1 (shut_bool Try.underlying4 _)
  · rw [List.append_nil,hs]
    exact trodAll_below laidOut hb _ hr hA fun x hx=>by simpa using hW'.lt x (List.mem_append_left _ hx)
  · rw [List.append_nil,hs,hv];rfl
end Go.Proofs.Ytbfkgcapkffecaa
namespace Go.Proofs.Ytbfkgcapkffecaa
open Go Go.RowKit
theorem nil_nil (w:World):(binOp .eql 28 (.slice none 0 0) (.slice none 0 0)).run Try.prog w=.ok (.bool true) w:=by kernel_rfl
theorem nil_not (ad:Addr) (n c:Nat) (w:World):(binOp .eql 28 (.slice (some ad) n c) (.slice none 0 0)).run Try.prog w=.ok (.bool false) w:=by kernel_rfl
set_option maxRecDepth 100000 in
set_option maxHeartbeats 1000000 in
theorem clone_any (p:Option Addr) (c:Nat) (ns:List Nat) (hp:(p=none∧ns=[]∧c=0) ∨ ∃ ad,p=some ad) (hb:ns.length≤140737488355328) (w:World) (hs:ByIn w.heap.size w p ns) :
    Calls Try.prog 108 #[.slice p ns.length c] w fun e w'=>∃ v,e=.returned v∧OwnB w.heap.size w' v ns∧Below w.heap.size w w':=by
  obtain ⟨i2,h2,h3,h4,h5⟩:=info5
  rcases hp with ⟨rfl,rfl,rfl⟩ | ⟨ad,rfl⟩
  · have hq:=nil_nil w
    go_enter Try.func108,Try.ntmps108
    go_wp2
    go_ret
    exact ⟨_,rfl,World.ownsRow_nil _ _ _ _,Below.refl _ _⟩
  · have hq:=nil_not ad ns.length c w
    have hcl:=by_cells hs
    have hon:=bv_one ns
    have hll:(bv ns).length=ns.length * 1:=by simp [bv]
    go_enter Try.func108,Try.ntmps108
    have hR0:=World.ownsRow_lit (base:=w.heap.size) (e:=5) (size:=1) w #[] 0 (Nat.le_refl _) (by unfold maxLen;omega) rfl
    have hB0:Below w.heap.size w (w.alloc (.cells #[] 5)):=(Below.refl _ w).alloc (Nat.le_refl _) _
    have hcl':∀ (j:Nat) (u:Value),(bv ns)[j]?=some u→(w.alloc (.cells #[] 5)).cell? (ad.add j)=some u:=by
      intro j u h
      have hc:=hcl j u h
      exact (hB0.cell (World.block_lt_of_cell? _ _ hc)).trans hc
    clear hcl hs
    go_wp2_with (at_builtin;refine wpList_append_own _ rfl _ _ 28 rfl w.heap.size 5 i2 (.int .u8 0) 1 1 Try.underlying28 h2 h3 h4 h5 rfl (by omega) _ 0 [] rfl hR0 ad ns.length c (bv ns) rfl hll hcl' hon (by unfold maxLen;omega) (by omega) (by simp) ?_)
    intro v2 w2 hR2 hg2 _
    obtain ⟨g,cap,rfl⟩:=row_slice hR2
    have hB2:Below w.heap.size w w2:=hB0.trans (below_own hg2 (by simp) (fun j hj=>(hR0.lt j hj).1))
    clear hg2 hR0 hB0
    have HR:=Lib.hid hR2
    clear hR2
    go_wp2
    go_ret
    exact ⟨_,rfl,by simpa [OwnB] using HR.out,hB2⟩
theorem bytesOf_eq {xs ys:List Nat} (hx:bytesL xs) (hy:bytesL ys):(Lib.bytesOf (xs.map Int.ofNat) == Lib.bytesOf (ys.map Int.ofNat))=decide (xs=ys):=by
  rw [Bool.eq_iff_iff,beq_iff_eq,decide_eq_true_iff]
  constructor
  · intro h
    have h2:=congrArg (List.map UInt8.toNat) h
    have key:∀ l:List Nat,bytesL l→(Lib.bytesOf (l.map Int.ofNat)).map UInt8.toNat=l:=by
      intro l hl
      unfold Lib.bytesOf
      rw [List.map_map,List.map_map]
      conv=>rhs;rw [← List.map_id l]
      apply List.map_congr_left
      intro x hxl
      have:=hl x hxl
      simp
      omega
    rwa [key xs hx,key ys hy] at h2
  · rintro rfl;rfl
theorem conv_none (w:World) (p:Option Addr) (c:Nat):(convert 28 9 (.slice p 0 c)).run Try.prog w=.ok (.string (strOfNums [])) w:=by
  rw [run_convert_bytes_string w 28 9 5 _ 0 c Try.underlying28 Try.underlying5 Try.underlying9]
  cases p <;> simp [Conv.bytesToString,loadCells]
  all_goals rfl
theorem conv_run (w:World) (p:Option Addr) (c:Nat) (xs:List Nat) (B:Nat) (hp:ByIn B w p xs):(convert 28 9 (.slice p xs.length c)).run Try.prog w=.ok (.string (strOfNums (xs.map Int.ofNat))) w:=by
  cases xs with
  | nil=>exact conv_none w p c
  | cons x l =>
    obtain ⟨b,off,rfl,_,_⟩:=hp 0 (by simp)
    refine run_convert_bytes_arg w 28 5 Try.underlying28 Try.underlying5 b off _ c _ (by simp) (fun i hi=>?_) 9 Try.underlying9
    obtain ⟨b',off',he,_,hc⟩:=hp i hi
    cases he
    rw [hc,List.getD_eq_getElem?_getD,List.getD_eq_getElem?_getD,List.getElem?_map,List.getElem?_eq_getElem hi]
    rfl
set_option maxRecDepth 100000 in
set_option maxHeartbeats 1000000 in
theorem equal_any (p q:Option Addr) (c d:Nat) (xs ys:List Nat) (hx:bytesL xs) (hy:bytesL ys) (B:Nat) (w:World) (hp:ByIn B w p xs) (hq:ByIn B w q ys) :
    Calls Try.prog 71 #[.slice p xs.length c,.slice q ys.length d] w fun e w'=>e=.returned (.bool (decide (xs=ys)))∧w'=w:=by
  have h1:=conv_run w p c xs B hp
  have h2:=conv_run w q d ys B hq
  rw [← bytesOf_eq hx hy,← Lib.strOfNums_toList,← Lib.strOfNums_toList]
  clear hx hy hp hq
  generalize xs.map Int.ofNat=X at h1 h2 ⊢
  generalize ys.map Int.ofNat=Y at h1 h2 ⊢
  generalize xs.length=n at h1 h2 ⊢
  generalize ys.length=m at h1 h2 ⊢
  go_enter Try.func71,Try.ntmps71
  go_wp2
  go_ret
  exact ⟨rfl,rfl⟩
end Go.Proofs.Ytbfkgcapkffecaa
namespace Go.Proofs.Ytbfkgcapkffecaa
open Go Go.RowKit
def spanV (l:List Nat):Int × Int:=if 10≤lead l then (0,31) else if lead l=l.length then (0,30) else ((lead l+1:Nat),0)
theorem and128 (x:Nat) (h:x<256):bits .and .u8 (x:Int) 128=if 128≤x then 128 else 0:=by
  have:=u8_and_nat x 128 h (by omega)
  rw [show ((128:Nat):Int)=128 from rfl] at this
  rw [this,show (128:Nat)=2 ^ 7 from rfl,nat_bit 7 x]
  split
  · have:x / 2 ^ 7 % 2=1:=by omega
    rw [this];rfl
  · have:x / 2 ^ 7 % 2=0:=by omega
    rw [this];rfl
set_option maxRecDepth 100000 in
set_option maxHeartbeats 1000000 in
theorem span_any (p:Option Addr) (c:Nat) (xs:List Nat) (hx:bytesL xs) (hl:xs.length≤maxLen) (B:Nat) (w:World) (hp:ByIn B w p xs) :
    Calls Try.prog 116 #[.slice p xs.length c] w fun e w'=>e=.returned (.tuple #[.int .i64 (spanV xs).1,.int .i64 (spanV xs).2])∧w=w':=by
  unfold maxLen at hl
  obtain ⟨n,hn⟩:∃ n,xs.length=n:=⟨_,rfl⟩
  have HN:=Lib.hid hn
  rw [hn] at hl ⊢
  clear hn
  obtain ⟨r,hr⟩:∃ r,spanV xs=r:=⟨_,rfl⟩
  rw [hr]
  have HR:=Lib.hid hr
  clear hr
  go_enter Try.func116,Try.ntmps116
  go_wp2
  go_loop [8] (fun i=>∃ k:Nat,k≤n∧k<10∧i=.int .i64 k∧∀ j,j<k→128≤xs.getD j 0) (fun i=>n - (intOf i).toNat)
  case atStart=>exact ⟨0,Nat.zero_le _,by omega,rfl,fun j hj=>absurd hj (by omega)⟩
  case round =>
    obtain ⟨k,hk,hk10,rfl,hbig⟩:=hrel
    have HS:=Lib.hid hbig
    clear hbig
    by_cases hlt:k<n
    · obtain ⟨b,off,rfl,hb,hc⟩:=hp k (by rw [HN.out];exact hlt)
      have hki:(k:Int)<(n:Int):=by omega
      have ha:=and128 (xs.getD k 0) (bytesL_at hx k)
      by_cases he:128≤xs.getD k 0
      · rw [if_pos he] at ha
        have HS2:=Lib.hid (show ∀ j,j<k+1→128≤xs.getD j 0 from fun j hj=>by
          rcases Nat.lt_or_ge j k with h | h
          · exact HS.out j h
          · obtain rfl:j=k:=by omega
            exact he)
        by_cases h10:k=9
        · have hr:r=(0,31):=by
            have:=lead_ge xs 10 (by rw [HN.out];omega) (by subst h10;exact HS2.out)
            rw [← HR.out,spanV,if_pos this]
          subst hr h10
          clear hp hx HR HS HS2 he
          generalize xs.getD 9 0=y at hc ha
          go_wp2
          go_ret2
          exact ⟨rfl,rfl⟩
        · have h10':((k:Int)+1 == 10)=false:=by simp;omega
          clear hp hx HR he
          generalize xs.getD k 0=y at hc ha
          go_wp2
          exact ⟨⟨k+1,by omega,by omega,by go_num,HS2.out⟩,by simp [intOf];omega⟩
      · rw [if_neg he] at ha
        have hr:r=(((k+1:Nat):Int),0):=by
          have:=lead_eq (l:=xs) (i:=k) (by rw [HN.out];exact hlt) HS.out (by omega)
          rw [← HR.out,spanV,this,if_neg (by omega),if_neg (by rw [HN.out];omega)]
        subst hr
        clear hp hx HR HS he
        generalize xs.getD k 0=y at hc ha
        go_wp2
        go_ret2
        exact ⟨rfl,rfl⟩
    · obtain rfl:k=n:=by omega
      have hr:r=(0,30):=by
        have h1:=lead_ge xs k (by rw [HN.out];omega) HS.out
        have h2:=lead_le xs
        rw [HN.out] at h2
        have h3:lead xs=k:=by omega
        rw [← HR.out,spanV,h3,if_neg (by omega),if_pos HN.out.symm]
      subst hr
      clear hp hx HR HS
      go_wp2
      go_ret2
      exact ⟨rfl,rfl⟩
def endU (g:Nat):Value:=.func (.func 118) #[] #[.pointer (some ⟨g,0,none⟩),.pointer (some ⟨g+1,0,none⟩)]
def endS (g:Nat):Value:=.func (.func 121) #[] #[.pointer (some ⟨g,0,none⟩),.pointer (some ⟨g+1,0,none⟩)]
def laysU (g:Nat) (w:World):Prop:=w.cell? ⟨g,0,none⟩=some (.int .u64 0)∧w.cell? ⟨g+1,0,none⟩=some (.int .u64 127)
def laysS (g:Nat) (w:World):Prop:=w.cell? ⟨g,0,none⟩=some (.int .i64 (-64))∧w.cell? ⟨g+1,0,none⟩=some (.int .i64 63)
theorem laysU.below {g n:Nat} {w w':World} (h:laysU g w) (hb:Below n w w') (hg:g+1<n):laysU g w' :=
  ⟨(hb.cell (p:=⟨g,0,none⟩) (by simp;omega)).trans h.1,(hb.cell (p:=⟨g+1,0,none⟩) hg).trans h.2⟩
theorem laysS.below {g n:Nat} {w w':World} (h:laysS g w) (hb:Below n w w') (hg:g+1<n):laysS g w' :=
  ⟨(hb.cell (p:=⟨g,0,none⟩) (by simp;omega)).trans h.1,(hb.cell (p:=⟨g+1,0,none⟩) hg).trans h.2⟩
theorem two_new (w:World) (u v:Value) (t:TypeId):((w.alloc (.cells #[u] t)).alloc (.cells #[v] t)).cell? ⟨w.heap.size,0,none⟩=some u∧((w.alloc (.cells #[u] t)).alloc (.cells #[v] t)).cell? ⟨w.heap.size+1,0,none⟩=some v:=by
  have hB:Below (w.heap.size+1) (w.alloc (.cells #[u] t)) ((w.alloc (.cells #[u] t)).alloc (.cells #[v] t)):=(Below.refl _ _).alloc (by simp) _
  refine ⟨(hB.cell (p:=⟨w.heap.size,0,none⟩) (by simp)).trans (cell_new w u t).1,?_⟩
  have:=(cell_new (w.alloc (.cells #[u] t)) v t).1
  rw [show (w.alloc (.cells #[u] t)).heap.size=w.heap.size+1 from by simp] at this
  exact this
set_option maxRecDepth 100000 in
theorem unsignedEnd_any (w:World):Calls Try.prog 109 #[] w fun e w'=>∃ g,e=.returned (endU g)∧laysU g w'∧w.heap.size≤g∧g+1<w'.heap.size∧Below w.heap.size w w':=by
  go_enter Try.func109,Try.ntmps109
  go_wp2
  go_ret
  exact ⟨w.heap.size,rfl,two_new w _ _ _,Nat.le_refl _,by simp,((Below.refl _ w).alloc (Nat.le_refl _) _).alloc (by simp) _⟩
set_option maxRecDepth 100000 in
theorem signedEnd_any (w:World):Calls Try.prog 115 #[] w fun e w'=>∃ g,e=.returned (endS g)∧laysS g w'∧w.heap.size≤g∧g+1<w'.heap.size∧Below w.heap.size w w':=by
  go_enter Try.func115,Try.ntmps115
  go_wp2
  go_ret
  exact ⟨w.heap.size,rfl,two_new w _ _ _,Nat.le_refl _,by simp,((Below.refl _ w).alloc (Nat.le_refl _) _).alloc (by simp) _⟩
set_option maxRecDepth 100000 in
theorem lastU_any (g n:Nat) (w:World) (h:laysU g w) :
    Calls Try.prog 118 #[.int .u64 n,.pointer (some ⟨g,0,none⟩),.pointer (some ⟨g+1,0,none⟩)] w fun e w'=>e=.returned (.bool (decide (n<128)))∧w'=w:=by
  obtain ⟨h1,h2⟩:=h
  have h0:(0:Int)≤(n:Int):=by omega
  by_cases hn:n<128
  · have h3:(n:Int)≤127:=by omega
    rw [decide_eq_true hn]
    go_enter Try.func118,Try.ntmps118
    go_wp2
    go_ret
    exact ⟨rfl,rfl⟩
  · have h3:¬ (n:Int)≤127:=by omega
    rw [decide_eq_false hn]
    go_enter Try.func118,Try.ntmps118
    go_wp2
    go_ret
    exact ⟨rfl,rfl⟩
set_option maxRecDepth 100000 in
theorem lastS_any (g:Nat) (n:Int) (w:World) (h:laysS g w) :
    Calls Try.prog 121 #[.int .i64 n,.pointer (some ⟨g,0,none⟩),.pointer (some ⟨g+1,0,none⟩)] w fun e w'=>e=.returned (.bool (decide (-64≤n∧n<64)))∧w'=w:=by
  obtain ⟨h1,h2⟩:=h
  by_cases h0:-64≤n
  · by_cases hn:n<64
    · have h3:n≤63:=by omega
      rw [decide_eq_true ⟨h0,hn⟩]
      go_enter Try.func121,Try.ntmps121
      go_wp2
      go_ret
      exact ⟨rfl,rfl⟩
    · have h3:¬ n≤63:=by omega
      rw [decide_eq_false (fun h=>hn h.2)]
      go_enter Try.func121,Try.ntmps121
      go_wp2
      go_ret
      exact ⟨rfl,rfl⟩
  · rw [decide_eq_false (fun h=>h0 h.1)]
    go_enter Try.func121,Try.ntmps121
    go_wp2
    go_ret
    exact ⟨rfl,rfl⟩
end Go.Proofs.Ytbfkgcapkffecaa
namespace Go.Proofs.Ytbfkgcapkffecaa
open Go Go.RowKit
theorem run_append_more {P:Program} (w:World) (base:Nat) (t ty e:TypeId) (i:TypeInfo) (z:Value) (size bytes:Nat) (ht:P.underlying t=some (.slice e)) (hi:P.info? e=some i) (hz:i.zero=some z)
    (hsize:i.size=size) (hby:i.bytes=bytes) (hzs:z.cells.size=size) (hsz:0<size)
    (v:Value) (n:Nat) (xs:List Value) (hown:w.ownsRow base e size v n xs)
    (a:Addr) (m c:Nat) (news:List Value) (hl:news.length=m * size) (hnews:∀ j u,news[j]?=some u→w.cell? (a.add j)=some u) (h1:∀ u ∈ news,u.oneCell'=true)
    (h63:n+m≤maxLen) (hbytes:(n+m) * bytes≤140737488355328) (hbase:base≤w.heap.size) :
    ∃ v' w',(Builtin.append_ #[t,t] ty #[v,.slice (some a) m c]).run P w=.ok v' w'∧w'.ownsRow base e size v' (n+m) (xs++news)∧w.grownBy w' v.ownBlock ∧
      (v'.ownBlock=v.ownBlock ∨ ∀ k,v'.ownBlock=some k→w.heap.size≤k):=by
  obtain ⟨v',w',hr,r1,r2,_⟩:=run_append_own (P:=P) w base t ty e i z size bytes ht hi hz hsize hby hzs hsz v n xs hown a m c news hl hnews h1 h63 hbytes hbase
  refine ⟨v',w',hr,r1,r2,?_⟩
  rcases hown.2 with ⟨rfl,rfl⟩ | ⟨g,cap,cur,rfl,hbg,hg,hnc,hcm,hcs,htake⟩
  · have hx:xs=[]:=List.eq_nil_of_length_eq_zero (by simpa using hown.1)
    subst hx
    obtain ⟨v2,w2,hr2,q1,q2,_⟩:=run_append_own (P:=P) w w.heap.size t ty e i z size bytes ht hi hz hsize hby hzs hsz (.slice none 0 0) 0 [] (World.ownsRow_nil w _ e size) a m c news hl hnews h1 h63 hbytes (Nat.le_refl _)
    rw [hr] at hr2
    injection hr2 with e1 e2
    subst e1 e2
    exact .inr fun k hk=>(q1.lt k hk).1
  · by_cases hroom:n+m≤cap
    · subst hsize
      have hfit:n * i.size+news.length≤cur.size:=by rw [hl,hcs,← Nat.add_mul];exact Nat.mul_le_mul_right _ hroom
      have hr2:=run_append_room (P:=P) w t ty e i ht hi g n cap cur hg a m c news hl hnews h1 hroom hfit
      rw [hr] at hr2
      injection hr2 with e1 e2
      subst e1
      exact .inl rfl
    · have holds:∀ j u,xs[j]?=some u→w.cell? ((⟨g,0,none⟩:Addr).add j)=some u:=hown.cells (g:=g) rfl
      obtain ⟨v2,w2,hr2,q1,q2⟩:=run_append_arg_grows (P:=P) w t ty e i z size bytes ht hi hz hsize hby hzs hsz ⟨g,0,none⟩ n cap xs hown.1 holds a m c news hl hnews (by omega) h63 hbytes
      rw [hr] at hr2
      injection hr2 with e1 e2
      subst e1 e2
      exact .inr fun k hk=>(q1.lt k hk).1
theorem wpList_bytes {ops:Array Oper} {rest:List Oper} {o:Oper} {a:Act} {Q:Exit→Act→World→Prop} {w:World} (hgd:o.guard=none) (s x:Operand)
    (ho:o.op=.call { callee:=.builtin .append,args:=#[s,x],argTypes:=#[28,28] })
    (B:Nat) (v:Value) (l:List Nat) (hs:a.eval s=v) (hown:OwnB B w v l)
    (ad:Addr) (c:Nat) (news:List Nat) (hx:a.eval x=.slice (some ad) news.length c) (hnews:∀ j u,(bv news)[j]?=some u→w.cell? (ad.add j)=some u)
    (hb:l.length+news.length≤140737488355328) (hbase:B≤w.heap.size)
    (h:∀ v' w',OwnB B w' v' (l++news)→w.grownBy w' v.ownBlock→(v'.ownBlock=v.ownBlock ∨ ∀ k,v'.ownBlock=some k→w.heap.size≤k)→wpList Try.prog ops Q rest (a.put o.dst v') w'):wpList Try.prog ops Q (o :: rest) a w:=by
  obtain ⟨i,h2,h3,h4,h5⟩:=info5
  obtain ⟨v',w',hr,r1,r2,r3⟩:=run_append_more (P:=Try.prog) w B 28 o.type 5 i (.int .u8 0) 1 1 Try.underlying28 h2 h3 h4 h5 rfl (by omega) v l.length (bv l) hown ad news.length c (bv news) (by simp [bv]) hnews (bv_one _) (by unfold maxLen;omega) (by omega) hbase
  have r1':OwnB B w' v' (l++news):=by unfold OwnB;rw [List.length_append,bv_append];exact r1
  refine wpList_plain hgd fun K hK=>?_
  unfold Oper.wp execOp
  simp only [ho,resolve,invoke,builtin,Sem.run_bind,Sem.run_pure,Result.andThen_ok,List.map_toArray,List.map_cons,List.map_nil,hs,hx,hr]
  exact hK _ _ (h v' w' r1' r2 r3)
theorem byteU (n:Nat):IntKind.u8.wrap (n:Int)=((n % 256:Nat):Int):=by rw [IntKind.wrap_u8'];omega
theorem or128 (x:Nat) (h:x<256):bits .or .u8 (x:Int) 128=((x % 128+128:Nat):Int):=by
  have:=u8_or_nat x 128 h (by omega)
  rw [show ((128:Nat):Int)=128 from rfl] at this
  rw [this]
  congr 1
  by_cases hx:x<128
  · rw [Nat.or_comm,nat_join 7 128 x (by decide) hx];omega
  · have:x=128+x % 128:=by omega
    have h2:128 ||| x % 128=128+x % 128:=nat_join 7 128 _ (by decide) (by omega)
    rw [this,← h2,Nat.or_comm (128 ||| _),← Nat.or_assoc,Nat.or_self,h2];omega
theorem andNot128 (x:Nat) (h:x<256):bits .andNot .u8 (x:Int) 128=((x % 128:Nat):Int):=by
  have:=u8_andNot_nat x 128 h (by omega)
  rw [show ((128:Nat):Int)=128 from rfl] at this
  rw [this]
  congr 1
  exact Nat.and_two_pow_sub_one_eq_mod x 7
theorem OwnB.alloc {B:Nat} {w:World} {v:Value} {l:List Nat} (h:OwnB B w v l) (o:Obj):OwnB B (w.alloc o) v l:=World.ownsRow.alloc h o
theorem OwnB.lt {B:Nat} {w:World} {v:Value} {l:List Nat} (h:OwnB B w v l):∀ k,v.ownBlock=some k→B≤k∧k<w.heap.size:=World.ownsRow.lt h
theorem laysU.own {g:Nat} {w w':World} {r:Option Nat} (h:laysU g w) (hg:w.grownBy w' r) (h1:r ≠ some g) (h2:r ≠ some (g+1)):laysU g w' :=
  ⟨hg.cell (a:=⟨g,0,none⟩) h.1 (fun e=>h1 e.symm),hg.cell (a:=⟨g+1,0,none⟩) h.2 (fun e=>h2 e.symm)⟩
theorem laysS.own {g:Nat} {w w':World} {r:Option Nat} (h:laysS g w) (hg:w.grownBy w' r) (h1:r ≠ some g) (h2:r ≠ some (g+1)):laysS g w' :=
  ⟨hg.cell (a:=⟨g,0,none⟩) h.1 (fun e=>h1 e.symm),hg.cell (a:=⟨g+1,0,none⟩) h.2 (fun e=>h2 e.symm)⟩
theorem apart_more {v v':Value} {N g:Nat} (h:v'.ownBlock=v.ownBlock ∨ ∀ k,v'.ownBlock=some k→N≤k) (hv:v.ownBlock ≠ some g) (hn:g<N):v'.ownBlock ≠ some g:=by
  rcases h with h | h
  · rw [h];exact hv
  · intro e;have:=h g e;omega
set_option maxRecDepth 100000 in
set_option maxHeartbeats 2000000 in
theorem putU_any (g n B:Nat) (v:Value) (l:List Nat) (hl:l.length+(putU n).length≤140737488355328) (w:World) (ho:OwnB B w v l) (hB:B≤w.heap.size) (hn:n<W64)
    (hg:laysU g w) (hgs:g+1<w.heap.size) (hap:v.ownBlock ≠ some g∧v.ownBlock ≠ some (g+1)) :
    Calls Try.prog 107 #[v,.int .u64 n,endU g] w fun e w'=>∃ v',e=.returned v'∧OwnB B w' v' (l++putU n)∧Below B w w':=by
  obtain ⟨q,c,rfl⟩:=ho.slice
  unfold endU
  go_enter Try.func107,Try.ntmps107
  go_wp2
  go_loopw [0,1] (fun b m wr=>∃ (k:Nat) (l':List Nat),m=.int .u64 k∧k<W64∧OwnB B wr b l'∧l++putU n=l'++putU k∧Below B w wr∧laysU g wr∧w.heap.size≤wr.heap.size∧b.ownBlock ≠ some g∧b.ownBlock ≠ some (g+1)) (fun _ m _=>(intOf m).toNat)
  case atStart=>exact ⟨n,l,rfl,hn,ho,rfl,Below.refl _ _,hg,Nat.le_refl _,hap⟩
  case round =>
    obtain ⟨k,l',rfl,hk,ho',hlist,hbl,hlay,hsz,ha1,ha2⟩:=hrel
    obtain ⟨q',c',rfl⟩:=ho'.slice
    have hlast:=lastU_any g k wr hlay
    have hlen:=congrArg List.length hlist
    rw [List.length_append,List.length_append] at hlen
    by_cases hk1:k<128
    · rw [decide_eq_true hk1] at hlast
      have HH:=Lib.hid hlast
      rw [putU_small hk1] at hlist hlen
      have hb1:=byteU k
      rw [Nat.mod_eq_of_lt (show k<256 by omega)] at hb1
      have hb2:=andNot128 k (by omega)
      rw [Nat.mod_eq_of_lt hk1] at hb2
      clear hlast ho hg hap
      go_wp2_with fail
      refine HH.out.mono ?_
      rintro e w' ⟨rfl,rfl⟩
      clear HH
      have hA:=ho'.alloc (.cells #[.int .u8 (k:Int)] 5)
      have hBA:Below B w' (w'.alloc (.cells #[.int .u8 (k:Int)] 5)):=(Below.refl _ _).alloc (by omega) _
      clear ho'
      go_wp2_with (at_builtin;refine wpList_bytes rfl _ _ rfl B _ l' rfl hA ⟨_,0,none⟩ 1 [k] rfl (one_cells _ k) (by simp at hlen ⊢;omega) (by simp;omega) ?_)
      intro v2 w2 hO hgr _
      have hB2:Below B w w2:=hbl.trans (hBA.trans (below_own hgr (by simp;omega) (fun j hj=>(hA.lt j hj).1)))
      rw [← hlist] at hO
      have HO:=Lib.hid hO
      clear hO hA hBA hgr hlist hlay
      go_wp2
      go_ret
      exact ⟨_,rfl,HO.out,hB2⟩
    · rw [decide_eq_false hk1] at hlast
      have HH:=Lib.hid hlast
      rw [putU_big hk1] at hlist hlen
      have hb2:=or128 (k % 256) (by omega)
      rw [show k % 256 % 128+128=k % 128+128 from by omega,show ((k % 256:Nat):Int)=(k:Int) % 256 from by omega] at hb2
      generalize k % 128+128=y at hlist hlen hb2
      have hsh:(k:Int) / 2 ^ 7=((k / 128:Nat):Int):=by omega
      clear hlast ho hg hap
      go_wp2_with fail
      refine HH.out.mono ?_
      rintro e w' ⟨rfl,rfl⟩
      clear HH
      have hA:=ho'.alloc (.cells #[.int .u8 ((y:Nat):Int)] 5)
      have hBA:Below B w' (w'.alloc (.cells #[.int .u8 ((y:Nat):Int)] 5)):=(Below.refl _ _).alloc (by omega) _
      have hN:w'.heap.size≤(w'.alloc (.cells #[.int .u8 ((y:Nat):Int)] 5)).heap.size:=by simp
      have hlA:=hlay.below (Below.alloc (Below.refl (w'.heap.size) w') (Nat.le_refl _) (.cells #[.int .u8 ((y:Nat):Int)] 5)) (by omega)
      clear ho' hlay
      go_wp2_with (at_builtin;refine wpList_bytes rfl _ _ rfl B _ l' rfl hA ⟨_,0,none⟩ 1 [y] rfl (one_cells _ _) (by simp at hlen ⊢;omega) (by simp;omega) ?_)
      intro v2 w2 hO hgr hmore
      have hB2:Below B w w2:=hbl.trans (hBA.trans (below_own hgr (by simp;omega) (fun j hj=>(hA.lt j hj).1)))
      have hl2:=hlA.own hgr ha1 ha2
      have hz2:w.heap.size≤w2.heap.size:=Nat.le_trans hsz (Nat.le_trans hN hgr.size)
      have hp1:=apart_more hmore ha1 (by omega)
      have hp2:=apart_more hmore ha2 (by omega)
      have HX:=Lib.hid (show OwnB B w2 v2 (l'++[y])∧l++putU n=(l'++[y])++putU (k / 128)∧Below B w w2∧laysU g w2∧w.heap.size≤w2.heap.size∧v2.ownBlock ≠ some g∧v2.ownBlock ≠ some (g+1) from
        ⟨hO,by rw [hlist];simp,hB2,hl2,hz2,hp1,hp2⟩)
      clear hO hA hBA hgr hlist hl2 hlA hB2 hz2 hp1 hp2 hmore ha1 ha2 hbl
      go_wp2
      refine ⟨⟨k / 128,_,by go_num,by omega,HX.out⟩,?_⟩
      simp [intOf]
      omega
set_option maxRecDepth 100000 in
set_option maxHeartbeats 2000000 in
theorem putS_any (g:Nat) (n:Int) (B:Nat) (v:Value) (l:List Nat) (hl:l.length+(putS n).length≤140737488355328) (w:World) (ho:OwnB B w v l) (hB:B≤w.heap.size) (hn1:-9223372036854775808≤n) (hn2:n<9223372036854775808)
    (hg:laysS g w) (hgs:g+1<w.heap.size) (hap:v.ownBlock ≠ some g∧v.ownBlock ≠ some (g+1)) :
    Calls Try.prog 114 #[v,.int .i64 n,endS g] w fun e w'=>∃ v',e=.returned v'∧OwnB B w' v' (l++putS n)∧Below B w w':=by
  obtain ⟨q,c,rfl⟩:=ho.slice
  unfold endS
  go_enter Try.func114,Try.ntmps114
  go_wp2
  go_loopw [0,1] (fun b m wr=>∃ (k:Int) (l':List Nat),m=.int .i64 k∧-9223372036854775808≤k∧k<9223372036854775808∧OwnB B wr b l'∧l++putS n=l'++putS k∧Below B w wr∧laysS g wr∧w.heap.size≤wr.heap.size∧b.ownBlock ≠ some g∧b.ownBlock ≠ some (g+1)) (fun _ m _=>(intOf m).natAbs)
  case atStart=>exact ⟨n,l,rfl,hn1,hn2,ho,rfl,Below.refl _ _,hg,Nat.le_refl _,hap⟩
  case round =>
    obtain ⟨k,l',rfl,hk,hk',ho',hlist,hbl,hlay,hsz,ha1,ha2⟩:=hrel
    obtain ⟨q',c',rfl⟩:=ho'.slice
    have hlast:=lastS_any g k wr hlay
    have hlen:=congrArg List.length hlist
    rw [List.length_append,List.length_append] at hlen
    by_cases hk1:-64≤k∧k<64
    · rw [decide_eq_true hk1] at hlast
      have HH:=Lib.hid hlast
      rw [putS_small hk1] at hlist hlen
      have hb2:=andNot128 (k % 256).toNat (by omega)
      rw [show (k % 256).toNat % 128=(k % 128).toNat from by omega,show (((k % 256).toNat:Nat):Int)=k % 256 from by omega] at hb2
      generalize (k % 128).toNat=y at hlist hlen hb2
      clear hlast ho hg hap
      go_wp2_with fail
      refine HH.out.mono ?_
      rintro e w' ⟨rfl,rfl⟩
      clear HH
      have hA:=ho'.alloc (.cells #[.int .u8 (y:Int)] 5)
      have hBA:Below B w' (w'.alloc (.cells #[.int .u8 (y:Int)] 5)):=(Below.refl _ _).alloc (by omega) _
      clear ho'
      go_wp2_with (at_builtin;refine wpList_bytes rfl _ _ rfl B _ l' rfl hA ⟨_,0,none⟩ 1 [y] rfl (one_cells _ y) (by simp at hlen ⊢;omega) (by simp;omega) ?_)
      intro v2 w2 hO hgr _
      have hB2:Below B w w2:=hbl.trans (hBA.trans (below_own hgr (by simp;omega) (fun j hj=>(hA.lt j hj).1)))
      rw [← hlist] at hO
      have HO:=Lib.hid hO
      clear hO hA hBA hgr hlist hlay
      go_wp2
      go_ret
      exact ⟨_,rfl,HO.out,hB2⟩
    · rw [decide_eq_false hk1] at hlast
      have HH:=Lib.hid hlast
      rw [putS_big hk1] at hlist hlen
      have hb2:=or128 (k % 256).toNat (by omega)
      rw [show (k % 256).toNat % 128+128=(k % 128).toNat+128 from by omega,show (((k % 256).toNat:Nat):Int)=k % 256 from by omega] at hb2
      generalize (k % 128).toNat+128=y at hlist hlen hb2
      clear hlast ho hg hap
      go_wp2_with fail
      refine HH.out.mono ?_
      rintro e w' ⟨rfl,rfl⟩
      clear HH
      have hA:=ho'.alloc (.cells #[.int .u8 ((y:Nat):Int)] 5)
      have hBA:Below B w' (w'.alloc (.cells #[.int .u8 ((y:Nat):Int)] 5)):=(Below.refl _ _).alloc (by omega) _
      have hN:w'.heap.size≤(w'.alloc (.cells #[.int .u8 ((y:Nat):Int)] 5)).heap.size:=by simp
      have hlA:=hlay.below (Below.alloc (Below.refl (w'.heap.size) w') (Nat.le_refl _) (.cells #[.int .u8 ((y:Nat):Int)] 5)) (by omega)
      clear ho' hlay
      go_wp2_with (at_builtin;refine wpList_bytes rfl _ _ rfl B _ l' rfl hA ⟨_,0,none⟩ 1 [y] rfl (one_cells _ _) (by simp at hlen ⊢;omega) (by simp;omega) ?_)
      intro v2 w2 hO hgr hmore
      have hB2:Below B w w2:=hbl.trans (hBA.trans (below_own hgr (by simp;omega) (fun j hj=>(hA.lt j hj).1)))
      have hl2:=hlA.own hgr ha1 ha2
      have hz2:w.heap.size≤w2.heap.size:=Nat.le_trans hsz (Nat.le_trans hN hgr.size)
      have hp1:=apart_more hmore ha1 (by omega)
      have hp2:=apart_more hmore ha2 (by omega)
      have HX:=Lib.hid (show OwnB B w2 v2 (l'++[y])∧l++putS n=(l'++[y])++putS (k / 128)∧Below B w w2∧laysS g w2∧w.heap.size≤w2.heap.size∧v2.ownBlock ≠ some g∧v2.ownBlock ≠ some (g+1) from
        ⟨hO,by rw [hlist];simp,hB2,hl2,hz2,hp1,hp2⟩)
      clear hO hA hBA hgr hlist hl2 hlA hB2 hz2 hp1 hp2 hmore ha1 ha2 hbl
      go_wp2
      refine ⟨⟨k / 128,_,by go_num,by omega,by omega,HX.out⟩,?_⟩
      simp [intOf]
      omega
end Go.Proofs.Ytbfkgcapkffecaa
