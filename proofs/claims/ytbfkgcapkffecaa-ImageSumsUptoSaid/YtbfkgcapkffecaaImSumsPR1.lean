/- Plain facts on numbers as bytes: forms of unsigned numbers, fewest groups of seven bits. Plain facts on numbers as bytes: forms of signed numbers, fewest groups of seven bits in two's complement. Plain facts: what Get reads: how many bytes belong to a number, what their groups come to in a word of 6 -/
import Derived.WalkKit
import Derived.Laws.Bits64
import Derived.Laws.Bits64b
import Derived.Laws.BitsAllLaws
import Derived.Test.YtbfkgcapkffecaaChecked
import Derived.OwnWalk
import Derived.Laws.AppendOwn
import Derived.Laws.AppendOwnNone
import Derived.Laws.OwnMore
import Derived.ArgAppend
import Derived.Below
import Derived.Lib.Hide
import Derived.Test.YtbfkgcapkffecaaRows
import Derived.ProofKit
import Derived.OpenShut
import Derived.LaidMore
import Derived.Lay
import Derived.SizedLaws
import Derived.ChangeSlices
import Derived.Lib.LaidU8
import Derived.Laws.BytesString
import Derived.Laws.BytesArg
import Derived.Lib.Bytes
import Derived.Lib.Strings
import Derived.Lib.Slices
import Derived.Lib.Walk
namespace Go.Proofs.Ytbfkgcapkffecaa
def putU (n:Nat):List Nat:=if n<128 then [n] else (n % 128+128) :: putU (n / 128)
termination_by n
decreasing_by omega
def valU:List Nat→Nat
  | []=>0
  | x :: l=>x % 128+128 * valU l
def oneB:List Nat→Prop
  | []=>False
  | [x]=>x<128
  | x :: y :: l=>(128≤x∧x<256)∧oneB (y :: l)
theorem putU_small {n:Nat} (h:n<128):putU n=[n]:=by rw [putU,if_pos h]
theorem putU_big {n:Nat} (h:¬ n<128):putU n=(n % 128+128) :: putU (n / 128):=by rw [putU,if_neg h]
theorem putU_ne (n:Nat):putU n ≠ []:=by
  by_cases h:n<128
  · rw [putU_small h];simp
  · rw [putU_big h];simp
theorem oneB_cons {x:Nat} {l:List Nat} (h1:128≤x) (h2:x<256) (hl:oneB l):oneB (x :: l):=by
  cases l with
  | nil=>exact hl.elim
  | cons y l=>exact ⟨⟨h1,h2⟩,hl⟩
theorem putU_one (n:Nat):oneB (putU n):=by
  induction n using Nat.strongRecOn with
  | _ n ih =>
    by_cases h:n<128
    · rw [putU_small h];exact h
    · rw [putU_big h]
      exact oneB_cons (by omega) (by omega) (ih (n / 128) (by omega))
theorem valU_putU (n:Nat):valU (putU n)=n:=by
  induction n using Nat.strongRecOn with
  | _ n ih =>
    by_cases h:n<128
    · rw [putU_small h];simp [valU];omega
    · rw [putU_big h,valU,ih (n / 128) (by omega)];omega
theorem putU_length_le (n:Nat):∀ k,0<k→n<128 ^ k→(putU n).length≤k:=by
  induction n using Nat.strongRecOn with
  | _ n ih =>
    intro k hk h
    by_cases hn:n<128
    · rw [putU_small hn];exact hk
    · rw [putU_big hn,List.length_cons]
      obtain ⟨j,rfl⟩:∃ j,k=j+1:=⟨k - 1,by omega⟩
      have hj:0<j:=by
        rcases Nat.eq_zero_or_pos j with h0 | h0
        · subst h0;simp at h;omega
        · exact h0
      have:=ih (n / 128) (by omega) j hj (by rw [Nat.pow_succ] at h;omega)
      omega
theorem putU_ten {n:Nat} (h:n<18446744073709551616):(putU n).length≤10:=putU_length_le n 10 (by omega) (by omega)
end Go.Proofs.Ytbfkgcapkffecaa
namespace Go.Proofs.Ytbfkgcapkffecaa
def putS (n:Int):List Nat:=if -64≤n∧n<64 then [(n % 128).toNat] else ((n % 128).toNat+128) :: putS (n / 128)
termination_by n.natAbs
decreasing_by omega
def valS:List Nat→Int
  | []=>0
  | [x]=>if x % 128<64 then ((x % 128:Nat):Int) else ((x % 128:Nat):Int) - 128
  | x :: y :: l=>((x % 128:Nat):Int)+128 * valS (y :: l)
def oneS:List Nat→Prop
  | []=>False
  | [x]=>x<128
  | x :: y :: l=>(128≤x∧x<256)∧oneS (y :: l)
theorem putS_small {n:Int} (h:-64≤n∧n<64):putS n=[(n % 128).toNat]:=by rw [putS,if_pos h]
theorem putS_big {n:Int} (h:¬ (-64≤n∧n<64)):putS n=((n % 128).toNat+128) :: putS (n / 128):=by rw [putS,if_neg h]
theorem putS_ne (n:Int):putS n ≠ []:=by
  by_cases h:-64≤n∧n<64
  · rw [putS_small h];simp
  · rw [putS_big h];simp
theorem oneS_cons {x:Nat} {l:List Nat} (h1:128≤x) (h2:x<256) (hl:oneS l):oneS (x :: l):=by
  cases l with
  | nil=>exact hl.elim
  | cons y l=>exact ⟨⟨h1,h2⟩,hl⟩
theorem abs_rec {P:Int→Prop} (h:∀ n,(∀ m,m.natAbs<n.natAbs→P m)→P n) (n:Int):P n:=by
  have:∀ (k:Nat) (n:Int),n.natAbs<k→P n:=by
    intro k
    induction k with
    | zero=>intro n hn;omega
    | succ k ih=>intro n hn;exact h n (fun m hm=>ih m (by omega))
  exact this _ n (Nat.lt_succ_self _)
theorem putS_one (n:Int):oneS (putS n):=by
  induction n using abs_rec with
  | _ n ih =>
    by_cases h:-64≤n∧n<64
    · rw [putS_small h]
      show (n % 128).toNat<128
      omega
    · rw [putS_big h]
      exact oneS_cons (by omega) (by omega) (ih (n / 128) (by omega))
theorem valS_cons (x:Nat) {l:List Nat} (h:l ≠ []):valS (x :: l)=((x % 128:Nat):Int)+128 * valS l:=by
  cases l with
  | nil=>exact absurd rfl h
  | cons y l=>rfl
theorem valS_putS (n:Int):valS (putS n)=n:=by
  induction n using abs_rec with
  | _ n ih =>
    by_cases h:-64≤n∧n<64
    · rw [putS_small h]
      simp only [valS]
      split <;> omega
    · rw [putS_big h,valS_cons _ (putS_ne _),ih (n / 128) (by omega)]
      omega
theorem putS_length_le (n:Int):∀ k:Nat,-(64 * 128 ^ k:Int)≤n→n<64 * 128 ^ k→(putS n).length≤k+1:=by
  induction n using abs_rec with
  | _ n ih =>
    intro k h1 h2
    by_cases h:-64≤n∧n<64
    · rw [putS_small h];simp
    · rw [putS_big h,List.length_cons]
      cases k with
      | zero=>simp at h1 h2;omega
      | succ k =>
        rw [Int.pow_succ] at h1 h2
        have:=ih (n / 128) (by omega) k (by omega) (by omega)
        omega
theorem putS_ten {n:Int} (h1:-9223372036854775808≤n) (h2:n<9223372036854775808):(putS n).length≤10:=putS_length_le n 9 (by omega) (by omega)
end Go.Proofs.Ytbfkgcapkffecaa
namespace Go.Proofs.Ytbfkgcapkffecaa
open Go Go.RowKit
abbrev W64:Nat:=18446744073709551616
theorem wrap_i64 (n:Int):IntKind.i64.wrap n=wrap64 n:=by
  simp [IntKind.wrap,IntKind.bits,IntKind.signed,wrap64]
  split <;> omega
theorem wrap_congr {x y:Int} (h:x % 18446744073709551616=y % 18446744073709551616):wrap64 x=wrap64 y:=by
  unfold wrap64;omega
theorem wrap_id {x:Int} (h1:-9223372036854775808≤x) (h2:x<9223372036854775808):wrap64 x=x:=by
  unfold wrap64;omega
theorem wrap_le (x:Int):-9223372036854775808≤wrap64 x∧wrap64 x<9223372036854775808:=by
  unfold wrap64;omega
theorem wrap_emod (x:Int):wrap64 x % 18446744073709551616=x % 18446744073709551616:=by
  unfold wrap64;omega
def bytesL (l:List Nat):Prop:=∀ x ∈ l,x<256
theorem bytesL_at {l:List Nat} (h:bytesL l) (i:Nat):l.getD i 0<256:=by
  rw [List.getD_eq_getElem?_getD]
  cases hi:l[i]? with
  | none=>simp
  | some x=>exact h x (List.mem_of_getElem? hi)
theorem bytesL_of {l:List Nat} (h:∀ i,i<l.length→l.getD i 0<256):bytesL l:=by
  intro x hx
  obtain ⟨i,hi,rfl⟩:=List.getElem_of_mem hx
  have:=h i hi
  rwa [List.getD_eq_getElem?_getD,List.getElem?_eq_getElem hi] at this
theorem bytesL_take {l:List Nat} (h:bytesL l) (k:Nat):bytesL (l.take k):=fun x hx=>h x (List.mem_of_mem_take hx)
theorem bytesL_drop {l:List Nat} (h:bytesL l) (k:Nat):bytesL (l.drop k):=fun x hx=>h x (List.mem_of_mem_drop hx)
theorem bytesL_append {l m:List Nat} (h:bytesL l) (h2:bytesL m):bytesL (l++m):=fun x hx=>(List.mem_append.1 hx).elim (h x) (h2 x)
theorem putU_bytes (n:Nat):bytesL (putU n):=by
  induction n using Nat.strongRecOn with
  | _ n ih =>
    by_cases h:n<128
    · rw [putU_small h];intro x hx;simp at hx;omega
    · rw [putU_big h]
      intro x hx
      rcases List.mem_cons.1 hx with rfl | hx
      · omega
      · exact ih (n / 128) (by omega) x hx
theorem putS_bytes (n:Int):bytesL (putS n):=by
  refine abs_rec (P:=fun n=>bytesL (putS n)) (fun n ih=>?_) n
  by_cases h:-64≤n∧n<64
  · rw [putS_small h];intro x hx;simp at hx;omega
  · rw [putS_big h]
    intro x hx
    rcases List.mem_cons.1 hx with rfl | hx
    · omega
    · exact ih (n / 128) (by omega) x hx
def lead:List Nat→Nat
  | []=>0
  | x :: l=>if 128≤x then lead l+1 else 0
theorem lead_le:∀ l:List Nat,lead l≤l.length
  | []=>Nat.le_refl _
  | x :: l=>by
    have:=lead_le l
    rw [lead];split <;> simp <;> omega
theorem lead_ge:∀ (l:List Nat) (i:Nat),i≤l.length→(∀ j,j<i→128≤l.getD j 0)→i≤lead l
  | [],i,h,_=>h
  | x :: l,0,_,_=>Nat.zero_le _
  | x :: l,i+1,h,hj=>by
    have h0:128≤x:=hj 0 (by omega)
    have:=lead_ge l i (by simpa using h) (fun j hji=>by have:=hj (j+1) (by omega);simpa using this)
    rw [lead,if_pos h0];omega
theorem lead_at:∀ (l:List Nat) (j:Nat),j<lead l→128≤l.getD j 0
  | [],j,h=>absurd h (by simp [lead])
  | x :: l,j,h=>by
    rw [lead] at h
    split at h
    · cases j with
      | zero=>simpa using ‹128≤x›
      | succ j=>have:=lead_at l j (by omega);simpa using this
    · omega
theorem lead_eq {l:List Nat} {i:Nat} (h:i<l.length) (hj:∀ j,j<i→128≤l.getD j 0) (hi:l.getD i 0<128):lead l=i:=by
  have h1:=lead_ge l i (by omega) hj
  rcases Nat.lt_or_ge i (lead l) with h2 | h2
  · have:=lead_at l i h2;omega
  · omega
def getU (l:List Nat):Nat × Nat × Nat :=
  if 10≤lead l then (0,0,31) else if lead l=l.length then (0,0,30) else
    if putU (valU (l.take (lead l+1)) % W64)=l.take (lead l+1) then (valU (l.take (lead l+1)) % W64,lead l+1,0) else (0,0,31)
def getS (l:List Nat):Int × Nat × Nat :=
  if 10≤lead l then (0,0,31) else if lead l=l.length then (0,0,30) else
    if putS (wrap64 (valS (l.take (lead l+1))))=l.take (lead l+1) then (wrap64 (valS (l.take (lead l+1))),lead l+1,0) else (0,0,31)
theorem lead_append:∀ {l:List Nat} (m:List Nat),oneB l→lead (l++m)+1=l.length
  | [],_,h=>h.elim
  | [x],m,h=>by
    have hx:x<128:=h
    rw [List.singleton_append,lead,if_neg (by omega)];rfl
  | x :: y :: l,m,h=>by
    have:=lead_append (l:=y :: l) m h.2
    rw [List.cons_append,lead,if_pos h.1.1]
    simp only [List.length_cons] at this ⊢
    omega
theorem oneB_of_oneS:∀ {l:List Nat},oneS l→oneB l
  | [],h=>h.elim
  | [_],h=>h
  | _ :: y :: l,h=>⟨h.1,oneB_of_oneS (l:=y :: l) h.2⟩
theorem take_put {l m:List Nat} {k:Nat} (h:k=l.length):(l++m).take k=l:=by
  subst h;exact List.take_left
theorem getU_put (n:Nat) (hn:n<W64) (m:List Nat):getU (putU n++m)=(n,(putU n).length,0):=by
  have h1:=lead_append m (putU_one n)
  have h10:=putU_ten hn
  have ht:=take_put (m:=m) h1
  unfold getU
  rw [if_neg (by omega),if_neg (by rw [List.length_append];omega),ht,valU_putU,Nat.mod_eq_of_lt hn,if_pos rfl,h1]
theorem getS_put (n:Int) (h1:-9223372036854775808≤n) (h2:n<9223372036854775808) (m:List Nat):getS (putS n++m)=(n,(putS n).length,0):=by
  have h3:=lead_append m (oneB_of_oneS (putS_one n))
  have h10:=putS_ten h1 h2
  have ht:=take_put (m:=m) h3
  unfold getS
  rw [if_neg (by omega),if_neg (by rw [List.length_append];omega),ht,valS_putS,wrap_id h1 h2,if_pos rfl,h3]
theorem getU_is {l:List Nat} (h:(getU l).2.2=0):putU (getU l).1=l.take (getU l).2.1∧(getU l).2.1≤l.length∧(getU l).1<W64:=by
  have hl:=lead_le l
  unfold getU at h ⊢
  by_cases h1:10≤lead l
  · rw [if_pos h1] at h;simp at h
  · rw [if_neg h1] at h ⊢
    by_cases h2:lead l=l.length
    · rw [if_pos h2] at h;simp at h
    · rw [if_neg h2] at h ⊢
      by_cases h3:putU (valU (l.take (lead l+1)) % W64)=l.take (lead l+1)
      · rw [if_pos h3]
        exact ⟨h3,by simp only;omega,Nat.mod_lt _ (by decide)⟩
      · rw [if_neg h3] at h;simp at h
theorem getS_is {l:List Nat} (h:(getS l).2.2=0):putS (getS l).1=l.take (getS l).2.1∧(getS l).2.1≤l.length∧-9223372036854775808≤(getS l).1∧(getS l).1<9223372036854775808:=by
  have hl:=lead_le l
  unfold getS at h ⊢
  by_cases h1:10≤lead l
  · rw [if_pos h1] at h;simp at h
  · rw [if_neg h1] at h ⊢
    by_cases h2:lead l=l.length
    · rw [if_pos h2] at h;simp at h
    · rw [if_neg h2] at h ⊢
      by_cases h3:putS (wrap64 (valS (l.take (lead l+1))))=l.take (lead l+1)
      · rw [if_pos h3]
        exact ⟨h3,by simp only;omega,wrap_le _⟩
      · rw [if_neg h3] at h;simp at h
end Go.Proofs.Ytbfkgcapkffecaa
namespace Go.Proofs.Ytbfkgcapkffecaa
open Go Go.RowKit
def intOf:Value→Int
  | .int _ n=>n
  | _=>0
def ByIn (B:Nat) (w:World) (p:Option Addr) (ns:List Nat):Prop :=
  ∀ i,i<ns.length→∃ b off,p=some ⟨b,off,none⟩∧b<B∧w.cell? ⟨b,off+i,none⟩=some (.int .u8 ((ns.getD i 0:Nat):Int))
theorem ByIn.below {B B' n:Nat} {w w':World} {p:Option Addr} {ns:List Nat} (h:ByIn B w p ns) (hb:Below n w w') (hn:B≤n) (hB:B≤B'):ByIn B' w' p ns:=by
  intro i hi
  obtain ⟨b,off,hp,hlt,hc⟩:=h i hi
  exact ⟨b,off,hp,by omega,(hb.cell (p:=⟨b,off+i,none⟩) (by simp;omega)).trans hc⟩
theorem ByIn.nil (B:Nat) (w:World) (p:Option Addr):ByIn B w p []:=fun i hi=>absurd hi (by simp)
theorem ByIn.wider {B B':Nat} {w:World} {p:Option Addr} {ns:List Nat} (h:ByIn B w p ns) (hB:B≤B'):ByIn B' w p ns:=by
  intro i hi
  obtain ⟨b,off,hp,hlt,hc⟩:=h i hi
  exact ⟨b,off,hp,by omega,hc⟩
theorem info5:∃ i,Try.prog.info? 5=some i∧i.zero=some (.int .u8 0)∧i.size=1∧i.bytes=1:=by
  have h:(Try.prog.info? 5).map (fun i=>(i.zero,i.size,i.bytes))=some (some (.int .u8 0),1,1):=by kernel_rfl
  cases hi:Try.prog.info? 5 with
  | none=>rw [hi] at h;cases h
  | some i =>
    rw [hi] at h
    simp only [Option.map_some,Option.some.injEq,Prod.mk.injEq] at h
    obtain ⟨e1,e2,e3⟩:=h
    exact ⟨i,rfl,e1,e2,e3⟩
theorem below_own {n:Nat} {A B:World} {r:Option Nat} (hg:A.grownBy B r) (hn:n≤A.heap.size) (hr:∀ k,r=some k→n≤k):Below n A B :=
  ⟨hg.os,hg.tape,hg.output,hg.size,fun k hk=>hg.block k (by omega) (fun e=>by have:=hr k e.symm;omega)⟩
theorem row_slice {w:World} {b:Nat} {e:TypeId} {size:Nat} {v:Value} {n:Nat} {xs:List Value} (h:w.ownsRow b e size v n xs):∃ q c,v=.slice q n c:=by
  rcases h.2 with ⟨rfl,rfl⟩ | ⟨g,cap,_,rfl,_⟩
  · exact ⟨_,_,rfl⟩
  · exact ⟨_,_,rfl⟩
theorem row_cap {W:World} {b:Nat} {e:TypeId} {size:Nat} {g n cap:Nat} {xs:List Value} (h:W.ownsRow b e size (.slice (some ⟨g,0,none⟩) n cap) n xs):n≤cap∧cap≤maxLen:=by
  rcases h.2 with ⟨h0,_⟩ | ⟨g',cap',cur,h0,_,_,h1,h2,_⟩
  · simp at h0
  · simp only [Value.slice.injEq,true_and] at h0
    obtain ⟨_,rfl⟩:=h0
    exact ⟨h1,h2⟩
theorem row_form {W:World} {b:Nat} {e:TypeId} {size:Nat} {v:Value} {n:Nat} {xs:List Value} (h:W.ownsRow b e size v n xs) (hn:0<n):∃ g cap,v=.slice (some ⟨g,0,none⟩) n cap∧b≤g:=by
  rcases h.2 with ⟨_,h0⟩ | ⟨g,cap,cur,h0,hb,_⟩
  · omega
  · exact ⟨g,cap,h0,hb⟩
theorem cell_new (W:World) (v:Value) (t:TypeId):(W.alloc (.cells #[v] t)).cell? ⟨W.heap.size,0,none⟩=some v∧(W.alloc (.cells #[v] t)).frozen? ⟨W.heap.size,0,none⟩=false :=
  ⟨by rw [World.cell?_alloc_new];rfl,by rw [World.frozen?_alloc_new]⟩
def bv (l:List Nat):List Value:=l.map fun (s:Nat)=>Value.int .u8 (s:Int)
theorem bv_append (l m:List Nat):bv (l++m)=bv l++bv m:=by simp [bv]
theorem bv_one (l:List Nat):∀ u ∈ bv l,u.oneCell'=true:=by
  intro u h
  obtain ⟨s,_,rfl⟩:=List.mem_map.1 h
  rfl
theorem by_cells {w:World} {B:Nat} {ad:Addr} {ns:List Nat} (hs:ByIn B w (some ad) ns):∀ (j:Nat) (u:Value),(bv ns)[j]?=some u→w.cell? (ad.add j)=some u:=by
  intro j u h
  have hj:j<ns.length:=by
    have:=(List.getElem?_eq_some_iff.1 h).1
    simpa [bv] using this
  obtain ⟨b,off,he,_,hc⟩:=hs j hj
  obtain rfl:=Option.some.inj he
  rw [show (⟨b,off,none⟩:Addr).add j=⟨b,off+j,none⟩ from by unfold Addr.add;split <;> simp_all,hc,← h]
  simp [bv,List.getD_eq_getElem?_getD,hj]
theorem one_cells (W:World) (x:Nat):∀ (j:Nat) (u:Value),(bv [x])[j]?=some u→(W.alloc (.cells #[.int .u8 (x:Int)] 5)).cell? ((⟨W.heap.size,0,none⟩:Addr).add j)=some u:=by
  intro j u h
  cases j with
  | zero =>
    obtain rfl:Value.int .u8 (x:Int)=u:=by simpa [bv] using h
    exact (cell_new W _ 5).1
  | succ j=>simp [bv] at h
def OwnB (B:Nat) (w:World) (v:Value) (l:List Nat):Prop:=w.ownsRow B 5 1 v l.length (bv l)
theorem OwnB.slice {B:Nat} {w:World} {v:Value} {l:List Nat} (h:OwnB B w v l):∃ q c,v=.slice q l.length c:=row_slice h
theorem own_cell {w:World} {b g cap:Nat} {xs:List Nat} (h:w.ownsRow b 5 1 (.slice (some ⟨g,0,none⟩) xs.length cap) xs.length (bv xs)) (i:Nat) (hi:i<xs.length) :
    w.cell? ⟨g,i,none⟩=some (.int .u8 ((xs.getD i 0:Nat):Int)):=by
  have hc:=h.cellAt i (by omega)
  refine hc.trans ?_
  simp only [bv,List.getElem?_map,List.getD_eq_getElem?_getD]
  rw [List.getElem?_eq_getElem hi];rfl
theorem row_in {w:World} {b n:Nat} {p:Option Addr} {c:Nat} {xs:List Nat} (h:w.ownsRow b 5 1 (.slice p n c) xs.length (bv xs)):ByIn w.heap.size w p xs:=by
  intro i hi
  rcases h.2 with ⟨h0,hn⟩ | ⟨g,cap,cur,h0,_⟩
  · omega
  · simp only [Value.slice.injEq] at h0
    obtain ⟨rfl,rfl,rfl⟩:=h0
    have hc:=own_cell h i hi
    refine ⟨g,0,rfl,World.block_lt_of_cell? _ _ hc,?_⟩
    rw [Nat.zero_add]
    exact hc
theorem OwnB.in {B n:Nat} {w:World} {p:Option Addr} {c:Nat} {l:List Nat} (h:OwnB B w (.slice p n c) l):ByIn w.heap.size w p l:=by
  obtain ⟨q,d,e⟩:=h.slice
  simp only [Value.slice.injEq] at e
  obtain ⟨rfl,rfl,rfl⟩:=e
  exact row_in (n:=l.length) h
theorem eq_of_getD {xs ys:List Nat} (hl:xs.length=ys.length) (h:∀ j,j<xs.length→xs.getD j 0=ys.getD j 0):xs=ys:=by
  apply List.ext_getElem hl
  intro i h1 h2
  have:=h i h1
  rwa [List.getD_eq_getElem?_getD,List.getD_eq_getElem?_getD,List.getElem?_eq_getElem h1,List.getElem?_eq_getElem h2] at this
set_option maxRecDepth 100000 in
set_option maxHeartbeats 1000000 in
theorem bytes_any (p q:Option Addr) (c d:Nat) (xs ys:List Nat) (hl:xs.length≤maxLen) (w:World) (hp:ByIn w.heap.size w p xs) (hq:ByIn w.heap.size w q ys) :
    Calls Try.prog 13 #[.slice p xs.length c,.slice q ys.length d] w fun e w'=>e=.returned (.bool (decide (xs=ys)))∧Below w.heap.size w w':=by
  unfold maxLen at hl
  obtain ⟨r,hr⟩:∃ r,decide (xs=ys)=r:=⟨_,rfl⟩
  rw [hr]
  have HR:=Lib.hid hr
  clear hr
  by_cases hne:xs.length=ys.length
  · have HL:=Lib.hid hne
    obtain ⟨n,hn⟩:∃ n,xs.length=n:=⟨_,rfl⟩
    have hn':((n:Int) != (n:Int))=false:=by simp
    rw [← hne,hn]
    rw [hn] at hl
    clear hne
    have HN:=Lib.hid hn
    clear hn
    go_enter Try.func13,Try.ntmps13
    go_wp2
    go_loopw [5] (fun i wr=>∃ k:Nat,k≤n∧i=.int .i64 k∧Below w.heap.size w wr∧∀ j,j<k→xs.getD j 0=ys.getD j 0) (fun i _=>n - (intOf i).toNat)
    case atStart=>exact ⟨0,Nat.zero_le _,rfl,Below.refl _ _,fun j hj=>absurd hj (by omega)⟩
    case round =>
      obtain ⟨k,hk,rfl,hB,hsame⟩:=hrel
      have HS:=Lib.hid hsame
      clear hsame
      by_cases hlt:k<n
      · obtain ⟨b,off,rfl,hb,hc⟩:=hp k (by rw [HN.out];exact hlt)
        obtain ⟨b2,off2,rfl,hb2,hc2⟩:=hq k (by rw [← HL.out,HN.out];exact hlt)
        have h1:=(hB.cell (p:=⟨b,off+k,none⟩) hb).trans hc
        have h2:=(hB.cell (p:=⟨b2,off2+k,none⟩) hb2).trans hc2
        clear hc hc2 hp hq
        have hki:(k:Int)<(n:Int):=by omega
        by_cases he:xs.getD k 0=ys.getD k 0
        · have HE:=Lib.hid he
          rw [← he] at h2
          clear he
          generalize xs.getD k 0=y at h1 h2
          go_wp2
          go_region
          go_wp2
          refine ⟨⟨k+1,by omega,by go_num,hB.drew,fun j hj=>?_⟩,by simp [intOf];omega⟩
          rcases Nat.lt_or_ge j k with hjk | hjk
          · exact HS.out j hjk
          · obtain rfl:j=k:=by omega
            exact HE.out
        · have hd:¬ xs=ys:=fun h=>he (by rw [h])
          have hne2:(((xs.getD k 0:Nat):Int) != ((ys.getD k 0:Nat):Int))=true:=by rw [bne_iff_ne];omega
          have hrf:r=false:=by rw [← HR.out,decide_eq_false hd]
          subst hrf
          clear hd he
          generalize xs.getD k 0=y at h1 hne2
          generalize ys.getD k 0=z at h2 hne2
          go_wp2
          go_region
          go_wp2
          go_ret
          exact ⟨rfl,hB.drew⟩
      · obtain rfl:k=n:=by omega
        have hd:xs=ys:=eq_of_getD HL.out (by rw [HN.out];exact HS.out)
        have hrt:r=true:=by rw [← HR.out,decide_eq_true hd]
        subst hrt
        clear hd
        go_wp2
        go_ret
        exact ⟨rfl,hB⟩
  · have hd:¬ xs=ys:=fun h=>hne (by rw [h])
    have hne2:(((xs.length:Nat):Int) != ((ys.length:Nat):Int))=true:=by rw [bne_iff_ne];omega
    have hrf:r=false:=by rw [← HR.out,decide_eq_false hd]
    subst hrf
    clear hd hne hp hq HR
    generalize xs.length=n at hl hne2
    generalize ys.length=m at hne2
    go_enter Try.func13,Try.ntmps13
    go_wp2
    go_ret
    exact ⟨rfl,Below.refl _ _⟩
end Go.Proofs.Ytbfkgcapkffecaa
namespace Go.Proofs.Ytbfkgcapkffecaa
open Go Go.ChangeShapes Go.WideShapes Go.ChangeAt Go.RowKit Go.Lib
theorem own:ownKnob Try.prog.godebug=none:=by kernel_rfl
theorem laidOut:laidOutB Try.prog=true:=by kernel_rfl
theorem cells5:Try.prog.cellsOf 5=1:=by kernel_rfl
theorem trodAll_below {H:Type} {enc:TypeId × Value→H} {P:Program} (hl:laidOutB P=true) {W W':World} (hb:Below W.heap.size W W') (ts:List TypeId):∀ {vs:List Value} {ds:List (DataW H)} {ps:List MemPlace},
    (∀ t ∈ ts,P.readableRec t=true∧t<P.types.size)→DataW.TrodAll enc P W 0 (fun _=>true) true ts vs ds ps→(∀ x ∈ ps,x.block<W.heap.size)→DataW.TrodAll enc P W' 0 (fun b=>decide (b<W.heap.size)) true ts vs ds ps:=by
  induction ts with
  | nil =>
    intro vs ds ps _ h _
    cases vs <;> cases ds <;> exact h
  | cons t ts ih =>
    intro vs ds ps hr h hlt
    cases vs with
    | nil=>cases ds <;> cases h
    | cons v vs=>cases ds with
      | nil=>cases h
      | cons d ds =>
        obtain ⟨p,q,h1,h2,rfl⟩:=h
        have ht:=hr t (List.mem_cons_self ..)
        exact ⟨p,q,Below.trod hl ht.1 ht.2 h1 hb fun x hx=>hlt x (List.mem_append_left _ hx),ih (fun u hu=>hr u (List.mem_cons_of_mem _ hu)) h2 fun x hx=>hlt x (List.mem_append_right _ hx),rfl⟩
theorem post_true {H:Type} {enc:TypeId × Value→H} {fn:Func} {s:ChangeSpec} {W W':World} {args:Array Value} {ds:List (DataW H)} {before:List MemPlace} (hv:s.vars=[]) (hrt:fn.resultTypes=#[4])
    (hr:∀ t ∈ fn.params.toList,Try.prog.readableRec t=true∧t<Try.prog.types.size) (hs:s.fn H ds={ results:=[.lit (.bool true)],args:=ds,vars:=[] })
    (hW:DataW.Whole enc Try.prog fn.params.toList s.vars false W args.toList ds [] before) (hb:Below W.heap.size W W'):s.post enc Try.prog fn false true false false W args (.bool true) W':=by
  have hW':=hW
  obtain ⟨p,q,hA,hV,rfl,hfz,_⟩:=hW
  rw [hv] at hV
  obtain rfl:q=[]:=hV
  refine ⟨ds,[],p++[],[],p,[],hW',?_,?_,?_,hb.frame _,fun h=>by cases h⟩
  · rw [List.append_nil,hs,hrt];exact trodAll_mk1 (shut_bool Try.underlying4 _)
  · rw [List.append_nil,hs]
    exact trodAll_below laidOut hb _ hr hA fun x hx=>by simpa using hW'.lt x (List.mem_append_left _ hx)
  · rw [List.append_nil,hs,hv];rfl
theorem u8_wf {z:Int} (h:(Lit.int .u8 z).wf=true):0≤z∧z<256:=by
  simp [Lit.wf,IntKind.min,IntKind.max,IntKind.signed,IntKind.bits] at h
  omega
theorem toNat_getD (zs:List Int) (i:Nat):(zs.map Int.toNat).getD i 0=(zs.getD i 0).toNat:=by
  rw [List.getD_eq_getElem?_getD,List.getD_eq_getElem?_getD,List.getElem?_map]
  cases zs[i]? <;> rfl
set_option maxRecDepth 100000 in
theorem in_bytes {H:Type} {enc:TypeId × Value→H} {W:World} {b0:Nat} {v:Value} {d:DataW H} {ps:List MemPlace} (hval:Value.okWide Try.prog W .any b0 28 v) (hd:DataW.Trod enc Try.prog W 0 (fun _=>true) true 28 v d ps) :
    ∃ (p:Option Addr) (c:Nat) (ns:List Nat),v=.slice p ns.length c∧ns.length≤c∧c≤maxLen∧((p=none∧ns=[]∧c=0) ∨ ∃ ad,p=some ad)∧bytesL ns∧ByIn W.heap.size W p ns ∧
      (c=0 ∨ ∃ el sp,d=.slice el sp∧el.length+sp.length=c):=by
  obtain ⟨a,len,cap,rfl⟩:=okWide_slice Try.underlying28 hval
  obtain ⟨fuel,hf⟩:=hd
  rcases open_ints Try.underlying28 Try.underlying5 cells5 hf with ⟨hcs,_⟩ | ⟨a',len',cap',zs,hcs,_,hl,hm,hlen,hx,hcell,hwf⟩
  · have hcs':(Value.slice a len cap)=.slice none 0 0:=by simpa [Value.cells] using hcs
    rw [hcs']
    exact ⟨none,0,[],rfl,by simp,by simp,.inl ⟨rfl,rfl,rfl⟩,fun x hx=>absurd hx (by simp),fun i hi=>absurd hi (by simp),.inl rfl⟩
  · have hcs':(Value.slice a len cap)=.slice (some a') len' cap':=by simpa [Value.cells] using hcs
    rw [hcs']
    rw [if_pos rfl] at hlen
    have hle:len'≤zs.length:=by omega
    have hmem:∀ i,i<zs.length→zs.getD i 0 ∈ zs:=fun i hi=>by
      rw [List.getD_eq_getElem?_getD,List.getElem?_eq_getElem hi]
      exact List.getElem_mem _
    have hget:∀ i,i<len'→((zs.take len').map Int.toNat).getD i 0=(zs.getD i 0).toNat:=fun i hi=>by
      rw [toNat_getD,List.getD_eq_getElem?_getD,List.getElem?_take_of_lt hi,← List.getD_eq_getElem?_getD]
    have hnl:((zs.take len').map Int.toNat).length=len':=by rw [List.length_map,List.length_take,Nat.min_eq_left hle]
    refine ⟨some a',cap',(zs.take len').map Int.toNat,by rw [hnl],by rw [hnl];omega,hm,.inr ⟨a',rfl⟩,bytesL_of (fun i hi=>?_),fun i hi=>?_,.inr ⟨_,_,(Prod.mk.inj hx).1,?_⟩⟩
    · rw [hnl] at hi
      rw [hget i hi]
      have:=u8_wf (hwf _ (hmem i (by omega)))
      omega
    · rw [hnl] at hi
      have h0:=hcell 0 (by omega)
      have h1:=hcell i (by omega)
      have h2:=u8_wf (hwf _ (hmem i (by omega)))
      obtain ⟨b,off,sp⟩:=a'
      rw [show (⟨b,off,sp⟩:Addr).add 0=⟨b,off,sp⟩ from by simp [Addr.add]] at h0
      obtain rfl:sp=none:=cell_spot h0
      rw [show (⟨b,off,none⟩:Addr).add i=⟨b,off+i,none⟩ from by unfold Addr.add;split <;> simp_all] at h1
      refine ⟨b,off,rfl,World.block_lt_of_cell? _ _ h0,?_⟩
      rw [hget i hi,show (((zs.getD i 0).toNat:Nat):Int)=zs.getD i 0 from by omega]
      exact h1
    · simp [lits]
      omega
end Go.Proofs.Ytbfkgcapkffecaa
namespace Go.Proofs.Ytbfkgcapkffecaa
open Go Go.RowKit
abbrev markB:Nat:=201
set_option maxRecDepth 100000 in
set_option maxHeartbeats 2000000 in
theorem lent_any (p:Option Addr) (c:Nat) (ns:List Nat) (hp:(p=none∧ns=[]∧c=0) ∨ ∃ ad,p=some ad) (hb:ns.length+1≤140737488355328) (w:World) (hs:ByIn w.heap.size w p ns) :
    Calls Try.prog 17 #[.slice p ns.length c] w fun e w'=>∃ q cap,e=.returned (.slice (some ⟨q,0,none⟩) ns.length cap)∧w.heap.size≤q∧ns.length+1≤cap∧w'.ownsRow w.heap.size 5 1 (.slice (some ⟨q,0,none⟩) (ns.length+1) cap) (ns.length+1) (bv (ns++[markB]))∧Below w.heap.size w w':=by
  obtain ⟨i2,h2,h3,h4,h5⟩:=info5
  have hnil:=World.ownsRow_nil w w.heap.size 5 1
  rcases hp with ⟨rfl,rfl,rfl⟩ | ⟨ad,rfl⟩
  · have hR1:=hnil.alloc (.cells #[.int .u8 201] 5)
    go_enter Try.func17,Try.ntmps17
    go_wp2_with (first | (at_builtin;refine wpList_append_own_none rfl _ _ 28 rfl w.heap.size 5 i2 1 Try.underlying28 h2 _ 0 [] rfl hnil rfl ?_) | (at_builtin;refine wpList_append_own _ rfl _ _ 28 rfl w.heap.size 5 i2 (.int .u8 0) 1 1 Try.underlying28 h2 h3 h4 h5 rfl (by omega) _ 0 [] rfl hR1 ⟨_,0,none⟩ 1 1 (bv [markB]) rfl (by simp [bv]) (one_cells _ 201) (bv_one _) (by unfold maxLen;omega) (by omega) (by simp <;> omega) ?_))
    intro v2 w2 hR2 hg2 _
    obtain ⟨g,cap,rfl,hbg⟩:=row_form hR2 (by omega)
    have hcap:=row_cap hR2
    have hB2:Below w.heap.size w w2:=((Below.refl _ w).alloc (Nat.le_refl _) _).trans (below_own hg2 (by simp) (fun j hj=>(hR1.lt j hj).1))
    clear hg2 hR1 hnil
    have HR:=Lib.hid hR2
    clear hR2
    go_wp2
    go_ret
    exact ⟨g,cap,rfl,hbg,by omega,by simpa [bv] using HR.out,hB2⟩
  · have hcl:=by_cells hs
    have hon:=bv_one ns
    have hll:(bv ns).length=ns.length * 1:=by simp [bv]
    go_enter Try.func17,Try.ntmps17
    go_wp2_with (at_builtin;refine wpList_append_own _ rfl _ _ 28 rfl w.heap.size 5 i2 (.int .u8 0) 1 1 Try.underlying28 h2 h3 h4 h5 rfl (by omega) _ 0 [] rfl hnil ad ns.length c (bv ns) rfl hll hcl hon (by unfold maxLen;omega) (by omega) (Nat.le_refl _) ?_)
    intro v1 w1 hR1 hg1 _
    obtain ⟨q1,c1,rfl⟩:=row_slice hR1
    have hB1:Below w.heap.size w w1:=below_own hg1 (Nat.le_refl _) (fun j hj=>by cases hj)
    have hw1:=hB1.size
    have hR1':=hR1.alloc (.cells #[.int .u8 201] 5)
    clear hg1 hnil hcl hon hll hs hR1
    go_wp2_with (at_builtin;refine wpList_append_own _ rfl _ _ 28 rfl w.heap.size 5 i2 (.int .u8 0) 1 1 Try.underlying28 h2 h3 h4 h5 rfl (by omega) _ ns.length (bv ns) rfl hR1' ⟨_,0,none⟩ 1 1 (bv [markB]) rfl (by simp [bv]) (one_cells _ 201) (bv_one _) (by unfold maxLen;omega) (by omega) (by simp <;> omega) ?_)
    intro v2 w2 hR2 hg2 _
    obtain ⟨g,cap,rfl,hbg⟩:=row_form hR2 (by omega)
    have hcap:=row_cap hR2
    have hB2:Below w.heap.size w w2:=hB1.trans (((Below.refl _ w1).alloc hw1 _).trans (below_own hg2 (by simp;omega) (fun j hj=>(hR1'.lt j hj).1)))
    clear hg2 hR1' hB1
    have HR:=Lib.hid hR2
    clear hR2
    go_wp2
    go_ret
    exact ⟨g,cap,rfl,hbg,by omega,by simpa [bv] using HR.out,hB2⟩
theorem lent_row {w:World} {b g cap:Nat} {xs:List Nat} (h:w.ownsRow b 5 1 (.slice (some ⟨g,0,none⟩) (xs.length+1) cap) (xs.length+1) (bv (xs++[markB]))) :
    ByIn w.heap.size w (some ⟨g,0,none⟩) xs∧w.cell? ⟨g,xs.length,none⟩=some (.int .u8 201)∧g<w.heap.size∧xs.length+1≤cap∧cap≤maxLen:=by
  have h':w.ownsRow b 5 1 (.slice (some ⟨g,0,none⟩) (xs++[markB]).length cap) (xs++[markB]).length (bv (xs++[markB])):=by
    rw [show (xs++[markB]).length=xs.length+1 from by simp];exact h
  have hm:=own_cell h' xs.length (by simp)
  rw [show (xs++[markB]).getD xs.length 0=201 from by simp] at hm
  refine ⟨fun i hi=>?_,hm,World.block_lt_of_cell? _ _ hm,(row_cap h).1,(row_cap h).2⟩
  have hc:=own_cell h' i (by simp;omega)
  rw [show (xs++[markB]).getD i 0=xs.getD i 0 from by simp [List.getD_eq_getElem?_getD,List.getElem?_append_left hi]] at hc
  refine ⟨g,0,rfl,World.block_lt_of_cell? _ _ hc,?_⟩
  rw [Nat.zero_add]
  exact hc
set_option maxRecDepth 100000 in
set_option maxHeartbeats 1000000 in
theorem kept_any (q:Nat) (p:Option Addr) (cap d:Nat) (ns:List Nat) (hl:ns.length+1≤cap) (hm:cap≤maxLen) (w:World) (hq:ByIn w.heap.size w (some ⟨q,0,none⟩) ns) (hp:ByIn w.heap.size w p ns) (hlt:q<w.heap.size)
    (hk:w.cell? ⟨q,ns.length,none⟩=some (.int .u8 201)) :
    Calls Try.prog 21 #[.slice (some ⟨q,0,none⟩) ns.length cap,.slice p ns.length d] w fun e w'=>e=.returned (.bool true)∧Below w.heap.size w w':=by
  have hs:=bytes_any (some ⟨q,0,none⟩) p cap d ns ns (by omega) w hq hp
  rw [decide_eq_true rfl] at hs
  unfold maxLen at hm
  obtain ⟨n,hn⟩:∃ n,ns.length=n:=⟨_,rfl⟩
  rw [hn] at hs hl hk ⊢
  clear hq hp hn
  go_enter Try.func21,Try.ntmps21
  go_wp2_with fail
  refine hs.mono ?_
  rintro e w1 ⟨rfl,hb⟩
  have hc:=(hb.cell (p:=⟨q,n,none⟩) hlt).trans hk
  clear hs hk
  go_wp2_with fail
  go_ret
  exact ⟨rfl,hb⟩
theorem nil_nil (w:World):(binOp .eql 28 (.slice none 0 0) (.slice none 0 0)).run Try.prog w=.ok (.bool true) w:=by kernel_rfl
theorem nil_not (ad:Addr) (n c:Nat) (w:World):(binOp .eql 28 (.slice (some ad) n c) (.slice none 0 0)).run Try.prog w=.ok (.bool false) w:=by kernel_rfl
set_option maxRecDepth 100000 in
set_option maxHeartbeats 1000000 in
theorem clone_any (p:Option Addr) (c:Nat) (ns:List Nat) (hp:(p=none∧ns=[]∧c=0) ∨ ∃ ad,p=some ad) (hb:ns.length≤140737488355328) (w:World) (hs:ByIn w.heap.size w p ns) :
    Calls Try.prog 108 #[.slice p ns.length c] w fun e w'=>∃ v,e=.returned v∧OwnB w.heap.size w' v ns∧Below w.heap.size w w':=by
  obtain ⟨i2,h2,h3,h4,h5⟩:=info5
  rcases hp with ⟨rfl,rfl,rfl⟩ | ⟨ad,rfl⟩
  · have hq:=nil_nil w
    go_enter Try.func108,Try.ntmps108
    go_wp2
    go_ret
    exact ⟨_,rfl,World.ownsRow_nil _ _ _ _,Below.refl _ _⟩
  · have hq:=nil_not ad ns.length c w
    have hcl:=by_cells hs
    have hon:=bv_one ns
    have hll:(bv ns).length=ns.length * 1:=by simp [bv]
    go_enter Try.func108,Try.ntmps108
    have hR0:=World.ownsRow_lit (base:=w.heap.size) (e:=5) (size:=1) w #[] 0 (Nat.le_refl _) (by unfold maxLen;omega) rfl
    have hB0:Below w.heap.size w (w.alloc (.cells #[] 5)):=(Below.refl _ w).alloc (Nat.le_refl _) _
    have hcl':∀ (j:Nat) (u:Value),(bv ns)[j]?=some u→(w.alloc (.cells #[] 5)).cell? (ad.add j)=some u:=by
      intro j u h
      have hc:=hcl j u h
      exact (hB0.cell (World.block_lt_of_cell? _ _ hc)).trans hc
    clear hcl hs
    go_wp2_with (at_builtin;refine wpList_append_own _ rfl _ _ 28 rfl w.heap.size 5 i2 (.int .u8 0) 1 1 Try.underlying28 h2 h3 h4 h5 rfl (by omega) _ 0 [] rfl hR0 ad ns.length c (bv ns) rfl hll hcl' hon (by unfold maxLen;omega) (by omega) (by simp) ?_)
    intro v2 w2 hR2 hg2 _
    obtain ⟨g,cap,rfl⟩:=row_slice hR2
    have hB2:Below w.heap.size w w2:=hB0.trans (below_own hg2 (by simp) (fun j hj=>(hR0.lt j hj).1))
    clear hg2 hR0 hB0
    have HR:=Lib.hid hR2
    clear hR2
    go_wp2
    go_ret
    exact ⟨_,rfl,by simpa [OwnB] using HR.out,hB2⟩
theorem bytesOf_eq {xs ys:List Nat} (hx:bytesL xs) (hy:bytesL ys):(Lib.bytesOf (xs.map Int.ofNat) == Lib.bytesOf (ys.map Int.ofNat))=decide (xs=ys):=by
  rw [Bool.eq_iff_iff,beq_iff_eq,decide_eq_true_iff]
  constructor
  · intro h
    have h2:=congrArg (List.map UInt8.toNat) h
    have key:∀ l:List Nat,bytesL l→(Lib.bytesOf (l.map Int.ofNat)).map UInt8.toNat=l:=by
      intro l hl
      unfold Lib.bytesOf
      rw [List.map_map,List.map_map]
      conv=>rhs;rw [← List.map_id l]
      apply List.map_congr_left
      intro x hxl
      have:=hl x hxl
      simp
      omega
    rwa [key xs hx,key ys hy] at h2
  · rintro rfl;rfl
theorem conv_none (w:World) (p:Option Addr) (c:Nat):(convert 28 9 (.slice p 0 c)).run Try.prog w=.ok (.string (strOfNums [])) w:=by
  rw [run_convert_bytes_string w 28 9 5 _ 0 c Try.underlying28 Try.underlying5 Try.underlying9]
  cases p <;> simp [Conv.bytesToString,loadCells]
  all_goals rfl
theorem conv_run (w:World) (p:Option Addr) (c:Nat) (xs:List Nat) (B:Nat) (hp:ByIn B w p xs):(convert 28 9 (.slice p xs.length c)).run Try.prog w=.ok (.string (strOfNums (xs.map Int.ofNat))) w:=by
  cases xs with
  | nil=>exact conv_none w p c
  | cons x l =>
    obtain ⟨b,off,rfl,_,_⟩:=hp 0 (by simp)
    refine run_convert_bytes_arg w 28 5 Try.underlying28 Try.underlying5 b off _ c _ (by simp) (fun i hi=>?_) 9 Try.underlying9
    obtain ⟨b',off',he,_,hc⟩:=hp i hi
    cases he
    rw [hc,List.getD_eq_getElem?_getD,List.getD_eq_getElem?_getD,List.getElem?_map,List.getElem?_eq_getElem hi]
    rfl
set_option maxRecDepth 100000 in
set_option maxHeartbeats 1000000 in
theorem equal_any (p q:Option Addr) (c d:Nat) (xs ys:List Nat) (hx:bytesL xs) (hy:bytesL ys) (B:Nat) (w:World) (hp:ByIn B w p xs) (hq:ByIn B w q ys) :
    Calls Try.prog 71 #[.slice p xs.length c,.slice q ys.length d] w fun e w'=>e=.returned (.bool (decide (xs=ys)))∧w'=w:=by
  have h1:=conv_run w p c xs B hp
  have h2:=conv_run w q d ys B hq
  rw [← bytesOf_eq hx hy,← Lib.strOfNums_toList,← Lib.strOfNums_toList]
  clear hx hy hp hq
  generalize xs.map Int.ofNat=X at h1 h2 ⊢
  generalize ys.map Int.ofNat=Y at h1 h2 ⊢
  generalize xs.length=n at h1 h2 ⊢
  generalize ys.length=m at h1 h2 ⊢
  go_enter Try.func71,Try.ntmps71
  go_wp2
  go_ret
  exact ⟨rfl,rfl⟩
end Go.Proofs.Ytbfkgcapkffecaa
namespace Go.Proofs.Ytbfkgcapkffecaa
open Go Go.RowKit
def spanV (l:List Nat):Int × Int:=if 10≤lead l then (0,31) else if lead l=l.length then (0,30) else ((lead l+1:Nat),0)
theorem and128 (x:Nat) (h:x<256):bits .and .u8 (x:Int) 128=if 128≤x then 128 else 0:=by
  have:=u8_and_nat x 128 h (by omega)
  rw [show ((128:Nat):Int)=128 from rfl] at this
  rw [this,show (128:Nat)=2 ^ 7 from rfl,nat_bit 7 x]
  split
  · have:x / 2 ^ 7 % 2=1:=by omega
    rw [this];rfl
  · have:x / 2 ^ 7 % 2=0:=by omega
    rw [this];rfl
set_option maxRecDepth 100000 in
set_option maxHeartbeats 1000000 in
theorem span_any (p:Option Addr) (c:Nat) (xs:List Nat) (hx:bytesL xs) (hl:xs.length≤maxLen) (B:Nat) (w:World) (hp:ByIn B w p xs) :
    Calls Try.prog 116 #[.slice p xs.length c] w fun e w'=>e=.returned (.tuple #[.int .i64 (spanV xs).1,.int .i64 (spanV xs).2])∧w=w':=by
  unfold maxLen at hl
  obtain ⟨n,hn⟩:∃ n,xs.length=n:=⟨_,rfl⟩
  have HN:=Lib.hid hn
  rw [hn] at hl ⊢
  clear hn
  obtain ⟨r,hr⟩:∃ r,spanV xs=r:=⟨_,rfl⟩
  rw [hr]
  have HR:=Lib.hid hr
  clear hr
  go_enter Try.func116,Try.ntmps116
  go_wp2
  go_loop [8] (fun i=>∃ k:Nat,k≤n∧k<10∧i=.int .i64 k∧∀ j,j<k→128≤xs.getD j 0) (fun i=>n - (intOf i).toNat)
  case atStart=>exact ⟨0,Nat.zero_le _,by omega,rfl,fun j hj=>absurd hj (by omega)⟩
  case round =>
    obtain ⟨k,hk,hk10,rfl,hbig⟩:=hrel
    have HS:=Lib.hid hbig
    clear hbig
    by_cases hlt:k<n
    · obtain ⟨b,off,rfl,hb,hc⟩:=hp k (by rw [HN.out];exact hlt)
      have hki:(k:Int)<(n:Int):=by omega
      have ha:=and128 (xs.getD k 0) (bytesL_at hx k)
      by_cases he:128≤xs.getD k 0
      · rw [if_pos he] at ha
        have HS2:=Lib.hid (show ∀ j,j<k+1→128≤xs.getD j 0 from fun j hj=>by
          rcases Nat.lt_or_ge j k with h | h
          · exact HS.out j h
          · obtain rfl:j=k:=by omega
            exact he)
        by_cases h10:k=9
        · have hr:r=(0,31):=by
            have:=lead_ge xs 10 (by rw [HN.out];omega) (by subst h10;exact HS2.out)
            rw [← HR.out,spanV,if_pos this]
          subst hr h10
          clear hp hx HR HS HS2 he
          generalize xs.getD 9 0=y at hc ha
          go_wp2
          go_ret2
          exact ⟨rfl,rfl⟩
        · have h10':((k:Int)+1 == 10)=false:=by simp;omega
          clear hp hx HR he
          generalize xs.getD k 0=y at hc ha
          go_wp2
          exact ⟨⟨k+1,by omega,by omega,by go_num,HS2.out⟩,by simp [intOf];omega⟩
      · rw [if_neg he] at ha
        have hr:r=(((k+1:Nat):Int),0):=by
          have:=lead_eq (l:=xs) (i:=k) (by rw [HN.out];exact hlt) HS.out (by omega)
          rw [← HR.out,spanV,this,if_neg (by omega),if_neg (by rw [HN.out];omega)]
        subst hr
        clear hp hx HR HS he
        generalize xs.getD k 0=y at hc ha
        go_wp2
        go_ret2
        exact ⟨rfl,rfl⟩
    · obtain rfl:k=n:=by omega
      have hr:r=(0,30):=by
        have h1:=lead_ge xs k (by rw [HN.out];omega) HS.out
        have h2:=lead_le xs
        rw [HN.out] at h2
        have h3:lead xs=k:=by omega
        rw [← HR.out,spanV,h3,if_neg (by omega),if_pos HN.out.symm]
      subst hr
      clear hp hx HR HS
      go_wp2
      go_ret2
      exact ⟨rfl,rfl⟩
def endU (g:Nat):Value:=.func (.func 118) #[] #[.pointer (some ⟨g,0,none⟩),.pointer (some ⟨g+1,0,none⟩)]
def endS (g:Nat):Value:=.func (.func 121) #[] #[.pointer (some ⟨g,0,none⟩),.pointer (some ⟨g+1,0,none⟩)]
def laysU (g:Nat) (w:World):Prop:=w.cell? ⟨g,0,none⟩=some (.int .u64 0)∧w.cell? ⟨g+1,0,none⟩=some (.int .u64 127)
def laysS (g:Nat) (w:World):Prop:=w.cell? ⟨g,0,none⟩=some (.int .i64 (-64))∧w.cell? ⟨g+1,0,none⟩=some (.int .i64 63)
theorem laysU.below {g n:Nat} {w w':World} (h:laysU g w) (hb:Below n w w') (hg:g+1<n):laysU g w' :=
  ⟨(hb.cell (p:=⟨g,0,none⟩) (by simp;omega)).trans h.1,(hb.cell (p:=⟨g+1,0,none⟩) hg).trans h.2⟩
theorem laysS.below {g n:Nat} {w w':World} (h:laysS g w) (hb:Below n w w') (hg:g+1<n):laysS g w' :=
  ⟨(hb.cell (p:=⟨g,0,none⟩) (by simp;omega)).trans h.1,(hb.cell (p:=⟨g+1,0,none⟩) hg).trans h.2⟩
theorem two_new (w:World) (u v:Value) (t:TypeId):((w.alloc (.cells #[u] t)).alloc (.cells #[v] t)).cell? ⟨w.heap.size,0,none⟩=some u∧((w.alloc (.cells #[u] t)).alloc (.cells #[v] t)).cell? ⟨w.heap.size+1,0,none⟩=some v:=by
  have hB:Below (w.heap.size+1) (w.alloc (.cells #[u] t)) ((w.alloc (.cells #[u] t)).alloc (.cells #[v] t)):=(Below.refl _ _).alloc (by simp) _
  refine ⟨(hB.cell (p:=⟨w.heap.size,0,none⟩) (by simp)).trans (cell_new w u t).1,?_⟩
  have:=(cell_new (w.alloc (.cells #[u] t)) v t).1
  rw [show (w.alloc (.cells #[u] t)).heap.size=w.heap.size+1 from by simp] at this
  exact this
set_option maxRecDepth 100000 in
theorem unsignedEnd_any (w:World):Calls Try.prog 109 #[] w fun e w'=>∃ g,e=.returned (endU g)∧laysU g w'∧w.heap.size≤g∧g+1<w'.heap.size∧Below w.heap.size w w':=by
  go_enter Try.func109,Try.ntmps109
  go_wp2
  go_ret
  exact ⟨w.heap.size,rfl,two_new w _ _ _,Nat.le_refl _,by simp,((Below.refl _ w).alloc (Nat.le_refl _) _).alloc (by simp) _⟩
set_option maxRecDepth 100000 in
theorem signedEnd_any (w:World):Calls Try.prog 115 #[] w fun e w'=>∃ g,e=.returned (endS g)∧laysS g w'∧w.heap.size≤g∧g+1<w'.heap.size∧Below w.heap.size w w':=by
  go_enter Try.func115,Try.ntmps115
  go_wp2
  go_ret
  exact ⟨w.heap.size,rfl,two_new w _ _ _,Nat.le_refl _,by simp,((Below.refl _ w).alloc (Nat.le_refl _) _).alloc (by simp) _⟩
set_option maxRecDepth 100000 in
theorem lastU_any (g n:Nat) (w:World) (h:laysU g w) :
    Calls Try.prog 118 #[.int .u64 n,.pointer (some ⟨g,0,none⟩),.pointer (some ⟨g+1,0,none⟩)] w fun e w'=>e=.returned (.bool (decide (n<128)))∧w'=w:=by
  obtain ⟨h1,h2⟩:=h
  have h0:(0:Int)≤(n:Int):=by omega
  by_cases hn:n<128
  · have h3:(n:Int)≤127:=by omega
    rw [decide_eq_true hn]
    go_enter Try.func118,Try.ntmps118
    go_wp2
    go_ret
    exact ⟨rfl,rfl⟩
  · have h3:¬ (n:Int)≤127:=by omega
    rw [decide_eq_false hn]
    go_enter Try.func118,Try.ntmps118
    go_wp2
    go_ret
    exact ⟨rfl,rfl⟩
set_option maxRecDepth 100000 in
theorem lastS_any (g:Nat) (n:Int) (w:World) (h:laysS g w) :
    Calls Try.prog 121 #[.int .i64 n,.pointer (some ⟨g,0,none⟩),.pointer (some ⟨g+1,0,none⟩)] w fun e w'=>e=.returned (.bool (decide (-64≤n∧n<64)))∧w'=w:=by
  obtain ⟨h1,h2⟩:=h
  by_cases h0:-64≤n
  · by_cases hn:n<64
    · have h3:n≤63:=by omega
      rw [decide_eq_true ⟨h0,hn⟩]
      go_enter Try.func121,Try.ntmps121
      go_wp2
      go_ret
      exact ⟨rfl,rfl⟩
    · have h3:¬ n≤63:=by omega
      rw [decide_eq_false (fun h=>hn h.2)]
      go_enter Try.func121,Try.ntmps121
      go_wp2
      go_ret
      exact ⟨rfl,rfl⟩
  · rw [decide_eq_false (fun h=>h0 h.1)]
    go_enter Try.func121,Try.ntmps121
    go_wp2
    go_ret
    exact ⟨rfl,rfl⟩
end Go.Proofs.Ytbfkgcapkffecaa
