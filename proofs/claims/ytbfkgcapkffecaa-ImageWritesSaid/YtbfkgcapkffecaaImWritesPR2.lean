/- Put, PutSigned, Size, SizeSigned of package leb; Put and PutSigned of the document's answer; in every memory. PutSigned of the document's answer, in every memory. Plain facts: groups put together in a word of 64 bits, from the lowest on and from the highest on, unsigned and signed. Get of package le -/
import Derived.Test.YtbfkgcapkffecaaImWritesPR1
import Derived.Deep.RegionHeld3
import Derived.Deep.DeepCutAuto
import Derived.Deep.CutBlock
namespace Go.Proofs.Ytbfkgcapkffecaa
open Go Go.RowKit
theorem OwnB.keep {B N:Nat} {w w':World} {v:Value} {l:List Nat} (h:OwnB B w v l) (hb:Below N w w') (hv:∀ k,v.ownBlock=some k→k<N):OwnB B w' v l:=by
  refine ⟨h.1,?_⟩
  rcases h.2 with h2 | ⟨g,cap,cur,hvg,hg,hh,r⟩
  · exact .inl h2
  · exact .inr ⟨g,cap,cur,hvg,hg,by rw [hb.block g (hv g (by rw [hvg];rfl))];exact hh,r⟩
theorem OwnB.stay {B:Nat} {w w':World} {v:Value} {l:List Nat} (h:OwnB B w v l) (hb:Below w.heap.size w w'):OwnB B w' v l:=h.keep hb fun k hk=>(h.lt k hk).2
theorem OwnB.base {B B':Nat} {w:World} {v:Value} {l:List Nat} (h:OwnB B w v l) (hB:B'≤B):OwnB B' w v l:=by
  refine ⟨h.1,?_⟩
  rcases h.2 with h2 | ⟨g,cap,cur,hv,hg,r⟩
  · exact .inl h2
  · exact .inr ⟨g,cap,cur,hv,Nat.le_trans hB hg,r⟩
theorem apart_new {B g:Nat} {w:World} {v:Value} {l:List Nat} (h:OwnB B w v l) (hg:w.heap.size≤g):v.ownBlock ≠ some g:=fun e=>by
  have:=(h.lt g e).2;omega
set_option maxRecDepth 100000 in
set_option maxHeartbeats 1000000 in
theorem Put_any (p:Option Addr) (c:Nat) (ns:List Nat) (n:Nat) (hn:n<W64) (hp:(p=none∧ns=[]∧c=0) ∨ ∃ ad,p=some ad) (hb:ns.length+10≤140737488355328) (w:World) (hs:ByIn w.heap.size w p ns) :
    Calls Try.prog 100 #[.slice p ns.length c,.int .u64 n] w fun e w'=>∃ v,e=.returned v∧OwnB w.heap.size w' v (ns++putU n)∧Below w.heap.size w w':=by
  have h10:=putU_ten hn
  have h1:=clone_any p c ns hp (by omega) w hs
  have h2:=Lib.hid (fun (v:Value) (w1 w2:World) (g:Nat) (hO:OwnB w.heap.size w1 v ns) (hB:Below w.heap.size w w1) (hlay:laysU g w2) (hge:w1.heap.size≤g) (hlt:g+1<w2.heap.size) (hB2:Below w1.heap.size w1 w2) =>
    (putU_any g n w.heap.size v ns (by omega) w2 (hO.stay hB2) (Nat.le_trans hB.size hB2.size) hn hlay hlt ⟨apart_new hO hge,apart_new hO (by omega)⟩).mono (fun e w' (h:∃ v',e=.returned v'∧OwnB w.heap.size w' v' (ns++putU n)∧Below w.heap.size w2 w')=>show ∃ v',e=.returned v'∧OwnB w.heap.size w' v' (ns++putU n)∧Below w.heap.size w w' from
      let ⟨v',a,b,c⟩:=h
      ⟨v',a,b,(hB.trans (hB2.mono hB.size)).trans c⟩))
  clear hs hp hb h10
  go_enter Try.func100,Try.ntmps100
  go_wp2_with fail
  refine h1.mono ?_
  rintro e w1 ⟨v,rfl,hO,hB⟩
  clear h1
  go_wp2_with fail
  refine (unsignedEnd_any w1).mono ?_
  rintro e w2 ⟨g,rfl,hlay,hge,hlt,hB2⟩
  have h3:=Lib.hid (h2.out v w1 w2 g hO hB hlay hge hlt hB2)
  clear h2 hlay hO hB hB2
  go_wp2_with fail
  refine h3.out.mono ?_
  rintro e w3 ⟨v',rfl,hO3,hB3⟩
  have H4:=Lib.hid (And.intro hO3 hB3)
  clear hO3 hB3 h3
  go_wp2_with fail
  go_ret
  exact ⟨_,rfl,H4.out⟩
set_option maxRecDepth 100000 in
set_option maxHeartbeats 1000000 in
theorem PutSigned_any (p:Option Addr) (c:Nat) (ns:List Nat) (n:Int) (hn1:-9223372036854775808≤n) (hn2:n<9223372036854775808) (hp:(p=none∧ns=[]∧c=0) ∨ ∃ ad,p=some ad) (hb:ns.length+10≤140737488355328) (w:World) (hs:ByIn w.heap.size w p ns) :
    Calls Try.prog 110 #[.slice p ns.length c,.int .i64 n] w fun e w'=>∃ v,e=.returned v∧OwnB w.heap.size w' v (ns++putS n)∧Below w.heap.size w w':=by
  have h10:=putS_ten hn1 hn2
  have h1:=clone_any p c ns hp (by omega) w hs
  have h2:=Lib.hid (fun (v:Value) (w1 w2:World) (g:Nat) (hO:OwnB w.heap.size w1 v ns) (hB:Below w.heap.size w w1) (hlay:laysS g w2) (hge:w1.heap.size≤g) (hlt:g+1<w2.heap.size) (hB2:Below w1.heap.size w1 w2) =>
    (putS_any g n w.heap.size v ns (by omega) w2 (hO.stay hB2) (Nat.le_trans hB.size hB2.size) hn1 hn2 hlay hlt ⟨apart_new hO hge,apart_new hO (by omega)⟩).mono (fun e w' (h:∃ v',e=.returned v'∧OwnB w.heap.size w' v' (ns++putS n)∧Below w.heap.size w2 w')=>show ∃ v',e=.returned v'∧OwnB w.heap.size w' v' (ns++putS n)∧Below w.heap.size w w' from
      let ⟨v',a,b,c⟩:=h
      ⟨v',a,b,(hB.trans (hB2.mono hB.size)).trans c⟩))
  clear hs hp hb h10
  go_enter Try.func110,Try.ntmps110
  go_wp2_with fail
  refine h1.mono ?_
  rintro e w1 ⟨v,rfl,hO,hB⟩
  clear h1
  go_wp2_with fail
  refine (signedEnd_any w1).mono ?_
  rintro e w2 ⟨g,rfl,hlay,hge,hlt,hB2⟩
  have h3:=Lib.hid (h2.out v w1 w2 g hO hB hlay hge hlt hB2)
  clear h2 hlay hO hB hB2
  go_wp2_with fail
  refine h3.out.mono ?_
  rintro e w3 ⟨v',rfl,hO3,hB3⟩
  have H4:=Lib.hid (And.intro hO3 hB3)
  clear hO3 hB3 h3
  go_wp2_with fail
  go_ret
  exact ⟨_,rfl,H4.out⟩
theorem pow128 (k:Nat):(128:Nat) ^ k=2 ^ (7 * k):=by rw [Nat.pow_mul]
theorem shrU (n k:Nat):(n:Int) / 2 ^ (7 * k)=((n / 128 ^ k:Nat):Int):=by
  rw [pow128,Int.natCast_ediv,Int.natCast_pow];rfl
theorem take_next {l:List Nat} {j x:Nat} (h:l[j]?=some x):l.take (j+1)=l.take j++[x]:=by
  obtain ⟨hj,rfl⟩:=List.getElem?_eq_some_iff.1 h
  exact List.take_succ_eq_append_getElem hj
set_option maxRecDepth 100000 in
set_option maxHeartbeats 1000000 in
theorem refPut_any (n:Nat) (hn:n<W64) (w:World) :
    Calls Try.prog 90 #[.int .u64 n] w fun e w'=>∃ v,e=.returned v∧OwnB w.heap.size w' v (putU n)∧Below w.heap.size w w':=by
  have h10:=putU_ten hn
  go_enter Try.func90,Try.ntmps90
  go_wp2
  go_loop [3] (fun i=>∃ k:Nat,1≤k∧k≤10∧(k=1 ∨ 128 ^ (k - 1)≤n)∧i=.int .i64 k) (fun i=>10 - (intOf i).toNat)
  case atStart=>exact ⟨1,by omega,by omega,.inl rfl,rfl⟩
  case round =>
    obtain ⟨k,hk,hk1,hlow,rfl⟩:=hrel
    have hsh:=shrU n k
    by_cases hgo:k<10∧128 ^ k≤n
    · obtain ⟨hlt,hbig⟩:=hgo
      have hki:(k:Int)<10:=by omega
      have hy0:0<n / 128 ^ k:=Nat.div_pos hbig (Nat.pow_pos (by decide))
      have HB:=Lib.hid hbig
      clear hbig hlow
      generalize n / 128 ^ k=y at hsh hy0
      have hy:((y:Int) != 0)=true:=by simp;omega
      go_wp2
      exact ⟨⟨k+1,by omega,by omega,.inr (by simpa using HB.out),by go_num⟩,by simp [intOf];omega⟩
    · have hlen:(putU n).length=k:=by
        have h1:k - 1<(putU n).length:=by
          rcases hlow with rfl | h
          · exact List.length_pos_iff.2 (putU_ne n)
          · exact putU_length_gt n _ h
        by_cases h9:k<10
        · have:=putU_length_le n k (by omega) (by
            rcases Nat.lt_or_ge n (128 ^ k) with h | h
            · exact h
            · exact absurd ⟨h9,h⟩ hgo)
          omega
        · omega
      have hpos:k<10→n / 128 ^ k=0:=fun h9=>Nat.div_eq_of_lt (by
        rcases Nat.lt_or_ge n (128 ^ k) with h | h
        · exact h
        · exact absurd ⟨h9,h⟩ hgo)
      have HL:=Lib.hid hlen
      clear hlen hgo hlow
      by_cases h9:k<10
      all_goals first
        | (have hy:=hpos h9
           have hki:(k:Int)<10:=by omega
           rw [hy] at hsh
           clear hy hpos
           go_wp2)
        | (have hki:¬ (k:Int)<10:=by omega
           clear hsh hpos
           go_wp2)
      all_goals
        go_loopw [4,5] (fun b i wr=>∃ j:Nat,j≤k∧i=.int .i64 j∧OwnB w.heap.size wr b ((putU n).take j)∧Below w.heap.size w wr) (fun _ i _=>k - (intOf i).toNat)
        case atStart=>exact ⟨0,Nat.zero_le _,rfl,World.ownsRow_nil _ _ _ _,Below.refl _ _⟩
        case round =>
          obtain ⟨j,hj,rfl,hO,hB⟩:=hrel
          obtain ⟨q,c,rfl⟩:=hO.slice
          by_cases hjk:j<k
          · have hat:=putU_at n j (by rw [HL.out];exact hjk)
            rw [HL.out] at hat
            have hji:(j:Int)<(k:Int):=by omega
            have hsh2:=shrU n j
            generalize n / 128 ^ j=y at hat hsh2
            have hc1:((y:Int) % 256).tmod 128=((y % 128:Nat):Int):=by
              rw [Int.tmod_eq_emod_of_nonneg (by omega)];omega
            have hx:y % 128<128:=Nat.mod_lt _ (by decide)
            generalize y % 128=x at hat hc1 hx
            have hx':(x:Int)<128:=by omega
            have HM:=Lib.hid (show ((putU n).take j).length=j by rw [List.length_take,HL.out];omega)
            by_cases hj1:j+1<k
            · rw [if_pos hj1] at hat
              have hnext:=take_next hat
              have hj1':(j:Int)+1<(k:Int):=by omega
              obtain ⟨z,hz⟩:∃ z,x+128=z:=⟨_,rfl⟩
              rw [hz] at hnext
              have hz':(x:Int)+128=(z:Int):=by omega
              clear hat hz
              generalize (putU n).take j=m at hO hnext HM
              have hA:=hO.alloc (.cells #[.int .u8 (z:Int)] 5)
              have hBA:Below w.heap.size wr (wr.alloc (.cells #[.int .u8 (z:Int)] 5)):=(Below.refl _ _).alloc hB.size _
              clear hO
              go_wp2_with (at_builtin;refine wpList_bytes rfl _ _ rfl w.heap.size _ m rfl hA ⟨_,0,none⟩ 1 [z] rfl (one_cells _ _) (by have:=HM.out;simp;omega) (by have:=hB.size;simp;omega) ?_)
              intro v2 w2 hO2 hgr _
              have hB2:Below w.heap.size w w2:=hB.trans (hBA.trans (below_own hgr (by have:=hB.size;simp;omega) (fun t ht=>(hA.lt t ht).1)))
              rw [← hnext] at hO2
              have HO:=Lib.hid (And.intro hO2 hB2)
              clear hO2 hB2 hA hBA hgr hnext hB
              go_wp2
              exact ⟨⟨j+1,by omega,by go_num,HO.out⟩,by simp [intOf];omega⟩
            · rw [if_neg hj1] at hat
              have hnext:=take_next hat
              rw [show x+0=x from rfl] at hnext
              have hjn:¬ (j:Int)+1<(k:Int):=by omega
              clear hat
              generalize (putU n).take j=m at hO hnext HM
              have hA:=hO.alloc (.cells #[.int .u8 (x:Int)] 5)
              have hBA:Below w.heap.size wr (wr.alloc (.cells #[.int .u8 (x:Int)] 5)):=(Below.refl _ _).alloc hB.size _
              clear hO
              go_wp2_with (at_builtin;refine wpList_bytes rfl _ _ rfl w.heap.size _ m rfl hA ⟨_,0,none⟩ 1 [x] rfl (one_cells _ _) (by have:=HM.out;simp;omega) (by have:=hB.size;simp;omega) ?_)
              intro v2 w2 hO2 hgr _
              have hB2:Below w.heap.size w w2:=hB.trans (hBA.trans (below_own hgr (by have:=hB.size;simp;omega) (fun t ht=>(hA.lt t ht).1)))
              rw [← hnext] at hO2
              have HO:=Lib.hid (And.intro hO2 hB2)
              clear hO2 hB2 hA hBA hgr hnext hB
              go_wp2
              exact ⟨⟨j+1,by omega,by go_num,HO.out⟩,by simp [intOf];omega⟩
          · have hji:¬ (j:Int)<(k:Int):=by omega
            have ht:(putU n).take j=putU n:=List.take_of_length_le (by rw [HL.out];omega)
            rw [ht] at hO ⊢
            have HO:=Lib.hid (And.intro hO hB)
            clear hO hB ht
            go_wp2
            go_ret
            exact ⟨_,rfl,HO.out⟩
end Go.Proofs.Ytbfkgcapkffecaa
namespace Go.Proofs.Ytbfkgcapkffecaa
open Go Go.RowKit
theorem shrS (n:Int) (k:Nat):n / 2 ^ (7 * k)=n / 128 ^ k:=by
  congr 1
  rw [Int.pow_mul];rfl
theorem and127 (y:Int):bits .and .u8 (y % 256) 127=(((y % 128).toNat:Nat):Int):=by
  have:=u8_and_nat (y % 256).toNat 127 (by omega) (by omega)
  rw [show (((y % 256).toNat:Nat):Int)=y % 256 from by omega,show ((127:Nat):Int)=127 from rfl] at this
  rw [this]
  congr 1
  rw [nat_mask7]
  omega
def fitsV (n:Int) (k:Nat):Prop:=10≤k ∨ (-(64 * 128 ^ (k - 1):Int)≤n∧n<64 * 128 ^ (k - 1))
instance (n:Int) (k:Nat):Decidable (fitsV n k):=by unfold fitsV;exact inferInstance
set_option maxRecDepth 100000 in
theorem fits_any (n:Int) (hn1:-9223372036854775808≤n) (hn2:n<9223372036854775808) (k:Nat) (hk:1≤k) (hk1:k≤10) (w:World) :
    Calls Try.prog 102 #[.int .i64 n,.int .i64 (k:Int)] w fun e w'=>e=.returned (.bool (decide (fitsV n k)))∧w=w':=by
  by_cases h10:k=10
  · subst h10
    have hd:decide (fitsV n 10)=true:=decide_eq_true (.inl (by omega))
    rw [hd]
    go_enter Try.func102,Try.ntmps102
    go_wp2
    go_ret
    exact ⟨rfl,rfl⟩
  · have key:∀ (j:Nat) (H:Int),(64 * 128 ^ (j - 1):Int)=H→j<10→decide (fitsV n j)=(decide (-H≤n) && decide (n<H)):=by
      intro j H hH hj
      rw [← hH,Bool.eq_iff_iff,decide_eq_true_iff,Bool.and_eq_true,decide_eq_true_iff,decide_eq_true_iff]
      unfold fitsV
      omega
    have:k=1 ∨ k=2 ∨ k=3 ∨ k=4 ∨ k=5 ∨ k=6 ∨ k=7 ∨ k=8 ∨ k=9:=by omega
    rcases this with rfl | rfl | rfl | rfl | rfl | rfl | rfl | rfl | rfl
    · rw [key 1 64 (by decide) (by omega)]
      clear key
      go_enter Try.func102,Try.ntmps102
      go_wp2
      · have h1:-64≤n:=by omega
        go_ret
        rw [decide_eq_true h1]
        exact ⟨rfl,rfl⟩
      · have h1:¬ -64≤n:=by omega
        go_ret
        rw [decide_eq_false h1]
        exact ⟨rfl,rfl⟩
    · rw [key 2 8192 (by decide) (by omega)]
      clear key
      go_enter Try.func102,Try.ntmps102
      go_wp2
      · have h1:-8192≤n:=by omega
        go_ret
        rw [decide_eq_true h1]
        exact ⟨rfl,rfl⟩
      · have h1:¬ -8192≤n:=by omega
        go_ret
        rw [decide_eq_false h1]
        exact ⟨rfl,rfl⟩
    · rw [key 3 1048576 (by decide) (by omega)]
      clear key
      go_enter Try.func102,Try.ntmps102
      go_wp2
      · have h1:-1048576≤n:=by omega
        go_ret
        rw [decide_eq_true h1]
        exact ⟨rfl,rfl⟩
      · have h1:¬ -1048576≤n:=by omega
        go_ret
        rw [decide_eq_false h1]
        exact ⟨rfl,rfl⟩
    · rw [key 4 134217728 (by decide) (by omega)]
      clear key
      go_enter Try.func102,Try.ntmps102
      go_wp2
      · have h1:-134217728≤n:=by omega
        go_ret
        rw [decide_eq_true h1]
        exact ⟨rfl,rfl⟩
      · have h1:¬ -134217728≤n:=by omega
        go_ret
        rw [decide_eq_false h1]
        exact ⟨rfl,rfl⟩
    · rw [key 5 17179869184 (by decide) (by omega)]
      clear key
      go_enter Try.func102,Try.ntmps102
      go_wp2
      · have h1:-17179869184≤n:=by omega
        go_ret
        rw [decide_eq_true h1]
        exact ⟨rfl,rfl⟩
      · have h1:¬ -17179869184≤n:=by omega
        go_ret
        rw [decide_eq_false h1]
        exact ⟨rfl,rfl⟩
    · rw [key 6 2199023255552 (by decide) (by omega)]
      clear key
      go_enter Try.func102,Try.ntmps102
      go_wp2
      · have h1:-2199023255552≤n:=by omega
        go_ret
        rw [decide_eq_true h1]
        exact ⟨rfl,rfl⟩
      · have h1:¬ -2199023255552≤n:=by omega
        go_ret
        rw [decide_eq_false h1]
        exact ⟨rfl,rfl⟩
    · rw [key 7 281474976710656 (by decide) (by omega)]
      clear key
      go_enter Try.func102,Try.ntmps102
      go_wp2
      · have h1:-281474976710656≤n:=by omega
        go_ret
        rw [decide_eq_true h1]
        exact ⟨rfl,rfl⟩
      · have h1:¬ -281474976710656≤n:=by omega
        go_ret
        rw [decide_eq_false h1]
        exact ⟨rfl,rfl⟩
    · rw [key 8 36028797018963968 (by decide) (by omega)]
      clear key
      go_enter Try.func102,Try.ntmps102
      go_wp2
      · have h1:-36028797018963968≤n:=by omega
        go_ret
        rw [decide_eq_true h1]
        exact ⟨rfl,rfl⟩
      · have h1:¬ -36028797018963968≤n:=by omega
        go_ret
        rw [decide_eq_false h1]
        exact ⟨rfl,rfl⟩
    · rw [key 9 4611686018427387904 (by decide) (by omega)]
      clear key
      go_enter Try.func102,Try.ntmps102
      go_wp2
      · have h1:-4611686018427387904≤n:=by omega
        go_ret
        rw [decide_eq_true h1]
        exact ⟨rfl,rfl⟩
      · have h1:¬ -4611686018427387904≤n:=by omega
        go_ret
        rw [decide_eq_false h1]
        exact ⟨rfl,rfl⟩
set_option maxRecDepth 100000 in
set_option maxHeartbeats 1000000 in
theorem refPutSigned_any (n:Int) (hn1:-9223372036854775808≤n) (hn2:n<9223372036854775808) (w:World) :
    Calls Try.prog 91 #[.int .i64 n] w fun e w'=>∃ v,e=.returned v∧OwnB w.heap.size w' v (putS n)∧Below w.heap.size w w':=by
  have h10:=putS_ten hn1 hn2
  go_enter Try.func91,Try.ntmps91
  go_wp2
  go_loop [3] (fun i=>∃ k:Nat,1≤k∧k≤10∧(k=1 ∨ ¬ fitsV n (k - 1))∧i=.int .i64 k) (fun i=>10 - (intOf i).toNat)
  case atStart=>exact ⟨1,by omega,by omega,.inl rfl,rfl⟩
  case round =>
    obtain ⟨k,hk,hk1,hlow,rfl⟩:=hrel
    have hf:=fits_any n hn1 hn2 k hk hk1 w
    by_cases hgo:fitsV n k
    · have hlen:(putS n).length=k:=by
        have h1:k - 1<(putS n).length:=by
          rcases hlow with rfl | h
          · exact List.length_pos_iff.2 (putS_ne n)
          · rcases Nat.lt_or_ge 1 k with h2 | h2
            · have:=putS_length_gt n (k - 1 - 1) (by
                unfold fitsV at h
                rcases Int.lt_or_le n (-(64 * 128 ^ (k - 1 - 1):Int)) with h3 | h3
                · exact .inl h3
                · refine .inr ?_
                  rcases Int.lt_or_le n (64 * 128 ^ (k - 1 - 1):Int) with h4 | h4
                  · exact absurd (.inr ⟨h3,h4⟩) h
                  · exact h4)
              omega
            · have:=List.length_pos_iff.2 (putS_ne n)
              omega
        rcases hgo with h9 | ⟨h3,h4⟩
        · omega
        · have:=putS_length_le n (k - 1) h3 h4
          omega
      have HL:=Lib.hid hlen
      rw [decide_eq_true hgo] at hf
      have HF:=Lib.hid hf
      clear hlen hgo hlow hf
      go_wp2_with fail
      refine HF.out.mono ?_
      rintro e w' ⟨rfl,rfl⟩
      go_wp2
      go_loopw [4,5] (fun b i wr=>∃ j:Nat,j≤k∧i=.int .i64 j∧OwnB w.heap.size wr b ((putS n).take j)∧Below w.heap.size w wr) (fun _ i _=>k - (intOf i).toNat)
      case atStart=>exact ⟨0,Nat.zero_le _,rfl,World.ownsRow_nil _ _ _ _,Below.refl _ _⟩
      case round =>
        obtain ⟨j,hj,rfl,hO,hB⟩:=hrel
        obtain ⟨q,c,rfl⟩:=hO.slice
        by_cases hjk:j<k
        · have hat:=putS_at n j (by rw [HL.out];exact hjk)
          rw [HL.out] at hat
          have hji:(j:Int)<(k:Int):=by omega
          have hsh2:=shrS n j
          generalize n / 128 ^ j=y at hat hsh2
          have hc1:=and127 y
          have hx:(y % 128).toNat<128:=by omega
          generalize (y % 128).toNat=x at hat hc1 hx
          have hx':(x:Int)<128:=by omega
          have HM:=Lib.hid (show ((putS n).take j).length=j by rw [List.length_take,HL.out];omega)
          by_cases hj1:j+1<k
          · rw [if_pos hj1] at hat
            have hnext:=take_next hat
            have hj1':(j:Int)+1<(k:Int):=by omega
            obtain ⟨z,hz⟩:∃ z,x+128=z:=⟨_,rfl⟩
            rw [hz] at hnext
            have hz':(x:Int)+128=(z:Int):=by omega
            clear hat hz
            generalize (putS n).take j=m at hO hnext HM
            have hA:=hO.alloc (.cells #[.int .u8 (z:Int)] 5)
            have hBA:Below w.heap.size wr (wr.alloc (.cells #[.int .u8 (z:Int)] 5)):=(Below.refl _ _).alloc hB.size _
            clear hO
            go_wp2_with (at_builtin;refine wpList_bytes rfl _ _ rfl w.heap.size _ m rfl hA ⟨_,0,none⟩ 1 [z] rfl (one_cells _ _) (by have:=HM.out;simp;omega) (by have:=hB.size;simp;omega) ?_)
            intro v2 w2 hO2 hgr _
            have hB2:Below w.heap.size w w2:=hB.trans (hBA.trans (below_own hgr (by have:=hB.size;simp;omega) (fun t ht=>(hA.lt t ht).1)))
            rw [← hnext] at hO2
            have HO:=Lib.hid (And.intro hO2 hB2)
            clear hO2 hB2 hA hBA hgr hnext hB
            go_wp2
            exact ⟨⟨j+1,by omega,by go_num,HO.out⟩,by simp [intOf];omega⟩
          · rw [if_neg hj1] at hat
            have hnext:=take_next hat
            rw [show x+0=x from rfl] at hnext
            have hjn:¬ (j:Int)+1<(k:Int):=by omega
            clear hat
            generalize (putS n).take j=m at hO hnext HM
            have hA:=hO.alloc (.cells #[.int .u8 (x:Int)] 5)
            have hBA:Below w.heap.size wr (wr.alloc (.cells #[.int .u8 (x:Int)] 5)):=(Below.refl _ _).alloc hB.size _
            clear hO
            go_wp2_with (at_builtin;refine wpList_bytes rfl _ _ rfl w.heap.size _ m rfl hA ⟨_,0,none⟩ 1 [x] rfl (one_cells _ _) (by have:=HM.out;simp;omega) (by have:=hB.size;simp;omega) ?_)
            intro v2 w2 hO2 hgr _
            have hB2:Below w.heap.size w w2:=hB.trans (hBA.trans (below_own hgr (by have:=hB.size;simp;omega) (fun t ht=>(hA.lt t ht).1)))
            rw [← hnext] at hO2
            have HO:=Lib.hid (And.intro hO2 hB2)
            clear hO2 hB2 hA hBA hgr hnext hB
            go_wp2
            exact ⟨⟨j+1,by omega,by go_num,HO.out⟩,by simp [intOf];omega⟩
        · have hji:¬ (j:Int)<(k:Int):=by omega
          have ht:(putS n).take j=putS n:=List.take_of_length_le (by rw [HL.out];omega)
          rw [ht] at hO ⊢
          have HO:=Lib.hid (And.intro hO hB)
          clear hO hB ht
          go_wp2
          go_ret
          exact ⟨_,rfl,HO.out⟩
    · rw [decide_eq_false hgo] at hf
      have HF:=Lib.hid (And.intro hf hgo)
      have hk9:k<10:=by
        rcases Nat.lt_or_ge k 10 with h | h
        · exact h
        · exact absurd (.inl h) hgo
      clear hf hgo hlow
      go_wp2_with fail
      refine HF.out.1.mono ?_
      rintro e w' ⟨rfl,rfl⟩
      go_wp2
      exact ⟨⟨k+1,by omega,by omega,.inr (by simpa using HF.out.2),by go_num⟩,by simp [intOf];omega⟩
end Go.Proofs.Ytbfkgcapkffecaa
namespace Go.Proofs.Ytbfkgcapkffecaa
open Go Go.RowKit
theorem valU_take:∀ (l:List Nat) (j:Nat),j<l.length→valU (l.take (j+1))=valU (l.take j)+128 ^ j * (l.getD j 0 % 128)
  | [],j,h=>absurd h (by simp)
  | x :: l,0,_=>by simp [valU]
  | x :: l,j+1,h=>by
    have:=valU_take l j (by simpa using h)
    rw [List.take_succ_cons,valU,this,List.take_succ_cons,valU,Nat.mul_add,Nat.pow_succ]
    simp only [List.getD_cons_succ]
    rw [Nat.mul_comm (128 ^ j) 128,Nat.mul_assoc]
    omega
theorem valU_lt:∀ l:List Nat,valU l<128 ^ l.length
  | []=>by simp [valU]
  | x :: l=>by
    have:=valU_lt l
    rw [valU,List.length_cons,Nat.pow_succ]
    omega
theorem ten (P:Nat→Prop) (h0:P 0) (h1:P 1) (h2:P 2) (h3:P 3) (h4:P 4) (h5:P 5) (h6:P 6) (h7:P 7) (h8:P 8) (h9:P 9):∀ j,j<10→P j:=by
  intro j hj
  have:j=0 ∨ j=1 ∨ j=2 ∨ j=3 ∨ j=4 ∨ j=5 ∨ j=6 ∨ j=7 ∨ j=8 ∨ j=9:=by omega
  rcases this with rfl | rfl | rfl | rfl | rfl | rfl | rfl | rfl | rfl | rfl <;> assumption
theorem joinN (z V j:Nat) (hj:j<10) (hV:V<128 ^ j):V<W64∧V ||| z * 2 ^ (7 * j) % W64=(V+128 ^ j * z) % W64:=by
  revert V
  refine ten (fun j=>∀ V,V<128 ^ j→V<W64∧V ||| z * 2 ^ (7 * j) % W64=(V+128 ^ j * z) % W64) ?_ ?_ ?_ ?_ ?_ ?_ ?_ ?_ ?_ ?_ j hj
  · intro V hV
    simp only [W64,Nat.reducePow,Nat.reduceMul] at hV ⊢
    refine ⟨by omega,?_⟩
    rw [Nat.or_comm,nat_join 0 _ V (by simp only [Nat.reducePow];omega) (by simp only [Nat.reducePow];omega)];omega
  · intro V hV
    simp only [W64,Nat.reducePow,Nat.reduceMul] at hV ⊢
    refine ⟨by omega,?_⟩
    rw [Nat.or_comm,nat_join 7 _ V (by simp only [Nat.reducePow];omega) (by simp only [Nat.reducePow];omega)];omega
  · intro V hV
    simp only [W64,Nat.reducePow,Nat.reduceMul] at hV ⊢
    refine ⟨by omega,?_⟩
    rw [Nat.or_comm,nat_join 14 _ V (by simp only [Nat.reducePow];omega) (by simp only [Nat.reducePow];omega)];omega
  · intro V hV
    simp only [W64,Nat.reducePow,Nat.reduceMul] at hV ⊢
    refine ⟨by omega,?_⟩
    rw [Nat.or_comm,nat_join 21 _ V (by simp only [Nat.reducePow];omega) (by simp only [Nat.reducePow];omega)];omega
  · intro V hV
    simp only [W64,Nat.reducePow,Nat.reduceMul] at hV ⊢
    refine ⟨by omega,?_⟩
    rw [Nat.or_comm,nat_join 28 _ V (by simp only [Nat.reducePow];omega) (by simp only [Nat.reducePow];omega)];omega
  · intro V hV
    simp only [W64,Nat.reducePow,Nat.reduceMul] at hV ⊢
    refine ⟨by omega,?_⟩
    rw [Nat.or_comm,nat_join 35 _ V (by simp only [Nat.reducePow];omega) (by simp only [Nat.reducePow];omega)];omega
  · intro V hV
    simp only [W64,Nat.reducePow,Nat.reduceMul] at hV ⊢
    refine ⟨by omega,?_⟩
    rw [Nat.or_comm,nat_join 42 _ V (by simp only [Nat.reducePow];omega) (by simp only [Nat.reducePow];omega)];omega
  · intro V hV
    simp only [W64,Nat.reducePow,Nat.reduceMul] at hV ⊢
    refine ⟨by omega,?_⟩
    rw [Nat.or_comm,nat_join 49 _ V (by simp only [Nat.reducePow];omega) (by simp only [Nat.reducePow];omega)];omega
  · intro V hV
    simp only [W64,Nat.reducePow,Nat.reduceMul] at hV ⊢
    refine ⟨by omega,?_⟩
    rw [Nat.or_comm,nat_join 56 _ V (by simp only [Nat.reducePow];omega) (by simp only [Nat.reducePow];omega)];omega
  · intro V hV
    simp only [W64,Nat.reducePow,Nat.reduceMul] at hV ⊢
    refine ⟨by omega,?_⟩
    rw [Nat.or_comm,nat_join 63 _ V (by simp only [Nat.reducePow];omega) (by simp only [Nat.reducePow];omega)];omega
theorem u64_wrap_nat (x:Nat):IntKind.u64.wrap (x:Int)=((x % W64:Nat):Int):=by rw [IntKind.wrap_u64];simp only [W64];omega
theorem shl_nat (z j:Nat):(z:Int) * 2 ^ j=((z * 2 ^ j:Nat):Int):=by rw [Int.natCast_mul,Int.natCast_pow];rfl
theorem stepU (z V j:Nat) (hj:j<10) (hz:z<128) (hV:V<128 ^ j) :
    bits .or .u64 ((V % W64:Nat):Int) (IntKind.u64.wrap (IntKind.u64.wrap (z:Int) * 2 ^ (7 * j)))=(((V+128 ^ j * z) % W64:Nat):Int):=by
  obtain ⟨h1,h2⟩:=joinN z V j hj hV
  rw [u64_wrap_nat z,Nat.mod_eq_of_lt (show z<W64 by simp only [W64];omega),Nat.mod_eq_of_lt h1,shl_nat,u64_wrap_nat,u64_or_nat V _ h1 (Nat.mod_lt _ (by decide)),h2]
theorem spareU (V k:Nat) (hk:0<k) (hk1:k≤10) (hV:V<128 ^ k):IntKind.u64.wrap (((V % W64:Nat):Int) * 2 ^ (64 - 7 * k)) / 2 ^ (64 - 7 * k)=((V % W64:Nat):Int):=by
  obtain ⟨j,rfl⟩:∃ j,k=j+1:=⟨k - 1,by omega⟩
  rw [shl_nat,u64_wrap_nat,show ((2:Int) ^ (64 - 7 * (j+1)))=((2 ^ (64 - 7 * (j+1)):Nat):Int) from by rw [Int.natCast_pow];rfl,← Int.natCast_ediv]
  congr 1
  revert V
  refine ten (fun j=>∀ V,V<128 ^ (j+1)→V % W64 * 2 ^ (64 - 7 * (j+1)) % W64 / 2 ^ (64 - 7 * (j+1))=V % W64) ?_ ?_ ?_ ?_ ?_ ?_ ?_ ?_ ?_ ?_ j (by omega) <;> intro V hV <;> simp only [W64,Nat.reducePow,Nat.reduceAdd,Nat.reduceMul,Nat.reduceSub] at hV ⊢ <;> omega
def U (a:Int):Nat:=(a % 18446744073709551616).toNat
theorem U_wrap (a:Int):U (wrap64 a)=U a:=by unfold U;rw [wrap_emod]
theorem U_nat (n:Nat):U (n:Int)=n % W64:=by unfold U;simp only [W64];omega
theorem or_i64 (a b:Int):bits .or .i64 a b=wrap64 ((U a ||| U b:Nat):Int):=by
  show IntKind.i64.wrap ((BitVec.ofInt 64 a ||| BitVec.ofInt 64 b).toNat:Int)=_
  rw [wrap_i64,BitVec.toNat_or,BitVec.toNat_ofInt,BitVec.toNat_ofInt]
  rfl
theorem stepS (z V j:Nat) (hj:j<10) (hz:z<128) (hV:V<128 ^ j) :
    bits .or .i64 (wrap64 (V:Int)) (wrap64 (wrap64 (z:Int) * 2 ^ (7 * j)))=wrap64 ((V+128 ^ j * z:Nat):Int):=by
  obtain ⟨h1,h2⟩:=joinN z V j hj hV
  rw [wrap_id (x:=(z:Int)) (by omega) (by omega),or_i64,U_wrap,U_wrap,shl_nat,U_nat,U_nat,Nat.mod_eq_of_lt h1,h2]
  refine wrap_congr ?_
  simp only [W64]
  omega
theorem spareS (V k:Nat) (S:Int) (hk:0<k) (hk1:k≤10) (hV:V<128 ^ k) (hS:S=V ∨ S=(V:Int) - ((128 ^ k:Nat):Int)) (h1:-((64 * 128 ^ (k - 1):Nat):Int)≤S) (h2:S<((64 * 128 ^ (k - 1):Nat):Int)) :
    wrap64 (wrap64 (V:Int) * 2 ^ (64 - 7 * k)) / 2 ^ (64 - 7 * k)=wrap64 S:=by
  obtain ⟨j,rfl⟩:∃ j,k=j+1:=⟨k - 1,by omega⟩
  rw [show ((2:Int) ^ (64 - 7 * (j+1)))=((2 ^ (64 - 7 * (j+1)):Nat):Int) from by rw [Int.natCast_pow];rfl]
  revert V S
  refine ten (fun j=>∀ (V:Nat) (S:Int),V<128 ^ (j+1)→(S=(V:Int) ∨ S=(V:Int) - ((128 ^ (j+1):Nat):Int))→-((64 * 128 ^ (j+1 - 1):Nat):Int)≤S→S<((64 * 128 ^ (j+1 - 1):Nat):Int) →
    wrap64 (wrap64 (V:Int) * ((2 ^ (64 - 7 * (j+1)):Nat):Int)) / ((2 ^ (64 - 7 * (j+1)):Nat):Int)=wrap64 S) ?_ ?_ ?_ ?_ ?_ ?_ ?_ ?_ ?_ ?_ j (by omega) <;> intro V S hV hS h1 h2 <;>
    simp only [wrap64,Nat.reducePow,Nat.reduceAdd,Nat.reduceMul,Nat.reduceSub] at hV hS h1 h2 ⊢ <;> omega
theorem valS_is:∀ {l:List Nat},oneS l→(valS l=valU l ∨ valS l=(valU l:Int) - ((128 ^ l.length:Nat):Int))∧-((64 * 128 ^ (l.length - 1):Nat):Int)≤valS l∧valS l<((64 * 128 ^ (l.length - 1):Nat):Int)
  | [],h=>h.elim
  | [x],h=>by
    have hx:x<128:=h
    simp only [valS,valU,List.length_singleton,Nat.reduceSub,Nat.pow_zero,Nat.pow_one]
    split <;> omega
  | x :: y :: l,h=>by
    obtain ⟨h1,h2,h3⟩:=valS_is (l:=y :: l) h.2
    simp only [valS,valU,List.length_cons,Nat.add_sub_cancel] at h1 h2 h3 ⊢
    generalize valS (y :: l)=s at h1 h2 h3 ⊢
    rw [Nat.pow_succ 128 (l.length+1)]
    rw [Nat.pow_succ] at h1 ⊢
    generalize 128 ^ l.length=P at h1 h2 h3 ⊢
    generalize valU l=u at h1 ⊢
    omega
end Go.Proofs.Ytbfkgcapkffecaa
namespace Go.Proofs.Ytbfkgcapkffecaa
open Go Go.RowKit
theorem ByIn.take {B:Nat} {w:World} {p:Option Addr} {ns:List Nat} (h:ByIn B w p ns) (k:Nat):ByIn B w p (ns.take k):=by
  intro i hi
  have hk:i<k∧i<ns.length:=by rw [List.length_take] at hi;omega
  obtain ⟨b,off,hp,hlt,hc⟩:=h i hk.2
  refine ⟨b,off,hp,hlt,?_⟩
  rw [hc,List.getD_eq_getElem?_getD,List.getD_eq_getElem?_getD,List.getElem?_take_of_lt hk.1]
abbrev zeros10:Array Value:=#[.int .u8 0,.int .u8 0,.int .u8 0,.int .u8 0,.int .u8 0,.int .u8 0,.int .u8 0,.int .u8 0,.int .u8 0,.int .u8 0]
theorem made10 (w:World):(Instr.makeSlice 28 (.int .i64 0) (.int .i64 10)).run Try.prog w=.ok (.slice (some ⟨w.heap.size,0,none⟩) 0 10) (w.alloc (.cells zeros10 5)):=by kernel_rfl
theorem own10 (w:World):OwnB w.heap.size (w.alloc (.cells zeros10 5)) (.slice (some ⟨w.heap.size,0,none⟩) 0 10) []:=World.ownsRow_made w zeros10 10 (Nat.le_refl _) (by unfold maxLen;omega) rfl
set_option maxRecDepth 100000 in
set_option maxHeartbeats 1000000 in
theorem getU_any (p:Option Addr) (c:Nat) (xs:List Nat) (hx:bytesL xs) (hl:xs.length≤c) (hm:c≤maxLen) (g:Nat) (w:World) (hp:ByIn w.heap.size w p xs) (hlay:laysU g w) (hgs:g+1<w.heap.size) :
    Calls Try.prog 111 #[.slice p xs.length c,endU g] w fun e w'=>e=.returned (.tuple #[.int .u64 ((getU xs).1:Nat),.int .i64 ((getU xs).2.1:Nat),.int .i64 ((getU xs).2.2:Nat)])∧Below w.heap.size w w':=by
  have hmax:=hm
  unfold maxLen at hmax
  have hspan:=span_any p c xs hx (Nat.le_trans hl hm) _ w hp
  have hll:=lead_le xs
  unfold endU
  by_cases h10:10≤lead xs
  · have hk:spanV xs=(0,31):=by unfold spanV;rw [if_pos h10]
    have hg:getU xs=(0,0,31):=by unfold getU;rw [if_pos h10]
    rw [hk] at hspan
    rw [hg]
    have HS:=Lib.hid hspan
    clear hspan hk hg hlay hp hx
    generalize xs.length=n at HS ⊢
    go_enter Try.func111,Try.ntmps111
    go_wp2_with fail
    refine HS.out.mono ?_
    rintro e w' ⟨rfl,rfl⟩
    go_wp2
    go_ret3
    exact ⟨rfl,Below.refl _ _⟩
  · by_cases hend:lead xs=xs.length
    · have hk:spanV xs=(0,30):=by unfold spanV;rw [if_neg h10,if_pos hend]
      have hg:getU xs=(0,0,30):=by unfold getU;rw [if_neg h10,if_pos hend]
      rw [hk] at hspan
      rw [hg]
      have HS:=Lib.hid hspan
      clear hspan hk hg hlay hp hx
      generalize xs.length=n at HS ⊢
      go_enter Try.func111,Try.ntmps111
      go_wp2_with fail
      refine HS.out.mono ?_
      rintro e w' ⟨rfl,rfl⟩
      go_wp2
      go_ret3
      exact ⟨rfl,Below.refl _ _⟩
    · have hk:spanV xs=(((lead xs+1:Nat):Int),0):=by unfold spanV;rw [if_neg h10,if_neg hend]
      rw [hk] at hspan
      have hz:lead xs+1≤xs.length:=by omega
      have hk10:lead xs+1≤10:=by omega
      have hk0:0<lead xs+1:=by omega
      have hget:getU xs=if putU (valU (xs.take (lead xs+1)) % W64)=xs.take (lead xs+1) then (valU (xs.take (lead xs+1)) % W64,lead xs+1,0) else (0,0,31):=by
        unfold getU;rw [if_neg h10,if_neg hend]
      clear hll h10 hend hk
      generalize lead xs+1=k at hspan hz hk10 hk0 hget
      have hrl:(xs.take k).length=k:=by rw [List.length_take];omega
      obtain ⟨row,hrow⟩:∃ row,xs.take k=row:=⟨_,rfl⟩
      have hrb:bytesL row:=by rw [← hrow];exact bytesL_take hx k
      have hrat:∀ j,j<k→row.getD j 0=xs.getD j 0:=fun j hj=>by
        rw [← hrow,List.getD_eq_getElem?_getD,List.getElem?_take_of_lt hj,← List.getD_eq_getElem?_getD]
      rw [hrow] at hrl hget
      have HG:=Lib.hid (And.intro hget (And.intro hrl (And.intro hrat hrb)))
      have HS:=Lib.hid hspan
      have HL:=Lib.hid (And.intro hlay hgs)
      have hki:(k:Int)≤10:=by omega
      obtain ⟨r,hr⟩:∃ r,getU xs=r:=⟨_,rfl⟩
      rw [hr]
      rw [hr] at hget
      have HR:=Lib.hid hget
      clear hget hrl hrat hrb hspan hlay hgs hr hm HG
      have HG:=Lib.hid (And.intro hrow (And.intro (show row.length=k from by rw [← hrow,List.length_take];omega) (And.intro (show ∀ j,j<k→row.getD j 0=xs.getD j 0 from fun j hj=>by
        rw [← hrow,List.getD_eq_getElem?_getD,List.getElem?_take_of_lt hj,← List.getD_eq_getElem?_getD]) (show bytesL row from by rw [← hrow];exact bytesL_take hx k))))
      clear hrow
      go_enter Try.func111,Try.ntmps111
      go_wp2_with fail
      refine HS.out.mono ?_
      rintro e w' ⟨rfl,rfl⟩
      clear HS
      go_wp2_with fail
      go_loop [10,27] (fun n i=>∃ j:Nat,j≤k∧n=.int .u64 ((valU (row.take j) % W64:Nat):Int)∧i=.int .i64 j) (fun _ i=>k - (intOf i).toNat)
      case atStart=>exact ⟨0,by omega,rfl,rfl⟩
      case round =>
        obtain ⟨j,hj,rfl,rfl⟩:=hrel
        by_cases hjk:j<k
        · have hji:(j:Int)<(k:Int):=by omega
          have hj9:(j:Int)<10:=by omega
          obtain ⟨b,off,rfl,hb,hc⟩:=hp j (by omega)
          have hg:=andNot128 (xs.getD j 0) (bytesL_at hx j)
          have hV:=valU_take row j (by rw [HG.out.2.1];exact hjk)
          have hlt:valU (row.take j)<128 ^ j:=by
            have:=valU_lt (row.take j)
            rwa [show (row.take j).length=j from by rw [List.length_take,HG.out.2.1];omega] at this
          have hst:=stepU (xs.getD j 0 % 128) (valU (row.take j)) j (by omega) (Nat.mod_lt _ (by decide)) hlt
          rw [← HG.out.2.2.1 j hjk,← hV,HG.out.2.2.1 j hjk] at hst
          clear hV hlt hp
          obtain ⟨M,hM⟩:∃ M,valU (row.take (j+1)) % W64=M:=⟨_,rfl⟩
          rw [hM] at hst
          have HM:=Lib.hid hM
          clear hM
          generalize valU (row.take j) % W64=m at hst ⊢
          generalize xs.getD j 0=y at hc hg hst
          generalize y % 128=z at hg hst
          go_wp2
          exact ⟨⟨j+1,by omega,by rw [HM.out],by go_num⟩,by simp [intOf];omega⟩
        · have hji:¬ (j:Int)<(k:Int):=by omega
          obtain rfl:j=k:=by omega
          have ht:row.take j=row:=List.take_of_length_le (by rw [HG.out.2.1];omega)
          rw [ht]
          obtain ⟨s,hs⟩:∃ s,64 - 7 * j=s:=⟨_,rfl⟩
          have hsp:max 0 (64 - 7 * (j:Int))=(s:Int):=by omega
          have hsm:(s:Int)<64:=by omega
          have hfin:=spareU (valU row) j hk0 hk10 (by have:=valU_lt row;rwa [HG.out.2.1] at this)
          rw [hs] at hfin
          clear ht hs
          have HM2:=Lib.hid (Nat.mod_lt (valU row) (show 0<W64 by decide))
          generalize valU row % W64=m at hfin HR HM2 ⊢
          have hmk:=made10 w
          have hown:=own10 w
          have hBA:Below w.heap.size w (w.alloc (.cells zeros10 5)):=(Below.refl _ w).alloc (Nat.le_refl _) _
          generalize w.alloc (.cells zeros10 5)=w1 at hmk hown hBA
          have hm64:m<W64:=HM2.out
          have hput:=putU_any g m w.heap.size _ [] (by have:=putU_ten hm64;simp;omega) w1 hown hBA.size hm64 (HL.out.1.below hBA HL.out.2) (by have:=HL.out.2;have:=hBA.size;omega) (by have:=HL.out.2;simp [Value.ownBlock];omega)
          rw [List.nil_append] at hput
          have HP:=Lib.hid hput
          have HIN:=Lib.hid (show ByIn w.heap.size w p row from by rw [← HG.out.1];exact hp.take j)
          clear hput hown hp hx
          go_wp2_with fail
          refine HP.out.mono ?_
          rintro e w2 ⟨v,rfl,hO,hB2⟩
          obtain ⟨q,d,rfl⟩:=hO.slice
          have hB3:=hBA.trans hB2
          have hin:=HIN.out.below (B':=w2.heap.size) hB3 (Nat.le_refl _) hB3.size
          have heq:=equal_any q p d c (putU m) row (putU_bytes m) HG.out.2.2.2 w2.heap.size w2 hO.in hin
          rw [HG.out.2.1] at heq
          have HE:=Lib.hid heq
          clear HP hO hB2 hBA hin heq HIN
          by_cases he:putU m=row
          · rw [decide_eq_true he] at HE
            have hr:=HR.out
            rw [if_pos he] at hr
            subst hr
            clear HR he HG
            go_wp2_with fail
            refine HE.out.mono ?_
            rintro e w3 ⟨rfl,rfl⟩
            clear HE
            go_wp2
            go_ret3
            exact ⟨rfl,hB3⟩
          · rw [decide_eq_false he] at HE
            have hr:=HR.out
            rw [if_neg he] at hr
            subst hr
            clear HR he HG
            go_wp2_with fail
            refine HE.out.mono ?_
            rintro e w3 ⟨rfl,rfl⟩
            clear HE
            go_wp2
            go_ret3
            exact ⟨rfl,hB3⟩
theorem oneS_row:∀ {l:List Nat},bytesL l→lead l<l.length→oneS (l.take (lead l+1))
  | [],_,h=>absurd h (by simp [lead])
  | x :: l,hb,h=>by
    rw [lead] at h ⊢
    split at h
    · rename_i hx
      rw [if_pos hx]
      have hl:lead l<l.length:=by simpa using h
      have ih:=oneS_row (fun y hy=>hb y (List.mem_cons_of_mem _ hy)) hl
      rw [List.take_succ_cons]
      exact oneS_cons hx (hb x (List.mem_cons_self ..)) ih
    · rename_i hx
      rw [if_neg hx]
      show x<128
      omega
set_option maxRecDepth 100000 in
set_option maxHeartbeats 1000000 in
theorem getS_any (p:Option Addr) (c:Nat) (xs:List Nat) (hx:bytesL xs) (hl:xs.length≤c) (hm:c≤maxLen) (g:Nat) (w:World) (hp:ByIn w.heap.size w p xs) (hlay:laysS g w) (hgs:g+1<w.heap.size) :
    Calls Try.prog 120 #[.slice p xs.length c,endS g] w fun e w'=>e=.returned (.tuple #[.int .i64 (getS xs).1,.int .i64 ((getS xs).2.1:Nat),.int .i64 ((getS xs).2.2:Nat)])∧Below w.heap.size w w':=by
  have hmax:=hm
  unfold maxLen at hmax
  have hspan:=span_any p c xs hx (Nat.le_trans hl hm) _ w hp
  have hll:=lead_le xs
  unfold endS
  by_cases h10:10≤lead xs
  · have hk:spanV xs=(0,31):=by unfold spanV;rw [if_pos h10]
    have hg:getS xs=(0,0,31):=by unfold getS;rw [if_pos h10]
    rw [hk] at hspan
    rw [hg]
    have HS:=Lib.hid hspan
    clear hspan hk hg hlay hp hx
    generalize xs.length=n at HS ⊢
    go_enter Try.func120,Try.ntmps120
    go_wp2_with fail
    refine HS.out.mono ?_
    rintro e w' ⟨rfl,rfl⟩
    go_wp2
    go_ret3
    exact ⟨rfl,Below.refl _ _⟩
  · by_cases hend:lead xs=xs.length
    · have hk:spanV xs=(0,30):=by unfold spanV;rw [if_neg h10,if_pos hend]
      have hg:getS xs=(0,0,30):=by unfold getS;rw [if_neg h10,if_pos hend]
      rw [hk] at hspan
      rw [hg]
      have HS:=Lib.hid hspan
      clear hspan hk hg hlay hp hx
      generalize xs.length=n at HS ⊢
      go_enter Try.func120,Try.ntmps120
      go_wp2_with fail
      refine HS.out.mono ?_
      rintro e w' ⟨rfl,rfl⟩
      go_wp2
      go_ret3
      exact ⟨rfl,Below.refl _ _⟩
    · have hk:spanV xs=(((lead xs+1:Nat):Int),0):=by unfold spanV;rw [if_neg h10,if_neg hend]
      rw [hk] at hspan
      have hz:lead xs+1≤xs.length:=by omega
      have hk10:lead xs+1≤10:=by omega
      have hk0:0<lead xs+1:=by omega
      have hget:getS xs=if putS (wrap64 (valS (xs.take (lead xs+1))))=xs.take (lead xs+1) then (wrap64 (valS (xs.take (lead xs+1))),lead xs+1,0) else (0,0,31):=by
        unfold getS;rw [if_neg h10,if_neg hend]
      have hone:oneS (xs.take (lead xs+1)):=oneS_row hx (by omega)
      clear hll h10 hend hk
      generalize lead xs+1=k at hspan hz hk10 hk0 hget hone
      have hrl:(xs.take k).length=k:=by rw [List.length_take];omega
      obtain ⟨row,hrow⟩:∃ row,xs.take k=row:=⟨_,rfl⟩
      have hrb:bytesL row:=by rw [← hrow];exact bytesL_take hx k
      have hrat:∀ j,j<k→row.getD j 0=xs.getD j 0:=fun j hj=>by
        rw [← hrow,List.getD_eq_getElem?_getD,List.getElem?_take_of_lt hj,← List.getD_eq_getElem?_getD]
      rw [hrow] at hrl hget hone
      have HO:=Lib.hid hone
      have HG:=Lib.hid (And.intro hget (And.intro hrl (And.intro hrat hrb)))
      have HS:=Lib.hid hspan
      have HL:=Lib.hid (And.intro hlay hgs)
      have hki:(k:Int)≤10:=by omega
      obtain ⟨r,hr⟩:∃ r,getS xs=r:=⟨_,rfl⟩
      rw [hr]
      rw [hr] at hget
      have HR:=Lib.hid hget
      clear hone hget hrl hrat hrb hspan hlay hgs hr hm HG
      have HG:=Lib.hid (And.intro hrow (And.intro (show row.length=k from by rw [← hrow,List.length_take];omega) (And.intro (show ∀ j,j<k→row.getD j 0=xs.getD j 0 from fun j hj=>by
        rw [← hrow,List.getD_eq_getElem?_getD,List.getElem?_take_of_lt hj,← List.getD_eq_getElem?_getD]) (show bytesL row from by rw [← hrow];exact bytesL_take hx k))))
      clear hrow
      go_enter Try.func120,Try.ntmps120
      go_wp2_with fail
      refine HS.out.mono ?_
      rintro e w' ⟨rfl,rfl⟩
      clear HS
      go_wp2_with fail
      go_loop [10,27] (fun n i=>∃ j:Nat,j≤k∧n=.int .i64 (wrap64 ((valU (row.take j):Nat):Int))∧i=.int .i64 j) (fun _ i=>k - (intOf i).toNat)
      case atStart=>exact ⟨0,by omega,by simp [valU,wrap64],rfl⟩
      case round =>
        obtain ⟨j,hj,rfl,rfl⟩:=hrel
        by_cases hjk:j<k
        · have hji:(j:Int)<(k:Int):=by omega
          have hj9:(j:Int)<10:=by omega
          obtain ⟨b,off,rfl,hb,hc⟩:=hp j (by omega)
          have hg:=andNot128 (xs.getD j 0) (bytesL_at hx j)
          have hV:=valU_take row j (by rw [HG.out.2.1];exact hjk)
          have hlt:valU (row.take j)<128 ^ j:=by
            have:=valU_lt (row.take j)
            rwa [show (row.take j).length=j from by rw [List.length_take,HG.out.2.1];omega] at this
          have hst:=stepS (xs.getD j 0 % 128) (valU (row.take j)) j (by omega) (Nat.mod_lt _ (by decide)) hlt
          rw [← HG.out.2.2.1 j hjk,← hV,HG.out.2.2.1 j hjk] at hst
          clear hV hlt hp
          obtain ⟨M,hM⟩:∃ M,wrap64 ((valU (row.take (j+1)):Nat):Int)=M:=⟨_,rfl⟩
          rw [hM] at hst
          have HM:=Lib.hid hM
          clear hM
          generalize wrap64 ((valU (row.take j):Nat):Int)=m at hst ⊢
          generalize xs.getD j 0=y at hc hg hst
          generalize y % 128=z at hg hst
          go_wp2
          exact ⟨⟨j+1,by omega,by rw [HM.out],by go_num⟩,by simp [intOf];omega⟩
        · have hji:¬ (j:Int)<(k:Int):=by omega
          obtain rfl:j=k:=by omega
          have ht:row.take j=row:=List.take_of_length_le (by rw [HG.out.2.1];omega)
          rw [ht]
          obtain ⟨s,hs⟩:∃ s,64 - 7 * j=s:=⟨_,rfl⟩
          have hsp:max 0 (64 - 7 * (j:Int))=(s:Int):=by omega
          have hsm:(s:Int)<64:=by omega
          have hvs:=valS_is HO.out
          rw [HG.out.2.1] at hvs
          have hfin:=spareS (valU row) j (valS row) hk0 hk10 (by have:=valU_lt row;rwa [HG.out.2.1] at this) hvs.1 hvs.2.1 hvs.2.2
          rw [hs] at hfin
          clear ht hs
          have HM2:=Lib.hid (wrap_le (valS row))
          clear hvs
          generalize wrap64 (valS row)=m at hfin HR HM2
          generalize wrap64 ((valU row:Nat):Int)=m0 at hfin ⊢
          have hmk:=made10 w
          have hown:=own10 w
          have hBA:Below w.heap.size w (w.alloc (.cells zeros10 5)):=(Below.refl _ w).alloc (Nat.le_refl _) _
          generalize w.alloc (.cells zeros10 5)=w1 at hmk hown hBA
          have hm64:=HM2.out
          have hput:=putS_any g m w.heap.size _ [] (by have:=putS_ten hm64.1 hm64.2;simp;omega) w1 hown hBA.size hm64.1 hm64.2 (HL.out.1.below hBA HL.out.2) (by have:=HL.out.2;have:=hBA.size;omega) (by have:=HL.out.2;simp [Value.ownBlock];omega)
          rw [List.nil_append] at hput
          have HP:=Lib.hid hput
          have HIN:=Lib.hid (show ByIn w.heap.size w p row from by rw [← HG.out.1];exact hp.take j)
          clear hput hown hp hx
          go_wp2_with fail
          refine HP.out.mono ?_
          rintro e w2 ⟨v,rfl,hO,hB2⟩
          obtain ⟨q,d,rfl⟩:=hO.slice
          have hB3:=hBA.trans hB2
          have hin:=HIN.out.below (B':=w2.heap.size) hB3 (Nat.le_refl _) hB3.size
          have heq:=equal_any q p d c (putS m) row (putS_bytes m) HG.out.2.2.2 w2.heap.size w2 hO.in hin
          rw [HG.out.2.1] at heq
          have HE:=Lib.hid heq
          clear HP hO hB2 hBA hin heq HIN
          by_cases he:putS m=row
          · rw [decide_eq_true he] at HE
            have hr:=HR.out
            rw [if_pos he] at hr
            subst hr
            clear HR he HG
            go_wp2_with fail
            refine HE.out.mono ?_
            rintro e w3 ⟨rfl,rfl⟩
            clear HE
            go_wp2
            go_ret3
            exact ⟨rfl,hB3⟩
          · rw [decide_eq_false he] at HE
            have hr:=HR.out
            rw [if_neg he] at hr
            subst hr
            clear HR he HG
            go_wp2_with fail
            refine HE.out.mono ?_
            rintro e w3 ⟨rfl,rfl⟩
            clear HE
            go_wp2
            go_ret3
            exact ⟨rfl,hB3⟩
end Go.Proofs.Ytbfkgcapkffecaa
namespace Go.Proofs.Ytbfkgcapkffecaa
open Go Go.RowKit
set_option maxRecDepth 100000 in
theorem Get_any (p:Option Addr) (c:Nat) (xs:List Nat) (hx:bytesL xs) (hl:xs.length≤c) (hm:c≤maxLen) (w:World) (hp:ByIn w.heap.size w p xs) :
    Calls Try.prog 104 #[.slice p xs.length c] w fun e w'=>e=.returned (.tuple #[.int .u64 ((getU xs).1:Nat),.int .i64 ((getU xs).2.1:Nat),.int .i64 ((getU xs).2.2:Nat)])∧Below w.heap.size w w':=by
  have h2:=Lib.hid (fun (w1:World) (g:Nat) (hlay:laysU g w1) (hlt:g+1<w1.heap.size) (hB:Below w.heap.size w w1) =>
    getU_any p c xs hx hl hm g w1 (hp.below hB (Nat.le_refl _) hB.size) hlay hlt)
  clear hp hx hl hm
  generalize getU xs=r at h2 ⊢
  generalize xs.length=n at h2 ⊢
  go_enter Try.func104,Try.ntmps104
  go_wp2_with fail
  refine (unsignedEnd_any w).mono ?_
  rintro e w1 ⟨g,rfl,hlay,hge,hlt,hB⟩
  have h3:=Lib.hid (h2.out w1 g hlay hlt hB)
  clear h2 hlay hge hlt
  go_wp2_with fail
  refine h3.out.mono ?_
  rintro e w2 ⟨rfl,hB2⟩
  clear h3
  go_wp2_with fail
  go_ret3
  exact ⟨rfl,hB.trans (hB2.mono hB.size)⟩
set_option maxRecDepth 100000 in
theorem GetSigned_any (p:Option Addr) (c:Nat) (xs:List Nat) (hx:bytesL xs) (hl:xs.length≤c) (hm:c≤maxLen) (w:World) (hp:ByIn w.heap.size w p xs) :
    Calls Try.prog 117 #[.slice p xs.length c] w fun e w'=>e=.returned (.tuple #[.int .i64 (getS xs).1,.int .i64 ((getS xs).2.1:Nat),.int .i64 ((getS xs).2.2:Nat)])∧Below w.heap.size w w':=by
  have h2:=Lib.hid (fun (w1:World) (g:Nat) (hlay:laysS g w1) (hlt:g+1<w1.heap.size) (hB:Below w.heap.size w w1) =>
    getS_any p c xs hx hl hm g w1 (hp.below hB (Nat.le_refl _) hB.size) hlay hlt)
  clear hp hx hl hm
  generalize getS xs=r at h2 ⊢
  generalize xs.length=n at h2 ⊢
  go_enter Try.func117,Try.ntmps117
  go_wp2_with fail
  refine (signedEnd_any w).mono ?_
  rintro e w1 ⟨g,rfl,hlay,hge,hlt,hB⟩
  have h3:=Lib.hid (h2.out w1 g hlay hlt hB)
  clear h2 hlay hge hlt
  go_wp2_with fail
  refine h3.out.mono ?_
  rintro e w2 ⟨rfl,hB2⟩
  clear h3
  go_wp2_with fail
  go_ret3
  exact ⟨rfl,hB.trans (hB2.mono hB.size)⟩
end Go.Proofs.Ytbfkgcapkffecaa
