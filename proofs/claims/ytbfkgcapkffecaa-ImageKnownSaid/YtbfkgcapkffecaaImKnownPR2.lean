/- Plain facts: groups put together in a word of 64 bits, from the lowest on and from the highest on, unsigned and signed. Get of package leb: the number at the head of bytes, in every memory. Get and GetSigned of package leb and of the document's answer, in every memory. Instructions: the table as lis -/
import Derived.Test.YtbfkgcapkffecaaImKnownPR1
import Derived.Deep.RegionHeld3
import Derived.Deep.DeepCutAuto
import Derived.Deep.CutBlock
import Derived.Laws.Tables
import Derived.Laws.Rows
import Derived.Below
import Derived.Deep.Draws
import Derived.Laws.AppendOwn
import Derived.Test.YtbfkgcapkffecaaProg
import Derived.WalkKit
import Derived.WalkLawsBesides
import Derived.Outline
import Derived.Lib.Hide
import Derived.LoopTactic
import Derived.Lib.Strings
import Derived.Maps.AppendAt
import Derived.Deep.OwnRows
import Derived.Laws.OwnMore
namespace Go.Proofs.Ytbfkgcapkffecaa
open Go Go.RowKit
theorem valU_take:∀ (l:List Nat) (j:Nat),j<l.length→valU (l.take (j+1))=valU (l.take j)+128 ^ j * (l.getD j 0 % 128)
  | [],j,h=>absurd h (by simp)
  | x :: l,0,_=>by simp [valU]
  | x :: l,j+1,h=>by
    have:=valU_take l j (by simpa using h)
    rw [List.take_succ_cons,valU,this,List.take_succ_cons,valU,Nat.mul_add,Nat.pow_succ]
    simp only [List.getD_cons_succ]
    rw [Nat.mul_comm (128 ^ j) 128,Nat.mul_assoc]
    omega
theorem valU_lt:∀ l:List Nat,valU l<128 ^ l.length
  | []=>by simp [valU]
  | x :: l=>by
    have:=valU_lt l
    rw [valU,List.length_cons,Nat.pow_succ]
    omega
theorem ten (P:Nat→Prop) (h0:P 0) (h1:P 1) (h2:P 2) (h3:P 3) (h4:P 4) (h5:P 5) (h6:P 6) (h7:P 7) (h8:P 8) (h9:P 9):∀ j,j<10→P j:=by
  intro j hj
  have:j=0 ∨ j=1 ∨ j=2 ∨ j=3 ∨ j=4 ∨ j=5 ∨ j=6 ∨ j=7 ∨ j=8 ∨ j=9:=by omega
  rcases this with rfl | rfl | rfl | rfl | rfl | rfl | rfl | rfl | rfl | rfl <;> assumption
theorem joinN (z V j:Nat) (hj:j<10) (hV:V<128 ^ j):V<W64∧V ||| z * 2 ^ (7 * j) % W64=(V+128 ^ j * z) % W64:=by
  revert V
  refine ten (fun j=>∀ V,V<128 ^ j→V<W64∧V ||| z * 2 ^ (7 * j) % W64=(V+128 ^ j * z) % W64) ?_ ?_ ?_ ?_ ?_ ?_ ?_ ?_ ?_ ?_ j hj
  · intro V hV
    simp only [W64,Nat.reducePow,Nat.reduceMul] at hV ⊢
    refine ⟨by omega,?_⟩
    rw [Nat.or_comm,nat_join 0 _ V (by simp only [Nat.reducePow];omega) (by simp only [Nat.reducePow];omega)];omega
  · intro V hV
    simp only [W64,Nat.reducePow,Nat.reduceMul] at hV ⊢
    refine ⟨by omega,?_⟩
    rw [Nat.or_comm,nat_join 7 _ V (by simp only [Nat.reducePow];omega) (by simp only [Nat.reducePow];omega)];omega
  · intro V hV
    simp only [W64,Nat.reducePow,Nat.reduceMul] at hV ⊢
    refine ⟨by omega,?_⟩
    rw [Nat.or_comm,nat_join 14 _ V (by simp only [Nat.reducePow];omega) (by simp only [Nat.reducePow];omega)];omega
  · intro V hV
    simp only [W64,Nat.reducePow,Nat.reduceMul] at hV ⊢
    refine ⟨by omega,?_⟩
    rw [Nat.or_comm,nat_join 21 _ V (by simp only [Nat.reducePow];omega) (by simp only [Nat.reducePow];omega)];omega
  · intro V hV
    simp only [W64,Nat.reducePow,Nat.reduceMul] at hV ⊢
    refine ⟨by omega,?_⟩
    rw [Nat.or_comm,nat_join 28 _ V (by simp only [Nat.reducePow];omega) (by simp only [Nat.reducePow];omega)];omega
  · intro V hV
    simp only [W64,Nat.reducePow,Nat.reduceMul] at hV ⊢
    refine ⟨by omega,?_⟩
    rw [Nat.or_comm,nat_join 35 _ V (by simp only [Nat.reducePow];omega) (by simp only [Nat.reducePow];omega)];omega
  · intro V hV
    simp only [W64,Nat.reducePow,Nat.reduceMul] at hV ⊢
    refine ⟨by omega,?_⟩
    rw [Nat.or_comm,nat_join 42 _ V (by simp only [Nat.reducePow];omega) (by simp only [Nat.reducePow];omega)];omega
  · intro V hV
    simp only [W64,Nat.reducePow,Nat.reduceMul] at hV ⊢
    refine ⟨by omega,?_⟩
    rw [Nat.or_comm,nat_join 49 _ V (by simp only [Nat.reducePow];omega) (by simp only [Nat.reducePow];omega)];omega
  · intro V hV
    simp only [W64,Nat.reducePow,Nat.reduceMul] at hV ⊢
    refine ⟨by omega,?_⟩
    rw [Nat.or_comm,nat_join 56 _ V (by simp only [Nat.reducePow];omega) (by simp only [Nat.reducePow];omega)];omega
  · intro V hV
    simp only [W64,Nat.reducePow,Nat.reduceMul] at hV ⊢
    refine ⟨by omega,?_⟩
    rw [Nat.or_comm,nat_join 63 _ V (by simp only [Nat.reducePow];omega) (by simp only [Nat.reducePow];omega)];omega
theorem u64_wrap_nat (x:Nat):IntKind.u64.wrap (x:Int)=((x % W64:Nat):Int):=by rw [IntKind.wrap_u64];simp only [W64];omega
theorem shl_nat (z j:Nat):(z:Int) * 2 ^ j=((z * 2 ^ j:Nat):Int):=by rw [Int.natCast_mul,Int.natCast_pow];rfl
theorem stepU (z V j:Nat) (hj:j<10) (hz:z<128) (hV:V<128 ^ j) :
    bits .or .u64 ((V % W64:Nat):Int) (IntKind.u64.wrap (IntKind.u64.wrap (z:Int) * 2 ^ (7 * j)))=(((V+128 ^ j * z) % W64:Nat):Int):=by
  obtain ⟨h1,h2⟩:=joinN z V j hj hV
  rw [u64_wrap_nat z,Nat.mod_eq_of_lt (show z<W64 by simp only [W64];omega),Nat.mod_eq_of_lt h1,shl_nat,u64_wrap_nat,u64_or_nat V _ h1 (Nat.mod_lt _ (by decide)),h2]
theorem spareU (V k:Nat) (hk:0<k) (hk1:k≤10) (hV:V<128 ^ k):IntKind.u64.wrap (((V % W64:Nat):Int) * 2 ^ (64 - 7 * k)) / 2 ^ (64 - 7 * k)=((V % W64:Nat):Int):=by
  obtain ⟨j,rfl⟩:∃ j,k=j+1:=⟨k - 1,by omega⟩
  rw [shl_nat,u64_wrap_nat,show ((2:Int) ^ (64 - 7 * (j+1)))=((2 ^ (64 - 7 * (j+1)):Nat):Int) from by rw [Int.natCast_pow];rfl,← Int.natCast_ediv]
  congr 1
  revert V
  refine ten (fun j=>∀ V,V<128 ^ (j+1)→V % W64 * 2 ^ (64 - 7 * (j+1)) % W64 / 2 ^ (64 - 7 * (j+1))=V % W64) ?_ ?_ ?_ ?_ ?_ ?_ ?_ ?_ ?_ ?_ j (by omega) <;> intro V hV <;> simp only [W64,Nat.reducePow,Nat.reduceAdd,Nat.reduceMul,Nat.reduceSub] at hV ⊢ <;> omega
def U (a:Int):Nat:=(a % 18446744073709551616).toNat
theorem U_wrap (a:Int):U (wrap64 a)=U a:=by unfold U;rw [wrap_emod]
theorem U_nat (n:Nat):U (n:Int)=n % W64:=by unfold U;simp only [W64];omega
theorem or_i64 (a b:Int):bits .or .i64 a b=wrap64 ((U a ||| U b:Nat):Int):=by
  show IntKind.i64.wrap ((BitVec.ofInt 64 a ||| BitVec.ofInt 64 b).toNat:Int)=_
  rw [wrap_i64,BitVec.toNat_or,BitVec.toNat_ofInt,BitVec.toNat_ofInt]
  rfl
theorem stepS (z V j:Nat) (hj:j<10) (hz:z<128) (hV:V<128 ^ j) :
    bits .or .i64 (wrap64 (V:Int)) (wrap64 (wrap64 (z:Int) * 2 ^ (7 * j)))=wrap64 ((V+128 ^ j * z:Nat):Int):=by
  obtain ⟨h1,h2⟩:=joinN z V j hj hV
  rw [wrap_id (x:=(z:Int)) (by omega) (by omega),or_i64,U_wrap,U_wrap,shl_nat,U_nat,U_nat,Nat.mod_eq_of_lt h1,h2]
  refine wrap_congr ?_
  simp only [W64]
  omega
theorem spareS (V k:Nat) (S:Int) (hk:0<k) (hk1:k≤10) (hV:V<128 ^ k) (hS:S=V ∨ S=(V:Int) - ((128 ^ k:Nat):Int)) (h1:-((64 * 128 ^ (k - 1):Nat):Int)≤S) (h2:S<((64 * 128 ^ (k - 1):Nat):Int)) :
    wrap64 (wrap64 (V:Int) * 2 ^ (64 - 7 * k)) / 2 ^ (64 - 7 * k)=wrap64 S:=by
  obtain ⟨j,rfl⟩:∃ j,k=j+1:=⟨k - 1,by omega⟩
  rw [show ((2:Int) ^ (64 - 7 * (j+1)))=((2 ^ (64 - 7 * (j+1)):Nat):Int) from by rw [Int.natCast_pow];rfl]
  revert V S
  refine ten (fun j=>∀ (V:Nat) (S:Int),V<128 ^ (j+1)→(S=(V:Int) ∨ S=(V:Int) - ((128 ^ (j+1):Nat):Int))→-((64 * 128 ^ (j+1 - 1):Nat):Int)≤S→S<((64 * 128 ^ (j+1 - 1):Nat):Int) →
    wrap64 (wrap64 (V:Int) * ((2 ^ (64 - 7 * (j+1)):Nat):Int)) / ((2 ^ (64 - 7 * (j+1)):Nat):Int)=wrap64 S) ?_ ?_ ?_ ?_ ?_ ?_ ?_ ?_ ?_ ?_ j (by omega) <;> intro V S hV hS h1 h2 <;>
    simp only [wrap64,Nat.reducePow,Nat.reduceAdd,Nat.reduceMul,Nat.reduceSub] at hV hS h1 h2 ⊢ <;> omega
theorem valS_is:∀ {l:List Nat},oneS l→(valS l=valU l ∨ valS l=(valU l:Int) - ((128 ^ l.length:Nat):Int))∧-((64 * 128 ^ (l.length - 1):Nat):Int)≤valS l∧valS l<((64 * 128 ^ (l.length - 1):Nat):Int)
  | [],h=>h.elim
  | [x],h=>by
    have hx:x<128:=h
    simp only [valS,valU,List.length_singleton,Nat.reduceSub,Nat.pow_zero,Nat.pow_one]
    split <;> omega
  | x :: y :: l,h=>by
    obtain ⟨h1,h2,h3⟩:=valS_is (l:=y :: l) h.2
    simp only [valS,valU,List.length_cons,Nat.add_sub_cancel] at h1 h2 h3 ⊢
    generalize valS (y :: l)=s at h1 h2 h3 ⊢
    rw [Nat.pow_succ 128 (l.length+1)]
    rw [Nat.pow_succ] at h1 ⊢
    generalize 128 ^ l.length=P at h1 h2 h3 ⊢
    generalize valU l=u at h1 ⊢
    omega
end Go.Proofs.Ytbfkgcapkffecaa
namespace Go.Proofs.Ytbfkgcapkffecaa
open Go Go.RowKit
theorem ByIn.take {B:Nat} {w:World} {p:Option Addr} {ns:List Nat} (h:ByIn B w p ns) (k:Nat):ByIn B w p (ns.take k):=by
  intro i hi
  have hk:i<k∧i<ns.length:=by rw [List.length_take] at hi;omega
  obtain ⟨b,off,hp,hlt,hc⟩:=h i hk.2
  refine ⟨b,off,hp,hlt,?_⟩
  rw [hc,List.getD_eq_getElem?_getD,List.getD_eq_getElem?_getD,List.getElem?_take_of_lt hk.1]
abbrev zeros10:Array Value:=#[.int .u8 0,.int .u8 0,.int .u8 0,.int .u8 0,.int .u8 0,.int .u8 0,.int .u8 0,.int .u8 0,.int .u8 0,.int .u8 0]
theorem made10 (w:World):(Instr.makeSlice 28 (.int .i64 0) (.int .i64 10)).run Try.prog w=.ok (.slice (some ⟨w.heap.size,0,none⟩) 0 10) (w.alloc (.cells zeros10 5)):=by kernel_rfl
theorem own10 (w:World):OwnB w.heap.size (w.alloc (.cells zeros10 5)) (.slice (some ⟨w.heap.size,0,none⟩) 0 10) []:=World.ownsRow_made w zeros10 10 (Nat.le_refl _) (by unfold maxLen;omega) rfl
set_option maxRecDepth 100000 in
set_option maxHeartbeats 1000000 in
theorem getU_any (p:Option Addr) (c:Nat) (xs:List Nat) (hx:bytesL xs) (hl:xs.length≤c) (hm:c≤maxLen) (g:Nat) (w:World) (hp:ByIn w.heap.size w p xs) (hlay:laysU g w) (hgs:g+1<w.heap.size) :
    Calls Try.prog 111 #[.slice p xs.length c,endU g] w fun e w'=>e=.returned (.tuple #[.int .u64 ((getU xs).1:Nat),.int .i64 ((getU xs).2.1:Nat),.int .i64 ((getU xs).2.2:Nat)])∧Below w.heap.size w w':=by
  have hmax:=hm
  unfold maxLen at hmax
  have hspan:=span_any p c xs hx (Nat.le_trans hl hm) _ w hp
  have hll:=lead_le xs
  unfold endU
  by_cases h10:10≤lead xs
  · have hk:spanV xs=(0,31):=by unfold spanV;rw [if_pos h10]
    have hg:getU xs=(0,0,31):=by unfold getU;rw [if_pos h10]
    rw [hk] at hspan
    rw [hg]
    have HS:=Lib.hid hspan
    clear hspan hk hg hlay hp hx
    generalize xs.length=n at HS ⊢
    go_enter Try.func111,Try.ntmps111
    go_wp2_with fail
    refine HS.out.mono ?_
    rintro e w' ⟨rfl,rfl⟩
    go_wp2
    go_ret3
    exact ⟨rfl,Below.refl _ _⟩
  · by_cases hend:lead xs=xs.length
    · have hk:spanV xs=(0,30):=by unfold spanV;rw [if_neg h10,if_pos hend]
      have hg:getU xs=(0,0,30):=by unfold getU;rw [if_neg h10,if_pos hend]
      rw [hk] at hspan
      rw [hg]
      have HS:=Lib.hid hspan
      clear hspan hk hg hlay hp hx
      generalize xs.length=n at HS ⊢
      go_enter Try.func111,Try.ntmps111
      go_wp2_with fail
      refine HS.out.mono ?_
      rintro e w' ⟨rfl,rfl⟩
      go_wp2
      go_ret3
      exact ⟨rfl,Below.refl _ _⟩
    · have hk:spanV xs=(((lead xs+1:Nat):Int),0):=by unfold spanV;rw [if_neg h10,if_neg hend]
      rw [hk] at hspan
      have hz:lead xs+1≤xs.length:=by omega
      have hk10:lead xs+1≤10:=by omega
      have hk0:0<lead xs+1:=by omega
      have hget:getU xs=if putU (valU (xs.take (lead xs+1)) % W64)=xs.take (lead xs+1) then (valU (xs.take (lead xs+1)) % W64,lead xs+1,0) else (0,0,31):=by
        unfold getU;rw [if_neg h10,if_neg hend]
      clear hll h10 hend hk
      generalize lead xs+1=k at hspan hz hk10 hk0 hget
      have hrl:(xs.take k).length=k:=by rw [List.length_take];omega
      obtain ⟨row,hrow⟩:∃ row,xs.take k=row:=⟨_,rfl⟩
      have hrb:bytesL row:=by rw [← hrow];exact bytesL_take hx k
      have hrat:∀ j,j<k→row.getD j 0=xs.getD j 0:=fun j hj=>by
        rw [← hrow,List.getD_eq_getElem?_getD,List.getElem?_take_of_lt hj,← List.getD_eq_getElem?_getD]
      rw [hrow] at hrl hget
      have HG:=Lib.hid (And.intro hget (And.intro hrl (And.intro hrat hrb)))
      have HS:=Lib.hid hspan
      have HL:=Lib.hid (And.intro hlay hgs)
      have hki:(k:Int)≤10:=by omega
      obtain ⟨r,hr⟩:∃ r,getU xs=r:=⟨_,rfl⟩
      rw [hr]
      rw [hr] at hget
      have HR:=Lib.hid hget
      clear hget hrl hrat hrb hspan hlay hgs hr hm HG
      have HG:=Lib.hid (And.intro hrow (And.intro (show row.length=k from by rw [← hrow,List.length_take];omega) (And.intro (show ∀ j,j<k→row.getD j 0=xs.getD j 0 from fun j hj=>by
        rw [← hrow,List.getD_eq_getElem?_getD,List.getElem?_take_of_lt hj,← List.getD_eq_getElem?_getD]) (show bytesL row from by rw [← hrow];exact bytesL_take hx k))))
      clear hrow
      go_enter Try.func111,Try.ntmps111
      go_wp2_with fail
      refine HS.out.mono ?_
      rintro e w' ⟨rfl,rfl⟩
      clear HS
      go_wp2_with fail
      go_loop [10,27] (fun n i=>∃ j:Nat,j≤k∧n=.int .u64 ((valU (row.take j) % W64:Nat):Int)∧i=.int .i64 j) (fun _ i=>k - (intOf i).toNat)
      case atStart=>exact ⟨0,by omega,rfl,rfl⟩
      case round =>
        obtain ⟨j,hj,rfl,rfl⟩:=hrel
        by_cases hjk:j<k
        · have hji:(j:Int)<(k:Int):=by omega
          have hj9:(j:Int)<10:=by omega
          obtain ⟨b,off,rfl,hb,hc⟩:=hp j (by omega)
          have hg:=andNot128 (xs.getD j 0) (bytesL_at hx j)
          have hV:=valU_take row j (by rw [HG.out.2.1];exact hjk)
          have hlt:valU (row.take j)<128 ^ j:=by
            have:=valU_lt (row.take j)
            rwa [show (row.take j).length=j from by rw [List.length_take,HG.out.2.1];omega] at this
          have hst:=stepU (xs.getD j 0 % 128) (valU (row.take j)) j (by omega) (Nat.mod_lt _ (by decide)) hlt
          rw [← HG.out.2.2.1 j hjk,← hV,HG.out.2.2.1 j hjk] at hst
          clear hV hlt hp
          obtain ⟨M,hM⟩:∃ M,valU (row.take (j+1)) % W64=M:=⟨_,rfl⟩
          rw [hM] at hst
          have HM:=Lib.hid hM
          clear hM
          generalize valU (row.take j) % W64=m at hst ⊢
          generalize xs.getD j 0=y at hc hg hst
          generalize y % 128=z at hg hst
          go_wp2
          exact ⟨⟨j+1,by omega,by rw [HM.out],by go_num⟩,by simp [intOf];omega⟩
        · have hji:¬ (j:Int)<(k:Int):=by omega
          obtain rfl:j=k:=by omega
          have ht:row.take j=row:=List.take_of_length_le (by rw [HG.out.2.1];omega)
          rw [ht]
          obtain ⟨s,hs⟩:∃ s,64 - 7 * j=s:=⟨_,rfl⟩
          have hsp:max 0 (64 - 7 * (j:Int))=(s:Int):=by omega
          have hsm:(s:Int)<64:=by omega
          have hfin:=spareU (valU row) j hk0 hk10 (by have:=valU_lt row;rwa [HG.out.2.1] at this)
          rw [hs] at hfin
          clear ht hs
          have HM2:=Lib.hid (Nat.mod_lt (valU row) (show 0<W64 by decide))
          generalize valU row % W64=m at hfin HR HM2 ⊢
          have hmk:=made10 w
          have hown:=own10 w
          have hBA:Below w.heap.size w (w.alloc (.cells zeros10 5)):=(Below.refl _ w).alloc (Nat.le_refl _) _
          generalize w.alloc (.cells zeros10 5)=w1 at hmk hown hBA
          have hm64:m<W64:=HM2.out
          have hput:=putU_any g m w.heap.size _ [] (by have:=putU_ten hm64;simp;omega) w1 hown hBA.size hm64 (HL.out.1.below hBA HL.out.2) (by have:=HL.out.2;have:=hBA.size;omega) (by have:=HL.out.2;simp [Value.ownBlock];omega)
          rw [List.nil_append] at hput
          have HP:=Lib.hid hput
          have HIN:=Lib.hid (show ByIn w.heap.size w p row from by rw [← HG.out.1];exact hp.take j)
          clear hput hown hp hx
          go_wp2_with fail
          refine HP.out.mono ?_
          rintro e w2 ⟨v,rfl,hO,hB2⟩
          obtain ⟨q,d,rfl⟩:=hO.slice
          have hB3:=hBA.trans hB2
          have hin:=HIN.out.below (B':=w2.heap.size) hB3 (Nat.le_refl _) hB3.size
          have heq:=equal_any q p d c (putU m) row (putU_bytes m) HG.out.2.2.2 w2.heap.size w2 hO.in hin
          rw [HG.out.2.1] at heq
          have HE:=Lib.hid heq
          clear HP hO hB2 hBA hin heq HIN
          by_cases he:putU m=row
          · rw [decide_eq_true he] at HE
            have hr:=HR.out
            rw [if_pos he] at hr
            subst hr
            clear HR he HG
            go_wp2_with fail
            refine HE.out.mono ?_
            rintro e w3 ⟨rfl,rfl⟩
            clear HE
            go_wp2
            go_ret3
            exact ⟨rfl,hB3⟩
          · rw [decide_eq_false he] at HE
            have hr:=HR.out
            rw [if_neg he] at hr
            subst hr
            clear HR he HG
            go_wp2_with fail
            refine HE.out.mono ?_
            rintro e w3 ⟨rfl,rfl⟩
            clear HE
            go_wp2
            go_ret3
            exact ⟨rfl,hB3⟩
theorem oneS_row:∀ {l:List Nat},bytesL l→lead l<l.length→oneS (l.take (lead l+1))
  | [],_,h=>absurd h (by simp [lead])
  | x :: l,hb,h=>by
    rw [lead] at h ⊢
    split at h
    · rename_i hx
      rw [if_pos hx]
      have hl:lead l<l.length:=by simpa using h
      have ih:=oneS_row (fun y hy=>hb y (List.mem_cons_of_mem _ hy)) hl
      rw [List.take_succ_cons]
      exact oneS_cons hx (hb x (List.mem_cons_self ..)) ih
    · rename_i hx
      rw [if_neg hx]
      show x<128
      omega
set_option maxRecDepth 100000 in
set_option maxHeartbeats 1000000 in
theorem getS_any (p:Option Addr) (c:Nat) (xs:List Nat) (hx:bytesL xs) (hl:xs.length≤c) (hm:c≤maxLen) (g:Nat) (w:World) (hp:ByIn w.heap.size w p xs) (hlay:laysS g w) (hgs:g+1<w.heap.size) :
    Calls Try.prog 120 #[.slice p xs.length c,endS g] w fun e w'=>e=.returned (.tuple #[.int .i64 (getS xs).1,.int .i64 ((getS xs).2.1:Nat),.int .i64 ((getS xs).2.2:Nat)])∧Below w.heap.size w w':=by
  have hmax:=hm
  unfold maxLen at hmax
  have hspan:=span_any p c xs hx (Nat.le_trans hl hm) _ w hp
  have hll:=lead_le xs
  unfold endS
  by_cases h10:10≤lead xs
  · have hk:spanV xs=(0,31):=by unfold spanV;rw [if_pos h10]
    have hg:getS xs=(0,0,31):=by unfold getS;rw [if_pos h10]
    rw [hk] at hspan
    rw [hg]
    have HS:=Lib.hid hspan
    clear hspan hk hg hlay hp hx
    generalize xs.length=n at HS ⊢
    go_enter Try.func120,Try.ntmps120
    go_wp2_with fail
    refine HS.out.mono ?_
    rintro e w' ⟨rfl,rfl⟩
    go_wp2
    go_ret3
    exact ⟨rfl,Below.refl _ _⟩
  · by_cases hend:lead xs=xs.length
    · have hk:spanV xs=(0,30):=by unfold spanV;rw [if_neg h10,if_pos hend]
      have hg:getS xs=(0,0,30):=by unfold getS;rw [if_neg h10,if_pos hend]
      rw [hk] at hspan
      rw [hg]
      have HS:=Lib.hid hspan
      clear hspan hk hg hlay hp hx
      generalize xs.length=n at HS ⊢
      go_enter Try.func120,Try.ntmps120
      go_wp2_with fail
      refine HS.out.mono ?_
      rintro e w' ⟨rfl,rfl⟩
      go_wp2
      go_ret3
      exact ⟨rfl,Below.refl _ _⟩
    · have hk:spanV xs=(((lead xs+1:Nat):Int),0):=by unfold spanV;rw [if_neg h10,if_neg hend]
      rw [hk] at hspan
      have hz:lead xs+1≤xs.length:=by omega
      have hk10:lead xs+1≤10:=by omega
      have hk0:0<lead xs+1:=by omega
      have hget:getS xs=if putS (wrap64 (valS (xs.take (lead xs+1))))=xs.take (lead xs+1) then (wrap64 (valS (xs.take (lead xs+1))),lead xs+1,0) else (0,0,31):=by
        unfold getS;rw [if_neg h10,if_neg hend]
      have hone:oneS (xs.take (lead xs+1)):=oneS_row hx (by omega)
      clear hll h10 hend hk
      generalize lead xs+1=k at hspan hz hk10 hk0 hget hone
      have hrl:(xs.take k).length=k:=by rw [List.length_take];omega
      obtain ⟨row,hrow⟩:∃ row,xs.take k=row:=⟨_,rfl⟩
      have hrb:bytesL row:=by rw [← hrow];exact bytesL_take hx k
      have hrat:∀ j,j<k→row.getD j 0=xs.getD j 0:=fun j hj=>by
        rw [← hrow,List.getD_eq_getElem?_getD,List.getElem?_take_of_lt hj,← List.getD_eq_getElem?_getD]
      rw [hrow] at hrl hget hone
      have HO:=Lib.hid hone
      have HG:=Lib.hid (And.intro hget (And.intro hrl (And.intro hrat hrb)))
      have HS:=Lib.hid hspan
      have HL:=Lib.hid (And.intro hlay hgs)
      have hki:(k:Int)≤10:=by omega
      obtain ⟨r,hr⟩:∃ r,getS xs=r:=⟨_,rfl⟩
      rw [hr]
      rw [hr] at hget
      have HR:=Lib.hid hget
      clear hone hget hrl hrat hrb hspan hlay hgs hr hm HG
      have HG:=Lib.hid (And.intro hrow (And.intro (show row.length=k from by rw [← hrow,List.length_take];omega) (And.intro (show ∀ j,j<k→row.getD j 0=xs.getD j 0 from fun j hj=>by
        rw [← hrow,List.getD_eq_getElem?_getD,List.getElem?_take_of_lt hj,← List.getD_eq_getElem?_getD]) (show bytesL row from by rw [← hrow];exact bytesL_take hx k))))
      clear hrow
      go_enter Try.func120,Try.ntmps120
      go_wp2_with fail
      refine HS.out.mono ?_
      rintro e w' ⟨rfl,rfl⟩
      clear HS
      go_wp2_with fail
      go_loop [10,27] (fun n i=>∃ j:Nat,j≤k∧n=.int .i64 (wrap64 ((valU (row.take j):Nat):Int))∧i=.int .i64 j) (fun _ i=>k - (intOf i).toNat)
      case atStart=>exact ⟨0,by omega,by simp [valU,wrap64],rfl⟩
      case round =>
        obtain ⟨j,hj,rfl,rfl⟩:=hrel
        by_cases hjk:j<k
        · have hji:(j:Int)<(k:Int):=by omega
          have hj9:(j:Int)<10:=by omega
          obtain ⟨b,off,rfl,hb,hc⟩:=hp j (by omega)
          have hg:=andNot128 (xs.getD j 0) (bytesL_at hx j)
          have hV:=valU_take row j (by rw [HG.out.2.1];exact hjk)
          have hlt:valU (row.take j)<128 ^ j:=by
            have:=valU_lt (row.take j)
            rwa [show (row.take j).length=j from by rw [List.length_take,HG.out.2.1];omega] at this
          have hst:=stepS (xs.getD j 0 % 128) (valU (row.take j)) j (by omega) (Nat.mod_lt _ (by decide)) hlt
          rw [← HG.out.2.2.1 j hjk,← hV,HG.out.2.2.1 j hjk] at hst
          clear hV hlt hp
          obtain ⟨M,hM⟩:∃ M,wrap64 ((valU (row.take (j+1)):Nat):Int)=M:=⟨_,rfl⟩
          rw [hM] at hst
          have HM:=Lib.hid hM
          clear hM
          generalize wrap64 ((valU (row.take j):Nat):Int)=m at hst ⊢
          generalize xs.getD j 0=y at hc hg hst
          generalize y % 128=z at hg hst
          go_wp2
          exact ⟨⟨j+1,by omega,by rw [HM.out],by go_num⟩,by simp [intOf];omega⟩
        · have hji:¬ (j:Int)<(k:Int):=by omega
          obtain rfl:j=k:=by omega
          have ht:row.take j=row:=List.take_of_length_le (by rw [HG.out.2.1];omega)
          rw [ht]
          obtain ⟨s,hs⟩:∃ s,64 - 7 * j=s:=⟨_,rfl⟩
          have hsp:max 0 (64 - 7 * (j:Int))=(s:Int):=by omega
          have hsm:(s:Int)<64:=by omega
          have hvs:=valS_is HO.out
          rw [HG.out.2.1] at hvs
          have hfin:=spareS (valU row) j (valS row) hk0 hk10 (by have:=valU_lt row;rwa [HG.out.2.1] at this) hvs.1 hvs.2.1 hvs.2.2
          rw [hs] at hfin
          clear ht hs
          have HM2:=Lib.hid (wrap_le (valS row))
          clear hvs
          generalize wrap64 (valS row)=m at hfin HR HM2
          generalize wrap64 ((valU row:Nat):Int)=m0 at hfin ⊢
          have hmk:=made10 w
          have hown:=own10 w
          have hBA:Below w.heap.size w (w.alloc (.cells zeros10 5)):=(Below.refl _ w).alloc (Nat.le_refl _) _
          generalize w.alloc (.cells zeros10 5)=w1 at hmk hown hBA
          have hm64:=HM2.out
          have hput:=putS_any g m w.heap.size _ [] (by have:=putS_ten hm64.1 hm64.2;simp;omega) w1 hown hBA.size hm64.1 hm64.2 (HL.out.1.below hBA HL.out.2) (by have:=HL.out.2;have:=hBA.size;omega) (by have:=HL.out.2;simp [Value.ownBlock];omega)
          rw [List.nil_append] at hput
          have HP:=Lib.hid hput
          have HIN:=Lib.hid (show ByIn w.heap.size w p row from by rw [← HG.out.1];exact hp.take j)
          clear hput hown hp hx
          go_wp2_with fail
          refine HP.out.mono ?_
          rintro e w2 ⟨v,rfl,hO,hB2⟩
          obtain ⟨q,d,rfl⟩:=hO.slice
          have hB3:=hBA.trans hB2
          have hin:=HIN.out.below (B':=w2.heap.size) hB3 (Nat.le_refl _) hB3.size
          have heq:=equal_any q p d c (putS m) row (putS_bytes m) HG.out.2.2.2 w2.heap.size w2 hO.in hin
          rw [HG.out.2.1] at heq
          have HE:=Lib.hid heq
          clear HP hO hB2 hBA hin heq HIN
          by_cases he:putS m=row
          · rw [decide_eq_true he] at HE
            have hr:=HR.out
            rw [if_pos he] at hr
            subst hr
            clear HR he HG
            go_wp2_with fail
            refine HE.out.mono ?_
            rintro e w3 ⟨rfl,rfl⟩
            clear HE
            go_wp2
            go_ret3
            exact ⟨rfl,hB3⟩
          · rw [decide_eq_false he] at HE
            have hr:=HR.out
            rw [if_neg he] at hr
            subst hr
            clear HR he HG
            go_wp2_with fail
            refine HE.out.mono ?_
            rintro e w3 ⟨rfl,rfl⟩
            clear HE
            go_wp2
            go_ret3
            exact ⟨rfl,hB3⟩
end Go.Proofs.Ytbfkgcapkffecaa
namespace Go.Proofs.Ytbfkgcapkffecaa
open Go Go.RowKit
set_option maxRecDepth 100000 in
theorem Get_any (p:Option Addr) (c:Nat) (xs:List Nat) (hx:bytesL xs) (hl:xs.length≤c) (hm:c≤maxLen) (w:World) (hp:ByIn w.heap.size w p xs) :
    Calls Try.prog 104 #[.slice p xs.length c] w fun e w'=>e=.returned (.tuple #[.int .u64 ((getU xs).1:Nat),.int .i64 ((getU xs).2.1:Nat),.int .i64 ((getU xs).2.2:Nat)])∧Below w.heap.size w w':=by
  have h2:=Lib.hid (fun (w1:World) (g:Nat) (hlay:laysU g w1) (hlt:g+1<w1.heap.size) (hB:Below w.heap.size w w1) =>
    getU_any p c xs hx hl hm g w1 (hp.below hB (Nat.le_refl _) hB.size) hlay hlt)
  clear hp hx hl hm
  generalize getU xs=r at h2 ⊢
  generalize xs.length=n at h2 ⊢
  go_enter Try.func104,Try.ntmps104
  go_wp2_with fail
  refine (unsignedEnd_any w).mono ?_
  rintro e w1 ⟨g,rfl,hlay,hge,hlt,hB⟩
  have h3:=Lib.hid (h2.out w1 g hlay hlt hB)
  clear h2 hlay hge hlt
  go_wp2_with fail
  refine h3.out.mono ?_
  rintro e w2 ⟨rfl,hB2⟩
  clear h3
  go_wp2_with fail
  go_ret3
  exact ⟨rfl,hB.trans (hB2.mono hB.size)⟩
set_option maxRecDepth 100000 in
theorem GetSigned_any (p:Option Addr) (c:Nat) (xs:List Nat) (hx:bytesL xs) (hl:xs.length≤c) (hm:c≤maxLen) (w:World) (hp:ByIn w.heap.size w p xs) :
    Calls Try.prog 117 #[.slice p xs.length c] w fun e w'=>e=.returned (.tuple #[.int .i64 (getS xs).1,.int .i64 ((getS xs).2.1:Nat),.int .i64 ((getS xs).2.2:Nat)])∧Below w.heap.size w w':=by
  have h2:=Lib.hid (fun (w1:World) (g:Nat) (hlay:laysS g w1) (hlt:g+1<w1.heap.size) (hB:Below w.heap.size w w1) =>
    getS_any p c xs hx hl hm g w1 (hp.below hB (Nat.le_refl _) hB.size) hlay hlt)
  clear hp hx hl hm
  generalize getS xs=r at h2 ⊢
  generalize xs.length=n at h2 ⊢
  go_enter Try.func117,Try.ntmps117
  go_wp2_with fail
  refine (signedEnd_any w).mono ?_
  rintro e w1 ⟨g,rfl,hlay,hge,hlt,hB⟩
  have h3:=Lib.hid (h2.out w1 g hlay hlt hB)
  clear h2 hlay hge hlt
  go_wp2_with fail
  refine h3.out.mono ?_
  rintro e w2 ⟨rfl,hB2⟩
  clear h3
  go_wp2_with fail
  go_ret3
  exact ⟨rfl,hB.trans (hB2.mono hB.size)⟩
end Go.Proofs.Ytbfkgcapkffecaa
namespace Go.Proofs.Ytbfkgcapkffecaa
open Go Go.RowKit
def kiL:List Int:=[0,0,0,0,0,0,0,0,0,0,0,0,0,0,0,0,0,0,0,0,0,0,0,0,0,0,0,0,0,0,0,0,1,2,2,3,3,4,4,0,0,0,0,5,5,6,0,7]
def kiI (op:Int):Int:=kiL.getD op.toNat 0
def knI (op:Int):Bool:=decide (1≤op∧op≤17 ∨ 32≤op∧op≤47)
def opdI (op:Int):Bool:=knI op && decide (0<kiI op)
def mayI (op a:Int):Bool:=knI op && (if kiI op=0 then decide (a=0) else decide (kiI op=1) || decide (0≤a))
theorem knI_cases {op:Int} (h:knI op=true):op=1 ∨ op=2 ∨ op=3 ∨ op=4 ∨ op=5 ∨ op=6 ∨ op=7 ∨ op=8 ∨ op=9 ∨ op=10 ∨ op=11 ∨ op=12 ∨ op=13 ∨ op=14 ∨ op=15 ∨ op=16 ∨ op=17 ∨ op=32 ∨ op=33 ∨ op=34 ∨ op=35 ∨ op=36 ∨ op=37 ∨ op=38 ∨ op=39 ∨ op=40 ∨ op=41 ∨ op=42 ∨ op=43 ∨ op=44 ∨ op=45 ∨ op=46 ∨ op=47:=by
  unfold knI at h
  rw [decide_eq_true_iff] at h
  omega
theorem opdI_iff {op:Int} (h:opdI op=true):op=32 ∨ op=33 ∨ op=34 ∨ op=35 ∨ op=36 ∨ op=37 ∨ op=38 ∨ op=43 ∨ op=44 ∨ op=45 ∨ op=47:=by
  unfold opdI at h
  rw [Bool.and_eq_true] at h
  obtain ⟨h1,h2⟩:=h
  rcases knI_cases h1 with rfl | rfl | rfl | rfl | rfl | rfl | rfl | rfl | rfl | rfl | rfl | rfl | rfl | rfl | rfl | rfl | rfl | rfl | rfl | rfl | rfl | rfl | rfl | rfl | rfl | rfl | rfl | rfl | rfl | rfl | rfl | rfl | rfl
  all_goals first
    | omega
    | (exfalso;revert h2;decide)
theorem opdI_not {op:Int} (h:opdI op=false):op ≠ 32∧op ≠ 33∧op ≠ 34∧op ≠ 35∧op ≠ 36∧op ≠ 37∧op ≠ 38∧op ≠ 43∧op ≠ 44∧op ≠ 45∧op ≠ 47:=by
  refine ⟨?_,?_,?_,?_,?_,?_,?_,?_,?_,?_,?_⟩
  all_goals
    rintro rfl
    revert h
    decide
set_option maxRecDepth 100000 in
theorem isKnown_any (op:Int) (w:World):Calls Try.prog 51 #[.int .i64 op] w fun e w'=>e=.returned (.bool (knI op))∧w=w':=by
  by_cases h1:1≤op
  · by_cases h2:op≤17
    · have e:knI op=true:=by unfold knI;rw [decide_eq_true_iff];omega
      rw [e]
      clear e
      go_enter Try.func51,Try.ntmps51
      go_wp2
      go_ret
      exact ⟨rfl,rfl⟩
    · by_cases h3:32≤op
      · by_cases h4:op≤47
        · have e:knI op=true:=by unfold knI;rw [decide_eq_true_iff];omega
          rw [e]
          clear e
          go_enter Try.func51,Try.ntmps51
          go_wp2
          go_ret
          exact ⟨rfl,rfl⟩
        · have e:knI op=false:=by unfold knI;rw [decide_eq_false_iff_not];omega
          rw [e]
          clear e
          go_enter Try.func51,Try.ntmps51
          go_wp2
          go_ret
          exact ⟨rfl,rfl⟩
      · have e:knI op=false:=by unfold knI;rw [decide_eq_false_iff_not];omega
        rw [e]
        clear e
        go_enter Try.func51,Try.ntmps51
        go_wp2
        go_ret
        exact ⟨rfl,rfl⟩
  · have h3:¬ 32≤op:=by omega
    have e:knI op=false:=by unfold knI;rw [decide_eq_false_iff_not];omega
    rw [e]
    clear e
    go_enter Try.func51,Try.ntmps51
    go_wp2
    go_ret
    exact ⟨rfl,rfl⟩
set_option maxRecDepth 100000 in
set_option maxHeartbeats 1000000 in
theorem Operand_any (op:Int) (w:World):Calls Try.prog 52 #[.int .i64 op] w fun e w'=>e=.returned (.bool (opdI op))∧w=w':=by
  cases h:opdI op
  · obtain ⟨n1,n2,n3,n4,n5,n6,n7,n8,n9,n10,n11⟩:=opdI_not h
    clear h
    go_enter Try.func52,Try.ntmps52
    go_wp2
    go_ret
    exact ⟨rfl,rfl⟩
  · rcases opdI_iff h with rfl | rfl | rfl | rfl | rfl | rfl | rfl | rfl | rfl | rfl | rfl
    all_goals
      clear h
      go_enter Try.func52,Try.ntmps52
      go_wp2
      go_ret
      exact ⟨rfl,rfl⟩
abbrev inV (op a:Int):Value:=.agg #[.int .i64 op,.int .i64 a]
theorem mayI_none {op:Int} (h:knI op=false) (a:Int):mayI op a=false:=by unfold mayI;rw [h];rfl
theorem mayI_plain {op:Int} (h:knI op=true) (h2:opdI op=false) (a:Int):mayI op a=decide (a=0):=by
  have h0:kiI op=0:=by
    rcases knI_cases h with rfl | rfl | rfl | rfl | rfl | rfl | rfl | rfl | rfl | rfl | rfl | rfl | rfl | rfl | rfl | rfl | rfl | rfl | rfl | rfl | rfl | rfl | rfl | rfl | rfl | rfl | rfl | rfl | rfl | rfl | rfl | rfl | rfl
    all_goals first
      | rfl
      | (exfalso;revert h2;decide)
  unfold mayI
  rw [h,if_pos h0]
  rfl
theorem mayI_const (a:Int):mayI 32 a=true:=by
  unfold mayI
  rfl
theorem kiI_one {op:Int} (h:kiI op=1):op=32:=by
  by_cases hk:knI op=true
  · rcases knI_cases hk with rfl | rfl | rfl | rfl | rfl | rfl | rfl | rfl | rfl | rfl | rfl | rfl | rfl | rfl | rfl | rfl | rfl | rfl | rfl | rfl | rfl | rfl | rfl | rfl | rfl | rfl | rfl | rfl | rfl | rfl | rfl | rfl | rfl
    all_goals first
      | rfl
      | (exfalso;revert h;decide)
  · exfalso
    unfold kiI at h
    by_cases h2:op.toNat<48
    · have h3:∀ k:Fin 48,kiL.getD k.val 0=1→k.val=32:=by decide
      have:=h3 ⟨op.toNat,h2⟩ h
      apply hk
      unfold knI
      rw [decide_eq_true_iff]
      simp only at this
      omega
    · rw [List.getD_eq_getElem?_getD,List.getElem?_eq_none (by show 48≤_;omega)] at h
      cases h
theorem mayI_unsigned {op:Int} (h2:opdI op=true) (h3:op ≠ 32) (a:Int):mayI op a=decide (0≤a):=by
  have h:=h2
  unfold opdI at h
  rw [Bool.and_eq_true,decide_eq_true_iff] at h
  have h1:¬ kiI op=1:=fun e=>h3 (kiI_one e)
  unfold mayI
  rw [h.1,if_neg (by omega),decide_eq_false h1]
  rfl
set_option maxRecDepth 100000 in
set_option maxHeartbeats 1000000 in
theorem May_any (op a:Int) (w:World):Calls Try.prog 29 #[inV op a] w fun e w'=>e=.returned (.bool (mayI op a))∧Below w.heap.size w w':=by
  have HK:=Lib.hid (isKnown_any op)
  have HO:=Lib.hid (Operand_any op)
  cases hk:knI op
  · rw [mayI_none hk]
    rw [hk] at HK
    clear hk HO
    go_enter Try.func29,Try.ntmps29
    go_wp2_with fail
    refine (HK.out _).mono ?_
    rintro e w1 ⟨rfl,rfl⟩
    go_wp2
    go_ret
    exact ⟨rfl,(Below.refl _ w).alloc (Nat.le_refl _) _⟩
  · rw [hk] at HK
    cases ho:opdI op
    · rw [mayI_plain hk ho]
      rw [ho] at HO
      clear hk ho
      go_enter Try.func29,Try.ntmps29
      go_wp2_with fail
      refine (HK.out _).mono ?_
      rintro e w1 ⟨rfl,rfl⟩
      go_wp2_with fail
      refine (HO.out _).mono ?_
      rintro e w1 ⟨rfl,rfl⟩
      by_cases ha:a=0
      · subst ha
        go_wp2
        go_ret
        exact ⟨rfl,(Below.refl _ w).alloc (Nat.le_refl _) _⟩
      · go_wp2
        go_ret
        refine ⟨?_,(Below.refl _ w).alloc (Nat.le_refl _) _⟩
        simp [ha]
    · rw [ho] at HO
      by_cases h32:op=32
      · subst h32
        rw [mayI_const]
        clear hk ho
        go_enter Try.func29,Try.ntmps29
        go_wp2_with fail
        refine (HK.out _).mono ?_
        rintro e w1 ⟨rfl,rfl⟩
        go_wp2_with fail
        refine (HO.out _).mono ?_
        rintro e w1 ⟨rfl,rfl⟩
        go_wp2
        go_ret
        exact ⟨rfl,(Below.refl _ w).alloc (Nat.le_refl _) _⟩
      · rw [mayI_unsigned ho h32]
        clear hk ho
        go_enter Try.func29,Try.ntmps29
        go_wp2_with fail
        refine (HK.out _).mono ?_
        rintro e w1 ⟨rfl,rfl⟩
        go_wp2_with fail
        refine (HO.out _).mono ?_
        rintro e w1 ⟨rfl,rfl⟩
        by_cases ha:0≤a
        all_goals
          go_wp2
          go_ret
          refine ⟨?_,(Below.refl _ w).alloc (Nat.le_refl _) _⟩
          simp [ha,h32]
end Go.Proofs.Ytbfkgcapkffecaa
namespace Go.Proofs.Ytbfkgcapkffecaa
open Go Go.RowKit
end Go.Proofs.Ytbfkgcapkffecaa
namespace Go.Proofs.Ytbfkgcapkffecaa
open Go Go.RowKit
theorem knI_nat {r:Int} (h:knI r=true):∃ k:Nat,k<48∧r=k:=by
  unfold knI at h
  rw [decide_eq_true_iff] at h
  exact ⟨r.toNat,by omega,by omega⟩
end Go.Proofs.Ytbfkgcapkffecaa
namespace Go.Proofs.Mm
open Go Go.RowKit
structure Chg (S:Nat→Prop) (w w':World):Prop where
  os:w'.os=w.os
  tape:w'.tape=w.tape
  output:w'.output=w.output
  size:w.heap.size≤w'.heap.size
  block:∀ k,k<w.heap.size→¬ S k→w'.heap[k]?=w.heap[k]?
theorem Chg.refl (S:Nat→Prop) (w:World):Chg S w w:=⟨rfl,rfl,rfl,Nat.le_refl _,fun _ _ _=>rfl⟩
theorem Chg.trans {S S':Nat→Prop} {a b c:World} (h:Chg S a b) (k:Chg S' b c) (hs:∀ i,S' i→S i ∨ a.heap.size≤i):Chg S a c :=
  ⟨k.os.trans h.os,k.tape.trans h.tape,k.output.trans h.output,Nat.le_trans h.size k.size,fun i hi hn =>
    (k.block i (Nat.lt_of_lt_of_le hi h.size) (fun e=>by rcases hs i e with q | q <;> first | exact hn q | exact absurd hi (by omega))).trans (h.block i hi hn)⟩
theorem Chg.then {S:Nat→Prop} {a b c:World} (h:Chg S a b) (k:Chg S b c):Chg S a c:=h.trans k fun _ q=>.inl q
theorem Chg.mono {S S':Nat→Prop} {a b:World} (h:Chg S a b) (hs:∀ i,S i→S' i ∨ a.heap.size≤i):Chg S' a b :=
  ⟨h.os,h.tape,h.output,h.size,fun i hi hn=>h.block i hi (fun e=>by rcases hs i e with q | q <;> first | exact hn q | exact absurd hi (by omega))⟩
theorem Chg.drew {S:Nat→Prop} {a w:World} (h:Chg S a w):Chg S a w.drew:=⟨h.os,h.tape,h.output,h.size,h.block⟩
theorem Chg.drewN {S:Nat→Prop} {a w:World} (h:Chg S a w) (n:Nat):Chg S a (w.drewN n):=⟨h.os,h.tape,h.output,h.size,h.block⟩
theorem Chg.alloc {S:Nat→Prop} {a w:World} (h:Chg S a w) (o:Obj):Chg S a (w.alloc o) :=
  h.then ⟨rfl,rfl,rfl,by simp,fun k hk _=>Below.heap_alloc _ _ _ hk⟩
theorem Chg.setCell {S:Nat→Prop} {a w:World} (h:Chg S a w) {p:Addr} (hp:S p.block ∨ a.heap.size≤p.block) (u:Value):Chg S a (w.setCell p u) :=
  h.trans (S':=fun i=>i=p.block) ⟨rfl,rfl,rfl,by simp [World.setCell],fun k _ hk=>Below.heap_setCell _ _ _ _ hk⟩ (fun i e=>by subst e;exact hp)
theorem Chg.below {S:Nat→Prop} {a w:World} (h:Chg S a w) {B:Nat} (hB:B≤a.heap.size) (hS:∀ i,S i→B≤i):Below B a w :=
  ⟨h.os,h.tape,h.output,h.size,fun k hk=>h.block k (by omega) (fun e=>by have:=hS k e;omega)⟩
theorem Below.chg {B:Nat} {a w:World} (h:Below B a w) (hB:a.heap.size≤B) (S:Nat→Prop):Chg S a w :=
  ⟨h.os,h.tape,h.output,h.size,fun k hk _=>h.block k (by omega)⟩
theorem grown_chg {a w:World} {row:Option Nat} (h:a.grownBy w row) {S:Nat→Prop} (hr:∀ k,row=some k→S k ∨ a.heap.size≤k):Chg S a w :=
  ⟨h.os,h.tape,h.output,h.size,fun k hk hn=>h.block k hk (fun e=>by rcases hr k e.symm with q | q <;> first | exact hn q | exact absurd hk (by omega))⟩
theorem Chg.cell {S:Nat→Prop} {a w:World} (h:Chg S a w) {p:Addr} {v:Value} (hc:a.cell? p=some v) (hn:¬ S p.block):w.cell? p=some v :=
  (World.cell?_of_block (h.block _ (World.block_lt_of_cell? _ _ hc) hn)).trans hc
theorem heap_lt {w:World} {b:Nat} {o:Obj} (h:w.heap[b]?=some o):b<w.heap.size:=(Array.getElem?_eq_some_iff.1 h).1
theorem Chg.heap {S:Nat→Prop} {a w:World} (h:Chg S a w) {k:Nat} {o:Obj} (hc:a.heap[k]?=some o) (hn:¬ S k):w.heap[k]?=some o :=
  (h.block k (heap_lt hc) hn).trans hc
abbrev Mem:=Nat→Option Obj
def Has (w:World) (m:Mem):Prop:=∀ k o,m k=some o→w.heap[k]?=some o
def Mem.le (m m':Mem):Prop:=∀ k o,m k=some o→m' k=some o
structure Mem.More (w:World) (m m':Mem):Prop where
  le:m.le m'
  new:∀ k,m k=none→k<w.heap.size→m' k=none
theorem Mem.le.refl (m:Mem):m.le m:=fun _ _ h=>h
theorem Mem.le.trans {a b c:Mem} (h:a.le b) (k:b.le c):a.le c:=fun i o e=>k i o (h i o e)
theorem Mem.More.refl (w:World) (m:Mem):m.More w m:=⟨Mem.le.refl m,fun _ h _=>h⟩
theorem Mem.More.trans {w w':World} {a b c:Mem} (h:a.More w b) (k:b.More w' c) (hw:w.heap.size≤w'.heap.size):a.More w c :=
  ⟨h.le.trans k.le,fun i e hi=>k.new i (h.new i e hi) (by omega)⟩
theorem Mem.More.from {w w':World} {a b:Mem} (h:a.More w' b) (hw:w.heap.size≤w'.heap.size):a.More w b:=⟨h.le,fun i e hi=>h.new i e (by omega)⟩
theorem Has.chg {S:Nat→Prop} {w w':World} {m:Mem} (h:Has w m) (hc:Chg S w w') (hs:∀ k,S k→m k=none):Has w' m:=fun k o e =>
  hc.heap (h k o e) (fun q=>by rw [hs k q] at e;cases e)
theorem Has.lt {w:World} {m:Mem} (h:Has w m) {k:Nat} (hk:w.heap.size≤k):m k=none:=by
  cases e:m k with
  | none=>rfl
  | some o=>have:=heap_lt (h k o e);omega
def Mem.put (m:Mem) (g:Nat) (o:Obj):Mem:=fun k=>if k=g then some o else m k
theorem Mem.put_le {m:Mem} {g:Nat} {o:Obj} (h:m g=none):m.le (m.put g o):=fun k o' e=>by
  unfold Mem.put
  split
  · rename_i e';subst e';rw [h] at e;cases e
  · exact e
theorem Mem.put_same (m:Mem) (g:Nat) (o:Obj):m.put g o g=some o:=by unfold Mem.put;rw [if_pos rfl]
theorem Mem.put_other {m:Mem} {g k:Nat} {o:Obj} (h:k ≠ g):m.put g o k=m k:=by unfold Mem.put;rw [if_neg h]
theorem Has.put {w:World} {m:Mem} {g:Nat} {o:Obj} (h:Has w m) (hg:w.heap[g]?=some o):Has w (m.put g o):=fun k o' e=>by
  unfold Mem.put at e
  split at e
  · rename_i e';subst e';injection e with e;subst e;exact hg
  · exact h k o' e
theorem Mem.More.put {w:World} {m:Mem} {g:Nat} {o:Obj} (h:m g=none) (hg:w.heap.size≤g):m.More w (m.put g o) :=
  ⟨Mem.put_le h,fun k e hk=>by rw [Mem.put_other (by omega)];exact e⟩
def RowM (m:Mem) (E:TypeId) (size:Nat) (v:Value) (n:Nat) (xs:List Value):Prop :=
  xs.length=n * size ∧
  ((v=.slice none 0 0∧n=0) ∨
   ∃ g cap cur,v=.slice (some ⟨g,0,none⟩) n cap∧m g=some (.cells cur E (0,0))∧n≤cap∧cap≤maxLen∧cur.size=cap * size∧cur.toList.take (n * size)=xs)
theorem RowM.le {m m':Mem} {E:TypeId} {size n:Nat} {v:Value} {xs:List Value} (h:RowM m E size v n xs) (hm:m.le m'):RowM m' E size v n xs:=by
  obtain ⟨h1,h2 | ⟨g,cap,cur,h2,h3,h4⟩⟩:=h
  · exact ⟨h1,.inl h2⟩
  · exact ⟨h1,.inr ⟨g,cap,cur,h2,hm _ _ h3,h4⟩⟩
theorem RowM.nil (m:Mem) (E:TypeId) (size:Nat):RowM m E size (.slice none 0 0) 0 []:=⟨by simp,.inl ⟨rfl,rfl⟩⟩
theorem RowM.done {w:World} {m:Mem} {B:Nat} {E:TypeId} {size n:Nat} {v:Value} {xs:List Value} (h:w.ownsRow B E size v n xs) (hm:Has w m) (hv:∀ k,v.ownBlock=some k→m k=none) :
    ∃ m',m.le m'∧(∀ k,m' k ≠ none→m k ≠ none ∨ v.ownBlock=some k)∧Has w m'∧RowM m' E size v n xs:=by
  obtain ⟨h1,⟨rfl,rfl⟩ | ⟨g,cap,cur,rfl,hb,hg,h4⟩⟩:=h
  · exact ⟨m,Mem.le.refl m,fun k h=>.inl h,hm,h1,.inl ⟨rfl,rfl⟩⟩
  · refine ⟨m.put g _,Mem.put_le (hv g rfl),fun k hk=>?_,hm.put hg,h1,.inr ⟨g,cap,cur,rfl,Mem.put_same _ _ _,h4⟩⟩
    by_cases e:k=g
    · subst e;exact .inr rfl
    · rw [Mem.put_other e] at hk;exact .inl hk
theorem RowM.cells {w:World} {m:Mem} {E:TypeId} {size n:Nat} {v:Value} {xs:List Value} (h:RowM m E size v n xs) (hm:Has w m) :
    ∀ j u,xs[j]?=some u→∃ g c,v=.slice (some ⟨g,0,none⟩) n c∧w.cell? ⟨g,j,none⟩=some u∧g<w.heap.size:=by
  intro j u hu
  obtain ⟨h1,⟨rfl,rfl⟩ | ⟨g,cap,cur,rfl,hg,h4,h5,h6,h7⟩⟩:=h
  · have:xs=[]:=List.eq_nil_of_length_eq_zero (by simpa using h1)
    subst this;simp at hu
  · refine ⟨g,cap,rfl,?_,heap_lt (hm _ _ hg)⟩
    rw [cell_of_row w g j cur E (0,0) (hm _ _ hg)]
    rw [← h7,List.getElem?_take] at hu
    split at hu
    · simpa using hu
    · cases hu
end Go.Proofs.Mm
namespace Go.Proofs.Ytbfkgcapkffecaa
open Go Go.RowKit Go.Proofs.Mm
theorem cell_of {w:World} {b j:Nat} {arr:Array Value} {T:TypeId} {v:Value} (h:w.heap[b]?=some (.cells arr T (0,0))) (hv:arr[j]?=some v):w.cell? ⟨b,j,none⟩=some v:=by
  rw [cell_of_row w b j arr T (0,0) h];exact hv
theorem free_of {w:World} {b j:Nat} {arr:Array Value} {T:TypeId} (h:w.heap[b]?=some (.cells arr T (0,0))):w.frozen? ⟨b,j,none⟩=false:=by
  simp [World.frozen?,h]
theorem heap_new (w:World) (o:Obj) {k:Nat} {x:Obj} (h:w.heap[k]?=some x):(w.alloc o).heap[k]?=some x:=by
  rw [Below.heap_alloc _ _ _ (heap_lt h)];exact h
theorem heap_set {w:World} {b:Nat} {arr:Array Value} {T:TypeId} (h:w.heap[b]?=some (.cells arr T (0,0))) (j:Nat) (v:Value):(w.setCell ⟨b,j,none⟩ v).heap[b]?=some (.cells (arr.setIfInBounds j v) T (0,0)):=by
  simp only [World.setCell,Array.getElem?_modify,h,Option.map_some,if_true]
  rfl
theorem heap_other {w:World} {b j k:Nat} {v:Value} {x:Obj} (h:w.heap[k]?=some x) (hn:k ≠ b):(w.setCell ⟨b,j,none⟩ v).heap[k]?=some x:=by
  rw [Below.heap_setCell _ _ _ _ hn];exact h
theorem row_new (W:World) (L:List Value) (T:TypeId):∀ (j:Nat) (u:Value),L[j]?=some u→(W.alloc (.cells L.toArray T)).cell? ((⟨W.heap.size,0,none⟩:Addr).add j)=some u:=by
  intro j u h
  rw [show ((⟨W.heap.size,0,none⟩:Addr).add j)=⟨W.heap.size,j,none⟩ from by unfold Addr.add;split <;> simp_all,World.cell?_alloc_new]
  simpa using h
theorem own_type {w:World} {B n size:Nat} {E:TypeId} {v:Value} {xs:List Value} (h:w.ownsRow B E size v n xs) {k:Nat} (hk:v.ownBlock=some k):∃ cur,w.heap[k]?=some (.cells cur E (0,0)):=by
  rcases h.2 with ⟨rfl,_⟩ | ⟨g,cap,cur,rfl,_,hg,_⟩
  · cases hk
  · obtain rfl:g=k:=by simpa [Value.ownBlock] using hk
    exact ⟨cur,hg⟩
theorem own_chg {w w':World} {B n size:Nat} {E:TypeId} {v:Value} {xs:List Value} (h:w.ownsRow B E size v n xs) {S:Nat→Prop} (hc:Chg S w w') (hn:∀ k,v.ownBlock=some k→¬ S k):w'.ownsRow B E size v n xs:=by
  refine ⟨h.1,?_⟩
  rcases h.2 with h0 | ⟨g,cap,cur,rfl,hb,hg,rest⟩
  · exact .inl h0
  · exact .inr ⟨g,cap,cur,rfl,hb,hc.heap hg (hn g rfl),rest⟩
theorem own_shape {w:World} {B n size:Nat} {E:TypeId} {v:Value} {xs:List Value} (h:w.ownsRow B E size v n xs):∃ q c,v=.slice q n c:=by
  rcases h.2 with ⟨rfl,rfl⟩ | ⟨g,cap,cur,rfl,_⟩
  · exact ⟨_,_,rfl⟩
  · exact ⟨_,_,rfl⟩
def Enc {α:Type} (R:List Value→α→Prop):List Value→List α→Prop
  | cs,[]=>cs=[]
  | cs,x :: xs=>∃ c r,cs=c++r∧R c x∧Enc R r xs
theorem Enc.app {α:Type} {R:List Value→α→Prop}:∀ {xs ys:List α} {cs ds:List Value},Enc R cs xs→Enc R ds ys→Enc R (cs++ds) (xs++ys)
  | [],ys,cs,ds,h,h'=>by
    obtain rfl:cs=[]:=h
    exact h'
  | x :: xs,ys,cs,ds,h,h'=>by
    obtain ⟨c,r,rfl,h1,h2⟩:=h
    exact ⟨c,r++ds,by rw [List.append_assoc],h1,h2.app h'⟩
theorem Enc.one {α:Type} {R:List Value→α→Prop} {c:List Value} {x:α} (h:R c x):Enc R c [x]:=⟨c,[],by simp,h,rfl⟩
theorem Enc.nil {α:Type} {R:List Value→α→Prop}:Enc R [] ([]:List α):=rfl
theorem Enc.mono {α:Type} {R R':List Value→α→Prop} (hR:∀ c x,R c x→R' c x):∀ {xs:List α} {cs:List Value},Enc R cs xs→Enc R' cs xs
  | [],_,h=>h
  | _ :: _,_,⟨c,r,e,h1,h2⟩=>⟨c,r,e,hR _ _ h1,h2.mono hR⟩
end Go.Proofs.Ytbfkgcapkffecaa
namespace Go.Proofs.Ytbfkgcapkffecaa
open Go Go.RowKit Go.Proofs.Mm
structure TmZ where
  kind:Int
  value:Int
  name:ByteArray
structure StZ where
  kind:Int
  name:ByteArray
  targets:List ByteArray
  exprs:List (List TmZ)
instance:Inhabited TmZ:=⟨⟨0,0,⟨#[]⟩⟩⟩
instance:Inhabited StZ:=⟨⟨0,⟨#[]⟩,[],[]⟩⟩
abbrev Cl:=Addr→Option Value
def CLe (C D:Cl):Prop:=∀ a v,C a=some v→D a=some v
theorem CLe.refl (C:Cl):CLe C C:=fun _ _ h=>h
theorem CLe.trans {A B C:Cl} (h:CLe A B) (k:CLe B C):CLe A C:=fun a v e=>k a v (h a v e)
def wC (w:World):Cl:=fun a=>w.cell? a
def mC (m:Mem):Cl:=fun a=>match m a.block with
  | some (.cells cur _ r)=>if a.spot=none∧r=(0,0) then cur[a.off]? else none
  | _=>none
theorem below_cle {w w':World} (h:Below w.heap.size w w'):CLe (wC w) (wC w'):=fun _ _ e=>(h.cell (World.block_lt_of_cell? _ _ e)).trans e
theorem mle_cle {m m':Mem} (h:m.le m'):CLe (mC m) (mC m'):=by
  intro a v e
  unfold mC at e ⊢
  cases hm:m a.block with
  | none=>rw [hm] at e;cases e
  | some o=>rw [hm] at e;rw [h _ _ hm];exact e
theorem has_cle {w:World} {m:Mem} (h:Has w m):CLe (mC m) (wC w):=by
  intro a v e
  obtain ⟨b,o,s⟩:=a
  unfold mC at e
  simp only at e
  cases hm:m b with
  | none=>rw [hm] at e;cases e
  | some ob =>
    rw [hm] at e
    cases ob with
    | cells cur T r =>
      simp only at e
      split at e
      · rename_i hs
        obtain ⟨hs,_⟩:=hs
        subst hs
        unfold wC
        rw [cell_of_row w b o cur T r (h _ _ hm)]
        exact e
      · cases e
    | _=>cases e
def RdO (C:Cl) (q:Option Addr) (cs:List Value):Prop:=cs=[] ∨ ∃ g o,q=some ⟨g,o,none⟩∧∀ j u,cs[j]?=some u→C ⟨g,o+j,none⟩=some u
theorem RdO.le {C D:Cl} {q:Option Addr} {cs:List Value} (h:RdO C q cs) (hc:CLe C D):RdO D q cs:=by
  rcases h with h | ⟨g,o,h1,h2⟩
  · exact .inl h
  · exact .inr ⟨g,o,h1,fun j u hu=>hc _ _ (h2 j u hu)⟩
theorem RdO.left {C:Cl} {q:Option Addr} {cs ds:List Value} (h:RdO C q (cs++ds)):RdO C q cs:=by
  rcases h with h | ⟨g,o,h1,h2⟩
  · exact .inl (List.append_eq_nil_iff.1 h).1
  · exact .inr ⟨g,o,h1,fun j u hu=>h2 j u (by rw [List.getElem?_append_left (by have:=(List.getElem?_eq_some_iff.1 hu).1;exact this)];exact hu)⟩
theorem RowM.rdO {m:Mem} {E:TypeId} {size n c:Nat} {q:Option Addr} {xs:List Value} (h:RowM m E size (.slice q n c) n xs):RdO (mC m) q xs:=by
  obtain ⟨h1,⟨h2,rfl⟩ | ⟨g,cap,cur,h2,h3,h4,h5,h6,h7⟩⟩:=h
  · exact .inl (List.eq_nil_of_length_eq_zero (by simpa using h1))
  · injection h2 with h2 _ _
    refine .inr ⟨g,0,h2,fun j u hu=>?_⟩
    rw [← h7,List.getElem?_take] at hu
    split at hu
    · unfold mC
      simp only [h3,Nat.zero_add]
      simpa using hu
    · cases hu
def SlX {α:Type} (mk:List Value) (bs:Nat) (C:Cl) (R:List Value→α→Prop) (v:Value) (l:List α):Prop :=
  ∃ q c cs,v=.slice q l.length c∧(mk=[] ∨ l.length+1≤c)∧RdO C q (cs++mk)∧Enc R cs l∧l.length * bs≤140737488351232∧c≤maxLen∧(q=none→c=0)∧l.length≤c
theorem SlX.mono {α:Type} {mk:List Value} {bs:Nat} {C D:Cl} {R R':List Value→α→Prop} {v:Value} {l:List α} (h:SlX mk bs C R v l) (hc:CLe C D) (hR:∀ c x,R c x→R' c x):SlX mk bs D R' v l:=by
  obtain ⟨q,c,cs,h1,h2,h3,h4,h5,h6⟩:=h
  exact ⟨q,c,cs,h1,h2,h3.le hc,h4.mono hR,h5,h6⟩
def tmZ (t:TmZ):List Value:=[.int .i64 t.kind,.int .i64 t.value,.string t.name]
def mkS (lt:Bool):List Value:=if lt then [.string ⟨#[109,97,114,107]⟩] else []
def mkT (lt:Bool):List Value:=if lt then [.int .i64 (-71),.int .i64 0,.string ⟨#[]⟩] else []
def mkE (lt:Bool):List Value:=if lt then [.slice none 0 0] else []
def mkB (lt:Bool):List Value:=if lt then [.int .i64 (-71),.string ⟨#[]⟩,.slice none 0 0,.slice none 0 0] else []
def StrR (lt:Bool) (C:Cl) (v:Value) (l:List ByteArray):Prop:=SlX (mkS lt) 16 C (fun c s=>c=[Value.string s]) v l
def TmsR (lt:Bool) (C:Cl) (v:Value) (l:List TmZ):Prop:=SlX (mkT lt) 32 C (fun c t=>c=tmZ t) v l
def ExR1 (lt:Bool) (C:Cl) (c:List Value) (t:List TmZ):Prop:=∃ u,c=[u]∧TmsR lt C u t
def ExsR (lt:Bool) (C:Cl) (v:Value) (l:List (List TmZ)):Prop:=SlX (mkE lt) 24 C (ExR1 lt C) v l
def StR1 (lt:Bool) (C:Cl) (c:List Value) (s:StZ):Prop:=∃ vt ve,c=[.int .i64 s.kind,.string s.name,vt,ve]∧StrR lt C vt s.targets∧ExsR lt C ve s.exprs
def BdR (lt:Bool) (C:Cl) (v:Value) (l:List StZ):Prop:=SlX (mkB lt) 72 C (StR1 lt C) v l
section
variable {lt:Bool} {C D:Cl}
theorem StrR.le {v:Value} {l:List ByteArray} (h:StrR lt C v l) (hc:CLe C D):StrR lt D v l:=SlX.mono h hc fun _ _ e=>e
theorem TmsR.le {v:Value} {l:List TmZ} (h:TmsR lt C v l) (hc:CLe C D):TmsR lt D v l:=SlX.mono h hc fun _ _ e=>e
theorem ExR1.le {c:List Value} {l:List TmZ} (h:ExR1 lt C c l) (hc:CLe C D):ExR1 lt D c l:=let ⟨u,e,k⟩:=h;⟨u,e,k.le hc⟩
theorem ExsR.le {v:Value} {l:List (List TmZ)} (h:ExsR lt C v l) (hc:CLe C D):ExsR lt D v l:=SlX.mono h hc fun _ _ e=>e.le hc
theorem StR1.le {c:List Value} {s:StZ} (h:StR1 lt C c s) (hc:CLe C D):StR1 lt D c s:=let ⟨vt,ve,e,a,b⟩:=h;⟨vt,ve,e,a.le hc,b.le hc⟩
theorem BdR.le {v:Value} {l:List StZ} (h:BdR lt C v l) (hc:CLe C D):BdR lt D v l:=SlX.mono h hc fun _ _ e=>e.le hc
end
theorem encZ_at {α:Type} {R:List Value→α→Prop} {size:Nat} (hR:∀ c x,R c x→c.length=size):∀ {l:List α} {cs:List Value},Enc R cs l→cs.length=l.length * size∧∀ j (h:j<l.length),∃ c,R c l[j]∧∀ r,r<size→cs[j * size+r]?=c[r]?
  | [],cs,he=>by obtain rfl:cs=[]:=he;exact ⟨by simp,fun j h=>absurd h (by simp)⟩
  | x :: l,cs,he=>by
    obtain ⟨c,d,rfl,h1,h2⟩:=he
    have hc:=hR _ _ h1
    obtain ⟨h5,h6⟩:=encZ_at hR h2
    refine ⟨by rw [List.length_append,hc,h5,List.length_cons,Nat.succ_mul];omega,fun j h=>?_⟩
    cases j with
    | zero=>exact ⟨c,h1,fun r hr=>by rw [Nat.zero_mul,Nat.zero_add,List.getElem?_append_left (by omega)]⟩
    | succ j =>
      obtain ⟨c',h3,h4⟩:=h6 j (by simpa using h)
      refine ⟨c',h3,fun r hr=>?_⟩
      rw [show (j+1) * size+r=c.length+(j * size+r) by rw [hc,Nat.succ_mul];omega,List.getElem?_append_right (by omega),Nat.add_sub_cancel_left]
      exact h4 r hr
theorem SlX.at {α:Type} {mk:List Value} {bs:Nat} {C:Cl} {R:List Value→α→Prop} {v:Value} {l:List α} {size:Nat} (h:SlX mk (bs+1) C R v l) (hs:0<size) (hR:∀ c x,R c x→c.length=size) :
    ∃ q c,v=.slice q l.length c∧(mk=[] ∨ l.length+1≤c)∧l.length≤140737488351232∧c≤maxLen ∧
      (∀ j (hj:j<l.length),∃ g o e,q=some ⟨g,o,none⟩∧R e l[j]∧∀ r u,r<size→e[r]?=some u→C ⟨g,o+(j * size+r),none⟩=some u) ∧
      (mk=[] ∨ ∃ g o,q=some ⟨g,o,none⟩∧∀ r u,mk[r]?=some u→C ⟨g,o+(l.length * size+r),none⟩=some u):=by
  obtain ⟨q,c,cs,h1,h2,h3,h4,h5,h6,_⟩:=h
  obtain ⟨hl,ha⟩:=encZ_at hR h4
  refine ⟨q,c,h1,h2,Nat.le_trans (Nat.le_mul_of_pos_right _ (Nat.succ_pos _)) h5,h6,fun j hj=>?_,?_⟩
  · obtain ⟨e,e1,e2⟩:=ha j hj
    have hle:j * size+size≤l.length * size:=by rw [← Nat.succ_mul];exact Nat.mul_le_mul_right _ hj
    rcases h3 with h3 | ⟨g,o,h3,h7⟩
    · have:=(List.append_eq_nil_iff.1 h3).1
      rw [this] at hl
      simp only [List.length_nil] at hl
      omega
    · refine ⟨g,o,e,h3,e1,fun r u hr hu=>h7 _ _ ?_⟩
      rw [List.getElem?_append_left (by omega),e2 r hr]
      exact hu
  · by_cases hm:mk=[]
    · exact .inl hm
    · refine .inr ?_
      rcases h3 with h3 | ⟨g,o,h3,h7⟩
      · exact absurd (List.append_eq_nil_iff.1 h3).2 hm
      · refine ⟨g,o,h3,fun r u hu=>h7 _ _ ?_⟩
        rw [List.getElem?_append_right (by omega),hl,Nat.add_sub_cancel_left]
        exact hu
end Go.Proofs.Ytbfkgcapkffecaa
